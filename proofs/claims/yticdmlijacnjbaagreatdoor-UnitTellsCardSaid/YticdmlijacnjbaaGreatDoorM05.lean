/- ChartMem; ChartFind; UnitMem; MapEntry: texts put together (each begins with what it is). -/
import Derived.Test.YticdmlijacnjbaaGreatDoorM02
import Derived.Test.YticdmlijacnjbaaGreatDoorM03
import Derived.Test.YticdmlijacnjbaaGreatDoorM01
import Derived.Test.YticdmlijacnjbaaGreatDoorProg
import Derived.WalkKit
import Derived.WalkSpells
import Derived.WalkLawsBesides
import Derived.Lib.Hide
import Derived.Lib.SlicesS
import Derived.LoopTactic
import Derived.Deep.LoopGhost
import Derived.Handy
import Derived.Laws.Tables
import Derived.Deep.WholeRow
import Derived.Test.YticdmlijacnjbaaGreatDoorM04
import Derived.WideKeyEntry
import Derived.Maps.Own
import Derived.Maps.OwnOps
import Derived.Maps.Views
/- Accounts and slices of them in memory, over any program: how they read, what keeps them, rows of them that the call itself owns. -/
namespace Go.Proofs.YticdmlijacnjbaaGreatDoor
open Go.RowKit

/-- The account a lies at this place. -/
structure AcctAt (w : World) (b o : Nat) (a : Acct) : Prop where
  c0 : w.cell? ⟨b, o, none⟩ = some (.string a.code)
  c1 : w.cell? ⟨b, o + 1, none⟩ = some (.int .i64 a.cls)
  c2 : w.cell? ⟨b, o + 2, none⟩ = some (.bool a.cash)
  c3 : w.cell? ⟨b, o + 3, none⟩ = some (.bool a.both)
  c4 : w.cell? ⟨b, o + 4, none⟩ = some (.string a.fixed)
  c5 : w.cell? ⟨b, o + 5, none⟩ = some (.bool a.worn)
theorem AcctAt.lt {w : World} {b o : Nat} {a : Acct} (h : AcctAt w b o a) : b < w.heap.size := World.block_lt_of_cell? w _ h.c0
theorem AcctAt.keep {w w' : World} {b o B : Nat} {a : Acct} (h : AcctAt w b o a) (hb : Below B w w') (hB : b < B) : AcctAt w' b o a :=
  ⟨(hb.cell (p := ⟨b, _, none⟩) hB).trans h.c0, (hb.cell (p := ⟨b, _, none⟩) hB).trans h.c1, (hb.cell (p := ⟨b, _, none⟩) hB).trans h.c2, (hb.cell (p := ⟨b, _, none⟩) hB).trans h.c3, (hb.cell (p := ⟨b, _, none⟩) hB).trans h.c4, (hb.cell (p := ⟨b, _, none⟩) hB).trans h.c5⟩
theorem acct_of {w : World} {b o : Nat} {a : Acct} (h : ∀ j v, a.cells[j]? = some v → w.cell? ⟨b, o + j, none⟩ = some v) : AcctAt w b o a :=
  ⟨h 0 _ rfl, h 1 _ rfl, h 2 _ rfl, h 3 _ rfl, h 4 _ rfl, h 5 _ rfl⟩
theorem AcctAt.cell {w : World} {b o : Nat} {a : Acct} (h : AcctAt w b o a) : ∀ (j : Nat) v, a.cells[j]? = some v → w.cell? ⟨b, o + j, none⟩ = some v
  | 0, _, e => by cases e; exact h.c0
  | 1, _, e => by cases e; exact h.c1
  | 2, _, e => by cases e; exact h.c2
  | 3, _, e => by cases e; exact h.c3
  | 4, _, e => by cases e; exact h.c4
  | 5, _, e => by cases e; exact h.c5
  | j + 6, _, e => by simp [Acct.cells] at e
/-- A box that was just laid. -/
theorem acct_new (w : World) (a : Acct) (t : TypeId) : AcctAt (w.alloc (.cells #[.string a.code, .int .i64 a.cls, .bool a.cash, .bool a.both, .string a.fixed, .bool a.worn] t)) w.heap.size 0 a :=
  acct_of fun j v hj => by
    rw [Nat.zero_add, cell_of_row _ w.heap.size j _ t (0, 0) (heap_alloc_new w _)]
    simpa [Acct.cells] using hj

/-- In the world w the slice value v reads as the accounts L. -/
def ChartV (w : World) (v : Value) (L : List Acct) : Prop :=
  ∃ p c, v = .slice p L.length c ∧ L.length ≤ c ∧ c ≤ maxLen ∧ (p = none → c = 0) ∧ ∀ (i : Nat) (x : Acct), L[i]? = some x → ∃ b o, p = some ⟨b, o, none⟩ ∧ AcctAt w b (o + i * 6) x
theorem ChartV.nil (w : World) : ChartV w (.slice none 0 0) [] := ⟨none, 0, rfl, by simp, by simp, fun _ => rfl, fun i x h => by simp at h⟩
theorem ChartV.keep {w w' : World} {v : Value} {L : List Acct} (h : ChartV w v L) (hb : Below w.heap.size w w') : ChartV w' v L := by
  obtain ⟨a, c, e, h1, h2, h3, hc⟩ := h
  exact ⟨a, c, e, h1, h2, h3, fun i x hx => by
    obtain ⟨b, o, ea, hx'⟩ := hc i x hx
    exact ⟨b, o, ea, hx'.keep hb hx'.lt⟩⟩

/-- The cells of accounts. -/
def flatA (L : List Acct) : List Value := L.flatMap Acct.cells
theorem flatA_cons (a : Acct) (L : List Acct) : flatA (a :: L) = a.cells ++ flatA L := rfl
theorem flatA_append (L M : List Acct) : flatA (L ++ M) = flatA L ++ flatA M := by simp [flatA]
theorem flatA_length (L : List Acct) : (flatA L).length = L.length * 6 := by
  induction L with
  | nil => rfl
  | cons a L ih => rw [flatA_cons]; simp [ih, Acct.cells]; omega
theorem flatA_at : ∀ (L : List Acct) (i : Nat) (x : Acct), L[i]? = some x → ∀ (j : Nat) v, x.cells[j]? = some v → (flatA L)[i * 6 + j]? = some v
  | [], i, x, h => by simp at h
  | y :: L, 0, x, h => by
    simp at h
    subst h
    intro j v hj
    have : j < y.cells.length := (List.getElem?_eq_some_iff.1 hj).1
    rw [flatA_cons, Nat.zero_mul, Nat.zero_add, List.getElem?_append_left this]; exact hj
  | y :: L, i + 1, x, h => fun j v hj => by
    have ih := flatA_at L i x (by simpa using h) j v hj
    rw [flatA_cons, show (i + 1) * 6 + j = y.cells.length + (i * 6 + j) by simp [Acct.cells]; omega, List.getElem?_append_right (by omega)]
    simpa using ih
theorem flatA_of {L : List Acct} {k : Nat} {v : Value} (h : (flatA L)[k]? = some v) : ∃ x, L[k / 6]? = some x ∧ x.cells[k % 6]? = some v := by
  have hk : k < L.length * 6 := by rw [← flatA_length]; exact (List.getElem?_eq_some_iff.1 h).1
  have hi : k / 6 < L.length := by omega
  refine ⟨L[k / 6], List.getElem?_eq_getElem hi, ?_⟩
  have hj : k % 6 < (L[k / 6]).cells.length := by simp [Acct.cells]; omega
  have := flatA_at L (k / 6) _ (List.getElem?_eq_getElem hi) (k % 6) _ (List.getElem?_eq_getElem hj)
  rw [show k / 6 * 6 + k % 6 = k by omega, h] at this
  rw [List.getElem?_eq_getElem hj, this]
theorem flatA_one (L : List Acct) : ∀ v ∈ flatA L, v.oneCell' = true := by
  intro v hv
  obtain ⟨a, _, ha⟩ := List.mem_flatMap.1 hv
  simp [Acct.cells] at ha
  rcases ha with rfl | rfl | rfl | rfl | rfl | rfl <;> rfl
theorem flatA_take (L : List Acct) (k : Nat) : flatA (L.take k) = (flatA L).take (k * 6) := by
  induction L generalizing k with
  | nil => simp [flatA]
  | cons a L ih =>
    cases k with
    | zero => simp [flatA]
    | succ k =>
      rw [List.take_succ_cons, flatA_cons, flatA_cons, ih, List.take_append]
      have : a.cells.length = 6 := rfl
      rw [this, show (k + 1) * 6 - 6 = k * 6 by omega, List.take_of_length_le (l := a.cells) (by rw [this]; omega)]
theorem flatA_drop (L : List Acct) (k : Nat) : flatA (L.drop k) = (flatA L).drop (k * 6) := by
  induction L generalizing k with
  | nil => simp [flatA]
  | cons a L ih =>
    cases k with
    | zero => simp
    | succ k =>
      rw [List.drop_succ_cons, flatA_cons, ih, List.drop_append]
      have : a.cells.length = 6 := rfl
      rw [this, show (k + 1) * 6 - 6 = k * 6 by omega, List.drop_of_length_le (l := a.cells) (by rw [this]; omega), List.nil_append]
/-- The cells of a chart, one behind the other. -/
theorem ChartV.cells {w : World} {p : Option Addr} {n c : Nat} {L : List Acct} (h : ChartV w (.slice p n c) L) (hL : L ≠ []) : ∃ b o, p = some ⟨b, o, none⟩ ∧ b < w.heap.size ∧ ∀ (j : Nat) v, (flatA L)[j]? = some v → w.cell? ⟨b, o + j, none⟩ = some v := by
  obtain ⟨p', c', e, _, _, _, hc⟩ := h
  cases e
  cases L with
  | nil => exact absurd rfl hL
  | cons a L =>
    obtain ⟨b, o, rfl, h0⟩ := hc 0 a rfl
    refine ⟨b, o, rfl, h0.lt, fun j v hj => ?_⟩
    obtain ⟨x, hx, hv⟩ := flatA_of hj
    obtain ⟨b', o', e', h1⟩ := hc _ x hx
    cases e'
    have := h1.cell _ v hv
    rwa [Nat.add_assoc, show j / 6 * 6 + j % 6 = j by omega] at this
/-- A row of accounts of the call's own reads as they are. -/
theorem chart_of_own {w : World} {B : Nat} {e : TypeId} {v : Value} {L : List Acct} (h : w.ownsRow B e 6 v L.length (flatA L)) : ChartV w v L := by
  have h0 := h
  rcases h.2 with ⟨rfl, hn⟩ | ⟨g, cap, cur, rfl, _, _, hnc, hcm, _⟩
  · have : L = [] := List.eq_nil_of_length_eq_zero hn
    subst this
    exact ChartV.nil w
  · refine ⟨_, cap, rfl, hnc, hcm, (fun e => by cases e), fun i x hx => ⟨g, 0, rfl, acct_of fun j u hj => ?_⟩⟩
    have := h0.cells (g := g) rfl _ _ (flatA_at L i x hx j u hj)
    rwa [add_off, ← Nat.add_assoc] at this
end Go.Proofs.YticdmlijacnjbaaGreatDoor
/- The walks of chart.Find, chart.below and of the statements' own check 'few': what the plain facts say; what was there stays. -/
namespace Go.Proofs.YticdmlijacnjbaaGreatDoor
open Go.RowKit

/-- A box of an account that may be written. -/
def BoxA (w : World) (b : Nat) (t : TypeId) (a : Acct) : Prop := w.heap[b]? = some (.cells #[.string a.code, .int .i64 a.cls, .bool a.cash, .bool a.both, .string a.fixed, .bool a.worn] t (0, 0))
theorem BoxA.keep {w w' : World} {b B : Nat} {t : TypeId} {a : Acct} (h : BoxA w b t a) (hb : Below B w w') (hB : b < B) : BoxA w' b t a := (hb.block b hB).trans h
theorem BoxA.new (w : World) (a : Acct) (t : TypeId) : BoxA (w.alloc (.cells #[.string a.code, .int .i64 a.cls, .bool a.cash, .bool a.both, .string a.fixed, .bool a.worn] t)) w.heap.size t a := heap_alloc_new w _
theorem BoxA.at0 {w : World} {b : Nat} {t : TypeId} {a : Acct} (h : BoxA w b t a) : AcctAt w b 0 a :=
  acct_of fun j v hj => by rw [Nat.zero_add, cell_of_row _ b j _ t (0, 0) h]; simpa [Acct.cells] using hj
theorem BoxA.facts {w : World} {b : Nat} {t : TypeId} {a : Acct} (h : BoxA w b t a) :
    w.cell? ⟨b, 0, none⟩ = some (.string a.code) ∧ w.cell? ⟨b, 1, none⟩ = some (.int .i64 a.cls) ∧ w.cell? ⟨b, 2, none⟩ = some (.bool a.cash) ∧ w.cell? ⟨b, 3, none⟩ = some (.bool a.both) ∧ w.cell? ⟨b, 4, none⟩ = some (.string a.fixed) ∧ w.cell? ⟨b, 5, none⟩ = some (.bool a.worn) :=
  ⟨h.at0.c0, h.at0.c1, h.at0.c2, h.at0.c3, h.at0.c4, h.at0.c5⟩
theorem BoxA.set {w : World} {b : Nat} {t : TypeId} {a : Acct} (h : BoxA w b t a) (x : Acct) : BoxA (w.setRow b #[.string x.code, .int .i64 x.cls, .bool x.cash, .bool x.both, .string x.fixed, .bool x.worn]) b t x := setRow_heap w b _ _ t _ h
theorem acct_one (a : Acct) : (#[.string a.code, .int .i64 a.cls, .bool a.cash, .bool a.both, .string a.fixed, .bool a.worn] : Array Value).all (·.oneCell') = true := by simp [Value.oneCell']
theorem grownBy_setRow (w : World) (g : Nat) (cs : Array Value) : w.grownBy (w.setRow g cs) (some g) :=
  ⟨rfl, rfl, rfl, by simp [World.setRow], fun k _ hk => setRow_other w g k cs (fun e => hk (by rw [e]))⟩
/-- An account stored into a box. -/
theorem wpList_store_acct {P : Program} {ops : Array Oper} {rest : List Oper} {o : Oper} {act : Act} {w : World} {Q : Exit → Act → World → Prop} (hgd : o.guard = none) (ty : TypeId) (x y : Operand) (ho : o.op = .store ty x y)
    (g : Nat) (z a : Acct) (t : TypeId) (hx : act.eval x = .pointer (some ⟨g, 0, none⟩)) (hy : act.eval y = .agg #[.string a.code, .int .i64 a.cls, .bool a.cash, .bool a.both, .string a.fixed, .bool a.worn]) (hg : BoxA w g t z) (hi : (P.info? ty).map (·.size) = some 6)
    (h : ∀ w', BoxA w' g t a → w.grownBy w' (some g) → wpList P ops Q rest (act.put o.dst undef) w') : wpList P ops Q (o :: rest) act w :=
  wpList_store_row hgd ty x y ho g _ hx hy t _ hg hi rfl (acct_one a) (h _ (hg.set a) (grownBy_setRow w g _))
abbrev aggF (a : Acct) : Value := .agg #[.string a.code, .int .i64 a.cls, .bool a.cash, .bool a.both, .string a.fixed, .bool a.worn]
/-- What Find tells. -/
def findV (o : Option Acct) : Acct := o.getD zeroA
set_option maxRecDepth 100000 in
set_option maxHeartbeats 2000000 in
theorem find_any (v : Value) (L : List Acct) (code : ByteArray) (w : World) (h : ChartV w v L) :
    Calls Tryz.prog 86 #[v, .string code] w fun e w' => e = .returned (.tuple #[aggF (findV (findL L code)), .bool (findL L code).isSome]) ∧ Below w.heap.size w w' := by
  obtain ⟨a, c, rfl, hcap, hm, _, hc⟩ := h
  obtain ⟨n, hn⟩ : ∃ n, L.length = n := ⟨_, rfl⟩
  obtain ⟨r, hr⟩ : ∃ r, findL L code = r := ⟨_, rfl⟩
  rw [hn] at hcap ⊢
  rw [hr]
  have HC := Lib.hid hc
  have HN := Lib.hid hn
  have HR := Lib.hid hr
  unfold maxLen at hm
  clear hc hn hr
  obtain ⟨R, hR⟩ : ∃ R, findV r = R := ⟨_, rfl⟩
  obtain ⟨S, hS⟩ : ∃ S, r.isSome = S := ⟨_, rfl⟩
  rw [hR, hS]
  have HRV := Lib.hid hR
  have HSV := Lib.hid hS
  clear hR hS
  have HB0 := Lib.hid ((Below.refl w.heap.size w).alloc (Nat.le_refl _) (.cells #[.string ⟨#[]⟩, .int .i64 0, .bool false, .bool false, .string ⟨#[]⟩, .bool false] 89))
  have HC0 := Lib.hid (BoxA.new w zeroA 89)
  go_enter Tryz.func86, Tryz.ntmps86
  go_wp2
  go_loopw [10] (fun s10 wr => ∃ i : Nat, i ≤ n ∧ s10 = .int .i64 (i : Int) ∧ Below w.heap.size w wr ∧ w.heap.size < wr.heap.size ∧ BoxA wr w.heap.size 89 zeroA ∧ Hid (∀ (j : Nat) (y : Acct), j < i → L[j]? = some y → y.code ≠ code)) (fun s10 _ => n - (intOf s10).toNat)
  case atStart => exact ⟨0, Nat.zero_le _, rfl, HB0.out, by simp, HC0.out, Lib.hid fun j y hj => absurd hj (Nat.not_lt_zero _)⟩
  case round =>
    obtain ⟨i, hi, rfl, hnx, hsz, hbox, HNO⟩ := hrel
    by_cases hlt : i < n
    · obtain ⟨x, hx⟩ : ∃ x, L[i]? = some x := ⟨_, List.getElem?_eq_getElem (by rw [HN.out]; exact hlt)⟩
      obtain ⟨b, o, rfl, hat⟩ := HC.out i x hx
      obtain ⟨c0, c1, c2, c3, c4, c5⟩ := hat.keep hnx hat.lt
      have HX := Lib.hid hx
      have HBX := Lib.hid hbox
      have HNX := Lib.hid (hnx.alloc (Nat.le_of_lt hsz) (.cells #[.string x.code, .int .i64 x.cls, .bool x.cash, .bool x.both, .string x.fixed, .bool x.worn] 89))
      have HBN := Lib.hid (hbox.keep ((Below.refl wr.heap.size wr).alloc (Nat.le_refl _) (.cells #[.string x.code, .int .i64 x.cls, .bool x.cash, .bool x.both, .string x.fixed, .bool x.worn] 89)) hsz)
      have HSZ := Lib.hid hsz
      clear hx hbox hat
      cases hxe : (x.code.toList == code.toList) with
      | false =>
        have HXE := Lib.hid ((Lib.bytes_beq_false_iff x.code code).1 hxe)
        go_wp2
        go_roundw
        case rel => exact ⟨i + 1, by omega, by go_num, HNX.out, by simp; omega, HBN.out, Lib.hid fun j y hj hy => by
          rcases Nat.lt_or_ge j i with h | h
          · exact HNO.out j y h hy
          · obtain rfl : j = i := by omega
            rw [HX.out] at hy; cases hy; exact HXE.out⟩
        case measure => simp [intOf]; omega
      | true =>
        have HXE := Lib.hid ((Lib.bytes_beq_iff x.code code).1 hxe)
        have hres : Hid (r = some x) := Lib.hid (by rw [← HR.out]; exact find_at HNO.out HX.out HXE.out)
        go_wp2_with (refine wpList_store_acct rfl 89 (.tmp 4) (.tmp 18) rfl w.heap.size zeroA x 89 rfl rfl HBN.out (by kernel_rfl) ?_; intro w2 hb2 hg2)
        have HF := Lib.hid (HNX.out.grown hg2 HNX.out.size (fun j hj => by cases hj; exact Nat.le_refl _))
        obtain ⟨d0, d1, d2, d3, d4, d5⟩ := hb2.facts
        clear hb2 hg2
        refine bodyPost_ret (v := .tuple #[aggF x, .bool true]) (by simp [results, Tryz.results86, go_sem, d0, d1, d2, d3, d4, d5]) rfl ⟨?_, HF.out⟩
        rw [← HRV.out, ← HSV.out, hres.out]; rfl
    · have hres : Hid (r = none) := Lib.hid (by
        rw [← HR.out]
        refine find_none fun j y hy => HNO.out j y ?_ hy
        have := (List.getElem?_eq_some_iff.1 hy).1
        rw [HN.out] at this; omega)
      have HNX := Lib.hid hnx
      go_wp2_with (refine wpList_store_acct rfl 89 (.tmp 4) (.tmp 20) rfl w.heap.size zeroA zeroA 89 rfl rfl hbox (by kernel_rfl) ?_; intro w2 hb2 hg2)
      have HF := Lib.hid (HNX.out.grown hg2 HNX.out.size (fun j hj => by cases hj; exact Nat.le_refl _))
      obtain ⟨d0, d1, d2, d3, d4, d5⟩ := hb2.facts
      clear hb2 hg2
      refine bodyPost_ret (v := .tuple #[aggF zeroA, .bool false]) (by simp [results, Tryz.results86, go_sem, d0, d1, d2, d3, d4, d5]) rfl ⟨?_, HF.out⟩
      rw [← HRV.out, ← HSV.out, hres.out]; rfl
end Go.Proofs.YticdmlijacnjbaaGreatDoor
/- Master data in memory: four slices and five texts; a box of them; what keeps them. -/
namespace Go.Proofs.YticdmlijacnjbaaGreatDoor.Un
open Go.RowKit

/-- Slices read as master data. -/
structure MastIn (w : World) (c f e l : Value) (M : Mast) : Prop where
  chart : ChartV w c M.chart
  flows : Fl.FlowsV w f M.flows
  ents : ElsV encE w e M.ents
  lines : ElsV encL w l M.lines
theorem MastIn.keep {w w' : World} {c f e l : Value} {M : Mast} (h : MastIn w c f e l M) (hb : Below w.heap.size w w') : MastIn w' c f e l M :=
  ⟨h.chart.keep hb, h.flows.keep hb, h.ents.keep hb, h.lines.keep hb⟩
theorem MastIn.zero (w : World) : MastIn w (.slice none 0 0) (.slice none 0 0) (.slice none 0 0) (.slice none 0 0) zeroM :=
  ⟨ChartV.nil _, ElsV.nil _, ElsV.nil _, ElsV.nil _⟩
/-- The nine cells. -/
abbrev cellsM (c f e l : Value) (M : Mast) : Array Value := #[c, f, e, l, .string M.cur, .string M.res, .string M.dif, .string M.min, .string M.stk]
abbrev aggM (c f e l : Value) (M : Mast) : Value := .agg #[c, f, e, l, .string M.cur, .string M.res, .string M.dif, .string M.min, .string M.stk]
/-- A value that is master data. -/
def MastV (w : World) (v : Value) (M : Mast) : Prop := ∃ c f e l, v = aggM c f e l M ∧ MastIn w c f e l M
/-- What a call tells that hands master data and a number back. -/
def MastTold (w : World) (M : Mast) (n : Int) (en : Ending) (w' : World) : Prop := ∃ v, en = .returned (.tuple #[v, .int .i64 n]) ∧ MastV w' v M ∧ Below w.heap.size w w'
theorem MastV.keep {w w' : World} {v : Value} {M : Mast} (h : MastV w v M) (hb : Below w.heap.size w w') : MastV w' v M := by
  obtain ⟨c, f, e, l, rfl, h⟩ := h
  exact ⟨c, f, e, l, rfl, h.keep hb⟩
/-- The nine cells at a place of a block. -/
structure NineAt (w : World) (b : Nat) (c f e l : Value) (M : Mast) : Prop where
  c0 : w.cell? ⟨b, 0, none⟩ = some c
  c1 : w.cell? ⟨b, 1, none⟩ = some f
  c2 : w.cell? ⟨b, 2, none⟩ = some e
  c3 : w.cell? ⟨b, 3, none⟩ = some l
  c4 : w.cell? ⟨b, 4, none⟩ = some (.string M.cur)
  c5 : w.cell? ⟨b, 5, none⟩ = some (.string M.res)
  c6 : w.cell? ⟨b, 6, none⟩ = some (.string M.dif)
  c7 : w.cell? ⟨b, 7, none⟩ = some (.string M.min)
  c8 : w.cell? ⟨b, 8, none⟩ = some (.string M.stk)
theorem NineAt.lt {w : World} {b : Nat} {c f e l : Value} {M : Mast} (h : NineAt w b c f e l M) : b < w.heap.size := World.block_lt_of_cell? w _ h.c0
theorem NineAt.keep {w w' : World} {b B : Nat} {c f e l : Value} {M : Mast} (h : NineAt w b c f e l M) (hb : Below B w w') (hB : b < B) : NineAt w' b c f e l M :=
  ⟨(hb.cell (p := ⟨b, _, none⟩) hB).trans h.c0, (hb.cell (p := ⟨b, _, none⟩) hB).trans h.c1, (hb.cell (p := ⟨b, _, none⟩) hB).trans h.c2, (hb.cell (p := ⟨b, _, none⟩) hB).trans h.c3, (hb.cell (p := ⟨b, _, none⟩) hB).trans h.c4, (hb.cell (p := ⟨b, _, none⟩) hB).trans h.c5, (hb.cell (p := ⟨b, _, none⟩) hB).trans h.c6, (hb.cell (p := ⟨b, _, none⟩) hB).trans h.c7, (hb.cell (p := ⟨b, _, none⟩) hB).trans h.c8⟩
theorem NineAt.kept {w w' : World} {b : Nat} {c f e l : Value} {M : Mast} (h : NineAt w b c f e l M) (hb : Below w.heap.size w w') : NineAt w' b c f e l M := h.keep hb h.lt
theorem nine_of {w : World} {b : Nat} {t : TypeId} {c f e l : Value} {M : Mast} {more : List Value} {fr : Nat × Nat} (h : w.heap[b]? = some (.cells ([c, f, e, l, .string M.cur, .string M.res, .string M.dif, .string M.min, .string M.stk] ++ more).toArray t fr)) : NineAt w b c f e l M := by
  have hc := fun i => cell_of_row w b i _ t fr h
  exact ⟨(hc 0).trans rfl, (hc 1).trans rfl, (hc 2).trans rfl, (hc 3).trans rfl, (hc 4).trans rfl, (hc 5).trans rfl, (hc 6).trans rfl, (hc 7).trans rfl, (hc 8).trans rfl⟩
/-- A box that was just laid. -/
theorem nine_new (w : World) (c f e l : Value) (M : Mast) (t : TypeId) : NineAt (w.alloc (.cells (cellsM c f e l M) t)) w.heap.size c f e l M :=
  nine_of (more := []) (heap_alloc_new w _)
/-- A box of master data that may be written. -/
def BoxM (w : World) (b : Nat) (t : TypeId) (c f e l : Value) (M : Mast) : Prop := w.heap[b]? = some (.cells (cellsM c f e l M) t (0, 0))
theorem BoxM.new (w : World) (c f e l : Value) (M : Mast) (t : TypeId) : BoxM (w.alloc (.cells (cellsM c f e l M) t)) w.heap.size t c f e l M := heap_alloc_new w _
theorem BoxM.lt {w : World} {b : Nat} {t : TypeId} {c f e l : Value} {M : Mast} (h : BoxM w b t c f e l M) : b < w.heap.size := (Array.getElem?_eq_some_iff.1 h).1
theorem BoxM.keep {w w' : World} {b B : Nat} {t : TypeId} {c f e l : Value} {M : Mast} (h : BoxM w b t c f e l M) (hb : Below B w w') (hB : b < B) : BoxM w' b t c f e l M := (hb.block b hB).trans h
theorem BoxM.kept {w w' : World} {b : Nat} {t : TypeId} {c f e l : Value} {M : Mast} (h : BoxM w b t c f e l M) (hb : Below w.heap.size w w') : BoxM w' b t c f e l M := h.keep hb h.lt
theorem BoxM.nine {w : World} {b : Nat} {t : TypeId} {c f e l : Value} {M : Mast} (h : BoxM w b t c f e l M) : NineAt w b c f e l M := nine_of (more := []) h
/-- Each of them one cell. -/
structure Ones (c f e l : Value) : Prop where
  c : c.oneCell' = true
  f : f.oneCell' = true
  e : e.oneCell' = true
  l : l.oneCell' = true
theorem ones_of {w : World} {c f e l : Value} {M : Mast} (h : MastIn w c f e l M) : Ones c f e l := by
  obtain ⟨p0, k0, rfl, _⟩ := h.chart
  obtain ⟨p1, k1, rfl, _⟩ := h.flows
  obtain ⟨p2, k2, rfl, _⟩ := h.ents
  obtain ⟨p3, k3, rfl, _⟩ := h.lines
  exact ⟨rfl, rfl, rfl, rfl⟩
/-- Master data stored into a box. -/
theorem wpList_store_mast {P : Program} {ops : Array Oper} {rest : List Oper} {o : Oper} {act : Act} {w : World} {Q : Exit → Act → World → Prop} (hgd : o.guard = none) (ty : TypeId) (x y : Operand) (ho : o.op = .store ty x y)
    (g : Nat) (c0 f0 e0 l0 c f e l : Value) (M0 M : Mast) (t : TypeId) (hx : act.eval x = .pointer (some ⟨g, 0, none⟩)) (hy : act.eval y = aggM c f e l M) (hg : BoxM w g t c0 f0 e0 l0 M0) (h1 : Ones c f e l) (hi : (P.info? ty).map (·.size) = some 9)
    (h : ∀ w', BoxM w' g t c f e l M → w.grownBy w' (some g) → wpList P ops Q rest (act.put o.dst undef) w') : wpList P ops Q (o :: rest) act w :=
  wpList_store_row hgd ty x y ho g _ hx hy t _ hg hi rfl (by have hs : ∀ s, (Value.string s).oneCell' = true := fun _ => rfl; simp [h1.c, h1.f, h1.e, h1.l, hs]) (h _ (setRow_heap w g _ _ t _ hg) (grownBy_set w g _))

/-! ### Roles -/
structure Role where
  head : ByteArray
  code : ByteArray
  cls : Int
abbrev encR : Enc Role := ⟨fun r => [.string r.head, .string r.code, .int .i64 r.cls], 3, fun _ => rfl, by decide, fun _ v hv => by simp at hv; rcases hv with rfl | rfl | rfl <;> rfl⟩
theorem role3 {w : World} {b o : Nat} {r : Role} (h : ElAt encR w b o r) : w.cell? ⟨b, o, none⟩ = some (.string r.head) ∧ w.cell? ⟨b, o + 1, none⟩ = some (.string r.code) ∧ w.cell? ⟨b, o + 2, none⟩ = some (.int .i64 r.cls) := ⟨h 0 _ rfl, h 1 _ rfl, h 2 _ rfl⟩
def rolesOf (M : Mast) : List Role := [⟨tReserve, M.res, 2⟩, ⟨tDiffer, M.dif, 0⟩, ⟨tMinor, M.min, 2⟩, ⟨tStake, M.stk, 0⟩]
theorem rolesN_all (M : Mast) : (rolesOf M).all (fun r => hasA M.chart r.code) = rolesN M := by
  simp [rolesOf, rolesN, Bool.and_assoc]
theorem rolesP_all (M : Mast) : (rolesOf M).all (fun r => plainA M.chart r.code r.cls) = rolesP M := by
  simp [rolesOf, rolesP, Bool.and_assoc]
set_option maxHeartbeats 1000000 in
theorem roles_any (c f e l : Value) (M : Mast) (w : World) :
    Calls Tryz.prog 36 #[aggM c f e l M] w fun en w' => ∃ b, en = .returned (.slice (some ⟨b, 0, none⟩) 4 4) ∧ ElsV encR w' (.slice (some ⟨b, 0, none⟩) 4 4) (rolesOf M) ∧ Below w.heap.size w w' := by
  have HB := Lib.hid ((Below.refl w.heap.size w).alloc (Nat.le_refl _) (.cells (cellsM c f e l M) 30))
  have HN := Lib.hid (nine_new w c f e l M 30)
  have hE := els_new encR (w.alloc (.cells (cellsM c f e l M) 30)) (rolesOf M) 96 (by unfold maxLen; simp [rolesOf])
  rw [World.size_alloc] at hE
  have HE := Lib.hid hE
  clear hE
  obtain ⟨c0, c1, c2, c3, c4, c5, c6, c7, c8⟩ := HN.out
  go_enter Tryz.func36, Tryz.ntmps36
  go_wp2
  go_ret
  refine ⟨_, rfl, HE.out, HB.out.alloc HB.out.size _⟩
end Go.Proofs.YticdmlijacnjbaaGreatDoor.Un
/- Maps that the call itself makes: 'm[k]++' as the place of an entry, a look-up ahead of it or behind it, and a store into the entry. Over any program. -/
namespace Go.Proofs.YticdmlijacnjbaaGreatDoor
open Go.RowKit Go.Maps Go.WideElems Go.ChangeShapes Go.WideShapes Go.MapKept Go.ChangeMaps
section
variable {H : Type} {P : Program} {w : World} {t k e : TypeId} {R : Value → Option (DataW H × List MemPlace)} {b n : Nat} {D : DataW H}
theorem grownBy_block (w : World) {b : Nat} {es : Array MapEntry} {c : Nat} (hb : w.heap[b]? = some (.map es c)) (o : Obj) : w.grownBy (setBlock w b o) (some b) :=
  ⟨rfl, rfl, rfl, by simp [setBlock], fun i _ hi => heap_setBlock_other hb _ (fun e => hi (by rw [e]))⟩
theorem setBlock_set (w : World) (b : Nat) (o o' : Obj) : setBlock (setBlock w b o) b o' = setBlock w b o' := by
  unfold setBlock
  simp
theorem run_inj {α : Type} {a a' : α} {x y : World} {r : Result α} (h1 : r = .ok a x) (h2 : r = .ok a' y) : x = y := by
  rw [h1] at h2; injection h2
/-- The place of an entry, and what is stored there. -/
theorem own_entry (h : w.ownsMap P k R b n D) (K : Keyed P k) (ht : P.underlying t = some (.map k e)) {z : Value} (hz : ∀ u : World, (zeroValue e).run P u = .ok z u) {zd : DataW H} {zp : List MemPlace} (hzd : R z = some (zd, zp)) (hn : n < maxLen)
    {key : Value} {kl : Lit} (hkey : keyOf P k key = some kl) :
    ∃ (v0 : Value) (st : Nat) (w1 : World) (dv : DataW H), (Instr.mapEntry t (.map (some b)) key).run P w = .ok (.tuple #[v0, goInt st]) w1 ∧ w.grownBy w1 (some b) ∧ w1.ownsMap P k R b (n + 1) (D.put kl dv) ∧ dv = D.atKey kl zd ∧
      ∀ (val : Value) (d : DataW H) (ps : List MemPlace), R val = some (d, ps) → ∃ w2, (Instr.entryStore t (.map (some b)) (goInt st) val).run P w1 = .ok () w2 ∧ w2.ownsMap P k R b (n + 1) (D.put kl d) ∧ w1.grownBy w2 (some b) := by
  have h0 := h
  obtain ⟨es, clock, hb, F, hs, hD⟩ := h
  obtain ⟨s1, s2, _⟩ := F.stamped
  rcases K.find w hkey es.toList F.keys with ⟨h1, h2⟩ | ⟨j, e0, h1, h2, h3⟩
  · have hup : ∀ val, (Instr.mapUpdate t (.map (some b)) key val).run P w = .ok () (setBlock w b (.map (es.push ⟨key, val, clock⟩) (clock + 1))) := fun val => by
      simp [Instr.mapUpdate, run_underlying ht, MapKept.run_getObj_map hb, K.check w false hkey, h1, MapKept.run_setObj_map _ hb, Result.andThen, setBlock]
    have hat : D.atKey kl zd = zd := by
      obtain ⟨v, ps, hr, hv⟩ := h0.lookup K ht (hz w) hzd hkey
      rcases Maps.fit_look false K ht (hz w) hb F hkey with ⟨_, _, hat⟩ | ⟨e1, y, he1, hk1, _⟩
      · rw [hD]; exact hat zd
      · exact absurd hk1 (h2 e1 he1)
    refine ⟨z, clock, setBlock w b (.map (es.push ⟨key, z, clock⟩) (clock + 1)), zd, ?_, grownBy_block w hb _, ?_, hat.symm, fun val d ps hv => ?_⟩
    · simp [Instr.mapEntry, run_underlying ht, MapKept.run_getObj_map hb, K.check w false hkey, h1, hz, MapKept.run_setObj_map _ hb, Result.andThen, setBlock]
    · obtain ⟨w', hr, ho, _⟩ := h0.update K ht hn hkey hzd
      rw [run_inj (hup z) hr]; exact ho
    · obtain ⟨w', hr, ho, _⟩ := h0.update K ht hn hkey hv
      have hidx : (es.push ⟨key, z, clock⟩).findIdx? (fun e => ((e.born : Nat) : Int) == ((clock : Nat) : Int)) = some es.size := by
        rw [findIdx_arr]
        exact findIdx_born (l := (es.push ⟨key, z, clock⟩).toList) (j := es.size) (e0 := ⟨key, z, clock⟩) (by
          simp only [Array.toList_push, List.map_append, List.map_cons, List.map_nil]
          refine List.nodup_append.2 ⟨s2, by simp, fun a ha c hc e1 => ?_⟩
          simp only [List.mem_singleton] at hc
          obtain ⟨x, hx, rfl⟩ := List.mem_map.1 ha
          have := s1 x hx
          omega) (by simp)
      have hmod : (es.push ⟨key, z, clock⟩).modify es.size (fun e => { e with val := val }) = es.push ⟨key, val, clock⟩ := by
        apply Array.ext'
        rw [Array.toList_modify, Array.toList_push, Array.toList_push, ← Array.length_toList, modify_last]
      have hw2 : (setBlock w b (.map (es.push ⟨key, z, clock⟩) (clock + 1))).heap[b]? = some (.map (es.push ⟨key, z, clock⟩) (clock + 1)) := heap_setBlock_same hb _
      refine ⟨setBlock (setBlock w b (.map (es.push ⟨key, z, clock⟩) (clock + 1))) b (.map (es.push ⟨key, val, clock⟩) (clock + 1)), ?_, ?_, grownBy_block _ hw2 _⟩
      · generalize setBlock w b (.map (es.push ⟨key, z, clock⟩) (clock + 1)) = w1 at hw2
        simp [Instr.entryStore, MapKept.run_getObj_map hw2, asInt, asIntOf, goInt, hidx, hmod, MapKept.run_setObj_map _ hw2, Result.andThen, setBlock]
      · rw [setBlock_set w b, run_inj (hup val) hr]; exact ho
  · have hj : es[j]? = some e0 := by simpa using h2
    have hsame : es.modify j (fun e => { e with key := key }) = es := by
      apply Array.ext'
      rw [Array.toList_modify, modify_eq_set _ _ _ _ h2]
      have : ({ e0 with key := key } : MapEntry) = e0 := by rw [← h3]
      rw [this]
      exact set_self _ _ _ h2
    have hup : ∀ val, (Instr.mapUpdate t (.map (some b)) key val).run P w = .ok () (setBlock w b (.map (es.modify j (fun e' => { e' with key := key, val := val })) clock)) := fun val => by
      simp [Instr.mapUpdate, run_underlying ht, MapKept.run_getObj_map hb, K.check w false hkey, h1, hj, h3, K.stays w hkey, MapKept.run_setObj_map _ hb, Result.andThen, setBlock]
    have hwb : setBlock w b (.map es clock) = w := by
      unfold setBlock
      have : w.heap.setIfInBounds b (.map es clock) = w.heap := by
        apply Array.ext_getElem?
        intro i
        by_cases hi : i = b
        · subst hi
          have hlt := (Array.getElem?_eq_some_iff.1 hb).1
          rw [Array.getElem?_setIfInBounds_self_of_lt hlt, hb]
        · rw [Array.getElem?_setIfInBounds_ne (fun e => hi e.symm)]
      rw [this]
    have hself : es.modify j (fun e' => { e' with key := key, val := e0.val }) = es := by
      apply Array.ext'
      rw [Array.toList_modify, modify_eq_set _ _ _ _ h2]
      have : ({ e0 with key := key, val := e0.val } : MapEntry) = e0 := by rw [← h3]
      rw [this]
      exact set_self _ _ _ h2
    obtain ⟨dv, pv, hrv, hat⟩ : ∃ dv pv, R e0.val = some (dv, pv) ∧ dv = D.atKey kl zd := by
      rcases Maps.fit_look false K ht (hz w) hb F hkey with ⟨_, hno, _⟩ | ⟨e1, y, he1, hk1, hrun, hRv, hat, _⟩
      · exact absurd h3 (hno e0 (List.mem_of_getElem? h2))
      · have he : e1 = e0 := by
          have hnd : es.toList.Pairwise (fun x y => x.key ≠ y.key) := ((stamped_iff es clock).1 F.stamped).2.2
          by_cases heq : e1 = e0
          · exact heq
          · obtain ⟨i1, hi1, hi1e⟩ := List.getElem_of_mem he1
            have hlt2 := (List.getElem?_eq_some_iff.1 h2).1
            have h2' : es.toList[j] = e0 := (List.getElem?_eq_some_iff.1 h2).2
            have hp := List.pairwise_iff_getElem.1 hnd
            rcases Nat.lt_trichotomy i1 j with hl | hl | hl
            · exact absurd (by rw [hi1e, h2', hk1, h3]) (hp i1 j hi1 hlt2 hl)
            · subst hl; rw [h2'] at hi1e; exact hi1e.symm
            · exact absurd (by rw [hi1e, h2', hk1, h3]) (hp j i1 hlt2 hi1 hl)
        subst he
        exact ⟨y.1, y.2, hRv, by rw [hD]; exact (hat zd).symm⟩
    refine ⟨e0.val, e0.born, w, dv, ?_, World.grownBy.refl _ _, ?_, hat, fun val d ps hv => ?_⟩
    · conv => rhs; rw [← hwb]
      simp [Instr.mapEntry, run_underlying ht, MapKept.run_getObj_map hb, K.check w false hkey, h1, hj, h3, K.stays w hkey, hsame, MapKept.run_setObj_map _ hb, Result.andThen, setBlock]
    · obtain ⟨w', hr, ho, _⟩ := h0.update K ht hn hkey hrv
      have h4 := hup e0.val
      rw [hself, hwb] at h4
      rw [run_inj h4 hr]; exact ho
    · obtain ⟨w', hr, ho, _⟩ := h0.update K ht hn hkey hv
      have hidx : es.findIdx? (fun e => ((e.born : Nat) : Int) == ((e0.born : Nat) : Int)) = some j := by
        rw [findIdx_arr]
        exact findIdx_born s2 h2
      have hmod : es.modify j (fun e => { e with val := val }) = es.modify j (fun e' => { e' with key := key, val := val }) := by
        apply Array.ext'
        rw [Array.toList_modify, Array.toList_modify, modify_eq_set _ _ _ _ h2, modify_eq_set _ _ _ _ h2, ← h3]
      refine ⟨_, ?_, (by rw [run_inj (hup val) hr]; exact ho), grownBy_block w hb _⟩
      simp [Instr.entryStore, MapKept.run_getObj_map hb, asInt, asIntOf, goInt, hidx, hmod, MapKept.run_setObj_map _ hb, Result.andThen, setBlock]
end
end Go.Proofs.YticdmlijacnjbaaGreatDoor
