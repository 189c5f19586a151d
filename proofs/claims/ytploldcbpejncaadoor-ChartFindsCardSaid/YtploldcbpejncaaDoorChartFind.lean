
/- The walks of chart.Find, chart.below and of the statements' own check 'few': what the plain facts say; what was there stays. -/
import Derived.Test.YtploldcbpejncaaDoorChartMem
import Derived.Test.YtploldcbpejncaaDoorBase
import Derived.Test.YtploldcbpejncaaDoorProg
import Derived.WalkKit
import Derived.WalkSpells
import Derived.WalkLawsBesides
import Derived.Lib.Hide
import Derived.Lib.SlicesS
import Derived.LoopTactic
import Derived.Deep.LoopGhost
import Derived.Handy
import Derived.Laws.Tables
import Derived.Deep.WholeRow
namespace Go.Proofs.YtploldcbpejncaaDoor
open Go.RowKit

/-- A box of an account that may be written. -/
def BoxA (w : World) (b : Nat) (t : TypeId) (a : Acct) : Prop := w.heap[b]? = some (.cells #[.string a.code, .int .i64 a.cls, .bool a.cash, .bool a.both, .string a.fixed, .bool a.worn] t (0, 0))
theorem BoxA.keep {w w' : World} {b B : Nat} {t : TypeId} {a : Acct} (h : BoxA w b t a) (hb : Below B w w') (hB : b < B) : BoxA w' b t a := (hb.block b hB).trans h
theorem BoxA.new (w : World) (a : Acct) (t : TypeId) : BoxA (w.alloc (.cells #[.string a.code, .int .i64 a.cls, .bool a.cash, .bool a.both, .string a.fixed, .bool a.worn] t)) w.heap.size t a := heap_alloc_new w _
theorem BoxA.at0 {w : World} {b : Nat} {t : TypeId} {a : Acct} (h : BoxA w b t a) : AcctAt w b 0 a :=
  acct_of fun j v hj => by rw [Nat.zero_add, cell_of_row _ b j _ t (0, 0) h]; simpa [Acct.cells] using hj
theorem BoxA.facts {w : World} {b : Nat} {t : TypeId} {a : Acct} (h : BoxA w b t a) :
    w.cell? ⟨b, 0, none⟩ = some (.string a.code) ∧ w.cell? ⟨b, 1, none⟩ = some (.int .i64 a.cls) ∧ w.cell? ⟨b, 2, none⟩ = some (.bool a.cash) ∧ w.cell? ⟨b, 3, none⟩ = some (.bool a.both) ∧ w.cell? ⟨b, 4, none⟩ = some (.string a.fixed) ∧ w.cell? ⟨b, 5, none⟩ = some (.bool a.worn) :=
  ⟨h.at0.c0, h.at0.c1, h.at0.c2, h.at0.c3, h.at0.c4, h.at0.c5⟩
theorem BoxA.set {w : World} {b : Nat} {t : TypeId} {a : Acct} (h : BoxA w b t a) (x : Acct) : BoxA (w.setRow b #[.string x.code, .int .i64 x.cls, .bool x.cash, .bool x.both, .string x.fixed, .bool x.worn]) b t x := setRow_heap w b _ _ t _ h
theorem acct_one (a : Acct) : (#[.string a.code, .int .i64 a.cls, .bool a.cash, .bool a.both, .string a.fixed, .bool a.worn] : Array Value).all (·.oneCell') = true := by simp [Value.oneCell']
theorem grownBy_setRow (w : World) (g : Nat) (cs : Array Value) : w.grownBy (w.setRow g cs) (some g) :=
  ⟨rfl, rfl, rfl, by simp [World.setRow], fun k _ hk => setRow_other w g k cs (fun e => hk (by rw [e]))⟩
/-- An account stored into a box. -/
theorem wpList_store_acct {P : Program} {ops : Array Oper} {rest : List Oper} {o : Oper} {act : Act} {w : World} {Q : Exit → Act → World → Prop} (hgd : o.guard = none) (ty : TypeId) (x y : Operand) (ho : o.op = .store ty x y)
    (g : Nat) (z a : Acct) (t : TypeId) (hx : act.eval x = .pointer (some ⟨g, 0, none⟩)) (hy : act.eval y = .agg #[.string a.code, .int .i64 a.cls, .bool a.cash, .bool a.both, .string a.fixed, .bool a.worn]) (hg : BoxA w g t z) (hi : (P.info? ty).map (·.size) = some 6)
    (h : ∀ w', BoxA w' g t a → w.grownBy w' (some g) → wpList P ops Q rest (act.put o.dst undef) w') : wpList P ops Q (o :: rest) act w :=
  wpList_store_row hgd ty x y ho g _ hx hy t _ hg hi rfl (acct_one a) (h _ (hg.set a) (grownBy_setRow w g _))
abbrev aggF (a : Acct) : Value := .agg #[.string a.code, .int .i64 a.cls, .bool a.cash, .bool a.both, .string a.fixed, .bool a.worn]
/-- What Find tells. -/
def findV (o : Option Acct) : Acct := o.getD zeroA
set_option maxRecDepth 100000 in
set_option maxHeartbeats 2000000 in
theorem find_any (v : Value) (L : List Acct) (code : ByteArray) (w : World) (h : ChartV w v L) :
    Calls Tryd.prog 20 #[v, .string code] w fun e w' => e = .returned (.tuple #[aggF (findV (findL L code)), .bool (findL L code).isSome]) ∧ Below w.heap.size w w' := by
  obtain ⟨a, c, rfl, hcap, hm, _, hc⟩ := h
  obtain ⟨n, hn⟩ : ∃ n, L.length = n := ⟨_, rfl⟩
  obtain ⟨r, hr⟩ : ∃ r, findL L code = r := ⟨_, rfl⟩
  rw [hn] at hcap ⊢
  rw [hr]
  have HC := Lib.hid hc
  have HN := Lib.hid hn
  have HR := Lib.hid hr
  unfold maxLen at hm
  clear hc hn hr
  obtain ⟨R, hR⟩ : ∃ R, findV r = R := ⟨_, rfl⟩
  obtain ⟨S, hS⟩ : ∃ S, r.isSome = S := ⟨_, rfl⟩
  rw [hR, hS]
  have HRV := Lib.hid hR
  have HSV := Lib.hid hS
  clear hR hS
  have HB0 := Lib.hid ((Below.refl w.heap.size w).alloc (Nat.le_refl _) (.cells #[.string ⟨#[]⟩, .int .i64 0, .bool false, .bool false, .string ⟨#[]⟩, .bool false] 28))
  have HC0 := Lib.hid (BoxA.new w zeroA 28)
  go_enter Tryd.func20, Tryd.ntmps20
  go_wp2
  go_loopw [10] (fun s10 wr => ∃ i : Nat, i ≤ n ∧ s10 = .int .i64 (i : Int) ∧ Below w.heap.size w wr ∧ w.heap.size < wr.heap.size ∧ BoxA wr w.heap.size 28 zeroA ∧ Hid (∀ (j : Nat) (y : Acct), j < i → L[j]? = some y → y.code ≠ code)) (fun s10 _ => n - (intOf s10).toNat)
  case atStart => exact ⟨0, Nat.zero_le _, rfl, HB0.out, by simp, HC0.out, Lib.hid fun j y hj => absurd hj (Nat.not_lt_zero _)⟩
  case round =>
    obtain ⟨i, hi, rfl, hnx, hsz, hbox, HNO⟩ := hrel
    by_cases hlt : i < n
    · obtain ⟨x, hx⟩ : ∃ x, L[i]? = some x := ⟨_, List.getElem?_eq_getElem (by rw [HN.out]; exact hlt)⟩
      obtain ⟨b, o, rfl, hat⟩ := HC.out i x hx
      obtain ⟨c0, c1, c2, c3, c4, c5⟩ := hat.keep hnx hat.lt
      have HX := Lib.hid hx
      have HBX := Lib.hid hbox
      have HNX := Lib.hid (hnx.alloc (Nat.le_of_lt hsz) (.cells #[.string x.code, .int .i64 x.cls, .bool x.cash, .bool x.both, .string x.fixed, .bool x.worn] 28))
      have HBN := Lib.hid (hbox.keep ((Below.refl wr.heap.size wr).alloc (Nat.le_refl _) (.cells #[.string x.code, .int .i64 x.cls, .bool x.cash, .bool x.both, .string x.fixed, .bool x.worn] 28)) hsz)
      have HSZ := Lib.hid hsz
      clear hx hbox hat
      cases hxe : (x.code.toList == code.toList) with
      | false =>
        have HXE := Lib.hid ((Lib.bytes_beq_false_iff x.code code).1 hxe)
        go_wp2
        go_roundw
        case rel => exact ⟨i + 1, by omega, by go_num, HNX.out, by simp; omega, HBN.out, Lib.hid fun j y hj hy => by
          rcases Nat.lt_or_ge j i with h | h
          · exact HNO.out j y h hy
          · obtain rfl : j = i := by omega
            rw [HX.out] at hy; cases hy; exact HXE.out⟩
        case measure => simp [intOf]; omega
      | true =>
        have HXE := Lib.hid ((Lib.bytes_beq_iff x.code code).1 hxe)
        have hres : Hid (r = some x) := Lib.hid (by rw [← HR.out]; exact find_at HNO.out HX.out HXE.out)
        go_wp2_with (refine wpList_store_acct rfl 28 (.tmp 4) (.tmp 18) rfl w.heap.size zeroA x 28 rfl rfl HBN.out (by kernel_rfl) ?_; intro w2 hb2 hg2)
        have HF := Lib.hid (HNX.out.grown hg2 HNX.out.size (fun j hj => by cases hj; exact Nat.le_refl _))
        obtain ⟨d0, d1, d2, d3, d4, d5⟩ := hb2.facts
        clear hb2 hg2
        refine bodyPost_ret (v := .tuple #[aggF x, .bool true]) (by simp [results, Tryd.results20, go_sem, d0, d1, d2, d3, d4, d5]) rfl ⟨?_, HF.out⟩
        rw [← HRV.out, ← HSV.out, hres.out]; rfl
    · have hres : Hid (r = none) := Lib.hid (by
        rw [← HR.out]
        refine find_none fun j y hy => HNO.out j y ?_ hy
        have := (List.getElem?_eq_some_iff.1 hy).1
        rw [HN.out] at this; omega)
      have HNX := Lib.hid hnx
      go_wp2_with (refine wpList_store_acct rfl 28 (.tmp 4) (.tmp 20) rfl w.heap.size zeroA zeroA 28 rfl rfl hbox (by kernel_rfl) ?_; intro w2 hb2 hg2)
      have HF := Lib.hid (HNX.out.grown hg2 HNX.out.size (fun j hj => by cases hj; exact Nat.le_refl _))
      obtain ⟨d0, d1, d2, d3, d4, d5⟩ := hb2.facts
      clear hb2 hg2
      refine bodyPost_ret (v := .tuple #[aggF zeroA, .bool false]) (by simp [results, Tryd.results20, go_sem, d0, d1, d2, d3, d4, d5]) rfl ⟨?_, HF.out⟩
      rw [← HRV.out, ← HSV.out, hres.out]; rfl
end Go.Proofs.YtploldcbpejncaaDoor
