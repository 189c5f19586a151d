/- LexJoin; LexBackPlain; UnitText; ChartSame: texts put together (each begins with what it is). -/
import Derived.Test.YticdmlijacnjbaaGreatDoorM03
import Derived.Test.YticdmlijacnjbaaGreatDoorM16
import Derived.WalkKit
import Derived.WalkSpells
import Derived.Lib.Hide
import Derived.OwnWalk
import Derived.Handy
import Derived.Test.YticdmlijacnjbaaGreatDoorM01
import Derived.Test.YticdmlijacnjbaaGreatDoorM04
import Derived.Test.YticdmlijacnjbaaGreatDoorM05
import Derived.BigQuiet
import Derived.Deep.QuietTactic
import Derived.Laws.StructEq
/- The walk of lex.Join: the text of lines, as the plain facts say; memory that was there stays. -/
namespace Go.Proofs.YticdmlijacnjbaaGreatDoor
open Go.RowKit

/-- The text of a line's words, and of lines. -/
def lineL (ws : List ByteArray) : List UInt8 := Lib.join (ws.map (·.data.toList)) [32]
def joinL (L : List (Int × List ByteArray)) : List UInt8 := L.flatMap fun x => lineL x.2 ++ [10]
theorem joinL_snoc (L : List (Int × List ByteArray)) (n : Int) (ws : List ByteArray) : joinL (L ++ [(n, ws)]) = joinL L ++ (lineL ws ++ [10]) := by simp [joinL]
theorem joinL_take (L : List (Int × List ByteArray)) (k : Nat) : (joinL (L.take k)).length ≤ (joinL L).length := by
  conv => rhs; rw [← List.take_append_drop k L]
  unfold joinL
  rw [List.flatMap_append, List.length_append]
  omega
theorem sjoin (v : Value) (ws : List ByteArray) (w : World) (h : StrsV w v ws) (hlen : (lineL ws).length ≤ 1000000000) :
    Calls Tryz.prog 67 #[v, .string ⟨#[32]⟩] w fun e w' => e = .returned (.string (mkB (lineL ws))) ∧ Below w.heap.size w w' := by
  obtain ⟨a, c, rfl, hcap, hm, hc⟩ := h
  cases ws with
  | nil => exact (bjoin_none a c ⟨#[32]⟩ w).mono fun e w' ⟨he, hw⟩ => ⟨he, by rw [hw]; exact Below.refl _ _⟩
  | cons x r =>
    obtain ⟨b, o, rfl, h0⟩ := hc 0 x rfl
    have hb := World.block_lt_of_cell? w _ h0
    refine bjoin b o c (x :: r) ⟨#[32]⟩ w (fun j y hy => ?_) hb ?_ hcap (Nat.le_trans hlen (by decide))
    · obtain ⟨b', o', e, hc'⟩ := hc j y hy
      injection e with e
      injection e with e1 e2
      subst e1 e2
      exact hc'
    · -- as many bytes and more
      have : (x :: r).length ≤ (lineL (x :: r)).length + 1 := by
        unfold lineL
        generalize x :: r = l
        have gen : ∀ (l : List ByteArray), l.length ≤ (Lib.join (l.map (·.data.toList)) [32]).length + 1 := by
          intro l
          induction l with
          | nil => simp
          | cons y t ih =>
            cases t with
            | nil => simp
            | cons z t =>
              have e : Lib.join (List.map (·.data.toList) (y :: z :: t)) [32] = y.data.toList ++ ([32] ++ Lib.join (List.map (·.data.toList) (z :: t)) [32]) := by
                simp [Lib.join, List.intercalate]
              rw [e]
              simp only [List.length_append, List.length_cons, List.length_nil] at ih ⊢
              omega
        exact gen l
      omega

theorem builder_below {T e : TypeId} {B b : Nat} {bs : List Value} {w w' : World} (h : Lib.IsBuilder T e B b bs w) (hb : Below w.heap.size w w') : Lib.IsBuilder T e B b bs w' := by
  have one : ∀ p, Lib.BuilderAt T e B b p bs w → Lib.BuilderAt T e B b p bs w' := fun p ⟨h1, v, h2, h3, h4⟩ =>
    ⟨h1, v, (hb.block b (Array.getElem?_eq_some_iff.1 h2).1).trans h2, row_below h3 hb, h4⟩
  exact h.elim (fun x => .inl (one _ x)) (fun x => .inr (one _ x))
theorem builder_new (T e : TypeId) (w : World) : Lib.IsBuilder T e w.heap.size w.heap.size [] (w.alloc (.cells #[.pointer none, .slice none 0 0] T)) :=
  .inl ⟨Nat.le_refl _, _, World.alloc_heap_new w _, World.ownsRow_nil _ _ _ _, by simp [Value.ownBlock]⟩
/-- At the head of Join's loop. -/
def JoinAt (w : World) (L : List (Int × List ByteArray)) (s8 : Value) (wr : World) : Prop :=
  ∃ k : Nat, k ≤ L.length ∧ s8 = .int .i64 (k : Int) ∧ Lib.IsBuilder 135 5 w.heap.size w.heap.size (Lib.byteCells (joinL (L.take k))) wr ∧ Below w.heap.size w wr

set_option maxRecDepth 100000 in
set_option maxHeartbeats 1000000 in
theorem join_any (v : Value) (L : List (Int × List ByteArray)) (w : World) (h : LinesV w v L) (hlen : (joinL L).length ≤ 1000000000) :
    Calls Tryz.prog 37 #[v] w fun e w' => e = .returned (.string (mkB (joinL L))) ∧ Below w.heap.size w w' := by
  obtain ⟨a, c, rfl, hm, hc⟩ := h
  have HC := Lib.hid hc
  have HL := Lib.hid hlen
  unfold maxLen at hm
  clear hc hlen
  obtain ⟨r, hr⟩ : ∃ r, mkB (joinL L) = r := ⟨_, rfl⟩
  rw [hr]
  have HR := Lib.hid hr
  clear hr
  go_enter Tryz.func37, Tryz.ntmps37
  go_wp2
  go_loopw [8] (fun s8 wr => JoinAt w L s8 wr) (fun s8 _ => L.length - (intOf s8).toNat)
  case atStart => exact ⟨0, Nat.zero_le _, rfl, builder_new _ _ _, (Below.refl _ _).alloc (Nat.le_refl _) _⟩
  case round =>
    obtain ⟨k, hk, rfl, hbld, hnx⟩ := hrel
    have HB := Lib.hid hbld
    clear hbld
    by_cases hlt : k < L.length
    · obtain ⟨⟨nn, ws⟩, hget⟩ : ∃ y, L[k]? = some y := ⟨_, List.getElem?_eq_getElem hlt⟩
      obtain ⟨b, o, u, rfl, c1, c2, hu⟩ := HC.out k _ hget
      dsimp only at c1 hu
      have hbk := World.block_lt_of_cell? w _ c1
      have d1 := (hnx.cell (p := ⟨b, o + k * 2, none⟩) hbk).trans c1
      have d2 := (hnx.cell (p := ⟨b, o + k * 2 + 1, none⟩) hbk).trans c2
      have HT : Hid (L.take (k + 1) = L.take k ++ [(nn, ws)]) := Lib.hid (by rw [take_at L k hlt]; rw [List.getElem?_eq_getElem hlt] at hget; rw [Option.some.inj hget])
      have hjl := joinL_take L (k + 1)
      rw [HT.out, joinL_snoc] at hjl
      simp only [List.length_append, List.length_cons, List.length_nil] at hjl
      have hjl2 : (joinL (L.take k)).length + (lineL ws).length ≤ 1000000000 := by have := HL.out; omega
      have HU : Hid (∀ W, Below w.heap.size w W → StrsV W u ws) := Lib.hid fun W hW => hu.keep hW
      obtain ⟨a2, c2', rfl, _⟩ := hu
      obtain ⟨nw, hnw⟩ : ∃ nw, ws.length = nw := ⟨_, rfl⟩
      rw [hnw] at d2 HU
      clear c1 c2 hget hnw hjl
      have hsz := hnx.size
      go_wp2_with fail
      refine (sjoin _ ws _ (HU.out _ (hnx.alloc hsz _)) (by omega)).mono ?_
      rintro e w1 ⟨rfl, hb1⟩
      have hb1' : Below wr.heap.size wr w1 := ((Below.refl _ _).alloc (Nat.le_refl _) _).trans (hb1.mono (by simp))
      have HN1 := Lib.hid (hnx.trans (hb1'.mono hsz))
      have HB1 := Lib.hid (builder_below HB.out hb1')
      clear hb1 hb1'
      obtain ⟨t, ht⟩ : ∃ t, mkB (lineL ws) = t := ⟨_, rfl⟩
      rw [ht]
      have HTT := Lib.hid ht
      clear ht
      go_wp2_with fail
      refine (bwrite _ _ _ t _ HB1.out (by rw [Lib.byteCells_length, ← HTT.out, mkB_size]; omega) HN1.out.size).mono ?_
      rintro e w2 ⟨rfl, hbl2, hb2⟩
      have HN2 := Lib.hid (HN1.out.trans hb2)
      have HB2 : Hid (Lib.IsBuilder 135 5 w.heap.size w.heap.size (Lib.byteCells (joinL (L.take k) ++ lineL ws)) w2) := Lib.hid (by
        have := hbl2
        rw [Lib.strCells_eq, ← HTT.out, mkB_data, ← Lib.byteCells_append] at this
        exact .inr this)
      clear hbl2 hb2
      go_wp2_with fail
      refine (bwrite _ _ _ ⟨#[10]⟩ _ HB2.out (by rw [Lib.byteCells_length, List.length_append]; show _ + 1 ≤ _; omega) HN2.out.size).mono ?_
      rintro e w3 ⟨rfl, hbl3, hb3⟩
      have HN3 := Lib.hid (HN2.out.trans hb3)
      have HB3 : Hid (Lib.IsBuilder 135 5 w.heap.size w.heap.size (Lib.byteCells (joinL (L.take (k + 1)))) w3) := Lib.hid (by
        have := hbl3
        rw [Lib.strCells_eq, ← Lib.byteCells_append] at this
        rw [HT.out, joinL_snoc, ← List.append_assoc]
        exact .inr this)
      clear hbl3 hb3
      go_wp2
      go_roundw
      case rel => exact ⟨k + 1, by omega, by go_num, HB3.out, HN3.out⟩
      case measure => simp [intOf]; omega
    · have HB' : Hid (Lib.IsBuilder 135 5 w.heap.size w.heap.size (Lib.byteCells (joinL L)) wr) := Lib.hid (by
        have := HB.out
        rwa [List.take_of_length_le (by omega)] at this)
      go_wp2_with fail
      refine (bstring _ _ _ _ HB'.out hnx.size).mono ?_
      rintro e w1 ⟨rfl, hb1⟩
      have HE : Hid ((⟨(joinL L).toArray⟩ : ByteArray) = r) := HR
      rw [HE.out]
      go_wp2
      go_ret
      exact ⟨rfl, hnx.trans hb1⟩
end Go.Proofs.YticdmlijacnjbaaGreatDoor
/- The plain facts of LexBack: a text of words, gaps, remarks and ends has just these words, line by line. No program in it. -/
namespace Go.Proofs.YticdmlijacnjbaaGreatDoor

def rwB (c : UInt8) : Bool := decide (33 ≤ c.toNat ∧ c.toNat ≤ 126 ∧ c.toNat ≠ 35)
/-- May a word be asked to come back? -/
def rightL (l : List UInt8) : Bool := decide (l ≠ []) && l.all rwB
/-- The words of what is read, the last one of ws being open. -/
def openF (ws : List (List UInt8)) (r : List UInt8) : List (List UInt8) := match ws.getLast? with
  | none => fieldsGo [] r
  | some x => ws.dropLast ++ fieldsGo x r
theorem openF_nil (r : List UInt8) : openF [] r = fieldsGo [] r := rfl
theorem openF_snoc (ws : List (List UInt8)) (x r : List UInt8) : openF (ws ++ [x]) r = ws ++ fieldsGo x r := by simp [openF]
/-- A line's beginning, up to the end of a word; up to a gap behind it. -/
structure PartOf (U : List UInt8) (ws : List (List UInt8)) : Prop where
  ok : okL U = true
  n10 : (10 : UInt8) ∉ U
  n35 : (35 : UInt8) ∉ U
  ne : ∀ x ∈ ws, x ≠ []
  fl : ∀ r, fieldsGo [] (U ++ r) = openF ws r
structure GapPart (U : List UInt8) (ws : List (List UInt8)) : Prop where
  ok : okL U = true
  n10 : (10 : UInt8) ∉ U
  n35 : (35 : UInt8) ∉ U
  ne : ∀ x ∈ ws, x ≠ []
  fl : ∀ r, fieldsGo [] (U ++ r) = ws ++ fieldsGo [] r
theorem okL_add (a b : List UInt8) : okL (a ++ b) = (okL a && okL b) := by simp [okL]
theorem gap_facts {g : List UInt8} (h : g.all gapB = true) : okL g = true ∧ (10 : UInt8) ∉ g ∧ (35 : UInt8) ∉ g := by
  have h1 := List.all_eq_true.1 h
  refine ⟨List.all_eq_true.2 fun c hc => ?_, fun hm => ?_, fun hm => ?_⟩
  · have := h1 c hc
    unfold gapB at this
    rw [Bool.or_eq_true, beq_iff_eq, beq_iff_eq] at this
    rcases this with rfl | rfl <;> decide
  · have := h1 _ hm; revert this; decide
  · have := h1 _ hm; revert this; decide
theorem right_facts {x : List UInt8} (h : rightL x = true) : x ≠ [] ∧ okL x = true ∧ (10 : UInt8) ∉ x ∧ (35 : UInt8) ∉ x ∧ x.all (fun c => !gapB c) = true := by
  unfold rightL at h
  rw [Bool.and_eq_true] at h
  have h0 := of_decide_eq_true h.1
  have h1 := List.all_eq_true.1 h.2
  refine ⟨h0, List.all_eq_true.2 fun c hc => ?_, fun hm => ?_, fun hm => ?_, List.all_eq_true.2 fun c hc => ?_⟩
  · have := of_decide_eq_true (h1 c hc)
    unfold okB
    rw [Bool.or_eq_true, Bool.and_eq_true]
    exact .inr ⟨decide_eq_true (by omega), decide_eq_true (by omega)⟩
  · have := h1 _ hm; revert this; decide
  · have := h1 _ hm; revert this; decide
  · have := of_decide_eq_true (h1 c hc)
    have h9 : c ≠ 9 := fun e => by subst e; revert this; decide
    have h32 : c ≠ 32 := fun e => by subst e; revert this; decide
    simp [gapB, h9, h32]
theorem part_start {g : List UInt8} (h : g.all gapB = true) : PartOf g [] := by
  obtain ⟨h1, h2, h3⟩ := gap_facts h
  exact ⟨h1, h2, h3, (fun x hx => by cases hx), fun r => by rw [fieldsGo_gap0 g r h, openF_nil]⟩
theorem PartOf.gap0 {U : List UInt8} (h : PartOf U []) : GapPart U [] := ⟨h.ok, h.n10, h.n35, h.ne, fun r => by rw [h.fl, openF_nil]; rfl⟩
theorem PartOf.gap {U g : List UInt8} {ws : List (List UInt8)} (h : PartOf U ws) (hw : ws ≠ []) (hg : g.all gapB = true) (hg0 : g ≠ []) : GapPart (U ++ g) ws := by
  obtain ⟨h1, h2, h3⟩ := gap_facts hg
  refine ⟨by rw [okL_add, h.ok, h1]; rfl, by simp [h.n10, h2], by simp [h.n35, h3], h.ne, fun r => ?_⟩
  obtain ⟨ws', x, rfl⟩ : ∃ ws' x, ws = ws' ++ [x] := ⟨ws.dropLast, ws.getLast hw, (List.dropLast_concat_getLast hw).symm⟩
  rw [List.append_assoc, h.fl, openF_snoc, fieldsGo_gap x g r hg0 (h.ne x (by simp)) hg]
  simp
theorem GapPart.word {U x : List UInt8} {ws : List (List UInt8)} (h : GapPart U ws) (hx : rightL x = true) : PartOf (U ++ x) (ws ++ [x]) := by
  obtain ⟨h0, h1, h2, h3, h4⟩ := right_facts hx
  refine ⟨by rw [okL_add, h.ok, h1]; rfl, by simp [h.n10, h2], by simp [h.n35, h3], fun y hy => ?_, fun r => ?_⟩
  · rcases List.mem_append.1 hy with hy | hy
    · exact h.ne y hy
    · simp at hy; subst hy; exact h0
  · rw [List.append_assoc, h.fl, fieldsGo_word [] x r h4, openF_snoc]; rfl
theorem PartOf.closed {U : List UInt8} {ws : List (List UInt8)} (h : PartOf U ws) : fieldsGo [] U = ws ∧ fieldsGo [] (U ++ [32]) = ws := by
  by_cases hw : ws = []
  · subst hw
    have h1 := h.fl []
    have h2 := h.fl [32]
    rw [List.append_nil] at h1
    rw [h1, h2]
    exact ⟨rfl, rfl⟩
  · obtain ⟨ws', x, rfl⟩ : ∃ ws' x, ws = ws' ++ [x] := ⟨ws.dropLast, ws.getLast hw, (List.dropLast_concat_getLast hw).symm⟩
    have h0 := h.ne x (by simp)
    have h1 := h.fl []
    have h2 := h.fl [32]
    rw [List.append_nil] at h1
    rw [h1, h2, openF_snoc, openF_snoc]
    have e1 : fieldsGo x [] = [x] := by simp [fieldsGo, h0]
    have e2 : fieldsGo x [32] = [x] := by simp [fieldsGo, h0, gapB]
    rw [e1, e2]
    exact ⟨rfl, rfl⟩
/-- A remark, and an end. -/
def Rem (r : List UInt8) : Prop := r = [] ∨ r = [32, 35, 32, 97, 32, 114, 101, 109, 97, 114, 107] ∨ r = [35]
def End (e : List UInt8) : Prop := e = [10] ∨ e = [10, 10] ∨ e = [10, 35, 10]
theorem rem_words {U r : List UInt8} {ws : List (List UInt8)} (h : PartOf U ws) (hr : Rem r) : wordsL (U ++ r) = ws ∧ okL (U ++ r) = true ∧ (10 : UInt8) ∉ U ++ r := by
  obtain ⟨c1, c2⟩ := h.closed
  unfold wordsL
  rcases hr with rfl | rfl | rfl
  · rw [List.append_nil]
    exact ⟨by rw [said_none U h.n35]; exact c1, h.ok, h.n10⟩
  · refine ⟨?_, by rw [okL_add, h.ok]; decide, by simp [h.n10]⟩
    have e : U ++ [32, 35, 32, 97, 32, 114, 101, 109, 97, 114, 107] = (U ++ [32]) ++ 35 :: [32, 97, 32, 114, 101, 109, 97, 114, 107] := by simp
    rw [e, said_mark (U ++ [32]) _ (by simp [h.n35])]
    exact c2
  · refine ⟨?_, by rw [okL_add, h.ok]; decide, by simp [h.n10]⟩
    rw [said_mark U [] h.n35]
    exact c1
def lineOf (n : Nat) (ws : List (List UInt8)) : List (Nat × List (List UInt8)) := if ws = [] then [] else [(n, ws)]
theorem numP_lineOf (n : Nat) (x : List UInt8) (r : List (Nat × List UInt8)) : numP ((n, x) :: r) = lineOf n (wordsL x) ++ numP r := by simp [numP, lineOf]
theorem block_lines {U r e : List UInt8} {ws : List (List UInt8)} (h : PartOf U ws) (hr : Rem r) (he : End e) :
    okL (U ++ r ++ e) = true ∧ ∀ t n, ∃ m, n < m ∧ numP (enumL n (linesGo [] (U ++ r ++ e ++ t))) = lineOf n ws ++ numP (enumL m (linesGo [] t)) := by
  obtain ⟨h1, h2, h3⟩ := rem_words h hr
  have w0 : wordsL [] = [] := rfl
  have w1 : wordsL [35] = [] := rfl
  have l0 : ∀ n, lineOf n [] = [] := fun n => rfl
  refine ⟨by rw [okL_add, h2]; rcases he with rfl | rfl | rfl <;> decide, fun t n => ?_⟩
  rcases he with rfl | rfl | rfl
  · refine ⟨n + 1, by omega, ?_⟩
    rw [show U ++ r ++ [10] ++ t = (U ++ r) ++ 10 :: t by simp, linesGo_cut _ _ h3]
    simp only [enumL]
    rw [numP_lineOf, h1]
  · refine ⟨n + 1 + 1, by omega, ?_⟩
    rw [show U ++ r ++ [10, 10] ++ t = (U ++ r) ++ 10 :: ([] ++ 10 :: t) by simp, linesGo_cut _ _ h3, linesGo_cut [] t (by simp)]
    simp only [enumL]
    rw [numP_lineOf, numP_lineOf, h1, w0, l0]
    simp
  · refine ⟨n + 1 + 1, by omega, ?_⟩
    rw [show U ++ r ++ [10, 35, 10] ++ t = (U ++ r) ++ 10 :: ([35] ++ 10 :: t) by simp, linesGo_cut _ _ h3, linesGo_cut [35] t (by decide)]
    simp only [enumL]
    rw [numP_lineOf, numP_lineOf, h1, w1, l0]
    simp
/-- Numbers rise from n on, and stay below m. -/
def Inc (n : Nat) : List (Nat × List (List UInt8)) → Nat → Prop
  | [], m => n ≤ m
  | x :: r, m => n ≤ x.1 ∧ Inc (x.1 + 1) r m
theorem Inc.more {n m m' : Nat} {L : List (Nat × List (List UInt8))} (h : Inc n L m) (hm : m ≤ m') : Inc n L m' := by
  induction L generalizing n with
  | nil => exact Nat.le_trans h hm
  | cons x r ih => exact ⟨h.1, ih h.2⟩
theorem Inc.snoc {n m q m' : Nat} {L : List (Nat × List (List UInt8))} (h : Inc n L m) (hq : m ≤ q) (hm : q < m') (ws : List (List UInt8)) : Inc n (L ++ [(q, ws)]) m' := by
  induction L generalizing n with
  | nil => exact ⟨Nat.le_trans h hq, hm⟩
  | cons x r ih => exact ⟨h.1, ih h.2⟩
theorem Inc.ge {n m : Nat} {L : List (Nat × List (List UInt8))} (h : Inc n L m) : ∀ (i : Nat) (x : Nat × List (List UInt8)), L[i]? = some x → n ≤ x.1 := by
  induction L generalizing n with
  | nil => intro i x hx; simp at hx
  | cons y r ih =>
    intro i x hx
    cases i with
    | zero => simp at hx; subst hx; exact h.1
    | succ i =>
      have := ih h.2 i x (by simpa using hx)
      have := h.1
      omega
theorem Inc.lt {n m : Nat} {L : List (Nat × List (List UInt8))} (h : Inc n L m) : ∀ (i j : Nat) (x y : Nat × List (List UInt8)), i < j → L[i]? = some x → L[j]? = some y → x.1 < y.1 := by
  induction L generalizing n with
  | nil => intro i j x y _ hx; simp at hx
  | cons z r ih =>
    intro i j x y hij hx hy
    cases j with
    | zero => omega
    | succ j =>
      cases i with
      | zero =>
        simp at hx
        subst hx
        exact Inc.ge h.2 j y (by simpa using hy)
      | succ i => exact ih h.2 i j x y (by omega) (by simpa using hx) (by simpa using hy)
/-- A text of whole lines whose words are out. -/
def Blocks (T : List UInt8) (out : List (List (List UInt8))) : Prop :=
  okL T = true ∧ ∀ t n, ∃ m NL, numP (enumL n (linesGo [] (T ++ t))) = NL ++ numP (enumL m (linesGo [] t)) ∧ NL.map (·.2) = out ∧ Inc n NL m
theorem blocks_nil : Blocks [] [] := ⟨rfl, fun _ n => ⟨n, [], rfl, rfl, Nat.le_refl n⟩⟩
theorem Blocks.snoc {T U r e : List UInt8} {out : List (List (List UInt8))} {ws : List (List UInt8)} (h : Blocks T out) (hU : PartOf U ws) (hr : Rem r) (he : End e) :
    Blocks (T ++ (U ++ r ++ e)) (out ++ if ws = [] then [] else [ws]) := by
  obtain ⟨o1, f1⟩ := block_lines hU hr he
  refine ⟨by rw [okL_add, h.1, o1]; rfl, fun t n => ?_⟩
  obtain ⟨m, NL, e1, e2, e3⟩ := h.2 (U ++ r ++ e ++ t) n
  obtain ⟨m', hm, e4⟩ := f1 t m
  refine ⟨m', NL ++ lineOf m ws, ?_, ?_, ?_⟩
  · rw [show T ++ (U ++ r ++ e) ++ t = T ++ (U ++ r ++ e ++ t) by simp, e1, e4]; simp
  · unfold lineOf
    rw [List.map_append, e2]
    split <;> simp_all
  · unfold lineOf
    split
    · rw [List.append_nil]; exact e3.more (by omega)
    · exact e3.snoc (Nat.le_refl _) hm ws
theorem Blocks.lines {T : List UInt8} {out : List (List (List UInt8))} (h : Blocks T out) : ∃ m, (linesL T).map (·.2) = out ∧ Inc 1 (linesL T) m := by
  obtain ⟨m, NL, e1, e2, e3⟩ := h.2 [] 1
  have e0 : numP (enumL m (linesGo [] [])) = [] := rfl
  rw [List.append_nil, e0, List.append_nil] at e1
  refine ⟨m, ?_, ?_⟩
  · unfold linesL; rw [e1]; exact e2
  · unfold linesL; rw [e1]; exact e3
end Go.Proofs.YticdmlijacnjbaaGreatDoor
/- The plain facts of texts of lines: lines come back from their text; the text of a text's lines is no longer than it, but for one byte. No program in it. -/
namespace Go.Proofs.YticdmlijacnjbaaGreatDoor.Un
open Go.RowKit

/-- How long a line is in a text. -/
def szW (ws : List ByteArray) : Nat := (lineL ws).length + 1
def szL (l : List (List ByteArray)) : Nat := (l.map szW).sum
/-- The same of bytes. -/
def szB (ws : List (List UInt8)) : Nat := (ws.map fun x => x.length + 1).sum
theorem lineL_two (x y : ByteArray) (r : List ByteArray) : lineL (x :: y :: r) = x.data.toList ++ ([32] ++ lineL (y :: r)) := by simp [lineL, Lib.join, List.intercalate]
theorem lineL_one (x : ByteArray) : lineL [x] = x.data.toList := by simp [lineL, Lib.join, List.intercalate]
theorem szW_mk : ∀ (ws : List (List UInt8)), ws ≠ [] → szW (ws.map mkB) = szB ws
  | [], h => absurd rfl h
  | [x], _ => by simp [szW, szB, lineL_one, mkB_data]
  | x :: y :: r, _ => by
    have ih := szW_mk (y :: r) (by simp)
    unfold szW at ih ⊢
    have e : szB (x :: y :: r) = x.length + 1 + szB (y :: r) := by simp [szB]
    rw [e, ← ih]
    simp only [List.map_cons]
    rw [lineL_two, mkB_data]
    simp only [List.length_append, List.length_cons, List.length_nil]
    omega
theorem fields_size (cur r : List UInt8) : szB (fieldsGo cur r) ≤ cur.length + r.length + 1 := by
  induction r generalizing cur with
  | nil =>
    simp only [fieldsGo]
    split
    · simp [szB]
    · simp [szB]
  | cons c r ih =>
    simp only [fieldsGo]
    split
    · split
      · have := ih []; simp at this ⊢; omega
      · have := ih []
        have e : szB (cur :: fieldsGo [] r) = cur.length + 1 + szB (fieldsGo [] r) := by simp [szB]
        rw [e]; simp at this ⊢; omega
    · have := ih (cur ++ [c]); simp at this ⊢; omega
theorem words_size (l : List UInt8) : szB (wordsL l) ≤ l.length + 1 := by
  have h1 := fields_size [] (said l)
  have h2 := said_length l
  unfold wordsL
  simp at h1
  omega
theorem lines_sum (cur l : List UInt8) : ((linesGo cur l).map fun x => x.length + 1).sum = cur.length + l.length + 1 := by
  induction l generalizing cur with
  | nil => simp [linesGo]
  | cons c r ih =>
    simp only [linesGo]
    split
    · have := ih []; simp at this ⊢; omega
    · have := ih (cur ++ [c]); simp at this ⊢; omega
/-- The words of numbered lines. -/
abbrev wordsN (L : List (Nat × List (List UInt8))) : List (List ByteArray) := (asB L).map (·.2)
theorem wordsN_append (a b : List (Nat × List (List UInt8))) : wordsN (a ++ b) = wordsN a ++ wordsN b := by simp [wordsN, asB]
theorem szL_append (a b : List (List ByteArray)) : szL (a ++ b) = szL a + szL b := by simp [szL]
theorem num_size : ∀ (n : Nat) (l : List (List UInt8)), szL (wordsN (numP (enumL n l))) ≤ (l.map fun x => x.length + 1).sum
  | n, [] => by simp [enumL, numP, wordsN, asB, szL]
  | n, x :: r => by
    have ih := num_size (n + 1) r
    simp only [enumL]
    rw [numP_lineOf, wordsN_append, szL_append]
    have h1 : szL (wordsN (lineOf n (wordsL x))) ≤ x.length + 1 := by
      unfold lineOf
      split
      · simp [wordsN, asB, szL]
      · rename_i hne
        have : szL (wordsN [(n, wordsL x)]) = szW ((wordsL x).map mkB) := by simp [wordsN, asB, szL]
        rw [this, szW_mk _ hne]
        exact words_size x
    simp only [List.map_cons, List.sum_cons]
    omega
/-- The text of a text's lines is no longer than it, but for one byte. -/
theorem text_size (s : ByteArray) : szL (wordsT s) ≤ s.size + 1 := by
  unfold wordsT linV
  split
  · simp [asB, szL]
  · split
    · have h1 := num_size 1 (linesGo [] s.data.toList)
      rw [lines_sum, size_list] at h1
      simp only [List.length_nil, Nat.zero_add] at h1
      exact h1
    · simp [asB, szL]
/-! ### Words that come back -/
def rightW (ws : List ByteArray) : Prop := ws ≠ [] ∧ ∀ x ∈ ws, rightL x.data.toList = true
theorem fields_right (cur r : List UInt8) (hc : cur.all rwB = true) (hr : ∀ c ∈ r, gapB c = false → rwB c = true) : ∀ x ∈ fieldsGo cur r, rightL x = true := by
  induction r generalizing cur with
  | nil =>
    intro x hx
    simp only [fieldsGo] at hx
    split at hx
    · cases hx
    · rename_i hne
      simp at hx; subst hx
      unfold rightL
      rw [decide_eq_true hne, hc]; rfl
  | cons c r ih =>
    intro x hx
    simp only [fieldsGo] at hx
    have hr' : ∀ d ∈ r, gapB d = false → rwB d = true := fun d hd => hr d (List.mem_cons_of_mem _ hd)
    split at hx
    · split at hx
      · exact ih [] rfl hr' x hx
      · rename_i hne
        rcases List.mem_cons.1 hx with rfl | hx
        · unfold rightL
          rw [decide_eq_true hne, hc]; rfl
        · exact ih [] rfl hr' x hx
    · rename_i hg
      refine ih (cur ++ [c]) ?_ hr' x hx
      rw [List.all_append, hc]
      simp [hr c (List.mem_cons_self ..) (by simpa using hg)]
theorem said_no (l : List UInt8) : (35 : UInt8) ∉ said l := by
  induction l with
  | nil => simp [said]
  | cons c r ih =>
    simp only [said]
    split
    · simp
    · rename_i h
      simp only [List.mem_cons, not_or]
      exact ⟨fun e => h e.symm, ih⟩
theorem said_sub (l : List UInt8) : ∀ c ∈ said l, c ∈ l := by
  induction l with
  | nil => simp [said]
  | cons c r ih =>
    intro d hd
    simp only [said] at hd
    split at hd
    · cases hd
    · rcases List.mem_cons.1 hd with rfl | hd
      · exact List.mem_cons_self ..
      · exact List.mem_cons_of_mem _ (ih d hd)
theorem okB_right {c : UInt8} (h : okB c = true) (h10 : c ≠ 10) (h35 : c ≠ 35) (hg : gapB c = false) : rwB c = true := by
  unfold okB at h
  unfold gapB at hg
  rw [Bool.or_eq_false_iff, beq_eq_false_iff_ne, beq_eq_false_iff_ne] at hg
  rw [Bool.or_eq_true, Bool.or_eq_true, beq_iff_eq, beq_iff_eq, Bool.and_eq_true, decide_eq_true_eq, decide_eq_true_eq] at h
  unfold rwB
  apply decide_eq_true
  have n35 : c.toNat ≠ 35 := fun e => h35 (UInt8.toNat_inj.1 (by rw [e]; rfl))
  have n32 : c.toNat ≠ 32 := fun e => hg.2 (UInt8.toNat_inj.1 (by rw [e]; rfl))
  rcases h with (h | h) | h
  · exact absurd h hg.1
  · exact absurd h h10
  · omega
theorem linesGo_no10 (cur l : List UInt8) (hc : (10 : UInt8) ∉ cur) : ∀ x ∈ linesGo cur l, (10 : UInt8) ∉ x := by
  induction l generalizing cur with
  | nil => intro x hx; simp [linesGo] at hx; subst hx; exact hc
  | cons c r ih =>
    intro x hx
    simp only [linesGo] at hx
    split at hx
    · rcases List.mem_cons.1 hx with rfl | hx
      · exact hc
      · exact ih [] (by simp) x hx
    · rename_i h
      exact ih (cur ++ [c]) (by simp [hc, Ne.symm h]) x hx
theorem num_right : ∀ (n : Nat) (l : List (List UInt8)), (∀ x ∈ l, okL x = true ∧ (10 : UInt8) ∉ x) → ∀ ws ∈ wordsN (numP (enumL n l)), rightW ws
  | n, [], _ => by intro ws hw; simp [enumL, numP, wordsN, asB] at hw
  | n, x :: r, h => by
    intro ws hw
    simp only [enumL] at hw
    rw [numP_lineOf, wordsN_append] at hw
    rcases List.mem_append.1 hw with hw | hw
    · unfold lineOf at hw
      split at hw
      · simp [wordsN, asB] at hw
      · rename_i hne
        have e : wordsN [(n, wordsL x)] = [(wordsL x).map mkB] := by simp [wordsN, asB]
        rw [e] at hw
        simp only [List.mem_singleton] at hw
        subst hw
        refine ⟨by simpa using hne, fun y hy => ?_⟩
        obtain ⟨z, hz, rfl⟩ := List.mem_map.1 hy
        rw [mkB_data]
        obtain ⟨h1, h2⟩ := h x (List.mem_cons_self ..)
        refine fields_right [] (said x) rfl (fun c hc hg => ?_) z hz
        have hcx := said_sub x c hc
        exact okB_right (List.all_eq_true.1 h1 c hcx) (fun e => h2 (e ▸ hcx)) (fun e => said_no x (e ▸ hc)) hg
    · exact num_right (n + 1) r (fun y hy => h y (List.mem_cons_of_mem _ hy)) ws hw
/-- The words of a text's lines are such. -/
theorem text_right (s : ByteArray) : ∀ ws ∈ wordsT s, rightW ws := by
  intro ws hw
  unfold wordsT linV at hw
  split at hw
  · simp [asB] at hw
  · split at hw
    · rename_i ho
      refine num_right 1 (linesGo [] s.data.toList) (fun x hx => ⟨?_, linesGo_no10 [] _ (by simp) x hx⟩) ws hw
      exact (linesGo_all okB [] s.data.toList rfl ho x hx).1
    · simp [asB] at hw
theorem part_words : ∀ (ws : List (List UInt8)), ws ≠ [] → (∀ x ∈ ws, rightL x = true) → ∀ (U : List UInt8) (vs : List (List UInt8)), GapPart U vs → PartOf (U ++ Lib.join ws [32]) (vs ++ ws)
  | [], h, _ => absurd rfl h
  | [x], _, h => fun U vs hU => by
    have e : Lib.join [x] [32] = x := by simp [Lib.join, List.intercalate]
    rw [e]
    exact hU.word (h x (by simp))
  | x :: y :: r, _, h => fun U vs hU => by
    have e : Lib.join (x :: y :: r) [32] = x ++ ([32] ++ Lib.join (y :: r) [32]) := by simp [Lib.join, List.intercalate]
    rw [e]
    have h1 := hU.word (h x (by simp))
    have h2 := h1.gap (g := [32]) (by simp) rfl (by simp)
    have h3 := part_words (y :: r) (by simp) (fun z hz => h z (List.mem_cons_of_mem _ hz)) _ _ h2
    simpa using h3
/-- The text of lines. -/
def textW (l : List (List ByteArray)) : List UInt8 := l.flatMap fun ws => lineL ws ++ [10]
theorem textW_length (l : List (List ByteArray)) : (textW l).length = szL l := by
  induction l with
  | nil => rfl
  | cons ws l ih =>
    have e : textW (ws :: l) = (lineL ws ++ [10]) ++ textW l := rfl
    rw [e, List.length_append, ih]
    simp [szL, szW]
theorem joinL_text (L : List (Int × List ByteArray)) : joinL L = textW (L.map (·.2)) := by
  unfold joinL textW
  rw [List.flatMap_map]
theorem text_blocks (l : List (List ByteArray)) (h : ∀ ws ∈ l, rightW ws) : Blocks (textW l) (l.map fun ws => ws.map (·.data.toList)) := by
  suffices H : ∀ (l k : List (List ByteArray)), (∀ ws ∈ k, rightW ws) → Blocks (textW l) (l.map fun ws => ws.map (·.data.toList)) → Blocks (textW (l ++ k)) ((l ++ k).map fun ws => ws.map (·.data.toList)) by
    simpa using H [] l h blocks_nil
  intro l k
  induction k generalizing l with
  | nil => intro _ hb; simpa using hb
  | cons ws k ih =>
    intro hk hb
    have h1 := hk ws (List.mem_cons_self ..)
    have hne : ws.map (·.data.toList) ≠ [] := by simpa using h1.1
    have hp : PartOf (lineL ws) (ws.map (·.data.toList)) := by
      have hg : GapPart [] [] := (part_start (g := []) rfl).gap0
      have := part_words (ws.map (·.data.toList)) hne (fun x hx => by
        obtain ⟨y, hy, rfl⟩ := List.mem_map.1 hx
        exact h1.2 y hy) [] [] hg
      simpa [lineL] using this
    have hs := hb.snoc (r := []) (e := [10]) hp (.inl rfl) (.inl rfl)
    rw [if_neg hne] at hs
    have e1 : textW (l ++ [ws]) = textW l ++ (lineL ws ++ [] ++ [10]) := by simp [textW]
    have hb' : Blocks (textW (l ++ [ws])) ((l ++ [ws]).map fun ws => ws.map (·.data.toList)) := by
      rw [e1]; simpa using hs
    have := ih (l ++ [ws]) (fun u hu => hk u (List.mem_cons_of_mem _ hu)) hb'
    simpa using this
/-- Lines come back from their text. -/
theorem text_back (l : List (List ByteArray)) (h : ∀ ws ∈ l, rightW ws) (hs : szL l ≤ 20000) : linE (mkB (textW l)).data.toList = 0 ∧ wordsT (mkB (textW l)) = l := by
  have hb := text_blocks l h
  obtain ⟨m, hm, _⟩ := hb.lines
  have hlen : ¬ 20000 < (textW l).length := by rw [textW_length]; omega
  have e1 : linE (textW l) = 0 := by unfold linE; rw [if_neg hlen, if_pos hb.1]
  have e2 : linV (textW l) = linesL (textW l) := by unfold linV; rw [if_neg hlen, if_pos hb.1]
  rw [mkB_data]
  refine ⟨e1, ?_⟩
  unfold wordsT
  rw [mkB_data, e2]
  unfold asB
  rw [List.map_map]
  have e3 : (fun x : Int × List ByteArray => x.2) ∘ (fun x : Nat × List (List UInt8) => ((x.1 : Int), x.2.map mkB)) = (fun x : List (List UInt8) => x.map mkB) ∘ (fun x : Nat × List (List UInt8) => x.2) := rfl
  rw [e3, ← List.map_map, hm, List.map_map]
  conv => rhs; rw [← List.map_id l]
  refine List.map_congr_left fun ws _ => ?_
  simp only [Function.comp, id, List.map_map]
  conv => rhs; rw [← List.map_id ws]
  refine List.map_congr_left fun x _ => ?_
  exact mkB_list x
end Go.Proofs.YticdmlijacnjbaaGreatDoor.Un
/- The walks of the document's Same and Rise over accounts; how two accounts compare. -/
namespace Go.Proofs.YticdmlijacnjbaaGreatDoor
open Go.RowKit

def eqA (a b : Acct) : Bool := decide (a = b)
def eqFs (a b : Acct) : Bool := a.code.toList == b.code.toList && (a.cls == b.cls && (a.cash == b.cash && (a.both == b.both && (a.fixed.toList == b.fixed.toList && a.worn == b.worn))))
theorem eqFs_eq (a b : Acct) : eqFs a b = eqA a b := by
  unfold eqFs eqA
  rw [Bool.eq_iff_iff]
  simp only [Bool.and_eq_true, beq_iff_eq, decide_eq_true_eq]
  constructor
  · rintro ⟨h0, h1, h2, h3, h4, h5⟩
    exact Acct.ext' (toList_inj h0) h1 h2 h3 (toList_inj h4) h5
  · rintro rfl; exact ⟨rfl, rfl, rfl, rfl, rfl, rfl⟩
theorem eql_ref (a b : Acct) (w : World) : Sem.run Tryz.prog (binOp .eql 99 (aggF a) (aggF b)) w = .ok (.bool (eqA a b)) w := by
  have hS : Tryz.prog.underlying 99 = some (.struct (Tryz.prog.fieldsOf 99)) := by kernel_rfl
  have hp : Tryz.prog.stoodInHeld 99 = false := by kernel_rfl
  rw [run_eql_struct, show (10000 : Nat) = 9999 + 1 from rfl, run_equalIn_agg w 9999 99 _ _ hS hp, ← eqFs_eq]
  simp only [Program.fieldsOf, Tryz.underlying99]
  go_simp
  unfold eqFs
  by_cases h0 : a.code.toList = b.code.toList
  · by_cases h1 : a.cls = b.cls
    · by_cases h2 : a.cash = b.cash
      · by_cases h3 : a.both = b.both
        · by_cases h4 : a.fixed.toList = b.fixed.toList
          · by_cases h5 : a.worn = b.worn <;> simp [h0, h1, h2, h3, h4, h5]
          · simp [h0, h1, h2, h3, h4]
        · simp [h0, h1, h2, h3]
      · simp [h0, h1, h2]
    · simp [h0, h1]
  · simp [h0]
theorem neq_ref (a b : Acct) (w : World) : Sem.run Tryz.prog (binOp .neq 99 (aggF a) (aggF b)) w = .ok (.bool (!eqA a b)) w := by
  have hS : Tryz.prog.underlying 99 = some (.struct (Tryz.prog.fieldsOf 99)) := by kernel_rfl
  have hp : Tryz.prog.stoodInHeld 99 = false := by kernel_rfl
  rw [run_neq_struct, show (10000 : Nat) = 9999 + 1 from rfl, run_equalIn_agg w 9999 99 _ _ hS hp, ← eqFs_eq]
  simp only [Program.fieldsOf, Tryz.underlying99]
  go_simp
  unfold eqFs
  by_cases h0 : a.code.toList = b.code.toList
  · by_cases h1 : a.cls = b.cls
    · by_cases h2 : a.cash = b.cash
      · by_cases h3 : a.both = b.both
        · by_cases h4 : a.fixed.toList = b.fixed.toList
          · by_cases h5 : a.worn = b.worn <;> simp [h0, h1, h2, h3, h4, h5]
          · simp [h0, h1, h2, h3, h4]
        · simp [h0, h1, h2, h3]
      · simp [h0, h1, h2]
    · simp [h0, h1]
  · simp [h0]
theorem eql_acc (a b : Acct) (w : World) : Sem.run Tryz.prog (binOp .eql 89 (aggF a) (aggF b)) w = .ok (.bool (eqA a b)) w := by
  have hS : Tryz.prog.underlying 89 = some (.struct (Tryz.prog.fieldsOf 89)) := by kernel_rfl
  have hp : Tryz.prog.stoodInHeld 89 = false := by kernel_rfl
  rw [run_eql_struct, show (10000 : Nat) = 9999 + 1 from rfl, run_equalIn_agg w 9999 89 _ _ hS hp, ← eqFs_eq]
  simp only [Program.fieldsOf, Tryz.underlying89]
  go_simp
  unfold eqFs
  by_cases h0 : a.code.toList = b.code.toList
  · by_cases h1 : a.cls = b.cls
    · by_cases h2 : a.cash = b.cash
      · by_cases h3 : a.both = b.both
        · by_cases h4 : a.fixed.toList = b.fixed.toList
          · by_cases h5 : a.worn = b.worn <;> simp [h0, h1, h2, h3, h4, h5]
          · simp [h0, h1, h2, h3, h4]
        · simp [h0, h1, h2, h3]
      · simp [h0, h1, h2]
    · simp [h0, h1]
  · simp [h0]
theorem neq_acc (a b : Acct) (w : World) : Sem.run Tryz.prog (binOp .neq 89 (aggF a) (aggF b)) w = .ok (.bool (!eqA a b)) w := by
  have hS : Tryz.prog.underlying 89 = some (.struct (Tryz.prog.fieldsOf 89)) := by kernel_rfl
  have hp : Tryz.prog.stoodInHeld 89 = false := by kernel_rfl
  rw [run_neq_struct, show (10000 : Nat) = 9999 + 1 from rfl, run_equalIn_agg w 9999 89 _ _ hS hp, ← eqFs_eq]
  simp only [Program.fieldsOf, Tryz.underlying89]
  go_simp
  unfold eqFs
  by_cases h0 : a.code.toList = b.code.toList
  · by_cases h1 : a.cls = b.cls
    · by_cases h2 : a.cash = b.cash
      · by_cases h3 : a.both = b.both
        · by_cases h4 : a.fixed.toList = b.fixed.toList
          · by_cases h5 : a.worn = b.worn <;> simp [h0, h1, h2, h3, h4, h5]
          · simp [h0, h1, h2, h3, h4]
        · simp [h0, h1, h2, h3]
      · simp [h0, h1, h2]
    · simp [h0, h1]
  · simp [h0]
theorem guard_ref : Tryz.prog.eqGuardType Tryz.prog.depth 99 = false := by kernel_rfl
theorem guard_acc : Tryz.prog.eqGuardType Tryz.prog.depth 89 = false := by kernel_rfl
theorem eqA_iff (a b : Acct) : eqA a b = true ↔ a = b := by simp [eqA]
theorem eqA_no (a b : Acct) : eqA a b = false ↔ a ≠ b := by simp [eqA]
theorem cellQ (w : World) (q : Nat) (p : Addr) : (w.drewN q).cell? p = w.cell? p := rfl
theorem AcctAt.drewN {w : World} {b o : Nat} {a : Acct} (h : AcctAt w b o a) (q : Nat) : AcctAt (w.drewN q) b o a := ⟨h.c0, h.c1, h.c2, h.c3, h.c4, h.c5⟩
def sameA (L M : List Acct) : Bool := decide (L = M)
theorem sameA_len {us vs : List Acct} (h : us.length ≠ vs.length) : sameA us vs = false := decide_eq_false fun e => h (by rw [e])
theorem sameA_no {us vs : List Acct} {i : Nat} {x y : Acct} (hx : us[i]? = some x) (hy : vs[i]? = some y) (h : x ≠ y) : sameA us vs = false :=
  decide_eq_false fun e => h (by rw [e, hy] at hx; exact (Option.some.inj hx).symm)
theorem sameA_yes {us vs : List Acct} {n : Nat} (hu : us.length = n) (hv : vs.length = n) (h : ∀ (j : Nat) (x y : Acct), j < n → us[j]? = some x → vs[j]? = some y → x = y) : sameA us vs = true :=
  decide_eq_true (by
    apply List.ext_getElem?
    intro j
    by_cases hj : j < n
    · rw [List.getElem?_eq_getElem (by omega), List.getElem?_eq_getElem (by omega)]
      rw [h j _ _ hj (List.getElem?_eq_getElem (by omega)) (List.getElem?_eq_getElem (by omega))]
    · rw [List.getElem?_eq_none (by omega), List.getElem?_eq_none (by omega)])

set_option maxRecDepth 100000 in
set_option maxHeartbeats 4000000 in
theorem same_any (v u : Value) (vs us : List Acct) (w : World) (h : ChartV w v vs) (h' : ChartV w u us) :
    Calls Tryz.prog 30 #[v, u] w fun e w' => e = .returned (.bool (sameA vs us)) ∧ ∃ q, w' = w.drewN q := by
  obtain ⟨a, c, rfl, hk, hm, _, hc⟩ := h
  obtain ⟨a', c', rfl, hk', hm', _, hc'⟩ := h'
  obtain ⟨n, hn⟩ : ∃ n, vs.length = n := ⟨_, rfl⟩
  obtain ⟨n', hn'⟩ : ∃ n, us.length = n := ⟨_, rfl⟩
  obtain ⟨r, hr⟩ : ∃ r, sameA vs us = r := ⟨_, rfl⟩
  rw [hn] at hk ⊢
  rw [hn'] at hk' ⊢
  rw [hr]
  have H := Lib.hid hc
  have H' := Lib.hid hc'
  have HN := Lib.hid hn
  have HN' := Lib.hid hn'
  have HR := Lib.hid hr
  unfold maxLen at hm hm'
  clear hc hc' hn hn' hr
  by_cases hne : n = n'
  · subst hne
    have hnn : ((n : Int) != (n : Int)) = false := by simp
    have hgd := guard_ref
    go_enter Tryz.func30, Tryz.ntmps30
    go_wp2
    go_loopg [5] n (fun kx vi wr => ∃ i q : Nat, vi = .int .i64 (i : Int) ∧ i ≤ n ∧ n - i ≤ kx ∧ Hid (wr = w.drewN q) ∧ Hid (∀ (j : Nat) (x y : Acct), j < i → vs[j]? = some x → us[j]? = some y → x = y))
    case atStart => exact ⟨0, 0, rfl, Nat.zero_le _, by omega, rfl, Lib.hid fun j x y hj => absurd hj (Nat.not_lt_zero _)⟩
    case round =>
      obtain ⟨i, q, rfl, hin, hkx, HW, HA⟩ := hrel
      by_cases hlt : i < n
      · obtain ⟨x, hx⟩ : ∃ y, vs[i]? = some y := ⟨_, List.getElem?_eq_getElem (by rw [HN.out]; exact hlt)⟩
        obtain ⟨y, hy⟩ : ∃ y, us[i]? = some y := ⟨_, List.getElem?_eq_getElem (by rw [HN'.out]; exact hlt)⟩
        obtain ⟨b1, o1, rfl, d1⟩ := H.out i _ hx
        obtain ⟨b2, o2, rfl, d2⟩ := H'.out i _ hy
        have HX := Lib.hid hx
        have HY := Lib.hid hy
        clear hx hy
        have hd1 := d1.drewN q
        have hd2 := d2.drewN q
        rw [← HW.out] at hd1 hd2
        obtain ⟨e0, e1, e2, e3, e4, e5⟩ := hd1
        obtain ⟨k0, k1, k2, k3, k4, k5⟩ := hd2
        clear d1 d2
        have hltz : (i : Int) < (n : Int) := by omega
        have hq := neq_ref x y
        cases hxy : eqA x y with
        | true =>
          have HXE := Lib.hid ((eqA_iff x y).1 hxy)
          rw [hxy] at hq
          clear hxy
          go_wp2_with fail
          go_big_quiet (fail)
          clear e0 e1 e2 e3 e4 e5 k0 k1 k2 k3 k4 k5
          go_wp2
          go_roundg (n - (i + 1))
          case measure => omega
          case rel => exact ⟨i + 1, q + nq, by first | rfl | go_num, by omega, Nat.le_refl _, Lib.hid (by rw [HW.out, World.drewN_drewN]), Lib.hid fun j z t hj hz ht => by
            rcases Nat.lt_or_ge j i with h | h
            · exact HA.out j z t h hz ht
            · obtain rfl : j = i := by omega
              rw [HX.out] at hz; rw [HY.out] at ht
              cases hz; cases ht; exact HXE.out⟩
        | false =>
          have HXE := Lib.hid ((eqA_no x y).1 hxy)
          rw [hxy] at hq
          clear hxy
          go_wp2_with fail
          go_big_quiet (fail)
          clear e0 e1 e2 e3 e4 e5 k0 k1 k2 k3 k4 k5
          go_wp2
          go_ret
          exact ⟨ret_bool (by rw [← HR.out, sameA_no HX.out HY.out HXE.out]), q + nq, by rw [HW.out, World.drewN_drewN]⟩
      · have hltz : ¬ (i : Int) < (n : Int) := by omega
        go_wp2
        go_ret
        exact ⟨ret_bool (by rw [← HR.out, sameA_yes HN.out HN'.out fun j x y hj => HA.out j x y (by omega)]), q, HW.out⟩
  · have hnn : ((n : Int) != (n' : Int)) = true := by simp; omega
    have HNE := Lib.hid hne
    clear hne
    go_enter Tryz.func30, Tryz.ntmps30
    go_wp2
    go_ret
    exact ⟨ret_bool (by rw [← HR.out, sameA_len (by rw [HN.out, HN'.out]; exact HNE.out)]), 0, rfl⟩
end Go.Proofs.YticdmlijacnjbaaGreatDoor
