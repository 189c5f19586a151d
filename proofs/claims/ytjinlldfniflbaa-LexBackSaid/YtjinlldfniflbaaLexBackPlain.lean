
/- The plain facts of LexBack: a text of words, gaps, remarks and ends has just these words, line by line. No program in it. -/
import Derived.Test.YtjinlldfniflbaaLexPlain
namespace Go.Proofs.Ytjinlldfniflbaa

def rwB (c : UInt8) : Bool := decide (33 ≤ c.toNat ∧ c.toNat ≤ 126 ∧ c.toNat ≠ 35)
/-- May a word be asked to come back? -/
def rightL (l : List UInt8) : Bool := decide (l ≠ []) && l.all rwB
/-- The words of what is read, the last one of ws being open. -/
def openF (ws : List (List UInt8)) (r : List UInt8) : List (List UInt8) := match ws.getLast? with
  | none => fieldsGo [] r
  | some x => ws.dropLast ++ fieldsGo x r
theorem openF_nil (r : List UInt8) : openF [] r = fieldsGo [] r := rfl
theorem openF_snoc (ws : List (List UInt8)) (x r : List UInt8) : openF (ws ++ [x]) r = ws ++ fieldsGo x r := by simp [openF]
/-- A line's beginning, up to the end of a word; up to a gap behind it. -/
structure PartOf (U : List UInt8) (ws : List (List UInt8)) : Prop where
  ok : okL U = true
  n10 : (10 : UInt8) ∉ U
  n35 : (35 : UInt8) ∉ U
  ne : ∀ x ∈ ws, x ≠ []
  fl : ∀ r, fieldsGo [] (U ++ r) = openF ws r
structure GapPart (U : List UInt8) (ws : List (List UInt8)) : Prop where
  ok : okL U = true
  n10 : (10 : UInt8) ∉ U
  n35 : (35 : UInt8) ∉ U
  ne : ∀ x ∈ ws, x ≠ []
  fl : ∀ r, fieldsGo [] (U ++ r) = ws ++ fieldsGo [] r
theorem okL_add (a b : List UInt8) : okL (a ++ b) = (okL a && okL b) := by simp [okL]
theorem gap_facts {g : List UInt8} (h : g.all gapB = true) : okL g = true ∧ (10 : UInt8) ∉ g ∧ (35 : UInt8) ∉ g := by
  have h1 := List.all_eq_true.1 h
  refine ⟨List.all_eq_true.2 fun c hc => ?_, fun hm => ?_, fun hm => ?_⟩
  · have := h1 c hc
    unfold gapB at this
    rw [Bool.or_eq_true, beq_iff_eq, beq_iff_eq] at this
    rcases this with rfl | rfl <;> decide
  · have := h1 _ hm; revert this; decide
  · have := h1 _ hm; revert this; decide
theorem right_facts {x : List UInt8} (h : rightL x = true) : x ≠ [] ∧ okL x = true ∧ (10 : UInt8) ∉ x ∧ (35 : UInt8) ∉ x ∧ x.all (fun c => !gapB c) = true := by
  unfold rightL at h
  rw [Bool.and_eq_true] at h
  have h0 := of_decide_eq_true h.1
  have h1 := List.all_eq_true.1 h.2
  refine ⟨h0, List.all_eq_true.2 fun c hc => ?_, fun hm => ?_, fun hm => ?_, List.all_eq_true.2 fun c hc => ?_⟩
  · have := of_decide_eq_true (h1 c hc)
    unfold okB
    rw [Bool.or_eq_true, Bool.and_eq_true]
    exact .inr ⟨decide_eq_true (by omega), decide_eq_true (by omega)⟩
  · have := h1 _ hm; revert this; decide
  · have := h1 _ hm; revert this; decide
  · have := of_decide_eq_true (h1 c hc)
    have h9 : c ≠ 9 := fun e => by subst e; revert this; decide
    have h32 : c ≠ 32 := fun e => by subst e; revert this; decide
    simp [gapB, h9, h32]
theorem part_start {g : List UInt8} (h : g.all gapB = true) : PartOf g [] := by
  obtain ⟨h1, h2, h3⟩ := gap_facts h
  exact ⟨h1, h2, h3, (fun x hx => by cases hx), fun r => by rw [fieldsGo_gap0 g r h, openF_nil]⟩
theorem PartOf.gap0 {U : List UInt8} (h : PartOf U []) : GapPart U [] := ⟨h.ok, h.n10, h.n35, h.ne, fun r => by rw [h.fl, openF_nil]; rfl⟩
theorem PartOf.gap {U g : List UInt8} {ws : List (List UInt8)} (h : PartOf U ws) (hw : ws ≠ []) (hg : g.all gapB = true) (hg0 : g ≠ []) : GapPart (U ++ g) ws := by
  obtain ⟨h1, h2, h3⟩ := gap_facts hg
  refine ⟨by rw [okL_add, h.ok, h1]; rfl, by simp [h.n10, h2], by simp [h.n35, h3], h.ne, fun r => ?_⟩
  obtain ⟨ws', x, rfl⟩ : ∃ ws' x, ws = ws' ++ [x] := ⟨ws.dropLast, ws.getLast hw, (List.dropLast_concat_getLast hw).symm⟩
  rw [List.append_assoc, h.fl, openF_snoc, fieldsGo_gap x g r hg0 (h.ne x (by simp)) hg]
  simp
theorem GapPart.word {U x : List UInt8} {ws : List (List UInt8)} (h : GapPart U ws) (hx : rightL x = true) : PartOf (U ++ x) (ws ++ [x]) := by
  obtain ⟨h0, h1, h2, h3, h4⟩ := right_facts hx
  refine ⟨by rw [okL_add, h.ok, h1]; rfl, by simp [h.n10, h2], by simp [h.n35, h3], fun y hy => ?_, fun r => ?_⟩
  · rcases List.mem_append.1 hy with hy | hy
    · exact h.ne y hy
    · simp at hy; subst hy; exact h0
  · rw [List.append_assoc, h.fl, fieldsGo_word [] x r h4, openF_snoc]; rfl
theorem PartOf.closed {U : List UInt8} {ws : List (List UInt8)} (h : PartOf U ws) : fieldsGo [] U = ws ∧ fieldsGo [] (U ++ [32]) = ws := by
  by_cases hw : ws = []
  · subst hw
    have h1 := h.fl []
    have h2 := h.fl [32]
    rw [List.append_nil] at h1
    rw [h1, h2]
    exact ⟨rfl, rfl⟩
  · obtain ⟨ws', x, rfl⟩ : ∃ ws' x, ws = ws' ++ [x] := ⟨ws.dropLast, ws.getLast hw, (List.dropLast_concat_getLast hw).symm⟩
    have h0 := h.ne x (by simp)
    have h1 := h.fl []
    have h2 := h.fl [32]
    rw [List.append_nil] at h1
    rw [h1, h2, openF_snoc, openF_snoc]
    have e1 : fieldsGo x [] = [x] := by simp [fieldsGo, h0]
    have e2 : fieldsGo x [32] = [x] := by simp [fieldsGo, h0, gapB]
    rw [e1, e2]
    exact ⟨rfl, rfl⟩
/-- A remark, and an end. -/
def Rem (r : List UInt8) : Prop := r = [] ∨ r = [32, 35, 32, 97, 32, 114, 101, 109, 97, 114, 107] ∨ r = [35]
def End (e : List UInt8) : Prop := e = [10] ∨ e = [10, 10] ∨ e = [10, 35, 10]
theorem rem_words {U r : List UInt8} {ws : List (List UInt8)} (h : PartOf U ws) (hr : Rem r) : wordsL (U ++ r) = ws ∧ okL (U ++ r) = true ∧ (10 : UInt8) ∉ U ++ r := by
  obtain ⟨c1, c2⟩ := h.closed
  unfold wordsL
  rcases hr with rfl | rfl | rfl
  · rw [List.append_nil]
    exact ⟨by rw [said_none U h.n35]; exact c1, h.ok, h.n10⟩
  · refine ⟨?_, by rw [okL_add, h.ok]; decide, by simp [h.n10]⟩
    have e : U ++ [32, 35, 32, 97, 32, 114, 101, 109, 97, 114, 107] = (U ++ [32]) ++ 35 :: [32, 97, 32, 114, 101, 109, 97, 114, 107] := by simp
    rw [e, said_mark (U ++ [32]) _ (by simp [h.n35])]
    exact c2
  · refine ⟨?_, by rw [okL_add, h.ok]; decide, by simp [h.n10]⟩
    rw [said_mark U [] h.n35]
    exact c1
def lineOf (n : Nat) (ws : List (List UInt8)) : List (Nat × List (List UInt8)) := if ws = [] then [] else [(n, ws)]
theorem numP_lineOf (n : Nat) (x : List UInt8) (r : List (Nat × List UInt8)) : numP ((n, x) :: r) = lineOf n (wordsL x) ++ numP r := by simp [numP, lineOf]
theorem block_lines {U r e : List UInt8} {ws : List (List UInt8)} (h : PartOf U ws) (hr : Rem r) (he : End e) :
    okL (U ++ r ++ e) = true ∧ ∀ t n, ∃ m, n < m ∧ numP (enumL n (linesGo [] (U ++ r ++ e ++ t))) = lineOf n ws ++ numP (enumL m (linesGo [] t)) := by
  obtain ⟨h1, h2, h3⟩ := rem_words h hr
  have w0 : wordsL [] = [] := rfl
  have w1 : wordsL [35] = [] := rfl
  have l0 : ∀ n, lineOf n [] = [] := fun n => rfl
  refine ⟨by rw [okL_add, h2]; rcases he with rfl | rfl | rfl <;> decide, fun t n => ?_⟩
  rcases he with rfl | rfl | rfl
  · refine ⟨n + 1, by omega, ?_⟩
    rw [show U ++ r ++ [10] ++ t = (U ++ r) ++ 10 :: t by simp, linesGo_cut _ _ h3]
    simp only [enumL]
    rw [numP_lineOf, h1]
  · refine ⟨n + 1 + 1, by omega, ?_⟩
    rw [show U ++ r ++ [10, 10] ++ t = (U ++ r) ++ 10 :: ([] ++ 10 :: t) by simp, linesGo_cut _ _ h3, linesGo_cut [] t (by simp)]
    simp only [enumL]
    rw [numP_lineOf, numP_lineOf, h1, w0, l0]
    simp
  · refine ⟨n + 1 + 1, by omega, ?_⟩
    rw [show U ++ r ++ [10, 35, 10] ++ t = (U ++ r) ++ 10 :: ([35] ++ 10 :: t) by simp, linesGo_cut _ _ h3, linesGo_cut [35] t (by decide)]
    simp only [enumL]
    rw [numP_lineOf, numP_lineOf, h1, w1, l0]
    simp
/-- Numbers rise from n on, and stay below m. -/
def Inc (n : Nat) : List (Nat × List (List UInt8)) → Nat → Prop
  | [], m => n ≤ m
  | x :: r, m => n ≤ x.1 ∧ Inc (x.1 + 1) r m
theorem Inc.more {n m m' : Nat} {L : List (Nat × List (List UInt8))} (h : Inc n L m) (hm : m ≤ m') : Inc n L m' := by
  induction L generalizing n with
  | nil => exact Nat.le_trans h hm
  | cons x r ih => exact ⟨h.1, ih h.2⟩
theorem Inc.snoc {n m q m' : Nat} {L : List (Nat × List (List UInt8))} (h : Inc n L m) (hq : m ≤ q) (hm : q < m') (ws : List (List UInt8)) : Inc n (L ++ [(q, ws)]) m' := by
  induction L generalizing n with
  | nil => exact ⟨Nat.le_trans h hq, hm⟩
  | cons x r ih => exact ⟨h.1, ih h.2⟩
theorem Inc.ge {n m : Nat} {L : List (Nat × List (List UInt8))} (h : Inc n L m) : ∀ (i : Nat) (x : Nat × List (List UInt8)), L[i]? = some x → n ≤ x.1 := by
  induction L generalizing n with
  | nil => intro i x hx; simp at hx
  | cons y r ih =>
    intro i x hx
    cases i with
    | zero => simp at hx; subst hx; exact h.1
    | succ i =>
      have := ih h.2 i x (by simpa using hx)
      have := h.1
      omega
theorem Inc.lt {n m : Nat} {L : List (Nat × List (List UInt8))} (h : Inc n L m) : ∀ (i j : Nat) (x y : Nat × List (List UInt8)), i < j → L[i]? = some x → L[j]? = some y → x.1 < y.1 := by
  induction L generalizing n with
  | nil => intro i j x y _ hx; simp at hx
  | cons z r ih =>
    intro i j x y hij hx hy
    cases j with
    | zero => omega
    | succ j =>
      cases i with
      | zero =>
        simp at hx
        subst hx
        exact Inc.ge h.2 j y (by simpa using hy)
      | succ i => exact ih h.2 i j x y (by omega) (by simpa using hx) (by simpa using hy)
/-- A text of whole lines whose words are out. -/
def Blocks (T : List UInt8) (out : List (List (List UInt8))) : Prop :=
  okL T = true ∧ ∀ t n, ∃ m NL, numP (enumL n (linesGo [] (T ++ t))) = NL ++ numP (enumL m (linesGo [] t)) ∧ NL.map (·.2) = out ∧ Inc n NL m
theorem blocks_nil : Blocks [] [] := ⟨rfl, fun _ n => ⟨n, [], rfl, rfl, Nat.le_refl n⟩⟩
theorem Blocks.snoc {T U r e : List UInt8} {out : List (List (List UInt8))} {ws : List (List UInt8)} (h : Blocks T out) (hU : PartOf U ws) (hr : Rem r) (he : End e) :
    Blocks (T ++ (U ++ r ++ e)) (out ++ if ws = [] then [] else [ws]) := by
  obtain ⟨o1, f1⟩ := block_lines hU hr he
  refine ⟨by rw [okL_add, h.1, o1]; rfl, fun t n => ?_⟩
  obtain ⟨m, NL, e1, e2, e3⟩ := h.2 (U ++ r ++ e ++ t) n
  obtain ⟨m', hm, e4⟩ := f1 t m
  refine ⟨m', NL ++ lineOf m ws, ?_, ?_, ?_⟩
  · rw [show T ++ (U ++ r ++ e) ++ t = T ++ (U ++ r ++ e ++ t) by simp, e1, e4]; simp
  · unfold lineOf
    rw [List.map_append, e2]
    split <;> simp_all
  · unfold lineOf
    split
    · rw [List.append_nil]; exact e3.more (by omega)
    · exact e3.snoc (Nat.le_refl _) hm ws
theorem Blocks.lines {T : List UInt8} {out : List (List (List UInt8))} (h : Blocks T out) : ∃ m, (linesL T).map (·.2) = out ∧ Inc 1 (linesL T) m := by
  obtain ⟨m, NL, e1, e2, e3⟩ := h.2 [] 1
  have e0 : numP (enumL m (linesGo [] [])) = [] := rfl
  rw [List.append_nil, e0, List.append_nil] at e1
  refine ⟨m, ?_, ?_⟩
  · unfold linesL; rw [e1]; exact e2
  · unfold linesL; rw [e1]; exact e3
end Go.Proofs.Ytjinlldfniflbaa
