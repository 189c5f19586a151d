
/- The plain facts of layer flow: flows, which may be, their words, the flow of words, lists of them. No program in it. -/
import Derived.Test.YtkacidoflmbjkaaDoorSorted
import Derived.Test.YtkacidoflmbjkaaDoorEls
namespace Go.Proofs.YtkacidoflmbjkaaDoor.Fl
open Go.RowKit

structure Flow where
  code : ByteArray
  kind : Int
theorem Flow.ext' {a b : Flow} (h0 : a.code = b.code) (h1 : a.kind = b.kind) : a = b := by
  cases a; cases b; simp_all
instance : DecidableEq Flow := fun a b =>
  if h : a.code = b.code ∧ a.kind = b.kind then isTrue (Flow.ext' h.1 h.2)
  else isFalse fun e => h (by subst e; exact ⟨rfl, rfl⟩)
def zeroF : Flow := ⟨⟨#[]⟩, 0⟩
/-- The two cells of a flow. -/
abbrev encF : Enc Flow := ⟨fun f => [.string f.code, .int .i64 f.kind], 2, fun _ => rfl, by decide, fun _ v hv => by simp at hv; rcases hv with rfl | rfl <;> rfl⟩
abbrev FlowsV (w : World) (v : Value) (L : List Flow) : Prop := ElsV encF w v L
abbrev aggL (f : Flow) : Value := .agg #[.string f.code, .int .i64 f.kind]
theorem two {w : World} {b o : Nat} {f : Flow} (h : ElAt encF w b o f) : w.cell? ⟨b, o, none⟩ = some (.string f.code) ∧ w.cell? ⟨b, o + 1, none⟩ = some (.int .i64 f.kind) := ⟨h 0 _ rfl, h 1 _ rfl⟩
theorem box {w : World} {b : Nat} {t : TypeId} {f : Flow} (h : BoxE encF w b t f) : w.cell? ⟨b, 0, none⟩ = some (.string f.code) ∧ w.cell? ⟨b, 1, none⟩ = some (.int .i64 f.kind) := ⟨h.at0 0 _ rfl, h.at0 1 _ rfl⟩

def rightF (f : Flow) : Bool := nmB f.code && decide (0 ≤ f.kind) && decide (f.kind < 5)
def tFlow : ByteArray := ⟨#[102, 108, 111, 119]⟩
def tOpen : ByteArray := ⟨#[111, 112, 101, 110]⟩
def tMove : ByteArray := ⟨#[109, 111, 118, 101]⟩
def tFx : ByteArray := ⟨#[102, 120]⟩
def tScope : ByteArray := ⟨#[115, 99, 111, 112, 101]⟩
def tClose : ByteArray := ⟨#[99, 108, 111, 115, 101]⟩
/-- The word of a kind. -/
def kindW (n : Int) : ByteArray := if n = 0 then tOpen else if n = 1 then tMove else if n = 2 then tFx else if n = 3 then tScope else tClose
/-- The kind of a word. -/
def kindO (s : ByteArray) : Int := if s = tOpen then 0 else if s = tMove then 1 else if s = tFx then 2 else if s = tScope then 3 else if s = tClose then 4 else -1
def wordsF (f : Flow) : List ByteArray := if rightF f = true then [tFlow, f.code, kindW f.kind] else []
def parseF : List ByteArray → Flow × Int
  | [x, c, k] => if x = tFlow ∧ rightF ⟨c, kindO k⟩ = true then (⟨c, kindO k⟩, 0) else (zeroF, 5)
  | _ => (zeroF, 5)
theorem right_parts {f : Flow} (h : rightF f = true) : nmB f.code = true ∧ (f.kind = 0 ∨ f.kind = 1 ∨ f.kind = 2 ∨ f.kind = 3 ∨ f.kind = 4) := by
  unfold rightF at h
  simp only [Bool.and_eq_true, decide_eq_true_eq] at h
  exact ⟨h.1.1, by omega⟩
theorem kindO_kindW {n : Int} (h : n = 0 ∨ n = 1 ∨ n = 2 ∨ n = 3 ∨ n = 4) : kindO (kindW n) = n := by
  rcases h with rfl | rfl | rfl | rfl | rfl <;> decide
theorem kindW_kindO {s : ByteArray} (h : 0 ≤ kindO s) : kindW (kindO s) = s := by
  unfold kindO at h ⊢
  by_cases h0 : s = tOpen
  · subst h0; rfl
  by_cases h1 : s = tMove
  · subst h1; rfl
  by_cases h2 : s = tFx
  · subst h2; rfl
  by_cases h3 : s = tScope
  · subst h3; rfl
  by_cases h4 : s = tClose
  · subst h4; rfl
  · rw [if_neg h0, if_neg h1, if_neg h2, if_neg h3, if_neg h4] at h; omega
theorem words_of {f : Flow} (h : rightF f = true) : wordsF f = [tFlow, f.code, kindW f.kind] := by unfold wordsF; rw [if_pos h]
theorem words_nil {f : Flow} (h : rightF f = false) : wordsF f = [] := by unfold wordsF; rw [h]; rfl
theorem parse_three (x c k : ByteArray) : parseF [x, c, k] = if x = tFlow ∧ rightF ⟨c, kindO k⟩ = true then (⟨c, kindO k⟩, 0) else (zeroF, 5) := rfl
theorem parse_words {f : Flow} (h : rightF f = true) : parseF (wordsF f) = (f, 0) := by
  rw [words_of h, parse_three, kindO_kindW (right_parts h).2, if_pos ⟨rfl, h⟩]
theorem parse_err (ws : List ByteArray) : parseF ws = (zeroF, 5) ∨ (wordsF (parseF ws).1 = ws ∧ rightF (parseF ws).1 = true ∧ (parseF ws).2 = 0) := by
  unfold parseF
  split
  · rename_i x c k
    split
    · rename_i h
      right
      obtain ⟨rfl, h2⟩ := h
      refine ⟨?_, h2, rfl⟩
      rw [words_of h2]
      have h0 : 0 ≤ kindO k := by
        unfold rightF at h2
        simp only [Bool.and_eq_true, decide_eq_true_eq] at h2
        exact h2.1.2
      rw [kindW_kindO h0]
    · exact .inl rfl
  · exact .inl rfl
theorem parse_len {ws : List ByteArray} (h : ws.length ≠ 3) : parseF ws = (zeroF, 5) := by
  match ws, h with
  | [], _ | [_], _ | [_, _], _ | _ :: _ :: _ :: _ :: _, _ => rfl
  | [_, _, _], h => exact absurd rfl h

/-! ### Lists -/
abbrev findF (L : List Flow) (c : ByteArray) : Option Flow := findK Flow.code L c
/-- The codes of a kind. -/
def ofF (L : List Flow) (k : Int) : List ByteArray := (L.filter fun f => decide (f.kind = k)).map Flow.code
def hasF (L : List Flow) (k : Int) : Bool := decide (0 < (ofF L k).length)
def addE (L : List Flow) (f : Flow) : Int := if rightF f = false then 1 else if (isK Flow.code L f.code || (decide (f.kind ≠ 1) && hasF L f.kind)) = true then 7 else if 60 ≤ L.length then 4 else 0
def addV (L : List Flow) (f : Flow) : List Flow := if addE L f = 0 then insK Flow.code L f else L
/-- What Kind tells. -/
def kindL (L : List Flow) (c : ByteArray) : Int := if isK Flow.code L c = true then ((L[placeK Flow.code L c]?).getD zeroF).kind else 0
def wholeF (L : List Flow) : Bool := hasF L 0 && hasF L 2 && hasF L 3 && hasF L 4
/-- One at most of each kind but Move. -/
def onesF (L : List Flow) : Prop := ∀ k : Int, (0 ≤ k ∧ k < 5) → k ≠ 1 → (ofF L k).length ≤ 1
instance (L : List Flow) : Decidable (onesF L) := decidable_of_iff ((ofF L 0).length ≤ 1 ∧ (ofF L 2).length ≤ 1 ∧ (ofF L 3).length ≤ 1 ∧ (ofF L 4).length ≤ 1) (by
  unfold onesF
  constructor
  · rintro ⟨h0, h2, h3, h4⟩ k hk h1
    rcases (by omega : k = 0 ∨ k = 2 ∨ k = 3 ∨ k = 4) with rfl | rfl | rfl | rfl <;> assumption
  · intro h
    exact ⟨h 0 (by omega) (by omega), h 2 (by omega) (by omega), h 3 (by omega) (by omega), h 4 (by omega) (by omega)⟩)
/-- The document's: is it a list? -/
def riseF (L : List Flow) : Bool := riseK Flow.code L && decide (onesF L)
theorem ofF_length (L : List Flow) (k : Int) : (ofF L k).length = (L.filter fun f => decide (f.kind = k)).length := by simp [ofF]
theorem mem_of {L : List Flow} {k : Int} {c : ByteArray} : c ∈ ofF L k ↔ ∃ f ∈ L, f.kind = k ∧ f.code = c := by
  unfold ofF
  simp only [List.mem_map, List.mem_filter, decide_eq_true_eq]
  constructor
  · rintro ⟨f, ⟨h1, h2⟩, h3⟩; exact ⟨f, h1, h2, h3⟩
  · rintro ⟨f, h1, h2, h3⟩; exact ⟨f, ⟨h1, h2⟩, h3⟩
/-- So many of the kinds below i. -/
def sumF (L : List Flow) : Nat → Nat
  | 0 => 0
  | i + 1 => sumF L i + (ofF L (i : Int)).length
theorem sumF_le (L : List Flow) (i : Nat) : sumF L i = (L.filter fun f => decide (0 ≤ f.kind ∧ f.kind < (i : Int))).length := by
  induction i with
  | zero =>
    have : L.filter (fun f => decide (0 ≤ f.kind ∧ f.kind < ((0 : Nat) : Int))) = [] := by
      rw [List.filter_eq_nil_iff]; intro a _; simp
    rw [this]; rfl
  | succ i ih =>
    rw [sumF, ih, ofF_length]
    clear ih
    induction L with
    | nil => rfl
    | cons a L ihL =>
      rw [List.filter_cons, List.filter_cons, List.filter_cons]
      by_cases h1 : 0 ≤ a.kind ∧ a.kind < (i : Int)
      · have h2 : ¬ a.kind = (i : Int) := by omega
        have h3 : 0 ≤ a.kind ∧ a.kind < ((i + 1 : Nat) : Int) := by omega
        rw [if_pos (decide_eq_true h1), if_neg (by simpa using h2), if_pos (decide_eq_true h3), List.length_cons, List.length_cons]
        omega
      · by_cases h2 : a.kind = (i : Int)
        · have h3 : 0 ≤ a.kind ∧ a.kind < ((i + 1 : Nat) : Int) := by omega
          rw [if_neg (by rw [decide_eq_false h1]; simp), if_pos (decide_eq_true h2), if_pos (decide_eq_true h3), List.length_cons, List.length_cons]
          omega
        · have h3 : ¬ (0 ≤ a.kind ∧ a.kind < ((i + 1 : Nat) : Int)) := by omega
          rw [if_neg (by rw [decide_eq_false h1]; simp), if_neg (by simpa using h2), if_neg (by rw [decide_eq_false h3]; simp)]
          omega
theorem sumF_all {L : List Flow} (h : ∀ f ∈ L, 0 ≤ f.kind ∧ f.kind < 5) : sumF L 5 = L.length := by
  rw [sumF_le, List.filter_eq_self.2 (fun f hf => by simpa using h f hf)]
theorem addE_zero {L : List Flow} {f : Flow} (hr : riseK Flow.code L = true) (h : addE L f = 0) : rightF f = true ∧ findF L f.code = none ∧ (f.kind ≠ 1 → (ofF L f.kind).length = 0) ∧ L.length < 60 := by
  unfold addE at h
  cases hrf : rightF f with
  | false => rw [hrf] at h; simp at h
  | true =>
    rw [hrf] at h
    simp only [Bool.true_eq_false, if_false] at h
    cases hb : (isK Flow.code L f.code || (decide (f.kind ≠ 1) && hasF L f.kind)) with
    | true => rw [hb] at h; simp at h
    | false =>
      rw [hb] at h
      simp only [Bool.false_eq_true, if_false] at h
      rw [Bool.or_eq_false_iff] at hb
      refine ⟨rfl, ?_, fun hk => ?_, ?_⟩
      · have := (isK_find hr f.code).1
        rw [hb.1] at this
        cases hf : findF L f.code with
        | none => rfl
        | some x =>
          have hf' : findK Flow.code L f.code = some x := hf
          rw [hf'] at this; cases this
      · have h2 := hb.2
        rw [decide_eq_true hk, Bool.true_and] at h2
        unfold hasF at h2
        have := of_decide_eq_false h2
        omega
      · split at h
        · simp at h
        · omega
theorem ones_ins {L : List Flow} {f : Flow} (h : onesF L) (hf : f.kind ≠ 1 → (ofF L f.kind).length = 0) : onesF (insK Flow.code L f) := by
  intro k hk h1
  rw [ofF_length]
  by_cases e : f.kind = k
  · rw [filter_ins_length L (by simpa using e), ← ofF_length]
    subst e
    rw [hf h1]
    exact Nat.le_refl _
  · rw [filter_ins_no L (by simpa using e), ← ofF_length]
    exact h k hk h1
theorem rise_ins {L : List Flow} {f : Flow} (hr : riseF L = true) (h : addE L f = 0) : riseF (insK Flow.code L f) = true := by
  unfold riseF at hr ⊢
  rw [Bool.and_eq_true, decide_eq_true_eq] at hr ⊢
  obtain ⟨_, h2, h3, _⟩ := addE_zero hr.1 h
  exact ⟨riseK_ins L f hr.1 h2, ones_ins hr.2 h3⟩
theorem rise_add {L : List Flow} {f : Flow} (hr : riseF L = true) : riseF (addV L f) = true := by
  unfold addV
  split
  · exact rise_ins hr (by assumption)
  · exact hr
theorem rise_codes {L : List Flow} (h : riseF L = true) : riseK Flow.code L = true := by
  unfold riseF at h; rw [Bool.and_eq_true] at h; exact h.1
theorem rise_ones {L : List Flow} (h : riseF L = true) : onesF L := by
  unfold riseF at h; rw [Bool.and_eq_true, decide_eq_true_eq] at h; exact h.2
/-- Of a code of a kind Kind tells this kind. -/
theorem kind_of {L : List Flow} (hr : riseK Flow.code L = true) {k : Int} {c : ByteArray} (hc : c ∈ ofF L k) : isK Flow.code L c = true ∧ kindL L c = k ∧ ∃ f, findF L c = some f ∧ f.kind = k := by
  obtain ⟨f, hf, rfl, rfl⟩ := mem_of.1 hc
  have h1 := findK_of_mem hr hf
  obtain ⟨h2, h3⟩ := isK_find hr f.code
  rw [h1] at h2 h3
  have h2' : isK Flow.code L f.code = true := h2
  refine ⟨h2', ?_, f, h1, rfl⟩
  unfold kindL
  rw [if_pos h2', h3 h2']; rfl
/-- The whole of the document's for kinds below i: one of each but Move. -/
def wholeTo (L : List Flow) : Nat → Bool
  | 0 => true
  | i + 1 => wholeTo L i && (decide ((i : Int) = 1) || decide ((ofF L (i : Int)).length = 1))
theorem whole_eq {L : List Flow} (h : onesF L) : wholeTo L 5 = wholeF L := by
  have h0 := h 0 (by omega) (by omega)
  have h2 := h 2 (by omega) (by omega)
  have h3 := h 3 (by omega) (by omega)
  have h4 := h 4 (by omega) (by omega)
  have e : ∀ n : Nat, n ≤ 1 → decide (n = 1) = decide (0 < n) := fun n hn => by
    rw [Bool.eq_iff_iff]; simp; omega
  simp [wholeTo, wholeF, hasF, e _ h0, e _ h2, e _ h3, e _ h4]
end Go.Proofs.YtkacidoflmbjkaaDoor.Fl
