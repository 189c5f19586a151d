
/- Lists by rising keys (texts), over any elements: the place of a key, the element of one, an element more. No program in it. -/
import Derived.Test.YtkacidoflmbjkaaDoorChartLists
namespace Go.Proofs.YtkacidoflmbjkaaDoor
open Go.RowKit
section
variable {α : Type} (key : α → ByteArray)
/-- The first element of a key. -/
def findK : List α → ByteArray → Option α
  | [], _ => none
  | a :: L, c => if key a = c then some a else findK L c
/-- How many stand ahead of a key. -/
def placeK : List α → ByteArray → Nat
  | [], _ => 0
  | a :: L, c => if ltS (key a) c = true then placeK L c + 1 else 0
def insK (L : List α) (x : α) : List α := L.take (placeK key L (key x)) ++ x :: L.drop (placeK key L (key x))
def riseK : List α → Bool
  | a :: b :: L => ltS (key a) (key b) && riseK (b :: L)
  | _ => true
variable {key}
theorem placeK_le (L : List α) (c : ByteArray) : placeK key L c ≤ L.length := by
  induction L with
  | nil => exact Nat.le_refl _
  | cons a L ih => simp only [placeK]; split <;> simp; omega
theorem insK_length (L : List α) (x : α) : (insK key L x).length = L.length + 1 := by
  have := placeK_le (key := key) L (key x)
  simp [insK]; omega
theorem insK_cons (a x : α) (L : List α) : insK key (a :: L) x = if ltS (key a) (key x) = true then a :: insK key L x else x :: a :: L := by
  unfold insK
  simp only [placeK]
  split <;> simp
theorem mem_ins {L : List α} {x y : α} : y ∈ insK key L x ↔ y = x ∨ y ∈ L := by
  unfold insK
  rw [List.mem_append, List.mem_cons]
  constructor
  · rintro (h | h | h)
    · exact .inr (List.mem_of_mem_take h)
    · exact .inl h
    · exact .inr (List.mem_of_mem_drop h)
  · rintro (h | h)
    · exact .inr (.inl h)
    · rw [← List.take_append_drop (placeK key L (key x)) L, List.mem_append] at h
      rcases h with h | h
      · exact .inl h
      · exact .inr (.inr h)
theorem filter_ins_no {p : α → Bool} (L : List α) {x : α} (h : p x = false) : (insK key L x).filter p = L.filter p := by
  unfold insK
  rw [List.filter_append, List.filter_cons, h]
  simp only [Bool.false_eq_true, if_false]
  rw [← List.filter_append, List.take_append_drop]
theorem filter_ins_length {p : α → Bool} (L : List α) {x : α} (h : p x = true) : ((insK key L x).filter p).length = (L.filter p).length + 1 := by
  have e : (L.filter p).length = ((L.take (placeK key L (key x))).filter p).length + ((L.drop (placeK key L (key x))).filter p).length := by
    rw [← List.length_append, ← List.filter_append, List.take_append_drop]
  unfold insK
  rw [List.filter_append, List.filter_cons, h]
  simp only [if_true, List.length_append, List.length_cons]
  omega
theorem findK_mem {L : List α} {c : ByteArray} {x : α} (h : findK key L c = some x) : key x = c ∧ x ∈ L := by
  induction L with
  | nil => cases h
  | cons a L ih =>
    simp only [findK] at h
    split at h
    · cases h; exact ⟨by assumption, List.mem_cons_self⟩
    · exact ⟨(ih h).1, List.mem_cons_of_mem _ (ih h).2⟩
theorem findK_no {L : List α} {c : ByteArray} (h : findK key L c = none) : ∀ x ∈ L, key x ≠ c := by
  induction L with
  | nil => intro x hx; cases hx
  | cons a L ih =>
    simp only [findK] at h
    split at h
    · cases h
    · intro x hx
      rcases List.mem_cons.1 hx with rfl | hx
      · assumption
      · exact ih h x hx
theorem findK_none {L : List α} {c : ByteArray} (h : ∀ x ∈ L, key x ≠ c) : findK key L c = none := by
  cases hf : findK key L c with
  | none => rfl
  | some x => exact absurd (findK_mem hf).1 (h x (findK_mem hf).2)
theorem findK_ins (L : List α) (x : α) (c : ByteArray) (h : findK key L (key x) = none) : findK key (insK key L x) c = if key x = c then some x else findK key L c := by
  induction L with
  | nil => simp [insK, placeK, findK]
  | cons a L ih =>
    simp only [findK] at h
    split at h
    · cases h
    · rename_i hne
      rw [insK_cons]
      split
      · simp only [findK]
        rw [ih h]
        by_cases h1 : key a = c
        · have : key x ≠ c := fun e => hne (by rw [h1, e])
          simp [h1, this]
        · simp [h1]
      · simp [findK]
theorem riseK_tail {a : α} {L : List α} (h : riseK key (a :: L) = true) : riseK key L = true := by
  cases L with
  | nil => rfl
  | cons b L => simp only [riseK, Bool.and_eq_true] at h; exact h.2
theorem riseK_head {a : α} {L : List α} (h : riseK key (a :: L) = true) : ∀ y ∈ L, ltS (key a) (key y) = true := by
  induction L generalizing a with
  | nil => intro y hy; cases hy
  | cons b L ih =>
    simp only [riseK, Bool.and_eq_true] at h
    intro y hy
    rcases List.mem_cons.1 hy with rfl | hy
    · exact h.1
    · exact ltS_trans h.1 (ih h.2 y hy)
theorem riseK_cons {a : α} {L : List α} (h1 : ∀ y ∈ L, ltS (key a) (key y) = true) (h2 : riseK key L = true) : riseK key (a :: L) = true := by
  cases L with
  | nil => rfl
  | cons b L => simp only [riseK, Bool.and_eq_true]; exact ⟨h1 b List.mem_cons_self, h2⟩
theorem riseK_ins (L : List α) (x : α) (hr : riseK key L = true) (h : findK key L (key x) = none) : riseK key (insK key L x) = true := by
  induction L with
  | nil => rfl
  | cons a L ih =>
    have hne : key a ≠ key x := findK_no h a List.mem_cons_self
    rw [insK_cons]
    split
    · rename_i hg
      refine riseK_cons (fun y hy => ?_) (ih (riseK_tail hr) (findK_none fun y hy => findK_no h y (List.mem_cons_of_mem _ hy)))
      rcases mem_ins.1 hy with rfl | hy
      · exact hg
      · exact riseK_head hr y hy
    · rename_i hg
      have hlt : ltS (key x) (key a) = true := ltS_total (by simpa using hg) hne
      simp only [riseK, Bool.and_eq_true]
      exact ⟨hlt, hr⟩
theorem riseK_of {L : List α} (h : ∀ (i : Nat) (a b : α), L[i]? = some a → L[i + 1]? = some b → ltS (key a) (key b) = true) : riseK key L = true := by
  induction L with
  | nil => rfl
  | cons x L ih =>
    cases L with
    | nil => rfl
    | cons y L =>
      simp only [riseK, Bool.and_eq_true]
      exact ⟨h 0 x y rfl rfl, ih fun i a b ha hb => h (i + 1) a b (by simpa using ha) (by simpa using hb)⟩
theorem riseK_at {L : List α} (h : riseK key L = true) {i j : Nat} {x y : α} (hij : i < j) (hx : L[i]? = some x) (hy : L[j]? = some y) : ltS (key x) (key y) = true := by
  induction L generalizing i j with
  | nil => simp at hx
  | cons a L ih =>
    cases j with
    | zero => omega
    | succ j =>
      cases i with
      | zero =>
        simp at hx hy
        subst hx
        exact riseK_head h y (List.mem_of_getElem? hy)
      | succ i =>
        simp at hx hy
        exact ih (riseK_tail h) (by omega) hx hy
theorem riseK_no {L : List α} {i : Nat} {a b : α} (ha : L[i]? = some a) (hb : L[i + 1]? = some b) (h : ltS (key a) (key b) = false) : riseK key L = false := by
  cases hr : riseK key L with
  | false => rfl
  | true => rw [riseK_at hr (Nat.lt_succ_self i) ha hb] at h; cases h
theorem riseK_uniq {L : List α} (h : riseK key L = true) {x y : α} (hx : x ∈ L) (hy : y ∈ L) (e : key x = key y) : x = y := by
  obtain ⟨i, hi, hix⟩ := List.getElem_of_mem hx
  obtain ⟨j, hj, hjy⟩ := List.getElem_of_mem hy
  have h1 : L[i]? = some x := by rw [List.getElem?_eq_getElem hi, hix]
  have h2 : L[j]? = some y := by rw [List.getElem?_eq_getElem hj, hjy]
  rcases Nat.lt_trichotomy i j with hl | hl | hl
  · have := riseK_at h hl h1 h2; rw [e, ltS_irr] at this; cases this
  · subst hl; rw [h1] at h2; exact Option.some.inj h2
  · have := riseK_at h hl h2 h1; rw [e, ltS_irr] at this; cases this
theorem findK_of_mem {L : List α} (h : riseK key L = true) {x : α} (hx : x ∈ L) : findK key L (key x) = some x := by
  cases hf : findK key L (key x) with
  | none => exact absurd rfl (findK_no hf x hx)
  | some y => rw [riseK_uniq h (findK_mem hf).2 hx (findK_mem hf).1]
/-- What stands ahead of a place is below, what stands there is not: it is the place. -/
theorem placeK_at {L : List α} {c : ByteArray} {i : Nat} (hi : i ≤ L.length) (hb : ∀ (j : Nat) (y : α), j < i → L[j]? = some y → ltS (key y) c = true) (hx : ∀ y, L[i]? = some y → ltS (key y) c = false) : placeK key L c = i := by
  induction L generalizing i with
  | nil => simp at hi; subst hi; rfl
  | cons a L ih =>
    cases i with
    | zero => simp only [placeK, hx a rfl, Bool.false_eq_true, if_false]
    | succ i =>
      simp only [placeK, hb 0 a (by omega) rfl, if_true]
      rw [ih (i := i) (by simpa using hi) (fun j y hj hy => hb (j + 1) y (by omega) (by simpa using hy)) (fun y hy => hx y (by simpa using hy))]
theorem placeK_below {L : List α} {c : ByteArray} : ∀ (j : Nat) (y : α), j < placeK key L c → L[j]? = some y → ltS (key y) c = true := by
  induction L with
  | nil => intro j y _ h; simp at h
  | cons a L ih =>
    intro j y hj hy
    simp only [placeK] at hj
    split at hj
    · cases j with
      | zero => simp at hy; subst hy; assumption
      | succ j => exact ih j y (by omega) (by simpa using hy)
    · omega
theorem placeK_there {L : List α} {c : ByteArray} {y : α} (h : L[placeK key L c]? = some y) : ltS (key y) c = false := by
  induction L with
  | nil => simp at h
  | cons a L ih =>
    simp only [placeK] at h
    split at h
    · exact ih (by simpa using h)
    · simp at h; subst h; simp_all
/-- Is the element of a key at its place? -/
def isK (key : α → ByteArray) (L : List α) (c : ByteArray) : Bool := match L[placeK key L c]? with
  | some x => decide (key x = c)
  | none => false
theorem isK_find {L : List α} (h : riseK key L = true) (c : ByteArray) : isK key L c = (findK key L c).isSome ∧ (isK key L c = true → L[placeK key L c]? = findK key L c) := by
  unfold isK
  cases hp : L[placeK key L c]? with
  | none =>
    have hlen : L.length ≤ placeK key L c := List.getElem?_eq_none_iff.1 hp
    have hf : findK key L c = none := findK_none fun x hx e => by
      obtain ⟨i, hi, hix⟩ := List.getElem_of_mem hx
      have := placeK_below (key := key) (L := L) (c := c) i x (by omega) (by rw [List.getElem?_eq_getElem hi, hix])
      rw [e, ltS_irr] at this; cases this
    rw [hf]; exact ⟨rfl, fun h => by cases h⟩
  | some x =>
    simp only
    by_cases e : key x = c
    · have hm := List.mem_of_getElem? hp
      have hf := findK_of_mem h hm
      rw [e] at hf
      rw [hf]; exact ⟨by simp [e], fun _ => rfl⟩
    · have hf : findK key L c = none := findK_none fun y hy ey => by
        obtain ⟨i, hi, hiy⟩ := List.getElem_of_mem hy
        have h1 : L[i]? = some y := by rw [List.getElem?_eq_getElem hi, hiy]
        rcases Nat.lt_trichotomy i (placeK key L c) with hl | hl | hl
        · have := placeK_below (key := key) (L := L) (c := c) i y hl h1; rw [ey, ltS_irr] at this; cases this
        · rw [hl, hp] at h1; cases h1; exact e ey
        · have h2 := riseK_at h hl hp h1
          rw [ey, placeK_there hp] at h2; cases h2
      rw [hf]; exact ⟨by simp [e], fun h => by simp [e] at h⟩
end
end Go.Proofs.YtkacidoflmbjkaaDoor
