
/- The walks of Go's binary search among facts by rising keys, and of fact.Get: the amount of a key. What was there stays. -/
import Derived.Test.YtdnneognilffaaaGreatDoorFaCmp
import Derived.Test.YtdnneognilffaaaGreatDoorFaEql
import Derived.Test.YtdnneognilffaaaGreatDoorSegs
namespace Go.Proofs.YtdnneognilffaaaGreatDoor.Fa
open Go.RowKit

/-- The amount of a key; 0, if there is none. -/
def getL (c : List Fact) (k : Key) : Int := match c.find? fun f => decide (f.key = k) with
  | some f => f.amt
  | none => 0
/-- Facts by rising keys. -/
def RiseF (c : List Fact) : Prop := c.Pairwise fun x y => ltK x.key y.key
theorem riseF_at {c : List Fact} (h : RiseF c) {i j : Nat} {x y : Fact} (hij : i < j) (hx : c[i]? = some x) (hy : c[j]? = some y) : ltK x.key y.key := by
  have h1 := (List.getElem?_eq_some_iff.1 hx)
  have h2 := (List.getElem?_eq_some_iff.1 hy)
  have := (List.pairwise_iff_getElem.1 h) i j h1.1 h2.1 hij
  rwa [h1.2, h2.2] at this
theorem riseF_uniq {c : List Fact} (h : RiseF c) {x y : Fact} (hx : x ∈ c) (hy : y ∈ c) (e : x.key = y.key) : x = y := by
  obtain ⟨i, hi, rfl⟩ := List.getElem_of_mem hx
  obtain ⟨j, hj, rfl⟩ := List.getElem_of_mem hy
  rcases Nat.lt_trichotomy i j with h1 | h1 | h1
  · exact absurd e (ltK_ne (List.pairwise_iff_getElem.1 h i j hi hj h1))
  · subst h1; rfl
  · exact absurd e.symm (ltK_ne (List.pairwise_iff_getElem.1 h j i hj hi h1))
theorem getL_mem {c : List Fact} (h : RiseF c) {x : Fact} (hx : x ∈ c) : getL c x.key = x.amt := by
  unfold getL
  cases hf : c.find? fun f => decide (f.key = x.key) with
  | none => exact absurd (List.find?_eq_none.1 hf x hx) (by simp)
  | some y =>
    have h1 := List.mem_of_find?_eq_some hf
    have h2 : y.key = x.key := by have := List.find?_some hf; simpa using this
    rw [riseF_uniq h h1 hx h2]
theorem getL_no {c : List Fact} {k : Key} (h : ∀ x ∈ c, x.key ≠ k) : getL c k = 0 := by
  unfold getL
  rw [List.find?_eq_none.2 fun x hx => by simpa using h x hx]
/-- What the round of the search holds. -/
structure SearchAt (w wr : World) (L : List Fact) (c : Key) (lo hi : Nat) : Prop where
  le : lo ≤ hi
  top : hi ≤ L.length
  bel : Below (w.heap.size + 1) (w.alloc (.cells (encK.cs c).toArray 41)) wr
  low : ∀ (t : Nat) (x : Fact), t < lo → L[t]? = some x → ltK x.key c
  high : ∀ (t : Nat) (x : Fact), hi ≤ t → L[t]? = some x → ¬ ltK x.key c
/-- Where the search comes to. -/
def FoundAt (L : List Fact) (c : Key) (at_ : Nat) (is : Bool) : Prop := (is = true → ∃ x, L[at_]? = some x ∧ x.key = c) ∧ (is = false → ∀ x ∈ L, x.key ≠ c)
theorem found_end {L : List Fact} {c : Key} {hi : Nat} (low : ∀ (t : Nat) (x : Fact), t < hi → L[t]? = some x → ltK x.key c) (h : hi = L.length) : FoundAt L c hi false := by
  unfold FoundAt
  refine ⟨(fun e => by cases e), fun _ x hx e => ?_⟩
  obtain ⟨i, hi', rfl⟩ := List.getElem_of_mem hx
  exact ltK_ne (low i _ (by omega) (List.getElem?_eq_getElem hi')) e
theorem found_mid {L : List Fact} {c : Key} {hi : Nat} {x : Fact} (hr : RiseF L) (low : ∀ (t : Nat) (x : Fact), t < hi → L[t]? = some x → ltK x.key c) (high : ∀ (t : Nat) (x : Fact), hi ≤ t → L[t]? = some x → ¬ ltK x.key c) (hx : L[hi]? = some x) : FoundAt L c hi (cmpK x.key c == 0) := by
  unfold FoundAt
  refine ⟨fun e => ⟨x, hx, (isCmp_key.eq0 _ _).1 (by simpa using e)⟩, fun e y hy he => ?_⟩
  have hne : x.key ≠ c := fun h => by rw [(isCmp_key.eq0 _ _).2 h] at e; simp at e
  obtain ⟨j, hj, rfl⟩ := List.getElem_of_mem hy
  have hj' := List.getElem?_eq_getElem hj
  rcases Nat.lt_trichotomy j hi with h1 | h1 | h1
  · exact ltK_ne (low j _ h1 hj') he
  · subst h1
    rw [hj'] at hx
    cases hx
    exact hne he
  · have h2 := riseF_at hr h1 hx hj'
    rw [he] at h2
    exact high hi x (Nat.le_refl _) hx h2
end Go.Proofs.YtdnneognilffaaaGreatDoor.Fa
