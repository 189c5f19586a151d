
/- More on parts, with no walk in it: a part is what its sign and size say, all parts together are the amount, weights that are all times a number have the same parts, and of like weights the first ones have more. -/
import Derived.Test.YticcpcejdndplaaSplitOne
import Derived.Laws.BitsLemmas
namespace Go.Proofs.Yticcpcejdndplaa
open Go.RowKit

/-- How much more the i-th part has. -/
def moreAt (a : Int) (l : List Int) (p : Nat → Nat) (i : Nat) : Nat := if among p i (moreN a (tgV l) l) = true then 1 else 0
theorem lows_len (a : Int) (l : List Int) : (lows a l).length = l.length := by simp [lows]
theorem rests_len (a : Int) (l : List Int) : (rests a l).length = l.length := by simp [rests]
theorem parts_len (a : Int) (l : List Int) (p : Nat → Nat) : (partsOf a l p).length = l.length := by unfold partsOf; rw [outs_len, lows_len]
/-- A part: its sign is the amount's, its size that of what was rounded, and one more at most. -/
theorem part_eq {a : Int} {l : List Int} {p : Nat → Nat} (h : tgE l = 0) (hp : Firsts (rests a l) l.length p) {i : Nat} (hi : i < l.length) :
    (partsOf a l p).getD i 0 = cmpI a 0 * ((qN a (l.getD i 0) (tgV l) + moreAt a l p i : Nat) : Int) := by
  obtain ⟨h1, h2, h3, h4, h5⟩ := tg_ok h
  have hm := more_lt (a := a) h2 h3 h4
  unfold partsOf
  rw [outs_at (rs := rests a l) (by rw [lows_len]; exact hp) _ (by rw [lows_len]; omega)]
  unfold lows moreAt
  rw [getD_mapI _ _ _ hi]
  unfold lowV
  split <;> simp [Int.natCast_add, Int.mul_add]
theorem part_le {a : Int} {l : List Int} {p : Nat → Nat} (h : tgE l = 0) (_hp : Firsts (rests a l) l.length p) {i : Nat} (hi : i < l.length) : qN a (l.getD i 0) (tgV l) + moreAt a l p i ≤ a.natAbs := by
  obtain ⟨h1, h2, h3, h4, h5⟩ := tg_ok h
  have hq := qSum_le (a := a) h2 h3 h4 l.length
  rw [List.take_length] at hq
  have hx := qN_sum (a := a) (s := tgV l) (getD_mem hi)
  unfold moreAt
  split
  · rename_i hc
    obtain ⟨j, hj, _⟩ := (among_iff _ _ _).1 hc
    unfold moreN at hj
    omega
  · omega
theorem part_in {a : Int} {l : List Int} {p : Nat → Nat} (h : tgE l = 0) (ha : In64 a) (hp : Firsts (rests a l) l.length p) {i : Nat} (hi : i < l.length) : In64 ((partsOf a l p).getD i 0) := by
  have h1 := part_le h hp hi
  rw [part_eq h hp hi]
  unfold In64 at *
  rcases sgn_cases a with ⟨c2, c3⟩ | ⟨c2, c3⟩ | ⟨c2, c3⟩ <;> rw [c3] <;> omega
/-- What has one more has a rest. -/
theorem up_rest {a : Int} {l : List Int} {p : Nat → Nat} (h : tgE l = 0) (hp : Firsts (rests a l) l.length p) {i : Nat} (hi : i < l.length) (hu : moreAt a l p i = 1) : 0 < rN a (l.getD i 0) (tgV l) := by
  obtain ⟨h1, h2, h3, h4, h5⟩ := tg_ok h
  have hm := more_lt (a := a) h2 h3 h4
  have hr := more_rests (a := a) h2 h3 h4
  unfold moreAt at hu
  split at hu
  · rename_i hc
    obtain ⟨j, hj, rfl⟩ := (among_iff _ _ _).1 hc
    have hs : ((moreN a (tgV l) l : Nat) : Int) * tgV l = (rests a l).sum := by
      rw [hr]
      unfold rSum rests rstV
      clear hc hj hi hp hr hm h3 h4 h5 h2 h1 h hu
      generalize tgV l = s
      induction l with
      | nil => simp
      | cons x l ih => simp only [List.map_cons, List.sum_cons, Int.natCast_add, ih]
    have := first_rest (rs := rests a l) (p := p) (s := tgV l) (L := moreN a (tgV l) l) (k := j) (by rw [rests_len]; exact hp) h4 (fun t ht => by
      rw [rests_len] at ht
      unfold rests
      rw [getD_mapI _ _ _ ht]
      have := rN_lt (a := a) (w := l.getD t 0) h4
      unfold rstV
      omega) hs hj (by rw [rests_len]; omega)
    unfold rests at this
    rw [getD_mapI _ _ _ hi] at this
    unfold rstV at this
    omega
  · omega
/-- All parts together are the amount. -/
theorem parts_sum {a : Int} {l : List Int} {p : Nat → Nat} (h : tgE l = 0) (hp : Firsts (rests a l) l.length p) : (partsOf a l p).sum = a := by
  obtain ⟨h1, h2, h3, h4, h5⟩ := tg_ok h
  have hm := more_lt (a := a) h2 h3 h4
  have hq := qSum_le (a := a) h2 h3 h4 l.length
  rw [List.take_length] at hq
  unfold partsOf
  rw [outs_sum (rs := rests a l) (by rw [lows_len]; exact hp) _ (by rw [lows_len]; omega)]
  unfold lows
  rw [low_sum]
  unfold moreN
  rcases sgn_cases a with ⟨c2, c3⟩ | ⟨c2, c3⟩ | ⟨c2, c3⟩ <;> rw [c3] <;> omega

/-! ### Weights that are all times a number -/
theorem qN_times (a w s : Int) {m : Int} (hm : 0 < m) : qN a (w * m) (s * m) = qN a w s := by
  unfold qN pSize
  rw [Int.natAbs_mul, Int.natAbs_mul, ← Nat.mul_assoc, Nat.mul_div_mul_right _ _ (by omega)]
theorem rN_times (a w s : Int) (m : Int) : rN a (w * m) (s * m) = rN a w s * m.natAbs := by
  unfold rN pSize
  rw [Int.natAbs_mul, Int.natAbs_mul, ← Nat.mul_assoc, Nat.mul_mod_mul_right]
theorem sum_times (l : List Int) (m : Int) : (l.map (· * m)).sum = l.sum * m := by
  induction l with
  | nil => simp
  | cons x l ih => simp only [List.map_cons, List.sum_cons, ih, Int.add_mul]
theorem qSum_times (a s : Int) (l : List Int) {m : Int} (hm : 0 < m) : qSum a (s * m) (l.map (· * m)) = qSum a s l := by
  induction l with
  | nil => rfl
  | cons x l ih =>
    unfold qSum at ih ⊢
    simp only [List.map_cons, List.sum_cons, ih, qN_times a x s hm]
/-- Weights that are not below 0 and have a sum that fits: why there are no parts. -/
theorem tgE_of {l : List Int} (h2 : ∀ x ∈ l, 0 ≤ x) (h4 : l.sum ≤ 9223372036854775807) : tgE l = if 100 < l.length then 4 else if l.sum = 0 then 3 else 0 := by
  have e := sumFrom_ok l 0 h2 (by omega) (by omega)
  have ha : (l.any fun x => decide (x < 0)) = false := by
    rw [List.any_eq_false]
    intro x hx
    have := h2 x hx
    simp; omega
  unfold tgE
  rw [ha, e]
  simp
def Small10 (l : List Int) : Prop := ∀ x ∈ l, 0 ≤ x ∧ x ≤ 1023
theorem small_sum {l : List Int} (h : Small10 l) : l.sum ≤ 1023 * l.length := by
  induction l with
  | nil => simp
  | cons x l ih =>
    have h1 := h x (by simp)
    have h2 := ih fun y hy => h y (by simp [hy])
    simp only [List.sum_cons, List.length_cons]
    omega
section
variable {a m : Int} {l : List Int} {p p' : Nat → Nat}
theorem times_sum (hm : m ≤ 256) (hs : Small10 l) (hl : l.length ≤ 200) : 0 ≤ l.sum ∧ l.sum ≤ 204600 ∧ (l.map (· * m)).sum ≤ 9223372036854775807 := by
  have h1 := small_sum hs
  have h2 := sum_nonneg fun x hx => (hs x hx).1
  refine ⟨h2, by omega, ?_⟩
  rw [sum_times]
  have : l.sum * m ≤ l.sum * 256 := Int.mul_le_mul_of_nonneg_left hm h2
  omega
theorem times_nonneg (h0 : 0 < m) (hs : Small10 l) : ∀ x ∈ l.map (· * m), 0 ≤ x := fun x hx => by
  obtain ⟨y, hy, rfl⟩ := List.mem_map.1 hx
  exact Int.mul_nonneg (hs y hy).1 (by omega)
theorem times_in (h0 : 0 < m) (hm : m ≤ 256) (hs : Small10 l) : ∀ x ∈ l.map (· * m), In64 x := fun x hx => by
  obtain ⟨y, hy, rfl⟩ := List.mem_map.1 hx
  have h1 := hs y hy
  have h2 : y * m ≤ y * 256 := Int.mul_le_mul_of_nonneg_left hm h1.1
  have h3 := Int.mul_nonneg h1.1 (Int.le_of_lt h0)
  unfold In64
  omega
theorem tgE_times (h0 : 0 < m) (hm : m ≤ 256) (hs : Small10 l) (hl : l.length ≤ 200) : tgE (l.map (· * m)) = tgE l := by
  obtain ⟨h1, h2, h3⟩ := times_sum hm hs hl
  rw [tgE_of (times_nonneg h0 hs) h3, tgE_of (fun x hx => (hs x hx).1) (by omega), List.length_map, sum_times]
  have : l.sum * m = 0 ↔ l.sum = 0 := by
    constructor
    · intro h
      rcases Int.mul_eq_zero.1 h with h | h <;> omega
    · intro h; rw [h, Int.zero_mul]
  simp only [this]
theorem tgV_times (h0 : 0 < m) (hm : m ≤ 256) (hs : Small10 l) (hl : l.length ≤ 200) (he : tgE l = 0) : tgV (l.map (· * m)) = tgV l * m := by
  have h1 := (tg_ok he).2.2.1
  have h2 := (tg_ok ((tgE_times h0 hm hs hl).trans he)).2.2.1
  rw [← h1, ← h2, sum_times]
theorem outs_congr {base : List Int} {one : Int} : ∀ k, (∀ j, j < k → p j = p' j) → outs base one p k = outs base one p' k := by
  intro k
  induction k with
  | zero => intro _; rfl
  | succ k ih =>
    intro h
    rw [outs, outs, ih fun j hj => h j (by omega), h k (by omega)]
/-- They make the same parts. -/
theorem parts_times (h0 : 0 < m) (hm : m ≤ 256) (hs : Small10 l) (hl : l.length ≤ 200) (he : tgE l = 0) (hp : Firsts (rests a l) l.length p) (hp' : Firsts (rests a (l.map (· * m))) l.length p') : partsOf a (l.map (· * m)) p' = partsOf a l p := by
  have hv := tgV_times h0 hm hs hl he
  obtain ⟨h1, h2, h3, h4, h5⟩ := tg_ok he
  have hml := more_lt (a := a) h2 h3 h4
  have hr : ∀ i, i < l.length → (rests a (l.map (· * m))).getD i 0 = (rests a l).getD i 0 * m := fun i hi => by
    unfold rests
    rw [getD_mapI _ _ _ (by simpa using hi), getD_mapI _ _ _ hi, getD_mapI _ _ _ hi, hv]
    unfold rstV
    rw [rN_times, Int.natCast_mul, show ((m.natAbs : Nat) : Int) = m by omega]
  have hpp := hp.one hp' (fun i j hi hj => by
    unfold before
    rw [hr i hi, hr j hj]
    constructor
    · rintro (h | ⟨h, h'⟩)
      · exact .inl (Int.mul_lt_mul_of_pos_right h h0)
      · exact .inr ⟨by rw [h], h'⟩
    · rintro (h | ⟨h, h'⟩)
      · exact .inl (Int.lt_of_mul_lt_mul_right h (by omega))
      · exact .inr ⟨Int.eq_of_mul_eq_mul_right (by omega) h, h'⟩)
  have hlow : lows a (l.map (· * m)) = lows a l := by
    unfold lows
    rw [hv, List.map_map]
    refine List.map_congr_left fun x _ => ?_
    show lowV a (tgV l * m) (x * m) = _
    unfold lowV
    rw [qN_times _ _ _ h0]
  have hmo : moreN a (tgV (l.map (· * m))) (l.map (· * m)) = moreN a (tgV l) l := by
    unfold moreN
    rw [hv, qSum_times _ _ _ h0]
  unfold partsOf
  rw [hlow, hmo]
  exact outs_congr _ fun j hj => (hpp j (by omega)).symm
end
/-- Of like weights the first one has more, if any. -/
theorem like_parts {a : Int} {l : List Int} {p : Nat → Nat} (he : tgE l = 0) (hp : Firsts (rests a l) l.length p) {i k : Nat} (hk : k < i) (hi : i < l.length) (hw : l.getD i 0 = l.getD k 0) :
    (partsOf a l p).getD i 0 = (partsOf a l p).getD k 0 ∨ (partsOf a l p).getD i 0 = (partsOf a l p).getD k 0 - cmpI a 0 := by
  obtain ⟨h1, h2, h3, h4, h5⟩ := tg_ok he
  have hml := more_lt (a := a) h2 h3 h4
  rw [part_eq he hp hi, part_eq he hp (by omega), hw]
  unfold moreAt
  cases hc : among p i (moreN a (tgV l) l) with
  | true =>
    have : among p k (moreN a (tgV l) l) = true := by
      obtain ⟨j, hj, e⟩ := (among_iff _ _ _).1 hc
      obtain ⟨j', hj', e'⟩ := hp.onto (i := k) (by omega)
      refine (among_iff _ _ _).2 ⟨j', ?_, e'⟩
      rcases Nat.lt_trichotomy j' j with c | c | c
      · omega
      · subst c; omega
      · have hb := hp.2 j j' c hj'
        rw [e, e'] at hb
        unfold before rests at hb
        rw [getD_mapI _ _ _ hi, getD_mapI _ _ _ (by omega), hw] at hb
        omega
    rw [this]
    exact .inl rfl
  | false =>
    cases hc' : among p k (moreN a (tgV l) l) with
    | true => right; simp only [if_true, Bool.false_eq_true, if_false, Nat.add_zero, Int.natCast_add, Int.mul_add]; simp
    | false => exact .inl rfl
/-- The lowest ten bits of a number of 64 bits are its rest by 1024. -/
theorem i64_and1023 (n : Int) : bits .and .i64 n 1023 = n % 1024 := by
  have low : (BitVec.ofInt 64 n &&& 1023#64).toNat = (BitVec.ofInt 64 n).toNat % 1024 := by
    rw [BitVec.toNat_and]
    exact Nat.and_two_pow_sub_one_eq_mod _ 10
  have said : bits .and .i64 n 1023 = IntKind.i64.wrap ((BitVec.ofInt 64 n &&& 1023#64).toNat : Int) := rfl
  rw [said, low, BitVec.toNat_ofInt, IntKind.wrap_i64]
  omega
end Go.Proofs.Yticcpcejdndplaa
