
/- Plain arithmetic for layer 2 (wide), with no program in it: a product by a number, rounded to the nearest whole one, a half away from 0; whether it is whole; how products stand. -/
import Derived.Test.YticcpcejdndplaaBase
namespace Go.Proofs.Yticcpcejdndplaa

theorem abs_le {a : Int} (h : In64 a) : a.natAbs ≤ 9223372036854775808 := by unfold In64 at h; omega

/-- A size with a sign. -/
def sgnd (s : Bool) (n : Nat) : Int := if s = true then -(n : Int) else n
/-- That as an amount, or 0 and the error. -/
def narV (s : Bool) (n : Nat) : Int := if fit (sgnd s n) = true then sgnd s n else 0
def narE (s : Bool) (n : Nat) : Int := if fit (sgnd s n) = true then 0 else 2
theorem narV_fit (s : Bool) (n : Nat) : fit (narV s n) = true := by
  unfold narV; split
  · assumption
  · decide

/-- How far from 0 a product of amounts is. -/
def pSize (a b : Int) : Nat := a.natAbs * b.natAbs
/-- Is it below 0? -/
def pNeg (a b : Int) : Bool := decide (a * b < 0)
theorem pSize_le {a b : Int} (ha : In64 a) (hb : In64 b) : pSize a b ≤ 85070591730234615865843651857942052864 := by
  have := Nat.mul_le_mul (abs_le ha) (abs_le hb)
  unfold pSize; omega
/-- The sign of a product by a number; of 0 it is free. -/
def qNeg (a b c : Int) : Bool := pNeg a b != decide (c < 0)
/-- A product by a number, rounded, without its sign. -/
def qSize (a b c : Int) : Nat := pSize a b / c.natAbs + if c.natAbs ≤ 2 * (pSize a b % c.natAbs) then 1 else 0
def mdV (a b c : Int) : Int := if c = 0 then 0 else narV (qNeg a b c) (qSize a b c)
def mdE (a b c : Int) : Int := if c = 0 then 3 else narE (qNeg a b c) (qSize a b c)
def wholeQ (a b c : Int) : Bool := pSize a b % c.natAbs == 0
def exV (a b c : Int) : Int := if c = 0 then 0 else if wholeQ a b c = true then narV (qNeg a b c) (pSize a b / c.natAbs) else 0
def exE (a b c : Int) : Int := if c = 0 then 3 else if wholeQ a b c = true then narE (qNeg a b c) (pSize a b / c.natAbs) else 0
def exB (a b c : Int) : Bool := if c = 0 then false else if wholeQ a b c = true then fit (sgnd (qNeg a b c) (pSize a b / c.natAbs)) else false
def cmpV (a b c d : Int) : Int := if a * b < c * d then -1 else if c * d < a * b then 1 else 0
def cmpN (m n : Nat) : Int := if m < n then -1 else if n < m then 1 else 0

/-- The halves of a number of 128 bits. -/
def hi64 (n : Nat) : Int := ((n / 18446744073709551616 : Nat) : Int)
def lo64 (n : Nat) : Int := ((n % 18446744073709551616 : Nat) : Int)
theorem hi64_bd {n : Nat} (h : n ≤ 85070591730234615865843651857942052864) : 0 ≤ hi64 n ∧ hi64 n ≤ 4611686018427387904 := by unfold hi64; omega
theorem lo64_bd (n : Nat) : 0 ≤ lo64 n ∧ lo64 n ≤ 18446744073709551615 := by unfold lo64; omega
theorem pNeg_false {a b : Int} (h : ¬ ((a < 0 ∧ 0 < b) ∨ (0 < a ∧ b < 0))) : pNeg a b = false := by
  unfold pNeg
  rw [decide_eq_false_iff_not]
  intro h'
  apply h
  rcases Int.lt_trichotomy a 0 with h1 | h1 | h1
  · rcases Int.lt_trichotomy b 0 with h2 | h2 | h2
    · have := Int.mul_pos_of_neg_of_neg h1 h2; omega
    · subst h2; simp at h'
    · exact .inl ⟨h1, h2⟩
  · subst h1; simp at h'
  · rcases Int.lt_trichotomy b 0 with h2 | h2 | h2
    · exact .inr ⟨h1, h2⟩
    · subst h2; simp at h'
    · have := Int.mul_pos h1 h2; omega
def cmpI (m n : Int) : Int := if m < n then -1 else if n < m then 1 else 0
theorem up_halves {n : Nat} : hi64 n + (((n % 18446744073709551616 + 1) / 18446744073709551616 : Nat) : Int) = hi64 (n + 1) ∧ (((n % 18446744073709551616 + 1) % 18446744073709551616 : Nat) : Int) = lo64 (n + 1) := by unfold hi64 lo64; omega
theorem nar_small {s : Bool} {n : Nat} (h : fit (sgnd s n) = true) : hi64 n = 0 ∧ lo64 n = (n : Int) ∧ n ≤ 9223372036854775808 ∧ (s = false → n ≤ 9223372036854775807) := by
  rw [fit_iff] at h
  unfold hi64 lo64
  cases s
  · have : sgnd false n = n := by simp [sgnd]
    rw [this] at h; omega
  · have : sgnd true n = -n := by simp [sgnd]
    rw [this] at h; refine ⟨by omega, by omega, by omega, fun h => by cases h⟩
theorem nar_big {s : Bool} {n : Nat} (h : fit (sgnd s n) = false) : hi64 n ≠ 0 ∨ (hi64 n = 0 ∧ 9223372036854775808 < lo64 n) ∨ (hi64 n = 0 ∧ lo64 n = 9223372036854775808 ∧ s = false) := by
  rw [fit_no] at h
  unfold hi64 lo64
  cases s
  · have : sgnd false n = n := by simp [sgnd]
    rw [this] at h
    by_cases h1 : n = 9223372036854775808
    · subst h1; exact .inr (.inr ⟨by decide, by decide, rfl⟩)
    · omega
  · have : sgnd true n = -n := by simp [sgnd]
    rw [this] at h; omega
theorem cmpN_halves (m n : Nat) : cmpN m n = if hi64 m = hi64 n then cmpI (lo64 m) (lo64 n) else cmpI (hi64 m) (hi64 n) := by
  unfold cmpN cmpI hi64 lo64
  by_cases h : ((m / 18446744073709551616 : Nat) : Int) = ((n / 18446744073709551616 : Nat) : Int)
  · rw [if_pos h]
    rcases Nat.lt_trichotomy m n with h1 | h1 | h1
    · rw [if_pos h1, if_pos (by omega)]
    · subst h1; simp
    · rw [if_neg (by omega), if_pos h1, if_neg (by omega), if_pos (by omega)]
  · rw [if_neg h]
    rcases Nat.lt_trichotomy m n with h1 | h1 | h1
    · rw [if_pos h1, if_pos (by omega)]
    · subst h1; simp at h
    · rw [if_neg (by omega), if_pos h1, if_neg (by omega), if_pos (by omega)]
theorem two_halves (n : Nat) : n / 18446744073709551616 * 18446744073709551616 + n % 18446744073709551616 = n := Nat.div_add_mod' _ _
theorem halves_of (M : Nat) {h l n : Nat} (e : h * M + l = n) (hl : l < M) : n / M = h ∧ n % M = l := by
  subst e
  rw [Nat.mul_comm]
  exact ⟨by rw [Nat.mul_add_div (by omega), Nat.div_eq_of_lt hl, Nat.add_zero], by rw [Nat.mul_add_mod, Nat.mod_eq_of_lt hl]⟩
theorem div_halves (M : Nat) {hi lo c : Nat} (hc : 0 < c) (hlo : lo < M) :
    (hi * M + lo) / c = hi / c * M + (hi % c * M + lo) / c ∧ (hi * M + lo) % c = (hi % c * M + lo) % c ∧ (hi % c * M + lo) / c < M := by
  have e : hi * M + lo = (hi % c * M + lo) + c * (hi / c * M) := by
    have h := Nat.div_add_mod' hi c
    have h2 : (hi / c * c + hi % c) * M = hi * M := by rw [h]
    rw [Nat.add_mul, Nat.mul_right_comm, Nat.mul_comm (hi / c * M)] at h2
    omega
  have hl : hi % c < c := Nat.mod_lt _ hc
  refine ⟨?_, ?_, ?_⟩
  · rw [e, Nat.add_mul_div_left _ _ hc, Nat.add_comm]
  · rw [e, Nat.add_mul_mod_self_left]
  · refine Nat.div_lt_of_lt_mul ?_
    have : (hi % c + 1) * M ≤ c * M := Nat.mul_le_mul_right _ hl
    rw [Nat.add_mul, Nat.one_mul] at this
    omega
theorem cmp_halves (M : Nat) {a b c d : Nat} (hb : b < M) (hd : d < M) : cmpN (a * M + b) (c * M + d) = if a = c then cmpN b d else cmpN a c := by
  by_cases h : a = c
  · subst h; rw [if_pos rfl]; unfold cmpN
    congr 1
    · exact propext ⟨by omega, by omega⟩
    · congr 1; exact propext ⟨by omega, by omega⟩
  · rw [if_neg h]
    rcases Nat.lt_or_gt_of_ne h with h | h
    · have : (a + 1) * M ≤ c * M := Nat.mul_le_mul_right _ h
      rw [Nat.add_mul, Nat.one_mul] at this
      unfold cmpN; rw [if_pos (by omega), if_pos h]
    · have : (c + 1) * M ≤ a * M := Nat.mul_le_mul_right _ h
      rw [Nat.add_mul, Nat.one_mul] at this
      unfold cmpN; rw [if_neg (by omega), if_pos (by omega), if_neg (by omega), if_pos h]
theorem pNeg_true {a b : Int} : pNeg a b = true ↔ (a < 0 ∧ 0 < b) ∨ (0 < a ∧ b < 0) := by
  unfold pNeg
  rw [decide_eq_true_iff]
  constructor
  · intro h
    rcases Int.lt_trichotomy a 0 with h1 | h1 | h1
    · rcases Int.lt_trichotomy b 0 with h2 | h2 | h2
      · have := Int.mul_pos_of_neg_of_neg h1 h2; omega
      · subst h2; simp at h
      · exact .inl ⟨h1, h2⟩
    · subst h1; simp at h
    · rcases Int.lt_trichotomy b 0 with h2 | h2 | h2
      · exact .inr ⟨h1, h2⟩
      · subst h2; simp at h
      · have := Int.mul_pos h1 h2; omega
  · rintro (⟨h1, h2⟩ | ⟨h1, h2⟩)
    · exact Int.mul_neg_of_neg_of_pos h1 h2
    · exact Int.mul_neg_of_pos_of_neg h1 h2
theorem prod_eq (a b : Int) : a * b = sgnd (pNeg a b) (pSize a b) := by
  have h := Int.natAbs_mul a b
  unfold sgnd pNeg pSize
  rw [← h]
  by_cases h1 : a * b < 0
  · rw [if_pos (decide_eq_true h1)]; omega
  · rw [if_neg (by simp [h1])]; omega
theorem cmpV_tt {a b c d : Int} (h1 : pNeg a b = true) (h2 : pNeg c d = true) : cmpV a b c d = cmpN (pSize c d) (pSize a b) := by
  unfold cmpV cmpN
  rw [prod_eq a b, prod_eq c d, h1, h2]
  unfold sgnd
  simp only [if_true]
  rcases Nat.lt_trichotomy (pSize c d) (pSize a b) with h | h | h
  · rw [if_pos h, if_pos (by omega)]
  · rw [h]; simp
  · rw [if_neg (by omega), if_pos (by omega), if_neg (by omega), if_pos h]
theorem pSize_pos {a b : Int} (h : pNeg a b = true) : 0 < pSize a b := by
  have e := prod_eq a b
  rw [h] at e
  unfold pNeg at h
  have := of_decide_eq_true h
  unfold sgnd at e
  simp only [if_true] at e
  omega
theorem cmpV_tf {a b c d : Int} (h1 : pNeg a b = true) (h2 : pNeg c d = false) : cmpV a b c d = -1 := by
  have := pSize_pos h1
  unfold cmpV
  rw [prod_eq a b, prod_eq c d, h1, h2]
  unfold sgnd
  rw [if_pos]
  simp
  omega
theorem cmpV_ft {a b c d : Int} (h1 : pNeg a b = false) (h2 : pNeg c d = true) : cmpV a b c d = 1 := by
  have := pSize_pos h2
  unfold cmpV
  rw [prod_eq a b, prod_eq c d, h1, h2]
  unfold sgnd
  rw [if_neg (by simp <;> omega), if_pos (by simp <;> omega)]
theorem cmpV_ff {a b c d : Int} (h1 : pNeg a b = false) (h2 : pNeg c d = false) : cmpV a b c d = cmpN (pSize a b) (pSize c d) := by
  unfold cmpV cmpN
  rw [prod_eq a b, prod_eq c d, h1, h2]
  unfold sgnd
  rcases Nat.lt_trichotomy (pSize a b) (pSize c d) with h | h | h
  · rw [if_pos h, if_pos (by simp; omega)]
  · rw [h]; simp
  · rw [if_neg (by simp; omega), if_pos (by simp; omega), if_neg (by omega), if_pos h]
end Go.Proofs.Yticcpcejdndplaa
