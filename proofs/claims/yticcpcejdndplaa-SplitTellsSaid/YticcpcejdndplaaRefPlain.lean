
/- Plain arithmetic for the document's own layer 2, with no program in it: doubling, adding and dividing bit by bit over halves of 64 bits. -/
import Derived.Test.YticcpcejdndplaaWideFacts
import Derived.WalkKit
namespace Go.Proofs.Yticcpcejdndplaa
open Go.RowKit

theorem halves_dbl {n o : Nat} (hn : n ≤ 85070591730234615865843651857942052864) (ho : o ≤ 1) :
    IntKind.u64.wrap (IntKind.u64.wrap (hi64 n * 2) + lo64 n / 9223372036854775808) = hi64 (2 * n + o) ∧ IntKind.u64.wrap (IntKind.u64.wrap (lo64 n * 2) + (o : Int)) = lo64 (2 * n + o) := by
  simp only [IntKind.wrap_u64]
  unfold hi64 lo64; omega
theorem halves_add {n b : Nat} (hb : b < 18446744073709551616) :
    IntKind.u64.wrap (lo64 n + (b : Int)) = lo64 (n + b) ∧ (lo64 (n + b) < (b : Int) → hi64 (n + b) = hi64 n + 1) ∧ (¬ lo64 (n + b) < (b : Int) → hi64 (n + b) = hi64 n) := by
  simp only [IntKind.wrap_u64]
  unfold hi64 lo64; omega
theorem times_step {a p b n k : Nat} (hk : k = a / p % 2) (hn : n = a / (2 * p) * b) : a / p * b = 2 * n + k * b := by
  have h1 : a / (2 * p) = a / p / 2 := by rw [Nat.mul_comm, Nat.div_div_eq_div_mul]
  have h2 := Nat.div_add_mod' (a / p) 2
  rw [← hk, ← h1] at h2
  have h3 : (a / (2 * p) * 2 + k) * b = a / p * b := by rw [h2]
  rw [← h3, hn, Nat.add_mul, Nat.mul_right_comm, Nat.mul_comm _ 2]
theorem by_step {n c i q r b : Nat} (hb : b = n / 2 ^ i % 2) (hq : q = n / 2 ^ (i + 1) / c) (hr : r = n / 2 ^ (i + 1) % c) (hc : 0 < c) :
    (c ≤ 2 * r + b → 2 * q + 1 = n / 2 ^ i / c ∧ 2 * r + b - c = n / 2 ^ i % c) ∧ (¬ c ≤ 2 * r + b → 2 * q = n / 2 ^ i / c ∧ 2 * r + b = n / 2 ^ i % c) := by
  have h1 : n / 2 ^ (i + 1) = n / 2 ^ i / 2 := by rw [Nat.pow_succ, Nat.div_div_eq_div_mul]
  rw [h1] at hq hr
  have h2 := Nat.div_add_mod' (n / 2 ^ i) 2
  rw [← hb] at h2
  generalize n / 2 ^ i = m at *
  have h3 := Nat.div_add_mod' (m / 2) c
  rw [← hq, ← hr] at h3
  have h4 : r < c := by rw [hr]; exact Nat.mod_lt _ hc
  have hb2 : b ≤ 1 := by omega
  have key : m = c * (2 * q) + (2 * r + b) := by
    have e : c * (2 * q) = 2 * (q * c) := by rw [Nat.mul_comm c, Nat.mul_assoc]
    rw [e]; omega
  constructor
  · intro h
    have e : m = c * (2 * q + 1) + (2 * r + b - c) := by rw [Nat.mul_add, Nat.mul_one]; omega
    have hl : 2 * r + b - c < c := by omega
    generalize 2 * r + b - c = t at *
    subst e
    exact ⟨by rw [Nat.mul_add_div hc, Nat.div_eq_of_lt hl, Nat.add_zero], by rw [Nat.mul_add_mod, Nat.mod_eq_of_lt hl]⟩
  · intro h
    have hl : 2 * r + b < c := by omega
    generalize 2 * r + b = t at *
    subst key
    exact ⟨by rw [Nat.mul_add_div hc, Nat.div_eq_of_lt hl, Nat.add_zero], by rw [Nat.mul_add_mod, Nat.mod_eq_of_lt hl]⟩
/-- The bit of a number of two halves. -/
theorem bit_high {n i : Nat} (hi : 64 ≤ i) : n / 18446744073709551616 / 2 ^ (i - 64) % 2 = n / 2 ^ i % 2 := by
  have : (2 : Nat) ^ i = 18446744073709551616 * 2 ^ (i - 64) := by
    rw [show (18446744073709551616 : Nat) = 2 ^ 64 from rfl, ← Nat.pow_add]; congr 1; omega
  rw [this, Nat.div_div_eq_div_mul]
theorem bit_low {n i : Nat} (hi : i < 64) : n % 18446744073709551616 / 2 ^ i % 2 = n / 2 ^ i % 2 := by
  have e : (18446744073709551616 : Nat) = 2 ^ i * 2 ^ (64 - i) := by
    rw [← Nat.pow_add, show i + (64 - i) = 64 by omega]
  have h2 : (2 : Nat) ∣ 2 ^ (64 - i) := ⟨2 ^ (63 - i), by rw [Nat.mul_comm, ← Nat.pow_succ]; congr 1; omega⟩
  rw [e, Nat.mod_mul_right_div_self, Nat.mod_mod_of_dvd _ h2]
/-- The document's sign. -/
def rNeg (a b c : Int) : Bool := decide (a < 0) != (decide (b < 0) != decide (c < 0))
theorem rNeg_eq {a b c : Int} (h : pSize a b ≠ 0) : rNeg a b c = qNeg a b c := by
  have ha : a ≠ 0 := fun h' => h (by subst h'; simp [pSize])
  have hb : b ≠ 0 := fun h' => h (by subst h'; simp [pSize])
  have e : pNeg a b = (decide (a < 0) != decide (b < 0)) := by
    by_cases h1 : a < 0 <;> by_cases h2 : b < 0
    · rw [pNeg_false (by omega), decide_eq_true h1, decide_eq_true h2]; rfl
    · rw [pNeg_true.2 (by omega), decide_eq_true h1, decide_eq_false h2]; rfl
    · rw [pNeg_true.2 (by omega), decide_eq_false h1, decide_eq_true h2]; rfl
    · rw [pNeg_false (by omega), decide_eq_false h1, decide_eq_false h2]; rfl
  unfold rNeg qNeg
  rw [e]
  cases decide (a < 0) <;> cases decide (b < 0) <;> cases decide (c < 0) <;> rfl
theorem rNeg_sgnd {a b c : Int} {n : Nat} (h : pSize a b = 0 → n = 0) : sgnd (rNeg a b c) n = sgnd (qNeg a b c) n := by
  by_cases h0 : pSize a b = 0
  · rw [h h0, sgnd_zero, sgnd_zero]
  · rw [rNeg_eq h0]
theorem qSize_zero {a b c : Int} (h0 : c ≠ 0) (h : pSize a b = 0) : qSize a b c = 0 := by
  unfold qSize; rw [h, Nat.zero_mod, Nat.zero_div, if_neg (by omega)]
end Go.Proofs.Yticcpcejdndplaa
