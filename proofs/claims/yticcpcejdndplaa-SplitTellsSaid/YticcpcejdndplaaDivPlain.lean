
/- Plain arithmetic of long division by halves, with no program in it: a guess of a digit, lowered while it is too great, is the digit; two digits are the quotient of 128 bits by 64; shifting both numbers changes no quotient. -/
import Derived.IntWalk
namespace Go.Proofs.Yticcpcejdndplaa

theorem dig_high {u d y1 y0 q r : Nat} (hi : q * y1 + r = u) (hu : u < y1 * 4294967296 + y0) (hd : d < 4294967296)
    (ht : 4294967296 ≤ q ∨ 4294967296 * r + d < q * y0) : u * 4294967296 + d < q * (y1 * 4294967296 + y0) := by
  rcases ht with h | h
  · have := Nat.mul_le_mul_right (y1 * 4294967296 + y0) h
    omega
  · rw [Nat.mul_add, ← Nat.mul_assoc]; omega
theorem dig_low {u d y1 y0 q r : Nat} (hi : q * y1 + r = u) (ht : q * y0 ≤ 4294967296 * r + d) :
    q * (y1 * 4294967296 + y0) ≤ u * 4294967296 + d := by
  rw [Nat.mul_add, ← Nat.mul_assoc]; omega
theorem dig_break {u d y1 y0 q r : Nat} (hi : q * y1 + r = u) (hr : 4294967296 ≤ r) (hq : q ≤ 4294967296) (hy : y0 < 4294967296) :
    q * (y1 * 4294967296 + y0) ≤ u * 4294967296 + d := by
  refine dig_low hi ?_
  have h1 : q * y0 ≤ 4294967296 * 4294967296 := Nat.mul_le_mul hq (by omega)
  have h2 : 4294967296 * 4294967296 ≤ 4294967296 * r := Nat.mul_le_mul_left _ hr
  omega
theorem dig_first {u d y1 y0 : Nat} (hy1 : 2147483648 ≤ y1) (hu : u < y1 * 4294967296 + y0) (hy0 : y0 < 4294967296) (hd : d < 4294967296) :
    u / y1 * y1 + u % y1 = u ∧ u % y1 < y1 ∧ u * 4294967296 + d < (u / y1 + 1) * (y1 * 4294967296 + y0) ∧ u / y1 ≤ 4294967297 := by
  have h1 : u / y1 * y1 + u % y1 = u := Nat.div_add_mod' u y1
  have h2 : u % y1 < y1 := Nat.mod_lt _ (by omega)
  refine ⟨h1, h2, ?_, ?_⟩
  · rw [Nat.mul_add, ← Nat.mul_assoc, Nat.add_mul (u / y1) 1 y1, Nat.one_mul]
    have := Nat.zero_le ((u / y1 + 1) * y0)
    omega
  · have h3 : u / y1 < 4294967298 := by
      refine Nat.div_lt_of_lt_mul ?_
      rw [Nat.mul_comm]; omega
    omega
theorem dig_step {y1 q r u : Nat} (hi : q * y1 + r = u) (hq : 0 < q) : (q - 1) * y1 + (r + y1) = u := by
  obtain ⟨k, rfl⟩ : ∃ k, q = k + 1 := ⟨q - 1, by omega⟩
  rw [Nat.add_mul, Nat.one_mul] at hi
  rw [Nat.add_sub_cancel]; omega
theorem dig_pos {N y q : Nat} (h : N < q * y) : 0 < q := by
  rcases Nat.eq_zero_or_pos q with rfl | h'
  · rw [Nat.zero_mul] at h; omega
  · exact h'
theorem dig_pred {N y q : Nat} (h : N < q * y) : N < (q - 1 + 1) * y := by
  rw [Nat.sub_add_cancel (dig_pos h)]; exact h
theorem dig_done {N y q : Nat} (h1 : q * y ≤ N) (h2 : N < (q + 1) * y) : q = N / y := by
  exact (Nat.div_eq_of_lt_le h1 h2).symm
theorem digit_lt {u d y : Nat} (hu : u < y) (hd : d < 4294967296) : (u * 4294967296 + d) / y < 4294967296 := by
  refine Nat.div_lt_of_lt_mul ?_
  have : (u + 1) * 4294967296 ≤ y * 4294967296 := Nat.mul_le_mul_right _ hu
  omega
theorem two_digits_any (B : Nat) {u a b y : Nat} (hy : 0 < y) :
    (u * B + a) / y * B + ((u * B + a) % y * B + b) / y = (u * (B * B) + (a * B + b)) / y
    ∧ ((u * B + a) % y * B + b) % y = (u * (B * B) + (a * B + b)) % y := by
  have h := Nat.div_add_mod' (u * B + a) y
  have e : u * (B * B) + (a * B + b) = ((u * B + a) % y * B + b) + y * ((u * B + a) / y * B) := by
    have e1 : u * (B * B) + (a * B + b) = (u * B + a) * B + b := by rw [Nat.add_mul, Nat.mul_assoc, Nat.add_assoc]
    have e2 : ∀ q r : Nat, (q * y + r) * B + b = r * B + b + y * (q * B) := fun q r => by
      rw [Nat.add_mul, Nat.mul_right_comm, Nat.mul_comm (q * B) y]; omega
    rw [e1, ← e2, h]
  rw [e]
  generalize (u * B + a) % y * B + b = m
  generalize (u * B + a) / y * B = k
  exact ⟨(Nat.add_comm _ _).trans (Nat.add_mul_div_left _ _ hy).symm, (Nat.add_mul_mod_self_left _ _ _).symm⟩
/-- Two digits, one behind the other. -/
theorem two_digits {u a b y : Nat} (hy : 0 < y) :
    (u * 4294967296 + a) / y * 4294967296 + ((u * 4294967296 + a) % y * 4294967296 + b) / y = (u * 18446744073709551616 + (a * 4294967296 + b)) / y
    ∧ ((u * 4294967296 + a) % y * 4294967296 + b) % y = (u * 18446744073709551616 + (a * 4294967296 + b)) % y := by
  have h := two_digits_any 4294967296 (u := u) (a := a) (b := b) hy
  rw [show (4294967296 * 4294967296 : Nat) = 18446744073709551616 from rfl] at h
  exact h
theorem shift_div {n y p : Nat} (hp : 0 < p) : n * p / (y * p) = n / y ∧ n * p % (y * p) = n % y * p :=
  ⟨Nat.mul_div_mul_right _ _ hp, Nat.mul_mod_mul_right _ _ _⟩
end Go.Proofs.Yticcpcejdndplaa
