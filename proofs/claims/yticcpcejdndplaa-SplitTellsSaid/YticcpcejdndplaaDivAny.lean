
/- Go's own bits.Div64, in plain words: the quotient and the rest of any number of 128 bits by any of 64 that is above its upper half; nothing that lay in memory changes. -/
import Derived.Test.YticcpcejdndplaaDiv
import Derived.Shelf.Bits.Mul64
namespace Go.Proofs.Yticcpcejdndplaa
open Go.RowKit

theorem bitLen_bd : ∀ (k y : Nat), 0 < y → y < 2 ^ k → k ≤ 64 → 2 ^ Lib.bitLen y ≤ 2 * y ∧ y < 2 ^ Lib.bitLen y ∧ Lib.bitLen y ≤ k
  | 0, y, h0, h1, _ => by simp at h1; omega
  | k + 1, y, h0, h1, hk => by
    have h64 : y < 2 ^ 64 := Nat.lt_of_lt_of_le h1 (Nat.pow_le_pow_right (by omega) hk)
    have e := Lib.bitLen_half y (by omega) h64
    by_cases h : y / 2 = 0
    · have hy : y = 1 := by omega
      subst hy
      have : Lib.bitLen 1 = 1 := by decide
      rw [this]
      exact ⟨by decide, by decide, by omega⟩
    · obtain ⟨i1, i2, i3⟩ := bitLen_bd k (y / 2) (by omega) (by rw [Nat.pow_succ] at h1; omega) (by omega)
      rw [e, Nat.add_comm 1, Nat.pow_succ]
      omega
theorem shift_of (y : Nat) (h0 : 0 < y) (h1 : y < 18446744073709551616) :
    ∃ s P T : Nat, s ≤ 63 ∧ (Lib.bitLen y : Int) = 64 - s ∧ P = 2 ^ s ∧ T = 2 ^ (64 - s) ∧ P * T = 18446744073709551616 ∧ 9223372036854775808 ≤ y * P ∧ y * P < 18446744073709551616 ∧ 0 < P ∧ 0 < T := by
  obtain ⟨a, b, c⟩ := bitLen_bd 64 y h0 h1 (Nat.le_refl _)
  have hb : 0 < Lib.bitLen y := by
    rcases Nat.eq_zero_or_pos (Lib.bitLen y) with h | h
    · rw [h] at b; simp at b; omega
    · exact h
  have e : 2 ^ (64 - Lib.bitLen y) * 2 ^ Lib.bitLen y = 18446744073709551616 := by
    rw [← Nat.pow_add, Nat.sub_add_cancel c]
  have hp : 0 < 2 ^ (64 - Lib.bitLen y) := Nat.pow_pos (by omega)
  refine ⟨64 - Lib.bitLen y, _, _, by omega, by omega, rfl, rfl, ?_, ?_, ?_, hp, Nat.pow_pos (by omega)⟩
  · rw [show 64 - (64 - Lib.bitLen y) = Lib.bitLen y by omega]; exact e
  · have := Nat.mul_le_mul_right (2 ^ (64 - Lib.bitLen y)) a
    rw [Nat.mul_comm (2 ^ Lib.bitLen y), e, Nat.mul_assoc] at this
    omega
  · have := Nat.mul_lt_mul_of_pos_right b hp
    rw [Nat.mul_comm (2 ^ Lib.bitLen y), e] at this
    exact this
theorem wrap_nat {n m : Nat} (h : n = m) (hm : m < 18446744073709551616) : IntKind.u64.wrap (n : Int) = (m : Int) := by rw [h, IntKind.wrap_u64]; omega
theorem upper_any (M : Nat) {hi lo y P T : Nat} (hP : 0 < P) (e : P * T = M) (hlo : lo < M) (hy : hi < y) :
    lo / T < P ∧ hi * P + lo / T < y * P ∧ (hi * M + lo) * P = (hi * P + lo / T) * M + lo * P % M := by
  have h1 : lo / T < P := Nat.div_lt_of_lt_mul (by rw [Nat.mul_comm, e]; exact hlo)
  have h2 : (hi + 1) * P ≤ y * P := Nat.mul_le_mul_right _ hy
  rw [Nat.add_mul, Nat.one_mul] at h2
  refine ⟨h1, by omega, ?_⟩
  have h3 : lo * P / M = lo / T := by
    rw [← e, Nat.mul_comm P T, Nat.mul_div_mul_right _ _ hP]
  have h4 := Nat.div_add_mod' (lo * P) M
  rw [h3] at h4
  rw [Nat.add_mul, Nat.add_mul (hi * P), Nat.mul_right_comm hi M P, Nat.add_assoc, h4]
theorem guess_eqs {U Y1 Q R : Nat} (hU : U < 18446744073709551616) (hQ : Q = U / Y1) (hR : R = U % Y1) :
    IntKind.u64.wrap ((U : Int) / (Y1 : Int)) = (Q : Int) ∧ IntKind.u64.wrap ((U : Int) - IntKind.u64.wrap ((Q : Int) * (Y1 : Int))) = (R : Int) := by
  have h1 : U / Y1 ≤ U := Nat.div_le_self _ _
  have h2 := Nat.div_add_mod' U Y1
  rw [← hQ, ← hR] at h2
  constructor
  · rw [← Int.natCast_ediv, ← hQ]; exact wrap_nat rfl (by omega)
  · rw [← Int.natCast_mul]
    generalize Q * Y1 = m at *
    simp only [IntKind.wrap_u64]
    omega
theorem rest_eq {U V Y A W : Nat} (hY : 0 < Y) (hY' : Y < 18446744073709551616) (hA : A = (U * 4294967296 + V) / Y) (hW : W = (U * 4294967296 + V) % Y) :
    IntKind.u64.wrap (IntKind.u64.wrap (IntKind.u64.wrap ((U : Int) * 4294967296) + (V : Int)) - IntKind.u64.wrap ((A : Int) * (Y : Int))) = (W : Int) := by
  have h1 := Nat.div_add_mod' (U * 4294967296 + V) Y
  have h2 := Nat.mod_lt (U * 4294967296 + V) hY
  rw [← hA, ← hW] at h1
  rw [← hW] at h2
  rw [← Int.natCast_mul]
  generalize A * Y = m at *
  clear hA hW
  simp only [IntKind.wrap_u64]
  omega
theorem put_eq {A B X : Nat} (hA : A < 4294967296) (hB : B < 4294967296) (hX : A * 4294967296 + B = X) :
    IntKind.u64.wrap (IntKind.u64.wrap ((A : Int) * 4294967296) + (B : Int)) = (X : Int) := by
  simp only [IntKind.wrap_u64]
  omega
theorem dig_of {U V Y Y1 Y0 Q R : Nat} (hY : Y1 * 4294967296 + Y0 = Y) (hY1 : 2147483648 ≤ Y1) (hY1' : Y1 < 4294967296) (hY0 : Y0 < 4294967296) (hV : V < 4294967296) (hU : U < Y) (hQ : Q = U / Y1) (hR : R = U % Y1) :
    Dig U V Y1 Y0 Q R ∧ R < 4294967296 ∧ Q ≤ 4294967297 := by
  subst hY
  obtain ⟨a, b, c, d⟩ := dig_first (d := V) hY1 hU hY0 hV
  rw [← hQ, ← hR] at a
  rw [← hR] at b
  rw [← hQ] at c d
  exact ⟨⟨a, c, hU⟩, by omega, d⟩

theorem div64_mid (hi lo y s Y Y1 Y0 U V V1 V0 Q R A U2 Q2 R2 A2 W X Z : Nat) (w : World) (h0 : 0 < hi) (hy : hi < y) (hy' : y < 18446744073709551616) (hlo : lo < 18446744073709551616) (hs : (Lib.bitLen y : Int) = 64 - s) (hs' : s ≤ 63)
    (EY : IntKind.u64.wrap ((y : Int) * 2 ^ s) = (Y : Int)) (EU : bits BinOp.or IntKind.u64 (IntKind.u64.wrap ((hi : Int) * 2 ^ s)) ((lo : Int) / 2 ^ (64 - s)) = (U : Int)) (EV : IntKind.u64.wrap ((lo : Int) * 2 ^ s) = (V : Int))
    (hY : 9223372036854775808 ≤ Y) (hY' : Y < 18446744073709551616) (hV : V < 18446744073709551616) (hU : U < Y)
    (hY1 : Y1 = Y / 4294967296) (hY0 : Y0 = Y % 4294967296) (hV1 : V1 = V / 4294967296) (hV0 : V0 = V % 4294967296)
    (hQ : Q = U / Y1) (hR : R = U % Y1) (hA : A = (U * 4294967296 + V1) / Y) (hU2 : U2 = (U * 4294967296 + V1) % Y)
    (hQ2 : Q2 = U2 / Y1) (hR2 : R2 = U2 % Y1) (hA2 : A2 = (U2 * 4294967296 + V0) / Y) (hW : W = (U2 * 4294967296 + V0) % Y)
    (hX : A * 4294967296 + A2 = X) (hZ : ((W : Nat) : Int) / 2 ^ s = (Z : Int)) :
    Calls Try.prog 48 #[.int .u64 hi, .int .u64 lo, .int .u64 y] w fun e w' => e = .returned (.tuple #[.int .u64 (X : Int), .int .u64 (Z : Int)]) ∧ w = w' := by
  have b1 : 2147483648 ≤ Y1 := by omega
  have b2 : Y1 < 4294967296 := by omega
  have b3 : Y0 < 4294967296 := by omega
  have b4 : V1 < 4294967296 := by omega
  have b5 : V0 < 4294967296 := by omega
  have eY : Y1 * 4294967296 + Y0 = Y := by rw [hY1, hY0]; exact Nat.div_add_mod' Y 4294967296
  have hU2' : U2 < Y := by rw [hU2]; exact Nat.mod_lt _ (by omega)
  have g1 := guess_eqs (by omega) hQ hR
  have g2 := guess_eqs (by omega) hQ2 hR2
  have d1 := dig_of (V := V1) eY b1 b2 b3 b4 hU hQ hR
  have d2 := dig_of (V := V0) eY b1 b2 b3 b5 hU2' hQ2 hR2
  have l1 := digit_lt (d := V1) hU b4
  have l2 := digit_lt (d := V0) hU2' b5
  rw [← hA] at l1
  rw [← hA2] at l2
  refine div64_core hi lo y s Y Y1 Y0 U V V1 V0 Q R A U2 Q2 R2 A2 X Z w h0 hy hy' hlo (Lib.hid hs) hs'
    EY (by omega) (by rw [hY0]; exact Mul64.maskN Y hY') EU EV (by omega) (by rw [hV0]; exact Mul64.maskN V hV) g1.1 g1.2 (rest_eq (by omega) hY' hA hU2) g2.1 g2.2 (put_eq l1 l2 hX) ?_ b1 b2 b3 b4 b5
    d1.1 d1.2.1 d1.2.2 d2.1 d2.2.1 d2.2.2 ?_ ?_
  · rw [rest_eq (by omega) hY' hA2 hW]; exact hZ
  · exact fun a ha => Eq.trans ha ((congrArg (fun n => (U * 4294967296 + V1) / n) eY).trans hA.symm)
  · exact fun a ha => Eq.trans ha ((congrArg (fun n => (U2 * 4294967296 + V0) / n) eY).trans hA2.symm)

/-- The far way: the upper half is not 0. -/
theorem div64_far (hi lo y : Nat) (w : World) (h0 : 0 < hi) (hy : hi < y) (hy' : y < 18446744073709551616) (hlo : lo < 18446744073709551616) :
    Calls Try.prog 48 #[.int .u64 hi, .int .u64 lo, .int .u64 y] w fun e w' => e = .returned (.tuple #[.int .u64 (((hi * 18446744073709551616 + lo) / y : Nat) : Int), .int .u64 (((hi * 18446744073709551616 + lo) % y : Nat) : Int)]) ∧ w = w' := by
  obtain ⟨s, P, T, hs, hb, rfl, rfl, e, hY1, hY2, hP, hT⟩ := shift_of y (by omega) hy'
  obtain ⟨u1, u2, u3⟩ := upper_any 18446744073709551616 hP e hlo hy
  have hV : lo * 2 ^ s % 18446744073709551616 < 18446744073709551616 := Nat.mod_lt _ (by omega)
  have hhi : hi * 2 ^ s < 18446744073709551616 := Nat.lt_of_le_of_lt (Nat.le_add_right _ _) (Nat.lt_trans u2 hY2)
  have hq : lo / 2 ^ (64 - s) < 18446744073709551616 := Nat.lt_of_le_of_lt (Nat.div_le_self _ _) hlo
  have e2 : ((2 : Int) ^ s) = ((2 ^ s : Nat) : Int) := by rw [Int.natCast_pow]; rfl
  have e3 : ((2 : Int) ^ (64 - s)) = ((2 ^ (64 - s) : Nat) : Int) := by rw [Int.natCast_pow]; rfl
  have EY : IntKind.u64.wrap ((y : Int) * 2 ^ s) = ((y * 2 ^ s : Nat) : Int) := by rw [e2, ← Int.natCast_mul]; exact wrap_nat rfl hY2
  have EV : IntKind.u64.wrap ((lo : Int) * 2 ^ s) = ((lo * 2 ^ s % 18446744073709551616 : Nat) : Int) := by rw [e2, ← Int.natCast_mul, IntKind.wrap_u64]; rfl
  have EU : bits BinOp.or IntKind.u64 (IntKind.u64.wrap ((hi : Int) * 2 ^ s)) ((lo : Int) / 2 ^ (64 - s)) = ((hi * 2 ^ s + lo / 2 ^ (64 - s) : Nat) : Int) := by
    rw [e2, e3, ← Int.natCast_mul, wrap_nat rfl hhi, ← Int.natCast_ediv, bits_or_u64_nat _ _ hhi hq, Nat.mul_comm hi, ← Nat.two_pow_add_eq_or_of_lt u1]
  have hsd := shift_div (n := hi * 18446744073709551616 + lo) (y := y) hP
  rw [u3] at hsd
  clear u1 u3 hhi hq e e3 hT
  generalize lo * 2 ^ s % 18446744073709551616 = V at *
  generalize y * 2 ^ s = Y at *
  generalize hi * 2 ^ s + lo / 2 ^ (64 - s) = U at *
  have hVd : V / 4294967296 * 4294967296 + V % 4294967296 = V := Nat.div_add_mod' _ _
  have htd := two_digits (u := U) (a := V / 4294967296) (b := V % 4294967296) (y := Y) (by omega)
  rw [hVd, hsd.1, hsd.2] at htd
  refine div64_mid hi lo y s Y _ _ U V _ _ _ _ _ _ _ _ _ _ _ _ w h0 hy hy' hlo hb hs EY EU EV hY1 hY2 hV u2 rfl rfl rfl rfl rfl rfl rfl rfl rfl rfl rfl rfl htd.1 ?_
  rw [htd.2, e2, ← Int.natCast_ediv, Nat.mul_div_cancel _ hP]
end Go.Proofs.Yticcpcejdndplaa
