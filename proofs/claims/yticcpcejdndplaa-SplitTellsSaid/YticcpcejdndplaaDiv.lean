
/- The walk of Go's own bits.Div64: any quotient of 128 bits by 64 that fits 64, and the rest; nothing that lay in memory changes. -/
import Derived.Test.YticcpcejdndplaaProg
import Derived.Test.YticcpcejdndplaaShelf
import Derived.Test.YticcpcejdndplaaDivPlain
import Derived.WalkKit
import Derived.WalkSpells
import Derived.Lib.Hide
import Derived.LoopTactic
import Derived.Laws.Bits64b
import Derived.Deep.CutBlock
import Derived.Deep.DeepCutAuto
namespace Go.Proofs.Yticcpcejdndplaa
open Go.RowKit

theorem lz_any (y s : Nat) (w : World) (hy : y < 18446744073709551616) (hs : (Lib.bitLen y : Int) = 64 - s) :
    Calls Try.prog 54 #[.int .u64 y] w fun e w' => e = .returned (.int .i64 s) ∧ w = w' := by
  refine (Try.bits_LeadingZeros64 y w (by omega) (by omega)).mono ?_
  rintro e w' ⟨rfl, rfl⟩
  refine ⟨?_, rfl⟩
  rw [Int.toNat_natCast, hs]
  congr 2; omega

/-- q is a guess of the digit, not below it, and r what it leaves by the divisor's upper half. -/
def Dig (U V Y1 Y0 q r : Nat) : Prop := q * Y1 + r = U ∧ U * 4294967296 + V < (q + 1) * (Y1 * 4294967296 + Y0) ∧ U < Y1 * 4294967296 + Y0
/-- A is the digit. -/
def Digit (U V Y1 Y0 A : Nat) : Prop := A = (U * 4294967296 + V) / (Y1 * 4294967296 + Y0)
theorem Dig.high {U V Y1 Y0 q r : Nat} (h : Dig U V Y1 Y0 q r) (hV : V < 4294967296) (ht : 4294967296 ≤ q ∨ 4294967296 * r + V < q * Y0) : Dig U V Y1 Y0 (q - 1) (r + Y1) ∧ 0 < q := by
  have hn := dig_high h.1 h.2.2 hV ht
  exact ⟨⟨dig_step h.1 (dig_pos hn), dig_pred hn, h.2.2⟩, dig_pos hn⟩
theorem Dig.low {U V Y1 Y0 q r : Nat} (h : Dig U V Y1 Y0 q r) (ht : q * Y0 ≤ 4294967296 * r + V) : Digit U V Y1 Y0 q := dig_done (dig_low h.1 ht) h.2.1
theorem Dig.brk {U V Y1 Y0 q r : Nat} (h : Dig U V Y1 Y0 q r) (hr : 4294967296 ≤ r) (hq : q ≤ 4294967296) (hy : Y0 < 4294967296) : Digit U V Y1 Y0 q := dig_done (dig_break h.1 hr hq hy) h.2.1
theorem val_u64 {a b : Int} (h : a = b) : Value.int .u64 a = .int .u64 b := by rw [h]

set_option maxHeartbeats 1000000 in
set_option maxRecDepth 100000 in
theorem div64_core (hi lo y s Y Y1 Y0 U V V1 V0 Q R A U2 Q2 R2 A2 X Z : Nat) (w : World) (h0 : 0 < hi) (hy : hi < y) (hy' : y < 18446744073709551616) (_ : lo < 18446744073709551616) (hs : Hid ((Lib.bitLen y : Int) = 64 - s)) (hs' : s ≤ 63)
    (EY : IntKind.u64.wrap ((y : Int) * 2 ^ s) = (Y : Int)) (EY1 : (Y : Int) / 4294967296 = (Y1 : Int)) (EY0 : bits BinOp.and IntKind.u64 (Y : Int) 4294967295 = (Y0 : Int))
    (EU : bits BinOp.or IntKind.u64 (IntKind.u64.wrap ((hi : Int) * 2 ^ s)) ((lo : Int) / 2 ^ (64 - s)) = (U : Int)) (EV : IntKind.u64.wrap ((lo : Int) * 2 ^ s) = (V : Int))
    (EV1 : (V : Int) / 4294967296 = (V1 : Int)) (EV0 : bits BinOp.and IntKind.u64 (V : Int) 4294967295 = (V0 : Int))
    (EQ : IntKind.u64.wrap ((U : Int) / (Y1 : Int)) = (Q : Int)) (ER : IntKind.u64.wrap ((U : Int) - IntKind.u64.wrap ((Q : Int) * (Y1 : Int))) = (R : Int))
    (E2 : IntKind.u64.wrap (IntKind.u64.wrap (IntKind.u64.wrap ((U : Int) * 4294967296) + (V1 : Int)) - IntKind.u64.wrap ((A : Int) * (Y : Int))) = (U2 : Int))
    (EQ2 : IntKind.u64.wrap ((U2 : Int) / (Y1 : Int)) = (Q2 : Int)) (ER2 : IntKind.u64.wrap ((U2 : Int) - IntKind.u64.wrap ((Q2 : Int) * (Y1 : Int))) = (R2 : Int))
    (EX : IntKind.u64.wrap (IntKind.u64.wrap ((A : Int) * 4294967296) + (A2 : Int)) = (X : Int))
    (EZ : IntKind.u64.wrap (IntKind.u64.wrap (IntKind.u64.wrap ((U2 : Int) * 4294967296) + (V0 : Int)) - IntKind.u64.wrap ((A2 : Int) * (Y : Int))) / 2 ^ s = (Z : Int))
    (hY1 : 2147483648 ≤ Y1) (hY1' : Y1 < 4294967296) (hY0 : Y0 < 4294967296) (hV1 : V1 < 4294967296) (hV0 : V0 < 4294967296)
    (hQ : Dig U V1 Y1 Y0 Q R) (hR : R < 4294967296) (hQ2 : Q ≤ 4294967297)
    (hQ' : Dig U2 V0 Y1 Y0 Q2 R2) (hR' : R2 < 4294967296) (hQ2' : Q2 ≤ 4294967297)
    (hA : ∀ a, Digit U V1 Y1 Y0 a → a = A) (hA2 : ∀ a, Digit U2 V0 Y1 Y0 a → a = A2) :
    Calls Try.prog 48 #[.int .u64 hi, .int .u64 lo, .int .u64 y] w fun e w' => e = .returned (.tuple #[.int .u64 (X : Int), .int .u64 (Z : Int)]) ∧ w = w' := by
  have HA := Lib.hid hA
  have HA2 := Lib.hid hA2
  clear hA hA2
  go_enter Try.func48, Try.ntmps48
  go_wp2_with fail
  refine (lz_any y s _ (by omega) hs.out).mono ?_
  rintro e w' ⟨rfl, rfl⟩
  go_upto_block 0 with fail
  go_cut [15] (fun s15 wx => s15 = .int .u64 (A : Int) ∧ w = wx)
  case first =>
    clear EY EY1 EY0 EU EV EV1 EV0 EQ ER E2 EQ2 ER2 EX EZ
    go_wp2_with fail
    go_loop [15, 16] (fun a b => ∃ q r : Nat, a = .int .u64 q ∧ b = .int .u64 r ∧ Dig U V1 Y1 Y0 q r ∧ r < 4294967296 ∧ q ≤ 4294967297) (fun a _ => (intOf a).toNat)
    case atStart => exact ⟨Q, R, rfl, rfl, hQ, hR, hQ2⟩
    case round =>
      obtain ⟨q, r, rfl, rfl, hd, hr, h2⟩ := hrel
      by_cases h3 : 4294967296 ≤ q
      · obtain ⟨hn, hq⟩ := hd.high hV1 (.inl h3)
        have HN := Lib.hid hn
        have H3 : (4294967296 : Int) ≤ (q : Int) := by omega
        clear hn hd h3
        by_cases h4 : 4294967296 ≤ r + Y1
        · have H4 : (4294967296 : Int) ≤ (r : Int) + (Y1 : Int) := by omega
          have H5 := Lib.hid h4
          clear h4
          go_wp2
          go_meet
          case rel => exact ⟨val_u64 (by have := HA.out _ (HN.out.brk H5.out (by omega) hY0); omega), rfl⟩
        · have H7 := Lib.hid h4
          have H4 : decide ((4294967296 : Int) ≤ (r : Int) + (Y1 : Int)) = false := by simp only [decide_eq_false_iff_not]; omega
          clear h4
          go_wp2
          go_round
          case rel => exact ⟨q - 1, r + Y1, val_u64 (by omega), val_u64 (by omega), HN.out, by have := H7.out; omega, by omega⟩
          case measure => simp [intOf]; omega
      · obtain ⟨M, EM⟩ : ∃ M : Nat, M = q * Y0 := ⟨_, rfl⟩
        have hM : (M : Int) < 18446744073709551616 := by
          have : q * Y0 ≤ 4294967295 * 4294967295 := Nat.mul_le_mul (by omega) (by omega)
          omega
        have EM' : (q : Int) * (Y0 : Int) = (M : Int) := by rw [EM]; exact (Int.natCast_mul q Y0).symm
        have H3 : decide ((4294967296 : Int) ≤ (q : Int)) = false := by simp only [decide_eq_false_iff_not]; omega
        clear h3
        by_cases h5 : 4294967296 * r + V1 < q * Y0
        · obtain ⟨hn, hq⟩ := hd.high hV1 (.inr h5)
          have HN := Lib.hid hn
          have H6 : (4294967296 : Int) * (r : Int) + (V1 : Int) < (M : Int) := by omega
          clear hn hd h5 EM
          by_cases h4 : 4294967296 ≤ r + Y1
          · have H4 : (4294967296 : Int) ≤ (r : Int) + (Y1 : Int) := by omega
            have H5 := Lib.hid h4
            clear h4
            go_wp2
            go_meet
            case rel => exact ⟨val_u64 (by clear EM'; have := HA.out _ (HN.out.brk H5.out (by omega) hY0); omega), rfl⟩
          · have H7 := Lib.hid h4
            have H4 : decide ((4294967296 : Int) ≤ (r : Int) + (Y1 : Int)) = false := by simp only [decide_eq_false_iff_not]; omega
            clear h4
            go_wp2
            go_round
            case rel => clear EM'; exact ⟨q - 1, r + Y1, val_u64 (by omega), val_u64 (by omega), HN.out, by have := H7.out; omega, by omega⟩
            case measure => clear EM'; simp [intOf]; omega
        · have HN := Lib.hid (hd.low (Nat.le_of_not_lt h5))
          have H6 : decide ((4294967296 : Int) * (r : Int) + (V1 : Int) < (M : Int)) = false := by simp only [decide_eq_false_iff_not]; omega
          clear hd h5 EM
          go_wp2
          go_meet
          case rel => exact ⟨val_u64 (by clear EM'; have := HA.out _ HN.out; omega), rfl⟩
  case rest =>
    obtain ⟨rfl, rfl⟩ := hcut
    go_upto_block 2 with fail
    go_cut [18] (fun s18 wx => s18 = .int .u64 (A2 : Int) ∧ w = wx)
    case first =>
      clear EY EY1 EY0 EU EV EV1 EV0 EQ ER E2 EQ2 ER2 EX EZ
      go_wp2_with fail
      go_loop [18, 16] (fun a b => ∃ q r : Nat, a = .int .u64 q ∧ b = .int .u64 r ∧ Dig U2 V0 Y1 Y0 q r ∧ r < 4294967296 ∧ q ≤ 4294967297) (fun a _ => (intOf a).toNat)
      case atStart => exact ⟨Q2, R2, rfl, rfl, hQ', hR', hQ2'⟩
      case round =>
        obtain ⟨q, r, rfl, rfl, hd, hr, h2⟩ := hrel
        by_cases h3 : 4294967296 ≤ q
        · obtain ⟨hn, hq⟩ := hd.high hV0 (.inl h3)
          have HN := Lib.hid hn
          have H3 : (4294967296 : Int) ≤ (q : Int) := by omega
          clear hn hd h3
          by_cases h4 : 4294967296 ≤ r + Y1
          · have H4 : (4294967296 : Int) ≤ (r : Int) + (Y1 : Int) := by omega
            have H5 := Lib.hid h4
            clear h4
            go_wp2
            go_meet
            case rel => exact ⟨val_u64 (by have := HA2.out _ (HN.out.brk H5.out (by omega) hY0); omega), rfl⟩
          · have H7 := Lib.hid h4
            have H4 : decide ((4294967296 : Int) ≤ (r : Int) + (Y1 : Int)) = false := by simp only [decide_eq_false_iff_not]; omega
            clear h4
            go_wp2
            go_round
            case rel => exact ⟨q - 1, r + Y1, val_u64 (by omega), val_u64 (by omega), HN.out, by have := H7.out; omega, by omega⟩
            case measure => simp [intOf]; omega
        · obtain ⟨M, EM⟩ : ∃ M : Nat, M = q * Y0 := ⟨_, rfl⟩
          have hM : (M : Int) < 18446744073709551616 := by
            have : q * Y0 ≤ 4294967295 * 4294967295 := Nat.mul_le_mul (by omega) (by omega)
            omega
          have EM' : (q : Int) * (Y0 : Int) = (M : Int) := by rw [EM]; exact (Int.natCast_mul q Y0).symm
          have H3 : decide ((4294967296 : Int) ≤ (q : Int)) = false := by simp only [decide_eq_false_iff_not]; omega
          clear h3
          by_cases h5 : 4294967296 * r + V0 < q * Y0
          · obtain ⟨hn, hq⟩ := hd.high hV0 (.inr h5)
            have HN := Lib.hid hn
            have H6 : (4294967296 : Int) * (r : Int) + (V0 : Int) < (M : Int) := by omega
            clear hn hd h5 EM
            by_cases h4 : 4294967296 ≤ r + Y1
            · have H4 : (4294967296 : Int) ≤ (r : Int) + (Y1 : Int) := by omega
              have H5 := Lib.hid h4
              clear h4
              go_wp2
              go_meet
              case rel => exact ⟨val_u64 (by clear EM'; have := HA2.out _ (HN.out.brk H5.out (by omega) hY0); omega), rfl⟩
            · have H7 := Lib.hid h4
              have H4 : decide ((4294967296 : Int) ≤ (r : Int) + (Y1 : Int)) = false := by simp only [decide_eq_false_iff_not]; omega
              clear h4
              go_wp2
              go_round
              case rel => clear EM'; exact ⟨q - 1, r + Y1, val_u64 (by omega), val_u64 (by omega), HN.out, by have := H7.out; omega, by omega⟩
              case measure => clear EM'; simp [intOf]; omega
          · have HN := Lib.hid (hd.low (Nat.le_of_not_lt h5))
            have H6 : decide ((4294967296 : Int) * (r : Int) + (V0 : Int) < (M : Int)) = false := by simp only [decide_eq_false_iff_not]; omega
            clear hd h5 EM
            go_wp2
            go_meet
            case rel => exact ⟨val_u64 (by clear EM'; have := HA2.out _ HN.out; omega), rfl⟩
    case rest =>
      obtain ⟨rfl, rfl⟩ := hcut
      clear EY EY1 EY0 EU EV EV1 EV0 EQ ER E2 EQ2 ER2
      go_wp2
      go_ret2
      exact ⟨rfl, rfl⟩
end Go.Proofs.Yticcpcejdndplaa
