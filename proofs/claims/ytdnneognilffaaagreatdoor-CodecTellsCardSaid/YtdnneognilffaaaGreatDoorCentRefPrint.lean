
/- The walk of the document's own Print: at every amount of 64 bits it hands back the decimal text, and leaves memory as it was. -/
import Derived.Test.YtdnneognilffaaaGreatDoorCentRefParse
import Derived.Lib.ItoaLen
namespace Go.Proofs.YtdnneognilffaaaGreatDoor
open Go.RowKit
theorem digit_at_fin : ∀ i : Fin 10, (ByteArray.mk #[48, 49, 50, 51, 52, 53, 54, 55, 56, 57]).extract i.val (i.val + 1) = ⟨#[UInt8.ofNat (48 + i.val)]⟩ := by decide +kernel
theorem digit_at {d : Nat} (h : d < 10) (t : List UInt8) : (ByteArray.mk #[48, 49, 50, 51, 52, 53, 54, 55, 56, 57]).extract d (d + 1) ++ ⟨t.toArray⟩ = ⟨(UInt8.ofNat (48 + d) :: t).toArray⟩ := by
  rw [digit_at_fin ⟨d, h⟩]
  apply ByteArray.ext
  simp
theorem digit_neg {m : Nat} (h : (m : Int) % 10 ≤ 0) (t : List UInt8) : (ByteArray.mk #[48, 49, 50, 51, 52, 53, 54, 55, 56, 57]).extract (-((m : Int) % 10)).toNat (-((m : Int) % 10) + 1).toNat ++ ⟨t.toArray⟩ = ⟨(UInt8.ofNat (48 + m % 10) :: t).toArray⟩ := by
  rw [show (-((m : Int) % 10)).toNat = m % 10 by omega, show (-((m : Int) % 10) + 1).toNat = m % 10 + 1 by omega]
  exact digit_at (by omega) t
/-- What is printed so far. -/
def Printed (u m : Nat) (t : List UInt8) : Prop := Lib.decDigits u = (if m = 0 then [] else Lib.decDigits m) ++ t
theorem Printed.len {u m : Nat} {t : List UInt8} (h : Printed u m t) (hu : u < 18446744073709551616) : t.length ≤ 20 := by
  have h1 := congrArg List.length h
  rw [Lib.decDigits_length, List.length_append] at h1
  have := Lib.nDigits_le20 u hu
  omega
theorem Printed.start (u : Nat) (h : 0 < u) : Printed u u [] := by
  unfold Printed; rw [if_neg (by omega)]; simp
theorem Printed.step {u m : Nat} {t : List UInt8} (h : Printed u m t) (hm : m ≠ 0) : Printed u (m / 10) (UInt8.ofNat (48 + m % 10) :: t) := by
  unfold Printed at h ⊢
  rw [if_neg hm] at h
  rw [h]
  by_cases h10 : m < 10
  · rw [if_pos (by omega), dec_small h10, show m % 10 = m by omega]; rfl
  · rw [if_neg (by omega), dec_big h10]; simp
theorem Printed.stop {u : Nat} {t : List UInt8} (h : Printed u 0 t) : t = Lib.decDigits u := by
  unfold Printed at h; simpa using h.symm
theorem str_nil (t : List UInt8) : (ByteArray.mk #[]) ++ ⟨t.toArray⟩ = ⟨t.toArray⟩ := by
  apply ByteArray.ext; simp
theorem str_minus (t : List UInt8) : (ByteArray.mk #[45]) ++ ⟨t.toArray⟩ = ⟨(45 :: t).toArray⟩ := by
  apply ByteArray.ext; simp
theorem ret_str {a b : ByteArray} (h : a = b) : Ending.returned (.string a) = .returned (.string b) := by rw [h]

set_option maxHeartbeats 1000000 in
theorem rprint_zero (w : World) :
    Calls Tryz.prog 18 #[.int .i64 0] w fun e w' => e = .returned (.string ⟨#[48]⟩) ∧ w = w' := by
  go_enter Tryz.func18, Tryz.ntmps18
  go_wp2
  go_ret
  exact ⟨rfl, rfl⟩
set_option maxHeartbeats 1000000 in
theorem rprint_pos (u : Nat) (w : World) (h0 : 0 < u) (hu : u ≤ 9223372036854775807) :
    Calls Tryz.prog 18 #[.int .i64 (u : Int)] w fun e w' => e = .returned (.string ⟨(Lib.decDigits u).toArray⟩) ∧ w = w' := by
  have hz : ((u : Int) == 0) = false := by rw [beq_eq_false_iff_ne]; omega
  go_enter Tryz.func18, Tryz.ntmps18
  go_wp2
  go_loop [0, 4] (fun a s => ∃ m : Nat, ∃ t : List UInt8, a = .int .i64 (m : Int) ∧ s = .string ⟨t.toArray⟩ ∧ m ≤ u ∧ Printed u m t) (fun a _ => (intOf a).toNat)
  case atStart => exact ⟨u, [], rfl, rfl, Nat.le_refl _, Printed.start u h0⟩
  case round =>
    obtain ⟨m, t, rfl, rfl, hm, ht⟩ := hrel
    have htl := ht.len (by omega)
    have HT := Lib.hid ht
    clear ht hz
    by_cases hm0 : m = 0
    · subst hm0
      go_wp2
      all_goals
        go_ret
        exact ⟨ret_str (by rw [← HT.out.stop]; exact str_nil t), rfl⟩
    · have hne : ((m : Int) != 0) = true := by rw [bne_iff_ne]; omega
      go_wp2
      all_goals
        go_round
        case rel => exact ⟨m / 10, UInt8.ofNat (48 + m % 10) :: t, by go_num, by rw [digit_at (by omega)], by omega, HT.out.step hm0⟩
        case measure => simp [intOf]; omega
set_option maxHeartbeats 1000000 in
theorem rprint_neg (u : Nat) (w : World) (h0 : 0 < u) (hu : u ≤ 9223372036854775808) :
    Calls Tryz.prog 18 #[.int .i64 (-(u : Int))] w fun e w' => e = .returned (.string ⟨(45 :: Lib.decDigits u).toArray⟩) ∧ w = w' := by
  have hz : ((-(u : Int)) == 0) = false := by rw [beq_eq_false_iff_ne]; omega
  go_enter Tryz.func18, Tryz.ntmps18
  go_wp2
  go_loop [0, 4] (fun a s => ∃ m : Nat, ∃ t : List UInt8, a = .int .i64 (-(m : Int)) ∧ s = .string ⟨t.toArray⟩ ∧ m ≤ u ∧ Printed u m t) (fun a _ => (-(intOf a)).toNat)
  case atStart => exact ⟨u, [], rfl, rfl, Nat.le_refl _, Printed.start u h0⟩
  case round =>
    obtain ⟨m, t, rfl, rfl, hm, ht⟩ := hrel
    have htl := ht.len (by omega)
    have HT := Lib.hid ht
    clear ht hz
    by_cases hm0 : m = 0
    · subst hm0
      go_wp2
      all_goals
        go_ret
        exact ⟨ret_str (by rw [← HT.out.stop]; exact str_minus t), rfl⟩
    · have hne : ((-(m : Int)) != 0) = true := by rw [bne_iff_ne]; omega
      go_wp2
      all_goals
        go_round
        case rel => exact ⟨m / 10, UInt8.ofNat (48 + m % 10) :: t, by go_num, by first | rw [digit_at (show m % 10 < 10 by omega)] | rw [digit_neg ‹_›], by omega, HT.out.step hm0⟩
        case measure => simp [intOf]; omega
theorem rprint_any (a : Int) (w : World) (ha : In64 a) :
    Calls Tryz.prog 18 #[.int .i64 a] w fun e w' => e = .returned (.string ⟨(Lib.itoa a).toArray⟩) ∧ w = w' := by
  obtain ⟨a1, a2⟩ := ha
  rcases Int.lt_trichotomy a 0 with h | h | h
  · rw [Lib.itoa, if_pos h]
    have e : a = -((a.natAbs : Nat) : Int) := by omega
    have := rprint_neg a.natAbs w (by omega) (by omega)
    rwa [← e] at this
  · subst h
    rw [show Lib.itoa 0 = [48] from by rw [Lib.itoa, if_neg (by omega)]; exact dec_zero]
    exact rprint_zero w
  · rw [Lib.itoa, if_neg (by omega)]
    have e : a = ((a.toNat : Nat) : Int) := by omega
    have := rprint_pos a.toNat w (by omega) (by omega)
    rwa [← e] at this
end Go.Proofs.YtdnneognilffaaaGreatDoor
