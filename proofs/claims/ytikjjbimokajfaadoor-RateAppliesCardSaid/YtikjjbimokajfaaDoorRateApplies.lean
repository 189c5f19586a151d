/- The walk of the law RateApplies: for any amount of 64 bits and any number of 16 bits it returns true, and memory that was there stays. -/
import Derived.Test.YtikjjbimokajfaaDoorRateAlive
namespace Go.Proofs.YtikjjbimokajfaaDoor
open Go.RowKit

set_option maxHeartbeats 1000000 in
theorem rateApplies_walk (a n : Int) (w : World) (ha : In64 a) (hn : InU16 n) (hL : Laid w) :
    Calls Tryd.prog 8 #[.int .i64 a, .int .u16 n] w fun e w' => e = .returned (.bool true) ∧ Below w.heap.size w w' := by
  have HA := Lib.hid ha
  have HL := Lib.hid hL
  obtain ⟨n1, n2⟩ := hn
  clear ha hL
  obtain ⟨m, hm⟩ : ∃ m, a.tmod 1000003 = m := ⟨_, rfl⟩
  have mb := rem_bd a
  rw [hm] at mb
  obtain ⟨m1, m2⟩ := mb
  have hmk : -9223372036854775808 ≤ m * (n + 1) ∧ m * (n + 1) ≤ 9223372036854775807 := by
    have h1 : (m * (n + 1)).natAbs ≤ 1000003 * 65536 := by
      rw [Int.natAbs_mul]
      exact Nat.mul_le_mul (by omega) (by omega)
    omega
  have HP := Lib.hid (ap_whole (a := m) (k := n + 1) (by omega) (by omega) ((fit_iff _).2 hmk))
  have HO := Lib.hid (ap_one (fit_of_in64 HA.out))
  have HZ : Hid (apV (n + 1) 1 0 = 0 ∧ apE (n + 1) 1 0 = 0) := Lib.hid (by have := ap_whole (a := 0) (k := n + 1) (by omega) (by omega) ((fit_iff _).2 (by omega)); simpa using this)
  have HM : Hid (In64 m) := Lib.hid ⟨by omega, by omega⟩
  have HK : Hid (In64 (n + 1)) := Lib.hid ⟨by omega, by omega⟩
  obtain ⟨k1, k2⟩ := hmk
  go_enter Tryd.func8, Tryd.ntmps8
  go_wp2_with fail
  refine (rateAlive_any _ HL.out).mono ?_
  rintro e w1 ⟨rfl, hb1⟩
  have HB1 := Lib.hid hb1
  clear hb1
  go_wp2_with fail
  refine (apply_any 1 1 a _ ⟨by omega, by omega⟩ ⟨by omega, by omega⟩ HA.out).mono ?_
  rintro e w2 ⟨rfl, hb2⟩
  have R2 := Lib.hid ((RateAt.mk w1 (n + 1) 1 25).keep hb2 (Nat.le_refl _))
  have HB2 := Lib.hid ((HB1.out.alloc HB1.out.size _).trans (hb2.mono (Nat.le_trans HB1.out.size (by simp))))
  clear hb2
  rw [HO.out.1, HO.out.2]
  generalize w1.heap.size = g at *
  obtain ⟨c0, c1⟩ := R2.out
  go_wp2_with fail
  clear c0 c1
  refine (apply_any (n + 1) 1 m _ HK.out ⟨by omega, by omega⟩ HM.out).mono ?_
  rintro e w3 ⟨rfl, hb3⟩
  have HB3 := Lib.hid (HB2.out.trans (hb3.mono HB2.out.size))
  have R3 := Lib.hid (R2.out.keep hb3 (Nat.le_refl _))
  clear R2 hb3
  rw [HP.out.1, HP.out.2]
  obtain ⟨c0, c1⟩ := R3.out
  go_wp2_with fail
  clear c0 c1
  refine (apply_any (n + 1) 1 0 _ HK.out ⟨by omega, by omega⟩ ⟨by omega, by omega⟩).mono ?_
  rintro e w4 ⟨rfl, hb4⟩
  have HB4 := Lib.hid (HB3.out.trans (hb4.mono HB3.out.size))
  clear R3 hb4
  rw [HZ.out.1, HZ.out.2]
  go_wp2
  go_ret
  exact ⟨ret_true (by simp), HB4.out⟩
end Go.Proofs.YtikjjbimokajfaaDoor
