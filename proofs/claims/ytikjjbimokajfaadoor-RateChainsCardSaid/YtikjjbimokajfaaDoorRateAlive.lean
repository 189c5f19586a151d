/- The walk of the statements' own 'alive' of layer 3: the answers that the document fixes are given, whatever memory holds besides the library's variables; memory that was there stays. -/
import Derived.Test.YtikjjbimokajfaaDoorRateParse
import Derived.Test.YtikjjbimokajfaaDoorRateChain
namespace Go.Proofs.YtikjjbimokajfaaDoor
open Go.RowKit

theorem prt_32 : prt 3 2 = [51, 47, 50] := by
  unfold prt
  rw [if_pos (by decide), if_neg (by decide)]
  unfold Lib.itoa
  rw [if_neg (by decide), if_neg (by decide), dec_small (by decide), dec_small (by decide)]
  rfl

set_option maxRecDepth 100000 in
set_option maxHeartbeats 1000000 in
theorem rateAlive_any (w : World) (hL : Laid w) :
    Calls Tryd.prog 10 #[] w fun e w' => e = .returned (.bool true) ∧ Below w.heap.size w w' := by
  have HL := Lib.hid hL
  clear hL
  go_enter Tryd.func10, Tryd.ntmps10
  go_wp2_with fail
  refine (rparse_any _ _ (by decide) HL.out).mono ?_
  rintro e w1 ⟨rfl, hb1⟩
  have HB1 := Lib.hid hb1
  clear hb1
  rw [show prsN (ByteArray.mk #[54, 47, 52]).data.toList = 3 from by decide, show prsD (ByteArray.mk #[54, 47, 52]).data.toList = 2 from by decide, show prsE (ByteArray.mk #[54, 47, 52]).data.toList = 0 from by decide]
  go_wp2_with fail
  refine (apply_any 3 2 3 _ ⟨by omega, by omega⟩ ⟨by omega, by omega⟩ ⟨by omega, by omega⟩).mono ?_
  rintro e w2 ⟨rfl, hb2⟩
  have R2 := Lib.hid ((RateAt.mk w1 3 2 25).keep hb2 (Nat.le_refl _))
  have HB2 := Lib.hid ((HB1.out.alloc HB1.out.size _).trans (hb2.mono (Nat.le_trans HB1.out.size (by simp))))
  clear hb2
  rw [show apV 3 2 3 = 5 from by decide, show apE 3 2 3 = 0 from by decide]
  generalize w1.heap.size = g at *
  go_wp2_with fail
  refine (chain_any _ 2 2 [5000, 5000] _ (rowIs_new w2 3 [5000, 5000] (by unfold maxLen; simp))).mono ?_
  rintro e w' ⟨rfl, rfl⟩
  have HB3 := Lib.hid (HB2.out.alloc HB2.out.size (.cells #[.int .i64 5000, .int .i64 5000] 3))
  have R3 := Lib.hid (R2.out.keep ((Below.refl _ _).alloc (Nat.le_refl _) (.cells #[.int .i64 5000, .int .i64 5000] 3)) (Nat.le_refl _))
  clear R2
  rw [show (chain [5000, 5000]).1 = 2500 from by decide, show (chain [5000, 5000]).2 = 0 from by decide]
  go_wp2_with fail
  have RN := rowIs_new (w2.alloc (.cells #[.int .i64 5000, .int .i64 5000] 3)) 3 [3333, 3333] (by unfold maxLen; simp)
  rw [World.size_alloc] at RN
  refine (chain_any _ 2 2 [3333, 3333] _ RN).mono ?_
  clear RN
  rintro e w' ⟨rfl, rfl⟩
  have HB4 := Lib.hid (HB3.out.alloc HB3.out.size (.cells #[.int .i64 3333, .int .i64 3333] 3))
  have R4 := Lib.hid (R3.out.keep ((Below.refl _ _).alloc (Nat.le_refl _) (.cells #[.int .i64 3333, .int .i64 3333] 3)) (Nat.le_refl _))
  clear R3
  rw [show (chain [3333, 3333]).1 = 0 from by decide, show (chain [3333, 3333]).2 = 12 from by decide]
  obtain ⟨c0, c1⟩ := R4.out
  go_wp2_with fail
  clear c0 c1
  refine (rprint_any 3 2 _ ⟨by omega, by omega⟩ ⟨by omega, by omega⟩ (HL.out.below HB4.out)).mono ?_
  rintro e w5 ⟨rfl, hb5⟩
  have HB5 := Lib.hid (HB4.out.trans (hb5.mono HB4.out.size))
  have R5 := Lib.hid (R4.out.keep hb5 (Nat.le_refl _))
  clear R4 hb5
  rw [prt_32]
  obtain ⟨c0, c1⟩ := R5.out
  go_wp2_with fail
  clear c0 c1
  refine (right_any 3 2 _ ⟨by omega, by omega⟩ ⟨by omega, by omega⟩).mono ?_
  rintro e w6 ⟨rfl, hb6⟩
  have HB6 := Lib.hid (HB5.out.trans (hb6.mono HB5.out.size))
  have R6 := Lib.hid (R5.out.keep hb6 (Nat.le_refl _))
  clear R5 hb6
  rw [show rightB 3 2 = true from by decide]
  obtain ⟨c0, c1⟩ := R6.out
  go_wp2_with fail
  clear c0 c1
  refine (ratecmp_any 3 2 1 1 _ ⟨by omega, by omega⟩ ⟨by omega, by omega⟩ ⟨by omega, by omega⟩ ⟨by omega, by omega⟩).mono ?_
  rintro e w7 ⟨rfl, hb7⟩
  have HB7 := Lib.hid (HB6.out.trans (hb7.mono HB6.out.size))
  clear hb7
  rw [show cmpV 3 1 1 2 = 1 from by decide]
  go_wp2
  go_ret
  exact ⟨rfl, HB7.out⟩
end Go.Proofs.YtikjjbimokajfaaDoor
