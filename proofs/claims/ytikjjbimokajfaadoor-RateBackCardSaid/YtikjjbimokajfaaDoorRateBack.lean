/- The walk of the law RateBack: for any two amounts of 64 bits and any number of 16 bits it returns true, and memory that was there stays. -/
import Derived.Test.YtikjjbimokajfaaDoorRateAlive
namespace Go.Proofs.YtikjjbimokajfaaDoor
open Go.RowKit

theorem prt_size {n d : Int} (hn : In64 n) (hd : In64 d) : (ByteArray.mk (prt n d).toArray).size ≤ 290 := by
  have h1 := Lib.itoa_length_le n hn.1 hn.2
  have h2 := Lib.itoa_length_le d hd.1 hd.2
  show (prt n d).toArray.size ≤ 290
  unfold prt
  split
  · split <;> simp <;> omega
  · simp
theorem prod16 {x m : Int} (x1 : 1 ≤ x) (x2 : x ≤ 1000000000) (m1 : 0 ≤ m) (m2 : m ≤ 65535) : 0 ≤ x * (m + 1) ∧ x * (m + 1) ≤ 65536000000000 := by
  refine ⟨Int.mul_nonneg (by omega) (by omega), ?_⟩
  have := Int.mul_le_mul x2 (show m + 1 ≤ 65536 by omega) (by omega) (by omega)
  omega

set_option maxHeartbeats 1000000 in
theorem back_none (n d m : Int) (w : World) (hn : In64 n) (hd : In64 d) (hL : Laid w) (h : mkE n d ≠ 0) :
    Calls Tryd.prog 5 #[.agg #[.int .i64 n, .int .i64 d], .int .u16 m] w fun e w' => e = .returned (.bool true) ∧ Below w.heap.size w w' := by
  have HN := Lib.hid hn
  have HD := Lib.hid hd
  have HL := Lib.hid hL
  have HR := Lib.hid (mk_not_right h)
  have HZ := Lib.hid (mk_none h)
  obtain ⟨E, hE⟩ : ∃ E, mkE n d = E := ⟨_, rfl⟩
  have h1 : (E != 0) = true := by rw [← hE]; simpa using h
  have h2 : (E == 0) = false := by rw [← hE]; simpa using h
  have HE := Lib.hid hE
  clear hn hd hL h hE
  go_enter Tryd.func5, Tryd.ntmps5
  go_wp2_with fail
  have B0 := Lib.hid ((Below.refl w.heap.size w).alloc (Nat.le_refl _) (.cells #[.int .i64 n, .int .i64 d] 23))
  refine (rateAlive_any _ (HL.out.below B0.out)).mono ?_
  rintro e w1 ⟨rfl, hb1⟩
  have T1 := Lib.hid ((RateAt.mk w n d 23).keep hb1 (Nat.le_refl _))
  have HB1 := Lib.hid (B0.out.trans (hb1.mono (by simp)))
  clear hb1 B0
  obtain ⟨c0, c1⟩ := T1.out
  go_wp2_with fail
  clear c0 c1
  refine (make_any n d _ HN.out HD.out).mono ?_
  rintro e w2 ⟨rfl, hb2⟩
  rw [HE.out, HZ.out.1, HZ.out.2]
  have HB2 := Lib.hid (HB1.out.trans (hb2.mono HB1.out.size))
  have T2 := Lib.hid ((T1.out.keep hb2 (Nat.le_refl _)).keep ((Below.refl _ _).alloc (Nat.le_refl _) (.cells #[.int .i64 0, .int .i64 0] 25)) (Nat.le_refl _))
  clear hb2 T1
  obtain ⟨c0, c1⟩ := T2.out
  go_wp2_with fail
  clear c0 c1
  refine (right_any n d _ HN.out HD.out).mono ?_
  rintro e w3 ⟨rfl, hb3⟩
  rw [HR.out]
  have U3 := Lib.hid ((RateAt.mk w2 0 0 25).keep hb3 (Nat.le_refl _))
  have HB3 := Lib.hid ((HB2.out.alloc HB2.out.size _).trans (hb3.mono (Nat.le_trans HB2.out.size (by simp))))
  clear hb3 T2
  obtain ⟨c0, c1⟩ := U3.out
  go_wp2
  go_ret
  exact ⟨rfl, HB3.out⟩

set_option maxRecDepth 100000 in
set_option maxHeartbeats 2000000 in
theorem back_some (n d m x y : Int) (w : World) (hn : In64 n) (hd : In64 d) (m1 : 0 ≤ m) (m2 : m ≤ 65535) (hL : Laid w) (h : mkE n d = 0) (hx : mkN n d = x) (hy : mkD n d = y) :
    Calls Tryd.prog 5 #[.agg #[.int .i64 n, .int .i64 d], .int .u16 m] w fun e w' => e = .returned (.bool true) ∧ Below w.heap.size w w' := by
  have hr : rightB x y = true := by rw [← hx, ← hy]; exact mk_right h
  obtain ⟨⟨x1, x2⟩, ⟨y1, y2⟩, _⟩ := (rightB_iff x y).1 hr
  have HN := Lib.hid hn
  have HD := Lib.hid hd
  have HL := Lib.hid hL
  have HR := Lib.hid hr
  have HM := Lib.hid (And.intro h (And.intro hx hy))
  have HP := Lib.hid (prs_prt hr)
  have HT := Lib.hid (mk_times (k := m + 1) hr (by omega))
  have HX : Hid (In64 x) := Lib.hid ⟨by omega, by omega⟩
  have HY : Hid (In64 y) := Lib.hid ⟨by omega, by omega⟩
  obtain ⟨p1, p2⟩ := prod16 x1 x2 m1 m2
  obtain ⟨q1, q2⟩ := prod16 y1 y2 m1 m2
  have HXK : Hid (In64 (x * (m + 1))) := Lib.hid ⟨by omega, by omega⟩
  have HYK : Hid (In64 (y * (m + 1))) := Lib.hid ⟨by omega, by omega⟩
  clear hn hd hL h hx hy hr
  go_enter Tryd.func5, Tryd.ntmps5
  go_wp2_with fail
  have B0 := Lib.hid ((Below.refl w.heap.size w).alloc (Nat.le_refl _) (.cells #[.int .i64 n, .int .i64 d] 23))
  refine (rateAlive_any _ (HL.out.below B0.out)).mono ?_
  rintro e w1 ⟨rfl, hb1⟩
  have T1 := Lib.hid ((RateAt.mk w n d 23).keep hb1 (Nat.le_refl _))
  have HB1 := Lib.hid (B0.out.trans (hb1.mono (by simp)))
  clear hb1 B0
  obtain ⟨c0, c1⟩ := T1.out
  go_wp2_with fail
  clear c0 c1
  refine (make_any n d _ HN.out HD.out).mono ?_
  rintro e w2 ⟨rfl, hb2⟩
  rw [HM.out.1, HM.out.2.1, HM.out.2.2]
  have HB2 := Lib.hid (HB1.out.trans (hb2.mono HB1.out.size))
  clear hb2 T1
  go_wp2_with fail
  have B2 := Lib.hid (HB2.out.alloc HB2.out.size (.cells #[.int .i64 x, .int .i64 y] 25))
  refine (rprint_any x y _ HX.out HY.out (HL.out.below B2.out)).mono ?_
  rintro e w3 ⟨rfl, hb3⟩
  have X3 := Lib.hid ((RateAt.mk w2 x y 25).keep hb3 (Nat.le_refl _))
  have HB3 := Lib.hid (B2.out.trans (hb3.mono B2.out.size))
  clear hb3 B2
  generalize w2.heap.size = g at *
  go_wp2_with fail
  refine (rparse_any _ _ (prt_size HX.out HY.out) (HL.out.below HB3.out)).mono ?_
  rintro e w4 ⟨rfl, hb4⟩
  rw [show (ByteArray.mk (prt x y).toArray).data.toList = prt x y from rfl, HP.out.1, HP.out.2.1, HP.out.2.2]
  have HB4 := Lib.hid (HB3.out.trans (hb4.mono HB3.out.size))
  have X4 := Lib.hid ((X3.out.keep hb4 (Nat.le_refl _)).keep ((Below.refl _ _).alloc (Nat.le_refl _) (.cells #[.int .i64 x, .int .i64 y] 25)) (Nat.le_refl _))
  clear hb4 X3
  obtain ⟨c0, c1⟩ := X4.out
  go_wp2_with fail
  clear c0 c1
  refine (right_any x y _ HX.out HY.out).mono ?_
  rintro e w5 ⟨rfl, hb5⟩
  rw [HR.out]
  have Y5 := Lib.hid ((RateAt.mk w4 x y 25).keep hb5 (Nat.le_refl _))
  have X5 := Lib.hid (X4.out.keep hb5 (Nat.le_refl _))
  have HB5 := Lib.hid ((HB4.out.alloc HB4.out.size _).trans (hb5.mono (Nat.le_trans HB4.out.size (by simp))))
  clear hb5 X4
  generalize w4.heap.size = g4 at *
  obtain ⟨c0, c1⟩ := X5.out
  obtain ⟨d0, d1⟩ := Y5.out
  go_wp2_with fail
  clear c0 c1 d0 d1
  refine (make_any (x * (m + 1)) (y * (m + 1)) _ HXK.out HYK.out).mono ?_
  rintro e w6 ⟨rfl, hb6⟩
  rw [HT.out.1, HT.out.2.1, HT.out.2.2]
  have X6 := Lib.hid ((X5.out.keep hb6 (Nat.le_refl _)).keep ((Below.refl _ _).alloc (Nat.le_refl _) (.cells #[.int .i64 x, .int .i64 y] 25)) (Nat.le_refl _))
  have HB6 := Lib.hid (HB5.out.trans (hb6.mono HB5.out.size))
  clear hb6 X5 Y5
  obtain ⟨c0, c1⟩ := X6.out
  go_wp2
  go_ret
  exact ⟨ret_true (by simp), HB6.out.alloc HB6.out.size _⟩
theorem rateBack_walk (n d m : Int) (w : World) (hn : In64 n) (hd : In64 d) (hm : InU16 m) (hL : Laid w) :
    Calls Tryd.prog 5 #[.agg #[.int .i64 n, .int .i64 d], .int .u16 m] w fun e w' => e = .returned (.bool true) ∧ Below w.heap.size w w' := by
  by_cases h : mkE n d = 0
  · exact back_some n d m _ _ w hn hd hm.1 hm.2 hL h rfl rfl
  · exact back_none n d m w hn hd hL h
end Go.Proofs.YtikjjbimokajfaaDoor
