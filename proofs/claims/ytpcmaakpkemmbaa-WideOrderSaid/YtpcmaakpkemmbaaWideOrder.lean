/- The walk of the law WideOrder: for any four amounts of 64 bits it returns true, and memory that was there stays. -/
import Derived.Test.YtpcmaakpkemmbaaWideThree
namespace Go.Proofs.Ytpcmaakpkemmbaa
open Go.RowKit

/-- wide.Cmp, where what it answers is known. -/
theorem cmp_is (a b c d Y : Int) (w : World) (ha : In64 a) (hb : In64 b) (hc : In64 c) (hd : In64 d) (h : cmpV a b c d = Y) :
    Calls Try.prog 16 #[.int .i64 a, .int .i64 b, .int .i64 c, .int .i64 d] w fun e w' => e = .returned (.int .i64 Y) ∧ Below w.heap.size w w' := by
  subst h; exact cmp_any a b c d w ha hb hc hd

set_option maxHeartbeats 1000000 in
theorem wideOrder_walk (a b c d : Int) (w : World) (ha : In64 a) (hb : In64 b) (hc : In64 c) (hd : In64 d) :
    Calls Try.prog 9 #[.agg #[.int .i64 a, .int .i64 b, .int .i64 c], .int .i64 d] w fun e w' => e = .returned (.bool true) ∧ Below w.heap.size w w' := by
  have HA := Lib.hid ha
  have HB := Lib.hid hb
  have HC := Lib.hid hc
  have HD := Lib.hid hd
  obtain ⟨d1, d2⟩ := hd
  clear ha hb hc
  obtain ⟨Y, hY⟩ : ∃ Y, cmpV c d a b = Y := ⟨_, rfl⟩
  obtain ⟨y1, y2⟩ := cmpV_bd c d a b
  rw [hY] at y1 y2
  have K1 : Hid (cmpV a b c d = -Y) := Lib.hid (by rw [order_back, hY])
  have K4 : Hid (cmpV b a d c = -Y) := Lib.hid (by rw [order_turn, order_back, hY])
  have KY := Lib.hid hY
  clear hY
  go_enter Try.func9, Try.ntmps9
  go_wp2_with fail
  refine (alive_any _).mono ?_
  rintro e w1 ⟨rfl, hb1⟩
  have T1 := Lib.hid ((ThreeAt.mk w a b c 23).keep hb1 (Nat.le_refl _))
  have HB1 := Lib.hid (((Below.refl w.heap.size w).alloc (Nat.le_refl _) _).trans (hb1.mono (by simp)))
  clear hb1
  obtain ⟨t0, t1, t2⟩ := T1.out
  go_wp2_with fail
  clear t0 t1 t2
  refine (cmp_is a b c d (-Y) _ HA.out HB.out HC.out HD.out K1.out).mono ?_
  rintro e w2 ⟨rfl, hb2⟩
  have T2 := Lib.hid (T1.out.keep hb2 (Nat.le_refl _))
  have HB2 := Lib.hid (HB1.out.trans (hb2.mono HB1.out.size))
  clear hb2
  obtain ⟨t0, t1, t2⟩ := T2.out
  go_wp2_with fail
  clear t0 t1 t2
  refine (cmp_is c d a b Y _ HC.out HD.out HA.out HB.out KY.out).mono ?_
  rintro e w3 ⟨rfl, hb3⟩
  have T3 := Lib.hid (T2.out.keep hb3 (Nat.le_refl _))
  have HB3 := Lib.hid (HB2.out.trans (hb3.mono HB2.out.size))
  clear hb3
  obtain ⟨t0, t1, t2⟩ := T3.out
  go_wp2_with fail
  clear t0 t1 t2
  refine (cmp_is a b b a 0 _ HA.out HB.out HB.out HA.out (order_same a b)).mono ?_
  rintro e w4 ⟨rfl, hb4⟩
  have T4 := Lib.hid (T3.out.keep hb4 (Nat.le_refl _))
  have HB4 := Lib.hid (HB3.out.trans (hb4.mono HB3.out.size))
  clear hb4
  obtain ⟨t0, t1, t2⟩ := T4.out
  go_wp2_with fail
  clear t0 t1 t2
  refine (cmp_is b a d c (-Y) _ HB.out HA.out HD.out HC.out K4.out).mono ?_
  rintro e w5 ⟨rfl, hb5⟩
  have T5 := Lib.hid (T4.out.keep hb5 (Nat.le_refl _))
  have HB5 := Lib.hid (HB4.out.trans (hb5.mono HB4.out.size))
  clear hb5
  obtain ⟨t0, t1, t2⟩ := T5.out
  by_cases hm : d = 9223372036854775807
  · subst hm
    clear d1 d2
    go_wp2
    go_ret
    exact ⟨rfl, HB5.out⟩
  · have hm1 : (d == 9223372036854775807) = false := by simpa using hm
    by_cases hc : c < 0
    · go_wp2
      go_ret
      exact ⟨rfl, HB5.out⟩
    · have K6 := Lib.hid (order_more (a := a) (b := b) (d := d) (show 0 ≤ c by omega))
      have d3 : d ≤ 9223372036854775806 := by omega
      have HD' : Hid (In64 (d + 1)) := Lib.hid ⟨by omega, by omega⟩
      clear hm
      go_wp2_with fail
      clear t0 t1 t2
      refine (cmp_any a b c (d + 1) _ HA.out HB.out HC.out HD'.out).mono ?_
      rintro e w6 ⟨rfl, hb6⟩
      go_wp2
      go_ret
      exact ⟨ret_true (by have := K6.out; rw [K1.out] at this; simpa using this), HB5.out.trans (hb6.mono HB5.out.size)⟩
end Go.Proofs.Ytpcmaakpkemmbaa
