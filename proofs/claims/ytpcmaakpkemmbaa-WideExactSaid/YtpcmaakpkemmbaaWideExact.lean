/- The walk of the law WideExact: for any three amounts of 64 bits it returns true, and memory that was there stays. -/
import Derived.Test.YtpcmaakpkemmbaaWideThree
namespace Go.Proofs.Ytpcmaakpkemmbaa
open Go.RowKit

set_option maxHeartbeats 1000000 in
theorem wideExact_walk (a b c : Int) (w : World) (ha : In64 a) (hb : In64 b) (hc : In64 c) :
    Calls Try.prog 6 #[.agg #[.int .i64 a, .int .i64 b, .int .i64 c]] w fun e w' => e = .returned (.bool true) ∧ Below w.heap.size w w' := by
  have HA := Lib.hid ha
  have HB := Lib.hid hb
  have HC := Lib.hid hc
  have HV := Lib.hid (in64_of_fit (mdV_fit a b c))
  have HK := Lib.hid (ex_cases a b c)
  clear ha hb hc
  go_enter Try.func6, Try.ntmps6
  go_wp2_with fail
  refine (alive_any _).mono ?_
  rintro e w1 ⟨rfl, hb1⟩
  have T1 := Lib.hid ((ThreeAt.mk w a b c 23).keep hb1 (Nat.le_refl _))
  have HB1 := Lib.hid (((Below.refl w.heap.size w).alloc (Nat.le_refl _) _).trans (hb1.mono (by simp)))
  clear hb1
  obtain ⟨t0, t1, t2⟩ := T1.out
  go_wp2_with fail
  clear t0 t1 t2
  refine (exact_any a b c _ HA.out HB.out HC.out).mono ?_
  rintro e w2 ⟨rfl, hb2⟩
  have T2 := Lib.hid (T1.out.keep hb2 (Nat.le_refl _))
  have HB2 := Lib.hid (HB1.out.trans (hb2.mono HB1.out.size))
  clear hb2
  obtain ⟨t0, t1, t2⟩ := T2.out
  rcases HK.out with ⟨k1, k2, k3, k4, k5⟩ | ⟨k1, k2, k3, k4⟩ | ⟨k1, k2, k3, k4⟩ | ⟨k1, k2, k3, k4, k5⟩
  · rw [k1, k2, k4]
    have K3 := Lib.hid k3
    have K5 := Lib.hid k5
    clear k1 k2 k3 k4 k5
    go_wp2_with fail
    clear t0 t1 t2
    refine (mulDiv_any a b c _ HA.out HB.out HC.out).mono ?_
    rintro e w3 ⟨rfl, hb3⟩
    have T3 := Lib.hid (T2.out.keep hb3 (Nat.le_refl _))
    have HB3 := Lib.hid (HB2.out.trans (hb3.mono HB2.out.size))
    clear hb3
    rw [K3.out]
    obtain ⟨t0, t1, t2⟩ := T3.out
    go_wp2_with fail
    clear t0 t1 t2
    refine (cmp_any _ c a b _ HV.out HC.out HA.out HB.out).mono ?_
    rintro e w4 ⟨rfl, hb4⟩
    rw [K5.out]
    go_wp2
    go_ret
    exact ⟨rfl, HB3.out.trans (hb4.mono HB3.out.size)⟩
  · rw [k1, k4]
    have K3 := Lib.hid k3
    have z1 : (exE a b c == 0) = false := by simpa using k2
    have z2 : (exE a b c != 0) = true := by simpa using k2
    clear k1 k2 k3 k4
    go_wp2_with fail
    clear t0 t1 t2
    refine (mulDiv_any a b c _ HA.out HB.out HC.out).mono ?_
    rintro e w3 ⟨rfl, hb3⟩
    rw [K3.out]
    go_wp2
    go_ret
    exact ⟨rfl, HB2.out.trans (hb3.mono HB2.out.size)⟩
  · rw [k1, k2, k3]
    have z1 : (mdE a b c == 0) = false := by simpa using k4
    have z2 : (mdE a b c != 0) = true := by simpa using k4
    clear k1 k2 k3 k4
    go_wp2_with fail
    clear t0 t1 t2
    refine (mulDiv_any a b c _ HA.out HB.out HC.out).mono ?_
    rintro e w3 ⟨rfl, hb3⟩
    go_wp2
    go_ret
    exact ⟨rfl, HB2.out.trans (hb3.mono HB2.out.size)⟩
  · rw [k1, k2, k3]
    have K4 := Lib.hid k4
    have z1 : (cmpV (mdV a b c) c a b == 0) = false := by simpa using k5
    have z2 : (cmpV (mdV a b c) c a b != 0) = true := by simpa using k5
    clear k1 k2 k3 k4 k5
    go_wp2_with fail
    clear t0 t1 t2
    refine (mulDiv_any a b c _ HA.out HB.out HC.out).mono ?_
    rintro e w3 ⟨rfl, hb3⟩
    have T3 := Lib.hid (T2.out.keep hb3 (Nat.le_refl _))
    have HB3 := Lib.hid (HB2.out.trans (hb3.mono HB2.out.size))
    clear hb3
    rw [K4.out]
    obtain ⟨t0, t1, t2⟩ := T3.out
    go_wp2_with fail
    clear t0 t1 t2
    refine (cmp_any _ c a b _ HV.out HC.out HA.out HB.out).mono ?_
    rintro e w4 ⟨rfl, hb4⟩
    go_wp2
    go_ret
    exact ⟨rfl, HB3.out.trans (hb4.mono HB3.out.size)⟩
end Go.Proofs.Ytpcmaakpkemmbaa
