/- The walk of the law CentSigns: for any two amounts of 64 bits it returns true, and memory that was there stays. -/
import Derived.Test.YthakilmimcgbiaaDoorCentAlive
namespace Go.Proofs.YthakilmimcgbiaaDoor
open Go.RowKit

theorem signs_add {a b : Int} (hf : fit (0 - b) = true) : addV a (subV 0 b) = subV a b ∧ addE a (subV 0 b) = subE a b := by
  rw [subV_yes hf]
  unfold addV addE subV subE
  rw [show a + (0 - b) = a - b by omega]
  exact ⟨rfl, rfl⟩
theorem signs_neg {b : Int} (hb : fit b = true) (hf : fit (0 - b) = true) : subV 0 (subV 0 b) = b ∧ subE 0 (subV 0 b) = 0 := by
  rw [subV_yes hf]
  unfold subV subE
  rw [show (0 : Int) - (0 - b) = b by omega, hb]
  exact ⟨if_pos rfl, if_pos rfl⟩

set_option maxHeartbeats 400000 in
theorem centSigns_walk (a b : Int) (w : World) (ha : In64 a) (hb : In64 b) (hL : Laid w) :
    Calls Tryd.prog 6 #[.int .i64 a, .int .i64 b] w fun e w' => e = .returned (.bool true) ∧ Below w.heap.size w w' := by
  have HL := Lib.hid hL
  have HA := Lib.hid ha
  have HB := Lib.hid hb
  clear hL ha hb
  cases hf : fit (0 - b) with
  | false =>
    have h : b = -9223372036854775808 := by
      have h1 := HB.out.1
      have h2 := HB.out.2
      rcases (fit_no _).1 hf with h | h <;> omega
    subst h
    clear hf
    go_enter Tryd.func6, Tryd.ntmps6
    go_wp2_with fail
    refine (alive_any _ HL.out).mono ?_
    rintro e w1 ⟨rfl, hb1⟩
    have HB1 := Lib.hid hb1
    clear hb1
    go_wp2_with fail
    refine (neg_any _ _ HB.out).mono ?_
    rintro e w' ⟨rfl, rfl⟩
    rw [show subV 0 (-9223372036854775808) = 0 from by decide, show subE 0 (-9223372036854775808) = 2 from by decide]
    go_wp2
    go_ret
    exact ⟨rfl, HB1.out⟩
  | true =>
    have HF := Lib.hid hf
    clear hf
    go_enter Tryd.func6, Tryd.ntmps6
    go_wp2_with fail
    refine (alive_any _ HL.out).mono ?_
    rintro e w1 ⟨rfl, hb1⟩
    have HB1 := Lib.hid hb1
    clear hb1
    go_wp2_with fail
    refine (neg_any _ _ HB.out).mono ?_
    rintro e w' ⟨rfl, rfl⟩
    rw [subE_yes HF.out]
    go_wp2_with fail
    refine (sub_any _ _ _ HA.out HB.out).mono ?_
    rintro e w' ⟨rfl, rfl⟩
    go_wp2_with fail
    refine (add_any _ _ _ HA.out (in64_of_fit (fit_subV 0 b))).mono ?_
    rintro e w' ⟨rfl, rfl⟩
    rw [(signs_add HF.out).1, (signs_add HF.out).2]
    go_wp2_with fail
    refine (neg_any _ _ (in64_of_fit (fit_subV 0 b))).mono ?_
    rintro e w' ⟨rfl, rfl⟩
    rw [(signs_neg (fit_of_in64 HB.out) HF.out).1, (signs_neg (fit_of_in64 HB.out) HF.out).2]
    go_wp2
    go_ret
    exact ⟨rfl, HB1.out⟩
end Go.Proofs.YthakilmimcgbiaaDoor
