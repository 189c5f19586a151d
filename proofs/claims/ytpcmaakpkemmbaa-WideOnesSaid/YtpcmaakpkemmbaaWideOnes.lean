/- The walk of the law WideOnes: for any two amounts of 64 bits it returns true, and memory that was there stays. -/
import Derived.Test.YtpcmaakpkemmbaaWideG
import Derived.Test.YtpcmaakpkemmbaaWideFacts
namespace Go.Proofs.Ytpcmaakpkemmbaa
open Go.RowKit

set_option maxHeartbeats 400000 in
theorem wideOnes_walk (a b : Int) (w : World) (ha : In64 a) (hb : In64 b) :
    Calls Try.prog 10 #[.int .i64 a, .int .i64 b] w fun e w' => e = .returned (.bool true) ∧ Below w.heap.size w w' := by
  have HA := Lib.hid ha
  have HB := Lib.hid hb
  clear ha hb
  have H1 := Lib.hid (ones_one (fit_of_in64 HA.out))
  by_cases h0 : a = 0
  · subst h0
    go_enter Try.func10, Try.ntmps10
    go_wp2_with fail
    refine (alive_any _).mono ?_
    rintro e w1 ⟨rfl, hb1⟩
    have HB1 := Lib.hid hb1
    clear hb1
    go_wp2_with fail
    refine (mulDiv_any 0 1 1 _ HA.out ⟨by omega, by omega⟩ ⟨by omega, by omega⟩).mono ?_
    rintro e w2 ⟨rfl, hb2⟩
    have HB2 := Lib.hid (HB1.out.trans (hb2.mono HB1.out.size))
    clear hb2
    rw [H1.out.1, H1.out.2]
    go_wp2_with fail
    refine (mulDiv_any b 0 0 _ HB.out HA.out HA.out).mono ?_
    rintro e w3 ⟨rfl, hb3⟩
    have HB3 := Lib.hid (HB2.out.trans (hb3.mono HB2.out.size))
    clear hb3
    rw [ones_zero]
    go_wp2_with fail
    refine (mulDiv_any 0 1 (-1) _ HA.out ⟨by omega, by omega⟩ ⟨by omega, by omega⟩).mono ?_
    rintro e w4 ⟨rfl, hb4⟩
    have HB4 := Lib.hid (HB3.out.trans (hb4.mono HB3.out.size))
    clear hb4
    rw [show mdV 0 1 (-1) = 0 from by decide, show mdE 0 1 (-1) = 0 from by decide]
    go_wp2
    go_ret
    exact ⟨rfl, HB4.out⟩
  · have H2 := Lib.hid (ones_self h0 (fit_of_in64 HB.out))
    have hz : (a == 0) = false := by simpa using h0
    have hz' : (a != 0) = true := by simpa using h0
    by_cases hl : a = -9223372036854775808
    · subst hl
      clear h0 hz hz'
      go_enter Try.func10, Try.ntmps10
      go_wp2_with fail
      refine (alive_any _).mono ?_
      rintro e w1 ⟨rfl, hb1⟩
      have HB1 := Lib.hid hb1
      clear hb1
      go_wp2_with fail
      refine (mulDiv_any _ 1 1 _ HA.out ⟨by omega, by omega⟩ ⟨by omega, by omega⟩).mono ?_
      rintro e w2 ⟨rfl, hb2⟩
      have HB2 := Lib.hid (HB1.out.trans (hb2.mono HB1.out.size))
      clear hb2
      rw [H1.out.1, H1.out.2]
      go_wp2_with fail
      refine (mulDiv_any b _ _ _ HB.out HA.out HA.out).mono ?_
      rintro e w3 ⟨rfl, hb3⟩
      have HB3 := Lib.hid (HB2.out.trans (hb3.mono HB2.out.size))
      clear hb3
      rw [H2.out.1, H2.out.2]
      go_wp2_with fail
      refine (mulDiv_any _ 1 (-1) _ HA.out ⟨by omega, by omega⟩ ⟨by omega, by omega⟩).mono ?_
      rintro e w4 ⟨rfl, hb4⟩
      have HB4 := Lib.hid (HB3.out.trans (hb4.mono HB3.out.size))
      clear hb4
      rw [ones_least]
      go_wp2
      go_ret
      exact ⟨rfl, HB4.out⟩
    · have hl1 : (a == -9223372036854775808) = false := by simpa using hl
      have h3 : -9223372036854775807 ≤ a := by have := HA.out.1; omega
      have h4 : a ≤ 9223372036854775807 := HA.out.2
      have H3 := Lib.hid (ones_neg (a := a) (fit_of_in64 ⟨by omega, by omega⟩))
      clear h0 hl
      go_enter Try.func10, Try.ntmps10
      go_wp2_with fail
      refine (alive_any _).mono ?_
      rintro e w1 ⟨rfl, hb1⟩
      have HB1 := Lib.hid hb1
      clear hb1
      go_wp2_with fail
      refine (mulDiv_any _ 1 1 _ HA.out ⟨by omega, by omega⟩ ⟨by omega, by omega⟩).mono ?_
      rintro e w2 ⟨rfl, hb2⟩
      have HB2 := Lib.hid (HB1.out.trans (hb2.mono HB1.out.size))
      clear hb2
      rw [H1.out.1, H1.out.2]
      go_wp2_with fail
      refine (mulDiv_any b _ _ _ HB.out HA.out HA.out).mono ?_
      rintro e w3 ⟨rfl, hb3⟩
      have HB3 := Lib.hid (HB2.out.trans (hb3.mono HB2.out.size))
      clear hb3
      rw [H2.out.1, H2.out.2]
      go_wp2_with fail
      refine (mulDiv_any _ 1 (-1) _ HA.out ⟨by omega, by omega⟩ ⟨by omega, by omega⟩).mono ?_
      rintro e w4 ⟨rfl, hb4⟩
      have HB4 := Lib.hid (HB3.out.trans (hb4.mono HB3.out.size))
      clear hb4
      rw [H3.out.1, H3.out.2]
      go_wp2
      go_ret
      exact ⟨rfl, HB4.out⟩
end Go.Proofs.Ytpcmaakpkemmbaa
