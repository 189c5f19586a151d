
/- Words that every layer's texts use: 64-bit amounts, smaller integers, and what a call hands back; no program in it. -/
import Derived.IntWalk
import Derived.WalkKit
namespace Go.Proofs.YtdnneognilffaaaGreatDoor
open Go.RowKit

/-- Does a number fit 64 bits? -/
def fit (n : Int) : Bool := decide (-9223372036854775808 ≤ n) && decide (n ≤ 9223372036854775807)
theorem fit_iff (n : Int) : fit n = true ↔ -9223372036854775808 ≤ n ∧ n ≤ 9223372036854775807 := by simp [fit]
theorem fit_no (n : Int) : fit n = false ↔ n < -9223372036854775808 ∨ 9223372036854775807 < n := by
  rw [← Bool.not_eq_true, fit_iff]; omega
/-- An amount of 64 bits. -/
def In64 (a : Int) : Prop := -9223372036854775808 ≤ a ∧ a ≤ 9223372036854775807
theorem in64_of_fit {a : Int} (h : fit a = true) : In64 a := (fit_iff a).1 h
theorem fit_of_in64 {a : Int} (h : In64 a) : fit a = true := (fit_iff a).2 h
/-- Integers of 32 bits; those of 16 and of 8 bits without a sign. -/
def In32 (a : Int) : Prop := -2147483648 ≤ a ∧ a ≤ 2147483647
def InU16 (a : Int) : Prop := 0 ≤ a ∧ a ≤ 65535
def InU8 (a : Int) : Prop := 0 ≤ a ∧ a ≤ 255
theorem in_of_wf_i64 {a : Int} (h : (Lit.int .i64 a).wf = true) : In64 a := by
  have e1 : IntKind.i64.min = -9223372036854775808 := rfl
  have e2 : IntKind.i64.max = 9223372036854775807 := rfl
  simp [Lit.wf, e1, e2] at h
  exact h
theorem in_of_wf_i32 {a : Int} (h : (Lit.int .i32 a).wf = true) : In32 a := by
  have e1 : IntKind.i32.min = -2147483648 := rfl
  have e2 : IntKind.i32.max = 2147483647 := rfl
  simp [Lit.wf, e1, e2] at h
  exact h
theorem in_of_wf_u16 {a : Int} (h : (Lit.int .u16 a).wf = true) : InU16 a := by
  have e1 : IntKind.u16.min = 0 := rfl
  have e2 : IntKind.u16.max = 65535 := rfl
  simp [Lit.wf, e1, e2] at h
  exact h
theorem in_of_wf_u8 {a : Int} (h : (Lit.int .u8 a).wf = true) : InU8 a := by
  have e1 : IntKind.u8.min = 0 := rfl
  have e2 : IntKind.u8.max = 255 := rfl
  simp [Lit.wf, e1, e2] at h
  exact h
theorem ret_bool {a b : Bool} (h : a = b) : Ending.returned (.bool a) = .returned (.bool b) := by rw [h]
theorem ret_true {b : Bool} (h : b = true) : Ending.returned (.bool b) = .returned (.bool true) := by rw [h]
end Go.Proofs.YtdnneognilffaaaGreatDoor
