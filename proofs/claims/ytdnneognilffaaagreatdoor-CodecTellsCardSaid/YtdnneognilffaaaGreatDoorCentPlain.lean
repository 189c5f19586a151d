
/- Plain arithmetic for layer 1 (cent): what a sum, a difference and the other sign of 64-bit amounts come to, with no program in it. -/
import Derived.Test.YtdnneognilffaaaGreatDoorBase
namespace Go.Proofs.YtdnneognilffaaaGreatDoor
open Go.RowKit (wrap64)

def addV (a b : Int) : Int := if fit (a + b) = true then a + b else 0
def addE (a b : Int) : Int := if fit (a + b) = true then 0 else 2
def subV (a b : Int) : Int := if fit (a - b) = true then a - b else 0
def subE (a b : Int) : Int := if fit (a - b) = true then 0 else 2
def sumFrom (n : Int) : List Int → Int × Int
  | [] => (n, 0)
  | a :: r => if fit (n + a) = true then sumFrom (n + a) r else (0, 2)

theorem addV_yes {a b : Int} (h : fit (a + b) = true) : addV a b = a + b := by simp [addV, h]
theorem addE_yes {a b : Int} (h : fit (a + b) = true) : addE a b = 0 := by simp [addE, h]
theorem addV_no {a b : Int} (h : fit (a + b) = false) : addV a b = 0 := by simp [addV, h]
theorem addE_no {a b : Int} (h : fit (a + b) = false) : addE a b = 2 := by simp [addE, h]
theorem subV_yes {a b : Int} (h : fit (a - b) = true) : subV a b = a - b := by simp [subV, h]
theorem subE_yes {a b : Int} (h : fit (a - b) = true) : subE a b = 0 := by simp [subE, h]
theorem subV_no {a b : Int} (h : fit (a - b) = false) : subV a b = 0 := by simp [subV, h]
theorem subE_no {a b : Int} (h : fit (a - b) = false) : subE a b = 2 := by simp [subE, h]
theorem sumFrom_yes {n a : Int} (r : List Int) (h : fit (n + a) = true) : sumFrom n (a :: r) = sumFrom (n + a) r := by simp [sumFrom, h]
theorem sumFrom_no {n a : Int} (r : List Int) (h : fit (n + a) = false) : sumFrom n (a :: r) = (0, 2) := by simp [sumFrom, h]
theorem fit_addV (a b : Int) : fit (addV a b) = true := by
  unfold addV; split
  · assumption
  · decide
theorem fit_subV (a b : Int) : fit (subV a b) = true := by
  unfold subV; split
  · assumption
  · decide
theorem fit_sumFrom (l : List Int) : ∀ n : Int, fit n = true → fit (sumFrom n l).1 = true := by
  induction l with
  | nil => intro n h; exact h
  | cons a r ih =>
    intro n h
    cases hf : fit (n + a) with
    | false => rw [sumFrom_no r hf]; decide
    | true => rw [sumFrom_yes r hf]; exact ih _ hf

/-- A sum that goes over the top wraps round below. -/
theorem wrap_over {n : Int} (h1 : 9223372036854775807 < n) (h2 : n ≤ 18446744073709551615) : wrap64 n = n - 18446744073709551616 := by unfold wrap64; omega
theorem wrap_under {n : Int} (h1 : n < -9223372036854775808) (h2 : -18446744073709551616 ≤ n) : wrap64 n = n + 18446744073709551616 := by unfold wrap64; omega
theorem add_over {a b : Int} (a1 : a ≤ 9223372036854775807) (b1 : b ≤ 9223372036854775807) (h : 9223372036854775807 < a + b) : wrap64 (a + b) < a ∧ 0 < b := by
  rw [wrap_over h (by omega)]; omega
theorem add_under {a b : Int} (a1 : -9223372036854775808 ≤ a) (b1 : -9223372036854775808 ≤ b) (h : a + b < -9223372036854775808) : a < wrap64 (a + b) ∧ b < 0 := by
  rw [wrap_under h (by omega)]; omega
theorem sub_over {a b : Int} (a1 : a ≤ 9223372036854775807) (b1 : -9223372036854775808 ≤ b) (h : 9223372036854775807 < a - b) : wrap64 (a - b) < a ∧ b < 0 := by
  rw [wrap_over h (by omega)]; omega
theorem sub_under {a b : Int} (a1 : -9223372036854775808 ≤ a) (b1 : b ≤ 9223372036854775807) (h : a - b < -9223372036854775808) : a < wrap64 (a - b) ∧ 0 < b := by
  rw [wrap_under h (by omega)]; omega
end Go.Proofs.YtdnneognilffaaaGreatDoor
