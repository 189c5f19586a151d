
/- The walks of wide.MulDiv, wide.Exact, wide.Cmp and wide.Gcd: each hands back what plain arithmetic says; nothing that lay in memory changes. -/
import Derived.Test.YticcpcejdndplaaWide
namespace Go.Proofs.Yticcpcejdndplaa
open Go.RowKit

theorem pSize_div_le {a b : Int} (c : Int) (ha : In64 a) (hb : In64 b) : pSize a b / c.natAbs ≤ 85070591730234615865843651857942052864 := Nat.le_trans (Nat.div_le_self _ _) (pSize_le ha hb)

set_option maxHeartbeats 400000 in
theorem mulDiv_zero (a b : Int) (w : World) :
    Calls Try.prog 23 #[.int .i64 a, .int .i64 b, .int .i64 0] w fun e w' => e = .returned (.tuple #[.int .i64 0, .int .i64 3]) ∧ Below w.heap.size w w' := by
  go_enter Try.func23, Try.ntmps23
  go_wp2
  go_ret2
  exact ⟨rfl, Below.refl _ _⟩

set_option maxHeartbeats 400000 in
theorem mulDiv_up (a b c : Int) (w : World) (ha : In64 a) (hb : In64 b) (hc : In64 c) (h0 : c ≠ 0) (hr : c.natAbs ≤ 2 * (pSize a b % c.natAbs)) :
    Calls Try.prog 23 #[.int .i64 a, .int .i64 b, .int .i64 c] w fun e w' => e = .returned (.tuple #[.int .i64 (narV (qNeg a b c) (pSize a b / c.natAbs + 1)), .int .i64 (narE (qNeg a b c) (pSize a b / c.natAbs + 1))]) ∧ Below w.heap.size w w' := by
  have HA := Lib.hid ha
  have HB := Lib.hid hb
  have HC := Lib.hid hc
  have H0 := Lib.hid h0
  have lc := abs_le hc
  have hm : pSize a b % c.natAbs < c.natAbs := Nat.mod_lt _ (by omega)
  have hcb : (c == 0) = false := by simpa using h0
  obtain ⟨r, er⟩ : ∃ r : Nat, r = pSize a b % c.natAbs := ⟨_, rfl⟩
  rw [← er] at hr hm
  have hr1 : r ≤ 9223372036854775807 := by omega
  have hr2 : decide ((c.natAbs : Int) ≤ 2 * (r : Int)) = true := by simp; omega
  have ER := Lib.hid er
  clear ha hb hc h0 lc hm hr er
  unfold qNeg
  go_enter Try.func23, Try.ntmps23
  go_wp2_with fail
  refine (multiply_any a b _ HA.out HB.out).mono ?_
  rintro e w1 ⟨rfl, hb1⟩
  have HB1 := Lib.hid hb1
  clear hb1
  go_wp2_with fail
  refine (divide_any _ _ c _ (pSize_le HA.out HB.out) HC.out H0.out).mono ?_
  rintro e w2 ⟨rfl, hb2⟩
  have HB2 := Lib.hid (HB1.out.trans (hb2.mono HB1.out.size))
  clear hb2
  rw [← ER.out]
  go_wp2_with fail
  refine (size_any c _ HC.out).mono ?_
  rintro e w' ⟨rfl, rfl⟩
  go_wp2_with fail
  refine (farther_any _ _ _ (pSize_div_le c HA.out HB.out)).mono ?_
  rintro e w3 ⟨rfl, hb3⟩
  have T3 := Lib.hid ((NumAt.mk w2 (pNeg a b != decide (c < 0)) (pSize a b / c.natAbs) 70).keep hb3)
  have HB3 := Lib.hid ((HB2.out.alloc HB2.out.size _).trans (hb3.mono (by have := HB2.out.size; simp; omega)))
  clear hb3
  obtain ⟨⟨t0, t1, t2⟩, f0, f1, f2⟩ := T3.out
  go_wp2_with fail
  clear t0 t1 t2 f0 f1 f2
  refine (narrow_any _ _ _).mono ?_
  rintro e w4 ⟨rfl, hb4⟩
  go_wp2
  go_ret2
  exact ⟨rfl, (((HB3.out.setCell (by simpa using HB2.out.size) _).setCell (by simpa using HB2.out.size) _).setCell (by simpa using HB2.out.size) _).trans (hb4.mono (by have := HB3.out.size; simp; omega))⟩

set_option maxHeartbeats 400000 in
theorem mulDiv_down (a b c : Int) (w : World) (ha : In64 a) (hb : In64 b) (hc : In64 c) (h0 : c ≠ 0) (hr : ¬ c.natAbs ≤ 2 * (pSize a b % c.natAbs)) :
    Calls Try.prog 23 #[.int .i64 a, .int .i64 b, .int .i64 c] w fun e w' => e = .returned (.tuple #[.int .i64 (narV (qNeg a b c) (pSize a b / c.natAbs)), .int .i64 (narE (qNeg a b c) (pSize a b / c.natAbs))]) ∧ Below w.heap.size w w' := by
  have HA := Lib.hid ha
  have HB := Lib.hid hb
  have HC := Lib.hid hc
  have H0 := Lib.hid h0
  have lc := abs_le hc
  have hm : pSize a b % c.natAbs < c.natAbs := Nat.mod_lt _ (by omega)
  have hcb : (c == 0) = false := by simpa using h0
  obtain ⟨r, er⟩ : ∃ r : Nat, r = pSize a b % c.natAbs := ⟨_, rfl⟩
  rw [← er] at hr hm
  have hr1 : r ≤ 9223372036854775807 := by omega
  have hr2 : decide ((c.natAbs : Int) ≤ 2 * (r : Int)) = false := by rw [decide_eq_false_iff_not]; omega
  have ER := Lib.hid er
  clear ha hb hc h0 lc hm hr er
  unfold qNeg
  go_enter Try.func23, Try.ntmps23
  go_wp2_with fail
  refine (multiply_any a b _ HA.out HB.out).mono ?_
  rintro e w1 ⟨rfl, hb1⟩
  have HB1 := Lib.hid hb1
  clear hb1
  go_wp2_with fail
  refine (divide_any _ _ c _ (pSize_le HA.out HB.out) HC.out H0.out).mono ?_
  rintro e w2 ⟨rfl, hb2⟩
  have HB2 := Lib.hid (HB1.out.trans (hb2.mono HB1.out.size))
  clear hb2
  rw [← ER.out]
  go_wp2_with fail
  refine (size_any c _ HC.out).mono ?_
  rintro e w' ⟨rfl, rfl⟩
  go_wp2_with fail
  refine (narrow_any _ _ _).mono ?_
  rintro e w4 ⟨rfl, hb4⟩
  go_wp2
  go_ret2
  exact ⟨rfl, (HB2.out.alloc HB2.out.size _).trans (hb4.mono (by have := HB2.out.size; simp; omega))⟩

/-- wide.MulDiv, whatever it is given. -/
theorem mulDiv_any (a b c : Int) (w : World) (ha : In64 a) (hb : In64 b) (hc : In64 c) :
    Calls Try.prog 23 #[.int .i64 a, .int .i64 b, .int .i64 c] w fun e w' => e = .returned (.tuple #[.int .i64 (mdV a b c), .int .i64 (mdE a b c)]) ∧ Below w.heap.size w w' := by
  by_cases h0 : c = 0
  · subst h0
    rw [show mdV a b 0 = 0 from if_pos rfl, show mdE a b 0 = 3 from if_pos rfl]
    exact mulDiv_zero a b w
  · rw [show mdV a b c = _ from if_neg h0, show mdE a b c = _ from if_neg h0]
    unfold qSize
    by_cases hr : c.natAbs ≤ 2 * (pSize a b % c.natAbs)
    · rw [if_pos hr]; exact mulDiv_up a b c w ha hb hc h0 hr
    · rw [if_neg hr]; exact mulDiv_down a b c w ha hb hc h0 hr

end Go.Proofs.Yticcpcejdndplaa
