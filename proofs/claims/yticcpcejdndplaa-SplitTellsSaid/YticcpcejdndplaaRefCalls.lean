
/- The walks of the document's MulDiv, Exact and Gcd. -/
import Derived.Test.YticcpcejdndplaaRefBy
import Derived.Test.YticcpcejdndplaaWideG
import Derived.Deep.RegionHeld3
namespace Go.Proofs.Yticcpcejdndplaa
open Go.RowKit

set_option maxHeartbeats 400000 in
theorem rsign_any (a b c : Int) (w : World) :
    Calls Try.prog 42 #[.int .i64 a, .int .i64 b, .int .i64 c] w fun e w' => e = .returned (.bool (rNeg a b c)) ∧ w = w' := by
  go_enter Try.func42, Try.ntmps42
  go_wp2
  go_ret
  exact ⟨ret_bool (by unfold rNeg; cases decide (a < 0) <;> cases decide (b < 0) <;> cases decide (c < 0) <;> rfl), rfl⟩

set_option maxHeartbeats 400000 in
theorem rfits_any (s : Bool) (n : Nat) (w : World) :
    Calls Try.prog 41 #[.bool s, .agg #[.int .u64 (hi64 n), .int .u64 (lo64 n)]] w fun e w' => e = .returned (.tuple #[.int .i64 (narV s n), .bool (fit (sgnd s n))]) ∧ Below w.heap.size w w' := by
  cases hf : fit (sgnd s n) with
  | true =>
    obtain ⟨e1, e2, b1, b2⟩ := nar_small hf
    rw [show narV s n = sgnd s n from if_pos hf]
    clear hf
    cases s with
    | true =>
      rw [show sgnd true n = -(n : Int) from if_pos rfl]
      clear b2
      by_cases hn : n = 9223372036854775808
      · subst hn
        have E3 : Hid (wrap64 (IntKind.u64.wrap (-9223372036854775808)) = -9223372036854775808) := Lib.hid (by rw [IntKind.wrap_u64]; unfold wrap64; omega)
        clear b1
        go_enter Try.func41, Try.ntmps41
        go_wp2
        go_ret2
        refine ⟨?_, (Below.refl _ _).alloc (Nat.le_refl _) _⟩
        show Ending.returned (.tuple #[.int .i64 (wrap64 (IntKind.u64.wrap (-9223372036854775808))), .bool true]) = _
        rw [E3.out]
        rfl
      have E3 : Hid (wrap64 (IntKind.u64.wrap (-(n : Int))) = -(n : Int)) := Lib.hid (by rw [IntKind.wrap_u64]; unfold wrap64; omega)
      have b3 : n ≤ 9223372036854775807 := by omega
      clear hn b1
      go_enter Try.func41, Try.ntmps41
      go_wp2
      go_ret2
      refine ⟨?_, (Below.refl _ _).alloc (Nat.le_refl _) _⟩
      show Ending.returned (.tuple #[.int .i64 (wrap64 (IntKind.u64.wrap (-(n : Int)))), .bool true]) = _
      rw [E3.out]
    | false =>
      rw [show sgnd false n = (n : Int) from if_neg (by simp)]
      have b3 := b2 rfl
      clear b2
      go_enter Try.func41, Try.ntmps41
      go_wp2
      all_goals
        go_ret2
        exact ⟨rfl, (Below.refl _ _).alloc (Nat.le_refl _) _⟩
  | false =>
    rw [show narV s n = 0 from if_neg (by simp [hf])]
    rcases nar_big hf with h | ⟨h, h1⟩ | ⟨h, h1, rfl⟩
    · have hb : 0 < hi64 n := by unfold hi64 at *; omega
      clear hf h
      go_enter Try.func41, Try.ntmps41
      go_wp2
      all_goals
        go_ret2
        exact ⟨rfl, (Below.refl _ _).alloc (Nat.le_refl _) _⟩
    · clear hf
      go_enter Try.func41, Try.ntmps41
      go_wp2
      all_goals
        go_ret2
        exact ⟨rfl, (Below.refl _ _).alloc (Nat.le_refl _) _⟩
    · clear hf
      go_enter Try.func41, Try.ntmps41
      go_wp2
      all_goals
        go_ret2
        exact ⟨rfl, (Below.refl _ _).alloc (Nat.le_refl _) _⟩

/-- The same, where a number of two halves lies aside, and what is below a block stays. -/
theorem rfits_held (s : Bool) (n : Nat) (V : Int) (is : Bool) (w0 w : World) (g m : Nat) (hv : Hid (narV s n = V)) (hi : Hid (fit (sgnd s n) = is)) (k0 : w.cell? ⟨g, 0, none⟩ = some (.int .u64 (hi64 m))) (k1 : w.cell? ⟨g, 1, none⟩ = some (.int .u64 (lo64 m))) (kb : Below w0.heap.size w0 w) :
    Calls Try.prog 41 #[.bool s, .agg #[.int .u64 (hi64 n), .int .u64 (lo64 n)]] w fun e w' => e = .returned (.tuple #[.int .i64 V, .bool is]) ∧ (w'.cell? ⟨g, 0, none⟩ = some (.int .u64 (hi64 m)) ∧ w'.cell? ⟨g, 1, none⟩ = some (.int .u64 (lo64 m))) ∧ Below w0.heap.size w0 w' := by
  refine (rfits_any s n w).mono ?_
  rintro e w' ⟨rfl, hb⟩
  rw [hv.out, hi.out]
  exact ⟨rfl, ⟨(hb.cell (p := ⟨g, 0, none⟩) (World.block_lt_of_cell? w _ k0)).trans k0, (hb.cell (p := ⟨g, 1, none⟩) (World.block_lt_of_cell? w _ k1)).trans k1⟩, kb.trans (hb.mono kb.size)⟩

/-- What the document tells of a size with a sign: the amount, and 0; or 0, and the error. -/
theorem nar_told (s : Bool) (n : Nat) : ∃ (V : Int) (is : Bool), narV s n = V ∧ fit (sgnd s n) = is ∧ narE s n = (if is = true then 0 else 2) ∧ (is = false → V = 0) := by
  refine ⟨_, _, rfl, rfl, rfl, fun h => ?_⟩
  unfold narV; rw [h]; rfl
set_option maxHeartbeats 1000000 in
theorem rmulDiv_down (a b c V : Int) (is : Bool) (w : World) (ha : In64 a) (hb : In64 b) (hc : In64 c) (h0 : c ≠ 0) (hr : ¬ c.natAbs ≤ 2 * (pSize a b % c.natAbs))
    (hv : Hid (narV (rNeg a b c) (pSize a b / c.natAbs) = V)) (hi : Hid (fit (sgnd (rNeg a b c) (pSize a b / c.natAbs)) = is)) (hz : is = false → V = 0) :
    Calls Try.prog 24 #[.int .i64 a, .int .i64 b, .int .i64 c] w fun e w' => e = .returned (.tuple #[.int .i64 V, .int .i64 (if is = true then 0 else 2)]) ∧ Below w.heap.size w w' := by
  have HA := Lib.hid ha
  have HB := Lib.hid hb
  have HC := Lib.hid hc
  have H0 : Hid (0 < c.natAbs) := Lib.hid (by omega)
  have lc := abs_le hc
  have LA := Lib.hid (abs_le ha)
  have LB := Lib.hid (abs_le hb)
  have LC := Lib.hid lc
  have hm : pSize a b % c.natAbs < c.natAbs := Nat.mod_lt _ (by omega)
  have hcb : (c == 0) = false := by simpa using h0
  obtain ⟨r, er⟩ : ∃ r : Nat, r = pSize a b % c.natAbs := ⟨_, rfl⟩
  rw [← er] at hr hm
  obtain ⟨C, eC⟩ : ∃ C : Nat, C = c.natAbs := ⟨_, rfl⟩
  rw [← eC] at hr hm lc
  have hr1 : r ≤ 9223372036854775807 := by omega
  have hr2 : decide ((C : Int) - (r : Int) ≤ (r : Int)) = false := by rw [decide_eq_false_iff_not]; omega
  have hr3 : (r : Int) ≤ (C : Int) := by omega
  have hr4 : (C : Int) ≤ 9223372036854775808 := by omega
  have ER := Lib.hid er.symm
  have EC := Lib.hid eC.symm
  obtain ⟨q, eq⟩ : ∃ q : Nat, q = pSize a b / c.natAbs := ⟨_, rfl⟩
  rw [← eq] at hv hi
  have EQ := Lib.hid eq.symm
  have EP : Hid (a.natAbs * b.natAbs = pSize a b) := Lib.hid rfl
  have LP := Lib.hid (pSize_le ha hb)
  have LQ : Hid (q ≤ 85070591730234615865843651857942052864) := Lib.hid (by rw [eq]; exact pSize_div_le c ha hb)
  clear ha hb hc h0 lc hm hr er eC eq
  go_enter Try.func24, Try.ntmps24
  go_wp2_with fail
  refine (rsize_any a _ HA.out).mono ?_
  rintro e w' ⟨rfl, rfl⟩
  go_wp2_with fail
  refine (rsize_any b _ HB.out).mono ?_
  rintro e w' ⟨rfl, rfl⟩
  go_wp2_with fail
  refine (rtimes_any _ _ _ LA.out LB.out).mono ?_
  rintro e w1 ⟨rfl, hb1⟩
  have HB1 := Lib.hid hb1
  clear hb1
  rw [EP.out]
  go_wp2_with fail
  refine (rsize_any c _ HC.out).mono ?_
  rintro e w' ⟨rfl, rfl⟩
  go_wp2_with fail
  refine (rby_any _ _ _ LP.out H0.out LC.out).mono ?_
  rintro e w2 ⟨rfl, hb2⟩
  have HB2 := Lib.hid (HB1.out.trans (hb2.mono HB1.out.size))
  clear hb2
  rw [ER.out, EQ.out]
  go_wp2_with fail
  refine (rsize_any c _ HC.out).mono ?_
  rintro e w' ⟨rfl, rfl⟩
  rw [EC.out]
  go_wp2_with fail
  have T3 := TwoAt.mk w2 q 60
  have kb := HB2.out.alloc HB2.out.size (.cells #[.int .u64 (hi64 q), .int .u64 (lo64 q)] 60)
  obtain ⟨⟨k0, k1⟩, _⟩ := T3
  generalize w2.alloc (.cells #[.int .u64 (hi64 q), .int .u64 (lo64 q)] 60) = w3 at *
  generalize w2.heap.size = g at *
  go_region_held3 (fun w' => (w'.cell? ⟨g, 0, none⟩ = some (.int .u64 (hi64 (q))) ∧ w'.cell? ⟨g, 1, none⟩ = some (.int .u64 (lo64 (q)))) ∧ Below w.heap.size w w') (first | exact ⟨⟨k0, k1⟩, kb⟩ | exact ⟨⟨k0, k1⟩, kb.drew⟩ | exact ⟨⟨l0, l1⟩, lb⟩ | exact ⟨⟨l0, l1⟩, lb.drew⟩ | fail)
    (first
      | (go_at_call 42; refine (rsign_any _ _ _ _).mono ?_; rintro e w' ⟨rfl, rfl⟩)
      | (go_at_call 41; refine (rfits_held _ _ V is w _ g (q) hv hi (by exact k0) (by exact k1) (by exact kb)).mono ?_; rintro e w5 ⟨rfl, ⟨l0, l1⟩, lb⟩)
      | (go_at_call 41; refine (rfits_held _ _ V is w _ g (q) hv hi (by exact k0) (by exact k1) (by exact kb.drew)).mono ?_; rintro e w5 ⟨rfl, ⟨l0, l1⟩, lb⟩)
      | fail)
  all_goals
    cases is with
    | true =>
      go_wp2
      go_ret2
      exact ⟨rfl, by first | exact lb | exact lb.drew⟩
    | false =>
      obtain rfl := hz rfl
      go_wp2
      go_ret2
      exact ⟨rfl, by first | exact lb | exact lb.drew⟩

set_option maxHeartbeats 1000000 in
theorem rmulDiv_up (a b c V : Int) (is : Bool) (w : World) (ha : In64 a) (hb : In64 b) (hc : In64 c) (h0 : c ≠ 0) (hr :  c.natAbs ≤ 2 * (pSize a b % c.natAbs))
    (hv : Hid (narV (rNeg a b c) (pSize a b / c.natAbs + 1) = V)) (hi : Hid (fit (sgnd (rNeg a b c) (pSize a b / c.natAbs + 1)) = is)) (hz : is = false → V = 0) :
    Calls Try.prog 24 #[.int .i64 a, .int .i64 b, .int .i64 c] w fun e w' => e = .returned (.tuple #[.int .i64 V, .int .i64 (if is = true then 0 else 2)]) ∧ Below w.heap.size w w' := by
  have HA := Lib.hid ha
  have HB := Lib.hid hb
  have HC := Lib.hid hc
  have H0 : Hid (0 < c.natAbs) := Lib.hid (by omega)
  have lc := abs_le hc
  have LA := Lib.hid (abs_le ha)
  have LB := Lib.hid (abs_le hb)
  have LC := Lib.hid lc
  have hm : pSize a b % c.natAbs < c.natAbs := Nat.mod_lt _ (by omega)
  have hcb : (c == 0) = false := by simpa using h0
  obtain ⟨r, er⟩ : ∃ r : Nat, r = pSize a b % c.natAbs := ⟨_, rfl⟩
  rw [← er] at hr hm
  obtain ⟨C, eC⟩ : ∃ C : Nat, C = c.natAbs := ⟨_, rfl⟩
  rw [← eC] at hr hm lc
  have hr1 : r ≤ 9223372036854775807 := by omega
  have hr2 : decide ((C : Int) - (r : Int) ≤ (r : Int)) = true := by simp; omega
  have hr3 : (r : Int) ≤ (C : Int) := by omega
  have hr4 : (C : Int) ≤ 9223372036854775808 := by omega
  have ER := Lib.hid er.symm
  have EC := Lib.hid eC.symm
  obtain ⟨q, eq⟩ : ∃ q : Nat, q = pSize a b / c.natAbs := ⟨_, rfl⟩
  rw [← eq] at hv hi
  have EQ := Lib.hid eq.symm
  have EP : Hid (a.natAbs * b.natAbs = pSize a b) := Lib.hid rfl
  have LP := Lib.hid (pSize_le ha hb)
  have LQ : Hid (q ≤ 85070591730234615865843651857942052864) := Lib.hid (by rw [eq]; exact pSize_div_le c ha hb)
  clear ha hb hc h0 lc hm hr er eC eq
  go_enter Try.func24, Try.ntmps24
  go_wp2_with fail
  refine (rsize_any a _ HA.out).mono ?_
  rintro e w' ⟨rfl, rfl⟩
  go_wp2_with fail
  refine (rsize_any b _ HB.out).mono ?_
  rintro e w' ⟨rfl, rfl⟩
  go_wp2_with fail
  refine (rtimes_any _ _ _ LA.out LB.out).mono ?_
  rintro e w1 ⟨rfl, hb1⟩
  have HB1 := Lib.hid hb1
  clear hb1
  rw [EP.out]
  go_wp2_with fail
  refine (rsize_any c _ HC.out).mono ?_
  rintro e w' ⟨rfl, rfl⟩
  go_wp2_with fail
  refine (rby_any _ _ _ LP.out H0.out LC.out).mono ?_
  rintro e w2 ⟨rfl, hb2⟩
  have HB2 := Lib.hid (HB1.out.trans (hb2.mono HB1.out.size))
  clear hb2
  rw [ER.out, EQ.out]
  go_wp2_with fail
  refine (rsize_any c _ HC.out).mono ?_
  rintro e w' ⟨rfl, rfl⟩
  rw [EC.out]
  go_wp2_with fail
  have T3 := Lib.hid (TwoAt.mk w2 q 60)
  have HB3 := Lib.hid (HB2.out.alloc HB2.out.size (.cells #[.int .u64 (hi64 q), .int .u64 (lo64 q)] 60))
  have GB := Lib.hid HB2.out.size
  refine (rplus_any q 1 _ LQ.out (by omega)).mono ?_
  rintro e w4 ⟨rfl, hb4⟩
  have T4 := Lib.hid (T3.out.keep hb4 (Nat.le_refl _))
  have HB4 := Lib.hid (HB3.out.trans (hb4.mono HB3.out.size))
  clear hb4 T3 HB3
  obtain ⟨⟨t0, t1⟩, t2, t3⟩ := T4.out
  go_wp2_with fail
  clear t0 t1 t2 t3
  have T5 := T4.out.set (q + 1)
  have kb := (HB4.out.setCell (p := ⟨w2.heap.size, 0, none⟩) GB.out (.int .u64 (hi64 (q + 1)))).setCell (p := ⟨w2.heap.size, 1, none⟩) GB.out (.int .u64 (lo64 (q + 1)))
  obtain ⟨⟨k0, k1⟩, _⟩ := T5
  generalize (w4.setCell ⟨w2.heap.size, 0, none⟩ (.int .u64 (hi64 (q + 1)))).setCell ⟨w2.heap.size, 1, none⟩ (.int .u64 (lo64 (q + 1))) = w3 at *
  generalize w2.heap.size = g at *
  go_region_held3 (fun w' => (w'.cell? ⟨g, 0, none⟩ = some (.int .u64 (hi64 (q + 1))) ∧ w'.cell? ⟨g, 1, none⟩ = some (.int .u64 (lo64 (q + 1)))) ∧ Below w.heap.size w w') (first | exact ⟨⟨k0, k1⟩, kb⟩ | exact ⟨⟨k0, k1⟩, kb.drew⟩ | exact ⟨⟨l0, l1⟩, lb⟩ | exact ⟨⟨l0, l1⟩, lb.drew⟩ | fail)
    (first
      | (go_at_call 42; refine (rsign_any _ _ _ _).mono ?_; rintro e w' ⟨rfl, rfl⟩)
      | (go_at_call 41; refine (rfits_held _ _ V is w _ g (q + 1) hv hi (by exact k0) (by exact k1) (by exact kb)).mono ?_; rintro e w5 ⟨rfl, ⟨l0, l1⟩, lb⟩)
      | (go_at_call 41; refine (rfits_held _ _ V is w _ g (q + 1) hv hi (by exact k0) (by exact k1) (by exact kb.drew)).mono ?_; rintro e w5 ⟨rfl, ⟨l0, l1⟩, lb⟩)
      | fail)
  all_goals
    cases is with
    | true =>
      go_wp2
      go_ret2
      exact ⟨rfl, by first | exact lb | exact lb.drew⟩
    | false =>
      obtain rfl := hz rfl
      go_wp2
      go_ret2
      exact ⟨rfl, by first | exact lb | exact lb.drew⟩

theorem rmulDiv_zero (a b : Int) (w : World) :
    Calls Try.prog 24 #[.int .i64 a, .int .i64 b, .int .i64 0] w fun e w' => e = .returned (.tuple #[.int .i64 0, .int .i64 3]) ∧ Below w.heap.size w w' := by
  go_enter Try.func24, Try.ntmps24
  go_wp2
  go_ret2
  exact ⟨rfl, Below.refl _ _⟩

/-- The document's MulDiv, whatever it is given: what the program's own tells. -/
theorem rmulDiv_any (a b c : Int) (w : World) (ha : In64 a) (hb : In64 b) (hc : In64 c) :
    Calls Try.prog 24 #[.int .i64 a, .int .i64 b, .int .i64 c] w fun e w' => e = .returned (.tuple #[.int .i64 (mdV a b c), .int .i64 (mdE a b c)]) ∧ Below w.heap.size w w' := by
  by_cases h0 : c = 0
  · subst h0
    rw [show mdV a b 0 = 0 from if_pos rfl, show mdE a b 0 = 3 from if_pos rfl]
    exact rmulDiv_zero a b w
  · have es := rNeg_sgnd (c := c) (qSize_zero (a := a) (b := b) h0)
    have ev : mdV a b c = narV (rNeg a b c) (qSize a b c) := by
      rw [show mdV a b c = _ from if_neg h0]; unfold narV; rw [es]
    have ee : mdE a b c = narE (rNeg a b c) (qSize a b c) := by
      rw [show mdE a b c = _ from if_neg h0]; unfold narE; rw [es]
    obtain ⟨V, is, n1, n2, n3, n4⟩ := nar_told (rNeg a b c) (qSize a b c)
    rw [ev, ee, n3, n1]
    unfold qSize at n1 n2
    by_cases hr : c.natAbs ≤ 2 * (pSize a b % c.natAbs)
    · rw [if_pos hr] at n1 n2; exact rmulDiv_up a b c V is w ha hb hc h0 hr (Lib.hid n1) (Lib.hid n2) n4
    · rw [if_neg hr] at n1 n2; exact rmulDiv_down a b c V is w ha hb hc h0 hr (Lib.hid n1) (Lib.hid n2) n4
end Go.Proofs.Yticcpcejdndplaa
