/- The walk of the document's Exact. -/
import Derived.Test.YtpcmaakpkemmbaaRefCalls
namespace Go.Proofs.Ytpcmaakpkemmbaa
open Go.RowKit

set_option maxHeartbeats 1000000 in
theorem rexact_zero (a b : Int) (w : World) :
    Calls Try.prog 15 #[.int .i64 a, .int .i64 b, .int .i64 0] w fun e w' => e = .returned (.tuple #[.int .i64 0, .bool false, .int .i64 3]) ∧ Below w.heap.size w w' := by
  go_enter Try.func15, Try.ntmps15
  go_wp2
  go_ret3
  exact ⟨rfl, Below.refl _ _⟩

set_option maxHeartbeats 1000000 in
theorem rexact_rest (a b c : Int) (w : World) (ha : In64 a) (hb : In64 b) (hc : In64 c) (h0 : c ≠ 0) (hr : whole a b c = false) :
    Calls Try.prog 15 #[.int .i64 a, .int .i64 b, .int .i64 c] w fun e w' => e = .returned (.tuple #[.int .i64 0, .bool false, .int .i64 0]) ∧ Below w.heap.size w w' := by
  have HA := Lib.hid ha
  have HB := Lib.hid hb
  have HC := Lib.hid hc
  have H0 : Hid (0 < c.natAbs) := Lib.hid (by omega)
  have LA := Lib.hid (abs_le ha)
  have LB := Lib.hid (abs_le hb)
  have LC := Lib.hid (abs_le hc)
  have hcb : (c == 0) = false := by simpa using h0
  obtain ⟨r, er⟩ : ∃ r : Nat, r = pSize a b % c.natAbs := ⟨_, rfl⟩
  unfold whole at hr
  rw [← er] at hr
  have hr2 : ((r : Int) == 0) = false := by simp at hr ⊢; omega
  have hr3 : ((r : Int) != 0) = true := by simp at hr ⊢; omega
  have ER := Lib.hid er.symm
  have EP : Hid (a.natAbs * b.natAbs = pSize a b) := Lib.hid rfl
  have LP := Lib.hid (pSize_le ha hb)
  clear ha hb hc h0 hr er
  go_enter Try.func15, Try.ntmps15
  go_wp2_with fail
  refine (rsize_any a _ HA.out).mono ?_
  rintro e w' ⟨rfl, rfl⟩
  go_wp2_with fail
  refine (rsize_any b _ HB.out).mono ?_
  rintro e w' ⟨rfl, rfl⟩
  go_wp2_with fail
  refine (rtimes_any _ _ _ LA.out LB.out).mono ?_
  rintro e w1 ⟨rfl, hb1⟩
  have HB1 := Lib.hid hb1
  clear hb1
  rw [EP.out]
  go_wp2_with fail
  refine (rsize_any c _ HC.out).mono ?_
  rintro e w' ⟨rfl, rfl⟩
  go_wp2_with fail
  refine (rby_any _ _ _ LP.out H0.out LC.out).mono ?_
  rintro e w2 ⟨rfl, hb2⟩
  have HB2 := Lib.hid (HB1.out.trans (hb2.mono HB1.out.size))
  clear hb2
  rw [ER.out]
  go_wp2
  go_ret3
  exact ⟨rfl, HB2.out.alloc HB2.out.size _⟩

set_option maxHeartbeats 1000000 in
theorem rexact_whole (a b c V E : Int) (is : Bool) (w : World) (ha : In64 a) (hb : In64 b) (hc : In64 c) (h0 : c ≠ 0) (hr : whole a b c = true)
    (hv : Hid (narV (rNeg a b c) (pSize a b / c.natAbs) = V)) (hi : Hid (fit (sgnd (rNeg a b c) (pSize a b / c.natAbs)) = is)) (hz : is = false → V = 0 ∧ E = 2) (ho : is = true → E = 0) :
    Calls Try.prog 15 #[.int .i64 a, .int .i64 b, .int .i64 c] w fun e w' => e = .returned (.tuple #[.int .i64 V, .bool is, .int .i64 E]) ∧ Below w.heap.size w w' := by
  have HA := Lib.hid ha
  have HB := Lib.hid hb
  have HC := Lib.hid hc
  have H0 : Hid (0 < c.natAbs) := Lib.hid (by omega)
  have LA := Lib.hid (abs_le ha)
  have LB := Lib.hid (abs_le hb)
  have LC := Lib.hid (abs_le hc)
  have hcb : (c == 0) = false := by simpa using h0
  unfold whole at hr
  have ER : Hid (pSize a b % c.natAbs = 0) := Lib.hid (by simpa using hr)
  have EP : Hid (a.natAbs * b.natAbs = pSize a b) := Lib.hid rfl
  have LP := Lib.hid (pSize_le ha hb)
  obtain ⟨q, eq⟩ : ∃ q : Nat, q = pSize a b / c.natAbs := ⟨_, rfl⟩
  rw [← eq] at hv hi
  have EQ := Lib.hid eq.symm
  clear ha hb hc h0 hr eq
  have HZ := Lib.hid hz
  have HO := Lib.hid ho
  clear hz ho
  go_enter Try.func15, Try.ntmps15
  go_wp2_with fail
  refine (rsize_any a _ HA.out).mono ?_
  rintro e w' ⟨rfl, rfl⟩
  go_wp2_with fail
  refine (rsize_any b _ HB.out).mono ?_
  rintro e w' ⟨rfl, rfl⟩
  go_wp2_with fail
  refine (rtimes_any _ _ _ LA.out LB.out).mono ?_
  rintro e w1 ⟨rfl, hb1⟩
  have HB1 := Lib.hid hb1
  clear hb1
  rw [EP.out]
  go_wp2_with fail
  refine (rsize_any c _ HC.out).mono ?_
  rintro e w' ⟨rfl, rfl⟩
  go_wp2_with fail
  refine (rby_any _ _ _ LP.out H0.out LC.out).mono ?_
  rintro e w2 ⟨rfl, hb2⟩
  have HB2 := Lib.hid (HB1.out.trans (hb2.mono HB1.out.size))
  clear hb2
  rw [ER.out, EQ.out]
  go_wp2_with fail
  have T3 := TwoAt.mk w2 q 51
  have kb := HB2.out.alloc HB2.out.size (.cells #[.int .u64 (hi64 q), .int .u64 (lo64 q)] 51)
  obtain ⟨⟨k0, k1⟩, _⟩ := T3
  generalize w2.alloc (.cells #[.int .u64 (hi64 q), .int .u64 (lo64 q)] 51) = w3 at *
  generalize w2.heap.size = g at *
  go_region_held3 (fun w' => (w'.cell? ⟨g, 0, none⟩ = some (.int .u64 (hi64 q)) ∧ w'.cell? ⟨g, 1, none⟩ = some (.int .u64 (lo64 q))) ∧ Below w.heap.size w w') (first | exact ⟨⟨k0, k1⟩, kb⟩ | exact ⟨⟨k0, k1⟩, kb.drew⟩ | exact ⟨⟨l0, l1⟩, lb⟩ | exact ⟨⟨l0, l1⟩, lb.drew⟩ | fail)
    (first
      | (go_at_call 30; refine (rsign_any _ _ _ _).mono ?_; rintro e w' ⟨rfl, rfl⟩)
      | (go_at_call 29; refine (rfits_held _ _ V is w _ g q hv hi (by exact k0) (by exact k1) (by exact kb)).mono ?_; rintro e w5 ⟨rfl, ⟨l0, l1⟩, lb⟩)
      | (go_at_call 29; refine (rfits_held _ _ V is w _ g q hv hi (by exact k0) (by exact k1) (by exact kb.drew)).mono ?_; rintro e w5 ⟨rfl, ⟨l0, l1⟩, lb⟩)
      | fail)
  all_goals
    cases is with
    | true =>
      obtain rfl := HO.out rfl
      go_wp2
      go_ret3
      exact ⟨rfl, by first | exact lb | exact lb.drew⟩
    | false =>
      obtain ⟨rfl, rfl⟩ := HZ.out rfl
      go_wp2
      go_ret3
      exact ⟨rfl, by first | exact lb | exact lb.drew⟩

/-- The document's Exact, whatever it is given: what the program's own tells. -/
theorem rexact_any (a b c : Int) (w : World) (ha : In64 a) (hb : In64 b) (hc : In64 c) :
    Calls Try.prog 15 #[.int .i64 a, .int .i64 b, .int .i64 c] w fun e w' => e = .returned (.tuple #[.int .i64 (exV a b c), .bool (exB a b c), .int .i64 (exE a b c)]) ∧ Below w.heap.size w w' := by
  by_cases h0 : c = 0
  · subst h0
    rw [show exV a b 0 = 0 from if_pos rfl, show exE a b 0 = 3 from if_pos rfl, show exB a b 0 = false from if_pos rfl]
    exact rexact_zero a b w
  · rw [show exV a b c = _ from if_neg h0, show exE a b c = _ from if_neg h0, show exB a b c = _ from if_neg h0]
    cases hr : whole a b c with
    | false => simp only [Bool.false_eq_true, if_false]; exact rexact_rest a b c w ha hb hc h0 hr
    | true =>
      simp only [if_true]
      have es : sgnd (rNeg a b c) (pSize a b / c.natAbs) = sgnd (qNeg a b c) (pSize a b / c.natAbs) := rNeg_sgnd (fun h => by rw [h, Nat.zero_div])
      have ev : narV (qNeg a b c) (pSize a b / c.natAbs) = narV (rNeg a b c) (pSize a b / c.natAbs) := by unfold narV; rw [es]
      have ee : narE (qNeg a b c) (pSize a b / c.natAbs) = narE (rNeg a b c) (pSize a b / c.natAbs) := by unfold narE; rw [es]
      rw [← es, ev, ee]
      refine rexact_whole a b c _ _ _ w ha hb hc h0 hr (Lib.hid rfl) (Lib.hid rfl) (fun h => ?_) (fun h => ?_)
      · unfold narV narE; rw [h]; exact ⟨rfl, rfl⟩
      · unfold narE; rw [h]; rfl
end Go.Proofs.Ytpcmaakpkemmbaa
