
/- The walk of the document's Cmp. -/
import Derived.Test.YticcpcejdndplaaRefLoops
namespace Go.Proofs.Yticcpcejdndplaa
open Go.RowKit

/-- Is a number with a sign below another one? -/
def belowB (s : Bool) (m : Nat) (t : Bool) (n : Nat) : Bool := if s != t then s else if s = true then decide (n < m) else decide (m < n)

set_option maxHeartbeats 1000000 in
theorem rbelow_any (s t : Bool) (m n : Nat) (w : World) :
    Calls Try.prog 27 #[.bool s, .agg #[.int .u64 (hi64 m), .int .u64 (lo64 m)], .bool t, .agg #[.int .u64 (hi64 n), .int .u64 (lo64 n)]] w fun e w' => e = .returned (.bool (belowB s m t n)) ∧ Below w.heap.size w w' := by
  cases s <;> cases t
  · rw [show belowB false m false n = decide (m < n) from rfl]
    go_enter Try.func27, Try.ntmps27
    go_wp2_with fail
    refine (rless_any m n _).mono ?_
    rintro e w1 ⟨rfl, hb1⟩
    go_wp2
    go_ret
    exact ⟨rfl, (((Below.refl _ _).alloc (Nat.le_refl _) _).alloc (by simp) _).trans (hb1.mono (by simp; omega))⟩
  · rw [show belowB false m true n = false from rfl]
    go_enter Try.func27, Try.ntmps27
    go_wp2
    go_ret
    exact ⟨rfl, ((Below.refl _ _).alloc (Nat.le_refl _) _).alloc (by simp) _⟩
  · rw [show belowB true m false n = true from rfl]
    go_enter Try.func27, Try.ntmps27
    go_wp2
    go_ret
    exact ⟨rfl, ((Below.refl _ _).alloc (Nat.le_refl _) _).alloc (by simp) _⟩
  · rw [show belowB true m true n = decide (n < m) from rfl]
    go_enter Try.func27, Try.ntmps27
    go_wp2_with fail
    refine (rless_any n m _).mono ?_
    rintro e w1 ⟨rfl, hb1⟩
    go_wp2
    go_ret
    exact ⟨rfl, (((Below.refl _ _).alloc (Nat.le_refl _) _).alloc (by simp) _).trans (hb1.mono (by simp; omega))⟩

theorem val_bool {a b : Bool} (h : a = b) : Value.bool a = .bool b := by rw [h]
theorem halves_zero (n : Nat) : (hi64 n == 0 && lo64 n == 0) = (n == 0) := by
  rw [Bool.eq_iff_iff]
  simp only [Bool.and_eq_true, beq_iff_eq]
  unfold hi64 lo64; omega
/-- The document's sign of a product: below 0, and not 0. -/
theorem sign_prod (a b : Int) : ((decide (a < 0) != decide (b < 0)) && !(pSize a b == 0)) = pNeg a b := by
  by_cases h : pSize a b = 0
  · have h1 : a * b = 0 := by
      have := Int.natAbs_mul a b
      unfold pSize at h; omega
    rw [h]
    unfold pNeg; rw [h1]; simp
  · have ha : a ≠ 0 := fun h' => h (by subst h'; simp [pSize])
    have hb : b ≠ 0 := fun h' => h (by subst h'; simp [pSize])
    have hz : (pSize a b == 0) = false := by simpa using h
    rw [hz]
    by_cases h1 : a < 0 <;> by_cases h2 : b < 0
    · rw [pNeg_false (by omega), decide_eq_true h1, decide_eq_true h2]; rfl
    · rw [pNeg_true.2 (by omega), decide_eq_true h1, decide_eq_false h2]; rfl
    · rw [pNeg_true.2 (by omega), decide_eq_false h1, decide_eq_true h2]; rfl
    · rw [pNeg_false (by omega), decide_eq_false h1, decide_eq_false h2]; rfl
theorem below_lt (a b c d : Int) : belowB (pNeg a b) (pSize a b) (pNeg c d) (pSize c d) = decide (a * b < c * d) := by
  rw [prod_eq a b, prod_eq c d]
  cases h1 : pNeg a b <;> cases h2 : pNeg c d
  · show decide (pSize a b < pSize c d) = decide ((pSize a b : Int) < (pSize c d : Int)); congr 1; exact propext ⟨by omega, by omega⟩
  · have := pSize_pos h2
    show false = decide ((pSize a b : Int) < -(pSize c d : Int)); symm; rw [decide_eq_false_iff_not]; omega
  · have := pSize_pos h1
    show true = decide (-(pSize a b : Int) < (pSize c d : Int)); symm; rw [decide_eq_true_iff]; omega
  · show decide (pSize c d < pSize a b) = decide (-(pSize a b : Int) < -(pSize c d : Int)); congr 1; exact propext ⟨by omega, by omega⟩

set_option maxHeartbeats 1000000 in
theorem rcmp_any (a b c d : Int) (w : World) (ha : In64 a) (hb : In64 b) (hc : In64 c) (hd : In64 d) :
    Calls Try.prog 15 #[.int .i64 a, .int .i64 b, .int .i64 c, .int .i64 d] w fun e w' => e = .returned (.int .i64 (cmpV a b c d)) ∧ Below w.heap.size w w' := by
  have HA := Lib.hid ha
  have HB := Lib.hid hb
  have HC := Lib.hid hc
  have HD := Lib.hid hd
  have LA := Lib.hid (abs_le ha)
  have LB := Lib.hid (abs_le hb)
  have LC := Lib.hid (abs_le hc)
  have LD := Lib.hid (abs_le hd)
  have EP : Hid (a.natAbs * b.natAbs = pSize a b) := Lib.hid rfl
  have EP' : Hid (c.natAbs * d.natAbs = pSize c d) := Lib.hid rfl
  clear ha hb hc hd
  go_enter Try.func15, Try.ntmps15
  go_wp2_with fail
  refine (rsize_any a _ HA.out).mono ?_
  rintro e w' ⟨rfl, rfl⟩
  go_wp2_with fail
  refine (rsize_any b _ HB.out).mono ?_
  rintro e w' ⟨rfl, rfl⟩
  go_wp2_with fail
  refine (rtimes_any _ _ _ LA.out LB.out).mono ?_
  rintro e w1 ⟨rfl, hb1⟩
  have HB1 := Lib.hid hb1
  clear hb1
  rw [EP.out]
  go_wp2_with fail
  refine (rsize_any c _ HC.out).mono ?_
  rintro e w' ⟨rfl, rfl⟩
  go_wp2_with fail
  refine (rsize_any d _ HD.out).mono ?_
  rintro e w' ⟨rfl, rfl⟩
  go_wp2_with fail
  refine (rtimes_any _ _ _ LC.out LD.out).mono ?_
  rintro e w2 ⟨rfl, hb2⟩
  have T1 := Lib.hid ((TwoAt.mk w1 (pSize a b) 60).keep hb2 (Nat.le_refl _))
  have HB2 := Lib.hid ((HB1.out.alloc HB1.out.size _).trans (hb2.mono (by have := HB1.out.size; simp; omega)))
  clear hb2
  rw [EP'.out]
  go_upto_region 3 with fail
  have T3 := Lib.hid (T1.out.keep ((Below.refl _ _).alloc (Nat.le_refl _) (.cells #[.int .u64 (hi64 (pSize c d)), .int .u64 (lo64 (pSize c d))] 60)) (Nat.le_refl _))
  have U3 := Lib.hid (TwoAt.mk w2 (pSize c d) 60)
  have HB3 := Lib.hid (HB2.out.alloc HB2.out.size (.cells #[.int .u64 (hi64 (pSize c d)), .int .u64 (lo64 (pSize c d))] 60))
  generalize w2.alloc (.cells #[.int .u64 (hi64 (pSize c d)), .int .u64 (lo64 (pSize c d))] 60) = w3 at *
  generalize w2.heap.size = g2 at *
  generalize w1.heap.size = g1 at *
  obtain ⟨⟨t0, t1⟩, _⟩ := T3.out
  obtain ⟨⟨u0, u1⟩, _⟩ := U3.out
  go_cut [11] (fun s11 wx => s11 = .bool (pNeg a b) ∧ w3 = wx)
  case first =>
    clear u0 u1
    by_cases h1 : a < 0 <;> by_cases h2 : b < 0
    all_goals
      go_wp2
      all_goals
        go_meet
        case rel => exact ⟨val_bool (by rw [← sign_prod, ← halves_zero]; simp [*] <;> omega), rfl⟩
  case rest =>
    obtain ⟨rfl, rfl⟩ := hcut
    go_upto_region 4 with fail
    go_cut [12] (fun s12 wx => s12 = .bool (pNeg c d) ∧ w3 = wx)
    case first =>
      clear t0 t1
      by_cases h1 : c < 0 <;> by_cases h2 : d < 0
      all_goals
        go_wp2
        all_goals
          go_meet
          case rel => exact ⟨val_bool (by rw [← sign_prod, ← halves_zero]; simp [*] <;> omega), rfl⟩
    case rest =>
      obtain ⟨rfl, rfl⟩ := hcut
      go_wp2_with fail
      clear t0 t1 u0 u1
      refine (rbelow_any _ _ _ _ _).mono ?_
      rintro e w4 ⟨rfl, hb4⟩
      have T4 := Lib.hid (T3.out.keep hb4 (Nat.le_refl _))
      have U4 := Lib.hid (U3.out.keep hb4 (Nat.le_refl _))
      have HB4 := Lib.hid (HB3.out.trans (hb4.mono HB3.out.size))
      clear hb4
      rw [below_lt]
      obtain ⟨⟨t0, t1⟩, _⟩ := T4.out
      obtain ⟨⟨u0, u1⟩, _⟩ := U4.out
      by_cases h1 : a * b < c * d
      · have K := Lib.hid h1
        rw [decide_eq_true h1]
        clear h1
        go_wp2
        go_ret
        exact ⟨ret_i64 (by unfold cmpV; rw [if_pos (by have := K.out; omega)]), HB4.out⟩
      · have K := Lib.hid h1
        rw [decide_eq_false h1]
        clear h1
        go_wp2_with fail
        clear t0 t1 u0 u1
        refine (rbelow_any _ _ _ _ _).mono ?_
        rintro e w5 ⟨rfl, hb5⟩
        have HB5 := Lib.hid (HB4.out.trans (hb5.mono HB4.out.size))
        clear hb5
        rw [below_lt]
        by_cases h2 : c * d < a * b
        · have L := Lib.hid h2
          rw [decide_eq_true h2]
          clear h2
          go_wp2
          go_ret
          exact ⟨ret_i64 (by unfold cmpV; rw [if_neg (by have := K.out; omega), if_pos (by have := L.out; omega)]), HB5.out⟩
        · have L := Lib.hid h2
          rw [decide_eq_false h2]
          clear h2
          go_wp2
          go_ret
          exact ⟨ret_i64 (by unfold cmpV; rw [if_neg (by have := K.out; omega), if_neg (by have := L.out; omega)]), HB5.out⟩
end Go.Proofs.Yticcpcejdndplaa
