/- The walks of rate.Make, rate.Apply, rate.Cmp: each hands back what the plain facts say; memory that was there stays. -/
import Derived.Test.YtikjjbimokajfaaDoorRate
namespace Go.Proofs.YtikjjbimokajfaaDoor
open Go.RowKit

set_option maxHeartbeats 400000 in
theorem make_arg (n d : Int) (w : World) (h : n < 1 ∨ d < 1) :
    Calls Tryd.prog 11 #[.int .i64 n, .int .i64 d] w fun e w' => e = .returned (.tuple #[.agg #[.int .i64 0, .int .i64 0], .int .i64 1]) ∧ Below w.heap.size w w' := by
  by_cases h1 : n < 1
  · have hd : decide (n < 1) = true := by simpa using h1
    go_enter Tryd.func11, Tryd.ntmps11
    go_wp2
    exact bodyPost_ret (v := .tuple #[.agg #[.int .i64 0, .int .i64 0], .int .i64 1]) (by simp [results, Tryd.results11, go_sem]) rfl ⟨rfl, (Below.refl _ _).alloc (Nat.le_refl _) _⟩
  · have hd : decide (n < 1) = false := by simpa using h1
    have h2 : d < 1 := by omega
    clear h
    go_enter Tryd.func11, Tryd.ntmps11
    go_wp2
    exact bodyPost_ret (v := .tuple #[.agg #[.int .i64 0, .int .i64 0], .int .i64 1]) (by simp [results, Tryd.results11, go_sem]) rfl ⟨rfl, (Below.refl _ _).alloc (Nat.le_refl _) _⟩

set_option maxHeartbeats 1000000 in
theorem make_quot (n d : Int) (w : World) (hn : In64 n) (hd : In64 d) (h : ¬ (n < 1 ∨ d < 1)) :
    Calls Tryd.prog 11 #[.int .i64 n, .int .i64 d] w fun e w' => e = .returned (.tuple #[.agg #[.int .i64 (mkN n d), .int .i64 (mkD n d)], .int .i64 (mkE n d)]) ∧ Below w.heap.size w w' := by
  have h1 : 1 ≤ n := by omega
  have h2 : 1 ≤ d := by omega
  have g1 := gcdI_pos (d := d) h1
  have g2 := gcdI_le (d := d) h1
  obtain ⟨_, hn2⟩ := hn
  obtain ⟨_, hd2⟩ := hd
  have q1 : 0 ≤ n / gcdI n d ∧ n / gcdI n d ≤ n := ⟨Int.ediv_nonneg (by omega) (by omega), Int.ediv_le_self _ (by omega)⟩
  have q2 : 0 ≤ d / gcdI n d ∧ d / gcdI n d ≤ d := ⟨Int.ediv_nonneg (by omega) (by omega), Int.ediv_le_self _ (by omega)⟩
  have HN := Lib.hid (show In64 n from ⟨by omega, hn2⟩)
  have HD := Lib.hid (show In64 d from ⟨by omega, hd2⟩)
  have HE : Hid (((Nat.gcd n.natAbs d.natAbs : Nat) : Int) = gcdI n d) := Lib.hid rfl
  have h0 : gcdI n d ≠ 0 := by omega
  have d1 : decide (n < 1) = false := by simp; omega
  have d2 : decide (d < 1) = false := by simp; omega
  obtain ⟨x, hx⟩ : ∃ x, n / gcdI n d = x := ⟨_, rfl⟩
  obtain ⟨y, hy⟩ : ∃ y, d / gcdI n d = y := ⟨_, rfl⟩
  have HX := Lib.hid hx
  have HY := Lib.hid hy
  rw [hx] at q1
  rw [hy] at q2
  clear hx hy
  obtain ⟨x1, x2⟩ := q1
  obtain ⟨y1, y2⟩ := q2
  have HK : Hid ((if 1000000000 < x ∨ 1000000000 < y then (4 : Int) else 0) = mkE n d) := Lib.hid (by unfold mkE; rw [if_neg h, HX.out, HY.out])
  have HNN : Hid (mkN n d = if mkE n d = 0 then x else 0) := Lib.hid (by unfold mkN; rw [HX.out])
  have HDD : Hid (mkD n d = if mkE n d = 0 then y else 0) := Lib.hid (by unfold mkD; rw [HY.out])
  generalize mkE n d = E at *
  generalize mkN n d = N at *
  generalize mkD n d = D at *
  generalize hg : gcdI n d = g at *
  clear hg
  go_enter Tryd.func11, Tryd.ntmps11
  go_wp2_with fail
  refine (gcd_any n d _ HN.out HD.out).mono ?_
  rintro e w1 ⟨rfl, hb1⟩
  have V0 := (RateVar.mk w 0 0 25).keep hb1 (Nat.le_refl _)
  have V1 := V0.keep ((Below.refl w1.heap.size w1).alloc (Nat.le_refl _) (.cells #[.int .i64 x, .int .i64 y] 25)) (Nat.le_refl _)
  obtain ⟨⟨c0, c1⟩, f0, f1⟩ := V1
  clear V0
  have HB1 := Lib.hid (((Below.refl w.heap.size w).alloc (Nat.le_refl _) _).trans (hb1.mono (by simp)))
  clear hb1
  rw [HE.out]
  go_wp2
  have hx := HX.out
  have hy := HY.out
  have hx' : n.tdiv g = x := by rw [Int.tdiv_eq_ediv_of_nonneg (by omega)]; exact hx
  have hy' : d.tdiv g = y := by rw [Int.tdiv_eq_ediv_of_nonneg (by omega)]; exact hy
  have wx := IntWalk.i64_in x ⟨by omega, by omega⟩
  have wy := IntWalk.i64_in y ⟨by omega, by omega⟩
  go_region
  clear hx hy hx' hy' wx wy
  by_cases k1 : 1000000000 < x
  · have e1 : E = 4 := by rw [← HK.out, if_pos (.inl k1)]
    have e2 : N = 0 := by rw [HNN.out, if_neg (by rw [e1]; decide)]
    have e3 : D = 0 := by rw [HDD.out, if_neg (by rw [e1]; decide)]
    subst e1 e2 e3
    go_wp2
    exact bodyPost_ret (v := .tuple #[.agg #[.int .i64 0, .int .i64 0], .int .i64 4]) (by simp [results, Tryd.results11, go_sem, c0, c1]) rfl ⟨rfl, (((HB1.out.alloc HB1.out.size _).setCell (Nat.le_refl _) _).setCell (Nat.le_refl _) _).drew⟩
  · by_cases k2 : 1000000000 < y
    · have e1 : E = 4 := by rw [← HK.out, if_pos (.inr k2)]
      have e2 : N = 0 := by rw [HNN.out, if_neg (by rw [e1]; decide)]
      have e3 : D = 0 := by rw [HDD.out, if_neg (by rw [e1]; decide)]
      subst e1 e2 e3
      go_wp2
      exact bodyPost_ret (v := .tuple #[.agg #[.int .i64 0, .int .i64 0], .int .i64 4]) (by simp [results, Tryd.results11, go_sem, c0, c1]) rfl ⟨rfl, (((HB1.out.alloc HB1.out.size _).setCell (Nat.le_refl _) _).setCell (Nat.le_refl _) _).drew⟩
    · have e1 : E = 0 := by rw [← HK.out, if_neg (by omega)]
      have e2 : N = x := by rw [HNN.out, if_pos e1]
      have e3 : D = y := by rw [HDD.out, if_pos e1]
      subst e1 e2 e3
      go_wp2
      exact bodyPost_ret (v := .tuple #[.agg #[.int .i64 N, .int .i64 D], .int .i64 0]) (by simp [results, Tryd.results11, go_sem, c0, c1]) rfl ⟨rfl, (((HB1.out.alloc HB1.out.size _).setCell (Nat.le_refl _) _).setCell (Nat.le_refl _) _).drew⟩

theorem make_any (n d : Int) (w : World) (hn : In64 n) (hd : In64 d) :
    Calls Tryd.prog 11 #[.int .i64 n, .int .i64 d] w fun e w' => e = .returned (.tuple #[.agg #[.int .i64 (mkN n d), .int .i64 (mkD n d)], .int .i64 (mkE n d)]) ∧ Below w.heap.size w w' := by
  by_cases h : n < 1 ∨ d < 1
  · have e1 := mkE_arg h
    obtain ⟨e2, e3⟩ := mk_none (n := n) (d := d) (by rw [e1]; decide)
    rw [e1, e2, e3]
    exact make_arg n d w h
  · exact make_quot n d w hn hd h

set_option maxHeartbeats 400000 in
theorem apply_any (n d a : Int) (w : World) (hn : In64 n) (hd : In64 d) (ha : In64 a) :
    Calls Tryd.prog 13 #[.agg #[.int .i64 n, .int .i64 d], .int .i64 a] w fun e w' => e = .returned (.tuple #[.int .i64 (apV n d a), .int .i64 (apE n d a)]) ∧ Below w.heap.size w w' := by
  have HN := Lib.hid hn
  have HD := Lib.hid hd
  have HA := Lib.hid ha
  clear hn hd ha
  cases h : rightB n d with
  | false =>
    rw [show apV n d a = 0 by unfold apV; rw [h]; rfl, show apE n d a = 1 by unfold apE; rw [h]; rfl]
    have H := Lib.hid h
    clear h
    go_enter Tryd.func13, Tryd.ntmps13
    go_wp2_with fail
    refine (right_any n d _ HN.out HD.out).mono ?_
    rintro e w1 ⟨rfl, hb1⟩
    have HB1 := Lib.hid (((Below.refl w.heap.size w).alloc (Nat.le_refl _) _).trans (hb1.mono (by simp)))
    clear hb1
    rw [H.out]
    go_wp2
    go_ret2
    exact ⟨rfl, HB1.out⟩
  | true =>
    rw [show apV n d a = mdV a n d by unfold apV; rw [h]; rfl, show apE n d a = mdE a n d by unfold apE; rw [h]; rfl]
    have H := Lib.hid h
    clear h
    go_enter Tryd.func13, Tryd.ntmps13
    go_wp2_with fail
    refine (right_any n d _ HN.out HD.out).mono ?_
    rintro e w1 ⟨rfl, hb1⟩
    have HB1 := Lib.hid (((Below.refl w.heap.size w).alloc (Nat.le_refl _) _).trans (hb1.mono (by simp)))
    obtain ⟨c0, c1⟩ := (RateAt.mk w n d 25).keep hb1 (Nat.le_refl _)
    clear hb1
    rw [H.out]
    go_wp2_with fail
    clear c0 c1
    refine (mulDiv_any a n d _ HA.out HN.out HD.out).mono ?_
    rintro e w2 ⟨rfl, hb2⟩
    have HB2 := Lib.hid (HB1.out.trans (hb2.mono HB1.out.size))
    clear hb2
    go_wp2
    go_ret2
    exact ⟨rfl, HB2.out⟩

set_option maxHeartbeats 400000 in
theorem ratecmp_any (a b c d : Int) (w : World) (ha : In64 a) (hb : In64 b) (hc : In64 c) (hd : In64 d) :
    Calls Tryd.prog 17 #[.agg #[.int .i64 a, .int .i64 b], .agg #[.int .i64 c, .int .i64 d]] w fun e w' => e = .returned (.int .i64 (cmpV a d c b)) ∧ Below w.heap.size w w' := by
  have HA := Lib.hid ha
  have HB := Lib.hid hb
  have HC := Lib.hid hc
  have HD := Lib.hid hd
  clear ha hb hc hd
  go_enter Tryd.func17, Tryd.ntmps17
  go_wp2_with fail
  refine (cmp_any a d c b _ HA.out HD.out HC.out HB.out).mono ?_
  rintro e w1 ⟨rfl, hb1⟩
  have HB1 := Lib.hid ((((Below.refl w.heap.size w).alloc (Nat.le_refl _) _).alloc (by simp) _).trans (hb1.mono (by simp; omega)))
  clear hb1
  go_wp2
  go_ret
  exact ⟨rfl, HB1.out⟩

end Go.Proofs.YtikjjbimokajfaaDoor
