/- The walk of the law RateOrder: for any two pairs of amounts of 64 bits and any number of 32 bits it returns true, and memory that was there stays. -/
import Derived.Test.YtikjjbimokajfaaDoorRateAlive
import Derived.RegionTactic
import Derived.Deep.RegionHeld3
import Derived.Deep.CutBlock
import Derived.Deep.DeepCutAuto
namespace Go.Proofs.YtikjjbimokajfaaDoor
open Go.RowKit

/-- Both rates lie in blocks of their own, and what was there stays. -/
def OrderAt (w wx : World) (g h : Nat) (a b c d : Int) : Prop := RateAt wx g a b ∧ RateAt wx h c d ∧ Below w.heap.size w wx
theorem OrderAt.keep {w wx w' : World} {g h : Nat} {a b c d : Int} (o : OrderAt w wx g h a b c d) (hb : Below wx.heap.size wx w') : OrderAt w w' g h a b c d :=
  ⟨o.1.keep hb (Nat.le_refl _), o.2.1.keep hb (Nat.le_refl _), o.2.2.trans (hb.mono o.2.2.size)⟩

theorem qSize_small {n b c : Int} (n1 : -2147483648 ≤ n) (n2 : n ≤ 2147483647) (h : rightB b c = true) : qSize n b c ≤ 2147483648000000001 := by
  obtain ⟨⟨b1, b2⟩, ⟨c1, c2⟩, _⟩ := (rightB_iff b c).1 h
  have hp : pSize n b ≤ 2147483648 * 1000000000 := Nat.mul_le_mul (by omega) (by omega)
  have hq : pSize n b / c.natAbs ≤ pSize n b := Nat.div_le_self _ _
  unfold qSize
  split <;> omega
theorem OrderAt.fst {w w1 : World} (hb : Below w.heap.size w w1) (a b c d : Int) (t : TypeId) : OrderAt w ((w1.alloc (.cells #[.int .i64 a, .int .i64 b] t)).alloc (.cells #[.int .i64 c, .int .i64 d] t)).drew w1.heap.size (w1.heap.size + 1) a b c d := by
  refine ⟨(RateAt.mk w1 a b t).keep ((Below.refl _ _).alloc (Nat.le_refl _) _).drew (Nat.le_refl _), ?_, ((hb.alloc hb.size _).alloc (Nat.le_trans hb.size (by simp)) _).drew⟩
  have := (RateAt.mk (w1.alloc (.cells #[.int .i64 a, .int .i64 b] t)) c d t).keep (Below.refl _ _).drew (Nat.le_refl _)
  rw [World.size_alloc] at this
  exact this
theorem OrderAt.snd {w w1 : World} (hb : Below w.heap.size w w1) (a b c d : Int) (t : TypeId) : OrderAt w ((w1.alloc (.cells #[.int .i64 c, .int .i64 d] t)).alloc (.cells #[.int .i64 a, .int .i64 b] t)).drew (w1.heap.size + 1) w1.heap.size a b c d :=
  have h := OrderAt.fst hb c d a b t
  ⟨h.2.1, h.1, h.2.2⟩

set_option maxRecDepth 100000 in
set_option maxHeartbeats 1000000 in
theorem rateOrder_walk (a b c d n : Int) (w : World) (ha : In64 a) (hb : In64 b) (hc : In64 c) (hd : In64 d) (hn : In32 n) (hL : Laid w) :
    Calls Tryd.prog 7 #[.agg #[.int .i64 a, .int .i64 b], .agg #[.int .i64 c, .int .i64 d], .int .i32 n] w fun e w' => e = .returned (.bool true) ∧ Below w.heap.size w w' := by
  have HA := Lib.hid ha
  have HB := Lib.hid hb
  have HC := Lib.hid hc
  have HD := Lib.hid hd
  have HL := Lib.hid hL
  obtain ⟨n1, n2⟩ := hn
  have HN : Hid (In64 n) := Lib.hid ⟨by omega, by omega⟩
  clear ha hb hc hd hL
  go_enter Tryd.func7, Tryd.ntmps7
  go_wp2_with fail
  have B0 := Lib.hid (((Below.refl w.heap.size w).alloc (Nat.le_refl _) (.cells #[.int .i64 a, .int .i64 b] 23)).alloc (by simp) (.cells #[.int .i64 c, .int .i64 d] 23))
  refine (rateAlive_any _ (HL.out.below B0.out)).mono ?_
  rintro e w1 ⟨rfl, hb1⟩
  have HB1 := Lib.hid (B0.out.trans (hb1.mono B0.out.size))
  have T1 := Lib.hid (((RateAt.mk w a b 23).keep ((Below.refl _ _).alloc (Nat.le_refl _) (.cells #[.int .i64 c, .int .i64 d] 23)) (Nat.le_refl _)).keep hb1 (Nat.le_refl _))
  have U1 := Lib.hid ((RateAt.mk (w.alloc (.cells #[.int .i64 a, .int .i64 b] 23)) c d 23).keep hb1 (Nat.le_refl _))
  rw [World.size_alloc] at U1
  clear hb1 B0
  go_upto_region 3 with (fail)
  go_cut [7, 8] (fun s7 s8 wx => ∃ g h : Nat, s7 = .pointer (some ⟨g, 0, none⟩) ∧ s8 = .pointer (some ⟨h, 0, none⟩) ∧ OrderAt w wx g h a b c d)
  case first =>
    obtain ⟨c0, c1⟩ := T1.out
    obtain ⟨d0, d1⟩ := U1.out
    clear T1 U1
    have e0 := World.new_ne w1 _ c0
    have e1 := World.new_ne w1 _ c1
    have e2 := World.new_ne w1 _ d0
    have e3 := World.new_ne w1 _ d1
    go_region_held3 (fun w' => (w'.cell? ⟨w.heap.size, 0, none⟩ = some (.int .i64 a) ∧ w'.cell? ⟨w.heap.size, 1, none⟩ = some (.int .i64 b)) ∧ (w'.cell? ⟨w.heap.size + 1, 0, none⟩ = some (.int .i64 c) ∧ w'.cell? ⟨w.heap.size + 1, 1, none⟩ = some (.int .i64 d))) (go_keep) (fail)
    all_goals
      go_wp2_with fail
      go_meet
      case rel => first | exact ⟨_, _, rfl, rfl, OrderAt.fst HB1.out a b c d 25⟩ | exact ⟨_, _, rfl, rfl, OrderAt.snd HB1.out a b c d 25⟩
  case rest =>
    obtain ⟨g, h, rfl, rfl, ho⟩ := hcut
    rename World => wx
    have O1 := Lib.hid ho
    clear ho T1 U1
    cases hx : rightB a b with
    | false =>
      have HX := Lib.hid hx
      clear hx
      obtain ⟨⟨c0, c1⟩, ⟨d0, d1⟩, _⟩ := O1.out
      go_wp2_with fail
      clear c0 c1 d0 d1
      refine (right_any a b _ HA.out HB.out).mono ?_
      rintro e w2 ⟨rfl, hb2⟩
      have O2 := Lib.hid (O1.out.keep hb2)
      clear hb2
      rw [HX.out]
      go_wp2
      go_ret
      exact ⟨rfl, O2.out.2.2⟩
    | true =>
      cases hy : rightB c d with
      | false =>
        have HX := Lib.hid hx
        have HY := Lib.hid hy
        clear hx hy
        obtain ⟨⟨c0, c1⟩, ⟨d0, d1⟩, _⟩ := O1.out
        go_wp2_with fail
        clear c0 c1 d0 d1
        refine (right_any a b _ HA.out HB.out).mono ?_
        rintro e w2 ⟨rfl, hb2⟩
        have O2 := Lib.hid (O1.out.keep hb2)
        clear hb2 O1
        rw [HX.out]
        obtain ⟨⟨c0, c1⟩, ⟨d0, d1⟩, _⟩ := O2.out
        go_wp2_with fail
        clear c0 c1 d0 d1
        refine (right_any c d _ HC.out HD.out).mono ?_
        rintro e w3 ⟨rfl, hb3⟩
        have O3 := Lib.hid (O2.out.keep hb3)
        clear hb3 O2
        rw [HY.out]
        go_wp2
        go_ret
        exact ⟨rfl, O3.out.2.2⟩
      | true =>
        have HX := Lib.hid hx
        have HY := Lib.hid hy
        clear hx hy
        obtain ⟨C, hC⟩ : ∃ C, cmpV a d c b = C := ⟨_, rfl⟩
        have hC' : cmpV c b a d = -C := by rw [← hC, order_back c b a d]
        have hC0 : cmpV a b a b = 0 := cmpV_zero.2 rfl
        have cb := cmpV_bd a d c b
        rw [hC] at cb
        obtain ⟨cb1, cb2⟩ := cb
        have HCC := Lib.hid (And.intro hC (And.intro hC' hC0))
        have HSM : Hid (C = 0 ↔ a = c ∧ b = d) := Lib.hid (by rw [← hC]; exact cmp_same HX.out HY.out)
        have HOR := Lib.hid (ap_order (n := n) HX.out HY.out)
        rw [hC] at HOR
        have HU := Lib.hid (ap_small (n := n) n1 n2 HX.out)
        have HV := Lib.hid (ap_small (n := n) n1 n2 HY.out)
        clear hC hC' hC0
        obtain ⟨⟨c0, c1⟩, ⟨d0, d1⟩, _⟩ := O1.out
        go_wp2_with fail
        clear c0 c1 d0 d1
        refine (right_any a b _ HA.out HB.out).mono ?_
        rintro e w2 ⟨rfl, hb2⟩
        have O2 := Lib.hid (O1.out.keep hb2)
        clear hb2 O1
        rw [HX.out]
        obtain ⟨⟨c0, c1⟩, ⟨d0, d1⟩, _⟩ := O2.out
        go_wp2_with fail
        clear c0 c1 d0 d1
        refine (right_any c d _ HC.out HD.out).mono ?_
        rintro e w3 ⟨rfl, hb3⟩
        have O3 := Lib.hid (O2.out.keep hb3)
        clear hb3 O2
        rw [HY.out]
        obtain ⟨⟨c0, c1⟩, ⟨d0, d1⟩, _⟩ := O3.out
        go_wp2_with fail
        clear c0 c1 d0 d1
        refine (ratecmp_any a b c d _ HA.out HB.out HC.out HD.out).mono ?_
        rintro e w4 ⟨rfl, hb4⟩
        have O4 := Lib.hid (O3.out.keep hb4)
        clear hb4 O3
        rw [HCC.out.1]
        obtain ⟨⟨c0, c1⟩, ⟨d0, d1⟩, _⟩ := O4.out
        go_wp2_with fail
        clear c0 c1 d0 d1
        refine (ratecmp_any c d a b _ HC.out HD.out HA.out HB.out).mono ?_
        rintro e w5 ⟨rfl, hb5⟩
        have O5 := Lib.hid (O4.out.keep hb5)
        clear hb5 O4
        rw [HCC.out.2.1]
        have key : (C = 0 ∧ a = c ∧ b = d) ∨ (C ≠ 0 ∧ a ≠ c) ∨ (C ≠ 0 ∧ a = c ∧ b ≠ d) := by
          by_cases h0 : C = 0
          · exact .inl ⟨h0, HSM.out.1 h0⟩
          · by_cases h1 : a = c
            · exact .inr (.inr ⟨h0, h1, fun h2 => h0 (HSM.out.2 ⟨h1, h2⟩)⟩)
            · exact .inr (.inl ⟨h0, h1⟩)
        clear HSM
        rcases key with ⟨k0, rfl, rfl⟩ | ⟨k0, k1⟩ | ⟨k0, rfl, k1⟩
        all_goals
          obtain ⟨⟨c0, c1⟩, ⟨d0, d1⟩, _⟩ := O5.out
          go_wp2_with fail
          clear c0 c1 d0 d1
          refine (ratecmp_any a b a b _ HA.out HB.out HA.out HB.out).mono ?_
          rintro e w6 ⟨rfl, hb6⟩
          have O6 := Lib.hid (O5.out.keep hb6)
          clear hb6 O5
          rw [HCC.out.2.2]
          obtain ⟨⟨c0, c1⟩, ⟨d0, d1⟩, _⟩ := O6.out
          go_wp2_with fail
          clear c0 c1 d0 d1
          refine (apply_any a b n _ HA.out HB.out HN.out).mono ?_
          rintro e w7 ⟨rfl, hb7⟩
          have O7 := Lib.hid (O6.out.keep hb7)
          clear hb7 O6
          rw [HU.out.1, HU.out.2.1]
          obtain ⟨⟨c0, c1⟩, ⟨d0, d1⟩, _⟩ := O7.out
          go_wp2_with fail
          clear c0 c1 d0 d1
          refine (apply_any _ _ n _ HC.out HD.out HN.out).mono ?_
          rintro e w8 ⟨rfl, hb8⟩
          have O8 := Lib.hid (O7.out.keep hb8)
          clear hb8 O7
          rw [HV.out.1, HV.out.2.1]
          have u0 := qSize_small n1 n2 HX.out
          have v0 := qSize_small n1 n2 HY.out
          obtain ⟨⟨r1, _⟩, ⟨r2, _⟩, _⟩ := (rightB_iff _ _).1 HX.out
          obtain ⟨⟨r3, _⟩, ⟨r4, _⟩, _⟩ := (rightB_iff _ _).1 HY.out
          obtain ⟨o1, o2, o3⟩ := HOR.out
          have OB := Lib.hid O8.out.2.2
          clear HU HV HX HY HOR HCC O8
          have hsg : n < 0 ∨ 0 ≤ n := by omega
          rcases hsg with hn0 | hn0
          · rw [qQ_minus r1 r2 hn0]
            try rw [qQ_minus r3 r4 hn0]
            clear r1 r2 r3 r4
            rcases Int.lt_trichotomy C 0 with hc | hc | hc
            · have hle := o1 hc
              clear o1 o2 o3
              go_wp2
              all_goals
                go_ret
                exact ⟨ret_true (by simp; try omega), OB.out⟩
            · have hle := o3 hc
              clear o1 o2 o3
              go_wp2
              all_goals
                go_ret
                exact ⟨ret_true (by simp; try omega), OB.out⟩
            · have hle := o2 hc
              clear o1 o2 o3
              go_wp2
              all_goals
                go_ret
                exact ⟨ret_true (by simp; try omega), OB.out⟩
          · rw [qQ_pos r1 r2 hn0]
            try rw [qQ_pos r3 r4 hn0]
            have hd : decide (n < 0) = false := by simpa using hn0
            clear r1 r2 r3 r4
            rcases Int.lt_trichotomy C 0 with hc | hc | hc
            · have hle := o1 hc
              clear o1 o2 o3
              go_wp2
              all_goals
                go_ret
                exact ⟨ret_true (by simp; try omega), OB.out⟩
            · have hle := o3 hc
              clear o1 o2 o3
              go_wp2
              all_goals
                go_ret
                exact ⟨ret_true (by simp; try omega), OB.out⟩
            · have hle := o2 hc
              clear o1 o2 o3
              go_wp2
              all_goals
                go_ret
                exact ⟨ret_true (by simp; try omega), OB.out⟩
end Go.Proofs.YtikjjbimokajfaaDoor
