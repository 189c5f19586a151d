/- The walk of the law RateTells: for any two pairs of amounts of 64 bits and any amount it returns true, and memory that was there stays. -/
import Derived.Test.YtikjjbimokajfaaDoorRateAlive
import Derived.Test.YtikjjbimokajfaaDoorRateRef
import Derived.Deep.RegionHeld3
namespace Go.Proofs.YtikjjbimokajfaaDoor
open Go.RowKit

/-- Both arguments, and both answers, lie in blocks of their own; what was there stays. -/
def TellsAt (w0 w : World) (g1 g2 g3 g4 : Nat) (a b c d x y : Int) : Prop := RateAt w g1 a b ∧ RateAt w g2 c d ∧ RateAt w g3 x y ∧ RateAt w g4 x y ∧ Below w0.heap.size w0 w
theorem TellsAt.keep {w0 w w' : World} {g1 g2 g3 g4 : Nat} {a b c d x y : Int} (h : TellsAt w0 w g1 g2 g3 g4 a b c d x y) (hb : Below w.heap.size w w') : TellsAt w0 w' g1 g2 g3 g4 a b c d x y :=
  ⟨h.1.keep hb (Nat.le_refl _), h.2.1.keep hb (Nat.le_refl _), h.2.2.1.keep hb (Nat.le_refl _), h.2.2.2.1.keep hb (Nat.le_refl _), h.2.2.2.2.trans (hb.mono h.2.2.2.2.size)⟩
theorem TellsAt.drew {w0 w : World} {g1 g2 g3 g4 : Nat} {a b c d x y : Int} (h : TellsAt w0 w g1 g2 g3 g4 a b c d x y) : TellsAt w0 w.drew g1 g2 g3 g4 a b c d x y := h.keep (Below.refl _ _).drew

theorem right_t (a b c d x y : Int) (R : Bool) (w0 w : World) (g1 g2 g3 g4 : Nat) (hr : Hid (rightB a b = R)) (ha : In64 a) (hb : In64 b) (h : TellsAt w0 w g1 g2 g3 g4 a b c d x y) :
    Calls Tryd.prog 15 #[.agg #[.int .i64 a, .int .i64 b]] w fun e w' => e = .returned (.bool R) ∧ TellsAt w0 w' g1 g2 g3 g4 a b c d x y := by
  refine (right_any a b w ha hb).mono ?_
  rintro e w' ⟨rfl, hb⟩
  rw [hr.out]
  exact ⟨rfl, h.keep hb⟩
theorem qright_t (a b c d x y : Int) (R : Bool) (w0 w : World) (g1 g2 g3 g4 : Nat) (hr : Hid (rightB a b = R)) (ha : In64 a) (hb : In64 b) (h : TellsAt w0 w g1 g2 g3 g4 a b c d x y) :
    Calls Tryd.prog 16 #[.agg #[.int .i64 a, .int .i64 b]] w fun e w' => e = .returned (.bool R) ∧ TellsAt w0 w' g1 g2 g3 g4 a b c d x y := by
  refine (qright_any a b w ha hb).mono ?_
  rintro e w' ⟨rfl, hb⟩
  rw [hr.out]
  exact ⟨rfl, h.keep hb⟩
theorem cmp_t (a b c d x y C : Int) (w0 w : World) (g1 g2 g3 g4 : Nat) (hr : Hid (cmpV a d c b = C)) (ha : In64 a) (hb : In64 b) (hc : In64 c) (hd : In64 d) (h : TellsAt w0 w g1 g2 g3 g4 a b c d x y) :
    Calls Tryd.prog 17 #[.agg #[.int .i64 a, .int .i64 b], .agg #[.int .i64 c, .int .i64 d]] w fun e w' => e = .returned (.int .i64 C) ∧ TellsAt w0 w' g1 g2 g3 g4 a b c d x y := by
  refine (ratecmp_any a b c d w ha hb hc hd).mono ?_
  rintro e w' ⟨rfl, hb⟩
  rw [hr.out]
  exact ⟨rfl, h.keep hb⟩
theorem qcmp_t (a b c d x y C : Int) (w0 w : World) (g1 g2 g3 g4 : Nat) (hr : Hid (cmpV a d c b = C)) (ha : In64 a) (hb : In64 b) (hc : In64 c) (hd : In64 d) (h : TellsAt w0 w g1 g2 g3 g4 a b c d x y) :
    Calls Tryd.prog 18 #[.agg #[.int .i64 a, .int .i64 b], .agg #[.int .i64 c, .int .i64 d]] w fun e w' => e = .returned (.int .i64 C) ∧ TellsAt w0 w' g1 g2 g3 g4 a b c d x y := by
  refine (qratecmp_any a b c d w ha hb hc hd).mono ?_
  rintro e w' ⟨rfl, hb⟩
  rw [hr.out]
  exact ⟨rfl, h.keep hb⟩

set_option maxRecDepth 100000 in
set_option maxHeartbeats 2000000 in
theorem rateTells_walk (a b c d n : Int) (w : World) (ha : In64 a) (hb : In64 b) (hc : In64 c) (hd : In64 d) (hn : In64 n) (hL : Laid w) :
    Calls Tryd.prog 3 #[.agg #[.int .i64 a, .int .i64 b], .agg #[.int .i64 c, .int .i64 d], .int .i64 n] w fun e w' => e = .returned (.bool true) ∧ Below w.heap.size w w' := by
  have HA := Lib.hid ha
  have HB := Lib.hid hb
  have HC := Lib.hid hc
  have HD := Lib.hid hd
  have HN := Lib.hid hn
  have HL := Lib.hid hL
  clear ha hb hc hd hn hL
  obtain ⟨x, hx⟩ : ∃ x, mkN a b = x := ⟨_, rfl⟩
  obtain ⟨y, hy⟩ : ∃ y, mkD a b = y := ⟨_, rfl⟩
  obtain ⟨z, hz⟩ : ∃ z, mkE a b = z := ⟨_, rfl⟩
  obtain ⟨u, hu⟩ : ∃ u, apV a b n = u := ⟨_, rfl⟩
  obtain ⟨v, hv⟩ : ∃ v, apE a b n = v := ⟨_, rfl⟩
  obtain ⟨R, hR⟩ : ∃ R, rightB a b = R := ⟨_, rfl⟩
  obtain ⟨C, hC⟩ : ∃ C, cmpV a d c b = C := ⟨_, rfl⟩
  have HM := Lib.hid (And.intro hx (And.intro hy hz))
  have HP := Lib.hid (And.intro hu hv)
  have HR := Lib.hid hR
  have HCC := Lib.hid hC
  clear hx hy hz hu hv hR hC
  go_enter Tryd.func3, Tryd.ntmps3
  go_wp2_with fail
  have B0 := Lib.hid (((Below.refl w.heap.size w).alloc (Nat.le_refl _) (.cells #[.int .i64 a, .int .i64 b] 23)).alloc (by simp) (.cells #[.int .i64 c, .int .i64 d] 23))
  refine (rateAlive_any _ (HL.out.below B0.out)).mono ?_
  rintro e w1 ⟨rfl, hb1⟩
  have HB1 := Lib.hid (B0.out.trans (hb1.mono B0.out.size))
  have T1 := Lib.hid (((RateAt.mk w a b 23).keep ((Below.refl _ _).alloc (Nat.le_refl _) (.cells #[.int .i64 c, .int .i64 d] 23)) (Nat.le_refl _)).keep hb1 (Nat.le_refl _))
  have U1 := Lib.hid ((RateAt.mk (w.alloc (.cells #[.int .i64 a, .int .i64 b] 23)) c d 23).keep hb1 (Nat.le_refl _))
  rw [World.size_alloc] at U1
  clear hb1 B0
  obtain ⟨c0, c1⟩ := T1.out
  go_wp2_with fail
  clear c0 c1
  refine (make_any a b _ HA.out HB.out).mono ?_
  rintro e w2 ⟨rfl, hb2⟩
  rw [HM.out.1, HM.out.2.1, HM.out.2.2]
  have A2 := (Below.refl w2.heap.size w2).alloc (Nat.le_refl _) (.cells #[.int .i64 x, .int .i64 y] 25)
  have T2 := Lib.hid ((T1.out.keep hb2 (Nat.le_refl _)).keep A2 (Nat.le_refl _))
  have U2 := Lib.hid ((U1.out.keep hb2 (Nat.le_refl _)).keep A2 (Nat.le_refl _))
  have X2 := Lib.hid (RateAt.mk w2 x y 25)
  have HB2 := Lib.hid ((HB1.out.trans (hb2.mono HB1.out.size)).trans (A2.mono (Nat.le_trans HB1.out.size hb2.size)))
  clear hb2 A2 T1 U1 HB1
  obtain ⟨c0, c1⟩ := T2.out
  go_wp2_with fail
  clear c0 c1
  generalize w2.alloc (.cells #[.int .i64 x, .int .i64 y] 25) = W2 at *
  generalize w2.heap.size = g3 at *
  refine (qmake_any a b _ HA.out HB.out).mono ?_
  rintro e w3 ⟨rfl, hb3⟩
  rw [HM.out.1, HM.out.2.1, HM.out.2.2]
  have A3 := (Below.refl w3.heap.size w3).alloc (Nat.le_refl _) (.cells #[.int .i64 x, .int .i64 y] 23)
  have K3 := Lib.hid (show TellsAt w _ _ _ _ _ a b c d x y from ⟨(T2.out.keep hb3 (Nat.le_refl _)).keep A3 (Nat.le_refl _), (U2.out.keep hb3 (Nat.le_refl _)).keep A3 (Nat.le_refl _), (X2.out.keep hb3 (Nat.le_refl _)).keep A3 (Nat.le_refl _), RateAt.mk w3 x y 23, (HB2.out.trans (hb3.mono HB2.out.size)).trans (A3.mono (Nat.le_trans HB2.out.size hb3.size))⟩)
  clear hb3 A3 T2 U2 X2 HB2
  obtain ⟨⟨c0, c1⟩, _⟩ := K3.out
  go_wp2_with fail
  clear c0 c1
  generalize w3.alloc (.cells #[.int .i64 x, .int .i64 y] 23) = W3 at *
  generalize w3.heap.size = g4 at *
  refine (apply_any a b n _ HA.out HB.out HN.out).mono ?_
  rintro e w4 ⟨rfl, hb4⟩
  rw [HP.out.1, HP.out.2]
  have K4 := Lib.hid (K3.out.keep hb4)
  clear hb4 K3
  obtain ⟨⟨c0, c1⟩, _⟩ := K4.out
  go_wp2_with fail
  clear c0 c1
  refine (qapply_any a b n _ HA.out HB.out HN.out).mono ?_
  rintro e w5 ⟨rfl, hb5⟩
  rw [HP.out.1, HP.out.2]
  have K5 := K4.out.keep hb5
  clear hb5 K4
  go_wp2_with fail
  obtain ⟨⟨c0, c1⟩, ⟨c2, c3⟩, ⟨c4, c5⟩, ⟨c6, c7⟩, _⟩ := id K5
  go_region_held3 (fun w' => (w'.cell? ⟨w.heap.size, 0, none⟩ = some (.int .i64 a) ∧ w'.cell? ⟨w.heap.size, 1, none⟩ = some (.int .i64 b)) ∧ (w'.cell? ⟨w.heap.size + 1, 0, none⟩ = some (.int .i64 c) ∧ w'.cell? ⟨w.heap.size + 1, 1, none⟩ = some (.int .i64 d)) ∧ (w'.cell? ⟨g3, 0, none⟩ = some (.int .i64 x) ∧ w'.cell? ⟨g3, 1, none⟩ = some (.int .i64 y)) ∧ (w'.cell? ⟨g4, 0, none⟩ = some (.int .i64 x) ∧ w'.cell? ⟨g4, 1, none⟩ = some (.int .i64 y)) ∧ Below w.heap.size w w')
    (first | exact L4 | exact L3 | exact L2 | exact L1 | exact K5.drew | exact K5 | fail)
    (first
      | (go_at_call 15; refine (right_t a b c d x y R w _ _ _ g3 g4 HR HA.out HB.out (by exact K5.drew)).mono ?_; rintro e w6 ⟨rfl, L1⟩)
      | (go_at_call 16; refine (qright_t a b c d x y R w _ _ _ g3 g4 HR HA.out HB.out (by exact L1)).mono ?_; rintro e w7 ⟨rfl, L2⟩)
      | (go_at_call 17; refine (cmp_t a b c d x y C w _ _ _ g3 g4 HCC HA.out HB.out HC.out HD.out (by exact L2)).mono ?_; rintro e w8 ⟨rfl, L3⟩)
      | (go_at_call 18; refine (qcmp_t a b c d x y C w _ _ _ g3 g4 HCC HA.out HB.out HC.out HD.out (by exact L3)).mono ?_; rintro e w9 ⟨rfl, L4⟩)
      | fail)
  all_goals
    go_wp2
    go_ret
    exact ⟨ret_true (by simp), L4.2.2.2.2⟩
end Go.Proofs.YtikjjbimokajfaaDoor
