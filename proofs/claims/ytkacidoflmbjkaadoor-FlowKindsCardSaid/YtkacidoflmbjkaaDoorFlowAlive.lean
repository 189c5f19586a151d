
/- The walk of the statements' own check 'alive': it returns true. -/
import Derived.Test.YtkacidoflmbjkaaDoorFlowParse
import Derived.Test.YtkacidoflmbjkaaDoorFlowAdd
import Derived.Test.YtkacidoflmbjkaaDoorFlowOurs
import Derived.Deep.RegionHeld3
namespace Go.Proofs.YtkacidoflmbjkaaDoor.Fl
open Go.RowKit

def f00 : Flow := ⟨⟨#[70, 48, 48]⟩, 0⟩
def f20 : Flow := ⟨⟨#[70, 50, 48]⟩, 1⟩
def fX : Flow := ⟨⟨#[120]⟩, 0⟩
theorem right_f00 : rightF f00 = true := by decide
theorem right_f20 : rightF f20 = true := by decide
theorem right_fX : rightF fX = true := by decide
theorem words_f00 : wordsF f00 = [tFlow, ⟨#[70, 48, 48]⟩, tOpen] := by rw [words_of right_f00]; rfl
theorem parse_f00 : parseF [tFlow, ⟨#[70, 48, 48]⟩, tOpen] = (f00, 0) := by rw [← words_f00]; exact parse_words right_f00
theorem lt_no : ltS f20.code f00.code = false := by unfold ltS f20 f00; rw [ByteArray.toList_eq, ByteArray.toList_eq]; decide
theorem lt_yes : ltS f00.code f20.code = true := by unfold ltS f20 f00; rw [ByteArray.toList_eq, ByteArray.toList_eq]; decide
theorem lt_x0 : ltS f00.code fX.code = true := by unfold ltS fX f00; rw [ByteArray.toList_eq, ByteArray.toList_eq]; decide
theorem lt_x2 : ltS f20.code fX.code = true := by unfold ltS fX f20; rw [ByteArray.toList_eq, ByteArray.toList_eq]; decide
theorem ne_20 : f20.code ≠ f00.code := by decide
theorem place1 : placeK Flow.code [f20] f00.code = 0 := by simp [placeK, lt_no]
theorem place2 : placeK Flow.code [f00, f20] fX.code = 2 := by simp [placeK, lt_x0, lt_x2]
theorem place3 : placeK Flow.code [f00, f20] f20.code = 1 := by simp [placeK, lt_yes, ltS_irr]
theorem is1 : isK Flow.code [f20] f00.code = false := by unfold isK; rw [place1]; simp [ne_20]
theorem is2 : isK Flow.code [f00, f20] fX.code = false := by unfold isK; rw [place2]; rfl
theorem is3 : isK Flow.code [f00, f20] f20.code = true := by unfold isK; rw [place3]; simp
theorem has1 : hasF [f20] 0 = false := by decide
theorem has2 : hasF [f00, f20] 0 = true := by decide
theorem add1E : addE [] f20 = 0 := by unfold addE; rw [right_f20]; rfl
theorem add1V : addV [] f20 = [f20] := by unfold addV; rw [add1E]; rfl
theorem add2E : addE [f20] f00 = 0 := by
  have hk : f00.kind = 0 := rfl
  unfold addE; rw [right_f00, is1, hk, has1]; rfl
theorem add2V : addV [f20] f00 = [f00, f20] := by unfold addV; rw [add2E, if_pos rfl]; unfold insK; rw [place1]; rfl
theorem add3E : addE [f00, f20] fX = 7 := by
  have hk : fX.kind = 0 := rfl
  unfold addE; rw [right_fX, is2, hk, has2]; rfl
theorem kind3 : kindL [f00, f20] f20.code = 1 := by unfold kindL; rw [is3, place3]; rfl
theorem rise1 : riseK Flow.code [f20] = true := rfl
theorem rise2 : riseK Flow.code [f00, f20] = true := by simp [riseK, lt_yes]
theorem whole2 : wholeF [f00, f20] = false := by decide
theorem of2 : ofF [f00, f20] 1 = [⟨#[70, 50, 48]⟩] := by decide
/-- What alive's last statement reads. -/
structure AliveAt (w W : World) (g b o : Nat) (F : Flow) (v : Value) : Prop where
  b1 : BoxE encF W g 28 F
  at2 : ElAt encF W b o F
  ls : FlowsV W v [f00, f20]
  laid : Laid W
  bel : Below w.heap.size w W
theorem AliveAt.keep {w W W' : World} {g b o : Nat} {F : Flow} {v : Value} (h : AliveAt w W g b o F v) (hb : Below W.heap.size W W') : AliveAt w W' g b o F v :=
  ⟨h.b1.kept hb, h.at2.keep hb h.at2.lt, h.ls.keep hb, h.laid.below hb (Nat.le_refl _), h.bel.trans (hb.mono h.bel.size)⟩
theorem AliveAt.drew {w W : World} {g b o : Nat} {F : Flow} {v : Value} (h : AliveAt w W g b o F v) : AliveAt w W.drew g b o F v := h.keep ⟨rfl, rfl, rfl, Nat.le_refl _, fun _ _ => rfl⟩
theorem AliveAt.four {w W : World} {g b o : Nat} {F : Flow} {v : Value} (h : AliveAt w W g b o F v) : (W.cell? ⟨g, 0, none⟩ = some (.string F.code) ∧ W.cell? ⟨g, 1, none⟩ = some (.int .i64 F.kind)) ∧ (W.cell? ⟨b, o, none⟩ = some (.string F.code) ∧ W.cell? ⟨b, o + 1, none⟩ = some (.int .i64 F.kind)) := ⟨box h.b1, two h.at2⟩
set_option maxRecDepth 100000 in
set_option maxHeartbeats 8000000 in
theorem alive_any (w : World) (hL : Laid w) : Calls Tryd.prog 7 #[] w fun e w' => e = .returned (.bool true) ∧ Below w.heap.size w w' := by
  have HB0 := Lib.hid ((Below.refl w.heap.size w).alloc (Nat.le_refl _) (.cells #[.string tFlow, .string ⟨#[70, 48, 48]⟩, .string tOpen] 9))
  have HS0 := Lib.hid (strs_three w tFlow ⟨#[70, 48, 48]⟩ tOpen 9)
  have HL0 := Lib.hid (hL.below HB0.out (Nat.le_refl _))
  have HP := Lib.hid (parse_any _ _ _ HS0.out HL0.out)
  rw [parse_f00] at HP
  clear hL HS0
  go_enter Tryd.func7, Tryd.ntmps7
  go_wp2_with fail
  refine HP.out.mono ?_
  rintro e w1 ⟨rfl, hb1⟩
  have hb1a := hb1.alloc hb1.size (.cells (cellsF f00) 28)
  have HB1 := Lib.hid (HB0.out.trans (hb1a.mono HB0.out.size))
  have HL1 := Lib.hid (HL0.out.below hb1a (Nat.le_refl _))
  have HX1 := Lib.hid (BoxE.new encF w1 f00 28)
  clear hb1 hb1a HB0 HL0 HP
  have HA1 := Lib.hid (add_any (.slice none 0 0) [] f20 (w1.alloc (.cells (cellsF f00) 28)) (ElsV.nil _) rfl (by simp))
  rw [add1E, add1V] at HA1
  go_wp2_with fail
  refine HA1.out.mono ?_
  rintro e w2 ⟨v2, rfl, hc2, hb2⟩
  have HB2 := Lib.hid (HB1.out.trans (hb2.mono HB1.out.size))
  have HL2 := Lib.hid (HL1.out.below hb2 (Nat.le_refl _))
  have HX2 := Lib.hid (HX1.out.kept hb2)
  have HC2 := Lib.hid hc2
  clear hc2 hb2 HB1 HL1 HX1 HA1
  have HA2 := Lib.hid (add_any v2 [f20] f00 w2 HC2.out rise1 (by simp))
  rw [add2E, add2V] at HA2
  obtain ⟨c0, c1⟩ := box HX2.out
  go_wp2_with fail
  clear c0 c1
  refine HA2.out.mono ?_
  rintro e w3 ⟨v3, rfl, hc3, hb3⟩
  have HB3 := Lib.hid (HB2.out.trans (hb3.mono HB2.out.size))
  have HL3 := Lib.hid (HL2.out.below hb3 (Nat.le_refl _))
  have HX3 := Lib.hid (HX2.out.kept hb3)
  have HC3 := Lib.hid hc3
  clear hc3 hb3 HB2 HL2 HX2 HA2 HC2
  have HA3 := Lib.hid (add_any v3 [f00, f20] fX w3 HC3.out rise2 (by simp))
  rw [add3E] at HA3
  go_wp2_with fail
  refine HA3.out.mono ?_
  rintro e w4 ⟨v4, rfl, _, hb4⟩
  have HB4 := Lib.hid (HB3.out.trans (hb4.mono HB3.out.size))
  have HL4 := Lib.hid (HL3.out.below hb4 (Nat.le_refl _))
  have HX4 := Lib.hid (HX3.out.kept hb4)
  have HC4 := Lib.hid (HC3.out.keep hb4)
  clear hb4 HB3 HL3 HX3 HA3 HC3
  have HK := Lib.hid (kind_any v3 [f00, f20] f20.code w4 HC4.out rise2 (by simp))
  rw [kind3, is3] at HK
  go_wp2_with fail
  refine HK.out.mono ?_
  rintro e w5 ⟨rfl, hb5⟩
  have HC5 := Lib.hid (HC4.out.keep hb5)
  have HAL0 : Hid (∃ p c b o, v3 = .slice p 2 c ∧ p = some ⟨b, o, none⟩ ∧ c ≤ maxLen ∧ 2 ≤ c ∧ ElAt encF w5 b o f00) := Lib.hid (by
    obtain ⟨p, c, e, h2, hm, _, hc⟩ := HC5.out
    obtain ⟨b, o, e', h⟩ := hc 0 f00 rfl
    exact ⟨p, c, b, o, e, e', hm, h2, by simpa using h⟩)
  obtain ⟨_, c, b, o, rfl, rfl, hm, h2, hat⟩ := HAL0.out
  have HAL : Hid (AliveAt w w5 w1.heap.size b o f00 (.slice (some ⟨b, o, none⟩) 2 c)) := Lib.hid ⟨HX4.out.kept hb5, hat, HC5.out, HL4.out.below hb5 (Nat.le_refl _), HB4.out.trans (hb5.mono HB4.out.size)⟩
  clear hb5 hat HAL0 HK HX4 HL4 HB4 HC4 HC5
  unfold maxLen at hm
  obtain ⟨F, hF⟩ : ∃ F, f00 = F := ⟨_, rfl⟩
  have hgd := guard_flow
  have q1 : ∀ w', Sem.run Tryd.prog (binOp .eql 28 (.agg #[.string F.code, .int .i64 F.kind]) (.agg #[.string ⟨#[70, 48, 48]⟩, .int .i64 0])) w' = .ok (.bool true) w' := fun w' => by
    have := eql_flow f00 f00 w'
    rw [show eqF f00 f00 = true from (eqF_iff _ _).2 rfl] at this
    rw [← hF]; exact this
  have q2 : ∀ w', Sem.run Tryd.prog (binOp .eql 28 (.agg #[.string F.code, .int .i64 F.kind]) (.agg #[.string F.code, .int .i64 F.kind])) w' = .ok (.bool true) w' := fun w' => by
    have := eql_flow F F w'
    rwa [show eqF F F = true from (eqF_iff _ _).2 rfl] at this
  have HRT : Hid (∀ W, Calls Tryd.prog 11 #[aggL F] W fun e w' => e = .returned (.bool true) ∧ Below W.heap.size W w') := Lib.hid (fun W => by
    have := right_any f00 W
    rw [right_f00] at this
    rw [← hF]; exact this)
  have HWT : Hid (∀ W, Laid W → Calls Tryd.prog 14 #[aggL F] W (StrsTold W [tFlow, ⟨#[70, 48, 48]⟩, tOpen])) := Lib.hid (fun W hW => by
    have := words_any f00 W hW
    rw [words_f00] at this
    rw [← hF]; exact this)
  have HWH : Hid (∀ W, FlowsV W (.slice (some ⟨b, o, none⟩) 2 c) [f00, f20] → Calls Tryd.prog 23 #[.slice (some ⟨b, o, none⟩) 2 c] W fun e w' => e = .returned (.bool false) ∧ Below W.heap.size W w') := Lib.hid (fun W hW => by
    have := whole_any _ _ W hW (by simp)
    rwa [whole2] at this)
  have HOF : Hid (∀ W, FlowsV W (.slice (some ⟨b, o, none⟩) 2 c) [f00, f20] → Calls Tryd.prog 19 #[.slice (some ⟨b, o, none⟩) 2 c, .int .i64 1] W (StrsTold W [⟨#[70, 50, 48]⟩])) := Lib.hid (fun W hW => by
    have := of_any _ _ 1 W hW (by simp)
    rwa [of2] at this)
  rw [hF] at HAL
  clear hF
  go_wp2_with fail
  have k0 := HAL.out.four
  have k1 := HAL.out.drew.four
  go_region_held3 (fun w' => (w'.cell? ⟨w1.heap.size, 0, none⟩ = some (.string F.code) ∧ w'.cell? ⟨w1.heap.size, 1, none⟩ = some (.int .i64 F.kind)) ∧ (w'.cell? ⟨b, o, none⟩ = some (.string F.code) ∧ w'.cell? ⟨b, o + 1, none⟩ = some (.int .i64 F.kind)))
    (first | (with_reducible exact k0) | (with_reducible exact k1) | (with_reducible exact m1) | (with_reducible exact m2) | (with_reducible exact m3) | (with_reducible exact m4) | fail)
    (first
      | (go_at_call 23; refine (HWH.out w5.drew HAL.out.drew.ls).mono ?_; rintro e w6 ⟨rfl, hb6⟩; have M1 := Lib.hid (HAL.out.drew.keep hb6); have m1 := M1.out.four)
      | (go_at_call 14; refine (HWT.out w6 M1.out.laid).mono ?_; rintro e w7 ⟨v7, rfl, ⟨p7, c7, rfl, _, _, _⟩, hb7⟩; have M2 := Lib.hid (M1.out.keep hb7); have m2 := M2.out.four)
      | (go_at_call 19; refine (HOF.out w7 M2.out.ls).mono ?_; rintro e w8 ⟨v8, rfl, ⟨p8, c8, rfl, _, _, _⟩, hb8⟩; have M3 := Lib.hid (M2.out.keep hb8); have m3 := M3.out.four)
      | (go_at_call 11; refine (HRT.out w8).mono ?_; rintro e w9 ⟨rfl, hb9⟩; have M4 := Lib.hid (M3.out.keep hb9); have m4 := M4.out.four)
      | fail)
  all_goals
    go_wp2
    go_ret
    exact ⟨rfl, M4.out.bel⟩
end Go.Proofs.YtkacidoflmbjkaaDoor.Fl
