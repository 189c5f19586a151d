
/- The walk of FlowWords: it returns true. -/
import Derived.Test.YtkacidoflmbjkaaDoorFlowAlive
import Derived.Test.YtkacidoflmbjkaaDoorFlowDocParse
namespace Go.Proofs.YtkacidoflmbjkaaDoor.Fl
open Go.RowKit

abbrev cellsR (a : Flow) : Obj := .cells #[.string a.code, .int .i64 a.kind] 23
theorem flows_one (w : World) (a : Flow) : FlowsV (w.alloc (cellsR a)) (.slice (some ⟨w.heap.size, 0, none⟩) 1 1) [a] := els_new encF w [a] 23 (by show 1 ≤ maxLen; unfold maxLen; omega)
theorem few_one (a : Flow) (w : World) : Calls Tryd.prog 8 #[.slice (some ⟨w.heap.size, 0, none⟩) 1 1] (w.alloc (cellsR a)) fun e w' => e = .returned (.bool (fewF [a])) ∧ Below w.heap.size w w' := by
  refine (few_any _ _ _ (flows_one w a)).mono ?_
  rintro e w' ⟨rfl, hb⟩
  exact ⟨rfl, ((Below.refl w.heap.size w).alloc (Nat.le_refl _) _).trans (hb.mono (by simp))⟩
theorem sameWs {v u : Value} {ws : List ByteArray} {W : World} (h : StrsV W v ws) (h' : StrsV W u ws) : Calls Tryd.prog 13 #[v, u] W fun e w' => e = .returned (.bool true) ∧ ∃ q, w' = W.drewN q := by
  have := sameWords_any v u ws ws W h h'
  rwa [show sameW ws ws = true from decide_eq_true rfl] at this
/-- What FlowWords' last statement reads. -/
structure WordsAt (w W : World) (g2 g5 g7 : Nat) (a x : Flow) : Prop where
  b2 : BoxE encF W g2 23 a
  b5 : BoxE encF W g5 28 x
  b7 : BoxE encF W g7 23 x
  laid : Laid W
  bel : Below w.heap.size w W
theorem WordsAt.keep {w W W' : World} {g2 g5 g7 : Nat} {a x : Flow} (h : WordsAt w W g2 g5 g7 a x) (hb : Below W.heap.size W W') : WordsAt w W' g2 g5 g7 a x :=
  ⟨h.b2.kept hb, h.b5.kept hb, h.b7.kept hb, h.laid.below hb (Nat.le_refl _), h.bel.trans (hb.mono h.bel.size)⟩
theorem WordsAt.drew {w W : World} {g2 g5 g7 : Nat} {a x : Flow} (h : WordsAt w W g2 g5 g7 a x) : WordsAt w W.drew g2 g5 g7 a x := h.keep ⟨rfl, rfl, rfl, Nat.le_refl _, fun _ _ => rfl⟩
theorem WordsAt.drewN {w W : World} {g2 g5 g7 : Nat} {a x : Flow} (h : WordsAt w W g2 g5 g7 a x) (q : Nat) : WordsAt w (W.drewN q) g2 g5 g7 a x := h.keep ⟨rfl, rfl, rfl, Nat.le_refl _, fun _ _ => rfl⟩
theorem WordsAt.three {w W : World} {g2 g5 g7 : Nat} {a x : Flow} (h : WordsAt w W g2 g5 g7 a x) : (W.cell? ⟨g2, 0, none⟩ = some (.string a.code) ∧ W.cell? ⟨g2, 1, none⟩ = some (.int .i64 a.kind)) ∧ (W.cell? ⟨g5, 0, none⟩ = some (.string x.code) ∧ W.cell? ⟨g5, 1, none⟩ = some (.int .i64 x.kind)) ∧ (W.cell? ⟨g7, 0, none⟩ = some (.string x.code) ∧ W.cell? ⟨g7, 1, none⟩ = some (.int .i64 x.kind)) := ⟨box h.b2, box h.b5, box h.b7⟩
set_option maxRecDepth 100000 in
set_option maxHeartbeats 8000000 in
theorem flowWords_walk (a : Flow) (v : Value) (ws : List ByteArray) (w : World) (h : StrsV w v ws) (hL : Laid w) : Calls Tryd.prog 3 #[aggL a, v] w fun e w' => e = .returned (.bool true) ∧ Below w.heap.size w w' := by
  have HB0 := Lib.hid ((Below.refl w.heap.size w).alloc (Nat.le_refl _) (cellsR a))
  have HX0 := Lib.hid (BoxE.new encF w a 23)
  have HL0 := Lib.hid (hL.below HB0.out (Nat.le_refl _))
  have HV0 := Lib.hid (h.keep HB0.out)
  obtain ⟨p, c, rfl, hcap, hm, _⟩ := h
  obtain ⟨n, hn⟩ : ∃ n, ws.length = n := ⟨_, rfl⟩
  rw [hn] at hcap hm HV0 ⊢
  unfold maxLen at hm
  clear hL hn
  obtain ⟨F, hF⟩ : ∃ F, fewF [a] = F := ⟨_, rfl⟩
  have HFW := Lib.hid (few_one a)
  rw [hF] at HFW
  clear hF
  go_enter Tryd.func3, Tryd.ntmps3
  go_wp2_with fail
  refine (alive_any _ HL0.out).mono ?_
  rintro e w1 ⟨rfl, hb1⟩
  have HB1 := Lib.hid (HB0.out.trans (hb1.mono HB0.out.size))
  have HX1 := Lib.hid (HX0.out.kept hb1)
  have HL1 := Lib.hid (HL0.out.below hb1 (Nat.le_refl _))
  have HV1 := Lib.hid (HV0.out.keep hb1)
  clear hb1 HB0 HX0 HL0 HV0
  obtain ⟨c0, c1⟩ := box HX1.out
  go_wp2_with fail
  clear c0 c1
  refine (HFW.out w1).mono ?_
  rintro e w2 ⟨rfl, hb2⟩
  have HB2 := Lib.hid (HB1.out.trans (hb2.mono HB1.out.size))
  have HX2 := Lib.hid (HX1.out.kept hb2)
  have HL2 := Lib.hid (HL1.out.below hb2 (Nat.le_refl _))
  have HV2 := Lib.hid (HV1.out.keep hb2)
  clear hb2 HB1 HX1 HL1 HV1
  cases F with
  | false =>
    go_wp2
    go_ret
    exact ⟨rfl, HB2.out⟩
  | true =>
    by_cases h70 : 70 < n
    · go_wp2
      go_ret
      exact ⟨rfl, HB2.out⟩
    · obtain ⟨R, hR⟩ : ∃ R, parseF ws = R := ⟨_, rfl⟩
      have HPA := Lib.hid (fun W => parse_any (.slice p n c) ws W)
      have HPB := Lib.hid (fun W => rparse_any (.slice p n c) ws W)
      rw [hR] at HPA HPB
      obtain ⟨x, E⟩ := R
      simp only at HPA HPB
      clear hR
      go_wp2_with fail
      refine (HPA.out _ HV2.out HL2.out).mono ?_
      rintro e w3 ⟨rfl, hb3⟩
      have hb4 := hb3.alloc hb3.size (.cells (cellsF x) 28)
      have HB4 := Lib.hid (HB2.out.trans (hb4.mono HB2.out.size))
      have HX4 := Lib.hid (HX2.out.kept hb4)
      have HY4 := Lib.hid (BoxE.new encF w3 x 28)
      have HL4 := Lib.hid (HL2.out.below hb4 (Nat.le_refl _))
      have HV4 := Lib.hid (HV2.out.keep hb4)
      clear hb3 hb4
      go_wp2_with fail
      refine (HPB.out _ HV4.out).mono ?_
      rintro e w5 ⟨rfl, hb5⟩
      have hb6 := hb5.alloc hb5.size (cellsR x)
      have HAL : Hid (WordsAt w (w5.alloc (cellsR x)) w.heap.size w3.heap.size w5.heap.size a x) := Lib.hid ⟨HX4.out.kept hb6, HY4.out.kept hb6, BoxE.new encF w5 x 23, HL4.out.below hb6 (Nat.le_refl _), HB4.out.trans (hb6.mono HB4.out.size)⟩
      clear hb5 hb6 HX4 HY4 HL4 HV4 HB4 HX2 HL2 HV2 HPA HPB HFW
      obtain ⟨Wr, hWr⟩ : ∃ Wr, w5.alloc (cellsR x) = Wr := ⟨_, rfl⟩
      rw [hWr] at HAL
      have hgd := guard_ref
      have q1 : ∀ w', Sem.run Tryd.prog (binOp .eql 23 (.agg #[.string x.code, .int .i64 x.kind]) (.agg #[.string x.code, .int .i64 x.kind])) w' = .ok (.bool true) w' := fun w' => by
        have := eql_ref x x w'
        rwa [show eqF x x = true from (eqF_iff _ _).2 rfl] at this
      obtain ⟨r, hr⟩ : ∃ r, rightF a = r := ⟨_, rfl⟩
      have HRT := Lib.hid (right_any a)
      have HRD := Lib.hid (rright_any a)
      rw [hr] at HRT HRD
      obtain ⟨us, hus⟩ : ∃ us, wordsF a = us := ⟨_, rfl⟩
      have HWT := Lib.hid (words_any a)
      have HWD := Lib.hid (rwords_any a)
      rw [hus] at HWT HWD
      clear hr hus
      have hrr : (r == r) = true := by simp
      have hee : (E == E) = true := by simp
      go_wp2_with fail
      have HWR := Lib.hid hWr
      clear hWr
      have k0 := HAL.out.three
      have k1 := HAL.out.drew.three
      go_region_held3 (fun w' => (w'.cell? ⟨w.heap.size, 0, none⟩ = some (.string a.code) ∧ w'.cell? ⟨w.heap.size, 1, none⟩ = some (.int .i64 a.kind)) ∧ (w'.cell? ⟨w3.heap.size, 0, none⟩ = some (.string x.code) ∧ w'.cell? ⟨w3.heap.size, 1, none⟩ = some (.int .i64 x.kind)) ∧ (w'.cell? ⟨w5.heap.size, 0, none⟩ = some (.string x.code) ∧ w'.cell? ⟨w5.heap.size, 1, none⟩ = some (.int .i64 x.kind)))
        (first | (with_reducible exact k0) | (with_reducible exact k1) | (with_reducible exact m1) | (with_reducible exact m2) | (with_reducible exact m3) | (with_reducible exact m4) | (with_reducible exact m5) | fail)
        (first
          | (go_at_call 11; refine (HRT.out Wr.drew).mono ?_; rintro e w7 ⟨rfl, hb7⟩; have M1 := Lib.hid (HAL.out.drew.keep hb7); have m1 := M1.out.three)
          | (go_at_call 12; refine (HRD.out w7).mono ?_; rintro e w8 ⟨rfl, hb8⟩; have M2 := Lib.hid (M1.out.keep hb8); have m2 := M2.out.three)
          | (go_at_call 14; refine (HWT.out w8 M2.out.laid).mono ?_; rintro e w9 ⟨v9, rfl, hs9, hb9⟩; have M3 := Lib.hid (M2.out.keep hb9); have m3 := M3.out.three; have S3 := Lib.hid hs9)
          | (go_at_call 15; refine (HWD.out w9).mono ?_; rintro e w10 ⟨v10, rfl, hs10, hb10⟩; have M4 := Lib.hid (M3.out.keep hb10); have m4 := M4.out.three; have S4 := Lib.hid (S3.out.keep hb10); have T4 := Lib.hid hs10)
          | (go_at_call 13; refine (sameWs S4.out T4.out).mono ?_; rintro e w' ⟨rfl, q, rfl⟩; have M5 := Lib.hid (M4.out.drewN q); have m5 := M5.out.three)
          | fail)
      all_goals
        go_wp2
        go_ret
        exact ⟨ret_true (by simp), M5.out.bel⟩
end Go.Proofs.YtkacidoflmbjkaaDoor.Fl
