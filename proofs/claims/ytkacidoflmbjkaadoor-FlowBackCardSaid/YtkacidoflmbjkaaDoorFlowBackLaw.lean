
/- The walk of FlowBack: it returns true. -/
import Derived.Test.YtkacidoflmbjkaaDoorFlowWordsLaw
namespace Go.Proofs.YtkacidoflmbjkaaDoor.Fl
open Go.RowKit

set_option maxRecDepth 100000 in
set_option maxHeartbeats 8000000 in
theorem flowBack_walk (a : Flow) (v : Value) (ws : List ByteArray) (w : World) (h : StrsV w v ws) (hL : Laid w) : Calls Tryd.prog 4 #[aggL a, v] w fun e w' => e = .returned (.bool true) ∧ Below w.heap.size w w' := by
  have HB0 := Lib.hid ((Below.refl w.heap.size w).alloc (Nat.le_refl _) (cellsR a))
  have HX0 := Lib.hid (BoxE.new encF w a 23)
  have HL0 := Lib.hid (hL.below HB0.out (Nat.le_refl _))
  have HV0 := Lib.hid (h.keep HB0.out)
  obtain ⟨p, c, rfl, hcap, hm, _⟩ := h
  obtain ⟨n, hn⟩ : ∃ n, ws.length = n := ⟨_, rfl⟩
  rw [hn] at hcap hm HV0 ⊢
  unfold maxLen at hm
  clear hL hn
  obtain ⟨F, hF⟩ : ∃ F, fewF [a] = F := ⟨_, rfl⟩
  have HFW := Lib.hid (few_one a)
  rw [hF] at HFW
  clear hF
  go_enter Tryd.func4, Tryd.ntmps4
  go_wp2_with fail
  refine (alive_any _ HL0.out).mono ?_
  rintro e w1 ⟨rfl, hb1⟩
  have HB1 := Lib.hid (HB0.out.trans (hb1.mono HB0.out.size))
  have HX1 := Lib.hid (HX0.out.kept hb1)
  have HL1 := Lib.hid (HL0.out.below hb1 (Nat.le_refl _))
  have HV1 := Lib.hid (HV0.out.keep hb1)
  clear hb1 HB0 HX0 HL0 HV0
  obtain ⟨c0, c1⟩ := box HX1.out
  go_wp2_with fail
  clear c0 c1
  refine (HFW.out w1).mono ?_
  rintro e w2 ⟨rfl, hb2⟩
  have HB2 := Lib.hid (HB1.out.trans (hb2.mono HB1.out.size))
  have HX2 := Lib.hid (HX1.out.kept hb2)
  have HL2 := Lib.hid (HL1.out.below hb2 (Nat.le_refl _))
  have HV2 := Lib.hid (HV1.out.keep hb2)
  clear hb2 HB1 HX1 HL1 HV1
  cases F with
  | false =>
    go_wp2
    go_ret
    exact ⟨rfl, HB2.out⟩
  | true =>
    by_cases h70 : 70 < n
    · go_wp2
      go_ret
      exact ⟨rfl, HB2.out⟩
    · obtain ⟨R, hR⟩ : ∃ R, parseF ws = R := ⟨_, rfl⟩
      have HPA := Lib.hid (fun W => parse_any (.slice p n c) ws W)
      have HPE := Lib.hid (parse_err ws)
      rw [hR] at HPA HPE
      obtain ⟨x, E⟩ := R
      simp only at HPA HPE
      obtain ⟨us, hus⟩ : ∃ us, wordsF a = us := ⟨_, rfl⟩
      have HWA := Lib.hid (words_any a)
      rw [hus] at HWA
      have HUS := Lib.hid hus
      clear hR hus
      obtain ⟨c0, c1⟩ := box HX2.out
      go_wp2_with fail
      clear c0 c1
      refine (HWA.out w2 HL2.out).mono ?_
      rintro e w3 ⟨u3, rfl, hs3, hb3⟩
      have HB3 := Lib.hid (HB2.out.trans (hb3.mono HB2.out.size))
      have HX3 := Lib.hid (HX2.out.kept hb3)
      have HL3 := Lib.hid (HL2.out.below hb3 (Nat.le_refl _))
      have HV3 := Lib.hid (HV2.out.keep hb3)
      have HS3 := Lib.hid hs3
      clear hb3 hs3 HB2 HX2 HL2 HV2
      obtain ⟨p3, k3, hu3, _, hm3, _⟩ := HS3.out
      subst hu3
      unfold maxLen at hm3
      cases ha : rightF a with
      | false =>
        have hl0 : us.length = 0 := by rw [← HUS.out, words_nil ha]; rfl
        rw [hl0] at hm3 HS3 ⊢
        clear hl0 ha
        go_wp2_with fail
        refine (HPA.out _ HV3.out HL3.out).mono ?_
        rintro e wp ⟨rfl, hbp⟩
        have hbq := hbp.alloc hbp.size (.cells (cellsF x) 28)
        have HBQ := Lib.hid (HB3.out.trans (hbq.mono HB3.out.size))
        have HYQ := Lib.hid (BoxE.new encF wp x 28)
        have HLQ := Lib.hid (HL3.out.below hbq (Nat.le_refl _))
        have HVQ := Lib.hid (HV3.out.keep hbq)
        clear hbp hbq
        rcases HPE.out with hE | ⟨hwx, _, hE⟩
        · obtain ⟨rfl, rfl⟩ := Prod.mk.inj hE
          clear hE
          go_wp2
          go_ret
          exact ⟨rfl, HBQ.out⟩
        · subst hE
          have HWX := Lib.hid (words_any x)
          rw [hwx] at HWX
          clear hwx
          obtain ⟨c0, c1⟩ := box HYQ.out
          go_wp2_with fail
          clear c0 c1
          refine (HWX.out _ HLQ.out).mono ?_
          rintro e wr ⟨vr, rfl, hsr, hbr⟩
          have HSR := Lib.hid hsr
          have HVR := Lib.hid (HVQ.out.keep hbr)
          have HBR := Lib.hid (HBQ.out.trans (hbr.mono HBQ.out.size))
          clear hsr hbr
          go_wp2_with fail
          refine (sameWs HSR.out HVR.out).mono ?_
          rintro e ws2 ⟨rfl, q, rfl⟩
          go_wp2
          go_ret
          exact ⟨rfl, below_drewN' HBR.out q⟩
      | true =>
        have hl3 : us.length = 3 := by rw [← HUS.out, words_of ha]; rfl
        have HPU : Hid (parseF us = (a, 0)) := Lib.hid (by rw [← HUS.out]; exact parse_words ha)
        have HPC := Lib.hid (parse_any (.slice p3 us.length k3) us _ HS3.out HL3.out)
        rw [HPU.out] at HPC
        rw [hl3] at HPC ⊢
        clear ha hl3
        go_wp2_with fail
        refine HPC.out.mono ?_
        rintro e w5 ⟨rfl, hb5⟩
        have hb6 := hb5.alloc hb5.size (.cells (cellsF a) 28)
        have HB6 := Lib.hid (HB3.out.trans (hb6.mono HB3.out.size))
        have HX6 := Lib.hid (HX3.out.kept hb6)
        have HY6 := Lib.hid (BoxE.new encF w5 a 28)
        have HL6 := Lib.hid (HL3.out.below hb6 (Nat.le_refl _))
        have HV6 := Lib.hid (HV3.out.keep hb6)
        clear hb5 hb6
        have hgd := guard_ref
        have q1 : ∀ w', Sem.run Tryd.prog (binOp .neq 23 (.agg #[.string a.code, .int .i64 a.kind]) (.agg #[.string a.code, .int .i64 a.kind])) w' = .ok (.bool false) w' := fun w' => by
          have := neq_ref a a w'
          rwa [show eqF a a = true from (eqF_iff _ _).2 rfl] at this
        obtain ⟨c0, c1⟩ := box HX6.out
        obtain ⟨d0, d1⟩ := box HY6.out
        go_wp2_with fail
        clear c0 c1 d0 d1
        refine (HPA.out _ HV6.out HL6.out).mono ?_
        rintro e wp ⟨rfl, hbp⟩
        have hbq := hbp.alloc hbp.size (.cells (cellsF x) 28)
        have HBQ := Lib.hid (HB6.out.trans (hbq.mono HB6.out.size))
        have HYQ := Lib.hid (BoxE.new encF wp x 28)
        have HLQ := Lib.hid (HL6.out.below hbq (Nat.le_refl _))
        have HVQ := Lib.hid (HV6.out.keep hbq)
        clear hbp hbq
        rcases HPE.out with hE | ⟨hwx, _, hE⟩
        · obtain ⟨rfl, rfl⟩ := Prod.mk.inj hE
          clear hE
          go_wp2
          go_ret
          exact ⟨rfl, HBQ.out⟩
        · subst hE
          have HWX := Lib.hid (words_any x)
          rw [hwx] at HWX
          clear hwx
          obtain ⟨c0, c1⟩ := box HYQ.out
          go_wp2_with fail
          clear c0 c1
          refine (HWX.out _ HLQ.out).mono ?_
          rintro e wr ⟨vr, rfl, hsr, hbr⟩
          have HSR := Lib.hid hsr
          have HVR := Lib.hid (HVQ.out.keep hbr)
          have HBR := Lib.hid (HBQ.out.trans (hbr.mono HBQ.out.size))
          clear hsr hbr
          go_wp2_with fail
          refine (sameWs HSR.out HVR.out).mono ?_
          rintro e ws2 ⟨rfl, q, rfl⟩
          go_wp2
          go_ret
          exact ⟨rfl, below_drewN' HBR.out q⟩
end Go.Proofs.YtkacidoflmbjkaaDoor.Fl
