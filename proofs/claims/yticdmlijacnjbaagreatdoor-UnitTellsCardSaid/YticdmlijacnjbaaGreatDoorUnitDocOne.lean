
/- The walk of the document's one: a line more, whatever it is. What was there stays. -/
import Derived.Test.YticdmlijacnjbaaGreatDoorUnitDocSmall
import Derived.Test.YticdmlijacnjbaaGreatDoorChartDocAdd
import Derived.Test.YticdmlijacnjbaaGreatDoorChartDocParse
import Derived.Test.YticdmlijacnjbaaGreatDoorFlowDocAdd
import Derived.Test.YticdmlijacnjbaaGreatDoorFlowDocParse
namespace Go.Proofs.YticdmlijacnjbaaGreatDoor.Un
open Go.RowKit

theorem step_account {M : Mast} {ws : List ByteArray} (h0 : wd ws 0 = tAccount) : stepE M ws = (if (parseA ws).2 = 0 then addE M.chart (parseA ws).1 else (parseA ws).2) ∧ stepV M ws = { M with chart := insL M.chart (parseA ws).1 } := by
  refine ⟨?_, ?_⟩
  · unfold stepE; rw [if_pos h0]
  · unfold stepV; rw [if_pos h0]
theorem step_flow {M : Mast} {ws : List ByteArray} (h0 : wd ws 0 = Fl.tFlow) : stepE M ws = (if (Fl.parseF ws).2 = 0 then Fl.addE M.flows (Fl.parseF ws).1 else (Fl.parseF ws).2) ∧ stepV M ws = { M with flows := insK Fl.Flow.code M.flows (Fl.parseF ws).1 } := by
  refine ⟨?_, ?_⟩
  · unfold stepE; rw [if_neg (by rw [h0]; decide), if_pos h0]
  · unfold stepV; rw [if_neg (by rw [h0]; decide), if_pos h0]
set_option maxRecDepth 100000 in
set_option maxHeartbeats 16000000 in
theorem one_account (v c f e l : Value) (ws : List ByteArray) (M : Mast) (w : World) (hm : MastIn w c f e l M) (hs : Sane M) (hv : StrsV w v ws) (hx : ws[0]? = some tAccount) :
    Calls Tryz.prog 28 #[aggM c f e l M, v] w (OneTold w c f e l M ws) := by
  obtain ⟨pc, cc, ec, _⟩ := hm.chart
  subst ec
  have hlen : M.chart.length ≤ 1000 := by have := hs.lc; omega
  have HS := Lib.hid (two_start w hm)
  have HPR := Lib.hid (rparse_any v ws (two0 w (.slice pc M.chart.length cc) f e l M) (hv.keep HS.out.bel))
  have HM := Lib.hid hm
  have HO := Lib.hid (ones_of hm)
  obtain ⟨s1, s2⟩ := step_account (M := M) (ws := ws) (wd_of hx)
  obtain ⟨A, hA⟩ : ∃ A, (parseA ws).1 = A := ⟨_, rfl⟩
  obtain ⟨n1, hn1⟩ : ∃ n, (parseA ws).2 = n := ⟨_, rfl⟩
  rw [hA, hn1] at HPR s1
  rw [hA] at s2
  obtain ⟨n, hn⟩ : ∃ n, addE M.chart A = n := ⟨_, rfl⟩
  obtain ⟨R, hR⟩ : ∃ R, G.insR Acct.code M.chart A = R := ⟨_, rfl⟩
  rw [hn] at s1
  rw [insL_eqR, hR] at s2
  have HCA := Lib.hid (fun W h => rcadd_any (.slice pc M.chart.length cc) M.chart A W h hlen)
  rw [hn, hR] at HCA
  obtain ⟨N, hN⟩ : ∃ N, stepE M ws = N := ⟨_, rfl⟩
  have HNE := Lib.hid s1
  have HV2 := Lib.hid s2
  rw [hN] at HNE
  unfold OneTold
  rw [hN]
  obtain ⟨p, cp, rfl, hcap, hml, hc⟩ := hv
  obtain ⟨g, o, rfl, x0⟩ := hc 0 tAccount hx
  rw [Nat.add_zero] at x0
  have y0 := cell_later HS.out.bel x0
  obtain ⟨nw, hnw⟩ : ∃ nw, ws.length = nw := ⟨_, rfl⟩
  have hw0 : 0 < nw := by rw [← hnw]; exact (List.getElem?_eq_some_iff.1 hx).1
  rw [hnw] at HPR hcap hml ⊢
  have gt : (tAccount.toList == [97, 99, 99, 111, 117, 110, 116]) = true := by rw [qAccount]; decide
  clear hm hs hc hx hlen s1 s2 hA hn1 hn hR hN x0 hnw
  go_enter Tryz.func28, Tryz.ntmps28
  go_wp2_with fail
  refine HPR.out.mono ?_
  rintro en w1 ⟨rfl, hb1⟩
  have HS1 := Lib.hid (HS.out.below hb1)
  have HBA := Lib.hid ((Below.refl w1.heap.size w1).alloc (Nat.le_refl _) (.cells (encA.cs zeroA).toArray 99))
  clear hb1 y0 gt
  by_cases h1 : n1 = 0
  · subst h1
    have HNN : Hid (N = n) := Lib.hid (by rw [HNE.out, if_pos rfl])
    go_wp2_with (refine wpList_store_acct rfl 99 (.tmp 6) (.tmp 22) rfl w1.heap.size zeroA A 99 rfl rfl (BoxA.new w1 zeroA _) (by kernel_rfl) ?_; intro w2 hb2 hg2; have HG2 : Hid (Below w1.heap.size w1 w2) := Lib.hid (HBA.out.grown hg2 HBA.out.size (fun j hj => by cases hj; exact Nat.le_refl _)); have HX2 := Lib.hid hb2; clear hb2 hg2; have HS2 := Lib.hid (HS1.out.below HG2.out); have hk := HS2.out.box.nine.c0; obtain ⟨q0, q1, q2, q3, q4, q5⟩ := HX2.out.facts)
    refine (HCA.out w2 (chart_els.1 HS2.out.mast.chart)).mono ?_
    rintro en w3 ⟨v3, rfl, ho3, hn3, hb3⟩
    obtain ⟨p3, m3, cp3, rfl⟩ := told_shape ho3 hn3
    have HO3 := Lib.hid ho3
    have HN3 := Lib.hid hn3
    have HS3 := Lib.hid (HS2.out.below hb3)
    have hB2 := HS2.out.bel.size
    have hk3 := HS3.out.box.nine.c0
    have hf3 := boxM_free HS3.out.box 0
    obtain ⟨W2, hW2⟩ : ∃ W2, w3.setCell ⟨w.heap.size, 0, none⟩ (.slice p3 m3 cp3) = W2 := ⟨_, rfl⟩
    have HG4 : Hid (w3.grownBy W2 (some w.heap.size)) := Lib.hid (by rw [← hW2]; exact set_grown w3 w.heap.size 0 (.slice p3 m3 cp3))
    have HW2 : Hid (Below w.heap.size w W2) := Lib.hid (by rw [← hW2]; exact set_below HS3.out.bel 0 _)
    obtain ⟨M2, hM2⟩ : ∃ M2 : Mast, { M with chart := R } = M2 := ⟨_, rfl⟩
    have HB2 : Hid (BoxM W2 w.heap.size 39 (.slice p3 m3 cp3) f e l M2) := Lib.hid (by rw [← hW2, ← hM2]; exact box_set HS3.out.box rfl)
    have HR2 : Hid (BoxM W2 (w.heap.size + 1) 39 nil4 nil4 nil4 nil4 zeroM) := Lib.hid ((HG4.out.block _ HS3.out.res.lt (by simp)).trans HS3.out.res)
    have HM2 : Hid (M2.flows = M.flows ∧ M2.ents = M.ents ∧ M2.lines = M.lines ∧ M2.chart = R) := Lib.hid (by rw [← hM2]; exact ⟨rfl, rfl, rfl, rfl⟩)
    have HMM := Lib.hid hM2
    have HO2 : Hid (Ones (.slice p3 m3 cp3) f e l) := Lib.hid ⟨rfl, HO.out.f, HO.out.e, HO.out.l⟩
    clear ho3 hn3 hb3 hM2 hk q0 q1 q2 q3 q4 q5
    obtain ⟨k0, k1, k2, k3, k4, k5, k6, k7, k8⟩ := HB2.out.nine
    go_wp2_with (refine wpList_store_mast rfl 39 (.tmp 4) (.tmp 37) rfl (w.heap.size + 1) nil4 nil4 nil4 nil4 (.slice p3 m3 cp3) f e l zeroM M2 39 rfl rfl HR2.out HO2.out (by kernel_rfl) ?_; intro w4 hb4 hg4)
    clear k0 k1 k2 k3 k4 k5 k6 k7 k8 hk3 hf3 hW2
    have HBG := Lib.hid (HW2.out.grown hg4 HW2.out.size (fun j hj => by cases hj; exact Nat.le_succ _))
    have HX4 : Hid (n = 0 → ElsV encA w4 (.slice p3 m3 cp3) M2.chart) := Lib.hid (fun h0 => by
      obtain ⟨t, hr⟩ := HN3.out h0
      have h2 := (hr.kept HG4.out (.inr (fun e0 => by
        rcases hr.2 with ⟨e, _⟩ | ⟨g', _, _, e, hge, _⟩
        · cases e; simp [Value.ownBlock] at e0
        · cases e
          have h3 : g' = w.heap.size := by simpa [Value.ownBlock] using e0
          have := HS2.out.box.lt
          omega))).kept hg4 (.inr (fun e0 => by
        rcases hr.2 with ⟨e, _⟩ | ⟨g', _, _, e, hge, _⟩
        · cases e; simp [Value.ownBlock] at e0
        · cases e
          have h3 : g' = w.heap.size + 1 := by simpa [Value.ownBlock] using e0
          have := HS2.out.res.lt
          omega))
      rw [HM2.out.2.2.2]
      exact els_of_own h2)
    obtain ⟨c0, c1, c2, c3, c4, c5, c6, c7, c8⟩ := hb4.nine
    clear hb4 hg4
    refine bodyPost_ret (v := .tuple #[aggM (.slice p3 m3 cp3) f e l M2, .int .i64 n]) (by simp [results, Tryz.results28, go_sem, c0, c1, c2, c3, c4, c5, c6, c7, c8]) rfl ⟨_, _, _, _, M2, by rw [HNN.out], fun h0 => ⟨?_, ?_⟩, HO2.out, ⟨Off1.told HO3.out HN3.out HS2.out.bel.size, Off1.refl _ _, Off1.refl _ _, Off1.refl _ _⟩, HBG.out⟩
    · rw [HV2.out]; exact HMM.out.symm
    · have hk := HM.out.keep HBG.out
      obtain ⟨m1, m2, m3, _⟩ := HM2.out
      exact ⟨chart_els.2 (HX4.out (by rw [← HNN.out]; exact h0)), by rw [m1]; exact hk.flows, by rw [m2]; exact hk.ents, by rw [m3]; exact hk.lines⟩
  · have HNN : Hid (N = n1) := Lib.hid (by rw [HNE.out, if_neg h1])
    have h1z : (n1 != 0) = true := by simp [h1]
    go_wp2_with (first
      | (refine wpList_store_acct rfl 99 (.tmp 6) (.tmp 22) rfl w1.heap.size zeroA A 99 rfl rfl (BoxA.new w1 zeroA _) (by kernel_rfl) ?_; intro w2 hb2 hg2; have HG2 : Hid (Below w1.heap.size w1 w2) := Lib.hid (HBA.out.grown hg2 HBA.out.size (fun j hj => by cases hj; exact Nat.le_refl _)); have HX2 := Lib.hid hb2; clear hb2 hg2; have HS2 := Lib.hid (HS1.out.below HG2.out); obtain ⟨k0, k1, k2, k3, k4, k5, k6, k7, k8⟩ := HS2.out.box.nine)
      | (refine wpList_store_mast rfl 39 (.tmp 4) (.tmp 26) rfl (w.heap.size + 1) nil4 nil4 nil4 nil4 (.slice pc M.chart.length cc) f e l zeroM M 39 rfl rfl HS2.out.res HO.out (by kernel_rfl) ?_; intro w4 hb4 hg4)
      | fail)
    clear k0 k1 k2 k3 k4 k5 k6 k7 k8
    have HBG := Lib.hid (HS2.out.bel.grown hg4 HS2.out.bel.size (fun j hj => by cases hj; exact Nat.le_succ _))
    obtain ⟨c0, c1, c2, c3, c4, c5, c6, c7, c8⟩ := hb4.nine
    clear hb4 hg4
    exact bodyPost_ret (v := .tuple #[aggM (.slice pc M.chart.length cc) f e l M, .int .i64 n1]) (by simp [results, Tryz.results28, go_sem, c0, c1, c2, c3, c4, c5, c6, c7, c8]) rfl ⟨_, _, _, _, M, by rw [HNN.out], (fun h => absurd (HNN.out.symm.trans h) h1), HO.out, Off4.refl _ _ _ _ _, HBG.out⟩
set_option maxRecDepth 100000 in
set_option maxHeartbeats 16000000 in
theorem one_flow (v c f e l : Value) (ws : List ByteArray) (M : Mast) (w : World) (hm : MastIn w c f e l M) (hs : Sane M) (hv : StrsV w v ws) (hx : ws[0]? = some Fl.tFlow) :
    Calls Tryz.prog 28 #[aggM c f e l M, v] w (OneTold w c f e l M ws) := by
  obtain ⟨pf, cf, ef, _⟩ := hm.flows
  subst ef
  have hlen : M.flows.length ≤ 1000 := by have := hs.lf; omega
  have HS := Lib.hid (two_start w hm)
  have HPR := Lib.hid (Fl.rparse_any v ws (two0 w c (.slice pf M.flows.length cf) e l M) (hv.keep HS.out.bel))
  have HM := Lib.hid hm
  have HO := Lib.hid (ones_of hm)
  obtain ⟨s1, s2⟩ := step_flow (M := M) (ws := ws) (wd_of hx)
  obtain ⟨A, hA⟩ : ∃ A, (Fl.parseF ws).1 = A := ⟨_, rfl⟩
  obtain ⟨n1, hn1⟩ : ∃ n, (Fl.parseF ws).2 = n := ⟨_, rfl⟩
  rw [hA, hn1] at HPR s1
  rw [hA] at s2
  obtain ⟨n, hn⟩ : ∃ n, Fl.addE M.flows A = n := ⟨_, rfl⟩
  obtain ⟨R, hR⟩ : ∃ R, G.insR Fl.Flow.code M.flows A = R := ⟨_, rfl⟩
  rw [hn] at s1
  have hri := Fl.rise_codes hs.fl
  have HIN : Hid (n = 0 → insK Fl.Flow.code M.flows A = R) := Lib.hid (fun h0 => by
    rw [← hn] at h0
    rw [insF_eqR hri (Fl.addE_zero hri h0).2.1, hR])
  have HCA := Lib.hid (fun W h => rfadd_any (.slice pf M.flows.length cf) M.flows A W h hri hlen)
  rw [hn, hR] at HCA
  obtain ⟨N, hN⟩ : ∃ N, stepE M ws = N := ⟨_, rfl⟩
  have HNE := Lib.hid s1
  have HV2 := Lib.hid s2
  rw [hN] at HNE
  unfold OneTold
  rw [hN]
  obtain ⟨p, cp, rfl, hcap, hml, hc⟩ := hv
  obtain ⟨g, o, rfl, x0⟩ := hc 0 Fl.tFlow hx
  rw [Nat.add_zero] at x0
  have y0 := cell_later HS.out.bel x0
  obtain ⟨nw, hnw⟩ : ∃ nw, ws.length = nw := ⟨_, rfl⟩
  have hw0 : 0 < nw := by rw [← hnw]; exact (List.getElem?_eq_some_iff.1 hx).1
  rw [hnw] at HPR hcap hml ⊢
  have gt : (Fl.tFlow.toList == [102, 108, 111, 119]) = true := by rw [qFlow]; decide
  have g0 : (Fl.tFlow.toList == [97, 99, 99, 111, 117, 110, 116]) = false := by rw [qAccount]; decide
  clear hm hs hc hx hlen hri s1 s2 hA hn1 hn hR hN x0 hnw
  go_enter Tryz.func28, Tryz.ntmps28
  go_wp2_with fail
  refine HPR.out.mono ?_
  rintro en w1 ⟨rfl, hb1⟩
  have HS1 := Lib.hid (HS.out.below hb1)
  have HBA := Lib.hid ((Below.refl w1.heap.size w1).alloc (Nat.le_refl _) (.cells (Fl.encF.cs Fl.zeroF).toArray 87))
  clear hb1 y0 gt g0
  by_cases h1 : n1 = 0
  · subst h1
    have HNN : Hid (N = n) := Lib.hid (by rw [HNE.out, if_pos rfl])
    go_wp2_with (refine wpList_store_el (E := Fl.encF) rfl 87 (.tmp 10) (.tmp 44) rfl w1.heap.size Fl.zeroF A 87 rfl rfl (BoxE.new Fl.encF w1 Fl.zeroF _) (by kernel_rfl) ?_; intro w2 hb2 hg2; have HG2 : Hid (Below w1.heap.size w1 w2) := Lib.hid (HBA.out.grown hg2 HBA.out.size (fun j hj => by cases hj; exact Nat.le_refl _)); have HX2 := Lib.hid hb2; clear hb2 hg2; have HS2 := Lib.hid (HS1.out.below HG2.out); have hk := HS2.out.box.nine.c1; obtain ⟨q0, q1⟩ := Fl.two HX2.out.at0)
    refine (HCA.out w2 HS2.out.mast.flows).mono ?_
    rintro en w3 ⟨v3, rfl, ho3, hn3, hb3⟩
    obtain ⟨p3, m3, cp3, rfl⟩ := told_shape ho3 hn3
    have HO3 := Lib.hid ho3
    have HN3 := Lib.hid hn3
    have HS3 := Lib.hid (HS2.out.below hb3)
    have hB2 := HS2.out.bel.size
    have hk3 := HS3.out.box.nine.c1
    have hf3 := boxM_free HS3.out.box 1
    obtain ⟨W2, hW2⟩ : ∃ W2, w3.setCell ⟨w.heap.size, 1, none⟩ (.slice p3 m3 cp3) = W2 := ⟨_, rfl⟩
    have HG4 : Hid (w3.grownBy W2 (some w.heap.size)) := Lib.hid (by rw [← hW2]; exact set_grown w3 w.heap.size 1 (.slice p3 m3 cp3))
    have HW2 : Hid (Below w.heap.size w W2) := Lib.hid (by rw [← hW2]; exact set_below HS3.out.bel 1 _)
    obtain ⟨M2, hM2⟩ : ∃ M2 : Mast, { M with flows := R } = M2 := ⟨_, rfl⟩
    have HB2 : Hid (BoxM W2 w.heap.size 39 c (.slice p3 m3 cp3) e l M2) := Lib.hid (by rw [← hW2, ← hM2]; exact box_set HS3.out.box rfl)
    have HR2 : Hid (BoxM W2 (w.heap.size + 1) 39 nil4 nil4 nil4 nil4 zeroM) := Lib.hid ((HG4.out.block _ HS3.out.res.lt (by simp)).trans HS3.out.res)
    have HM2 : Hid (M2.chart = M.chart ∧ M2.ents = M.ents ∧ M2.lines = M.lines ∧ M2.flows = R) := Lib.hid (by rw [← hM2]; exact ⟨rfl, rfl, rfl, rfl⟩)
    have HMM := Lib.hid hM2
    have HO2 : Hid (Ones c (.slice p3 m3 cp3) e l) := Lib.hid ⟨HO.out.c, rfl, HO.out.e, HO.out.l⟩
    clear ho3 hn3 hb3 hM2 hk q0 q1
    obtain ⟨k0, k1, k2, k3, k4, k5, k6, k7, k8⟩ := HB2.out.nine
    go_wp2_with (refine wpList_store_mast rfl 39 (.tmp 4) (.tmp 59) rfl (w.heap.size + 1) nil4 nil4 nil4 nil4 c (.slice p3 m3 cp3) e l zeroM M2 39 rfl rfl HR2.out HO2.out (by kernel_rfl) ?_; intro w4 hb4 hg4)
    clear k0 k1 k2 k3 k4 k5 k6 k7 k8 hk3 hf3 hW2
    have HBG := Lib.hid (HW2.out.grown hg4 HW2.out.size (fun j hj => by cases hj; exact Nat.le_succ _))
    have HX4 : Hid (n = 0 → ElsV Fl.encF w4 (.slice p3 m3 cp3) M2.flows) := Lib.hid (fun h0 => by
      obtain ⟨t, hr⟩ := HN3.out h0
      have h2 := (hr.kept HG4.out (.inr (fun e0 => by
        rcases hr.2 with ⟨e, _⟩ | ⟨g', _, _, e, hge, _⟩
        · cases e; simp [Value.ownBlock] at e0
        · cases e
          have h3 : g' = w.heap.size := by simpa [Value.ownBlock] using e0
          have := HS2.out.box.lt
          omega))).kept hg4 (.inr (fun e0 => by
        rcases hr.2 with ⟨e, _⟩ | ⟨g', _, _, e, hge, _⟩
        · cases e; simp [Value.ownBlock] at e0
        · cases e
          have h3 : g' = w.heap.size + 1 := by simpa [Value.ownBlock] using e0
          have := HS2.out.res.lt
          omega))
      rw [HM2.out.2.2.2]
      exact els_of_own h2)
    obtain ⟨c0, c1, c2, c3, c4, c5, c6, c7, c8⟩ := hb4.nine
    clear hb4 hg4
    refine bodyPost_ret (v := .tuple #[aggM c (.slice p3 m3 cp3) e l M2, .int .i64 n]) (by simp [results, Tryz.results28, go_sem, c0, c1, c2, c3, c4, c5, c6, c7, c8]) rfl ⟨_, _, _, _, M2, by rw [HNN.out], fun h0 => ⟨?_, ?_⟩, HO2.out, ⟨Off1.refl _ _, Off1.told HO3.out HN3.out HS2.out.bel.size, Off1.refl _ _, Off1.refl _ _⟩, HBG.out⟩
    · rw [HV2.out, HIN.out (by rw [← HNN.out]; exact h0)]; exact HMM.out.symm
    · have hk := HM.out.keep HBG.out
      obtain ⟨m1, m2, m3, _⟩ := HM2.out
      exact ⟨by rw [m1]; exact hk.chart, HX4.out (by rw [← HNN.out]; exact h0), by rw [m2]; exact hk.ents, by rw [m3]; exact hk.lines⟩
  · have HNN : Hid (N = n1) := Lib.hid (by rw [HNE.out, if_neg h1])
    have h1z : (n1 != 0) = true := by simp [h1]
    go_wp2_with (first
      | (refine wpList_store_el (E := Fl.encF) rfl 87 (.tmp 10) (.tmp 44) rfl w1.heap.size Fl.zeroF A 87 rfl rfl (BoxE.new Fl.encF w1 Fl.zeroF _) (by kernel_rfl) ?_; intro w2 hb2 hg2; have HG2 : Hid (Below w1.heap.size w1 w2) := Lib.hid (HBA.out.grown hg2 HBA.out.size (fun j hj => by cases hj; exact Nat.le_refl _)); have HX2 := Lib.hid hb2; clear hb2 hg2; have HS2 := Lib.hid (HS1.out.below HG2.out); obtain ⟨k0, k1, k2, k3, k4, k5, k6, k7, k8⟩ := HS2.out.box.nine)
      | (refine wpList_store_mast rfl 39 (.tmp 4) (.tmp 48) rfl (w.heap.size + 1) nil4 nil4 nil4 nil4 c (.slice pf M.flows.length cf) e l zeroM M 39 rfl rfl HS2.out.res HO.out (by kernel_rfl) ?_; intro w4 hb4 hg4)
      | fail)
    clear k0 k1 k2 k3 k4 k5 k6 k7 k8
    have HBG := Lib.hid (HS2.out.bel.grown hg4 HS2.out.bel.size (fun j hj => by cases hj; exact Nat.le_succ _))
    obtain ⟨c0, c1, c2, c3, c4, c5, c6, c7, c8⟩ := hb4.nine
    clear hb4 hg4
    exact bodyPost_ret (v := .tuple #[aggM c (.slice pf M.flows.length cf) e l M, .int .i64 n1]) (by simp [results, Tryz.results28, go_sem, c0, c1, c2, c3, c4, c5, c6, c7, c8]) rfl ⟨_, _, _, _, M, by rw [HNN.out], (fun h => absurd (HNN.out.symm.trans h) h1), HO.out, Off4.refl _ _ _ _ _, HBG.out⟩
set_option maxRecDepth 100000 in
set_option maxHeartbeats 16000000 in
theorem one_small (v c f e l : Value) (ws : List ByteArray) (M : Mast) (w : World) (hm : MastIn w c f e l M) (hs : Sane M) (hv : StrsV w v ws) (x0 : ByteArray) (hx : ws[0]? = some x0) (hA : x0 ≠ tAccount) (hF : x0 ≠ Fl.tFlow) :
    Calls Tryz.prog 28 #[aggM c f e l M, v] w (OneTold w c f e l M ws) := by
  have HS := Lib.hid (two_start w hm)
  have h0 : 0 < ws.length := (List.getElem?_eq_some_iff.1 hx).1
  have HCA := Lib.hid (rsmall_any v c f e l ws M (two0 w c f e l M) HS.out.mast hs (hv.keep HS.out.bel) h0 (by rw [wd_of hx]; exact hA) (by rw [wd_of hx]; exact hF))
  have HQ := Lib.hid (off_of_mast (P := fun b => b ≠ w.heap.size + 1) hm (fun b hb e0 => by omega))
  have hof0 : ∀ (c' f' e' l' : Value), Off4 (two0 w c f e l M) c f e l c' f' e' l' → Off4 w c f e l c' f' e' l' := fun _ _ _ _ h => by
    have hle : w.heap.size ≤ (two0 w c f e l M).heap.size := HS.out.bel.size
    exact ⟨h.1.mono hle, h.2.1.mono hle, h.2.2.1.mono hle, h.2.2.2.mono hle⟩
  have HOM := Lib.hid hof0
  have g0 := qAccount x0
  have g1 := qFlow x0
  rw [decide_eq_false hA] at g0
  rw [decide_eq_false hF] at g1
  obtain ⟨p, cp, rfl, hcap, hml, hc⟩ := hv
  obtain ⟨g, o, rfl, y0'⟩ := hc 0 x0 hx
  rw [Nat.add_zero] at y0'
  have y0 := cell_later HS.out.bel y0'
  obtain ⟨nw, hnw⟩ : ∃ nw, ws.length = nw := ⟨_, rfl⟩
  rw [hnw] at HCA hcap hml h0 ⊢
  clear hm hs hc hx hA hF y0' hnw hof0
  obtain ⟨k0, k1, k2, k3, k4, k5, k6, k7, k8⟩ := HS.out.box.nine
  go_enter Tryz.func28, Tryz.ntmps28
  go_wp2_with fail
  clear k0 k1 k2 k3 k4 k5 k6 k7 k8
  refine HCA.out.mono ?_
  rintro en w1 ⟨c', f', e', l', M', rfl, hz, ho, hof, hb1⟩
  have HS1 := Lib.hid (HS.out.below hb1)
  have HZ := Lib.hid hz
  have HO := Lib.hid ho
  have HOF := Lib.hid hof
  obtain ⟨N, hN⟩ : ∃ N, stepE M ws = N := ⟨_, rfl⟩
  rw [hN]
  have HN := Lib.hid hN
  clear hz ho hof hb1 hN y0 g0 g1
  go_wp2_with (refine wpList_store_mast rfl 39 (.tmp 4) (.tmp 64) rfl (w.heap.size + 1) nil4 nil4 nil4 nil4 c' f' e' l' zeroM M' 39 rfl rfl HS1.out.res HO.out (by kernel_rfl) ?_; intro w4 hb4 hg4)
  have HBG := Lib.hid (HS1.out.bel.grown hg4 HS1.out.bel.size (fun j hj => by cases hj; exact Nat.le_succ _))
  have HX4 : Hid (N = 0 → M' = stepV M ws ∧ MastIn w4 c' f' e' l' M') := Lib.hid (fun h0 => by
    obtain ⟨h1, h2⟩ := HZ.out (by rw [HN.out]; exact h0)
    obtain ⟨o0, o1, o2, o3⟩ := HOF.out
    have hsz : (two0 w c f e l M).heap.size = w.heap.size + 2 := by simp [two0]
    have hP : ∀ b, (two0 w c f e l M).heap.size ≤ b → b ≠ w.heap.size + 1 := fun b hb e0 => by omega
    obtain ⟨p0, p1, p2, p3⟩ := HQ.out
    exact ⟨h1, mast_off h2 (o0 _ hP p0) (o1 _ hP p1) (o2 _ hP p2) (o3 _ hP p3) (fun b hb hlt => hg4.block b hlt (fun e0 => hb (Option.some.inj e0)))⟩)
  obtain ⟨c0, c1, c2, c3, c4, c5, c6, c7, c8⟩ := hb4.nine
  clear hb4 hg4
  exact bodyPost_ret (v := .tuple #[aggM c' f' e' l' M', .int .i64 N]) (by simp [results, Tryz.results28, go_sem, c0, c1, c2, c3, c4, c5, c6, c7, c8]) rfl ⟨_, _, _, _, M', by rw [HN.out], (fun h => HX4.out (by rw [← HN.out]; exact h)), HO.out, HOM.out _ _ _ _ HOF.out, HBG.out⟩
theorem rone_any (v c f e l : Value) (ws : List ByteArray) (M : Mast) (w : World) (hm : MastIn w c f e l M) (hs : Sane M) (hv : StrsV w v ws) (h0 : 0 < ws.length) :
    Calls Tryz.prog 28 #[aggM c f e l M, v] w (OneTold w c f e l M ws) := by
  obtain ⟨x0, hx⟩ : ∃ x, ws[0]? = some x := ⟨_, List.getElem?_eq_getElem h0⟩
  by_cases hA : x0 = tAccount
  · subst hA; exact one_account v c f e l ws M w hm hs hv hx
  · by_cases hF : x0 = Fl.tFlow
    · subst hF; exact one_flow v c f e l ws M w hm hs hv hx
    · exact one_small v c f e l ws M w hm hs hv x0 hx hA hF
end Go.Proofs.YticdmlijacnjbaaGreatDoor.Un
