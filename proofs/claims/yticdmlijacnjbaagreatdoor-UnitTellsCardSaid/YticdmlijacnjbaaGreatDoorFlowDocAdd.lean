
/- The walk of the document's Add of flows: one more put in from the left, or the number of what is wrong. What was there stays. -/
import Derived.Test.YticdmlijacnjbaaGreatDoorChartDocAdd
import Derived.Test.YticdmlijacnjbaaGreatDoorFlowDocKind
import Derived.Test.YticdmlijacnjbaaGreatDoorM12
namespace Go.Proofs.YticdmlijacnjbaaGreatDoor.Un
open Go.RowKit

theorem info_rflow : InfoE Tryz.prog 35 87 Fl.encF :=
  InfoE.of (z := .agg #[.string ⟨#[]⟩, .int .i64 0]) (n := 24) Tryz.underlying35 (by kernel_rfl) (by kernel_rfl) (by decide)
theorem placeF_eq : ∀ (L : List Fl.Flow) (c : ByteArray), placeK Fl.Flow.code L c = G.placeK Fl.Flow.code L c
  | [], _ => rfl
  | a :: L, c => by
    have ih := placeF_eq L c
    simp only [placeK, G.placeK]
    rw [ih]; rfl
theorem insF_eq (L : List Fl.Flow) (x : Fl.Flow) : insK Fl.Flow.code L x = G.insK Fl.Flow.code L x := by
  unfold insK G.insK
  rw [placeF_eq]
theorem findF_eq : ∀ (L : List Fl.Flow) (c : ByteArray), findK Fl.Flow.code L c = G.findK Fl.Flow.code L c
  | [], _ => rfl
  | a :: L, c => by
    have ih := findF_eq L c
    simp only [findK, G.findK]
    rw [ih]
theorem insF_eqR {L : List Fl.Flow} {x : Fl.Flow} (hr : riseK Fl.Flow.code L = true) (h : Fl.findF L x.code = none) : insK Fl.Flow.code L x = G.insR Fl.Flow.code L x := by
  rw [insF_eq, G.insR_eq (by rw [← riseF_eq]; exact hr) (by rw [← findF_eq]; exact h)]
theorem noneF_all {L : List Fl.Flow} {c : ByteArray} (h : (Fl.findF L c).isSome = false) : ∀ (j : Nat) (y : Fl.Flow), L[j]? = some y → y.code ≠ c := fun j y hy e => by
  cases hf : Fl.findF L c with
  | some z => rw [hf] at h; cases h
  | none => exact findK_no hf y (List.mem_of_getElem? hy) e
set_option maxRecDepth 100000 in
set_option maxHeartbeats 8000000 in
theorem rfadd_any (v : Value) (L : List Fl.Flow) (x : Fl.Flow) (w : World) (h : Fl.FlowsV w v L) (hr : riseK Fl.Flow.code L = true) (hL : L.length ≤ 1000) :
    Calls Tryz.prog 58 #[v, Fl.aggL x] w (ListTold Fl.encF w v (G.insR Fl.Flow.code L x) (Fl.addE L x)) := by
  have hB0 := (Below.refl w.heap.size w).alloc (Nat.le_refl _) (.cells (Fl.encF.cs x).toArray 87)
  have HX := Lib.hid (BoxE.new Fl.encF w x 87)
  have HV := Lib.hid (h.keep hB0)
  have HB := Lib.hid hB0
  have HF := Lib.hid (rkind_any v L x.code (w.alloc (.cells (Fl.encF.cs x).toArray 87)) HV.out)
  have HOF := Lib.hid (fun W (hW : Fl.FlowsV W v L) => Fl.rof_any v L x.kind W hW hL)
  obtain ⟨p, c, e, hcap, hm, _, hc⟩ := HV.out
  subst e
  obtain ⟨n, hn⟩ : ∃ n, L.length = n := ⟨_, rfl⟩
  rw [hn] at hcap hL HV HF HOF ⊢
  obtain ⟨FA, hFA⟩ : ∃ FA, kindO' (Fl.findF L x.code) = FA := ⟨_, rfl⟩
  obtain ⟨IS, hIS⟩ : ∃ IS, (Fl.findF L x.code).isSome = IS := ⟨_, rfl⟩
  rw [hFA, hIS] at HF
  obtain ⟨RT, hRT⟩ : ∃ RT, Fl.rightF x = RT := ⟨_, rfl⟩
  have HRI := Lib.hid (Fl.rright_any x)
  rw [hRT] at HRI
  obtain ⟨OF, hOF⟩ : ∃ OF, Fl.ofF L x.kind = OF := ⟨_, rfl⟩
  rw [hOF] at HOF
  obtain ⟨m, hmm⟩ : ∃ m, OF.length = m := ⟨_, rfl⟩
  have hmb : m ≤ n := by rw [← hmm, ← hOF, ← hn]; exact Fl.ofF_len_le L _
  obtain ⟨N, hN⟩ : ∃ N, Fl.addE L x = N := ⟨_, rfl⟩
  rw [hN]
  have HNE : Hid (N = if RT = false then 1 else if (IS || (decide (x.kind ≠ 1) && decide (0 < m))) = true then 7 else if 60 ≤ n then 4 else 0) := Lib.hid (by
    rw [← hN, ← hRT, ← hIS, ← hn, ← hmm, ← hOF, ← (isK_find hr x.code).1]; rfl)
  have HI := Lib.hid info_rflow
  have HN := Lib.hid hn
  have HMM := Lib.hid hmm
  have HISV := Lib.hid hIS
  unfold maxLen at hm
  obtain ⟨q0, q1⟩ := Fl.two HX.out.at0
  have HC0 := Lib.hid hc
  clear h hB0 hn hFA hIS hRT hN hc hmm hOF hr
  go_enter Tryz.func58, Tryz.ntmps58
  go_wp2_with fail
  refine HF.out.mono ?_
  rintro en w1 ⟨rfl, hb1⟩
  have HB1 := Lib.hid (HB.out.trans (hb1.mono HB.out.size))
  have HX1 := Lib.hid (HX.out.kept hb1)
  have HV1 := Lib.hid (HV.out.keep hb1)
  have HC1 := Lib.hid (els_keep HC0.out hb1)
  clear hb1 HF HB HX HV HC0 q0 q1
  obtain ⟨q0, q1⟩ := Fl.two HX1.out.at0
  go_wp2_with fail
  refine (HRI.out _).mono ?_
  rintro en w4 ⟨rfl, hb2⟩
  have HB2 := Lib.hid (HB1.out.trans (hb2.mono HB1.out.size))
  have HX2 := Lib.hid (HX1.out.kept hb2)
  have HV2 := Lib.hid (HV1.out.keep hb2)
  have HC2 := Lib.hid (els_keep HC1.out hb2)
  clear hb2 HX1 HV1 HB1 HC1 HRI q0 q1
  obtain ⟨q0, q1⟩ := Fl.two HX2.out.at0
  have hmz : (m : Int) ≤ 1000 := by omega
  cases RT with
  | false =>
    have HRS : Hid (N = 1) := Lib.hid (by rw [HNE.out, if_pos rfl])
    go_wp2
    go_ret2
    rw [HRS.out]
    exact ⟨_, rfl, fun _ => rfl, fun h => absurd h (by decide), HB2.out⟩
  | true =>
    cases IS with
    | true =>
      have HRS : Hid (N = 7) := Lib.hid (by rw [HNE.out]; rfl)
      go_wp2
      go_ret2
      rw [HRS.out]
      exact ⟨_, rfl, fun _ => rfl, fun h => absurd h (by decide), HB2.out⟩
    | false =>
      have HNO := Lib.hid (noneF_all HISV.out)
      clear HISV
      by_cases hk : x.kind = 1
      · have hkz : (x.kind != 1) = false := by simp [hk]
        have HKK : Hid (decide (x.kind ≠ 1) = false) := Lib.hid (by simp [hk])
        clear hk
        have HX3 := HX2
        have HV3 := HV2
        have HB3 := HB2
        have HC := HC2
        by_cases h60 : 60 ≤ n
        · have HRS : Hid (N = 4) := Lib.hid (by rw [HNE.out]; simp only [HKK.out, Bool.false_and, Bool.or_self, Bool.false_eq_true, Bool.true_eq_false, if_false]; exact if_pos h60)
          go_wp2
          go_ret2
          rw [HRS.out]
          exact ⟨_, rfl, fun _ => rfl, fun h => absurd h (by decide), HB3.out⟩
        · have HRS : Hid (N = 0) := Lib.hid (by rw [HNE.out]; simp only [HKK.out, Bool.false_and, Bool.or_self, Bool.false_eq_true, Bool.true_eq_false, if_false]; exact if_neg h60)
          have HST : Hid (InsAt Fl.encF Fl.Flow.code 87 w4 w4 L x 0 (.slice none 0 0)) := Lib.hid ⟨World.ownsRow_nil _ _ _ _, Below.refl _ _, fun j y _ hy => HNO.out j y hy⟩
          go_wp2
          go_loopw [8, 9, 10] (fun s6 s7 s8 wr => ∃ (i : Nat) (v6 : Value), i ≤ n ∧ s8 = .int .i64 (i : Int) ∧ v6 = s6 ∧ s7 = .bool (G.doneR Fl.Flow.code (L.take i) x) ∧ Hid (InsAt Fl.encF Fl.Flow.code 87 w4 wr L x i v6)) (fun _ _ s8 _ => n - (intOf s8).toNat)
          case atStart => exact ⟨0, _, Nat.zero_le _, rfl, rfl, rfl, HST⟩
          case round =>
            obtain ⟨i, v6, hi, rfl, rfl, rfl, HA⟩ := hrel
            by_cases hlt : i < n
            · obtain ⟨y, hy⟩ : ∃ y, L[i]? = some y := ⟨_, List.getElem?_eq_getElem (by rw [HN.out]; exact hlt)⟩
              obtain ⟨b, o, rfl, hat⟩ := HC.out i y hy
              obtain ⟨d0, d1⟩ := Fl.two (hat.keep HA.out.bel hat.lt)
              obtain ⟨q0, q1⟩ := Fl.two ((HX3.out.keep HA.out.bel HX3.out.lt).at0)
              have HY := Lib.hid hy
              have HAT := Lib.hid hat
              have HTK : Hid (L.take (i + 1) = L.take i ++ [y]) := Lib.hid (by rw [List.take_succ_eq_append_getElem (by rw [HN.out]; exact hlt), (List.getElem?_eq_some_iff.1 hy).2])
              obtain ⟨D, hD⟩ : ∃ D, G.doneR Fl.Flow.code (L.take i) x = D := ⟨_, rfl⟩
              have HD := Lib.hid hD
              rw [hD]
              clear hy hat hD
              have HYE := Lib.hid (HNO.out i y HY.out)
              cases D with
              | true =>
                go_wp2_with fail
                go_big_quiet (fail)
                have HA2 := Lib.hid (HA.out.drewN nq)
                clear d0 d1 q0 q1 HA
                generalize wr.drewN nq = w2 at *
                obtain ⟨d0, d1⟩ := Fl.two (HAT.out.keep HA2.out.bel HAT.out.lt)
                obtain ⟨q0, q1⟩ := Fl.two ((HX3.out.keep HA2.out.bel HX3.out.lt).at0)
                have HBN := Lib.hid ((Below.refl w2.heap.size w2).alloc (Nat.le_refl _) (.cells (Fl.encF.cs y).toArray 87))
                go_wp2_with (at_builtin; refine wpList_append_el (E := Fl.encF) rfl _ _ 35 87 rfl HI.out w4.heap.size _ y w2.heap.size (HA2.out.own.alloc _) rfl (el_new Fl.encF w2 y _) (by have := HA2.out.bel.size; simp; omega) (mid_small HN.out hL) ?_; intro v9 w9 hr9 hb9 hg9)
                have HA9 : Hid (InsAt Fl.encF Fl.Flow.code 87 w4 w9 L x (i + 1) v9) := Lib.hid ⟨by rw [HTK.out, G.midR_there y HD.out]; exact hr9, (HA2.out.bel.trans (HBN.out.mono HA2.out.bel.size)).trans hb9, no_snoc HA2.out.no HY.out HYE.out⟩
                have HD9 : Hid (G.doneR Fl.Flow.code (L.take (i + 1)) x = true) := Lib.hid (by rw [HTK.out, G.doneR_snoc, HD.out]; first | rfl | (rw [HLT.out]; rfl))
                clear hr9 hb9 hg9 d0 d1 q0 q1
                go_wp2
                go_roundw
                case rel => exact ⟨i + 1, _, by omega, by go_num, rfl, by rw [HD9.out], HA9⟩
                case measure => simp [intOf]; omega
              | false =>
                cases hlx : gtS y.code x.code with
                | true =>
                  have HLT : Hid (G.KeyO.lt (Fl.Flow.code x) (Fl.Flow.code y) = true) := Lib.hid ((gtS_iff _ _).1 hlx)
                  unfold gtS ltS at hlx
                  simp only [Bool.not_eq_true', Bool.or_eq_false_iff] at hlx
                  obtain ⟨g1, g2⟩ := hlx
                  go_wp2_with fail
                  go_big_quiet (fail)
                  clear g1 g2
                  have HA2 := Lib.hid (HA.out.drewN nq)
                  clear d0 d1 q0 q1 HA
                  generalize wr.drewN nq = w2 at *
                  obtain ⟨d0, d1⟩ := Fl.two (HAT.out.keep HA2.out.bel HAT.out.lt)
                  obtain ⟨q0, q1⟩ := Fl.two ((HX3.out.keep HA2.out.bel HX3.out.lt).at0)
                  have HBN := Lib.hid ((Below.refl w2.heap.size w2).alloc (Nat.le_refl _) (.cells (Fl.encF.cs x).toArray 87))
                  go_wp2_with (at_builtin; first
                    | (refine wpList_append_el (E := Fl.encF) rfl _ _ 35 87 rfl HI.out w4.heap.size _ x w2.heap.size (HA2.out.own.alloc _) rfl (el_new Fl.encF w2 x _) (by have := HA2.out.bel.size; simp; omega) (mid_small HN.out hL) ?_; intro v8 w8 hr8 hb8 hg8; have HB8 : Hid (Below w4.heap.size w4 w8) := Lib.hid ((HA2.out.bel.trans (HBN.out.mono HA2.out.bel.size)).trans hb8); have HO8 := Lib.hid hr8; have HB9 := Lib.hid ((Below.refl w8.heap.size w8).alloc (Nat.le_refl _) (.cells (Fl.encF.cs y).toArray 87)); clear d0 d1 q0 q1 hr8 hb8 hg8; obtain ⟨d0, d1⟩ := Fl.two (HAT.out.keep HB8.out HAT.out.lt))
                    | (refine wpList_append_el (E := Fl.encF) rfl _ _ 35 87 rfl HI.out w4.heap.size _ y w8.heap.size (HO8.out.alloc _) rfl (el_new Fl.encF w8 y _) (by have := HB8.out.size; simp; omega) (mid_small1 HN.out hL) ?_; intro v9 w9 hr9 hb9 hg9)
                    | fail)
                  have HA9 : Hid (InsAt Fl.encF Fl.Flow.code 87 w4 w9 L x (i + 1) v9) := Lib.hid ⟨by rw [HTK.out, G.midR_now HD.out HLT.out]; exact hr9, (HB8.out.trans (HB9.out.mono HB8.out.size)).trans hb9, no_snoc HA2.out.no HY.out HYE.out⟩
                  have HD9 : Hid (G.doneR Fl.Flow.code (L.take (i + 1)) x = true) := Lib.hid (by rw [HTK.out, G.doneR_snoc, HD.out, HLT.out]; rfl)
                  clear hr9 hb9 hg9 d0 d1
                  go_wp2
                  go_roundw
                  case rel => exact ⟨i + 1, _, by omega, by go_num, rfl, by rw [HD9.out], HA9⟩
                  case measure => simp [intOf]; omega
                | false =>
                  have HLT : Hid (G.KeyO.lt (Fl.Flow.code x) (Fl.Flow.code y) = false) := Lib.hid (by
                    cases hh : G.KeyO.lt (Fl.Flow.code x) (Fl.Flow.code y) with
                    | false => rfl
                    | true => rw [(gtS_iff y.code x.code).2 hh] at hlx; cases hlx)
                  unfold gtS ltS at hlx
                  simp only [Bool.not_eq_false'] at hlx
                  go_wp2_with fail
                  go_big_quiet (fail)
                  clear hlx
                  have HA2 := Lib.hid (HA.out.drewN nq)
                  clear d0 d1 q0 q1 HA
                  generalize wr.drewN nq = w2 at *
                  obtain ⟨d0, d1⟩ := Fl.two (HAT.out.keep HA2.out.bel HAT.out.lt)
                  obtain ⟨q0, q1⟩ := Fl.two ((HX3.out.keep HA2.out.bel HX3.out.lt).at0)
                  have HBN := Lib.hid ((Below.refl w2.heap.size w2).alloc (Nat.le_refl _) (.cells (Fl.encF.cs y).toArray 87))
                  go_wp2_with (at_builtin; refine wpList_append_el (E := Fl.encF) rfl _ _ 35 87 rfl HI.out w4.heap.size _ y w2.heap.size (HA2.out.own.alloc _) rfl (el_new Fl.encF w2 y _) (by have := HA2.out.bel.size; simp; omega) (mid_small HN.out hL) ?_; intro v9 w9 hr9 hb9 hg9)
                  have HA9 : Hid (InsAt Fl.encF Fl.Flow.code 87 w4 w9 L x (i + 1) v9) := Lib.hid ⟨by rw [HTK.out, G.midR_not HD.out HLT.out]; exact hr9, (HA2.out.bel.trans (HBN.out.mono HA2.out.bel.size)).trans hb9, no_snoc HA2.out.no HY.out HYE.out⟩
                  have HD9 : Hid (G.doneR Fl.Flow.code (L.take (i + 1)) x = false) := Lib.hid (by rw [HTK.out, G.doneR_snoc, HD.out]; first | rfl | (rw [HLT.out]; rfl))
                  clear hr9 hb9 hg9 d0 d1 q0 q1
                  go_wp2
                  go_roundw
                  case rel => exact ⟨i + 1, _, by omega, by go_num, rfl, by rw [HD9.out], HA9⟩
                  case measure => simp [intOf]; omega
            · have hTA : Hid (L.take i = L) := Lib.hid (List.take_of_length_le (by rw [HN.out]; omega))
              rw [hTA.out]
              obtain ⟨D, hD⟩ : ∃ D, G.doneR Fl.Flow.code L x = D := ⟨_, rfl⟩
              have HD := Lib.hid hD
              rw [hD]
              clear hD
              have HO := Lib.hid HA.out.own
              rw [hTA.out] at HO
              cases D with
              | true =>
                go_wp2
                go_ret2
                rw [HRS.out]
                exact ⟨_, rfl, fun h => absurd rfl h, fun _ => ⟨_, by rw [← G.midR_end HD.out]; exact row_base HO.out HB3.out.size⟩, HB3.out.trans (HA.out.bel.mono HB3.out.size)⟩
              | false =>
                obtain ⟨q0, q1⟩ := Fl.two ((HX3.out.keep HA.out.bel HX3.out.lt).at0)
                have HBN := Lib.hid ((Below.refl wr.heap.size wr).alloc (Nat.le_refl _) (.cells (Fl.encF.cs x).toArray 87))
                go_wp2_with (at_builtin; refine wpList_append_el (E := Fl.encF) rfl _ _ 35 87 rfl HI.out w4.heap.size _ x wr.heap.size (HO.out.alloc _) rfl (el_new Fl.encF wr x _) (by have := HA.out.bel.size; simp; omega) (mid_small0 HN.out hL) ?_; intro v9 w9 hr9 hb9 hg9)
                have HO9 := Lib.hid hr9
                have HB9 := Lib.hid ((HA.out.bel.trans (HBN.out.mono HA.out.bel.size)).trans hb9)
                clear hr9 hb9 hg9 q0 q1
                go_wp2
                go_ret2
                rw [HRS.out]
                exact ⟨_, rfl, fun h => absurd rfl h, fun _ => ⟨_, by rw [← G.midR_last HD.out]; exact row_base HO9.out HB3.out.size⟩, HB3.out.trans (HB9.out.mono HB3.out.size)⟩
      · have hkz : (x.kind != 1) = true := by simp [hk]
        have HKK : Hid (decide (x.kind ≠ 1) = true) := Lib.hid (by simp [hk])
        clear hk
        go_wp2_with fail
        refine (HOF.out _ HV2.out).mono ?_
        rintro en w3 ⟨v3, rfl, ⟨p3, c3, rfl, _, hm3, _⟩, hb3⟩
        rw [HMM.out] at hm3 ⊢
        have HB3 := Lib.hid (HB2.out.trans (hb3.mono HB2.out.size))
        have HX3 := Lib.hid (HX2.out.kept hb3)
        have HV3 := Lib.hid (HV2.out.keep hb3)
        have HC := Lib.hid (els_keep HC2.out hb3)
        clear hb3 HX2 HV2 HB2 HC2 HOF q0 q1
        by_cases hm0 : 0 < m
        · have hmp : decide ((0 : Int) < (m : Int)) = true := decide_eq_true (by omega)
          have hmq : decide (0 < m) = true := decide_eq_true hm0
          have HRS : Hid (N = 7) := Lib.hid (by rw [HNE.out, HKK.out, decide_eq_true hm0]; rfl)
          go_wp2
          go_ret2
          rw [HRS.out]
          exact ⟨_, rfl, fun _ => rfl, fun h => absurd h (by decide), HB3.out⟩
        · have hmp : decide ((0 : Int) < (m : Int)) = false := decide_eq_false (by omega)
          have hmq : decide (0 < m) = false := decide_eq_false hm0
          have HMZ : Hid (decide (0 < m) = false) := Lib.hid (decide_eq_false hm0)
          clear hm0
          by_cases h60 : 60 ≤ n
          · have HRS : Hid (N = 4) := Lib.hid (by rw [HNE.out]; simp only [HKK.out, HMZ.out, Bool.and_false, Bool.or_self, Bool.false_eq_true, Bool.true_eq_false, if_false]; exact if_pos h60)
            go_wp2
            go_ret2
            rw [HRS.out]
            exact ⟨_, rfl, fun _ => rfl, fun h => absurd h (by decide), HB3.out⟩
          · have HRS : Hid (N = 0) := Lib.hid (by rw [HNE.out]; simp only [HKK.out, HMZ.out, Bool.and_false, Bool.or_self, Bool.false_eq_true, Bool.true_eq_false, if_false]; exact if_neg h60)
            have HST : Hid (InsAt Fl.encF Fl.Flow.code 87 w3 w3 L x 0 (.slice none 0 0)) := Lib.hid ⟨World.ownsRow_nil _ _ _ _, Below.refl _ _, fun j y _ hy => HNO.out j y hy⟩
            go_wp2
            go_loopw [8, 9, 10] (fun s6 s7 s8 wr => ∃ (i : Nat) (v6 : Value), i ≤ n ∧ s8 = .int .i64 (i : Int) ∧ v6 = s6 ∧ s7 = .bool (G.doneR Fl.Flow.code (L.take i) x) ∧ Hid (InsAt Fl.encF Fl.Flow.code 87 w3 wr L x i v6)) (fun _ _ s8 _ => n - (intOf s8).toNat)
            case atStart => exact ⟨0, _, Nat.zero_le _, rfl, rfl, rfl, HST⟩
            case round =>
              obtain ⟨i, v6, hi, rfl, rfl, rfl, HA⟩ := hrel
              by_cases hlt : i < n
              · obtain ⟨y, hy⟩ : ∃ y, L[i]? = some y := ⟨_, List.getElem?_eq_getElem (by rw [HN.out]; exact hlt)⟩
                obtain ⟨b, o, rfl, hat⟩ := HC.out i y hy
                obtain ⟨d0, d1⟩ := Fl.two (hat.keep HA.out.bel hat.lt)
                obtain ⟨q0, q1⟩ := Fl.two ((HX3.out.keep HA.out.bel HX3.out.lt).at0)
                have HY := Lib.hid hy
                have HAT := Lib.hid hat
                have HTK : Hid (L.take (i + 1) = L.take i ++ [y]) := Lib.hid (by rw [List.take_succ_eq_append_getElem (by rw [HN.out]; exact hlt), (List.getElem?_eq_some_iff.1 hy).2])
                obtain ⟨D, hD⟩ : ∃ D, G.doneR Fl.Flow.code (L.take i) x = D := ⟨_, rfl⟩
                have HD := Lib.hid hD
                rw [hD]
                clear hy hat hD
                have HYE := Lib.hid (HNO.out i y HY.out)
                cases D with
                | true =>
                  go_wp2_with fail
                  go_big_quiet (fail)
                  have HA2 := Lib.hid (HA.out.drewN nq)
                  clear d0 d1 q0 q1 HA
                  generalize wr.drewN nq = w2 at *
                  obtain ⟨d0, d1⟩ := Fl.two (HAT.out.keep HA2.out.bel HAT.out.lt)
                  obtain ⟨q0, q1⟩ := Fl.two ((HX3.out.keep HA2.out.bel HX3.out.lt).at0)
                  have HBN := Lib.hid ((Below.refl w2.heap.size w2).alloc (Nat.le_refl _) (.cells (Fl.encF.cs y).toArray 87))
                  go_wp2_with (at_builtin; refine wpList_append_el (E := Fl.encF) rfl _ _ 35 87 rfl HI.out w3.heap.size _ y w2.heap.size (HA2.out.own.alloc _) rfl (el_new Fl.encF w2 y _) (by have := HA2.out.bel.size; simp; omega) (mid_small HN.out hL) ?_; intro v9 w9 hr9 hb9 hg9)
                  have HA9 : Hid (InsAt Fl.encF Fl.Flow.code 87 w3 w9 L x (i + 1) v9) := Lib.hid ⟨by rw [HTK.out, G.midR_there y HD.out]; exact hr9, (HA2.out.bel.trans (HBN.out.mono HA2.out.bel.size)).trans hb9, no_snoc HA2.out.no HY.out HYE.out⟩
                  have HD9 : Hid (G.doneR Fl.Flow.code (L.take (i + 1)) x = true) := Lib.hid (by rw [HTK.out, G.doneR_snoc, HD.out]; first | rfl | (rw [HLT.out]; rfl))
                  clear hr9 hb9 hg9 d0 d1 q0 q1
                  go_wp2
                  go_roundw
                  case rel => exact ⟨i + 1, _, by omega, by go_num, rfl, by rw [HD9.out], HA9⟩
                  case measure => simp [intOf]; omega
                | false =>
                  cases hlx : gtS y.code x.code with
                  | true =>
                    have HLT : Hid (G.KeyO.lt (Fl.Flow.code x) (Fl.Flow.code y) = true) := Lib.hid ((gtS_iff _ _).1 hlx)
                    unfold gtS ltS at hlx
                    simp only [Bool.not_eq_true', Bool.or_eq_false_iff] at hlx
                    obtain ⟨g1, g2⟩ := hlx
                    go_wp2_with fail
                    go_big_quiet (fail)
                    clear g1 g2
                    have HA2 := Lib.hid (HA.out.drewN nq)
                    clear d0 d1 q0 q1 HA
                    generalize wr.drewN nq = w2 at *
                    obtain ⟨d0, d1⟩ := Fl.two (HAT.out.keep HA2.out.bel HAT.out.lt)
                    obtain ⟨q0, q1⟩ := Fl.two ((HX3.out.keep HA2.out.bel HX3.out.lt).at0)
                    have HBN := Lib.hid ((Below.refl w2.heap.size w2).alloc (Nat.le_refl _) (.cells (Fl.encF.cs x).toArray 87))
                    go_wp2_with (at_builtin; first
                      | (refine wpList_append_el (E := Fl.encF) rfl _ _ 35 87 rfl HI.out w3.heap.size _ x w2.heap.size (HA2.out.own.alloc _) rfl (el_new Fl.encF w2 x _) (by have := HA2.out.bel.size; simp; omega) (mid_small HN.out hL) ?_; intro v8 w8 hr8 hb8 hg8; have HB8 : Hid (Below w3.heap.size w3 w8) := Lib.hid ((HA2.out.bel.trans (HBN.out.mono HA2.out.bel.size)).trans hb8); have HO8 := Lib.hid hr8; have HB9 := Lib.hid ((Below.refl w8.heap.size w8).alloc (Nat.le_refl _) (.cells (Fl.encF.cs y).toArray 87)); clear d0 d1 q0 q1 hr8 hb8 hg8; obtain ⟨d0, d1⟩ := Fl.two (HAT.out.keep HB8.out HAT.out.lt))
                      | (refine wpList_append_el (E := Fl.encF) rfl _ _ 35 87 rfl HI.out w3.heap.size _ y w8.heap.size (HO8.out.alloc _) rfl (el_new Fl.encF w8 y _) (by have := HB8.out.size; simp; omega) (mid_small1 HN.out hL) ?_; intro v9 w9 hr9 hb9 hg9)
                      | fail)
                    have HA9 : Hid (InsAt Fl.encF Fl.Flow.code 87 w3 w9 L x (i + 1) v9) := Lib.hid ⟨by rw [HTK.out, G.midR_now HD.out HLT.out]; exact hr9, (HB8.out.trans (HB9.out.mono HB8.out.size)).trans hb9, no_snoc HA2.out.no HY.out HYE.out⟩
                    have HD9 : Hid (G.doneR Fl.Flow.code (L.take (i + 1)) x = true) := Lib.hid (by rw [HTK.out, G.doneR_snoc, HD.out, HLT.out]; rfl)
                    clear hr9 hb9 hg9 d0 d1
                    go_wp2
                    go_roundw
                    case rel => exact ⟨i + 1, _, by omega, by go_num, rfl, by rw [HD9.out], HA9⟩
                    case measure => simp [intOf]; omega
                  | false =>
                    have HLT : Hid (G.KeyO.lt (Fl.Flow.code x) (Fl.Flow.code y) = false) := Lib.hid (by
                      cases hh : G.KeyO.lt (Fl.Flow.code x) (Fl.Flow.code y) with
                      | false => rfl
                      | true => rw [(gtS_iff y.code x.code).2 hh] at hlx; cases hlx)
                    unfold gtS ltS at hlx
                    simp only [Bool.not_eq_false'] at hlx
                    go_wp2_with fail
                    go_big_quiet (fail)
                    clear hlx
                    have HA2 := Lib.hid (HA.out.drewN nq)
                    clear d0 d1 q0 q1 HA
                    generalize wr.drewN nq = w2 at *
                    obtain ⟨d0, d1⟩ := Fl.two (HAT.out.keep HA2.out.bel HAT.out.lt)
                    obtain ⟨q0, q1⟩ := Fl.two ((HX3.out.keep HA2.out.bel HX3.out.lt).at0)
                    have HBN := Lib.hid ((Below.refl w2.heap.size w2).alloc (Nat.le_refl _) (.cells (Fl.encF.cs y).toArray 87))
                    go_wp2_with (at_builtin; refine wpList_append_el (E := Fl.encF) rfl _ _ 35 87 rfl HI.out w3.heap.size _ y w2.heap.size (HA2.out.own.alloc _) rfl (el_new Fl.encF w2 y _) (by have := HA2.out.bel.size; simp; omega) (mid_small HN.out hL) ?_; intro v9 w9 hr9 hb9 hg9)
                    have HA9 : Hid (InsAt Fl.encF Fl.Flow.code 87 w3 w9 L x (i + 1) v9) := Lib.hid ⟨by rw [HTK.out, G.midR_not HD.out HLT.out]; exact hr9, (HA2.out.bel.trans (HBN.out.mono HA2.out.bel.size)).trans hb9, no_snoc HA2.out.no HY.out HYE.out⟩
                    have HD9 : Hid (G.doneR Fl.Flow.code (L.take (i + 1)) x = false) := Lib.hid (by rw [HTK.out, G.doneR_snoc, HD.out]; first | rfl | (rw [HLT.out]; rfl))
                    clear hr9 hb9 hg9 d0 d1 q0 q1
                    go_wp2
                    go_roundw
                    case rel => exact ⟨i + 1, _, by omega, by go_num, rfl, by rw [HD9.out], HA9⟩
                    case measure => simp [intOf]; omega
              · have hTA : Hid (L.take i = L) := Lib.hid (List.take_of_length_le (by rw [HN.out]; omega))
                rw [hTA.out]
                obtain ⟨D, hD⟩ : ∃ D, G.doneR Fl.Flow.code L x = D := ⟨_, rfl⟩
                have HD := Lib.hid hD
                rw [hD]
                clear hD
                have HO := Lib.hid HA.out.own
                rw [hTA.out] at HO
                cases D with
                | true =>
                  go_wp2
                  go_ret2
                  rw [HRS.out]
                  exact ⟨_, rfl, fun h => absurd rfl h, fun _ => ⟨_, by rw [← G.midR_end HD.out]; exact row_base HO.out HB3.out.size⟩, HB3.out.trans (HA.out.bel.mono HB3.out.size)⟩
                | false =>
                  obtain ⟨q0, q1⟩ := Fl.two ((HX3.out.keep HA.out.bel HX3.out.lt).at0)
                  have HBN := Lib.hid ((Below.refl wr.heap.size wr).alloc (Nat.le_refl _) (.cells (Fl.encF.cs x).toArray 87))
                  go_wp2_with (at_builtin; refine wpList_append_el (E := Fl.encF) rfl _ _ 35 87 rfl HI.out w3.heap.size _ x wr.heap.size (HO.out.alloc _) rfl (el_new Fl.encF wr x _) (by have := HA.out.bel.size; simp; omega) (mid_small0 HN.out hL) ?_; intro v9 w9 hr9 hb9 hg9)
                  have HO9 := Lib.hid hr9
                  have HB9 := Lib.hid ((HA.out.bel.trans (HBN.out.mono HA.out.bel.size)).trans hb9)
                  clear hr9 hb9 hg9 q0 q1
                  go_wp2
                  go_ret2
                  rw [HRS.out]
                  exact ⟨_, rfl, fun h => absurd rfl h, fun _ => ⟨_, by rw [← G.midR_last HD.out]; exact row_base HO9.out HB3.out.size⟩, HB3.out.trans (HB9.out.mono HB3.out.size)⟩
end Go.Proofs.YticdmlijacnjbaaGreatDoor.Un
