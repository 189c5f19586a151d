
/- The walk of CodecBack: cubes come back from their texts, texts from their cubes; unlike cubes have unlike texts. -/
import Derived.Test.YtdnneognilffaaaDoorCdAlive
import Derived.Test.YtdnneognilffaaaDoorCdCounts
import Derived.Test.YtdnneognilffaaaDoorFaOurs
namespace Go.Proofs.YtdnneognilffaaaDoor.Cd
open Go.Proofs.YtdnneognilffaaaDoor.Fa Go.RowKit

theorem fits_of {c : List Fact} (h : fewL c = true) : c.length ≤ 100000 := by have := few_length h; omega
theorem text_short {c : List Fact} (hok : okC c = true) (hz : In64s c) (hf : fewL c = true) : (mkB (textL c)).size ≤ 50000 := by
  have := textL_le hok hz.fit (by have := few_length hf; omega)
  have := few_length hf
  rw [mkB_size]
  omega
theorem text_small {c : List Fact} (hok : okC c = true) (hz : In64s c) (hf : fewL c = true) : (mkB (textL c)).size ≤ 100000 := Nat.le_trans (text_short hok hz hf) (by decide)
theorem eqL (x y : ByteArray) : (x.toList == y.toList) = decide (x = y) := by
  rw [Bool.eq_iff_iff, beq_iff_eq, decide_eq_true_eq]
  exact ⟨toList_inj, fun h => by rw [h]⟩
theorem same_text {a b : List Fact} (ha : okC a = true) (hb : okC b = true) (fa : FitC a) (fb : FitC b) : ((mkB (textL a)).toList == (mkB (textL b)).toList) = sameL a b := by
  rw [eqL]
  unfold sameL
  rw [Bool.eq_iff_iff, decide_eq_true_eq, decide_eq_true_eq]
  exact ⟨fun h => text_inj ha hb fa fb (mkB_inj h), fun h => by rw [h]⟩
set_option maxRecDepth 100000 in
set_option maxHeartbeats 16000000 in
theorem codecBack_walk (va : Value) (a : List Fact) (vb : Value) (b : List Fact) (s : ByteArray) (w : World) (ha : FactsV w va a) (hza : ∀ f ∈ a, In64 f.key.m ∧ In64 f.amt) (hb : FactsV w vb b) (hzb : ∀ f ∈ b, In64 f.key.m ∧ In64 f.amt) (_hs : s.size ≤ maxLen) (hl : Laid w) : Calls Tryd.prog 3 #[va, vb, .string s] w fun e w' => e = .returned (.bool true) ∧ Below w.heap.size w w' := by
  have HA := Lib.hid ha
  have HB := Lib.hid hb
  have HZA := Lib.hid (show In64s a from hza)
  have HZB := Lib.hid (show In64s b from hzb)
  have HL := Lib.hid hl
  obtain ⟨pa, ca, rfl, _, _, _, _⟩ := ha
  obtain ⟨pb, cb, rfl, _, _, _, _⟩ := hb
  obtain ⟨na, hna⟩ : ∃ n, a.length = n := ⟨_, rfl⟩
  obtain ⟨nb, hnb⟩ : ∃ n, b.length = n := ⟨_, rfl⟩
  rw [hna] at HA ⊢
  rw [hnb] at HB ⊢
  clear hna hnb hza hzb hl _hs
  go_enter Tryd.func3, Tryd.ntmps3
  go_wp2_with fail
  refine (alive_any _ HL.out).mono ?_
  rintro e w1 ⟨rfl, hb1⟩
  have HB1 := Lib.hid hb1
  have HA1 := Lib.hid (HA.out.keep hb1)
  have HC1 := Lib.hid (HB.out.keep hb1)
  clear hb1 HA HB
  go_wp2_with fail
  refine (few_any _ a _ HA1.out).mono ?_
  rintro e w2 ⟨rfl, hb2⟩
  have HB2 := Lib.hid (HB1.out.trans (hb2.mono HB1.out.size))
  have HA2 := Lib.hid (HA1.out.keep hb2)
  have HC2 := Lib.hid (HC1.out.keep hb2)
  clear hb2 HA1 HC1 HB1
  cases hfa : fewL a with
  | false =>
    clear hfa
    go_wp2
    go_ret
    exact ⟨rfl, HB2.out⟩
  | true =>
    have HFA := Lib.hid hfa
    clear hfa
    go_wp2_with fail
    refine (few_any _ b _ HC2.out).mono ?_
    rintro e w3 ⟨rfl, hb3⟩
    have HB3 := Lib.hid (HB2.out.trans (hb3.mono HB2.out.size))
    have HA3 := Lib.hid (HA2.out.keep hb3)
    have HC3 := Lib.hid (HC2.out.keep hb3)
    clear hb3 HA2 HC2 HB2
    cases hfb : fewL b with
    | false =>
      clear hfb
      go_wp2
      go_ret
      exact ⟨rfl, HB3.out⟩
    | true =>
      have HFB := Lib.hid hfb
      clear hfb
      by_cases hs : s.size ≤ 6000
      · have hsz : ¬ (6000 : Int) < (s.size : Int) := by omega
        have HS := Lib.hid hs
        clear hs
        go_wp2_with fail
        refine (theirs_any _ a _ HA3.out (fits_of HFA.out)).mono ?_
        rintro e w4 ⟨v4, rfl, hr4, hb4⟩
        have HX4 := Lib.hid (els_of_own (E := encF) hr4)
        have HB4 := Lib.hid (HB3.out.trans (hb4.mono HB3.out.size))
        have HA4 := Lib.hid (HA3.out.keep hb4)
        have HC4 := Lib.hid (HC3.out.keep hb4)
        clear hr4 hb4 HA3 HC3 HB3
        go_wp2_with fail
        refine (cprint_any _ a _ HX4.out (fits_of HFA.out) HZA.out (HL.out.below HB4.out)).mono ?_
        rintro e w5 ⟨rfl, hb5⟩
        have HB5 := Lib.hid (HB4.out.trans (hb5.mono HB4.out.size))
        have HA5 := Lib.hid (HA4.out.keep hb5)
        have HC5 := Lib.hid (HC4.out.keep hb5)
        clear hb5 HX4 HA4 HC4 HB4
        obtain ⟨X, hX⟩ : ∃ X, prS a = X := ⟨_, rfl⟩
        obtain ⟨E, hE⟩ : ∃ E, prE a = E := ⟨_, rfl⟩
        rw [hX, hE]
        have HXE := Lib.hid (And.intro hX hE)
        clear hX hE
        go_wp2_with fail
        refine (theirs_any _ b _ HC5.out (fits_of HFB.out)).mono ?_
        rintro e w6 ⟨v6, rfl, hr6, hb6⟩
        have HX6 := Lib.hid (els_of_own (E := encF) hr6)
        have HB6 := Lib.hid (HB5.out.trans (hb6.mono HB5.out.size))
        have HA6 := Lib.hid (HA5.out.keep hb6)
        have HC6 := Lib.hid (HC5.out.keep hb6)
        clear hr6 hb6 HA5 HC5 HB5
        go_wp2_with fail
        refine (cprint_any _ b _ HX6.out (fits_of HFB.out) HZB.out (HL.out.below HB6.out)).mono ?_
        rintro e w7 ⟨rfl, hb7⟩
        have HB7 := Lib.hid (HB6.out.trans (hb7.mono HB6.out.size))
        have HA7 := Lib.hid (HA6.out.keep hb7)
        have HC7 := Lib.hid (HC6.out.keep hb7)
        clear hb7 HX6 HA6 HC6 HB6
        obtain ⟨Y, hY⟩ : ∃ Y, prS b = Y := ⟨_, rfl⟩
        obtain ⟨F, hF⟩ : ∃ F, prE b = F := ⟨_, rfl⟩
        rw [hY, hF]
        have HYF := Lib.hid (And.intro hY hF)
        clear hY hF
        have hxe := HXE.out
        cases hoa : okC a with
        | false =>
          rw [prS_no hoa, prE_no hoa] at hxe
          obtain ⟨-, rfl⟩ := hxe
          clear hoa HXE
          cases hps : parseP s.data.toList with
          | none =>
            have HPS := Lib.hid hps
            clear hps
            go_wp2_with fail
            refine (cparse_any s _ (Nat.le_trans HS.out (by decide)) (HL.out.below HB7.out)).mono ?_
            rintro e w20 ⟨v20, rfl, hv20, hb20⟩
            rw [(parsC_none HPS.out).1] at hv20
            rw [(parsC_none HPS.out).2]
            obtain ⟨p20, c20, rfl, _, _, _, _⟩ := hv20
            have HB20 := Lib.hid (HB7.out.trans (hb20.mono HB7.out.size))
            clear hb20
            rw [List.length_nil]
            go_wp2
            go_ret
            exact ⟨rfl, HB20.out⟩
          | some d =>
            have HPS := Lib.hid hps
            obtain ⟨hd1, hd2, hd3⟩ := parseP_some hps
            have HD := Lib.hid (And.intro hd1 hd2)
            have HZD : Hid (In64s d) := Lib.hid (readAll_in64 (by unfold readP at hd3; exact hd3))
            have HLD : Hid (d.length ≤ 100000) := Lib.hid (by have := (of_decide_eq_true (okC_right hd1) : RightP d).1; omega)
            clear hps hd1 hd2 hd3
            go_wp2_with fail
            refine (cparse_any s _ (Nat.le_trans HS.out (by decide)) (HL.out.below HB7.out)).mono ?_
            rintro e w20 ⟨v20, rfl, hv20, hb20⟩
            rw [(parsC_some HPS.out).1] at hv20
            rw [(parsC_some HPS.out).2]
            have HV20 := Lib.hid hv20
            have HB20 := Lib.hid (HB7.out.trans (hb20.mono HB7.out.size))
            obtain ⟨p20, c20, rfl, _, _, _, _⟩ := hv20
            clear hb20
            go_wp2_with fail
            refine (cprint_any _ d _ HV20.out HLD.out HZD.out (HL.out.below HB20.out)).mono ?_
            rintro e w21 ⟨rfl, hb21⟩
            rw [prS_yes HD.out.1, prE_yes HD.out.1, HD.out.2, mkB_list]
            have HB21 := Lib.hid (HB20.out.trans (hb21.mono HB20.out.size))
            clear hb21
            go_wp2
            go_ret
            exact ⟨rfl, HB21.out⟩
        | true =>
          rw [prS_yes hoa, prE_yes hoa] at hxe
          obtain ⟨hx, rfl⟩ := hxe
          have HOA := Lib.hid hoa
          have HXA := Lib.hid hx
          have HXZ : Hid (X.size ≤ 100000) := Lib.hid (by rw [← hx]; exact text_small hoa HZA.out HFA.out)
          have HXD : Hid (X.data.toList = textL a) := Lib.hid (by rw [← hx, mkB_data])
          have HPA := Lib.hid (parsC_some (parseP_text hoa HZA.out.fit))
          clear hoa hx HXE
          go_wp2_with fail
          refine (cparse_any X _ HXZ.out (HL.out.below HB7.out)).mono ?_
          rintro e w8 ⟨v8, rfl, hv8, hb8⟩
          rw [HXD.out, HPA.out.1] at hv8
          rw [HXD.out, HPA.out.2]
          have HV8 := Lib.hid hv8
          have HB8 := Lib.hid (HB7.out.trans (hb8.mono HB7.out.size))
          have HA8 := Lib.hid (HA7.out.keep hb8)
          have HC8 := Lib.hid (HC7.out.keep hb8)
          obtain ⟨p8, c8, rfl, _, _, _, _⟩ := hv8
          clear hb8 HA7 HC7 HB7
          go_wp2_with fail
          refine (ours_any _ a _ HV8.out (fits_of HFA.out)).mono ?_
          rintro e w9 ⟨v9, rfl, hr9, hb9⟩
          have HX9 := Lib.hid (els_of_own (E := encF) hr9)
          have HB9 := Lib.hid (HB8.out.trans (hb9.mono HB8.out.size))
          have HA9 := Lib.hid (HA8.out.keep hb9)
          have HC9 := Lib.hid (HC8.out.keep hb9)
          have HV9 := Lib.hid (HV8.out.keep hb9)
          clear hr9 hb9 HA8 HC8 HB8 HV8
          go_wp2_with fail
          have hS := Fa.same_any v9 _ a a w9 HX9.out HA9.out
          rw [show sameL a a = true from decide_eq_true rfl] at hS
          refine hS.mono ?_
          rintro e w10 ⟨rfl, hb10⟩
          have HB10 := Lib.hid (HB9.out.trans (hb10.mono HB9.out.size))
          have HA10 := Lib.hid (HA9.out.keep hb10)
          have HC10 := Lib.hid (HC9.out.keep hb10)
          have HV10 := Lib.hid (HV9.out.keep hb10)
          clear hS hb10 HX9 HA9 HC9 HB9 HV9
          go_wp2_with fail
          have hR := Fa.right_any _ a w10 HV10.out (fits_of HFA.out)
          rw [okC_right HOA.out] at hR
          refine hR.mono ?_
          rintro e w11 ⟨rfl, hb11⟩
          have HB11 := Lib.hid (HB10.out.trans (hb11.mono HB10.out.size))
          have HA11 := Lib.hid (HA10.out.keep hb11)
          have HC11 := Lib.hid (HC10.out.keep hb11)
          clear hR hb11 HA10 HC10 HB10 HV10
          have hyf := HYF.out
          cases hob : okC b with
          | false =>
            rw [prS_no hob, prE_no hob] at hyf
            obtain ⟨-, rfl⟩ := hyf
            clear hob HYF
            cases hps : parseP s.data.toList with
            | none =>
              have HPS := Lib.hid hps
              clear hps
              go_wp2_with fail
              refine (cparse_any s _ (Nat.le_trans HS.out (by decide)) (HL.out.below HB11.out)).mono ?_
              rintro e w20 ⟨v20, rfl, hv20, hb20⟩
              rw [(parsC_none HPS.out).1] at hv20
              rw [(parsC_none HPS.out).2]
              obtain ⟨p20, c20, rfl, _, _, _, _⟩ := hv20
              have HB20 := Lib.hid (HB11.out.trans (hb20.mono HB11.out.size))
              clear hb20
              rw [List.length_nil]
              go_wp2
              go_ret
              exact ⟨rfl, HB20.out⟩
            | some d =>
              have HPS := Lib.hid hps
              obtain ⟨hd1, hd2, hd3⟩ := parseP_some hps
              have HD := Lib.hid (And.intro hd1 hd2)
              have HZD : Hid (In64s d) := Lib.hid (readAll_in64 (by unfold readP at hd3; exact hd3))
              have HLD : Hid (d.length ≤ 100000) := Lib.hid (by have := (of_decide_eq_true (okC_right hd1) : RightP d).1; omega)
              clear hps hd1 hd2 hd3
              go_wp2_with fail
              refine (cparse_any s _ (Nat.le_trans HS.out (by decide)) (HL.out.below HB11.out)).mono ?_
              rintro e w20 ⟨v20, rfl, hv20, hb20⟩
              rw [(parsC_some HPS.out).1] at hv20
              rw [(parsC_some HPS.out).2]
              have HV20 := Lib.hid hv20
              have HB20 := Lib.hid (HB11.out.trans (hb20.mono HB11.out.size))
              obtain ⟨p20, c20, rfl, _, _, _, _⟩ := hv20
              clear hb20
              go_wp2_with fail
              refine (cprint_any _ d _ HV20.out HLD.out HZD.out (HL.out.below HB20.out)).mono ?_
              rintro e w21 ⟨rfl, hb21⟩
              rw [prS_yes HD.out.1, prE_yes HD.out.1, HD.out.2, mkB_list]
              have HB21 := Lib.hid (HB20.out.trans (hb21.mono HB20.out.size))
              clear hb21
              go_wp2
              go_ret
              exact ⟨rfl, HB21.out⟩
          | true =>
            rw [prS_yes hob, prE_yes hob] at hyf
            obtain ⟨hy, rfl⟩ := hyf
            obtain ⟨SM, hSM⟩ : ∃ SM, sameL a b = SM := ⟨_, rfl⟩
            have hq : (X.toList == Y.toList) = SM := by rw [← HXA.out, ← hy, same_text HOA.out hob HZA.out.fit HZB.out.fit, hSM]
            have hss : (SM == SM) = true := by simp
            have HSM := Lib.hid hSM
            clear hob hy hSM HYF
            go_wp2_with fail
            have hS := Fa.same_any _ _ a b w11 HA11.out HC11.out
            rw [HSM.out] at hS
            refine hS.mono ?_
            rintro e w12 ⟨rfl, hb12⟩
            have HB12 := Lib.hid (HB11.out.trans (hb12.mono HB11.out.size))
            clear hS hb12 HA11 HC11 HB11
            cases hps : parseP s.data.toList with
            | none =>
              have HPS := Lib.hid hps
              clear hps
              go_wp2_with fail
              refine (cparse_any s _ (Nat.le_trans HS.out (by decide)) (HL.out.below HB12.out)).mono ?_
              rintro e w20 ⟨v20, rfl, hv20, hb20⟩
              rw [(parsC_none HPS.out).1] at hv20
              rw [(parsC_none HPS.out).2]
              obtain ⟨p20, c20, rfl, _, _, _, _⟩ := hv20
              have HB20 := Lib.hid (HB12.out.trans (hb20.mono HB12.out.size))
              clear hb20
              rw [List.length_nil]
              go_wp2
              go_ret
              exact ⟨rfl, HB20.out⟩
            | some d =>
              have HPS := Lib.hid hps
              obtain ⟨hd1, hd2, hd3⟩ := parseP_some hps
              have HD := Lib.hid (And.intro hd1 hd2)
              have HZD : Hid (In64s d) := Lib.hid (readAll_in64 (by unfold readP at hd3; exact hd3))
              have HLD : Hid (d.length ≤ 100000) := Lib.hid (by have := (of_decide_eq_true (okC_right hd1) : RightP d).1; omega)
              clear hps hd1 hd2 hd3
              go_wp2_with fail
              refine (cparse_any s _ (Nat.le_trans HS.out (by decide)) (HL.out.below HB12.out)).mono ?_
              rintro e w20 ⟨v20, rfl, hv20, hb20⟩
              rw [(parsC_some HPS.out).1] at hv20
              rw [(parsC_some HPS.out).2]
              have HV20 := Lib.hid hv20
              have HB20 := Lib.hid (HB12.out.trans (hb20.mono HB12.out.size))
              obtain ⟨p20, c20, rfl, _, _, _, _⟩ := hv20
              clear hb20
              go_wp2_with fail
              refine (cprint_any _ d _ HV20.out HLD.out HZD.out (HL.out.below HB20.out)).mono ?_
              rintro e w21 ⟨rfl, hb21⟩
              rw [prS_yes HD.out.1, prE_yes HD.out.1, HD.out.2, mkB_list]
              have HB21 := Lib.hid (HB20.out.trans (hb21.mono HB20.out.size))
              clear hb21
              go_wp2
              go_ret
              exact ⟨rfl, HB21.out⟩
      · have hsz : (6000 : Int) < (s.size : Int) := by omega
        clear hs
        go_wp2
        go_ret
        exact ⟨rfl, HB3.out⟩
end Go.Proofs.YtdnneognilffaaaDoor.Cd
