
/- The walk of FactPicks: what is picked of each mark, put together, is all; what is picked is a cube. -/
import Derived.Test.YtimeebildbmhaaaFaMarks
namespace Go.Proofs.Ytimeebildbmhaaa.Fa
open Go.RowKit Go.Maps

/-- What stands in the loop over the marks. -/
structure PickAt (w w6 wr : World) (m bM r : Nat) (E : List Fact) (v7 : Value) (x7 : Int) (left : Lit → Bool) (cnt : Nat) (D : DataW Unit) : Prop where
  rng : wr.ranges Try.prog 3 (plainElem (H := Unit) Try.prog 3) bM r m D left cnt
  both : FactsV wr v7 (goneL left E)
  len : x7 = ((goneL left E).length : Int)
  bel : Below w6.heap.size w6 wr
set_option maxRecDepth 100000 in
set_option maxHeartbeats 16000000 in
theorem factPicks_walk (v : Value) (L : List Fact) (en : ByteArray) (w : World) (h : FactsV w v L) (hz : ∀ f ∈ L, In64 f.key.m ∧ In64 f.amt) (_hs : en.size ≤ maxLen) : Calls Try.prog 7 #[v, .string en] w fun e w' => e = .returned (.bool true) ∧ Below w.heap.size w w' := by
  have HV := Lib.hid h
  have HZ := Lib.hid (fun f hf => (hz f hf).2)
  have HZK := Lib.hid (fun f hf => (hz f hf).1)
  obtain ⟨p, cp, rfl, _, _, _, _⟩ := h
  obtain ⟨n, hn⟩ : ∃ n, L.length = n := ⟨_, rfl⟩
  rw [hn] at HV ⊢
  have HN := Lib.hid hn
  clear hn hz
  have hmm := @run_makeMap Try.prog
  go_enter Try.func7, Try.ntmps7
  go_wp2_with fail
  refine (alive_any _).mono ?_
  rintro e w1 ⟨rfl, hb1⟩
  have HB1 := Lib.hid hb1
  have HV1 := Lib.hid (HV.out.keep hb1)
  clear hb1 HV
  go_wp2_with fail
  refine (few_any _ L _ HV1.out).mono ?_
  rintro e w2 ⟨rfl, hb2⟩
  have HB2 := Lib.hid (HB1.out.trans (hb2.mono HB1.out.size))
  have HV2 := Lib.hid (HV1.out.keep hb2)
  clear hb2 HV1 HB1
  cases hf : fewL L with
  | false =>
    clear hf
    go_wp2
    go_ret
    exact ⟨rfl, HB2.out⟩
  | true =>
  have HF := Lib.hid hf
  clear hf
  go_wp2_with fail
  refine (small_any _ L _ HV2.out).mono ?_
  rintro e w3 ⟨rfl, hb3⟩
  have HB3 := Lib.hid (HB2.out.trans (hb3.mono HB2.out.size))
  have HV3 := Lib.hid (HV2.out.keep hb3)
  clear hb3 HV2 HB2
  cases hs : smallL L with
  | false =>
    clear hs
    go_wp2
    go_ret
    exact ⟨rfl, HB3.out⟩
  | true =>
  have HFS := Lib.hid (few_small HF.out hs)
  have HLN : Hid (n ≤ 150 ∧ L.length ≤ 150) := Lib.hid (by have := few_length HF.out; have := HN.out; omega)
  clear hs
  by_cases hbig : (40 : Int) < (en.size : Int)
  · go_wp2
    go_ret
    exact ⟨rfl, HB3.out⟩
  go_wp2_with fail
  refine (theirs_any _ L _ HV3.out (by have := HLN.out; omega)).mono ?_
  rintro e w4 ⟨v4, rfl, hr4, hb4⟩
  have HX4 := Lib.hid (els_of_own (E := encF) hr4)
  have HB4 := Lib.hid (HB3.out.trans (hb4.mono HB3.out.size))
  clear hr4 hb4 HV3 HB3 hbig
  go_wp2_with fail
  have hO := of_any v4 L w4 HX4.out HZ.out (by have := HLN.out; omega)
  rw [HFS.out.1] at hO
  refine hO.mono ?_
  rintro e w5 ⟨v5, rfl, hv5, hb5⟩
  have HSC := Lib.hid (SubC.cube HFS.out.2.2.2 HLN.out.2)
  have HCK : Hid (∀ f ∈ cube L, In64 f.key.m) := Lib.hid (fun f hf => by
    obtain ⟨g, hg, e⟩ := cube_key hf
    rw [← e]; exact HZK.out g hg)
  have HCL : Hid ((cube L).length ≤ 150) := Lib.hid HFS.out.2.2.1
  have hv5' : FactsV w5 v5 (cube L) := hv5
  obtain ⟨C, hC⟩ : ∃ C, cube L = C := ⟨_, rfl⟩
  rw [hC] at HSC HCK HCL hv5'
  obtain ⟨p5, c5, rfl, _, hm5, _, _⟩ := id hv5'
  obtain ⟨m, hm⟩ : ∃ m, C.length = m := ⟨_, rfl⟩
  have HM := Lib.hid hm
  rw [hm] at hv5' HCL ⊢
  have HA5 := Lib.hid hv5'
  have HB5 := Lib.hid (HB4.out.trans (hb5.mono HB4.out.size))
  have hm150 := HCL.out
  clear hO hb5 hC hm hv5 hv5' HX4 HB4 HFS HF HZ HZK
  have hb6 : Below w5.heap.size w5 (w5.alloc (.map #[] 0)) := (Below.refl w5.heap.size w5).alloc (Nat.le_refl _) _
  have HB6 := Lib.hid hb6
  have HH0 : Hid (HadI (w5.alloc (.map #[] 0)) w5.heap.size 0 (.map [])) := Lib.hid (World.ownsMap_made _ _ _ _)
  clear hb6
  go_wp2
  go_loopw [42] (fun s42 wr => ∃ (i : Nat) (D : DataW Unit), s42 = .int .i64 (i : Int) ∧ i ≤ m ∧ Hid (HadI wr w5.heap.size i D) ∧ Hid (MarksOf (C.take i) D) ∧ Hid (Below w5.heap.size w5 wr)) (fun s42 _ => m - (intOf s42).toNat)
  case atStart => exact ⟨0, _, rfl, Nat.zero_le _, HH0, Lib.hid (by rw [List.take_zero]; exact marks_nil), HB6⟩
  case round =>
    obtain ⟨i, D, rfl, hin, HH, HMK, HB⟩ := hrel
    by_cases hlt : i < m
    · obtain ⟨x, hx⟩ : ∃ x, C[i]? = some x := ⟨_, List.getElem?_eq_getElem (by rw [HM.out]; exact hlt)⟩
      obtain ⟨b, o, rfl, hat⟩ := ElsV.at_ HA5.out hx
      obtain ⟨r0, r1, r2, r3, r4, r5⟩ := fact6 (hat.keep HB.out hat.lt)
      simp only [show encF.k = 6 from rfl] at r0 r1 r2 r3 r4 r5
      have HTK : Hid (C.take (i + 1) = C.take i ++ [x]) := Lib.hid (by rw [List.take_add_one, hx]; rfl)
      have HKE := Lib.hid (Maps.keyOf_int_mk (P := Try.prog) Try.underlying3 (wf_in64 (HCK.out x (List.mem_of_getElem? hx))))
      have HH1 := Lib.hid (World.ownsMap.alloc HH.out (.cells #[.string x.key.e, .string x.key.a, .string x.key.f, .string x.key.p, .int .i64 x.key.m, .int .i64 x.amt] 60))
      have HB1 := Lib.hid (HB.out.alloc HB.out.size (.cells #[.string x.key.e, .string x.key.a, .string x.key.f, .string x.key.p, .int .i64 x.key.m, .int .i64 x.amt] 60))
      clear hx hat
      go_wp2_with (first
        | (at_lookup; refine wpList_lookup_own_int _ rfl _ _ 58 rfl 3 3 .i64 lawI Try.underlying58 Try.underlying3 (zeroI _) w5.heap.size i D rfl HH1.out _ _ rfl HKE.out ?_; intro ct hct hwct)
        | (at_mapUpdate; refine wpList_mapUpdate_own _ rfl _ _ _ 58 rfl 3 3 lawI Try.underlying58 (plainElem (H := Unit) Try.prog 3) w5.heap.size i D rfl HH1.out (by unfold maxLen; omega) _ _ (.int .i64 x.key.m) rfl rfl HKE.out _ [] (plainElem_int Try.underlying3 (wrap64_wf _)) ?_; intro w7 hown7 hg7; go_frame)
        | fail)
      have HH7 := Lib.hid hown7
      have HMK7 : Hid (∀ d, MarksOf (C.take (i + 1)) (D.put (.int .i64 x.key.m) d)) := Lib.hid (fun d => by rw [HTK.out]; exact marks_put HMK.out (World.ownsMap.tidy HH.out lawI).isMap x d)
      have HB7 : Hid (Below w5.heap.size w5 w7) := Lib.hid (HB1.out.grown hg7 HB1.out.size (fun j hj => by cases hj; exact Nat.le_refl _))
      clear hown7 hg7 r0 r1 r2 r3 r4 r5
      go_roundw
      case rel => exact ⟨i + 1, _, by go_num, by omega, HH7, Lib.hid (HMK7.out _), HB7⟩
      case measure => simp [intOf]; omega
    · obtain rfl : i = m := by omega
      rename World => wa
      have HMK1 : Hid (MarksOf C D) := Lib.hid (by have := HMK.out; rwa [List.take_of_length_le (by rw [HM.out]; exact Nat.le_refl _)] at this)
      have HSZ := Lib.hid HB.out.size
      obtain ⟨E, hE⟩ : ∃ E, pickL C en (-1) = E := ⟨_, rfl⟩
      have HE := Lib.hid hE
      have HSE : Hid (SubC E) := Lib.hid (by rw [← hE, pick_all]; exact HSC.out.filter _)
      have HEC : Hid (∀ f ∈ E, f ∈ C) := Lib.hid (fun f hf => by rw [← hE, pick_all] at hf; exact (List.mem_filter.1 hf).1)
      have HEL : Hid (E.length ≤ 150) := Lib.hid (by rw [← hE]; have := pick_len C en (-1); have := HM.out; omega)
      clear hE HMK
      go_wp2_with (at_range; refine wpList_range_own _ rfl _ 58 rfl 3 3 lawI Try.underlying58 (plainElem (H := Unit) Try.prog 3) w5.heap.size i D rfl HH.out ?_; intro w0 hrg0 hg0 hs0)
      go_frame
      have HP0 : Hid (PickAt w w5 w0 i w5.heap.size wa.heap.size E (.slice none 0 0) 0 (Maps.has D) (Maps.size D) D) := Lib.hid (by
        have hg : goneL (Maps.has D) E = [] := gone_start (fun f hf => (HMK1.out f.key.m).2 ⟨f, HEC.out f hf, rfl⟩)
        exact ⟨hrg0, by rw [hg]; exact ElsV.nil _, by rw [hg]; rfl, HB.out.grown hg0 HB.out.size (fun j hj => by cases hj)⟩)
      clear hrg0 hg0 hs0
      go_loopw [7, 11] (fun s7 s11 wr => ∃ (left : Lit → Bool) (cnt : Nat) (x7 : Int), s11 = .int .i64 x7 ∧ Hid (PickAt w w5 wr i w5.heap.size wa.heap.size E s7 x7 left cnt D)) (fun _ _ wr => wr.rangeLeft w5.heap.size wa.heap.size)
      case atStart => exact ⟨_, _, _, rfl, HP0⟩
      case round =>
        obtain ⟨left, cnt, x7, rfl, HP⟩ := hrel
        have HA := Lib.hid (HA5.out.keep HP.out.bel)
        go_wp2_with (at_next; refine wpList_next_ranges_ii _ rfl _ rfl 3 3 .i64 .i64 lawI Try.underlying3 Try.underlying3 w5.heap.size wa.heap.size i _ _ _ rfl HP.out.rng ?_ ?_)
        · intro _ hl0
          have hg : goneL left E = E := gone_end hl0
          have HX := Lib.hid (show FactsV wr u7 E by have := HP.out.both; rwa [hg] at this)
          have HXL : x7 = (E.length : Int) := by have := HP.out.len; rwa [hg] at this
          obtain ⟨ne, hne⟩ : ∃ ne, E.length = ne := ⟨_, rfl⟩
          have HNE := Lib.hid hne
          rw [hne] at HXL
          subst HXL
          obtain ⟨p7, c7, rfl, _, _, _, _⟩ := id HX.out
          rw [hne] at HX ⊢
          have HBr := Lib.hid (HB5.out.trans (HP.out.bel.mono HB5.out.size))
          have hnn : ((ne : Int) == (ne : Int)) = true := by simp
          clear hl0 hg hne HP
          go_wp2_with fail
          refine (ours_any _ E wr HX.out (by have := HEL.out; omega)).mono ?_
          rintro e w9 ⟨v9, rfl, hr9, hb9⟩
          have HO9 := Lib.hid (els_of_own (E := encF) hr9)
          have HA9 := Lib.hid (HA.out.keep hb9)
          have HB9 := Lib.hid (HBr.out.trans (hb9.mono HBr.out.size))
          clear hr9 hb9 HA HBr HX
          go_wp2_with fail
          have hPk := pick_any _ C en (-1) w9 HA9.out (by have := HM.out; omega)
          rw [HE.out] at hPk
          refine hPk.mono ?_
          rintro e w10 ⟨v10, rfl, hr10, hb10⟩
          have HO10 := Lib.hid (els_of_own (E := encF) hr10)
          have HO910 := Lib.hid (HO9.out.keep hb10)
          have HA10 := Lib.hid (HA9.out.keep hb10)
          have HB10 := Lib.hid (HB9.out.trans (hb10.mono HB9.out.size))
          clear hPk hr10 hb10 HA9 HB9 HO9
          go_wp2_with fail
          refine (ours_any _ E w10 HO10.out (by have := HEL.out; omega)).mono ?_
          rintro e w11 ⟨v11, rfl, hr11, hb11⟩
          have HO11 := Lib.hid (els_of_own (E := encF) hr11)
          have HO911 := Lib.hid (HO910.out.keep hb11)
          have HA11 := Lib.hid (HA10.out.keep hb11)
          have HB11 := Lib.hid (HB10.out.trans (hb11.mono HB10.out.size))
          clear hr11 hb11 HA10 HB10 HO910 HO10
          go_wp2_with fail
          have hS := same_any _ _ E E w11 HO911.out HO11.out
          rw [show sameL E E = true from decide_eq_true rfl] at hS
          refine hS.mono ?_
          rintro e w12 ⟨rfl, hb12⟩
          have HA12 := Lib.hid (HA11.out.keep hb12)
          have HB12 := Lib.hid (HB11.out.trans (hb12.mono HB11.out.size))
          clear hS hb12 HA11 HB11 HO911 HO11
          go_wp2_with fail
          have hPk := pick_any _ C ⟨#[]⟩ (-1) w12 HA12.out (by have := HM.out; omega)
          rw [pick_any_all C] at hPk
          refine hPk.mono ?_
          rintro e w13 ⟨v13, rfl, hr13, hb13⟩
          have HO13 := Lib.hid (els_of_own (E := encF) hr13)
          have HA13 := Lib.hid (HA12.out.keep hb13)
          have HB13 := Lib.hid (HB12.out.trans (hb13.mono HB12.out.size))
          clear hPk hr13 hb13 HA12 HB12
          go_wp2_with fail
          refine (ours_any _ C w13 HO13.out (by have := HM.out; omega)).mono ?_
          rintro e w14 ⟨v14, rfl, hr14, hb14⟩
          have HO14 := Lib.hid (els_of_own (E := encF) hr14)
          have HA14 := Lib.hid (HA13.out.keep hb14)
          have HB14 := Lib.hid (HB13.out.trans (hb14.mono HB13.out.size))
          clear hr14 hb14 HA13 HB13 HO13
          go_wp2_with fail
          refine (ours_any _ C w14 HA14.out (by have := HM.out; omega)).mono ?_
          rintro e w15 ⟨v15, rfl, hr15, hb15⟩
          have HO15 := Lib.hid (els_of_own (E := encF) hr15)
          have HO1415 := Lib.hid (HO14.out.keep hb15)
          have HB15 := Lib.hid (HB14.out.trans (hb15.mono HB14.out.size))
          clear hr15 hb15 HA14 HB14 HO14
          go_wp2_with fail
          have hS := same_any _ _ C C w15 HO1415.out HO15.out
          rw [show sameL C C = true from decide_eq_true rfl] at hS
          refine hS.mono ?_
          rintro e w16 ⟨rfl, hb16⟩
          have HB16 := Lib.hid (HB15.out.trans (hb16.mono HB15.out.size))
          clear hS hb16 HB15 HO1415 HO15
          go_wp2
          go_ret
          exact ⟨rfl, HB16.out⟩
        · intro x ct w8 cnt1 hwx hwc hlx _ hrg1 hlt1 hg1 hs1 hen
          have HRG := Lib.hid hrg1
          have HBo := Lib.hid (ElsV.beside HP.out.both hg1 (ranges_no_cell HP.out.rng))
          have HB8 : Hid (Below w5.heap.size w5 w8) := Lib.hid (HP.out.bel.grown hg1 HP.out.bel.size (fun j hj => by cases hj; exact HSZ.out))
          have HA8 := Lib.hid (HA5.out.keep HB8.out)
          have HLE : Hid (wr.rangeLeft w5.heap.size wa.heap.size = cnt) := Lib.hid HP.out.rng.left_eq
          have HXL := HP.out.len
          have HLX := Lib.hid hlx
          have HLT := Lib.hid hlt1
          clear hrg1 hlt1 hg1 hs1 hwc hlx HA HP
          by_cases hx0 : x < 0
          · have HBz := Lib.hid (HB5.out.trans (HB8.out.mono HB5.out.size))
            go_wp2
            go_ret
            exact ⟨rfl, HBz.out⟩
          · have hxn : decide (x < 0) = false := decide_eq_false hx0
            have HPM : Hid (pickL C en x = E.filter fun f => decide (f.key.m = x)) := Lib.hid (by rw [pick_mark C en (show (0 : Int) ≤ x by omega), HE.out])
            have HADD := Lib.hid (gone_add HSE.out HLX.out)
            have HLEN := Lib.hid (gone_step HLX.out E).length_eq
            have HSX := Lib.hid (show SubC (goneL left E) from HSE.out.filter _)
            have HSP := Lib.hid (show SubC (E.filter fun f => decide (f.key.m = x)) from HSE.out.filter _)
            obtain ⟨X, hX⟩ : ∃ X, goneL left E = X := ⟨_, rfl⟩
            obtain ⟨P, hP⟩ : ∃ P, (E.filter fun f => decide (f.key.m = x)) = P := ⟨_, rfl⟩
            have HX1 : Hid (X.length ≤ 150) := Lib.hid (by rw [← hX]; exact Nat.le_trans (List.length_filter_le _ _) HEL.out)
            have HP1 : Hid (P.length ≤ 150) := Lib.hid (by rw [← hP]; exact Nat.le_trans (List.length_filter_le _ _) HEL.out)
            rw [hP] at HPM
            rw [hX, hP] at HADD HLEN
            rw [hX] at HXL HBo HSX
            rw [hP] at HSP
            clear hX hP
            obtain ⟨nx, hnx⟩ : ∃ nx, X.length = nx := ⟨_, rfl⟩
            obtain ⟨np, hnp⟩ : ∃ np, P.length = np := ⟨_, rfl⟩
            rw [hnx] at HXL
            subst HXL
            have hnx1 : nx ≤ 150 := by rw [← hnx]; exact HX1.out
            have hnp1 : np ≤ 150 := by rw [← hnp]; exact HP1.out
            have HNX := Lib.hid hnx
            have HNP := Lib.hid hnp
            go_wp2_with fail
            have hPk := pick_any _ C en x w8 HA8.out (by have := HM.out; omega)
            rw [HPM.out] at hPk
            refine hPk.mono ?_
            rintro e w9 ⟨v9, rfl, hr9, hb9⟩
            have hv9 := els_of_own (E := encF) hr9
            obtain ⟨p9, c9, rfl, _, _, _, _⟩ := id hv9
            rw [hnp] at hv9 ⊢
            have HO9 := Lib.hid hv9
            have HBo9 := Lib.hid (HBo.out.keep hb9)
            have HRG9 := Lib.hid (HRG.out.kept (below_grown0 hb9) (by simp) (by simp))
            have HB9 := Lib.hid (HB8.out.trans (hb9.mono HB8.out.size))
            clear hPk hr9 hb9 HBo HRG HB8 HA8 hv9 hen hnx hnp
            go_wp2_with fail
            have hA := add_any _ _ X P w9 HBo9.out HO9.out (bnd_in64 HSX.out.bnd) (bnd_in64 HSP.out.bnd) (by have := HX1.out; omega) (by have := HP1.out; omega)
            rw [HADD.out] at hA
            refine hA.mono ?_
            rintro e w10 ⟨v10, rfl, hv10, hb10⟩
            have HY10 := Lib.hid (show FactsV w10 v10 (goneL (fun z => left z && !z.sameKey (.int .i64 x)) E) from hv10)
            have HO10 := Lib.hid (HO9.out.keep hb10)
            have HRG10 := Lib.hid (HRG9.out.kept (below_grown0 hb10) (by simp) (by simp))
            have HB10 := Lib.hid (HB9.out.trans (hb10.mono HB9.out.size))
            clear hA hv10 hb10 HBo9 HO9 HRG9 HB9
            go_wp2_with fail
            have hR := right_any _ P w10 HO10.out (by have := HP1.out; omega)
            rw [HSP.out.right (by have := HP1.out; omega)] at hR
            refine hR.mono ?_
            rintro e w11 ⟨rfl, hb11⟩
            have HY11 := Lib.hid (HY10.out.keep hb11)
            have HRG11 := Lib.hid (HRG10.out.kept (below_grown0 hb11) (by simp) (by simp))
            have HB11 := Lib.hid (HB10.out.trans (hb11.mono HB10.out.size))
            clear hR hb11 HY10 HO10 HRG10 HB10
            go_wp2
            go_roundw
            case rel => exact ⟨_, cnt1, ((nx : Int) + (np : Int)), rfl, Lib.hid ⟨HRG11.out, HY11.out, by rw [← HLEN.out, List.length_append, HNX.out, HNP.out]; omega, HB11.out⟩⟩
            case measure => rw [HRG11.out.left_eq, HLE.out]; exact HLT.out
end Go.Proofs.Ytimeebildbmhaaa.Fa
