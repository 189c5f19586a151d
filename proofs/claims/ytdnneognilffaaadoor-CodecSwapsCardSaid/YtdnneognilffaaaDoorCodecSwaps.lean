
/- The walk of CodecSwaps: a text with two lines exchanged is no cube's. -/
import Derived.Test.YtdnneognilffaaaDoorCdBody
import Derived.Test.YtdnneognilffaaaDoorStoreEl
import Derived.Test.YtdnneognilffaaaDoorCodecBlank
namespace Go.Proofs.YtdnneognilffaaaDoor.Cd
open Go.Proofs.YtdnneognilffaaaDoor.Fa Go.RowKit

theorem infoFs : (Tryd.prog.info? 45).map (·.size) = some encF.k := by kernel_rfl
theorem own_at {W : World} {B g n cg i : Nat} {e : TypeId} {T : List Fact} {x : Fact} (h : W.ownsRow B e 6 (.slice (some ⟨g, 0, none⟩) n cg) n (flat encF T)) (hx : T[i]? = some x) : ElAt encF W g (i * 6) x := fun j v hj => by
  have := h.cells (g := g) rfl _ _ (flat_at T i x hx j v hj)
  rw [add_off, Nat.zero_add] at this
  exact this
theorem own_base {W : World} {B g n cg s : Nat} {e : TypeId} {xs : List Value} (h : W.ownsRow B e s (.slice (some ⟨g, 0, none⟩) n cg) n xs) : B ≤ g := by
  rcases h.2 with ⟨h', _⟩ | ⟨g', _, _, h', hb, _⟩
  · cases h'
  · cases h'; exact hb
theorem own_form {w : World} {B n s : Nat} {e : TypeId} {v : Value} {xs : List Value} (h : w.ownsRow B e s v n xs) (hn : 0 < n) : ∃ g c, v = .slice (some ⟨g, 0, none⟩) n c := by
  rcases h.2 with ⟨_, h0⟩ | ⟨g, cap, _, rfl, _⟩
  · omega
  · exact ⟨g, cap, rfl⟩
theorem own_facts {W : World} {B g n cg : Nat} {e : TypeId} {T : List Fact} (h : W.ownsRow B e 6 (.slice (some ⟨g, 0, none⟩) n cg) n (flat encF T)) (hn : T.length = n) : FactsV W (.slice (some ⟨g, 0, none⟩) n cg) T := by
  subst hn
  exact els_of_own (E := encF) h
set_option maxRecDepth 100000 in
set_option maxHeartbeats 32000000 in
theorem codecSwaps_walk (v : Value) (c : List Fact) (a b : Int) (w : World) (h : FactsV w v c) (hz : ∀ f ∈ c, In64 f.key.m ∧ In64 f.amt) (ha : InU8 a) (hb : InU8 b) (hl : Laid w) : Calls Tryd.prog 6 #[v, .int .u8 a, .int .u8 b] w fun e w' => e = .returned (.bool true) ∧ Below w.heap.size w w' := by
  have HV := Lib.hid h
  have HZ := Lib.hid (show In64s c from hz)
  have HL := Lib.hid hl
  obtain ⟨p, cp, rfl, hcap, hmx, _, _⟩ := h
  obtain ⟨n, hn⟩ : ∃ n, c.length = n := ⟨_, rfl⟩
  rw [hn] at HV hcap ⊢
  have HN := Lib.hid hn
  obtain ⟨am, rfl⟩ : ∃ am : Nat, a = (am : Int) := ⟨a.toNat, by have := ha.1; omega⟩
  obtain ⟨bm, rfl⟩ : ∃ bm : Nat, b = (bm : Int) := ⟨b.toNat, by have := hb.1; omega⟩
  have hab : am ≤ 255 := by have := ha.2; omega
  have hbb : bm ≤ 255 := by have := hb.2; omega
  clear hn hz hl ha hb hcap hmx
  go_enter Tryd.func6, Tryd.ntmps6
  go_wp2_with fail
  refine (alive_any _ HL.out).mono ?_
  rintro e w1 ⟨rfl, hb1⟩
  have HB1 := Lib.hid hb1
  have HV1 := Lib.hid (HV.out.keep hb1)
  clear hb1 HV
  go_wp2_with fail
  refine (few_any _ c _ HV1.out).mono ?_
  rintro e w2 ⟨rfl, hb2⟩
  have HB2 := Lib.hid (HB1.out.trans (hb2.mono HB1.out.size))
  have HV2 := Lib.hid (HV1.out.keep hb2)
  clear hb2 HV1 HB1
  cases hf : fewL c with
  | false =>
    clear hf
    go_wp2
    go_ret
    exact ⟨rfl, HB2.out⟩
  | true =>
    have HF := Lib.hid hf
    have hn150 : n ≤ 150 := by have := few_length hf; have := HN.out; omega
    clear hf
    by_cases hn2 : n < 2
    · have hd : (n : Int) < 2 := by omega
      go_wp2
      go_ret
      exact ⟨rfl, HB2.out⟩
    have hd : ¬ (n : Int) < 2 := by omega
    go_wp2_with fail
    refine (theirs_any _ c _ HV2.out (fits_of HF.out)).mono ?_
    rintro e w3 ⟨v3, rfl, hr3, hb3⟩
    have HX3 := Lib.hid (els_of_own (E := encF) hr3)
    have HB3 := Lib.hid (HB2.out.trans (hb3.mono HB2.out.size))
    have HV3 := Lib.hid (HV2.out.keep hb3)
    clear hr3 hb3 HV2 HB2
    go_wp2_with fail
    refine (cprint_any _ c _ HX3.out (fits_of HF.out) HZ.out (HL.out.below HB3.out)).mono ?_
    rintro e w4 ⟨rfl, hb4⟩
    have HB4 := Lib.hid (HB3.out.trans (hb4.mono HB3.out.size))
    have HV4 := Lib.hid (HV3.out.keep hb4)
    clear hb4 HX3 HB3 HV3
    obtain ⟨i, hi⟩ : ∃ i, am % n = i := ⟨_, rfl⟩
    obtain ⟨k, hk⟩ : ∃ k, bm % n = k := ⟨_, rfl⟩
    have hin : i < n := by rw [← hi]; exact Nat.mod_lt _ (by omega)
    have hkn : k < n := by rw [← hk]; exact Nat.mod_lt _ (by omega)
    have hrem1 : ((am : Nat) : Int).tmod ((n : Nat) : Int) = ((i : Nat) : Int) := by
      rw [Int.tmod_eq_emod_of_nonneg (by omega), ← Int.natCast_emod, hi]
    have hrem2 : ((bm : Nat) : Int).tmod ((n : Nat) : Int) = ((k : Nat) : Int) := by
      rw [Int.tmod_eq_emod_of_nonneg (by omega), ← Int.natCast_emod, hk]
    have hn0 : ((n : Int) == 0) = false := by rw [beq_eq_false_iff_ne]; omega
    have HD4 : Hid (Below w4.heap.size w4 w4.drew) := Lib.hid ⟨rfl, rfl, rfl, Nat.le_refl _, fun _ _ => rfl⟩
    clear hi hk
    obtain ⟨X, hX⟩ : ∃ X, prS c = X := ⟨_, rfl⟩
    obtain ⟨E, hE⟩ : ∃ E, prE c = E := ⟨_, rfl⟩
    rw [hX, hE]
    have HXE := Lib.hid (And.intro hX hE)
    clear hX hE
    go_wp2_with fail
    go_region
    clear hrem1 hrem2
    have hxe := HXE.out
    cases hok : okC c with
    | false =>
      rw [prS_no hok, prE_no hok] at hxe
      obtain ⟨-, rfl⟩ := hxe
      clear hok HXE
      go_wp2
      go_ret
      exact ⟨rfl, HB4.out.trans (HD4.out.mono HB4.out.size)⟩
    | true =>
      rw [prS_yes hok, prE_yes hok] at hxe
      obtain ⟨hx, rfl⟩ := hxe
      by_cases hik : i = k
      · have hikz : ((i : Int) == (k : Int)) = true := by rw [hik]; simp
        clear hok HXE hx
        go_wp2
        go_ret
        exact ⟨rfl, HB4.out.trans (HD4.out.mono HB4.out.size)⟩
      · have hikz : ((i : Int) == (k : Int)) = false := by rw [beq_eq_false_iff_ne]; omega
        have HNE := Lib.hid hik
        have HOK := Lib.hid hok
        have hxz : X.size ≤ 50000 := by rw [← hx]; exact text_short hok HZ.out HF.out
        have HXD : Hid (X.data.toList = firstL n ++ 10 :: rowsL c) := Lib.hid (by rw [← hx, mkB_data, textL_eq, HN.out])
        have HGL := Lib.hid (loose_of hok HZ.out)
        obtain ⟨x, hxi⟩ : ∃ x, c[i]? = some x := ⟨_, List.getElem?_eq_getElem (by rw [HN.out]; exact hin)⟩
        obtain ⟨y, hyk⟩ : ∃ y, c[k]? = some y := ⟨_, List.getElem?_eq_getElem (by rw [HN.out]; exact hkn)⟩
        have HXI := Lib.hid hxi
        have HYK := Lib.hid hyk
        have HB5 := Lib.hid (HB4.out.trans (HD4.out.mono HB4.out.size))
        have HV5 := Lib.hid (HV4.out.keep HD4.out)
        obtain ⟨w5, hw5⟩ : ∃ w5, w4.drew = w5 := ⟨_, rfl⟩
        rw [hw5] at HB5 HV5 ⊢
        clear hok HXE hx hik hxi hyk HD4 HV4 HB4 hw5
        go_wp2_with fail
        refine (theirs_any _ c _ HV5.out (fits_of HF.out)).mono ?_
        rintro e w6 ⟨v6, rfl, hr6, hb6⟩
        rw [HN.out] at hr6
        obtain ⟨g, cg, rfl⟩ := own_form hr6 (by omega)
        have HGB : Hid (w5.heap.size ≤ g) := Lib.hid (own_base hr6)
        have HO6 := Lib.hid hr6
        have HB6 := Lib.hid hb6
        have HVW : Hid (∀ W, Below w5.heap.size w5 W → FactsV W (.slice p n cp) c) := Lib.hid (fun W hW => HV5.out.keep hW)
        clear hr6 hb6 HV5
        go_wp2_with fail
        refine (body_any _ c _ (own_facts HO6.out HN.out) (by rw [HN.out]; exact hn150) HGL.out (HL.out.below (HB5.out.trans (HB6.out.mono HB5.out.size)))).mono ?_
        rintro e w7 ⟨rfl, hb7⟩
        have HO7 := Lib.hid (row_below HO6.out hb7)
        have HB7 := Lib.hid (HB6.out.trans (hb7.mono HB6.out.size))
        clear hb7 HO6 HB6
        obtain ⟨B, hB⟩ : ∃ B, mkB (rowsL c) = B := ⟨_, rfl⟩
        rw [hB]
        have hsz : X.size = (firstL n).length + 1 + B.size := by
          rw [← size_list, HXD.out, ← hB, mkB_size, List.length_append, List.length_cons]
          omega
        obtain ⟨hd, hhd⟩ : ∃ hd, (firstL n).length + 1 = hd := ⟨_, rfl⟩
        have hsub : (X.size : Int) - (B.size : Int) = (hd : Int) := by omega
        have hx1 : (0 : Int) ≤ (hd : Int) := by omega
        have hx2 : (hd : Int) ≤ (X.size : Int) := by omega
        obtain ⟨H, hH⟩ : ∃ H, X.extract 0 hd = H := ⟨_, rfl⟩
        have HHD : Hid (H.data.toList = firstL n ++ [10]) := Lib.hid (by
          rw [← hH, take_zero, HXD.out, ← hhd, show firstL n ++ 10 :: rowsL c = (firstL n ++ [10]) ++ rowsL c by simp]
          rw [List.take_append_of_le_length (by simp), List.take_of_length_le (by simp)])
        have HHZ : Hid (H.size ≤ 100) := Lib.hid (by
          rw [← size_list, HHD.out, List.length_append]
          have := firstL_le (n := n) (by omega)
          simp only [List.length_cons, List.length_nil]
          omega)
        have HI7 := Lib.hid HXI.out
        have HK7 := Lib.hid HYK.out
        have hiz : (i : Int) < (n : Int) := by omega
        have hkz : (k : Int) < (n : Int) := by omega
        clear hB hhd hsz
        obtain ⟨wq7, hwq⟩ : ∃ wq, w7.drew = wq := ⟨_, rfl⟩
        have HS0 : Hid (Below w5.heap.size w7 wq7) := Lib.hid (by rw [← hwq]; exact ⟨rfl, rfl, rfl, Nat.le_refl _, fun _ _ => rfl⟩)
        have HTD : Hid (wq7.ownsRow w5.heap.size 45 6 (.slice (some ⟨g, 0, none⟩) n cg) n (flat encF c)) := Lib.hid (by rw [← hwq]; exact row_below HO7.out ⟨rfl, rfl, rfl, Nat.le_refl _, fun _ _ => rfl⟩)
        obtain ⟨r0, r1, r2, r3, r4, r5⟩ := fact6 (own_at HTD.out HI7.out)
        obtain ⟨s0, s1, s2, s3, s4, s5⟩ := fact6 (own_at HTD.out HK7.out)
        go_wp2_with fail
        refine wp_region_since w5.heap.size (.two [0, 1, 2, 3, 4, 5, 6, 8, 9, 10] 7 (.one [] 11 (.one [12] 13 (.one [14] 15 (.last [])))) 11 (.one [] 7 (.one [12] 13 (.one [14] 15 (.last []))))) (by kernel_rfl) (by kernel_rfl) (fun d _ _ _ _ h => by cases d <;> exact h) ?_
        rw [hwq]
        clear hwq
        simp only [wpPlan, pick, nth]
        repeat (go_big_quiet_step (fail))
        refine wpQuiet_nil ?_
        refine ⟨?_, ?_⟩
        all_goals
          intro K hK
          refine alone_want (by kernel_rfl) ?_
          go_big_op
          refine hK _ _ (since_in HS0.out) ?_
          clear hK K
          refine wpQuiet_nil ?_
          intro K hK
          refine alone_want (by kernel_rfl) ?_
          go_big_op
          refine hK _ _ (since_in HS0.out) ?_
          clear hK K
          repeat (go_big_quiet_step (fail))
          refine wpQuiet_nil ?_
          intro K hK
          refine alone_want (by kernel_rfl) ?_
          refine wp_store_part (E := encF) 45 _ _ rfl w5.heap.size g n cg 45 c i y rfl rfl HTD.out (by exact HN.out) hin infoFs ?_
          intro wu hru hgu
          have HSU := Lib.hid (HS0.out.grown hgu (Nat.le_trans HB7.out.size HS0.out.size) (fun k e => by cases e; exact HGB.out))
          have HRU := Lib.hid hru
          clear hru hgu
          refine hK _ _ (since_in HSU.out) ?_
          clear hK K r0 r1 r2 r3 r4 r5 s0 s1 s2 s3 s4 s5
          simp only [Act.put]
          repeat (go_big_quiet_step (fail))
          refine wpQuiet_nil ?_
          intro K hK
          refine alone_want (by kernel_rfl) ?_
          refine wp_store_part (E := encF) 45 _ _ rfl w5.heap.size g n cg 45 (c.set i y) k x rfl rfl HRU.out (by rw [List.length_set]; exact HN.out) hkn infoFs ?_
          intro wv hrv hgv
          have HSV := Lib.hid (HSU.out.grown hgv (Nat.le_trans HB7.out.size HSU.out.size) (fun k e => by cases e; exact HGB.out))
          have HRV := Lib.hid hrv
          clear hrv hgv
          refine hK _ _ (since_in HSV.out) ?_
          clear hK K
          simp only [Act.put]
          refine wpQuiet_nil ?_
          obtain ⟨T1, hT1⟩ : ∃ T1, (c.set i y).set k x = T1 := ⟨_, rfl⟩
          rw [hT1] at HRV
          have HTL : Hid (T1.length = n) := Lib.hid (by rw [← hT1, List.length_set, List.length_set, HN.out])
          have HTG : Hid (Loose T1) := Lib.hid (fun f hf => HGL.out f (swap_mem HXI.out HYK.out f (by rw [hT1]; exact hf)))
          have HI9 : Hid (T1[i]? = some y) := Lib.hid (by rw [← hT1, List.getElem?_set_ne (Ne.symm HNE.out), List.getElem?_set_self (by rw [HN.out]; exact hin)])
          have HK9 : Hid (T1[k]? = some x) := Lib.hid (by rw [← hT1, List.getElem?_set_self (by rw [List.length_set, HN.out]; exact hkn)])
          have HSB : Hid ((T1.set i x).set k y = c) := Lib.hid (by rw [← hT1]; exact swap_back HXI.out HYK.out HNE.out)
          have HPN : Hid (parseP (firstL n ++ 10 :: rowsL T1) = none) := Lib.hid (by
            rw [← hT1]
            have := swap_none HOK.out HZ.out.fit HXI.out HYK.out HNE.out
            rw [HN.out] at this
            exact this)
          have HBV := Lib.hid (HB7.out.trans HSV.out)
          clear hT1 HSU HRU HTD HS0
          go_wp2_with fail
          refine (body_any _ T1 _ (own_facts HRV.out HTL.out) (by rw [HTL.out]; exact hn150) HTG.out (HL.out.below (HB5.out.trans (HBV.out.mono HB5.out.size)))).mono ?_
          rintro e w8 ⟨rfl, hb8⟩
          have HO8 := Lib.hid (row_below HRV.out hb8)
          have HB8 := Lib.hid (HBV.out.trans (hb8.mono HBV.out.size))
          clear hb8 HRV HBV HSV
          obtain ⟨B1, hB1⟩ : ∃ B1, mkB (rowsL T1) = B1 := ⟨_, rfl⟩
          rw [hB1]
          have hbz : B1.size ≤ 20000 := by
            rw [← hB1, mkB_size]
            have := HTG.out.rows
            rw [HTL.out] at this
            omega
          obtain ⟨U1, hU1⟩ : ∃ U1, H ++ B1 = U1 := ⟨_, rfl⟩
          have HUD : Hid (parseP U1.data.toList = none) := Lib.hid (by
            rw [← hU1, add_list, HHD.out, ← hB1, mkB_data, List.append_assoc]
            exact HPN.out)
          have hhz := HHZ.out
          have HUZ : Hid (U1.size ≤ 100000) := Lib.hid (by rw [← hU1, ByteArray.size_append]; omega)
          have z1 : ¬ 9223372036854775807 < H.size + B1.size := by omega
          clear hB1
          go_wp2_with fail
          refine (cparse_any U1 _ HUZ.out (HL.out.below (HB5.out.trans (HB8.out.mono HB5.out.size)))).mono ?_
          rintro e w9 ⟨v9, rfl, _, hb9⟩
          rw [(parsC_none HUD.out).2]
          have HO9 := Lib.hid (row_below HO8.out hb9)
          have HB9 := Lib.hid (HB8.out.trans (hb9.mono HB8.out.size))
          clear hb9 HO8 HB8 hU1 hbz hhz z1 HUD HUZ HPN
          obtain ⟨wq9, hwq⟩ : ∃ wq, w9.drew = wq := ⟨_, rfl⟩
          have HS0 : Hid (Below w5.heap.size w9 wq9) := Lib.hid (by rw [← hwq]; exact ⟨rfl, rfl, rfl, Nat.le_refl _, fun _ _ => rfl⟩)
          have HTD : Hid (wq9.ownsRow w5.heap.size 45 6 (.slice (some ⟨g, 0, none⟩) n cg) n (flat encF T1)) := Lib.hid (by rw [← hwq]; exact row_below HO9.out ⟨rfl, rfl, rfl, Nat.le_refl _, fun _ _ => rfl⟩)
          obtain ⟨r0, r1, r2, r3, r4, r5⟩ := fact6 (own_at HTD.out HI9.out)
          obtain ⟨s0, s1, s2, s3, s4, s5⟩ := fact6 (own_at HTD.out HK9.out)
          go_wp2_with fail
          refine wp_region_since w5.heap.size (.two [0, 1, 2, 3, 4, 5, 6, 8, 9, 10] 7 (.one [] 11 (.one [12] 13 (.one [14] 15 (.last [])))) 11 (.one [] 7 (.one [12] 13 (.one [14] 15 (.last []))))) (by kernel_rfl) (by kernel_rfl) (fun d _ _ _ _ h => by cases d <;> exact h) ?_
          rw [hwq]
          clear hwq
          simp only [wpPlan, pick, nth]
          repeat (go_big_quiet_step (fail))
          refine wpQuiet_nil ?_
          refine ⟨?_, ?_⟩
          all_goals
            intro K hK
            refine alone_want (by kernel_rfl) ?_
            go_big_op
            refine hK _ _ (since_in HS0.out) ?_
            clear hK K
            refine wpQuiet_nil ?_
            intro K hK
            refine alone_want (by kernel_rfl) ?_
            go_big_op
            refine hK _ _ (since_in HS0.out) ?_
            clear hK K
            repeat (go_big_quiet_step (fail))
            refine wpQuiet_nil ?_
            intro K hK
            refine alone_want (by kernel_rfl) ?_
            refine wp_store_part (E := encF) 45 _ _ rfl w5.heap.size g n cg 45 T1 i x rfl rfl HTD.out (by exact HTL.out) hin infoFs ?_
            intro wu hru hgu
            have HSU := Lib.hid (HS0.out.grown hgu (Nat.le_trans HB9.out.size HS0.out.size) (fun k e => by cases e; exact HGB.out))
            have HRU := Lib.hid hru
            clear hru hgu
            refine hK _ _ (since_in HSU.out) ?_
            clear hK K r0 r1 r2 r3 r4 r5 s0 s1 s2 s3 s4 s5
            simp only [Act.put]
            repeat (go_big_quiet_step (fail))
            refine wpQuiet_nil ?_
            intro K hK
            refine alone_want (by kernel_rfl) ?_
            refine wp_store_part (E := encF) 45 _ _ rfl w5.heap.size g n cg 45 (T1.set i x) k y rfl rfl HRU.out (by rw [List.length_set]; exact HTL.out) hkn infoFs ?_
            intro wv hrv hgv
            have HSV := Lib.hid (HSU.out.grown hgv (Nat.le_trans HB9.out.size HSU.out.size) (fun k e => by cases e; exact HGB.out))
            have HRV := Lib.hid hrv
            clear hrv hgv
            refine hK _ _ (since_in HSV.out) ?_
            clear hK K
            simp only [Act.put]
            refine wpQuiet_nil ?_
            rw [HSB.out] at HRV
            have HBV := Lib.hid (HB9.out.trans HSV.out)
            clear HSU HRU HTD HS0
            go_wp2_with fail
            refine (body_any _ c _ (own_facts HRV.out HN.out) (by rw [HN.out]; exact hn150) HGL.out (HL.out.below (HB5.out.trans (HBV.out.mono HB5.out.size)))).mono ?_
            rintro e w10 ⟨rfl, hb10⟩
            have HB10 := Lib.hid (HBV.out.trans (hb10.mono HBV.out.size))
            clear hb10 HRV HBV HSV
            obtain ⟨B2, hB2⟩ : ∃ B2, mkB (rowsL c) = B2 := ⟨_, rfl⟩
            rw [hB2]
            have hbz : B2.size ≤ 20000 := by
              rw [← hB2, mkB_size]
              have := HGL.out.rows
              rw [HN.out] at this
              omega
            obtain ⟨U2, hU2⟩ : ∃ U2, H ++ B2 = U2 := ⟨_, rfl⟩
            have HUD : Hid (parseP U2.data.toList = some c) := Lib.hid (by
              rw [← hU2, add_list, HHD.out, ← hB2, mkB_data, List.append_assoc]
              have := parseP_text HOK.out HZ.out.fit
              rw [textL_eq, HN.out] at this
              exact this)
            have hhz := HHZ.out
            have HUZ : Hid (U2.size ≤ 100000) := Lib.hid (by rw [← hU2, ByteArray.size_append]; omega)
            have z1 : ¬ 9223372036854775807 < H.size + B2.size := by omega
            clear hB2
            go_wp2_with fail
            refine (cparse_any U2 _ HUZ.out (HL.out.below (HB5.out.trans (HB10.out.mono HB5.out.size)))).mono ?_
            rintro e w11 ⟨v11, rfl, hv11, hb11⟩
            rw [(parsC_some HUD.out).1] at hv11
            rw [(parsC_some HUD.out).2]
            have HV11 := Lib.hid hv11
            obtain ⟨p11, c11, rfl, _, _, _, _⟩ := hv11
            have HB11 := Lib.hid (HB10.out.trans (hb11.mono HB10.out.size))
            clear hb11 HB10 hU2 hbz hhz z1 HUD HUZ
            go_wp2_with fail
            refine (ours_any _ c _ HV11.out (fits_of HF.out)).mono ?_
            rintro e w12 ⟨v12, rfl, hr12, hb12⟩
            have HX12 := Lib.hid (els_of_own (E := encF) hr12)
            have HB12 := Lib.hid (HB11.out.trans (hb12.mono HB11.out.size))
            clear hr12 hb12
            go_wp2_with fail
            have hS := Fa.same_any v12 _ c c w12 HX12.out (HVW.out _ HB12.out)
            rw [show sameL c c = true from decide_eq_true rfl] at hS
            refine hS.mono ?_
            rintro e w13 ⟨rfl, hb13⟩
            have HB13 := Lib.hid (HB12.out.trans (hb13.mono HB12.out.size))
            clear hS hb13
            go_wp2
            go_ret
            exact ⟨rfl, HB5.out.trans (HB13.out.mono HB5.out.size)⟩
end Go.Proofs.YtdnneognilffaaaDoor.Cd
