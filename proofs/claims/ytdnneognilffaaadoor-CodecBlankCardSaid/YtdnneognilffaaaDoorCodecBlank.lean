
/- The walk of CodecBlank: a text with a blank, an empty line, a tab or a mark more is no cube's, nor is one with a line more. -/
import Derived.Test.YtdnneognilffaaaDoorCdAlive
import Derived.Test.YtdnneognilffaaaDoorCdCounts
import Derived.Test.YtdnneognilffaaaDoorCodecBack
namespace Go.Proofs.YtdnneognilffaaaDoor.Cd
open Go.Proofs.YtdnneognilffaaaDoor.Fa Go.RowKit

theorem take_zero (s : ByteArray) (k : Nat) : (s.extract 0 k).data.toList = s.data.toList.take k := by rw [piece_ahead, mkB_data]
theorem drop_zero (s : ByteArray) (k : Nat) : (s.extract k s.size).data.toList = s.data.toList.drop k := by rw [piece_behind, mkB_data]
theorem add_list (x y : ByteArray) : (x ++ y).data.toList = x.data.toList ++ y.data.toList := by simp [ByteArray.data_append]
set_option maxRecDepth 100000 in
set_option maxHeartbeats 16000000 in
theorem codecBlank_walk (v : Value) (c : List Fact) (a b : Int) (w : World) (h : FactsV w v c) (hz : ∀ f ∈ c, In64 f.key.m ∧ In64 f.amt) (ha : InU16 a) (hb : InU8 b) (hl : Laid w) : Calls Tryd.prog 4 #[v, .int .u16 a, .int .u8 b] w fun e w' => e = .returned (.bool true) ∧ Below w.heap.size w w' := by
  have HV := Lib.hid h
  have HZ := Lib.hid (show In64s c from hz)
  have HL := Lib.hid hl
  obtain ⟨p, cp, rfl, hcap, hmx, _, _⟩ := h
  obtain ⟨n, hn⟩ : ∃ n, c.length = n := ⟨_, rfl⟩
  rw [hn] at HV hcap ⊢
  have HN := Lib.hid hn
  obtain ⟨am, rfl⟩ : ∃ am : Nat, a = (am : Int) := ⟨a.toNat, by have := ha.1; omega⟩
  obtain ⟨bm, rfl⟩ : ∃ bm : Nat, b = (bm : Int) := ⟨b.toNat, by have := hb.1; omega⟩
  have hab : am ≤ 65535 := by have := ha.2; omega
  have hbb : bm ≤ 255 := by have := hb.2; omega
  clear hn hz hl ha hb hcap hmx
  go_enter Tryd.func4, Tryd.ntmps4
  go_wp2_with fail
  refine (alive_any _ HL.out).mono ?_
  rintro e w1 ⟨rfl, hb1⟩
  have HB1 := Lib.hid hb1
  have HV1 := Lib.hid (HV.out.keep hb1)
  clear hb1 HV
  go_wp2_with fail
  refine (few_any _ c _ HV1.out).mono ?_
  rintro e w2 ⟨rfl, hb2⟩
  have HB2 := Lib.hid (HB1.out.trans (hb2.mono HB1.out.size))
  have HV2 := Lib.hid (HV1.out.keep hb2)
  clear hb2 HV1 HB1
  cases hf : fewL c with
  | false =>
    clear hf
    go_wp2
    go_ret
    exact ⟨rfl, HB2.out⟩
  | true =>
    have HF := Lib.hid hf
    clear hf
    go_wp2_with fail
    refine (theirs_any _ c _ HV2.out (fits_of HF.out)).mono ?_
    rintro e w3 ⟨v3, rfl, hr3, hb3⟩
    have HX3 := Lib.hid (els_of_own (E := encF) hr3)
    have HB3 := Lib.hid (HB2.out.trans (hb3.mono HB2.out.size))
    clear hr3 hb3 HV2 HB2
    go_wp2_with fail
    refine (cprint_any _ c _ HX3.out (fits_of HF.out) HZ.out (HL.out.below HB3.out)).mono ?_
    rintro e w4 ⟨rfl, hb4⟩
    have HB4 := Lib.hid (HB3.out.trans (hb4.mono HB3.out.size))
    clear hb4 HX3 HB3
    cases hok : okC c with
    | false =>
      rw [prS_no hok, prE_no hok]
      clear hok
      have he := empty_yes (p := ⟨#[]⟩) rfl
      go_wp2
      go_ret
      exact ⟨rfl, HB4.out⟩
    | true =>
      rw [prS_yes hok, prE_yes hok]
      have HOK := Lib.hid hok
      have hsz := text_short hok HZ.out HF.out
      obtain ⟨S, hS⟩ : ∃ S, mkB (textL c) = S := ⟨_, rfl⟩
      rw [hS] at hsz ⊢
      have HSD : Hid (S.data.toList = textL c) := Lib.hid (by rw [← hS, mkB_data])
      obtain ⟨q, hq⟩ : ∃ q, am % (S.size + 1) = q := ⟨_, rfl⟩
      have hqs : q ≤ S.size := by rw [← hq]; exact Nat.le_of_lt_succ (Nat.mod_lt am (Nat.succ_pos _))
      have hrem : ((am : Nat) : Int).tmod ((S.size : Int) + 1) = ((q : Nat) : Int) := by
        rw [Int.tmod_eq_emod_of_nonneg (by omega), show ((S.size : Int) + 1) = ((S.size + 1 : Nat) : Int) from (Int.natCast_succ _).symm, ← Int.natCast_emod, hq]
      obtain ⟨j, hj⟩ : ∃ j, bm % 4 = j := ⟨_, rfl⟩
      have hj4 : j < 4 := by rw [← hj]; exact Nat.mod_lt _ (by omega)
      have hremb : ((bm : Nat) : Int).tmod 4 = ((j : Nat) : Int) := by
        rw [Int.tmod_eq_emod_of_nonneg (by omega), show (4 : Int) = ((4 : Nat) : Int) from rfl, ← Int.natCast_emod, hj]
      clear hS hok hq hj
      have c1 : (0 : Int) ≤ (q : Int) := by omega
      have c2 : (q : Int) ≤ (S.size : Int) := by omega
      have hjc : j = 0 ∨ j = 1 ∨ j = 2 ∨ j = 3 := by omega
      obtain ⟨U, hU⟩ : ∃ U, S ++ ⟨#[69, 32, 97, 32, 102, 32, 45, 32, 48, 32, 48, 10]⟩ = U := ⟨_, rfl⟩
      have HUD : Hid (parseP U.data.toList = none) := Lib.hid (by
        rw [← hU, add_list, HSD.out]
        exact row_none HOK.out)
      have HUZ : Hid (U.size ≤ 100000) := Lib.hid (by
        rw [← hU, ByteArray.size_append]
        show _ + 12 ≤ _
        omega)
      have z0 : ¬ 9223372036854775807 < S.size + 12 := by omega
      rcases hjc with rfl | rfl | rfl | rfl
      · obtain ⟨W4, hW4⟩ : ∃ W4, w4.alloc (.cells #[.string ⟨#[32]⟩, .string ⟨#[10]⟩, .string ⟨#[9]⟩, .string ⟨#[35]⟩] 9) = W4 := ⟨_, rfl⟩
        have HBA : Hid (Below w.heap.size w W4) := Lib.hid (by rw [← hW4]; exact HB4.out.alloc HB4.out.size _)
        have hc4 : W4.cell? ⟨w4.heap.size, 0, none⟩ = some (.string ⟨#[32]⟩) := by
          rw [← hW4, cell_of_row _ w4.heap.size 0 _ 9 (0, 0) (heap_alloc_new w4 _)]; rfl
        have HDR : Hid (Below W4.heap.size W4 W4.drew) := Lib.hid ⟨rfl, rfl, rfl, Nat.le_refl _, fun _ _ => rfl⟩
        obtain ⟨T, hT⟩ : ∃ T, S.extract 0 q ++ ⟨#[32]⟩ ++ S.extract q S.size = T := ⟨_, rfl⟩
        have HTD : Hid (parseP T.data.toList = none) := Lib.hid (by
          rw [← hT, add_list, add_list, take_zero, drop_zero, HSD.out]
          exact more_none HOK.out q 0)
        have HTZ : Hid (T.size ≤ 100000) := Lib.hid (by
          rw [← hT, ByteArray.size_append, ByteArray.size_append, ByteArray.size_extract, ByteArray.size_extract]
          show _ + 1 + _ ≤ _
          omega)
        have z1 : ¬ 9223372036854775807 < (S.extract 0 q).size + 1 := by rw [ByteArray.size_extract]; omega
        have z2 : ¬ 9223372036854775807 < (S.extract 0 q).size + 1 + (S.extract q S.size).size := by rw [ByteArray.size_extract, ByteArray.size_extract]; omega
        go_wp2_with fail
        refine wp_region_plan (.one [0, 1, 2, 3, 4, 5, 6, 7, 8] 9 (.last [10, 11, 12, 13, 14])) (by kernel_rfl) (by kernel_rfl) (fun d _ _ _ _ h => by cases d <;> exact h) ?_
        clear hc4 hW4
        simp only [wpPlan, pick, nth]
        repeat (go_big_quiet_step (fail))
        refine wpQuiet_nil ?_
        intro K hK
        refine alone_want (by kernel_rfl) ?_
        go_big_op
        clear hT z1 z2 c1 c2
        refine (cparse_any T _ HTZ.out (HL.out.below (HBA.out.trans (HDR.out.mono HBA.out.size)))).mono ?_
        rintro en w5 ⟨v5, rfl, _, hb5⟩
        rw [(parsC_none HTD.out).2]
        have HP5 := Lib.hid (HDR.out.trans (hb5.mono HDR.out.size))
        have HB5 := Lib.hid (HBA.out.trans (HP5.out.mono HBA.out.size))
        clear hb5
        refine hK _ _ (past_in HP5.out) ?_
        clear hK K
        repeat (go_big_quiet_step (fail))
        refine wpQuiet_nil ?_
        go_wp2_with fail
        refine (cparse_any U _ HUZ.out (HL.out.below HB5.out)).mono ?_
        rintro e w6 ⟨v6, rfl, _, hb6⟩
        rw [(parsC_none HUD.out).2]
        have HB6 := Lib.hid (HB5.out.trans (hb6.mono HB5.out.size))
        clear hb6 hU z0
        go_wp2
        go_ret
        exact ⟨rfl, HB6.out⟩
      · obtain ⟨W4, hW4⟩ : ∃ W4, w4.alloc (.cells #[.string ⟨#[32]⟩, .string ⟨#[10]⟩, .string ⟨#[9]⟩, .string ⟨#[35]⟩] 9) = W4 := ⟨_, rfl⟩
        have HBA : Hid (Below w.heap.size w W4) := Lib.hid (by rw [← hW4]; exact HB4.out.alloc HB4.out.size _)
        have hc4 : W4.cell? ⟨w4.heap.size, 1, none⟩ = some (.string ⟨#[10]⟩) := by
          rw [← hW4, cell_of_row _ w4.heap.size 1 _ 9 (0, 0) (heap_alloc_new w4 _)]; rfl
        have HDR : Hid (Below W4.heap.size W4 W4.drew) := Lib.hid ⟨rfl, rfl, rfl, Nat.le_refl _, fun _ _ => rfl⟩
        obtain ⟨T, hT⟩ : ∃ T, S.extract 0 q ++ ⟨#[10]⟩ ++ S.extract q S.size = T := ⟨_, rfl⟩
        have HTD : Hid (parseP T.data.toList = none) := Lib.hid (by
          rw [← hT, add_list, add_list, take_zero, drop_zero, HSD.out]
          exact more_none HOK.out q 1)
        have HTZ : Hid (T.size ≤ 100000) := Lib.hid (by
          rw [← hT, ByteArray.size_append, ByteArray.size_append, ByteArray.size_extract, ByteArray.size_extract]
          show _ + 1 + _ ≤ _
          omega)
        have z1 : ¬ 9223372036854775807 < (S.extract 0 q).size + 1 := by rw [ByteArray.size_extract]; omega
        have z2 : ¬ 9223372036854775807 < (S.extract 0 q).size + 1 + (S.extract q S.size).size := by rw [ByteArray.size_extract, ByteArray.size_extract]; omega
        go_wp2_with fail
        refine wp_region_plan (.one [0, 1, 2, 3, 4, 5, 6, 7, 8] 9 (.last [10, 11, 12, 13, 14])) (by kernel_rfl) (by kernel_rfl) (fun d _ _ _ _ h => by cases d <;> exact h) ?_
        clear hc4 hW4
        simp only [wpPlan, pick, nth]
        repeat (go_big_quiet_step (fail))
        refine wpQuiet_nil ?_
        intro K hK
        refine alone_want (by kernel_rfl) ?_
        go_big_op
        clear hT z1 z2 c1 c2
        refine (cparse_any T _ HTZ.out (HL.out.below (HBA.out.trans (HDR.out.mono HBA.out.size)))).mono ?_
        rintro en w5 ⟨v5, rfl, _, hb5⟩
        rw [(parsC_none HTD.out).2]
        have HP5 := Lib.hid (HDR.out.trans (hb5.mono HDR.out.size))
        have HB5 := Lib.hid (HBA.out.trans (HP5.out.mono HBA.out.size))
        clear hb5
        refine hK _ _ (past_in HP5.out) ?_
        clear hK K
        repeat (go_big_quiet_step (fail))
        refine wpQuiet_nil ?_
        go_wp2_with fail
        refine (cparse_any U _ HUZ.out (HL.out.below HB5.out)).mono ?_
        rintro e w6 ⟨v6, rfl, _, hb6⟩
        rw [(parsC_none HUD.out).2]
        have HB6 := Lib.hid (HB5.out.trans (hb6.mono HB5.out.size))
        clear hb6 hU z0
        go_wp2
        go_ret
        exact ⟨rfl, HB6.out⟩
      · obtain ⟨W4, hW4⟩ : ∃ W4, w4.alloc (.cells #[.string ⟨#[32]⟩, .string ⟨#[10]⟩, .string ⟨#[9]⟩, .string ⟨#[35]⟩] 9) = W4 := ⟨_, rfl⟩
        have HBA : Hid (Below w.heap.size w W4) := Lib.hid (by rw [← hW4]; exact HB4.out.alloc HB4.out.size _)
        have hc4 : W4.cell? ⟨w4.heap.size, 2, none⟩ = some (.string ⟨#[9]⟩) := by
          rw [← hW4, cell_of_row _ w4.heap.size 2 _ 9 (0, 0) (heap_alloc_new w4 _)]; rfl
        have HDR : Hid (Below W4.heap.size W4 W4.drew) := Lib.hid ⟨rfl, rfl, rfl, Nat.le_refl _, fun _ _ => rfl⟩
        obtain ⟨T, hT⟩ : ∃ T, S.extract 0 q ++ ⟨#[9]⟩ ++ S.extract q S.size = T := ⟨_, rfl⟩
        have HTD : Hid (parseP T.data.toList = none) := Lib.hid (by
          rw [← hT, add_list, add_list, take_zero, drop_zero, HSD.out]
          exact more_none HOK.out q 2)
        have HTZ : Hid (T.size ≤ 100000) := Lib.hid (by
          rw [← hT, ByteArray.size_append, ByteArray.size_append, ByteArray.size_extract, ByteArray.size_extract]
          show _ + 1 + _ ≤ _
          omega)
        have z1 : ¬ 9223372036854775807 < (S.extract 0 q).size + 1 := by rw [ByteArray.size_extract]; omega
        have z2 : ¬ 9223372036854775807 < (S.extract 0 q).size + 1 + (S.extract q S.size).size := by rw [ByteArray.size_extract, ByteArray.size_extract]; omega
        go_wp2_with fail
        refine wp_region_plan (.one [0, 1, 2, 3, 4, 5, 6, 7, 8] 9 (.last [10, 11, 12, 13, 14])) (by kernel_rfl) (by kernel_rfl) (fun d _ _ _ _ h => by cases d <;> exact h) ?_
        clear hc4 hW4
        simp only [wpPlan, pick, nth]
        repeat (go_big_quiet_step (fail))
        refine wpQuiet_nil ?_
        intro K hK
        refine alone_want (by kernel_rfl) ?_
        go_big_op
        clear hT z1 z2 c1 c2
        refine (cparse_any T _ HTZ.out (HL.out.below (HBA.out.trans (HDR.out.mono HBA.out.size)))).mono ?_
        rintro en w5 ⟨v5, rfl, _, hb5⟩
        rw [(parsC_none HTD.out).2]
        have HP5 := Lib.hid (HDR.out.trans (hb5.mono HDR.out.size))
        have HB5 := Lib.hid (HBA.out.trans (HP5.out.mono HBA.out.size))
        clear hb5
        refine hK _ _ (past_in HP5.out) ?_
        clear hK K
        repeat (go_big_quiet_step (fail))
        refine wpQuiet_nil ?_
        go_wp2_with fail
        refine (cparse_any U _ HUZ.out (HL.out.below HB5.out)).mono ?_
        rintro e w6 ⟨v6, rfl, _, hb6⟩
        rw [(parsC_none HUD.out).2]
        have HB6 := Lib.hid (HB5.out.trans (hb6.mono HB5.out.size))
        clear hb6 hU z0
        go_wp2
        go_ret
        exact ⟨rfl, HB6.out⟩
      · obtain ⟨W4, hW4⟩ : ∃ W4, w4.alloc (.cells #[.string ⟨#[32]⟩, .string ⟨#[10]⟩, .string ⟨#[9]⟩, .string ⟨#[35]⟩] 9) = W4 := ⟨_, rfl⟩
        have HBA : Hid (Below w.heap.size w W4) := Lib.hid (by rw [← hW4]; exact HB4.out.alloc HB4.out.size _)
        have hc4 : W4.cell? ⟨w4.heap.size, 3, none⟩ = some (.string ⟨#[35]⟩) := by
          rw [← hW4, cell_of_row _ w4.heap.size 3 _ 9 (0, 0) (heap_alloc_new w4 _)]; rfl
        have HDR : Hid (Below W4.heap.size W4 W4.drew) := Lib.hid ⟨rfl, rfl, rfl, Nat.le_refl _, fun _ _ => rfl⟩
        obtain ⟨T, hT⟩ : ∃ T, S.extract 0 q ++ ⟨#[35]⟩ ++ S.extract q S.size = T := ⟨_, rfl⟩
        have HTD : Hid (parseP T.data.toList = none) := Lib.hid (by
          rw [← hT, add_list, add_list, take_zero, drop_zero, HSD.out]
          exact more_none HOK.out q 3)
        have HTZ : Hid (T.size ≤ 100000) := Lib.hid (by
          rw [← hT, ByteArray.size_append, ByteArray.size_append, ByteArray.size_extract, ByteArray.size_extract]
          show _ + 1 + _ ≤ _
          omega)
        have z1 : ¬ 9223372036854775807 < (S.extract 0 q).size + 1 := by rw [ByteArray.size_extract]; omega
        have z2 : ¬ 9223372036854775807 < (S.extract 0 q).size + 1 + (S.extract q S.size).size := by rw [ByteArray.size_extract, ByteArray.size_extract]; omega
        go_wp2_with fail
        refine wp_region_plan (.one [0, 1, 2, 3, 4, 5, 6, 7, 8] 9 (.last [10, 11, 12, 13, 14])) (by kernel_rfl) (by kernel_rfl) (fun d _ _ _ _ h => by cases d <;> exact h) ?_
        clear hc4 hW4
        simp only [wpPlan, pick, nth]
        repeat (go_big_quiet_step (fail))
        refine wpQuiet_nil ?_
        intro K hK
        refine alone_want (by kernel_rfl) ?_
        go_big_op
        clear hT z1 z2 c1 c2
        refine (cparse_any T _ HTZ.out (HL.out.below (HBA.out.trans (HDR.out.mono HBA.out.size)))).mono ?_
        rintro en w5 ⟨v5, rfl, _, hb5⟩
        rw [(parsC_none HTD.out).2]
        have HP5 := Lib.hid (HDR.out.trans (hb5.mono HDR.out.size))
        have HB5 := Lib.hid (HBA.out.trans (HP5.out.mono HBA.out.size))
        clear hb5
        refine hK _ _ (past_in HP5.out) ?_
        clear hK K
        repeat (go_big_quiet_step (fail))
        refine wpQuiet_nil ?_
        go_wp2_with fail
        refine (cparse_any U _ HUZ.out (HL.out.below HB5.out)).mono ?_
        rintro e w6 ⟨v6, rfl, _, hb6⟩
        rw [(parsC_none HUD.out).2]
        have HB6 := Lib.hid (HB5.out.trans (hb6.mono HB5.out.size))
        clear hb6 hU z0
        go_wp2
        go_ret
        exact ⟨rfl, HB6.out⟩
end Go.Proofs.YtdnneognilffaaaDoor.Cd
