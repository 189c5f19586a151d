
/- The walk of CodecLines: a text has a line for each fact, and one more; a cube without its last fact has a shorter text. -/
import Derived.Test.YtdnneognilffaaaDoorCdAlive
import Derived.Test.YtdnneognilffaaaDoorCdCounts
import Derived.Test.YtdnneognilffaaaDoorFaOurs
import Derived.Lib.ConvBytes
namespace Go.Proofs.YtdnneognilffaaaDoor.Cd
open Go.Proofs.YtdnneognilffaaaDoor.Fa Go.RowKit

/-- '[]byte(s)'. -/
theorem bytes_of (s : ByteArray) (w : World) : ∃ cap w', (convert 9 40 (.string s)).run Tryd.prog w = .ok (.slice (some ⟨w.heap.size, 0, none⟩) s.size cap) w' ∧ Below w.heap.size w w' ∧
    ∀ j, j < s.size → w'.cell? ⟨w.heap.size, j, none⟩ = some (.int .u8 ((s.data.toList.getD j 0).toNat : Int)) :=
  ⟨_, _, Lib.run_convert_string_bytes w 9 40 5 s Tryd.underlying9 Tryd.underlying40 Tryd.underlying5,
    ⟨rfl, rfl, rfl, by rw [Lib.bytesWorld_size]; omega, fun j hj => Lib.bytesWorld_at_old w _ s j hj⟩, fun j hj => Lib.bytesWorld_cell w _ s j hj⟩
theorem getD_list (s : ByteArray) (k : Nat) (h : k < s.size) : s.data.toList.getD k 0 = s.data.toList[k]'(by rw [size_list]; exact h) := by
  rw [List.getD_eq_getElem?_getD, List.getElem?_eq_getElem (by rw [size_list]; exact h)]; rfl
theorem count_take_yes (s : ByteArray) (k : Nat) (h : k < s.size) (hc : s.data.toList.getD k 0 = 10) : (s.data.toList.take (k + 1)).count 10 = (s.data.toList.take k).count 10 + 1 := by
  rw [getD_list s k h] at hc
  rw [List.take_succ_eq_append_getElem (by rw [size_list]; exact h), List.count_append, hc]; rfl
theorem count_take_no (s : ByteArray) (k : Nat) (h : k < s.size) (hc : s.data.toList.getD k 0 ≠ 10) : (s.data.toList.take (k + 1)).count 10 = (s.data.toList.take k).count 10 := by
  rw [getD_list s k h] at hc
  rw [List.take_succ_eq_append_getElem (by rw [size_list]; exact h), List.count_append, List.count_singleton, if_neg (by simpa using hc)]; rfl
theorem last_cut {c : List Fact} {n : Nat} (hn : c.length = n) (h0 : n ≠ 0) : ∃ x, c = c.take (n - 1) ++ [x] := by
  obtain ⟨x, hx⟩ : ∃ x, c[n - 1]? = some x := ⟨_, List.getElem?_eq_getElem (by omega)⟩
  refine ⟨x, ?_⟩
  have := List.take_add_one (l := c) (i := n - 1)
  rw [hx, show n - 1 + 1 = n by omega, List.take_of_length_le (by omega)] at this
  exact this
theorem facts_take {w : World} {p : Option Addr} {cp : Nat} {c : List Fact} {n : Nat} (h : FactsV w (.slice p c.length cp) c) (hn : n ≤ c.length) : FactsV w (.slice p n cp) (c.take n) := by
  obtain ⟨p', c', e, h1, h2, h3, h4⟩ := h
  cases e
  refine ⟨p, cp, by rw [List.length_take, Nat.min_eq_left hn], by rw [List.length_take]; omega, h2, h3, fun i x hx => h4 i x ?_⟩
  rw [List.getElem?_take] at hx
  split at hx
  · exact hx
  · cases hx
theorem part_t : Tryd.prog.underlying 22 = some (.slice (Tryd.prog.elem 22)) := by kernel_rfl
theorem part_s (w : World) : (sizeOf (Tryd.prog.elem 22)).run Tryd.prog w = .ok 6 w := by kernel_rfl
theorem part_hi (w : World) (b o N cap q : Nat) (h1 : q < N) (h2 : N ≤ cap) : (Instr.slice 22 (.slice (some ⟨b, o, none⟩) N cap) none (some (.int .i64 (q : Int))) none).run Tryd.prog w = .ok (.slice (some ⟨b, o, none⟩) q cap) w := by
  rw [run_slice_h w _ _ N cap part_t .i64 (q : Int) (by omega) (by omega), part_s]
  simp [Result.andThen, sliced, Addr.add]
set_option maxRecDepth 100000 in
set_option maxHeartbeats 16000000 in
theorem codecLines_walk (v : Value) (c : List Fact) (w : World) (h : FactsV w v c) (hz : ∀ f ∈ c, In64 f.key.m ∧ In64 f.amt) (hl : Laid w) : Calls Tryd.prog 5 #[v] w fun e w' => e = .returned (.bool true) ∧ Below w.heap.size w w' := by
  have HV := Lib.hid h
  have HZ := Lib.hid (show In64s c from hz)
  have HL := Lib.hid hl
  obtain ⟨p, cp, rfl, hcap, hmx, _, _⟩ := h
  obtain ⟨n, hn⟩ : ∃ n, c.length = n := ⟨_, rfl⟩
  have HT := Lib.hid (fun W (hW : FactsV W (.slice p c.length cp) c) => facts_take (n := n - 1) hW (by omega))
  rw [hn] at HV hcap HT ⊢
  have HN := Lib.hid hn
  unfold maxLen at hmx
  clear hn hz hl
  go_enter Tryd.func5, Tryd.ntmps5
  go_wp2_with fail
  refine (alive_any _ HL.out).mono ?_
  rintro e w1 ⟨rfl, hb1⟩
  have HB1 := Lib.hid hb1
  have HV1 := Lib.hid (HV.out.keep hb1)
  clear hb1 HV
  go_wp2_with fail
  refine (few_any _ c _ HV1.out).mono ?_
  rintro e w2 ⟨rfl, hb2⟩
  have HB2 := Lib.hid (HB1.out.trans (hb2.mono HB1.out.size))
  have HV2 := Lib.hid (HV1.out.keep hb2)
  clear hb2 HV1 HB1
  cases hf : fewL c with
  | false =>
    clear hf
    go_wp2
    go_ret
    exact ⟨rfl, HB2.out⟩
  | true =>
    have HLN : Hid (n ≤ 150 ∧ c.length ≤ 150) := Lib.hid (by have := few_length hf; have := HN.out; omega)
    clear hf
    go_wp2_with fail
    refine (theirs_any _ c _ HV2.out (by have := HLN.out; omega)).mono ?_
    rintro e w3 ⟨v3, rfl, hr3, hb3⟩
    have HX3 := Lib.hid (els_of_own (E := encF) hr3)
    have HB3 := Lib.hid (HB2.out.trans (hb3.mono HB2.out.size))
    have HV3 := Lib.hid (HV2.out.keep hb3)
    clear hr3 hb3 HV2 HB2
    go_wp2_with fail
    refine (cprint_any _ c _ HX3.out (by have := HLN.out; omega) HZ.out (HL.out.below HB3.out)).mono ?_
    rintro e w4 ⟨rfl, hb4⟩
    have HB4 := Lib.hid (HB3.out.trans (hb4.mono HB3.out.size))
    have HV4 := Lib.hid (HV3.out.keep hb4)
    clear hb4 HX3 HV3 HB3
    cases hok : okC c with
    | false =>
      rw [prS_no hok, prE_no hok]
      clear hok
      have he := empty_yes (p := ⟨#[]⟩) rfl
      go_wp2
      go_ret
      exact ⟨rfl, HB4.out⟩
    | true =>
      rw [prS_yes hok, prE_yes hok]
      obtain ⟨S, hS⟩ : ∃ S, mkB (textL c) = S := ⟨_, rfl⟩
      rw [hS]
      have HSD : Hid (S.data.toList = textL c) := Lib.hid (by rw [← hS, mkB_data])
      have HOK := Lib.hid hok
      have HSZ : Hid (S.size ≤ 100000) := Lib.hid (by
        rw [← size_list, HSD.out]
        have := textL_le hok HZ.out.fit (by have := HLN.out; omega)
        have := HLN.out
        omega)
      have HCN : Hid ((S.data.toList).count 10 = n + 1) := Lib.hid (by rw [HSD.out, (count_text hok).1, HN.out])
      clear hS hok
      obtain ⟨cap, w5, hconv, hb5, hcells⟩ := bytes_of S w4
      have HB5 := Lib.hid (HB4.out.trans (hb5.mono HB4.out.size))
      have HV5 := Lib.hid (HV4.out.keep hb5)
      have HCE := Lib.hid hcells
      have HG5 : Hid (w4.heap.size < w5.heap.size) := Lib.hid (by
        have := HSD.out
        have h0 : 0 < S.size := by
          rw [← size_list, this, textL_eq]
          simp
          omega
        exact World.block_lt_of_cell? w5 _ (hcells 0 h0))
      have hs1 := HSZ.out
      clear hb5 hcells HV4
      go_wp2
      clear hconv
      go_loopw [5, 32] (fun s5 s32 wr => ∃ k : Nat, s32 = .int .i64 (k : Int) ∧ s5 = .int .i64 (((S.data.toList.take k).count 10 : Nat) : Int) ∧ k ≤ S.size ∧ Hid (Below w5.heap.size w5 wr)) (fun _ s32 _ => S.size - (intOf s32).toNat)
      case atStart => exact ⟨0, rfl, rfl, Nat.zero_le _, Lib.hid (Below.refl _ _)⟩
      case round =>
        obtain ⟨k, rfl, rfl, hk, HBR⟩ := hrel
        by_cases hlt : k < S.size
        · have hc := (HBR.out.cell (p := ⟨w4.heap.size, k, none⟩) HG5.out).trans (HCE.out k hlt)
          have hcb : (S.data.toList.getD k 0).toNat < 256 := UInt8.toNat_lt _
          have hcl : ((S.data.toList.take k).count 10) ≤ 100000 := Nat.le_trans List.count_le_length (by rw [List.length_take, size_list]; omega)
          by_cases h10 : S.data.toList.getD k 0 = 10
          · have HC2 := Lib.hid (count_take_yes S k hlt h10)
            have hb : (((S.data.toList.getD k 0).toNat : Int) == 10) = true := by rw [h10]; rfl
            clear h10
            obtain ⟨ch, hch⟩ : ∃ ch, S.data.toList.getD k 0 = ch := ⟨_, rfl⟩
            obtain ⟨q, hq⟩ : ∃ q, (S.data.toList.take k).count 10 = q := ⟨_, rfl⟩
            rw [hch] at hc hb hcb
            rw [hq] at HC2 hcl ⊢
            clear hch hq
            go_wp2
            clear hc hb
            go_roundw
            case rel => exact ⟨k + 1, by go_num, by rw [HC2.out]; go_num, by omega, HBR⟩
            case measure => simp [intOf]; omega
          · have HC2 := Lib.hid (count_take_no S k hlt h10)
            have hb : (((S.data.toList.getD k 0).toNat : Int) == 10) = false := by
              rw [beq_eq_false_iff_ne]
              intro e
              exact h10 (UInt8.toNat_inj.1 (by show _ = 10; omega))
            clear h10
            obtain ⟨ch, hch⟩ : ∃ ch, S.data.toList.getD k 0 = ch := ⟨_, rfl⟩
            obtain ⟨q, hq⟩ : ∃ q, (S.data.toList.take k).count 10 = q := ⟨_, rfl⟩
            rw [hch] at hc hb hcb
            rw [hq] at HC2 hcl ⊢
            clear hch hq
            go_wp2
            clear hc hb
            go_roundw
            case rel => exact ⟨k + 1, by go_num, by rw [HC2.out], by omega, HBR⟩
            case measure => simp [intOf]; omega
        · have hcn : (S.data.toList.take k).count 10 = n + 1 := by rw [List.take_of_length_le (by rw [size_list]; omega), HCN.out]
          rw [hcn, show ((n + 1 : Nat) : Int) = (n : Int) + 1 from Int.natCast_succ n]
          have HBW := Lib.hid (HB5.out.trans (HBR.out.mono HB5.out.size))
          have HVW := Lib.hid (HV5.out.keep HBR.out)
          clear hcn HBR HV5 hs1
          by_cases h0 : n = 0
          · subst h0
            have hq : (S.toList == [99, 117, 98, 101, 32, 48, 10]) = true := by
              have h1 := HSD.out
              rw [List.eq_nil_of_length_eq_zero HN.out, lives4] at h1
              exact lit_eq (by rw [← mkB_list S, h1]; rfl)
            go_wp2
            go_ret
            exact ⟨rfl, HBW.out⟩
          · obtain ⟨x, hx⟩ := last_cut HN.out h0
            obtain ⟨m, rfl⟩ : ∃ m, n = m + 1 := ⟨n - 1, by omega⟩
            rw [Nat.add_sub_cancel] at hx
            have hml : (c.take m).length = m := by rw [List.length_take, HN.out]; omega
            have hlz := HLN.out
            have hok1 := HOK.out
            rw [hx] at hok1
            obtain ⟨ho, hlt2⟩ := text_less hok1 (by omega)
            rw [← hx] at hlt2
            have HOM := Lib.hid ho
            have HTW := HT.out wr HVW.out
            rw [Nat.add_sub_cancel] at HTW
            have HTX := Lib.hid HTW
            have HLM : Hid ((c.take m).length ≤ 100000) := Lib.hid (by omega)
            have HZM : Hid (In64s (c.take m)) := Lib.hid (fun f hf => HZ.out f (List.mem_of_mem_take hf))
            have HSL : Hid ((mkB (textL (c.take m))).size < S.size) := Lib.hid (by rw [mkB_size, ← size_list S, HSD.out]; exact hlt2)
            obtain ⟨b, o, rfl, _⟩ := ElsV.at_ (i := 0) HVW.out (List.getElem?_eq_getElem (by rw [HN.out]; omega))
            have hs1 := fun W => part_hi W b o (m + 1) cp m (by omega) hcap
            have hn0 : ((m : Int) + 1 == 0) = false := by rw [beq_eq_false_iff_ne]; omega
            clear hx hok1 hlt2 ho HTW h0
            go_wp2_with fail
            clear hs1
            refine (theirs_any _ (c.take m) _ HTX.out HLM.out).mono ?_
            rintro e w6 ⟨v6, rfl, hr6, hb6⟩
            have HX6 := Lib.hid (els_of_own (E := encF) hr6)
            have HB6 := Lib.hid (HBW.out.trans (hb6.mono HBW.out.size))
            clear hr6 hb6
            go_wp2_with fail
            refine (cprint_any _ (c.take m) _ HX6.out HLM.out HZM.out (HL.out.below HB6.out)).mono ?_
            rintro e w7 ⟨rfl, hb7⟩
            have HB7 := Lib.hid (HB6.out.trans (hb7.mono HB6.out.size))
            rw [prS_yes HOM.out, prE_yes HOM.out]
            obtain ⟨R, hR⟩ : ∃ R, mkB (textL (c.take m)) = R := ⟨_, rfl⟩
            rw [hR] at HSL ⊢
            have hlr : (R.size : Int) < (S.size : Int) := by have := HSL.out; omega
            clear hb7 hR
            go_wp2
            go_ret
            exact ⟨rfl, HB7.out⟩
end Go.Proofs.YtdnneognilffaaaDoor.Cd
