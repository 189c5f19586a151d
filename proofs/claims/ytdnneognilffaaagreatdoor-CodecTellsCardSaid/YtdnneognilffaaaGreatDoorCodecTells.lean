
/- The walk of CodecTells: the text of any cube, and the cube of any text, are the document's, or there is none. -/
import Derived.Test.YtdnneognilffaaaGreatDoorCdAlive
import Derived.Test.YtdnneognilffaaaGreatDoorCdDocParse
namespace Go.Proofs.YtdnneognilffaaaGreatDoor.Cd
open Go.Proofs.YtdnneognilffaaaGreatDoor.Fa Go.RowKit

theorem parsC_right (l : List UInt8) : (parsC l).length ≤ 100000 := by
  cases hp : parseP l with
  | none => rw [(parsC_none hp).1]; exact Nat.zero_le _
  | some d =>
    rw [(parsC_some hp).1]
    have := (of_decide_eq_true (okC_right (parseP_some hp).1) : RightP d).1
    omega
set_option maxRecDepth 100000 in
set_option maxHeartbeats 16000000 in
theorem codecTells_walk (v : Value) (c : List Fact) (s : ByteArray) (w : World) (h : FactsV w v c) (hz : ∀ f ∈ c, In64 f.key.m ∧ In64 f.amt) (_hs : s.size ≤ maxLen) (hl : Laid w) : Calls Tryz.prog 3 #[v, .string s] w fun e w' => e = .returned (.bool true) ∧ Below w.heap.size w w' := by
  have HV := Lib.hid h
  have HZ := Lib.hid (show In64s c from hz)
  have HL := Lib.hid hl
  obtain ⟨p, cp, rfl, _, _, _, _⟩ := h
  obtain ⟨n, hn⟩ : ∃ n, c.length = n := ⟨_, rfl⟩
  rw [hn] at HV ⊢
  clear hn hz hl _hs
  obtain ⟨X, hX⟩ : ∃ X, prS c = X := ⟨_, rfl⟩
  obtain ⟨E, hE⟩ : ∃ E, prE c = E := ⟨_, rfl⟩
  obtain ⟨C, hC⟩ : ∃ C, parsC s.data.toList = C := ⟨_, rfl⟩
  obtain ⟨F, hF⟩ : ∃ F, parsE s.data.toList = F := ⟨_, rfl⟩
  have HXE := Lib.hid (And.intro hX hE)
  have HCF := Lib.hid (And.intro hC hF)
  have HCL : Hid (C.length ≤ 100000) := Lib.hid (by rw [← hC]; exact parsC_right _)
  have hxx : (X.toList == X.toList) = true := by simp
  have hee : (E == E) = true := by simp
  have hff : (F == F) = true := by simp
  clear hX hE hC hF
  go_enter Tryz.func3, Tryz.ntmps3
  go_wp2_with fail
  refine (alive_any _ HL.out).mono ?_
  rintro e w1 ⟨rfl, hb1⟩
  have HB1 := Lib.hid hb1
  have HV1 := Lib.hid (HV.out.keep hb1)
  clear hb1 HV
  go_wp2_with fail
  refine (few_any _ c _ HV1.out).mono ?_
  rintro e w2 ⟨rfl, hb2⟩
  have HB2 := Lib.hid (HB1.out.trans (hb2.mono HB1.out.size))
  have HV2 := Lib.hid (HV1.out.keep hb2)
  clear hb2 HV1 HB1
  cases hf : fewL c with
  | false =>
    clear hf
    go_wp2
    go_ret
    exact ⟨rfl, HB2.out⟩
  | true =>
    have HF : Hid (c.length ≤ 100000) := Lib.hid (by have := few_length hf; omega)
    clear hf
    by_cases hs : s.size ≤ 6000
    · have hsz : ¬ (6000 : Int) < (s.size : Int) := by omega
      have HS := Lib.hid hs
      clear hs
      go_wp2_with fail
      refine (theirs_any _ c _ HV2.out HF.out).mono ?_
      rintro e w3 ⟨v3, rfl, hr3, hb3⟩
      have HX3 := Lib.hid (els_of_own (E := encF) hr3)
      have HB3 := Lib.hid (HB2.out.trans (hb3.mono HB2.out.size))
      have HV3 := Lib.hid (HV2.out.keep hb3)
      clear hr3 hb3 HV2 HB2
      go_wp2_with fail
      have hP := cprint_any _ c _ HX3.out HF.out HZ.out (HL.out.below HB3.out)
      rw [HXE.out.1, HXE.out.2] at hP
      refine hP.mono ?_
      rintro e w4 ⟨rfl, hb4⟩
      have HB4 := Lib.hid (HB3.out.trans (hb4.mono HB3.out.size))
      have HV4 := Lib.hid (HV3.out.keep hb4)
      clear hP hb4 HX3 HV3 HB3
      go_wp2_with fail
      have hP := rprint10_any _ c _ HV4.out HF.out HZ.out
      rw [HXE.out.1, HXE.out.2] at hP
      refine hP.mono ?_
      rintro e w5 ⟨rfl, hb5⟩
      have HB5 := Lib.hid (HB4.out.trans (hb5.mono HB4.out.size))
      clear hP hb5 HV4 HB4
      go_wp2_with fail
      have hP := cparse_any s _ (Nat.le_trans HS.out (by decide)) (HL.out.below HB5.out)
      rw [HCF.out.1, HCF.out.2] at hP
      refine hP.mono ?_
      rintro e w6 ⟨v6, rfl, hv6, hb6⟩
      have HV6 := Lib.hid hv6
      obtain ⟨p6, c6, rfl, _, _, _, _⟩ := hv6
      have HB6 := Lib.hid (HB5.out.trans (hb6.mono HB5.out.size))
      clear hP hb6 HB5
      go_wp2_with fail
      have hP := rparse10_any s w6 (Nat.le_trans HS.out (by decide))
      rw [HCF.out.1, HCF.out.2] at hP
      refine hP.mono ?_
      rintro e w7 ⟨v7, rfl, hv7, hb7⟩
      have HV7 := Lib.hid hv7
      have HU7 := Lib.hid (HV6.out.keep hb7)
      obtain ⟨p7, c7, rfl, _, _, _, _⟩ := hv7
      have HB7 := Lib.hid (HB6.out.trans (hb7.mono HB6.out.size))
      clear hP hb7 HB6 HV6
      go_wp2_with fail
      refine (ours_any _ C _ HU7.out HCL.out).mono ?_
      rintro e w8 ⟨v8, rfl, hr8, hb8⟩
      have HX8 := Lib.hid (els_of_own (E := encF) hr8)
      have HB8 := Lib.hid (HB7.out.trans (hb8.mono HB7.out.size))
      have HV8 := Lib.hid (HV7.out.keep hb8)
      clear hr8 hb8 HV7 HB7 HU7
      go_wp2_with fail
      have hS := Fa.same_any v8 _ C C w8 HX8.out HV8.out
      rw [show sameL C C = true from decide_eq_true rfl] at hS
      refine hS.mono ?_
      rintro e w9 ⟨rfl, hb9⟩
      have HB9 := Lib.hid (HB8.out.trans (hb9.mono HB8.out.size))
      clear hS hb9
      go_wp2
      go_ret
      exact ⟨rfl, HB9.out⟩
    · have hsz : (6000 : Int) < (s.size : Int) := by omega
      clear hs
      go_wp2
      go_ret
      exact ⟨rfl, HB2.out⟩
end Go.Proofs.YtdnneognilffaaaGreatDoor.Cd
