
/- The walk of FactZeros: a cube and its other signs together are nothing; with nothing it is itself. -/
import Derived.Test.YtimeebildbmhaaaFaAlive
import Derived.Test.YtimeebildbmhaaaFaOurs
import Derived.Test.YtimeebildbmhaaaFaFacts
namespace Go.Proofs.Ytimeebildbmhaaa.Fa
open Go.RowKit

theorem few_small {l : List Fact} (hf : fewL l = true) (hs : smallL l = true) : ofL l = (cube l, 0) ∧ Bnd B1 (cube l) ∧ (cube l).length ≤ 150 ∧ Bnd 4503599627370496 l := by
  have h1 := small_bnd hs
  have h2 := few_length hf
  exact ⟨ofL_small h1 h2, cube_bnd1 h1 h2, Nat.le_trans (cube_length l) h2, h1⟩
theorem neg_take {c : List Fact} {i : Nat} {x : Fact} (hx : c[i]? = some x) : negF (c.take (i + 1)) = negF (c.take i) ++ [⟨x.key, -x.amt⟩] := by
  unfold negF
  rw [List.take_add_one, hx]
  simp
set_option maxRecDepth 100000 in
set_option maxHeartbeats 8000000 in
theorem factZeros_walk (v : Value) (L : List Fact) (w : World) (h : FactsV w v L) (hz : ∀ f ∈ L, In64 f.key.m ∧ In64 f.amt) : Calls Try.prog 9 #[v] w fun e w' => e = .returned (.bool true) ∧ Below w.heap.size w w' := by
  have HV := Lib.hid h
  have HZ := Lib.hid (fun f hf => (hz f hf).2)
  obtain ⟨p, cp, rfl, _, _, _, _⟩ := h
  obtain ⟨n, hn⟩ : ∃ n, L.length = n := ⟨_, rfl⟩
  rw [hn] at HV ⊢
  have HN := Lib.hid hn
  clear hn hz
  go_enter Try.func9, Try.ntmps9
  go_wp2_with fail
  refine (alive_any _).mono ?_
  rintro e w1 ⟨rfl, hb1⟩
  have HB1 := Lib.hid hb1
  have HV1 := Lib.hid (HV.out.keep hb1)
  clear hb1 HV
  go_wp2_with fail
  refine (few_any _ L _ HV1.out).mono ?_
  rintro e w2 ⟨rfl, hb2⟩
  have HB2 := Lib.hid (HB1.out.trans (hb2.mono HB1.out.size))
  have HV2 := Lib.hid (HV1.out.keep hb2)
  clear hb2 HV1 HB1
  cases hf : fewL L with
  | false =>
    clear hf
    go_wp2
    go_ret
    exact ⟨rfl, HB2.out⟩
  | true =>
    have HF := Lib.hid hf
    clear hf
    go_wp2_with fail
    refine (small_any _ L _ HV2.out).mono ?_
    rintro e w3 ⟨rfl, hb3⟩
    have HB3 := Lib.hid (HB2.out.trans (hb3.mono HB2.out.size))
    have HV3 := Lib.hid (HV2.out.keep hb3)
    clear hb3 HV2 HB2
    cases hs : smallL L with
    | false =>
      clear hs
      go_wp2
      go_ret
      exact ⟨rfl, HB3.out⟩
    | true =>
      have HFS := Lib.hid (few_small HF.out hs)
      have HLN : Hid (L.length ≤ 150) := Lib.hid (few_length HF.out)
      clear hs
      go_wp2_with fail
      refine (theirs_any _ L _ HV3.out (by have := HLN.out; omega)).mono ?_
      rintro e w4 ⟨v4, rfl, hr4, hb4⟩
      have HT4 := Lib.hid (els_of_own (E := encF) hr4)
      have HB4 := Lib.hid (HB3.out.trans (hb4.mono HB3.out.size))
      clear hr4 hb4 HV3 HB3
      go_wp2_with fail
      have hO := of_any v4 L w4 HT4.out HZ.out (by have := HLN.out; omega)
      rw [HFS.out.1] at hO
      refine hO.mono ?_
      rintro e w5 ⟨v5, rfl, hv5, hb5⟩
      have HB5 := Lib.hid (HB4.out.trans (hb5.mono HB4.out.size))
      obtain ⟨C, hC⟩ : ∃ C, cube L = C := ⟨_, rfl⟩
      have HRI : Hid (RiseF C) := Lib.hid (by rw [← hC]; exact cube_rise L)
      have HNZ : Hid (∀ f ∈ C, f.amt ≠ 0) := Lib.hid (by rw [← hC]; exact cube_nz L)
      have HBD : Hid (Bnd B1 C) := Lib.hid (by rw [← hC]; exact HFS.out.2.1)
      have hCL : C.length ≤ 150 := by rw [← hC]; exact HFS.out.2.2.1
      have hv5' : FactsV w5 v5 C := by rw [← hC]; exact hv5
      clear hO hb5 hC HT4 HB4 hv5 HFS HN HLN HF HZ
      have HV5 := Lib.hid hv5'
      obtain ⟨p5, c5, rfl, hcap5, hm5, _, _⟩ := hv5'
      obtain ⟨m, hm⟩ : ∃ m, C.length = m := ⟨_, rfl⟩
      rw [hm] at HV5 hCL hcap5
      have HM := Lib.hid hm
      unfold maxLen at hm5
      rw [hm]
      clear hm
      go_wp2
      go_loopw [5, 32] (fun s5 s32 wr => ∃ i : Nat, s32 = .int .i64 (i : Int) ∧ i ≤ m ∧ Hid (wr.ownsRow w5.heap.size 60 6 s5 (negF (C.take i)).length (flat encF (negF (C.take i)))) ∧ Hid (Below w5.heap.size w5 wr)) (fun _ s32 _ => m - (intOf s32).toNat)
      case atStart => exact ⟨0, rfl, Nat.zero_le _, World.ownsRow_nil _ _ _ _, Lib.hid (Below.refl _ _)⟩
      case round =>
        obtain ⟨i, rfl, hin, HO, HB⟩ := hrel
        by_cases hlt : i < m
        · obtain ⟨x, hx⟩ : ∃ x, C[i]? = some x := ⟨_, List.getElem?_eq_getElem (by rw [HM.out]; exact hlt)⟩
          obtain ⟨b, o, rfl, hat⟩ := ElsV.at_ HV5.out hx
          obtain ⟨r0, r1, r2, r3, r4, r5⟩ := fact6 (hat.keep HB.out hat.lt)
          simp only [show encF.k = 6 from rfl] at r0 r1 r2 r3 r4 r5
          have hxb := HBD.out x (List.mem_of_getElem? hx)
          unfold B1 at hxb
          have hneg : IntKind.i64.wrap (-x.amt) = -x.amt := by rw [IntKind.wrap_i64]; omega
          have HNT := Lib.hid (neg_take hx)
          have HLI : Hid ((negF (C.take i)).length ≤ i) := Lib.hid (by unfold negF; rw [List.length_map, List.length_take]; exact Nat.min_le_left _ _)
          clear hx hat hxb
          have HB2 : Hid (Below w5.heap.size w5 (wr.alloc (.cells #[.string x.key.e, .string x.key.a, .string x.key.f, .string x.key.p, .int .i64 x.key.m, .int .i64 (-x.amt)] 60))) := Lib.hid (HB.out.alloc HB.out.size _)
          have HO2 := Lib.hid (HO.out.alloc (.cells #[.string x.key.e, .string x.key.a, .string x.key.f, .string x.key.p, .int .i64 x.key.m, .int .i64 (-x.amt)] 60))
          go_wp2_with (at_builtin; refine wpList_append_el (E := encF) rfl _ _ 30 60 rfl infoF w5.heap.size (negF (C.take i)) ⟨x.key, -x.amt⟩ (wr.heap.size + 1) (HO2.out.alloc _) rfl (el_new1 _ _ _ _) (by have := HB.out.size; simp; omega) (by have := HLI.out; omega) ?_; intro v9 w9 hr9 hb9 hg9)
          have HR9 := Lib.hid hr9
          have HB9 : Hid (Below w5.heap.size w5 w9) := Lib.hid ((HB2.out.alloc (by have := HB.out.size; simp; omega) _).trans hb9)
          clear hr9 hb9 hg9
          go_wp2
          go_roundw
          case rel => exact ⟨i + 1, by go_num, by omega, by rw [HNT.out]; exact HR9, HB9⟩
          case measure => simp [intOf]; omega
        · obtain rfl : i = m := by omega
          have hown := els_of_own (E := encF) HO.out
          rw [List.take_of_length_le (by rw [HM.out]; exact Nat.le_refl _)] at hown
          have hlenD : (negF C).length = i := by unfold negF; rw [List.length_map, HM.out]
          have HD := Lib.hid hown
          obtain ⟨pd, cd, rfl, _, _, _, _⟩ := hown
          have HVr := Lib.hid (HV5.out.keep HB.out)
          have HBr := Lib.hid (HB5.out.trans (HB.out.mono HB5.out.size))
          have HCL : Hid (C.length ≤ 150) := Lib.hid (by rw [HM.out]; exact hCL)
          have HDL : Hid ((negF C).length ≤ 150) := Lib.hid (by rw [hlenD]; exact hCL)
          rw [hlenD] at HD ⊢
          clear hlenD HO HB HV5 HB5
          go_wp2_with fail
          have hA := add_any _ _ C (negF C) wr HVr.out HD.out (bnd_in64 HBD.out) (bnd_in64 (neg_bnd HBD.out)) (by have := HCL.out; omega) (by have := HDL.out; omega)
          rw [ofL_zero HRI.out HBD.out] at hA
          refine hA.mono ?_
          rintro e w6 ⟨v6, rfl, hv6, hb6⟩
          obtain ⟨p6, c6, rfl, _, _, _, _⟩ := hv6
          have HV6 := Lib.hid (HVr.out.keep hb6)
          have HB6 := Lib.hid (HBr.out.trans (hb6.mono HBr.out.size))
          clear hA hb6 HVr HBr HD
          go_wp2_with fail
          have hA := add_any _ _ C [] w6 HV6.out (ElsV.nil w6) (bnd_in64 HBD.out) (fun f hf => by cases hf) (by have := HCL.out; omega) (by decide)
          rw [List.append_nil, ofL_self HRI.out HNZ.out HBD.out] at hA
          refine hA.mono ?_
          rintro e w7 ⟨v7, rfl, hv7, hb7⟩
          have HS7 := Lib.hid hv7
          obtain ⟨p7, c7, rfl, _, _, _, _⟩ := hv7
          have HV7 := Lib.hid (HV6.out.keep hb7)
          have HB7 := Lib.hid (HB6.out.trans (hb7.mono HB6.out.size))
          clear hA hb7 HV6 HB6
          rw [HM.out] at HS7 ⊢
          go_wp2_with fail
          have hA := of_any _ C w7 HV7.out (bnd_in64 HBD.out) (by have := HCL.out; omega)
          rw [ofL_self HRI.out HNZ.out HBD.out] at hA
          refine hA.mono ?_
          rintro e w8 ⟨v8, rfl, hv8, hb8⟩
          have HT8 := Lib.hid hv8
          obtain ⟨p8, c8, rfl, _, _, _, _⟩ := hv8
          have HS8 := Lib.hid (HS7.out.keep hb8)
          have HV8 := Lib.hid (HV7.out.keep hb8)
          have HB8 := Lib.hid (HB7.out.trans (hb8.mono HB7.out.size))
          clear hA hb8 HV7 HB7 HS7
          rw [HM.out] at HT8 ⊢
          go_wp2_with fail
          refine (ours_any _ C w8 HS8.out (by have := HCL.out; omega)).mono ?_
          rintro e w9 ⟨v9, rfl, hr9, hb9⟩
          have HO9 := Lib.hid (els_of_own (E := encF) hr9)
          have HV9 := Lib.hid (HV8.out.keep hb9)
          have HT9 := Lib.hid (HT8.out.keep hb9)
          have HB9 := Lib.hid (HB8.out.trans (hb9.mono HB8.out.size))
          clear hr9 hb9 HV8 HB8 HS8 HT8
          go_wp2_with fail
          refine (ours_any _ C w9 HV9.out (by have := HCL.out; omega)).mono ?_
          rintro e w10 ⟨v10, rfl, hr10, hb10⟩
          have HO10 := Lib.hid (HO9.out.keep hb10)
          have HP10 := Lib.hid (els_of_own (E := encF) hr10)
          have HV10 := Lib.hid (HV9.out.keep hb10)
          have HT10 := Lib.hid (HT9.out.keep hb10)
          have HB10 := Lib.hid (HB9.out.trans (hb10.mono HB9.out.size))
          clear hr10 hb10 HV9 HB9 HO9 HT9
          go_wp2_with fail
          have hS := same_any _ _ C C w10 HO10.out HP10.out
          rw [show sameL C C = true from decide_eq_true rfl] at hS
          refine hS.mono ?_
          rintro e w11 ⟨rfl, hb11⟩
          have HV11 := Lib.hid (HV10.out.keep hb11)
          have HT11 := Lib.hid (HT10.out.keep hb11)
          have HB11 := Lib.hid (HB10.out.trans (hb11.mono HB10.out.size))
          clear hS hb11 HV10 HB10 HO10 HP10 HT10
          go_wp2_with fail
          refine (ours_any _ C w11 HT11.out (by have := HCL.out; omega)).mono ?_
          rintro e w12 ⟨v12, rfl, hr12, hb12⟩
          have HO12 := Lib.hid (els_of_own (E := encF) hr12)
          have HV12 := Lib.hid (HV11.out.keep hb12)
          have HB12 := Lib.hid (HB11.out.trans (hb12.mono HB11.out.size))
          clear hr12 hb12 HV11 HB11 HT11
          go_wp2_with fail
          refine (ours_any _ C w12 HV12.out (by have := HCL.out; omega)).mono ?_
          rintro e w13 ⟨v13, rfl, hr13, hb13⟩
          have HO13 := Lib.hid (HO12.out.keep hb13)
          have HP13 := Lib.hid (els_of_own (E := encF) hr13)
          have HB13 := Lib.hid (HB12.out.trans (hb13.mono HB12.out.size))
          clear hr13 hb13 HV12 HB12 HO12
          go_wp2_with fail
          have hS := same_any _ _ C C w13 HO13.out HP13.out
          rw [show sameL C C = true from decide_eq_true rfl] at hS
          refine hS.mono ?_
          rintro e w14 ⟨rfl, hb14⟩
          have HB14 := Lib.hid (HB13.out.trans (hb14.mono HB13.out.size))
          clear hS hb14 HB13 HO13 HP13
          go_wp2
          go_ret
          exact ⟨rfl, HB14.out⟩
end Go.Proofs.Ytimeebildbmhaaa.Fa
