
/- The walk of the document's Sum: what fits of a cube comes to. -/
import Derived.Test.YtimeebildbmhaaaFdPick
import Derived.Test.YtimeebildbmhaaaCentSum
namespace Go.Proofs.Ytimeebildbmhaaa.Fa
open Go.RowKit
set_option maxRecDepth 100000 in
set_option maxHeartbeats 8000000 in
theorem rsumP_any (v : Value) (c : List Fact) (e a f : ByteArray) (w : World) (h : FactsV w v c) (hz : ∀ x ∈ c, In64 x.amt) (hL : c.length ≤ 1000) :
    Calls Try.prog 24 #[v, .string e, .string a, .string f] w fun e' w' => e' = .returned (.tuple #[.int .i64 (sumL c e a f).1, .int .i64 (sumL c e a f).2]) ∧ Below w.heap.size w w' := by
  have HV := Lib.hid h
  obtain ⟨p, cp, rfl, hcap, hm, _, _⟩ := h
  obtain ⟨n, hn⟩ : ∃ n, c.length = n := ⟨_, rfl⟩
  rw [hn] at hcap hL HV ⊢
  have HN := Lib.hid hn
  have HZ := Lib.hid hz
  obtain ⟨S, hS⟩ : ∃ S, sumL c e a f = S := ⟨_, rfl⟩
  rw [hS]
  have HS := Lib.hid hS
  unfold maxLen at hm
  clear hn hz hS
  go_enter Try.func24, Try.ntmps24
  go_wp2
  go_loopw [10, 11] (fun s10 s11 wr => ∃ i : Nat, s11 = .int .i64 (i : Int) ∧ i ≤ n ∧ Hid (wr.ownsRow w.heap.size 2 1 s10 (fits c e a f i).length (flat encI (fits c e a f i))) ∧ Hid (Below w.heap.size w wr)) (fun _ s11 _ => n - (intOf s11).toNat)
  case atStart => exact ⟨0, rfl, Nat.zero_le _, World.ownsRow_nil _ _ _ _, Lib.hid (Below.refl _ _)⟩
  case round =>
    obtain ⟨i, rfl, hin, HO, HB⟩ := hrel
    by_cases hlt : i < n
    · obtain ⟨x, hx⟩ : ∃ x, c[i]? = some x := ⟨_, List.getElem?_eq_getElem (by rw [HN.out]; exact hlt)⟩
      obtain ⟨b, o, rfl, hat⟩ := ElsV.at_ HV.out hx
      obtain ⟨r0, r1, r2, r3, r4, r5⟩ := fact6 (hat.keep HB.out hat.lt)
      simp only [show encF.k = 6 from rfl] at r0 r1 r2 r3 r4 r5
      have HX := Lib.hid hx
      have HB2 : Hid (Below w.heap.size w (wr.alloc (.cells #[.string x.key.e, .string x.key.a, .string x.key.f, .string x.key.p, .int .i64 x.key.m] 24))) := Lib.hid (HB.out.alloc HB.out.size _)
      have HO2 := Lib.hid (HO.out.alloc (.cells #[.string x.key.e, .string x.key.a, .string x.key.f, .string x.key.p, .int .i64 x.key.m] 24))
      have HLI := Lib.hid (fits_length c e a f i)
      have HSZ := Lib.hid HB.out.size
      obtain ⟨_, _, _, _, _, v5⟩ := fact6 (hat.keep HB2.out hat.lt)
      simp only [show encF.k = 6 from rfl] at v5
      clear hx hat
      rcases askC e x.key.e with ⟨hz1, hb1⟩ | ⟨hz1, ht1, hb1⟩ | ⟨hz1, ht1, hb1⟩
      rotate_left 2
      · have HFN := Lib.hid (fits_no HX.out (show fitB e a f x = false by unfold fitB; rw [hb1]; rfl))
        go_wp2
        go_roundw
        case rel => exact ⟨i + 1, by go_num, by omega, by rw [HFN.out]; exact HO2, HB2⟩
        case measure => simp [intOf]; omega
      all_goals
        rcases askC a x.key.a with ⟨hz2, hb2⟩ | ⟨hz2, ht2, hb2⟩ | ⟨hz2, ht2, hb2⟩
        rotate_left 2
        · have HFN := Lib.hid (fits_no HX.out (show fitB e a f x = false by unfold fitB; rw [hb1, hb2]; rfl))
          go_wp2
          go_roundw
          case rel => exact ⟨i + 1, by go_num, by omega, by rw [HFN.out]; exact HO2, HB2⟩
          case measure => simp [intOf]; omega
        all_goals
          rcases askC f x.key.f with ⟨hz3, hb3⟩ | ⟨hz3, ht3, hb3⟩ | ⟨hz3, ht3, hb3⟩
          rotate_left 2
          · have HFN := Lib.hid (fits_no HX.out (show fitB e a f x = false by unfold fitB; rw [hb1, hb2, hb3]; rfl))
            go_wp2
            go_roundw
            case rel => exact ⟨i + 1, by go_num, by omega, by rw [HFN.out]; exact HO2, HB2⟩
            case measure => simp [intOf]; omega
          all_goals
            have HFN := Lib.hid (fits_yes HX.out (show fitB e a f x = true by unfold fitB; rw [hb1, hb2, hb3]; rfl))
            clear hb1 hb2 hb3
            go_wp2_with (at_builtin; refine wpList_append_el (E := encI) rfl _ _ 66 2 rfl infoI w.heap.size (fits c e a f i) x.amt (wr.heap.size + 1) (HO2.out.alloc _) rfl (el_new1I _ _ _ _) (by have := HSZ.out; simp; omega) (by have := HLI.out; omega) ?_; intro v9 w9 hr9 hb9 hg9)
            have HR9 := Lib.hid hr9
            have HB9 : Hid (Below w.heap.size w w9) := Lib.hid ((HB2.out.alloc (by have := HSZ.out; simp; omega) _).trans hb9)
            clear hr9 hb9 hg9
            go_wp2
            go_roundw
            case rel => exact ⟨i + 1, by go_num, by omega, by rw [HFN.out]; exact HR9, HB9⟩
            case measure => simp [intOf]; omega
    · obtain rfl : i = n := by omega
      have hE : sumFrom 0 (fits c e a f i) = S := by
        rw [← HS.out]
        unfold fits sumL
        rw [List.take_of_length_le (by rw [HN.out]; exact Nat.le_refl _)]
      have hv := els_of_own (E := encI) HO.out
      obtain ⟨p9, c9, rfl, _⟩ := id hv
      have HSM := Lib.hid (rsum_any p9 _ c9 (fits c e a f i) wr (rowIs_els hv) (fits_in64 HZ.out e a f i))
      rw [hE] at HSM
      clear hv hE HO
      go_wp2_with (go_at_call 33; refine HSM.out.mono ?_; rintro e' w' ⟨rfl, rfl⟩)
      go_ret2
      exact ⟨rfl, HB.out⟩
end Go.Proofs.Ytimeebildbmhaaa.Fa
