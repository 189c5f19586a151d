
/- The walk of the statements' body: the lines of facts, each printed as a cube of its own. -/
import Derived.Test.YtdnneognilffaaaDoorCodecBack
import Derived.Test.YtdnneognilffaaaDoorCdWords
namespace Go.Proofs.YtdnneognilffaaaDoor.Cd
open Go.Proofs.YtdnneognilffaaaDoor.Fa Go.RowKit

theorem firstL_one : firstL 1 = [99, 117, 98, 101, 32, 49] := by kernel_rfl
theorem one_ok {x : Fact} (hk : keyOk x.key = true) (h0 : x.amt ≠ 0) : okC [x] = true :=
  okC_mk (decide_eq_true ⟨by simp, fun f hf => by rw [List.mem_singleton.1 hf]; exact h0, List.pairwise_singleton _ _⟩) (fun f hf => by rw [List.mem_singleton.1 hf]; exact hk)
theorem one_text (x : Fact) : textL [x] = [99, 117, 98, 101, 32, 49, 10] ++ rowsL [x] := by
  rw [textL_eq, show [x].length = 1 from rfl, firstL_one]; rfl
/-- Facts that can be printed one by one. -/
def Loose (l : List Fact) : Prop := ∀ x ∈ l, keyOk x.key = true ∧ x.amt ≠ 0 ∧ In64 x.key.m ∧ In64 x.amt
theorem loose_of {c : List Fact} (h : okC c = true) (hz : In64s c) : Loose c := fun x hx => ⟨okC_keys h x hx, (of_decide_eq_true (okC_right h) : RightP c).2.1 x hx, hz x hx⟩
theorem Loose.rows {l : List Fact} (h : Loose l) : (rowsL l).length ≤ l.length * 96 := rowsL_le (fun f hf => (h f hf).1) (fun f hf => fit_of_in64 (h f hf).2.2.2)
theorem Loose.take {l : List Fact} (h : Loose l) (i : Nat) : Loose (l.take i) := fun x hx => h x (List.mem_of_mem_take hx)
set_option maxRecDepth 100000 in
set_option maxHeartbeats 8000000 in
theorem body_any (v : Value) (l : List Fact) (w : World) (h : FactsV w v l) (hL : l.length ≤ 150) (hg : Loose l) (hl : Laid w) :
    Calls Tryd.prog 15 #[v] w fun e w' => e = .returned (.string (mkB (rowsL l))) ∧ Below w.heap.size w w' := by
  have HV := Lib.hid h
  have HG := Lib.hid hg
  have HLW := Lib.hid hl
  obtain ⟨p, cp, rfl, hcap, hm, _, _⟩ := h
  obtain ⟨n, hn⟩ : ∃ n, l.length = n := ⟨_, rfl⟩
  rw [hn] at hcap hL HV ⊢
  have HN := Lib.hid hn
  unfold maxLen at hm
  obtain ⟨RES, hRES⟩ : ∃ RES, mkB (rowsL l) = RES := ⟨_, rfl⟩
  rw [hRES]
  have HRES := Lib.hid hRES
  clear hn hg hl hRES
  go_enter Tryd.func15, Tryd.ntmps15
  go_wp2
  go_loopw [3, 10] (fun s3 s10 wr => ∃ (i : Nat) (t : ByteArray), s10 = .int .i64 (i : Int) ∧ s3 = .string t ∧ i ≤ n ∧ Hid (t.data.toList = rowsL (l.take i)) ∧ Hid (Below w.heap.size w wr)) (fun _ s10 _ => n - (intOf s10).toNat)
  case atStart => exact ⟨0, ⟨#[]⟩, rfl, rfl, Nat.zero_le _, Lib.hid rfl, Lib.hid (Below.refl _ _)⟩
  case round =>
    obtain ⟨i, t, rfl, rfl, hin, HT, HB⟩ := hrel
    by_cases hlt : i < n
    · obtain ⟨x, hx⟩ : ∃ x, l[i]? = some x := ⟨_, List.getElem?_eq_getElem (by rw [HN.out]; exact hlt)⟩
      obtain ⟨b, o, rfl, hat⟩ := ElsV.at_ HV.out hx
      obtain ⟨r0, r1, r2, r3, r4, r5⟩ := fact6 (hat.keep HB.out hat.lt)
      simp only [show encF.k = 6 from rfl] at r0 r1 r2 r3 r4 r5
      have hxg := HG.out x (List.mem_of_getElem? hx)
      have HXG := Lib.hid hxg
      have HTK : Hid (rowsL (l.take (i + 1)) = rowsL (l.take i) ++ rowsL [x]) := Lib.hid (by rw [List.take_add_one, hx, ← rowsL_append]; rfl)
      have hts : t.size ≤ 15000 := by
        rw [← size_list, HT.out]
        have := (HG.out.take i).rows
        rw [List.length_take] at this
        omega
      obtain ⟨q0, q1, q2, q3, q4, q5⟩ := fact6 (BoxE.new encF wr x 45).at0
      simp only [Nat.zero_add] at q0 q1 q2 q3 q4 q5
      have hb1 := (Below.refl wr.heap.size wr).alloc (Nat.le_refl _) (.cells #[.string x.key.e, .string x.key.a, .string x.key.f, .string x.key.p, .int .i64 x.key.m, .int .i64 x.amt] 45)
      have hb2 := hb1.alloc hb1.size (.cells (flat encF [x]).toArray 45)
      have HB2 := Lib.hid (HB.out.trans (hb2.mono HB.out.size))
      have HV2 := Lib.hid (els_new encF (wr.alloc (.cells #[.string x.key.e, .string x.key.a, .string x.key.f, .string x.key.p, .int .i64 x.key.m, .int .i64 x.amt] 45)) [x] 45 (by simp [maxLen]))
      rw [World.size_alloc] at HV2
      clear hx hat hxg hb1 hb2
      go_wp2_with fail
      clear r0 r1 r2 r3 r4 r5 q0 q1 q2 q3 q4 q5
      refine (cprint_any _ [x] _ HV2.out (by simp) (fun f hf => by rw [List.mem_singleton.1 hf]; exact HXG.out.2.2) (HLW.out.below HB2.out)).mono ?_
      rintro e w5 ⟨rfl, hb5⟩
      have HB5 := Lib.hid (HB2.out.trans (hb5.mono HB2.out.size))
      rw [prS_yes (one_ok HXG.out.1 HXG.out.2.1), prE_yes (one_ok HXG.out.1 HXG.out.2.1)]
      obtain ⟨T, hT⟩ : ∃ T, mkB (textL [x]) = T := ⟨_, rfl⟩
      have hTD : T.data.toList = [99, 117, 98, 101, 32, 49, 10] ++ rowsL [x] := by rw [← hT, mkB_data, one_text]
      have hTS : 7 < T.size ∧ T.size ≤ 1000 := by
        rw [← size_list, hTD, List.length_append]
        have h1 : Loose [x] := fun f hf => by rw [List.mem_singleton.1 hf]; exact HXG.out
        have := h1.rows
        have h2 := factL_size HXG.out.1
        rw [rowsL_cons, List.length_append, List.length_cons] at *
        simp only [List.length_cons, List.length_nil] at *
        omega
      rw [hT]
      obtain ⟨R, hR⟩ : ∃ R, t ++ T.extract 7 T.size = R := ⟨_, rfl⟩
      have HRD : Hid (R.data.toList = rowsL (l.take (i + 1))) := Lib.hid (by
        rw [← hR, ByteArray.data_append, Array.toList_append, piece_behind, mkB_data, hTD, HTK.out, HT.out]
        rfl)
      have g1 : (7 : Int) < (T.size : Int) := by omega
      have g2 : ¬ 9223372036854775807 < t.size + (T.extract 7 T.size).size := by rw [ByteArray.size_extract]; omega
      clear hb5 hT hTD hTS
      go_wp2
      go_roundw
      case rel => exact ⟨i + 1, R, by go_num, rfl, by omega, HRD, HB5⟩
      case measure => simp [intOf]; omega
    · have ht : t = RES := by
        rw [← HRES.out, ← mkB_list t, HT.out, List.take_of_length_le (by rw [HN.out]; omega)]
      subst ht
      go_wp2
      go_ret
      exact ⟨rfl, HB.out⟩
end Go.Proofs.YtdnneognilffaaaDoor.Cd
