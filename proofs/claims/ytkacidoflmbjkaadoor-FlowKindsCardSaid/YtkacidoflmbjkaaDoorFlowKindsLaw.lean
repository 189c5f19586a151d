
/- The walk of FlowKinds: it returns true. -/
import Derived.Test.YtkacidoflmbjkaaDoorFlowAlive
import Derived.Test.YtkacidoflmbjkaaDoorFlowRise
namespace Go.Proofs.YtkacidoflmbjkaaDoor.Fl
open Go.RowKit

/-- What the rounds of FlowKinds hold. -/
structure KindsAt (w wr : World) (v : Value) (L : List Flow) : Prop where
  ls : FlowsV wr v L
  bel : Below w.heap.size w wr
theorem KindsAt.keep {w wr w' : World} {v : Value} {L : List Flow} (h : KindsAt w wr v L) (hb : Below wr.heap.size wr w') : KindsAt w w' v L := ⟨h.ls.keep hb, h.bel.trans (hb.mono h.bel.size)⟩
theorem wholeTo_no {L : List Flow} {k : Nat} (h : wholeTo L k = false) : wholeTo L (k + 1) = false := by rw [wholeTo, h]; rfl
theorem wholeTo_move {L : List Flow} {k : Nat} (h : wholeTo L k = true) (h1 : k = 1) : wholeTo L (k + 1) = true := by rw [wholeTo, h, decide_eq_true (p := (k : Int) = 1) (by omega)]; rfl
theorem wholeTo_one {L : List Flow} {k : Nat} (h : wholeTo L k = true) (h1 : k ≠ 1) (b : Bool) (hb : decide ((ofF L (k : Int)).length = 1) = b) : wholeTo L (k + 1) = b := by rw [wholeTo, h, decide_eq_false (p := (k : Int) = 1) (by omega), hb]; cases b <;> rfl
theorem sumF_bound (L : List Flow) (k : Nat) : sumF L k ≤ L.length := by rw [sumF_le]; exact List.length_filter_le _ _
theorem of_at {L : List Flow} (hr : riseK Flow.code L = true) {k : Int} {j : Nat} {c : ByteArray} (h : (ofF L k)[j]? = some c) : isK Flow.code L c = true ∧ kindL L c = k := by
  obtain ⟨h1, h2, _⟩ := kind_of hr (List.mem_of_getElem? h)
  exact ⟨h1, h2⟩
set_option maxRecDepth 100000 in
set_option maxHeartbeats 8000000 in
theorem flowKinds_walk (v : Value) (L : List Flow) (w : World) (h : FlowsV w v L) (hL : Laid w) : Calls Tryd.prog 6 #[v] w fun e w' => e = .returned (.bool true) ∧ Below w.heap.size w w' := by
  have HV := Lib.hid h
  obtain ⟨p, c, rfl, hcap, hm, _, hc⟩ := h
  obtain ⟨n, hn⟩ : ∃ n, L.length = n := ⟨_, rfl⟩
  rw [hn] at hcap HV ⊢
  have HN := Lib.hid hn
  have HC := Lib.hid hc
  have HL := Lib.hid hL
  unfold maxLen at hm
  clear hL hn hc
  obtain ⟨G, hG⟩ : ∃ G, fewF L = G := ⟨_, rfl⟩
  have HFL := Lib.hid (fun W h => few_any (.slice p n c) L W h)
  rw [hG] at HFL
  have HGV := Lib.hid hG
  clear hG
  go_enter Tryd.func6, Tryd.ntmps6
  go_wp2_with fail
  refine (alive_any _ HL.out).mono ?_
  rintro e w1 ⟨rfl, hb1⟩
  have HB1 := Lib.hid hb1
  have HV1 := Lib.hid (HV.out.keep hb1)
  clear hb1
  go_wp2_with fail
  refine (HFL.out _ HV1.out).mono ?_
  rintro e w2 ⟨rfl, hb2⟩
  have HB2 := Lib.hid (HB1.out.trans (hb2.mono HB1.out.size))
  have HV2 := Lib.hid (HV1.out.keep hb2)
  clear hb2 HB1 HV1 HFL
  cases G with
  | false =>
    go_wp2
    go_ret
    exact ⟨rfl, HB2.out⟩
  | true =>
    have hn70 : n ≤ 70 := by rw [← HN.out]; exact (fewF_parts HGV.out).1
    have HLL : Hid (L.length ≤ 1000) := Lib.hid (by rw [HN.out]; omega)
    obtain ⟨R, hR⟩ : ∃ R, riseF L = R := ⟨_, rfl⟩
    have HRC := Lib.hid (rise_any _ L _ HV2.out HLL.out)
    rw [hR] at HRC
    have HRV := Lib.hid hR
    clear hR
    go_wp2_with fail
    refine HRC.out.mono ?_
    rintro e w3 ⟨rfl, hb3⟩
    have HB3 := Lib.hid (HB2.out.trans (hb3.mono HB2.out.size))
    have HV3 := Lib.hid (HV2.out.keep hb3)
    clear hb3 HB2 HV2 HRC
    cases R with
    | false =>
      go_wp2
      go_ret
      exact ⟨rfl, HB3.out⟩
    | true =>
      go_wp2_with fail
      refine (theirs_any _ L _ HV3.out HLL.out).mono ?_
      rintro e w4 ⟨v4, rfl, hv4, hb4⟩
      have HK4 : Hid (KindsAt w w4 v4 L) := Lib.hid ⟨hv4, HB3.out.trans (hb4.mono HB3.out.size)⟩
      have HRK := Lib.hid (rise_codes HRV.out)
      clear hv4 hb4 HB3 HV3
      go_wp2
      go_loopg [4, 5, 26] 5 (fun kx s4 s5 s26 wr => ∃ k : Nat, k ≤ 5 ∧ 5 - k ≤ kx ∧ s26 = .int .i64 (k : Int) ∧ s4 = .int .i64 (sumF L k : Nat) ∧ s5 = .bool (wholeTo L k) ∧ Hid (KindsAt w wr v4 L))
      case atStart => exact ⟨0, by omega, by omega, rfl, rfl, rfl, HK4⟩
      case round =>
        obtain ⟨k, hk5, hkx, rfl, rfl, rfl, HK⟩ := hrel
        by_cases hlt : k < 5
        · have hltz : (k : Int) < 5 := by omega
          obtain ⟨T, hT⟩ : ∃ T, sumF L k = T := ⟨_, rfl⟩
          have hTn : T ≤ n := by rw [← hT, ← HN.out]; exact sumF_bound L k
          obtain ⟨b, hb⟩ : ∃ b, wholeTo L k = b := ⟨_, rfl⟩
          rw [hT, hb]
          have HT := Lib.hid hT
          have HWB := Lib.hid hb
          have HOA := Lib.hid (of_any v4 L (k : Int) wr HK.out.ls HLL.out)
          clear hT hb
          go_wp2_with fail
          refine HOA.out.mono ?_
          rintro e w5 ⟨v5, rfl, hs5, hb5⟩
          have HK5 := Lib.hid (HK.out.keep hb5)
          obtain ⟨p5, c5, rfl, hcap5, hm5, hc5⟩ := hs5
          obtain ⟨m, hmm⟩ : ∃ m, (ofF L (k : Int)).length = m := ⟨_, rfl⟩
          have hmn : m ≤ n := by rw [← hmm, ← HN.out]; exact ofF_len_le L _
          have HM := Lib.hid hmm
          have HC5 := Lib.hid hc5
          have HSU : Hid (sumF L (k + 1) = T + m) := Lib.hid (by rw [sumF, HT.out, hmm])
          rw [hmm] at hcap5 hm5 ⊢
          unfold maxLen at hm5
          have hways : (b = false) ∨ (b = true ∧ k = 1) ∨ (b = true ∧ k ≠ 1 ∧ m = 1) ∨ (b = true ∧ k ≠ 1 ∧ m ≠ 1) := by
            cases b <;> by_cases h1 : k = 1 <;> by_cases h2 : m = 1 <;> simp [h1, h2]
          have HW2 : Hid (wholeTo L (k + 1) = (b && (decide (k = 1) || decide (m = 1)))) := Lib.hid (by
            rw [wholeTo, HWB.out, HM.out]
            congr 2
            rw [Bool.eq_iff_iff]; simp; omega)
          have h1z : ((k : Int) == 1) = decide (k = 1) := by rw [Bool.eq_iff_iff]; simp; omega
          have h2z : ((m : Int) == 1) = decide (m = 1) := by rw [Bool.eq_iff_iff]; simp; omega
          clear hmm hc5 hb5 HOA HK HT HWB
          rcases hways with rfl | ⟨rfl, h1⟩ | ⟨rfl, h1, h2⟩ | ⟨rfl, h1, h2⟩
          all_goals
            first | rw [decide_eq_true h1] at h1z HW2 | rw [decide_eq_false h1] at h1z HW2 | skip
            first | rw [decide_eq_true h2] at h2z HW2 | rw [decide_eq_false h2] at h2z HW2 | skip
            simp only [Bool.false_and, Bool.true_and, Bool.true_or, Bool.false_or, Bool.or_self] at HW2
            rename World => wa
            go_wp2
            go_loopg [48] m (fun kx s48 wq => ∃ j : Nat, j ≤ m ∧ m - j ≤ kx ∧ s48 = .int .i64 (j : Int) ∧ Hid (KindsAt w wq v4 L) ∧ Hid (Below wa.heap.size wa wq))
            case atStart => exact ⟨0, Nat.zero_le _, by omega, rfl, HK5, Lib.hid (Below.refl _ _)⟩
            case round =>
              obtain ⟨j, hjm, hjx, rfl, HKJ, HBJ⟩ := hrel
              by_cases hj : j < m
              · have hjz : (j : Int) < (m : Int) := by omega
                obtain ⟨cd, hcd⟩ : ∃ x, (ofF L (k : Int))[j]? = some x := ⟨_, List.getElem?_eq_getElem (by rw [HM.out]; exact hj)⟩
                obtain ⟨b6, o6, rfl, hcell⟩ := HC5.out j cd hcd
                have d0 := cell_on HBJ.out hcell
                obtain ⟨hi1, hi2⟩ := of_at HRK.out hcd
                have HKA := Lib.hid (kind_any v4 L cd _ HKJ.out.ls HRK.out HLL.out)
                rw [hi1, hi2] at HKA
                clear hcd hcell hi1 hi2
                go_wp2_with fail
                clear d0
                refine HKA.out.mono ?_
                rintro e w7 ⟨rfl, hb7⟩
                have HK7 := Lib.hid (HKJ.out.keep hb7)
                have HB7 := Lib.hid (HBJ.out.trans (hb7.mono HBJ.out.size))
                have hkk : ((k : Int) != (k : Int)) = false := by simp
                clear hb7
                go_wp2
                go_roundg (m - (j + 1))
                case measure => omega
                case rel => exact ⟨j + 1, by omega, Nat.le_refl _, by go_num, HK7, HB7⟩
              · have hjz : ¬ (j : Int) < (m : Int) := by omega
                go_wp2
                go_roundg (5 - (k + 1))
                case measure => omega
                case rel => exact ⟨k + 1, by omega, Nat.le_refl _, by go_num, by rw [HSU.out]; go_num, by rw [HW2.out], HKJ⟩
        · obtain rfl : k = 5 := by omega
          obtain ⟨T, hT⟩ : ∃ T, sumF L 5 = T := ⟨_, rfl⟩
          have hTn : T ≤ n := by rw [← hT, ← HN.out]; exact sumF_bound L 5
          obtain ⟨b, hb⟩ : ∃ b, wholeTo L 5 = b := ⟨_, rfl⟩
          rw [hT, hb]
          have HT := Lib.hid hT
          have HWB := Lib.hid hb
          clear hT hb hlt hkx hk5
          rename World => wa
          go_wp2
          go_loopg [69] n (fun kx s69 wr => ∃ i : Nat, i ≤ n ∧ n - i ≤ kx ∧ s69 = .int .i64 (i : Int) ∧ Hid (KindsAt w wr v4 L) ∧ Hid (∀ x ∈ L.take i, 0 ≤ x.kind ∧ x.kind < 5))
          case atStart => exact ⟨0, Nat.zero_le _, by omega, rfl, HK, Lib.hid fun x hx => by simp at hx⟩
          case round =>
            obtain ⟨i, hin, hkx, rfl, HKI, HAL⟩ := hrel
            by_cases hlt : i < n
            · have hltz : (i : Int) < (n : Int) := by omega
              have hil : i < L.length := by rw [HN.out]; exact hlt
              obtain ⟨x, hx⟩ : ∃ x, L[i]? = some x := ⟨_, List.getElem?_eq_getElem hil⟩
              obtain ⟨b6, o6, rfl, hat⟩ := HC.out i x hx
              obtain ⟨c0, c1⟩ := two (hat.keep HKI.out.bel hat.lt)
              have HTK : Hid (L.take (i + 1) = L.take i ++ [x]) := Lib.hid (by rw [take_at L i hil]; rw [List.getElem?_eq_getElem hil] at hx; rw [Option.some.inj hx])
              have hba := (Below.refl wr.heap.size wr).alloc (Nat.le_refl _) (.cells #[.string x.code, .int .i64 x.kind] 23)
              have HKA := Lib.hid (HKI.out.keep hba)
              clear hx hat hil hba
              by_cases h0 : x.kind < 0
              · go_wp2
                go_ret
                exact ⟨rfl, HKA.out.bel⟩
              · by_cases h4 : 4 < x.kind
                · go_wp2
                  go_ret
                  exact ⟨rfl, HKA.out.bel⟩
                · have HXK : Hid (0 ≤ x.kind ∧ x.kind < 5) := Lib.hid (by omega)
                  go_wp2
                  go_roundg (n - (i + 1))
                  case measure => omega
                  case rel => exact ⟨i + 1, by omega, Nat.le_refl _, by go_num, HKA, Lib.hid fun z hz => by
                    rw [HTK.out] at hz
                    rcases List.mem_append.1 hz with h | h
                    · exact HAL.out z h
                    · simp at h; subst h; exact HXK.out⟩
            · have hltz : ¬ (i : Int) < (n : Int) := by omega
              have hTe : T = n := by
                rw [← HT.out, ← HN.out]
                exact sumF_all fun f hf => HAL.out f (by rw [List.take_of_length_le (by rw [HN.out]; omega)]; exact hf)
              subst hTe
              have HWE : Hid (b = wholeF L) := Lib.hid (by rw [← HWB.out]; exact whole_eq (rise_ones HRV.out))
              have HWA := Lib.hid (whole_any v4 L wr HKI.out.ls HLL.out)
              rw [← HWE.out] at HWA
              have hTT : ((T : Int) == (T : Int)) = true := by simp
              have hbb : (b == b) = true := by simp
              go_wp2_with fail
              refine HWA.out.mono ?_
              rintro e w8 ⟨rfl, hb8⟩
              have HK8 := Lib.hid (HKI.out.keep hb8)
              clear hb8
              go_wp2
              go_ret
              exact ⟨rfl, HK8.out.bel⟩
end Go.Proofs.YtkacidoflmbjkaaDoor.Fl
