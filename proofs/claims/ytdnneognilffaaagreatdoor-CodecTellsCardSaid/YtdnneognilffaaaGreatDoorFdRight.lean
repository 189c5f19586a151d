
/- The walk of the document's Right: whether facts are a cube, and no more than there may be. -/
import Derived.Test.YtdnneognilffaaaGreatDoorFdCmp
import Derived.Test.YtdnneognilffaaaGreatDoorFaRight
namespace Go.Proofs.YtdnneognilffaaaGreatDoor.Fa
open Go.RowKit

set_option maxRecDepth 100000 in
set_option maxHeartbeats 8000000 in
theorem rright_any (v : Value) (c : List Fact) (w : World) (h : FactsV w v c) (hL : c.length ≤ 100000) :
    Calls Tryz.prog 17 #[v] w fun e w' => e = .returned (.bool (rightL c)) ∧ Below w.heap.size w w' := by
  have HV := Lib.hid h
  obtain ⟨p, cp, rfl, hcap, hm, _, _⟩ := h
  obtain ⟨n, hn⟩ : ∃ n, c.length = n := ⟨_, rfl⟩
  rw [hn] at hcap hL HV ⊢
  have HN := Lib.hid hn
  obtain ⟨S, hS⟩ : ∃ S, rightL c = S := ⟨_, rfl⟩
  rw [hS]
  have HS := Lib.hid hS
  unfold maxLen at hm
  clear hn hS
  go_enter Tryz.func17, Tryz.ntmps17
  go_wp2
  go_loopw [3] (fun s3 wr => ∃ i : Nat, s3 = .int .i64 (i : Int) ∧ i ≤ n ∧ Hid (OkTo c i) ∧ Hid (Below w.heap.size w wr)) (fun s3 _ => n - (intOf s3).toNat)
  case atStart => exact ⟨0, rfl, Nat.zero_le _, Lib.hid (fun j x hj => absurd hj (Nat.not_lt_zero _)), Lib.hid (Below.refl _ _)⟩
  case round =>
    obtain ⟨i, rfl, hin, HO, HB1⟩ := hrel
    by_cases hlt : i < n
    · obtain ⟨x, hx⟩ : ∃ x, c[i]? = some x := ⟨_, List.getElem?_eq_getElem (by rw [HN.out]; exact hlt)⟩
      obtain ⟨b, o, rfl, hat⟩ := ElsV.at_ HV.out hx
      obtain ⟨d0, d1, d2, d3, d4, d5⟩ := fact6 (hat.keep HB1.out hat.lt)
      simp only [show encF.k = 6 from rfl] at d0 d1 d2 d3 d4 d5
      have HX := Lib.hid hx
      have u0 := fun p : Past wr => cell_past d0 p
      have u1 := fun p : Past wr => cell_past d1 p
      have u2 := fun p : Past wr => cell_past d2 p
      have u3 := fun p : Past wr => cell_past d3 p
      have u4 := fun p : Past wr => cell_past d4 p
      have u5 := fun p : Past wr => cell_past d5 p
      clear hx hat
      by_cases h0 : x.amt = 0
      · have hSf : S = false := by rw [← HS.out, right_no0 HX.out h0]
        subst hSf
        have hz : (x.amt == 0) = true := by rw [beq_iff_eq]; exact h0
        clear h0 d0 d1 d2 d3 d4 d5
        go_wp2_with fail
        refine wp_region_past (by kernel_rfl) (by kernel_rfl) ?_
        repeat (go_big_quiet_step (fail))
        refine wpQuiet_nil ?_
        intro w3 hw'
        obtain ⟨⟨_, hb3⟩, rfl⟩ := hw'
        clear u0 u1 u2 u3 u4 u5
        go_wp2
        go_ret
        exact ⟨rfl, HB1.out.trans (hb3.mono HB1.out.size)⟩
      · have hz : (x.amt == 0) = false := by rw [beq_eq_false_iff_ne]; exact h0
        by_cases hi0 : i = 0
        · subst hi0
          have HO1 := Lib.hid (okTo_next HO.out HX.out h0 (fun y hj => absurd hj (Nat.not_lt_zero _)))
          clear h0 d0 d1 d2 d3 d4 d5
          simp only [Nat.zero_mul, Nat.add_zero] at u0 u1 u2 u3 u4 u5
          go_wp2_with fail
          refine wp_region_past (by kernel_rfl) (by kernel_rfl) ?_
          repeat (go_big_quiet_step (fail))
          refine wpQuiet_nil ?_
          intro w3 hw'
          obtain ⟨⟨_, hb3⟩, rfl⟩ := hw'
          clear u0 u1 u2 u3 u4 u5
          go_wp2
          go_roundw
          case rel => exact ⟨0 + 1, by go_num, by omega, HO1, Lib.hid (HB1.out.trans (hb3.mono HB1.out.size))⟩
          case measure => simp [intOf]; omega
        · obtain ⟨k, rfl⟩ : ∃ k, i = k + 1 := ⟨i - 1, by omega⟩
          obtain ⟨y, hy⟩ : ∃ y, c[k]? = some y := ⟨_, List.getElem?_eq_getElem (by rw [HN.out]; omega)⟩
          obtain ⟨b', o', e, hat⟩ := ElsV.at_ HV.out hy
          cases e
          obtain ⟨s0, s1, s2, s3, s4, s5⟩ := fact6 (hat.keep HB1.out hat.lt)
          simp only [show encF.k = 6 from rfl] at s0 s1 s2 s3 s4 s5
          have q0 := fun p : Past wr => cell_past s0 p
          have q1 := fun p : Past wr => cell_past s1 p
          have q2 := fun p : Past wr => cell_past s2 p
          have q3 := fun p : Past wr => cell_past s3 p
          have q4 := fun p : Past wr => cell_past s4 p
          have q5 := fun p : Past wr => cell_past s5 p
          have HY := Lib.hid hy
          obtain ⟨m, hmm⟩ : ∃ m, cmpK y.key x.key = m := ⟨_, rfl⟩
          have HAG := Lib.hid (fun W => rcmp_any y.key x.key W)
          have HM : Hid (ltK y.key x.key ↔ m < 0) := Lib.hid (by unfold ltK; rw [hmm])
          simp only [hmm] at HAG
          have hwm : IntKind.i64.wrap (k : Int) = (k : Int) := by rw [IntKind.wrap_i64]; omega
          have hpos : decide ((0 : Int) < (k : Int) + 1) = true := decide_eq_true (by omega)
          have hH0 := Lib.hid h0
          clear hmm hy hat s0 s1 s2 s3 s4 s5 h0 hi0 d0 d1 d2 d3 d4 d5
          by_cases hm0 : m < 0
          · have HO1 := Lib.hid (okTo_next HO.out HX.out hH0.out (fun z _ hz => by
              rw [Nat.add_sub_cancel, HY.out] at hz
              cases hz
              exact HM.out.2 hm0))
            have hd : decide (0 ≤ m) = false := decide_eq_false (by omega)
            have hd2 : decide (m < 0) = true := decide_eq_true hm0
            go_wp2_with fail
            refine wp_region_past (by kernel_rfl) (by kernel_rfl) ?_
            repeat (go_big_quiet_step ((go_at_call 31; exact Calls.past_of (HAG.out _))))
            refine wpQuiet_nil ?_
            intro w3 hw'
            obtain ⟨⟨_, hb3⟩, rfl⟩ := hw'
            clear q0 u0 q1 u1 q2 u2 q3 u3 q4 u4 q5 u5
            go_wp2
            go_roundw
            case rel => exact ⟨k + 1 + 1, by go_num, by omega, HO1, Lib.hid (HB1.out.trans (hb3.mono HB1.out.size))⟩
            case measure => simp [intOf]; omega
          · have hSf : S = false := by rw [← HS.out, right_no1 (Nat.succ_pos k) HX.out (by exact HY.out) (fun h => hm0 (HM.out.1 h))]
            subst hSf
            have hd : decide (0 ≤ m) = true := decide_eq_true (by omega)
            have hd2 : decide (m < 0) = false := decide_eq_false hm0
            go_wp2_with fail
            refine wp_region_past (by kernel_rfl) (by kernel_rfl) ?_
            repeat (go_big_quiet_step ((go_at_call 31; exact Calls.past_of (HAG.out _))))
            refine wpQuiet_nil ?_
            intro w3 hw'
            obtain ⟨⟨_, hb3⟩, rfl⟩ := hw'
            clear q0 u0 q1 u1 q2 u2 q3 u3 q4 u4 q5 u5
            go_wp2
            go_ret
            exact ⟨rfl, HB1.out.trans (hb3.mono HB1.out.size)⟩
    · obtain rfl : i = n := by omega
      by_cases hbig : i ≤ 2000
      · have h2 : (i : Int) ≤ 2000 := by omega
        have hSt : S = true := by rw [← HS.out, right_yes HN.out hbig HO.out]
        subst hSt
        go_wp2
        go_ret
        exact ⟨rfl, HB1.out⟩
      · have h2 : ¬ (i : Int) ≤ 2000 := by omega
        obtain rfl : S = false := by rw [← HS.out]; exact decide_eq_false fun hr => by have := hr.1; have := HN.out; omega
        go_wp2
        go_ret
        exact ⟨rfl, HB1.out⟩
end Go.Proofs.YtdnneognilffaaaGreatDoor.Fa
