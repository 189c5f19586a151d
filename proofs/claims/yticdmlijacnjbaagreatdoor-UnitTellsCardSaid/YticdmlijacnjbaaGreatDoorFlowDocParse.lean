
/- The walk of the document's Parse of a flow: what the plain facts say; what was there stays. -/
import Derived.Test.YticdmlijacnjbaaGreatDoorM14
import Derived.Test.YticdmlijacnjbaaGreatDoorM22
import Derived.Test.YticdmlijacnjbaaGreatDoorM13
namespace Go.Proofs.YticdmlijacnjbaaGreatDoor.Fl
open Go.RowKit

theorem parse_is {f : Flow} {ws : List ByteArray} (hr : rightF f = true) (h : wordsF f = ws) : parseF ws = (f, 0) := by rw [← h]; exact parse_words hr
theorem parse_no {x c y : ByteArray} (h : ∀ k : Nat, k < 5 → ¬ (rightF ⟨c, (k : Int)⟩ = true ∧ wordsF ⟨c, (k : Int)⟩ = [x, c, y])) : parseF [x, c, y] = (zeroF, 5) := by
  rcases parse_err [x, c, y] with h' | ⟨h1, h2, _⟩
  · exact h'
  · exfalso
    have hk := (right_parts h2).2
    obtain ⟨f, hf⟩ : ∃ f, (parseF [x, c, y]).1 = f := ⟨_, rfl⟩
    rw [hf] at h1 h2 hk
    have hc : f.code = c := by
      rw [words_of h2] at h1
      simp only [List.cons.injEq] at h1
      exact h1.2.1
    obtain ⟨co, k⟩ := f
    simp only at hc hk
    subst hc
    refine h k.toNat (by omega) ?_
    rw [show ((k.toNat : Nat) : Int) = k by omega]
    exact ⟨h2, h1⟩
set_option maxRecDepth 100000 in
set_option maxHeartbeats 8000000 in
theorem rparse_any (v : Value) (ws : List ByteArray) (w : World) (h : StrsV w v ws) :
    Calls Tryz.prog 57 #[v] w fun e w' => e = .returned (.tuple #[aggL (parseF ws).1, .int .i64 (parseF ws).2]) ∧ Below w.heap.size w w' := by
  have HV := Lib.hid h
  obtain ⟨p, c, rfl, hcap, hm, hc⟩ := h
  have HB0 := Lib.hid ((Below.refl w.heap.size w).alloc (Nat.le_refl _) (.cells zc 87))
  have HX0 := Lib.hid (BoxE.new encF w zeroF 87)
  by_cases h3 : ws.length = 3
  · match ws, h3 with
    | [x0, x1, x2], _ =>
      obtain ⟨b, o, e', k1⟩ := hc 1 x1 rfl
      cases e'
      have HK1 := Lib.hid k1
      obtain ⟨R, hR⟩ : ∃ R, parseF [x0, x1, x2] = R := ⟨_, rfl⟩
      rw [hR]
      have HR := Lib.hid hR
      have HV0 : Hid (StrsV w (.slice (some ⟨b, o, none⟩) 3 c) [x0, x1, x2]) := HV
      clear hc k1 hm hcap HV hR
      show Calls _ _ #[.slice (some ⟨b, o, none⟩) 3 c] _ _
      go_enter Tryz.func57, Tryz.ntmps57
      go_wp2
      go_loopw [4] (fun s4 wr => ∃ k : Nat, k ≤ 5 ∧ s4 = .int .i64 (k : Int) ∧ Below w.heap.size w wr ∧ BoxE encF wr w.heap.size 87 zeroF ∧ Hid (∀ j : Nat, j < k → ¬ (rightF ⟨x1, (j : Int)⟩ = true ∧ wordsF ⟨x1, (j : Int)⟩ = [x0, x1, x2]))) (fun s4 _ => 5 - (intOf s4).toNat)
      case atStart => exact ⟨0, by omega, rfl, HB0.out, HX0.out, Lib.hid fun j hj => absurd hj (Nat.not_lt_zero _)⟩
      case round =>
        obtain ⟨k, hk5, rfl, hnx, hbx, HNO⟩ := hrel
        have HNX := Lib.hid hnx
        have HBX := Lib.hid hbx
        have HS : Hid (w.heap.size < wr.heap.size) := Lib.hid hbx.lt
        clear hnx hbx
        by_cases hlt : k < 5
        · have c1 := cell_on HNX.out HK1.out
          obtain ⟨f, hf⟩ : ∃ f : Flow, (⟨x1, (k : Int)⟩ : Flow) = f := ⟨_, rfl⟩
          have hba := (Below.refl wr.heap.size wr).alloc (Nat.le_refl _) (.cells #[.string x1, .int .i64 (k : Int)] 87)
          have HNA := Lib.hid (HNX.out.trans (hba.mono HNX.out.size))
          have HBA := Lib.hid (HBX.out.kept hba)
          have HFA := Lib.hid (BoxE.new encF wr ⟨x1, (k : Int)⟩ 87)
          obtain ⟨r, hr⟩ : ∃ r, rightF ⟨x1, (k : Int)⟩ = r := ⟨_, rfl⟩
          have HRR := Lib.hid (rright_any ⟨x1, (k : Int)⟩)
          rw [hr] at HRR
          have HRV := Lib.hid hr
          clear hr hba hf
          go_wp2_with fail
          clear c1
          refine (HRR.out _).mono ?_
          rintro e w2 ⟨rfl, hb2⟩
          have HN2 := Lib.hid (HNA.out.trans (hb2.mono HNA.out.size))
          have HB2 := Lib.hid (HBA.out.kept hb2)
          have HF2 := Lib.hid (HFA.out.kept hb2)
          clear hb2 HNA HBA HFA
          cases r with
          | false =>
            go_wp2
            go_roundw
            case rel => exact ⟨k + 1, by omega, by go_num, HN2.out, HB2.out, Lib.hid fun j hj hh => by
              rcases Nat.lt_or_ge j k with h | h
              · exact HNO.out j h hh
              · obtain rfl : j = k := by omega
                rw [HRV.out] at hh; cases hh.1⟩
            case measure => simp [intOf]; omega
          | true =>
            obtain ⟨d0, d1⟩ := box HF2.out
            simp only at d0 d1
            go_wp2_with fail
            clear d0 d1
            refine (rwords_any ⟨x1, (k : Int)⟩ w2).mono ?_
            rintro e w3 ⟨v3, rfl, hs3, hb3⟩
            have HN3 := Lib.hid (HN2.out.trans (hb3.mono HN2.out.size))
            have HB3 := Lib.hid (HB2.out.kept hb3)
            have HF3 := Lib.hid (HF2.out.kept hb3)
            have HS3 := Lib.hid hs3
            have HV3 := Lib.hid (HV0.out.keep HN3.out)
            clear hb3 hs3 HN2 HB2 HF2
            go_wp2_with fail
            refine (sameWords_any _ _ _ _ _ HS3.out HV3.out).mono ?_
            rintro e w4 ⟨rfl, q, hq⟩
            have HN4 : Hid (Below w.heap.size w w4) := Lib.hid (by rw [hq]; exact below_drewN' HN3.out q)
            have HB4 : Hid (BoxE encF w4 w.heap.size 87 zeroF) := Lib.hid (by rw [hq]; exact HB3.out)
            have HF4 : Hid (BoxE encF w4 wr.heap.size 87 ⟨x1, (k : Int)⟩) := Lib.hid (by rw [hq]; exact HF3.out)
            clear hq
            by_cases hw : wordsF ⟨x1, (k : Int)⟩ = [x0, x1, x2]
            · have hsm : Hid (sameW (wordsF ⟨x1, (k : Int)⟩) [x0, x1, x2] = true) := Lib.hid (decide_eq_true hw)
              have hRR : Hid (R = (⟨x1, (k : Int)⟩, 0)) := Lib.hid (by rw [← HR.out]; exact parse_is HRV.out hw)
              rw [hsm.out]
              clear hw
              obtain ⟨d0, d1⟩ := box HF4.out
              simp only at d0 d1
              go_wp2_with (refine wpList_store_el (E := encF) rfl 87 (.tmp 2) (.tmp 28) rfl w.heap.size zeroF ⟨x1, (k : Int)⟩ 87 rfl rfl HB4.out (by kernel_rfl) ?_; intro w8 hb8 hg8)
              have HF := Lib.hid (HN4.out.grown hg8 HN4.out.size (fun j hj => by cases hj; exact Nat.le_refl _))
              obtain ⟨t0, t1⟩ := box hb8
              simp only at t0 t1
              clear hb8 hg8
              refine bodyPost_ret (v := .tuple #[aggL ⟨x1, (k : Int)⟩, .int .i64 0]) (by simp [results, Tryz.results57, go_sem, t0, t1]) rfl ⟨by rw [hRR.out], HF.out⟩
            · have hsm : Hid (sameW (wordsF ⟨x1, (k : Int)⟩) [x0, x1, x2] = false) := Lib.hid (decide_eq_false hw)
              have HNW := Lib.hid hw
              rw [hsm.out]
              clear hw
              go_wp2
              go_roundw
              case rel => exact ⟨k + 1, by omega, by go_num, HN4.out, HB4.out, Lib.hid fun j hj hh => by
                rcases Nat.lt_or_ge j k with h | h
                · exact HNO.out j h hh
                · obtain rfl : j = k := by omega
                  exact HNW.out hh.2⟩
              case measure => simp [intOf]; omega
        · obtain rfl : k = 5 := by omega
          have hRR : Hid (R = (zeroF, 5)) := Lib.hid (by rw [← HR.out]; exact parse_no HNO.out)
          clear hlt
          go_wp2_with (refine wpList_store_el (E := encF) rfl 87 (.tmp 2) (.tmp 29) rfl w.heap.size zeroF zeroF 87 rfl rfl HBX.out (by kernel_rfl) ?_; intro w8 hb8 hg8)
          have HF := Lib.hid (HNX.out.grown hg8 HNX.out.size (fun j hj => by cases hj; exact Nat.le_refl _))
          obtain ⟨t0, t1⟩ := box hb8
          clear hb8 hg8
          refine bodyPost_ret (v := .tuple #[aggL zeroF, .int .i64 5]) (by simp [results, Tryz.results57, go_sem, t0, t1]) rfl ⟨by rw [hRR.out], HF.out⟩
  · have HP := Lib.hid (parse_len h3)
    rw [HP.out]
    obtain ⟨n, hn⟩ : ∃ n, ws.length = n := ⟨_, rfl⟩
    rw [hn] at h3 hcap hm ⊢
    unfold maxLen at hm
    have hnz : ((n : Int) == 3) = false := by simp; omega
    clear hc hn h3 HV
    go_enter Tryz.func57, Tryz.ntmps57
    go_wp2
    refine wp_loop_rounds 1 ?_
    rw [rounds_succ]
    go_wp2
    refine bodyPost_ret (v := .tuple #[aggL zeroF, .int .i64 5]) (by simp [results, Tryz.results57, go_sem, zeroF]) rfl ⟨rfl, HB0.out⟩
end Go.Proofs.YticdmlijacnjbaaGreatDoor.Fl
