
/- The walk of the document's Rise over flows: codes rise, and there is one at most of each kind but Move; what was there stays. -/
import Derived.Test.YtkacidoflmbjkaaDoorFlowOurs
import Derived.WalkLawsBesides
import Derived.Lib.SlicesS
namespace Go.Proofs.YtkacidoflmbjkaaDoor.Fl
open Go.RowKit

theorem rise_false {L : List Flow} (h : riseK Flow.code L = false) : riseF L = false := by unfold riseF; rw [h]; rfl
theorem ones_no {L : List Flow} {k : Nat} (hk : k < 5) (h1 : k ≠ 1) (h : 1 < (ofF L (k : Int)).length) : riseF L = false := by
  unfold riseF
  rw [Bool.and_eq_false_iff]
  exact .inr (decide_eq_false fun ho => by have := ho (k : Int) (by omega) (by omega); omega)
theorem rise_true {L : List Flow} (hr : riseK Flow.code L = true) (h : ∀ j : Nat, j < 5 → j ≠ 1 → (ofF L (j : Int)).length ≤ 1) : riseF L = true := by
  unfold riseF
  rw [hr, Bool.true_and]
  refine decide_eq_true fun k hk h1 => ?_
  have := h k.toNat (by omega) (by omega)
  rwa [show ((k.toNat : Nat) : Int) = k by omega] at this
set_option maxRecDepth 100000 in
set_option maxHeartbeats 4000000 in
theorem rise_any (v : Value) (L : List Flow) (w : World) (h : FlowsV w v L) (hL : L.length ≤ 1000) :
    Calls Tryd.prog 21 #[v] w fun e w' => e = .returned (.bool (riseF L)) ∧ Below w.heap.size w w' := by
  have HV := Lib.hid h
  obtain ⟨a, c, rfl, hk, hm, _, hc⟩ := h
  obtain ⟨n, hn⟩ : ∃ n, L.length = n := ⟨_, rfl⟩
  obtain ⟨r, hr⟩ : ∃ r, riseF L = r := ⟨_, rfl⟩
  have HL := Lib.hid hL
  rw [hn] at hk HV hL ⊢
  rw [hr]
  have H := Lib.hid hc
  have HN := Lib.hid hn
  have HR := Lib.hid hr
  unfold maxLen at hm
  clear hc hn hr
  go_enter Tryd.func21, Tryd.ntmps21
  go_wp2
  go_loopg [3] (n + 1) (fun kx vi wr => ∃ i q : Nat, vi = .int .i64 ((i : Int) + 1) ∧ n - i ≤ kx ∧ i ≤ n ∧ Hid (wr = w.drewN q) ∧ Hid (∀ (j : Nat) (x y : Flow), j < i → L[j]? = some x → L[j + 1]? = some y → ltS x.code y.code = true))
  case atStart => exact ⟨0, 0, rfl, by omega, Nat.zero_le _, rfl, Lib.hid fun j x y hj => absurd hj (Nat.not_lt_zero _)⟩
  case round =>
    obtain ⟨i, q, rfl, hkx, hin, HW, HA⟩ := hrel
    by_cases hlt : i + 1 < n
    · obtain ⟨x, hx⟩ : ∃ y, L[i]? = some y := ⟨_, List.getElem?_eq_getElem (by rw [HN.out]; omega)⟩
      obtain ⟨y, hy⟩ : ∃ y, L[i + 1]? = some y := ⟨_, List.getElem?_eq_getElem (by rw [HN.out]; exact hlt)⟩
      obtain ⟨b1, o1, rfl, d1⟩ := H.out i _ hx
      obtain ⟨b2, o2, e', d2⟩ := H.out (i + 1) _ hy
      cases e'
      have HX := Lib.hid hx
      have HY := Lib.hid hy
      clear hx hy
      have e0 := (two (d1.drewN q)).1
      have k0 := (two (d2.drewN q)).1
      rw [← HW.out] at e0 k0
      clear d1 d2
      have hltz : (i : Int) + 1 < (n : Int) := by omega
      have hp1 : (i : Int) + 1 - 1 = (i : Int) := by omega
      cases hxy : ltS x.code y.code with
      | true =>
        have HXE := Lib.hid hxy
        unfold ltS at hxy
        go_wp2_with fail
        go_big_quiet (fail)
        clear e0 k0 hxy
        go_wp2
        go_roundg (n - (i + 1))
        case measure => omega
        case rel => exact ⟨i + 1, q + nq, by first | rfl | go_num | (congr 1; omega), by omega, by omega, Lib.hid (by rw [HW.out, World.drewN_drewN]), Lib.hid fun j z t hj hz ht => by
          rcases Nat.lt_or_ge j i with h | h
          · exact HA.out j z t h hz ht
          · obtain rfl : j = i := by omega
            rw [HX.out] at hz; rw [HY.out] at ht
            cases hz; cases ht; exact HXE.out⟩
      | false =>
        have HXE := Lib.hid hxy
        unfold ltS at hxy
        go_wp2_with fail
        go_big_quiet (fail)
        clear e0 k0 hxy
        go_wp2
        go_ret
        refine ⟨ret_bool (by rw [← HR.out, rise_false (riseK_no HX.out HY.out HXE.out)]), ?_⟩
        rw [HW.out, World.drewN_drewN]
        exact ⟨rfl, rfl, rfl, Nat.le_refl _, fun _ _ => rfl⟩
    · have hltz : ¬ (i : Int) + 1 < (n : Int) := by omega
      have HRK : Hid (riseK Flow.code L = true) := Lib.hid (riseK_of fun j x y hx hy => HA.out j x y (by have := (List.getElem?_eq_some_iff.1 hy).1; rw [HN.out] at this; omega) hx hy)
      have HB0 : Hid (Below w.heap.size w wr) := Lib.hid (by rw [HW.out]; exact ⟨rfl, rfl, rfl, Nat.le_refl _, fun _ _ => rfl⟩)
      clear HA HW hkx hlt
      rename World => wa
      go_wp2
      go_loopw [4] (fun s4 wr => ∃ k : Nat, k ≤ 5 ∧ s4 = .int .i64 (k : Int) ∧ Below w.heap.size w wr ∧ Hid (∀ j : Nat, j < k → j ≠ 1 → (ofF L (j : Int)).length ≤ 1)) (fun s4 _ => 5 - (intOf s4).toNat)
      case atStart => exact ⟨0, by omega, rfl, HB0.out, Lib.hid fun j hj => absurd hj (Nat.not_lt_zero _)⟩
      case round =>
        obtain ⟨k, hk5, rfl, hnx, HNO⟩ := hrel
        by_cases hlt : k < 5
        · have hltz : (k : Int) < 5 := by omega
          have HNX := Lib.hid hnx
          clear hnx
          by_cases h1 : k = 1
          · subst h1
            go_wp2
            go_roundw
            case rel => exact ⟨2, by omega, rfl, HNX.out, Lib.hid fun j hj h1 => HNO.out j (by omega) h1⟩
            case measure => simp [intOf]
          · have h1z : ((k : Int) != 1) = true := by simp; omega
            have HK1 := Lib.hid h1
            clear h1
            go_wp2_with fail
            refine (rof_any _ L (k : Int) _ (HV.out.keep HNX.out) HL.out).mono ?_
            rintro e w3 ⟨v3, rfl, hs3, hb3⟩
            obtain ⟨p3, c3, rfl, _, hm3, _⟩ := hs3
            have HB3 := Lib.hid (HNX.out.trans (hb3.mono HNX.out.size))
            obtain ⟨m, hmm⟩ : ∃ m, (ofF L (k : Int)).length = m := ⟨_, rfl⟩
            have HM := Lib.hid hmm
            rw [hmm] at hm3 ⊢
            unfold maxLen at hm3
            clear hmm hb3
            by_cases h2 : 1 < m
            · have h2z : (1 : Int) < (m : Int) := by omega
              go_wp2
              go_ret
              exact ⟨ret_bool (by rw [← HR.out, ones_no hlt HK1.out (by rw [HM.out]; exact h2)]), HB3.out⟩
            · have h2z : ¬ (1 : Int) < (m : Int) := by omega
              go_wp2
              go_roundw
              case rel => exact ⟨k + 1, by omega, by go_num, HB3.out, Lib.hid fun j hj h1 => by
                rcases Nat.lt_or_ge j k with h | h
                · exact HNO.out j h h1
                · obtain rfl : j = k := by omega
                  rw [HM.out]; omega⟩
              case measure => simp [intOf]; omega
        · obtain rfl : k = 5 := by omega
          go_wp2
          go_ret
          exact ⟨ret_bool (by rw [← HR.out, rise_true HRK.out HNO.out]), hnx⟩
end Go.Proofs.YtkacidoflmbjkaaDoor.Fl
