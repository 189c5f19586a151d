/- The walks of rate.Chain and of the document's own Chain: over any slice that reads as a list of integers both hand back what the plain chain says, and leave memory as it was. -/
import Derived.Test.YtikjjbimokajfaaDoorRateFacts
import Derived.Test.YtikjjbimokajfaaDoorMem
import Derived.Test.YtikjjbimokajfaaDoorProg
namespace Go.Proofs.YtikjjbimokajfaaDoor
open Go.RowKit

theorem chain_step (l : List Int) (k : Nat) (n : Int) (hk : k < l.length) : chFrom n (l.drop k) = chFrom n (l.getD k 0 :: l.drop (k + 1)) := by
  rw [List.drop_eq_getElem_cons hk, getD_at l k hk]
theorem shares_take (l : List Int) (k : Nat) (hk : k < l.length) : sharesB (l.take (k + 1)) = (sharesB (l.take k) && shareB (l.getD k 0)) := by
  rw [← take_snoc l k hk, sharesB_append]; simp [sharesB]
theorem shares_at {l : List Int} {k : Nat} (hk : k < l.length) (h : sharesB l = true) : shareB (l.getD k 0) = true := by
  rw [getD_at l k hk]; exact List.all_eq_true.1 h _ (List.getElem_mem _)
theorem shares_not {l : List Int} {k : Nat} (hk : k < l.length) (h : shareB (l.getD k 0) = false) : chain l = (0, 1) := by
  have hs : sharesB l = false := by
    rw [← Bool.not_eq_true]
    intro h'
    rw [shares_at hk h'] at h; cases h
  unfold chain; rw [hs]; rfl

set_option maxHeartbeats 1000000 in
theorem chain_any (a : Option Addr) (n c : Nat) (l : List Int) (w : World) (h : RowIs .i64 w a n l) :
    Calls Tryd.prog 19 #[.slice a n c] w fun e w' => e = .returned (.tuple #[.int .i64 (chain l).1, .int .i64 (chain l).2]) ∧ w = w' := by
  have hm := h.max
  unfold maxLen at hm
  have H := Lib.hid h
  clear h
  go_enter Tryd.func19, Tryd.ntmps19
  go_wp2
  go_loop [12] (fun i => ∃ k : Nat, k ≤ n ∧ i = .int .i64 k ∧ Hid (sharesB (l.take k) = true)) (fun i => n - (intOf i).toNat)
  case atStart => exact ⟨0, Nat.zero_le _, rfl, Lib.hid rfl⟩
  case round =>
    obtain ⟨k, hk, rfl, hs⟩ := hrel
    by_cases hlt : k < n
    · obtain ⟨b, o, rfl, hc⟩ := H.out.cell k hlt
      have hkl : Hid (k < l.length) := Lib.hid (by rw [H.out.len]; exact hlt)
      have ST := Lib.hid (shares_take l k hkl.out)
      cases hf : shareB (l.getD k 0) with
      | true =>
        have HF := Lib.hid hf
        obtain ⟨y1, y2⟩ := (shareB_iff _).1 hf
        clear hf
        generalize l.getD k 0 = y at *
        go_wp2
        go_round
        case rel => exact ⟨k + 1, by omega, by go_num, Lib.hid (by rw [ST.out, hs.out, HF.out]; rfl)⟩
        case measure => simp [intOf]; omega
      | false =>
        have HFIN := Lib.hid (shares_not hkl.out hf)
        have hy := (shareB_no _).1 hf
        clear hf
        generalize l.getD k 0 = y at *
        rcases hy with hy | hy
        · have hd : decide (y < 0) = true := by simpa using hy
          go_wp2
          go_ret2
          rw [HFIN.out]
          exact ⟨rfl, rfl⟩
        · have hd : decide (y < 0) = false := by simp; omega
          go_wp2
          go_ret2
          rw [HFIN.out]
          exact ⟨rfl, rfl⟩
    · have HS : Hid (sharesB l = true) := Lib.hid (by
        have := hs.out
        rw [List.take_of_length_le (by rw [H.out.len]; omega)] at this
        exact this)
      have HCH : Hid (chain l = chFrom 10000 l) := Lib.hid (if_pos HS.out)
      clear hs
      go_wp2
      clear hlt hk
      go_loop [6, 25] (fun s i => ∃ k : Nat, ∃ x : Int, k ≤ n ∧ i = .int .i64 k ∧ s = .int .i64 x ∧ 0 ≤ x ∧ x ≤ 10000 ∧ Hid (chain l = chFrom x (l.drop k))) (fun _ i => n - (intOf i).toNat)
      case atStart => exact ⟨0, 10000, Nat.zero_le _, rfl, rfl, by omega, by omega, HCH⟩
      case round =>
        obtain ⟨k, x, hk, rfl, rfl, hx1, hx2, hs⟩ := hrel
        by_cases hlt : k < n
        · obtain ⟨b, o, rfl, hc⟩ := H.out.cell k hlt
          have hkl : Hid (k < l.length) := Lib.hid (by rw [H.out.len]; exact hlt)
          have CS := Lib.hid (chain_step l k x hkl.out)
          obtain ⟨y1, y2⟩ := (shareB_iff _).1 (shares_at hkl.out HS.out)
          generalize l.getD k 0 = y at *
          obtain ⟨p1, p2, p3, p4⟩ := prod_bd ⟨hx1, hx2⟩ ⟨y1, y2⟩
          clear p3 p4
          by_cases hf : x * y % 10000 = 0
          · have HF := Lib.hid hf
            clear hf
            have HNX := Lib.hid (chFrom_yes (l.drop (k + 1)) HF.out)
            obtain ⟨z, hz⟩ : ∃ z, x * y = z := ⟨_, rfl⟩
            have HZ := Lib.hid hz
            rw [hz] at p1 p2
            have hz0 : z % 10000 = 0 := by rw [← hz]; exact HF.out
            have hb1 : ((z % 10000) == 0) = true := by rw [hz0]; rfl
            have hb2 : ((z % 10000) != 0) = false := by rw [hz0]; rfl
            have hq1 : 0 ≤ z / 10000 := by omega
            have hq2 : z / 10000 ≤ 10000 := by omega
            clear hz0
            go_wp2
            go_round
            case rel => exact ⟨k + 1, z / 10000, by omega, by go_num, by first | rfl | go_num, hq1, hq2, Lib.hid (by rw [hs.out, CS.out, HNX.out, HZ.out])⟩
            case measure => simp [intOf]; omega
          · have HF := Lib.hid hf
            clear hf
            have HFIN : Hid (chain l = (0, 12)) := Lib.hid (by rw [hs.out, CS.out, chFrom_no _ HF.out])
            obtain ⟨z, hz⟩ : ∃ z, x * y = z := ⟨_, rfl⟩
            rw [hz] at p1 p2
            have hz0 : z % 10000 ≠ 0 := by rw [← hz]; exact HF.out
            have hb1 : ((z % 10000) == 0) = false := by simpa using hz0
            have hb2 : ((z % 10000) != 0) = true := by simpa using hz0
            clear hz0
            go_wp2
            go_ret2
            rw [HFIN.out]
            exact ⟨rfl, rfl⟩
        · have HFIN : Hid (chain l = (x, 0)) := Lib.hid (by rw [hs.out, List.drop_of_length_le (by rw [H.out.len]; omega)]; rfl)
          go_wp2
          go_ret2
          rw [HFIN.out]
          exact ⟨rfl, rfl⟩

set_option maxHeartbeats 1000000 in
theorem qchain_any (a : Option Addr) (n c : Nat) (l : List Int) (w : World) (h : RowIs .i64 w a n l) :
    Calls Tryd.prog 20 #[.slice a n c] w fun e w' => e = .returned (.tuple #[.int .i64 (chain l).1, .int .i64 (chain l).2]) ∧ w = w' := by
  have hm := h.max
  unfold maxLen at hm
  have H := Lib.hid h
  clear h
  go_enter Tryd.func20, Tryd.ntmps20
  go_wp2
  go_loop [4] (fun i => ∃ k : Nat, k ≤ n ∧ i = .int .i64 k ∧ Hid (sharesB (l.take k) = true)) (fun i => n - (intOf i).toNat)
  case atStart => exact ⟨0, Nat.zero_le _, rfl, Lib.hid rfl⟩
  case round =>
    obtain ⟨k, hk, rfl, hs⟩ := hrel
    by_cases hlt : k < n
    · obtain ⟨b, o, rfl, hc⟩ := H.out.cell k hlt
      have hkl : Hid (k < l.length) := Lib.hid (by rw [H.out.len]; exact hlt)
      have ST := Lib.hid (shares_take l k hkl.out)
      cases hf : shareB (l.getD k 0) with
      | true =>
        have HF := Lib.hid hf
        obtain ⟨y1, y2⟩ := (shareB_iff _).1 hf
        clear hf
        generalize l.getD k 0 = y at *
        go_wp2
        go_round
        case rel => exact ⟨k + 1, by omega, by go_num, Lib.hid (by rw [ST.out, hs.out, HF.out]; rfl)⟩
        case measure => simp [intOf]; omega
      | false =>
        have HFIN := Lib.hid (shares_not hkl.out hf)
        have hy := (shareB_no _).1 hf
        clear hf
        generalize l.getD k 0 = y at *
        rcases hy with hy | hy
        · have hd : decide (y < 0) = true := by simpa using hy
          go_wp2
          go_ret2
          rw [HFIN.out]
          exact ⟨rfl, rfl⟩
        · have hd : decide (y < 0) = false := by simp; omega
          go_wp2
          go_ret2
          rw [HFIN.out]
          exact ⟨rfl, rfl⟩
    · have HS : Hid (sharesB l = true) := Lib.hid (by
        have := hs.out
        rw [List.take_of_length_le (by rw [H.out.len]; omega)] at this
        exact this)
      have HCH : Hid (chain l = chFrom 10000 l) := Lib.hid (if_pos HS.out)
      clear hs
      go_wp2
      clear hlt hk
      go_loop [5, 6] (fun s i => ∃ k : Nat, ∃ x : Int, k ≤ n ∧ i = .int .i64 k ∧ s = .int .i64 x ∧ 0 ≤ x ∧ x ≤ 10000 ∧ Hid (chain l = chFrom x (l.drop k))) (fun _ i => n - (intOf i).toNat)
      case atStart => exact ⟨0, 10000, Nat.zero_le _, rfl, rfl, by omega, by omega, HCH⟩
      case round =>
        obtain ⟨k, x, hk, rfl, rfl, hx1, hx2, hs⟩ := hrel
        by_cases hlt : k < n
        · obtain ⟨b, o, rfl, hc⟩ := H.out.cell k hlt
          have hkl : Hid (k < l.length) := Lib.hid (by rw [H.out.len]; exact hlt)
          have CS := Lib.hid (chain_step l k x hkl.out)
          obtain ⟨y1, y2⟩ := (shareB_iff _).1 (shares_at hkl.out HS.out)
          generalize l.getD k 0 = y at *
          obtain ⟨p1, p2, p3, p4⟩ := prod_bd ⟨hx1, hx2⟩ ⟨y1, y2⟩
          clear p3 p4
          by_cases hf : x * y % 10000 = 0
          · have HF := Lib.hid hf
            clear hf
            have HNX := Lib.hid (chFrom_yes (l.drop (k + 1)) HF.out)
            obtain ⟨z, hz⟩ : ∃ z, x * y = z := ⟨_, rfl⟩
            have HZ := Lib.hid hz
            rw [hz] at p1 p2
            have hz0 : z % 10000 = 0 := by rw [← hz]; exact HF.out
            have hb1 : ((z % 10000) == 0) = true := by rw [hz0]; rfl
            have hb2 : ((z % 10000) != 0) = false := by rw [hz0]; rfl
            have hq1 : 0 ≤ z / 10000 := by omega
            have hq2 : z / 10000 ≤ 10000 := by omega
            clear hz0
            go_wp2
            go_round
            case rel => exact ⟨k + 1, z / 10000, by omega, by go_num, by first | rfl | go_num, hq1, hq2, Lib.hid (by rw [hs.out, CS.out, HNX.out, HZ.out])⟩
            case measure => simp [intOf]; omega
          · have HF := Lib.hid hf
            clear hf
            have HFIN : Hid (chain l = (0, 12)) := Lib.hid (by rw [hs.out, CS.out, chFrom_no _ HF.out])
            obtain ⟨z, hz⟩ : ∃ z, x * y = z := ⟨_, rfl⟩
            rw [hz] at p1 p2
            have hz0 : z % 10000 ≠ 0 := by rw [← hz]; exact HF.out
            have hb1 : ((z % 10000) == 0) = false := by simpa using hz0
            have hb2 : ((z % 10000) != 0) = true := by simpa using hz0
            clear hz0
            go_wp2
            go_ret2
            rw [HFIN.out]
            exact ⟨rfl, rfl⟩
        · have HFIN : Hid (chain l = (x, 0)) := Lib.hid (by rw [hs.out, List.drop_of_length_le (by rw [H.out.len]; omega)]; rfl)
          go_wp2
          go_ret2
          rw [HFIN.out]
          exact ⟨rfl, rfl⟩

end Go.Proofs.YtikjjbimokajfaaDoor
