
/- The walks of cent.Sum and of the document's own Sum: over any slice that reads as a list of amounts of 64 bits both hand back what the plain sum from 0 says, or that it does not fit, and leave memory as it was. -/
import Derived.Test.YtimeebildbmhaaaCentAdd
import Derived.Test.YtimeebildbmhaaaMem
namespace Go.Proofs.Ytimeebildbmhaaa
open Go.RowKit

theorem sum_step (l : List Int) (k : Nat) (n : Int) (hk : k < l.length) : sumFrom n (l.drop k) = sumFrom n (l.getD k 0 :: l.drop (k + 1)) := by
  rw [List.drop_eq_getElem_cons hk, getD_at l k hk]

set_option maxHeartbeats 400000 in
theorem sum_any (a : Option Addr) (n c : Nat) (l : List Int) (w : World) (h : RowIs .i64 w a n l) (hz : ∀ x ∈ l, In64 x) :
    Calls Try.prog 31 #[.slice a n c] w fun e w' => e = .returned (.tuple #[.int .i64 (sumFrom 0 l).1, .int .i64 (sumFrom 0 l).2]) ∧ w = w' := by
  have hm := h.max
  unfold maxLen at hm
  have H := Lib.hid h
  have HZ := Lib.hid hz
  clear h hz
  go_enter Try.func31, Try.ntmps31
  go_wp2
  go_loop [4, 11] (fun s i => ∃ k : Nat, ∃ x : Int, k ≤ n ∧ i = .int .i64 k ∧ s = .int .i64 x ∧ In64 x ∧ sumFrom 0 l = sumFrom x (l.drop k)) (fun _ i => n - (intOf i).toNat)
  case atStart => exact ⟨0, 0, Nat.zero_le _, rfl, rfl, ⟨by omega, by omega⟩, rfl⟩
  case round =>
    obtain ⟨k, x, hk, rfl, rfl, hx, hs⟩ := hrel
    have HS := Lib.hid hs
    clear hs
    by_cases hlt : k < n
    · obtain ⟨b, o, rfl, hc⟩ := H.out.cell k hlt
      have hin : In64 (l.getD k 0) := by
        have hl := H.out.len
        rw [getD_at l k (by omega)]
        exact HZ.out _ (List.getElem_mem _)
      cases hf : fit (x + l.getD k 0) with
      | true =>
        have HF := Lib.hid hf
        clear hf
        generalize hy : l.getD k 0 = y at *
        have HY := Lib.hid hy
        clear hy
        go_wp2_with (go_at_call 46; refine (add_any x y _ hx hin).mono ?_; rintro e w' ⟨rfl, rfl⟩; rw [addV_yes HF.out, addE_yes HF.out])
        go_round
        case rel => exact ⟨k + 1, x + y, by omega, by go_num, rfl, in64_of_fit HF.out, by rw [HS.out, sum_step l k x (by rw [H.out.len]; exact hlt), HY.out, sumFrom_yes _ HF.out]⟩
        case measure => simp [intOf]; omega
      | false =>
        have HF := Lib.hid hf
        clear hf
        generalize hy : l.getD k 0 = y at *
        have HY := Lib.hid hy
        clear hy
        have hfin : sumFrom 0 l = (0, 2) := by rw [HS.out, sum_step l k x (by rw [H.out.len]; exact hlt), HY.out, sumFrom_no _ HF.out]
        have HFIN := Lib.hid hfin
        clear hfin
        go_wp2_with (go_at_call 46; refine (add_any x y _ hx hin).mono ?_; rintro e w' ⟨rfl, rfl⟩; rw [addV_no HF.out, addE_no HF.out])
        go_ret2
        rw [HFIN.out]
        exact ⟨rfl, rfl⟩
    · have hfin : sumFrom 0 l = (x, 0) := by
        rw [HS.out, List.drop_of_length_le (by rw [H.out.len]; omega)]; rfl
      have HFIN := Lib.hid hfin
      clear hfin
      go_wp2
      go_ret2
      rw [HFIN.out]
      exact ⟨rfl, rfl⟩
set_option maxHeartbeats 400000 in
theorem rsum_any (a : Option Addr) (n c : Nat) (l : List Int) (w : World) (h : RowIs .i64 w a n l) (hz : ∀ x ∈ l, In64 x) :
    Calls Try.prog 33 #[.slice a n c] w fun e w' => e = .returned (.tuple #[.int .i64 (sumFrom 0 l).1, .int .i64 (sumFrom 0 l).2]) ∧ w = w' := by
  have hm := h.max
  unfold maxLen at hm
  have H := Lib.hid h
  have HZ := Lib.hid hz
  clear h hz
  go_enter Try.func33, Try.ntmps33
  go_wp2
  go_loop [4, 5] (fun s i => ∃ k : Nat, ∃ x : Int, k ≤ n ∧ i = .int .i64 k ∧ s = .int .i64 x ∧ In64 x ∧ sumFrom 0 l = sumFrom x (l.drop k)) (fun _ i => n - (intOf i).toNat)
  case atStart => exact ⟨0, 0, Nat.zero_le _, rfl, rfl, ⟨by omega, by omega⟩, rfl⟩
  case round =>
    obtain ⟨k, x, hk, rfl, rfl, hx, hs⟩ := hrel
    have HS := Lib.hid hs
    clear hs
    by_cases hlt : k < n
    · obtain ⟨b, o, rfl, hc⟩ := H.out.cell k hlt
      have hin : In64 (l.getD k 0) := by
        have hl := H.out.len
        rw [getD_at l k (by omega)]
        exact HZ.out _ (List.getElem_mem _)
      cases hf : fit (x + l.getD k 0) with
      | true =>
        have HF := Lib.hid hf
        clear hf
        generalize hy : l.getD k 0 = y at *
        have HY := Lib.hid hy
        clear hy
        go_wp2_with (go_at_call 47; refine (radd_any x y _ hx hin).mono ?_; rintro e w' ⟨rfl, rfl⟩; rw [addV_yes HF.out, addE_yes HF.out])
        go_round
        case rel => exact ⟨k + 1, x + y, by omega, by go_num, rfl, in64_of_fit HF.out, by rw [HS.out, sum_step l k x (by rw [H.out.len]; exact hlt), HY.out, sumFrom_yes _ HF.out]⟩
        case measure => simp [intOf]; omega
      | false =>
        have HF := Lib.hid hf
        clear hf
        generalize hy : l.getD k 0 = y at *
        have HY := Lib.hid hy
        clear hy
        have hfin : sumFrom 0 l = (0, 2) := by rw [HS.out, sum_step l k x (by rw [H.out.len]; exact hlt), HY.out, sumFrom_no _ HF.out]
        have HFIN := Lib.hid hfin
        clear hfin
        go_wp2_with (go_at_call 47; refine (radd_any x y _ hx hin).mono ?_; rintro e w' ⟨rfl, rfl⟩; rw [addV_no HF.out, addE_no HF.out])
        go_ret2
        rw [HFIN.out]
        exact ⟨rfl, rfl⟩
    · have hfin : sumFrom 0 l = (x, 0) := by
        rw [HS.out, List.drop_of_length_le (by rw [H.out.len]; omega)]; rfl
      have HFIN := Lib.hid hfin
      clear hfin
      go_wp2
      go_ret2
      rw [HFIN.out]
      exact ⟨rfl, rfl⟩
end Go.Proofs.Ytimeebildbmhaaa
