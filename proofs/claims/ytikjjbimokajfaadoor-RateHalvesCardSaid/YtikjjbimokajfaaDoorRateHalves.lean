/- The walk of the law RateHalves: for any number of 8 bits it returns true, and memory that was there stays. -/
import Derived.Test.YtikjjbimokajfaaDoorRateAlive
namespace Go.Proofs.YtikjjbimokajfaaDoor
open Go.RowKit

theorem infoInt : (Tryd.prog.info? 3).map (fun i => (i.zero, i.size, i.bytes)) = some (some (.int .i64 0), 1, 8) := by kernel_rfl
theorem chain_val (v : Value) (l : List Int) (w : World) (h : RowV .i64 w v l) :
    Calls Tryd.prog 19 #[v] w fun e w' => e = .returned (.tuple #[.int .i64 (chain l).1, .int .i64 (chain l).2]) ∧ w = w' := by
  obtain ⟨a, c, rfl, hr⟩ := rowIs_of_rowV h
  exact chain_any a _ c l w hr
theorem rep_snoc (j : Nat) (x : Int) : List.replicate j x ++ [x] = List.replicate (j + 1) x := List.replicate_succ'.symm

set_option maxRecDepth 100000 in
set_option maxHeartbeats 1000000 in
theorem rateHalves_walk (n : Int) (w : World) (hn : InU8 n) (hL : Laid w) :
    Calls Tryd.prog 9 #[.int .u8 n] w fun e w' => e = .returned (.bool true) ∧ Below w.heap.size w w' := by
  obtain ⟨i0, hi, hz0, hz1, hz2⟩ := info_parts infoInt
  have HI := Lib.hid (And.intro hi (And.intro hz0 (And.intro hz1 hz2)))
  have HL := Lib.hid hL
  obtain ⟨n1, n2⟩ := hn
  clear hi hz0 hz1 hz2 hL
  obtain ⟨k, hk⟩ : ∃ k : Nat, n % 20 = (k : Int) := ⟨(n % 20).toNat, by omega⟩
  have hk20 : k < 20 := by omega
  have HC := Lib.hid (chain_halves hk20)
  have HKK := Lib.hid hk
  clear hk
  go_enter Tryd.func9, Tryd.ntmps9
  go_wp2_with fail
  refine (rateAlive_any _ HL.out).mono ?_
  rintro e w1 ⟨rfl, hb1⟩
  have HB1 := Lib.hid hb1
  clear hb1
  go_wp2
  rw [HKK.out]
  go_loopw [4, 13] (fun v i wr => ∃ j : Nat, j ≤ k ∧ i = .int .i64 j ∧ OwnI .i64 wr w1.heap.size 3 v (List.replicate j 5000) ∧ Below w1.heap.size w1 wr) (fun _ i _ => k - (intOf i).toNat)
  case atStart => exact ⟨0, Nat.zero_le _, rfl, OwnI.nil _ _ _ _, Below.refl _ _⟩
  case round =>
    obtain ⟨j, hj, rfl, hown, hnx⟩ := hrel
    have HOWN := Lib.hid hown
    have HNX := Lib.hid hnx
    clear hown hnx
    by_cases hlt : j < k
    · go_wp2_with (at_builtin; refine wpList_append_rowV .i64 rfl _ _ 40 rfl w1.heap.size 3 i0 (.int .i64 0) 8 Tryd.underlying40 HI.out.1 HI.out.2.1 HI.out.2.2.1 HI.out.2.2.2 rfl (List.replicate j 5000) (HOWN.out.alloc _) [5000] (rowV_one _ _ _ _) (by unfold maxLen; simp; omega) (by simp; omega) (Nat.le_trans HNX.out.size (by simp)) ?_)
      intro v' w2 hown' hbel
      have HOWN2 := Lib.hid hown'
      have HBEL := Lib.hid ((HNX.out.alloc HNX.out.size _).trans hbel)
      clear hown' hbel
      go_wp2
      go_roundw
      case rel => exact ⟨j + 1, by omega, by go_num, by rw [← rep_snoc]; exact HOWN2.out, HBEL.out⟩
      case measure => simp [intOf]; omega
    · have hjk : j = k := by omega
      subst hjk
      have HR := Lib.hid HOWN.out.row
      have HBW := Lib.hid (HB1.out.trans (HNX.out.mono HB1.out.size))
      clear hlt hj
      go_wp2_with fail
      refine (chain_val _ _ _ HR.out).mono ?_
      rintro e w' ⟨rfl, rfl⟩
      rw [HC.out]
      by_cases h4 : 4 < j
      · rw [if_pos h4]
        go_wp2
        go_ret
        exact ⟨ret_true (by simp), HBW.out⟩
      · rw [if_neg h4]
        have hd : decide ((4 : Int) < (j : Int)) = false := by simp; omega
        have hcase : j = 0 ∨ j = 1 ∨ j = 2 ∨ j = 3 ∨ j = 4 := by omega
        go_wp2
        go_ret
        refine ⟨ret_true ?_, HBW.out⟩
        rcases hcase with rfl | rfl | rfl | rfl | rfl <;> decide
end Go.Proofs.YtikjjbimokajfaaDoor
