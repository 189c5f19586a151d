/- The walk of the law RateParts: for any slice of integers and any number of 8 bits it returns true, and memory that was there stays. -/
import Derived.Test.YtikjjbimokajfaaDoorRateAlive
import Derived.Test.YtikjjbimokajfaaDoorRow
import Derived.Deep.CutBlock
import Derived.Deep.DeepCutAuto
namespace Go.Proofs.YtikjjbimokajfaaDoor
open Go.RowKit

theorem infoInts : (Tryd.prog.info? 3).map (fun i => (i.zero, i.size, i.bytes)) = some (some (.int .i64 0), 1, 8) := by kernel_rfl
theorem elemInt : Tryd.prog.underlying 40 = some (.slice (Tryd.prog.elem 40)) := by kernel_rfl
theorem sizeInt (w : World) : (sizeOf (Tryd.prog.elem 40)).run Tryd.prog w = .ok 1 w := by kernel_rfl
theorem chain_valA (v : Value) (l : List Int) (w : World) (h : RowA .i64 w v l) :
    Calls Tryd.prog 19 #[v] w fun e w' => e = .returned (.tuple #[.int .i64 (chain l).1, .int .i64 (chain l).2]) ∧ w = w' := by
  obtain ⟨a, c, rfl, hr⟩ := h.rowIs
  exact chain_any a _ c l w hr

set_option maxRecDepth 100000 in
set_option maxHeartbeats 2000000 in
theorem parts_core (p : Option Addr) (n c k : Nat) (l : List Int) (m : Int) (w : World) (h : RowA .i64 w (.slice p n c) l) (hnc : n ≤ c) (hn : n ≤ 200) (m1 : 0 ≤ m) (m2 : m ≤ 255) (hk : m % ((n : Int) + 1) = (k : Int)) (hL : Laid w) :
    Calls Tryd.prog 6 #[.slice p n c, .int .u8 m] w fun e w' => e = .returned (.bool true) ∧ Below w.heap.size w w' := by
  obtain ⟨i0, hi, hz0, hz1, hz2⟩ := info_parts infoInts
  have hkn : k ≤ n := by
    have := Int.emod_lt_of_pos m (show (0 : Int) < (n : Int) + 1 by omega)
    omega
  have hlen : l.length = n := by
    obtain ⟨a', c', e, _⟩ := h.rowIs
    injection e with _ e2 _
    exact e2.symm
  obtain ⟨v1, v2, s1, s2, r1, r2⟩ := slice_parts elemInt sizeInt h hnc hkn
  have HI := Lib.hid (And.intro hi (And.intro hz0 (And.intro hz1 hz2)))
  have HL := Lib.hid hL
  have H := Lib.hid h
  have R1 := Lib.hid r1
  have R2 := Lib.hid r2
  have HKK := Lib.hid hk
  have HLEN := Lib.hid hlen
  have hd : decide ((200 : Int) < (n : Int)) = false := by simp; omega
  obtain ⟨x, hx⟩ : ∃ x, (chain l).1 = x := ⟨_, rfl⟩
  obtain ⟨y, hy⟩ : ∃ y, (chain l).2 = y := ⟨_, rfl⟩
  have HX := Lib.hid (And.intro hx hy)
  have S1 := Lib.hid s1
  have S2 := Lib.hid s2
  clear hi hz0 hz1 hz2 hL h r1 r2 hk hlen hx hy s1 s2
  go_enter Tryd.func6, Tryd.ntmps6
  go_wp2_with fail
  refine (rateAlive_any _ HL.out).mono ?_
  rintro e w1 ⟨rfl, hb1⟩
  have HB1 := Lib.hid hb1
  have H1 := Lib.hid (H.out.keep hb1 (Nat.le_refl _))
  have T1 := Lib.hid (R1.out.keep hb1 (Nat.le_refl _))
  have T2 := Lib.hid (R2.out.keep hb1 (Nat.le_refl _))
  clear hb1 H R1 R2
  go_wp2_with fail
  refine (chain_valA _ l _ H1.out).mono ?_
  rintro e w' ⟨rfl, rfl⟩
  rw [HX.out.1, HX.out.2]
  go_upto_region 7 with (fail)
  rw [HKK.out]
  go_cut [8] (fun s8 wx => RowA .i64 wx s8 (l.take k ++ 10000 :: l.drop k) ∧ Below w1.heap.size w1 wx)
  case first =>
    have s1 := S1.out
    have s2 := S2.out
    have hl := HLEN.out
    have HC0 := Lib.hid (show ([] : List Int).length + (l.take k).length ≤ maxLen by unfold maxLen; simp; omega)
    have HC0b := Lib.hid (show (([] : List Int).length + (l.take k).length) * 8 ≤ 140737488355328 by simp; omega)
    have HC1 := Lib.hid (show (l.take k).length + [10000].length ≤ maxLen by unfold maxLen; simp; omega)
    have HC1b := Lib.hid (show ((l.take k).length + [10000].length) * 8 ≤ 140737488355328 by simp; omega)
    have HC2 := Lib.hid (show (l.take k ++ [10000]).length + (l.drop k).length ≤ maxLen by unfold maxLen; simp; omega)
    have HC2b := Lib.hid (show ((l.take k ++ [10000]).length + (l.drop k).length) * 8 ≤ 140737488355328 by simp; omega)
    clear hl
    go_region_law (first
      | (refine step_append_rowA (o := ⟨some 38, _, _, _, _, _⟩) .i64 (by rfl) _ _ 40 (by rfl) (w1.heap.size + 1) 3 i0 (.int .i64 0) 8 Tryd.underlying40 HI.out.1 HI.out.2.1 HI.out.2.2.1 HI.out.2.2.2 rfl _ [] (by rfl) (OwnI.nil _ _ _ _) v1 (l.take k) (by rfl) (by exact T1.out.keep ((Below.refl _ _).alloc (Nat.le_refl _) (.cells #[.int .i64 10000] 3)).drew (Nat.le_refl _)) HC0.out HC0b.out (by simp; done) ?_; intro v3 w3 own3 bel3; have kb3 := ((Below.refl w1.heap.size w1).alloc (Nat.le_refl _) (.cells #[.int .i64 10000] 3)).drew.trans (bel3.mono (by omega)))
      | (refine step_append_rowA (o := ⟨some 38, _, _, _, _, _⟩) .i64 (by rfl) _ _ 40 (by rfl) w1.heap.size 3 i0 (.int .i64 0) 8 Tryd.underlying40 HI.out.1 HI.out.2.1 HI.out.2.2.1 HI.out.2.2.2 rfl _ [] (by rfl) (OwnI.nil _ _ _ _) v1 (l.take k) (by rfl) (by exact T1.out.keep (Below.refl _ _).drew (Nat.le_refl _)) HC0.out HC0b.out (by exact Nat.le_refl _) ?_; intro v3 w3 own3 bel3; have kb3 := (Below.refl w1.heap.size w1).drew.trans bel3)
      | (refine step_append_rowA (o := ⟨some 40, _, _, _, _, _⟩) .i64 (by rfl) _ _ 40 (by rfl) w1.heap.size 3 i0 (.int .i64 0) 8 Tryd.underlying40 HI.out.1 HI.out.2.1 HI.out.2.2.1 HI.out.2.2.2 rfl v3 (l.take k) (by rfl) (by exact own3.alloc _) _ [10000] (by rfl) (by exact (rowV_one .i64 w3 10000 3).toA) HC1.out HC1b.out (by exact Nat.le_trans kb3.size (by simp)) ?_; intro v4 w4 own4 bel4; have kb4 := (kb3.alloc kb3.size (.cells #[.int .i64 10000] 3)).trans bel4)
      | (refine step_append_rowA (o := ⟨some 40, _, _, _, _, _⟩) .i64 (by rfl) _ _ 40 (by rfl) (w1.heap.size + 1) 3 i0 (.int .i64 0) 8 Tryd.underlying40 HI.out.1 HI.out.2.1 HI.out.2.2.1 HI.out.2.2.2 rfl v3 (l.take k) (by rfl) (by exact own3) _ [10000] (by rfl) (by exact ((rowV_one .i64 w1 10000 3).toA.keep (Below.refl _ _).drew (Nat.le_refl _)).keep bel3 (by simp)) HC1.out HC1b.out (by have := bel3.size; simp at this; omega) ?_; intro v4 w4 own4 bel4; have kb4 := kb3.trans (bel4.mono (by omega)))
      | (refine step_append_rowA (o := ⟨some 44, _, _, _, _, _⟩) .i64 (by rfl) _ _ 40 (by rfl) _ 3 i0 (.int .i64 0) 8 Tryd.underlying40 HI.out.1 HI.out.2.1 HI.out.2.2.1 HI.out.2.2.2 rfl v4 (l.take k ++ [10000]) (by rfl) (by exact own4) v2 (l.drop k) (by rfl) (by exact T2.out.keep kb4 (Nat.le_refl _)) HC2.out HC2b.out (by have h4 := bel4.size; have h3 := bel3.size; simp at h3 h4; omega) ?_; intro v5 w5 own5 bel5)
      | fail)
    all_goals
      go_wp2_with fail
      go_meet
      case rel => exact ⟨by have := own5.row.toA; rwa [List.append_assoc] at this, kb4.trans (bel5.mono (by omega))⟩
  case rest =>
    obtain ⟨hr8, hb8⟩ := hcut
    rename World => wx
    have HM := Lib.hid hr8
    have HBX := Lib.hid (HB1.out.trans (hb8.mono HB1.out.size))
    have H2 := Lib.hid (H1.out.keep hb8 (Nat.le_refl _)).isRow
    have U1 := Lib.hid (T1.out.keep hb8 (Nat.le_refl _))
    have U2 := Lib.hid (T2.out.keep hb8 (Nat.le_refl _))
    have CW : Hid (chain (l.take k ++ 10000 :: l.drop k) = chain l) := Lib.hid (by rw [chain_whole, List.take_append_drop])
    clear hr8 hb8 H1 T1 T2 HB1
    by_cases hy0 : y = 0
    · subst hy0
      have CP := chain_parts (l.take k) (l.drop k) (by rw [List.take_append_drop]; exact HX.out.2)
      rw [List.take_append_drop, HX.out.1] at CP
      obtain ⟨cp1, cp2, cp3, cp4⟩ := CP
      obtain ⟨A, hA⟩ : ∃ A, (chain (l.take k)).1 = A := ⟨_, rfl⟩
      obtain ⟨B, hB⟩ : ∃ B, (chain (l.drop k)).1 = B := ⟨_, rfl⟩
      obtain ⟨E, hE⟩ : ∃ E, (chain (l.drop k)).2 = E := ⟨_, rfl⟩
      rw [hA, hB, hE] at cp3
      rw [hE] at cp2
      have CA := Lib.hid (And.intro hA cp1)
      have CB := Lib.hid (And.intro hB hE)
      have CC := Lib.hid cp3
      have CL := Lib.hid cp4
      clear cp1 cp3 cp4 hA hB hE
      go_wp2_with fail
      refine (chain_valA _ _ _ HM.out).mono ?_
      rintro e w' ⟨rfl, rfl⟩
      rw [CW.out, HX.out.1, HX.out.2]
      go_wp2_with fail
      go_loop [64] (fun i => ∃ j : Nat, j ≤ n ∧ i = .int .i64 j) (fun i => n - (intOf i).toNat)
      case atStart => exact ⟨0, Nat.zero_le _, rfl⟩
      case round =>
        obtain ⟨j, hj, rfl⟩ := hrel
        by_cases hlt : j < n
        · obtain ⟨b, o, rfl, hc⟩ := H2.out.cell j hlt
          have hxy : x ≤ l.getD j 0 := by
            have hl := HLEN.out
            rw [getD_at l j (by omega)]
            exact CL.out _ (List.getElem_mem _)
          generalize l.getD j 0 = q at *
          go_wp2
          go_round
          case rel => exact ⟨j + 1, by omega, by go_num⟩
          case measure => simp [intOf]; omega
        · have s1 := S1.out
          have s2 := S2.out
          go_wp2_with fail
          clear s1 s2
          refine (chain_valA _ _ _ U1.out).mono ?_
          rintro e w' ⟨rfl, rfl⟩
          rw [CA.out.1, CA.out.2]
          have s1 := S1.out
          have s2 := S2.out
          go_wp2_with fail
          clear s1 s2
          refine (chain_valA _ _ _ U2.out).mono ?_
          rintro e w' ⟨rfl, rfl⟩
          rw [CB.out.1, CB.out.2]
          rcases cp2 with h0 | h0
          · subst h0
            have CC' := Lib.hid (CC.out rfl)
            go_wp2_with fail
            refine (chain_any _ 2 2 [A, B] _ (rowIs_new wx 3 [A, B] (by unfold maxLen; simp))).mono ?_
            rintro e w' ⟨rfl, rfl⟩
            rw [CC'.out]
            go_wp2
            go_ret
            exact ⟨ret_true (by simp), HBX.out.alloc HBX.out.size _⟩
          · subst h0
            go_wp2
            go_ret
            exact ⟨rfl, HBX.out⟩
    · have h1 : (y != 0) = true := by simpa using hy0
      have h2 : (y == 0) = false := by simpa using hy0
      have hx0 : x = 0 := by
        have := chain_error l (by rw [HX.out.2]; exact hy0)
        rw [← HX.out.1]; exact this
      subst hx0
      clear hy0
      go_wp2_with fail
      refine (chain_valA _ _ _ HM.out).mono ?_
      rintro e w' ⟨rfl, rfl⟩
      rw [CW.out, HX.out.1, HX.out.2]
      go_wp2
      go_ret
      exact ⟨rfl, HBX.out⟩

set_option maxHeartbeats 400000 in
theorem parts_long (p : Option Addr) (n c : Nat) (m : Int) (w : World) (hn : 200 < n) (hm : n ≤ maxLen) (hL : Laid w) :
    Calls Tryd.prog 6 #[.slice p n c, .int .u8 m] w fun e w' => e = .returned (.bool true) ∧ Below w.heap.size w w' := by
  unfold maxLen at hm
  have HL := Lib.hid hL
  clear hL
  go_enter Tryd.func6, Tryd.ntmps6
  go_wp2_with fail
  refine (rateAlive_any _ HL.out).mono ?_
  rintro e w1 ⟨rfl, hb1⟩
  have HB1 := Lib.hid hb1
  clear hb1
  go_wp2
  go_ret
  exact ⟨rfl, HB1.out⟩
theorem rateParts_walk (p : Option Addr) (n c : Nat) (l : List Int) (m : Int) (w : World) (h : RowA .i64 w (.slice p n c) l) (hnc : n ≤ c) (hm : InU8 m) (hL : Laid w) :
    Calls Tryd.prog 6 #[.slice p n c, .int .u8 m] w fun e w' => e = .returned (.bool true) ∧ Below w.heap.size w w' := by
  by_cases hn : 200 < n
  · exact parts_long p n c m w hn h.isRow.max hL
  · have h0 := Int.emod_nonneg m (show (n : Int) + 1 ≠ 0 by omega)
    exact parts_core p n c (m % ((n : Int) + 1)).toNat l m w h hnc (by omega) hm.1 hm.2 (by omega) hL
end Go.Proofs.YtikjjbimokajfaaDoor
