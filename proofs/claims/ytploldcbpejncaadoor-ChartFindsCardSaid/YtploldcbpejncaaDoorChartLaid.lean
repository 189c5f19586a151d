
/- What the listed variable holds, as the walks ask it; the walks of chart.classOf and chart.marked. -/
import Derived.Test.YtploldcbpejncaaDoorChartBelow
namespace Go.Proofs.YtploldcbpejncaaDoor
open Go.RowKit

/-- The classes' words lie where the program's text lays them. -/
structure Laid (w : World) : Prop where
  g0 : w.cell? ⟨0, 0, none⟩ = some (.string tAsset)
  g1 : w.cell? ⟨0, 1, none⟩ = some (.string tLiability)
  g2 : w.cell? ⟨0, 2, none⟩ = some (.string tEquity)
theorem Laid.below {w w' : World} {B : Nat} (h : Laid w) (hb : Below B w w') (hB : w.heap.size ≤ B) : Laid w' :=
  have lt := Nat.lt_of_lt_of_le (World.block_lt_of_cell? w _ h.g0) hB
  ⟨(hb.cell (p := ⟨_, 0, none⟩) lt).trans h.g0, (hb.cell (p := ⟨_, 1, none⟩) lt).trans h.g1, (hb.cell (p := ⟨_, 2, none⟩) lt).trans h.g2⟩
theorem at_arr0 (w : World) : (Instr.index 58 (.agg #[.string tAsset, .string tLiability, .string tEquity]) (.int .i64 0)).run Tryd.prog w = .ok (.string tAsset) w := by kernel_rfl
theorem at_arr1 (w : World) : (Instr.index 58 (.agg #[.string tAsset, .string tLiability, .string tEquity]) (.int .i64 1)).run Tryd.prog w = .ok (.string tLiability) w := by kernel_rfl
theorem at_arr2 (w : World) : (Instr.index 58 (.agg #[.string tAsset, .string tLiability, .string tEquity]) (.int .i64 2)).run Tryd.prog w = .ok (.string tEquity) w := by kernel_rfl
theorem beqS (x y : ByteArray) : (x.toList == y.toList) = decide (x = y) := by
  cases h : (x.toList == y.toList) with
  | true => rw [decide_eq_true ((Lib.bytes_beq_iff x y).1 h)]
  | false => rw [decide_eq_false ((Lib.bytes_beq_false_iff x y).1 h)]

set_option maxRecDepth 100000 in
set_option maxHeartbeats 2000000 in
theorem classOf_any (s : ByteArray) (w : World) (hL : Laid w) :
    Calls Tryd.prog 24 #[.string s] w fun e w' => e = .returned (.int .i64 (clsOf s)) ∧ w = w' := by
  obtain ⟨g0, g1, g2⟩ := hL
  obtain ⟨r, hr⟩ : ∃ r, clsOf s = r := ⟨_, rfl⟩
  rw [hr]
  have HR := Lib.hid hr
  clear hr
  obtain ⟨A, hA⟩ : ∃ A, tAsset = A := ⟨_, rfl⟩
  obtain ⟨B, hB⟩ : ∃ B, tLiability = B := ⟨_, rfl⟩
  obtain ⟨C, hC⟩ : ∃ C, tEquity = C := ⟨_, rfl⟩
  have i0 := at_arr0
  have i1 := at_arr1
  have i2 := at_arr2
  rw [hA] at g0 i0 i1 i2
  rw [hB] at g1 i0 i1 i2
  rw [hC] at g2 i0 i1 i2
  have HA := Lib.hid hA
  have HBB := Lib.hid hB
  have HCC := Lib.hid hC
  clear hA hB hC
  cases hs0 : (A.toList == s.toList) with
  | true =>
    have HS := Lib.hid ((Lib.bytes_beq_iff A s).1 hs0)
    go_enter Tryd.func24, Tryd.ntmps24
    go_wp2
    refine wp_loop_rounds 1 ?_
    rw [rounds_succ]
    go_wp2
    go_ret
    exact ⟨ret_num (by rw [← HR.out, ← HS.out, ← HA.out]; decide), rfl⟩
  | false =>
    have HS := Lib.hid ((Lib.bytes_beq_false_iff A s).1 hs0)
    cases hs1 : (B.toList == s.toList) with
    | true =>
      have HS1 := Lib.hid ((Lib.bytes_beq_iff B s).1 hs1)
      go_enter Tryd.func24, Tryd.ntmps24
      go_wp2
      refine wp_loop_rounds 2 ?_
      rw [rounds_succ]
      go_wp2
      rw [rounds_succ]
      go_wp2
      go_ret
      exact ⟨ret_num (by rw [← HR.out, ← HS1.out, ← HBB.out]; decide), rfl⟩
    | false =>
      have HS1 := Lib.hid ((Lib.bytes_beq_false_iff B s).1 hs1)
      cases hs2 : (C.toList == s.toList) with
      | true =>
        have HS2 := Lib.hid ((Lib.bytes_beq_iff C s).1 hs2)
        go_enter Tryd.func24, Tryd.ntmps24
        go_wp2
        refine wp_loop_rounds 3 ?_
        rw [rounds_succ]
        go_wp2
        rw [rounds_succ]
        go_wp2
        rw [rounds_succ]
        go_wp2
        go_ret
        exact ⟨ret_num (by rw [← HR.out, ← HS2.out, ← HCC.out]; decide), rfl⟩
      | false =>
        have HS2 := Lib.hid ((Lib.bytes_beq_false_iff C s).1 hs2)
        have hres : Hid (r = -1) := Lib.hid (by
          rw [← HR.out]
          have a0 : s ≠ tAsset := by rw [HA.out]; exact fun e => HS.out e.symm
          have a1 : s ≠ tLiability := by rw [HBB.out]; exact fun e => HS1.out e.symm
          have a2 : s ≠ tEquity := by rw [HCC.out]; exact fun e => HS2.out e.symm
          unfold clsOf
          rw [if_neg a0, if_neg a1, if_neg a2])
        go_enter Tryd.func24, Tryd.ntmps24
        go_wp2
        refine wp_loop_rounds 4 ?_
        rw [rounds_succ]
        go_wp2
        rw [rounds_succ]
        go_wp2
        rw [rounds_succ]
        go_wp2
        rw [rounds_succ]
        go_wp2
        go_ret
        exact ⟨ret_num hres.out.symm, rfl⟩
end Go.Proofs.YtploldcbpejncaaDoor
