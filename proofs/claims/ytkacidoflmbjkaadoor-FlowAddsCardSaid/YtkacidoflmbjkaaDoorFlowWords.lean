
/- What the listed variable holds, as the walks ask it; the walks of flow.kindOf, flow.Words: what the plain facts say, in new memory; what was there stays. -/
import Derived.Test.YtkacidoflmbjkaaDoorFlowRight
import Derived.Test.YtkacidoflmbjkaaDoorFlowOf
import Derived.Lib.SlicesS
import Derived.RegionTactic
import Derived.Deep.RegionHeld3
namespace Go.Proofs.YtkacidoflmbjkaaDoor.Fl
open Go.RowKit

/-- The kinds' words lie where the program's text lays them. -/
structure Laid (w : World) : Prop where
  g0 : w.cell? ⟨0, 0, none⟩ = some (.string tOpen)
  g1 : w.cell? ⟨0, 1, none⟩ = some (.string tMove)
  g2 : w.cell? ⟨0, 2, none⟩ = some (.string tFx)
  g3 : w.cell? ⟨0, 3, none⟩ = some (.string tScope)
  g4 : w.cell? ⟨0, 4, none⟩ = some (.string tClose)
theorem Laid.below {w w' : World} {B : Nat} (h : Laid w) (hb : Below B w w') (hB : w.heap.size ≤ B) : Laid w' :=
  have lt := Nat.lt_of_lt_of_le (World.block_lt_of_cell? w _ h.g0) hB
  ⟨(hb.cell (p := ⟨_, 0, none⟩) lt).trans h.g0, (hb.cell (p := ⟨_, 1, none⟩) lt).trans h.g1, (hb.cell (p := ⟨_, 2, none⟩) lt).trans h.g2, (hb.cell (p := ⟨_, 3, none⟩) lt).trans h.g3, (hb.cell (p := ⟨_, 4, none⟩) lt).trans h.g4⟩
theorem Laid.drew {w : World} (h : Laid w) : Laid w.drew := ⟨h.g0, h.g1, h.g2, h.g3, h.g4⟩
theorem Laid.drewN {w : World} (h : Laid w) (q : Nat) : Laid (w.drewN q) := ⟨h.g0, h.g1, h.g2, h.g3, h.g4⟩
theorem at_arr0 (w : World) : (Instr.index 55 (.agg #[.string tOpen, .string tMove, .string tFx, .string tScope, .string tClose]) (.int .i64 0)).run Tryd.prog w = .ok (.string tOpen) w := by kernel_rfl
theorem at_arr1 (w : World) : (Instr.index 55 (.agg #[.string tOpen, .string tMove, .string tFx, .string tScope, .string tClose]) (.int .i64 1)).run Tryd.prog w = .ok (.string tMove) w := by kernel_rfl
theorem at_arr2 (w : World) : (Instr.index 55 (.agg #[.string tOpen, .string tMove, .string tFx, .string tScope, .string tClose]) (.int .i64 2)).run Tryd.prog w = .ok (.string tFx) w := by kernel_rfl
theorem at_arr3 (w : World) : (Instr.index 55 (.agg #[.string tOpen, .string tMove, .string tFx, .string tScope, .string tClose]) (.int .i64 3)).run Tryd.prog w = .ok (.string tScope) w := by kernel_rfl
theorem at_arr4 (w : World) : (Instr.index 55 (.agg #[.string tOpen, .string tMove, .string tFx, .string tScope, .string tClose]) (.int .i64 4)).run Tryd.prog w = .ok (.string tClose) w := by kernel_rfl
theorem ret_int {a b : Int} (h : a = b) : Ending.returned (.int .i64 a) = .returned (.int .i64 b) := by rw [h]
theorem kindO_no {s : ByteArray} (h0 : tOpen ≠ s) (h1 : tMove ≠ s) (h2 : tFx ≠ s) (h3 : tScope ≠ s) (h4 : tClose ≠ s) : kindO s = -1 := by
  unfold kindO
  rw [if_neg (fun e => h0 e.symm), if_neg (fun e => h1 e.symm), if_neg (fun e => h2 e.symm), if_neg (fun e => h3 e.symm), if_neg (fun e => h4 e.symm)]
set_option maxRecDepth 100000 in
set_option maxHeartbeats 4000000 in
theorem kindOf_any (s : ByteArray) (w : World) (hL : Laid w) :
    Calls Tryd.prog 24 #[.string s] w fun e w' => e = .returned (.int .i64 (kindO s)) ∧ w = w' := by
  obtain ⟨g0, g1, g2, g3, g4⟩ := hL
  obtain ⟨r, hr⟩ : ∃ r, kindO s = r := ⟨_, rfl⟩
  rw [hr]
  have HR := Lib.hid hr
  clear hr
  obtain ⟨A, hA⟩ : ∃ A, tOpen = A := ⟨_, rfl⟩
  obtain ⟨B, hB⟩ : ∃ B, tMove = B := ⟨_, rfl⟩
  obtain ⟨C, hC⟩ : ∃ C, tFx = C := ⟨_, rfl⟩
  obtain ⟨D, hD⟩ : ∃ D, tScope = D := ⟨_, rfl⟩
  obtain ⟨E, hE⟩ : ∃ E, tClose = E := ⟨_, rfl⟩
  have i0 := at_arr0
  have i1 := at_arr1
  have i2 := at_arr2
  have i3 := at_arr3
  have i4 := at_arr4
  rw [hA] at g0
  rw [hB] at g1
  rw [hC] at g2
  rw [hD] at g3
  rw [hE] at g4
  rw [hA, hB, hC, hD, hE] at i0 i1 i2 i3 i4
  have HA := Lib.hid hA
  have HBB := Lib.hid hB
  have HCC := Lib.hid hC
  have HDD := Lib.hid hD
  have HEE := Lib.hid hE
  clear hA hB hC hD hE
  cases hs0 : (A.toList == s.toList) with
  | true =>
    have HS := Lib.hid ((Lib.bytes_beq_iff A s).1 hs0)
    go_enter Tryd.func24, Tryd.ntmps24
    go_wp2
    refine wp_loop_rounds 1 ?_
    rw [rounds_succ]
    go_wp2
    go_ret
    exact ⟨ret_int (by rw [← HR.out, ← HS.out, ← HA.out]; decide), rfl⟩
  | false =>
    have HS := Lib.hid ((Lib.bytes_beq_false_iff A s).1 hs0)
    cases hs1 : (B.toList == s.toList) with
    | true =>
      have HS1 := Lib.hid ((Lib.bytes_beq_iff B s).1 hs1)
      go_enter Tryd.func24, Tryd.ntmps24
      go_wp2
      refine wp_loop_rounds 2 ?_
      rw [rounds_succ]
      go_wp2
      rw [rounds_succ]
      go_wp2
      go_ret
      exact ⟨ret_int (by rw [← HR.out, ← HS1.out, ← HBB.out]; decide), rfl⟩
    | false =>
      have HS1 := Lib.hid ((Lib.bytes_beq_false_iff B s).1 hs1)
      cases hs2 : (C.toList == s.toList) with
      | true =>
        have HS2 := Lib.hid ((Lib.bytes_beq_iff C s).1 hs2)
        go_enter Tryd.func24, Tryd.ntmps24
        go_wp2
        refine wp_loop_rounds 3 ?_
        rw [rounds_succ]
        go_wp2
        rw [rounds_succ]
        go_wp2
        rw [rounds_succ]
        go_wp2
        go_ret
        exact ⟨ret_int (by rw [← HR.out, ← HS2.out, ← HCC.out]; decide), rfl⟩
      | false =>
        have HS2 := Lib.hid ((Lib.bytes_beq_false_iff C s).1 hs2)
        cases hs3 : (D.toList == s.toList) with
        | true =>
          have HS3 := Lib.hid ((Lib.bytes_beq_iff D s).1 hs3)
          go_enter Tryd.func24, Tryd.ntmps24
          go_wp2
          refine wp_loop_rounds 4 ?_
          rw [rounds_succ]
          go_wp2
          rw [rounds_succ]
          go_wp2
          rw [rounds_succ]
          go_wp2
          rw [rounds_succ]
          go_wp2
          go_ret
          exact ⟨ret_int (by rw [← HR.out, ← HS3.out, ← HDD.out]; decide), rfl⟩
        | false =>
          have HS3 := Lib.hid ((Lib.bytes_beq_false_iff D s).1 hs3)
          cases hs4 : (E.toList == s.toList) with
          | true =>
            have HS4 := Lib.hid ((Lib.bytes_beq_iff E s).1 hs4)
            go_enter Tryd.func24, Tryd.ntmps24
            go_wp2
            refine wp_loop_rounds 5 ?_
            rw [rounds_succ]
            go_wp2
            rw [rounds_succ]
            go_wp2
            rw [rounds_succ]
            go_wp2
            rw [rounds_succ]
            go_wp2
            rw [rounds_succ]
            go_wp2
            go_ret
            exact ⟨ret_int (by rw [← HR.out, ← HS4.out, ← HEE.out]; decide), rfl⟩
          | false =>
            have HS4 := Lib.hid ((Lib.bytes_beq_false_iff E s).1 hs4)
            have hres : Hid (r = -1) := Lib.hid (by
              rw [← HR.out]
              exact kindO_no (by rw [HA.out]; exact HS.out) (by rw [HBB.out]; exact HS1.out) (by rw [HCC.out]; exact HS2.out) (by rw [HDD.out]; exact HS3.out) (by rw [HEE.out]; exact HS4.out))
            go_enter Tryd.func24, Tryd.ntmps24
            go_wp2
            refine wp_loop_rounds 6 ?_
            rw [rounds_succ]
            go_wp2
            rw [rounds_succ]
            go_wp2
            rw [rounds_succ]
            go_wp2
            rw [rounds_succ]
            go_wp2
            rw [rounds_succ]
            go_wp2
            rw [rounds_succ]
            go_wp2
            go_ret
            exact ⟨ret_int hres.out.symm, rfl⟩
/-- Three texts that were just laid. -/
theorem strs_three (w : World) (x y z : ByteArray) (t : TypeId) : StrsV (w.alloc (.cells #[.string x, .string y, .string z] t)) (.slice (some ⟨w.heap.size, 0, none⟩) 3 3) [x, y, z] :=
  strs_new w [x, y, z] t (by show 3 ≤ _; unfold maxLen; omega)
theorem below_drewN' {B : Nat} {a w : World} (h : Below B a w) (n : Nat) : Below B a (w.drewN n) := ⟨h.os, h.tape, h.output, h.size, h.block⟩
theorem below_drew' {B : Nat} {a w : World} (h : Below B a w) : Below B a w.drew := ⟨h.os, h.tape, h.output, h.size, h.block⟩
set_option maxRecDepth 100000 in
set_option maxHeartbeats 4000000 in
theorem words_any (f : Flow) (w : World) (hL : Laid w) : Calls Tryd.prog 14 #[aggL f] w (StrsTold w (wordsF f)) := by
  have HR := Lib.hid (right_any f)
  have HB := Lib.hid ((Below.refl w.heap.size w).alloc (Nat.le_refl _) (.cells #[.string f.code, .int .i64 f.kind] 28))
  have HX0 := Lib.hid (BoxE.new encF w f 28)
  have HL0 := Lib.hid (hL.below HB.out (Nat.le_refl _))
  clear hL
  cases h : rightF f with
  | false =>
    rw [h] at HR
    rw [words_nil h]
    clear h
    go_enter Tryd.func14, Tryd.ntmps14
    go_wp2_with fail
    refine (HR.out _).mono ?_
    rintro e w1 ⟨rfl, hb1⟩
    have HB1 := Lib.hid hb1
    clear hb1
    go_wp2
    go_ret
    exact ⟨_, rfl, StrsV.nil _, HB.out.trans (HB1.out.mono HB.out.size)⟩
  | true =>
    rw [h] at HR
    rw [words_of h]
    obtain ⟨co, k⟩ := f
    have hk := (right_parts h).2
    clear h
    simp only at HR HB HX0 HL0 hk ⊢
    rcases hk with rfl | rfl | rfl | rfl | rfl
    all_goals
      go_enter Tryd.func14, Tryd.ntmps14
      go_wp2_with fail
      refine (HR.out _).mono ?_
      rintro e w1 ⟨rfl, hb1⟩
      have HB1 := Lib.hid (HB.out.trans (hb1.mono HB.out.size))
      have hlt : w.heap.size < w1.heap.size := by have := hb1.size; simp at this; omega
      obtain ⟨g0, g1, g2, g3, g4⟩ := HL0.out.below hb1 (Nat.le_refl _)
      obtain ⟨c0, c1⟩ := box (HX0.out.keep hb1 (by simp))
      simp only at c0 c1
      clear hb1
      go_wp2
      go_region
      clear g0 g1 g2 g3 g4
      go_wp2
      go_ret
      exact ⟨_, rfl, strs_three w1 tFlow _ _ _, below_drewN' (HB1.out.alloc HB1.out.size _) 1⟩
end Go.Proofs.YtkacidoflmbjkaaDoor.Fl
