/- ChartLaid; ChartMarked; ChartWords; ChartWordsSame: texts put together (each begins with what it is). -/
import Derived.Test.YticdmlijacnjbaaGreatDoorM10
import Derived.Test.YticdmlijacnjbaaGreatDoorM07
import Derived.Test.YticdmlijacnjbaaGreatDoorM11
import Derived.RegionTactic
import Derived.OwnWalk
import Derived.Test.YticdmlijacnjbaaGreatDoorM03
import Derived.Test.YticdmlijacnjbaaGreatDoorM01
import Derived.Test.YticdmlijacnjbaaGreatDoorProg
import Derived.WalkKit
import Derived.WalkSpells
import Derived.Lib.Hide
import Derived.Lib.SlicesS
import Derived.BigQuiet
import Derived.Deep.QuietTactic
import Derived.LoopTactic
import Derived.Deep.LoopGhost
/- What the listed variable holds, as the walks ask it; the walks of chart.classOf and chart.marked. -/
namespace Go.Proofs.YticdmlijacnjbaaGreatDoor
open Go.RowKit

/-- The classes' words lie where the program's text lays them. -/
structure Laid (w : World) : Prop where
  g0 : w.cell? ⟨0, 0, none⟩ = some (.string tAsset)
  g1 : w.cell? ⟨0, 1, none⟩ = some (.string tLiability)
  g2 : w.cell? ⟨0, 2, none⟩ = some (.string tEquity)
theorem Laid.below {w w' : World} {B : Nat} (h : Laid w) (hb : Below B w w') (hB : w.heap.size ≤ B) : Laid w' :=
  have lt := Nat.lt_of_lt_of_le (World.block_lt_of_cell? w _ h.g0) hB
  ⟨(hb.cell (p := ⟨_, 0, none⟩) lt).trans h.g0, (hb.cell (p := ⟨_, 1, none⟩) lt).trans h.g1, (hb.cell (p := ⟨_, 2, none⟩) lt).trans h.g2⟩
theorem at_arr0 (w : World) : (Instr.index 129 (.agg #[.string tAsset, .string tLiability, .string tEquity]) (.int .i64 0)).run Tryz.prog w = .ok (.string tAsset) w := by kernel_rfl
theorem at_arr1 (w : World) : (Instr.index 129 (.agg #[.string tAsset, .string tLiability, .string tEquity]) (.int .i64 1)).run Tryz.prog w = .ok (.string tLiability) w := by kernel_rfl
theorem at_arr2 (w : World) : (Instr.index 129 (.agg #[.string tAsset, .string tLiability, .string tEquity]) (.int .i64 2)).run Tryz.prog w = .ok (.string tEquity) w := by kernel_rfl
theorem beqS (x y : ByteArray) : (x.toList == y.toList) = decide (x = y) := by
  cases h : (x.toList == y.toList) with
  | true => rw [decide_eq_true ((Lib.bytes_beq_iff x y).1 h)]
  | false => rw [decide_eq_false ((Lib.bytes_beq_false_iff x y).1 h)]

set_option maxRecDepth 100000 in
set_option maxHeartbeats 2000000 in
theorem classOf_any (s : ByteArray) (w : World) (hL : Laid w) :
    Calls Tryz.prog 101 #[.string s] w fun e w' => e = .returned (.int .i64 (clsOf s)) ∧ w = w' := by
  obtain ⟨g0, g1, g2⟩ := hL
  obtain ⟨r, hr⟩ : ∃ r, clsOf s = r := ⟨_, rfl⟩
  rw [hr]
  have HR := Lib.hid hr
  clear hr
  obtain ⟨A, hA⟩ : ∃ A, tAsset = A := ⟨_, rfl⟩
  obtain ⟨B, hB⟩ : ∃ B, tLiability = B := ⟨_, rfl⟩
  obtain ⟨C, hC⟩ : ∃ C, tEquity = C := ⟨_, rfl⟩
  have i0 := at_arr0
  have i1 := at_arr1
  have i2 := at_arr2
  rw [hA] at g0 i0 i1 i2
  rw [hB] at g1 i0 i1 i2
  rw [hC] at g2 i0 i1 i2
  have HA := Lib.hid hA
  have HBB := Lib.hid hB
  have HCC := Lib.hid hC
  clear hA hB hC
  cases hs0 : (A.toList == s.toList) with
  | true =>
    have HS := Lib.hid ((Lib.bytes_beq_iff A s).1 hs0)
    go_enter Tryz.func101, Tryz.ntmps101
    go_wp2
    refine wp_loop_rounds 1 ?_
    rw [rounds_succ]
    go_wp2
    go_ret
    exact ⟨ret_num (by rw [← HR.out, ← HS.out, ← HA.out]; decide), rfl⟩
  | false =>
    have HS := Lib.hid ((Lib.bytes_beq_false_iff A s).1 hs0)
    cases hs1 : (B.toList == s.toList) with
    | true =>
      have HS1 := Lib.hid ((Lib.bytes_beq_iff B s).1 hs1)
      go_enter Tryz.func101, Tryz.ntmps101
      go_wp2
      refine wp_loop_rounds 2 ?_
      rw [rounds_succ]
      go_wp2
      rw [rounds_succ]
      go_wp2
      go_ret
      exact ⟨ret_num (by rw [← HR.out, ← HS1.out, ← HBB.out]; decide), rfl⟩
    | false =>
      have HS1 := Lib.hid ((Lib.bytes_beq_false_iff B s).1 hs1)
      cases hs2 : (C.toList == s.toList) with
      | true =>
        have HS2 := Lib.hid ((Lib.bytes_beq_iff C s).1 hs2)
        go_enter Tryz.func101, Tryz.ntmps101
        go_wp2
        refine wp_loop_rounds 3 ?_
        rw [rounds_succ]
        go_wp2
        rw [rounds_succ]
        go_wp2
        rw [rounds_succ]
        go_wp2
        go_ret
        exact ⟨ret_num (by rw [← HR.out, ← HS2.out, ← HCC.out]; decide), rfl⟩
      | false =>
        have HS2 := Lib.hid ((Lib.bytes_beq_false_iff C s).1 hs2)
        have hres : Hid (r = -1) := Lib.hid (by
          rw [← HR.out]
          have a0 : s ≠ tAsset := by rw [HA.out]; exact fun e => HS.out e.symm
          have a1 : s ≠ tLiability := by rw [HBB.out]; exact fun e => HS1.out e.symm
          have a2 : s ≠ tEquity := by rw [HCC.out]; exact fun e => HS2.out e.symm
          unfold clsOf
          rw [if_neg a0, if_neg a1, if_neg a2])
        go_enter Tryz.func101, Tryz.ntmps101
        go_wp2
        refine wp_loop_rounds 4 ?_
        rw [rounds_succ]
        go_wp2
        rw [rounds_succ]
        go_wp2
        rw [rounds_succ]
        go_wp2
        rw [rounds_succ]
        go_wp2
        go_ret
        exact ⟨ret_num hres.out.symm, rfl⟩
end Go.Proofs.YticdmlijacnjbaaGreatDoor
/- The walk of chart.marked: what the plain facts say; what was there stays. -/
namespace Go.Proofs.YticdmlijacnjbaaGreatDoor
open Go.RowKit

theorem list_cash : tCash.toList = [99, 97, 115, 104] := by rw [ByteArray.toList_eq]; rfl
theorem list_both : tMutual.toList = [109, 117, 116, 117, 97, 108] := by rw [ByteArray.toList_eq]; rfl
theorem list_worn : tWorn.toList = [119, 111, 114, 110] := by rw [ByteArray.toList_eq]; rfl
theorem beq_cash (x : ByteArray) : (x.toList == [99, 97, 115, 104]) = decide (x = tCash) := by rw [← list_cash, beqS]
theorem beq_both (x : ByteArray) : (x.toList == [109, 117, 116, 117, 97, 108]) = decide (x = tMutual) := by rw [← list_both, beqS]
theorem beq_worn (x : ByteArray) : (x.toList == [119, 111, 114, 110]) = decide (x = tWorn) := by rw [← list_worn, beqS]
set_option maxRecDepth 100000 in
set_option maxHeartbeats 2000000 in
theorem marked_any (a : Acct) (v : Value) (ws : List ByteArray) (w : World) (h : StrsV w v ws) :
    Calls Tryz.prog 100 #[aggF a, v] w fun e w' => e = .returned (aggF (markedA a ws)) ∧ Below w.heap.size w w' := by
  obtain ⟨p, c, rfl, _, hm, hc⟩ := h
  obtain ⟨r, hr⟩ : ∃ r, markedA a ws = r := ⟨_, rfl⟩
  rw [hr]
  have HR := Lib.hid hr
  clear hr
  unfold maxLen at hm
  have hc0 := hc
  clear hc
  match ws, hc0, hm, HR with
  | [], hc, hm, HR =>
    clear hc0 hc
    go_enter Tryz.func100, Tryz.ntmps100
    go_wp2
    refine bodyPost_ret (v := .agg #[.string a.code, .int .i64 a.cls, .bool a.cash, .bool a.both, .string a.fixed, .bool a.worn]) (by simp [results, Tryz.results100, go_sem]) rfl ⟨?_, ((Below.refl _ _).alloc (Nat.le_refl _) _).alloc (by simp) _⟩
    rw [← HR.out]; rfl
  | [x], hc, hm, HR =>
    obtain ⟨b, o, rfl, d0⟩ := hc 0 x rfl
    have d : w.cell? ⟨b, o, none⟩ = some (.string x) := d0
    clear d0
    clear hc0 hc
    have hlt := World.block_lt_of_cell? w _ d
    go_enter Tryz.func100, Tryz.ntmps100
    go_wp2
    refine bodyPost_ret (v := .agg #[.string a.code, .int .i64 a.cls, .bool (x.toList == [99, 97, 115, 104]), .bool (x.toList == [109, 117, 116, 117, 97, 108]), .string a.fixed, .bool a.worn]) (by simp [results, Tryz.results100, go_sem]) rfl ⟨?_, ((Below.refl _ _).alloc (Nat.le_refl _) _).alloc (by simp) _⟩
    rw [← HR.out, beq_cash, beq_both]; rfl
  | [x, y], hc, hm, HR =>
    obtain ⟨b, o, rfl, d0⟩ := hc 0 x rfl
    have d : w.cell? ⟨b, o, none⟩ = some (.string x) := d0
    clear d0
    obtain ⟨b', o', e', d'⟩ := hc 1 y rfl
    cases e'
    have d2 : w.cell? ⟨b, o + 1, none⟩ = some (.string y) := d'
    clear d'
    clear hc0 hc
    have hlt := World.block_lt_of_cell? w _ d
    go_enter Tryz.func100, Tryz.ntmps100
    go_wp2
    refine bodyPost_ret (v := .agg #[.string a.code, .int .i64 a.cls, .bool a.cash, .bool a.both, .string y, .bool (x.toList == [119, 111, 114, 110])]) (by simp [results, Tryz.results100, go_sem]) rfl ⟨?_, ((Below.refl _ _).alloc (Nat.le_refl _) _).alloc (by simp) _⟩
    rw [← HR.out, beq_worn]; rfl
  | x :: y :: z :: l, hc, hm, HR =>
    clear hc0 hc
    have h1 : ¬ ((l.length : Int) + 1 + 1 + 1 = 1) := by omega
    go_enter Tryz.func100, Tryz.ntmps100
    go_wp2
    refine bodyPost_ret (v := .agg #[.string a.code, .int .i64 a.cls, .bool a.cash, .bool a.both, .string a.fixed, .bool a.worn]) (by simp [results, Tryz.results100, go_sem]) rfl ⟨?_, ((Below.refl _ _).alloc (Nat.le_refl _) _).alloc (by simp) _⟩
    rw [← HR.out]; rfl
end Go.Proofs.YticdmlijacnjbaaGreatDoor
/- The walk of chart.Words: the words that the plain facts say, in new memory; what was there stays. -/
namespace Go.Proofs.YticdmlijacnjbaaGreatDoor
open Go.RowKit

theorem info_str : (Tryz.prog.info? 9).map (fun i => (i.zero, i.size, i.bytes)) = some (some (.string ⟨#[]⟩), 1, 16) := by kernel_rfl
/-- What Words tells. -/
def WordsTold (w : World) (ws : List ByteArray) (e : Ending) (w' : World) : Prop := ∃ v, e = .returned v ∧ StrsV w' v ws ∧ Below w.heap.size w w'
set_option maxRecDepth 100000 in
set_option maxHeartbeats 4000000 in
theorem words_no (a : Acct) (w : World) (h : rightA a = false) : Calls Tryz.prog 34 #[aggF a] w (WordsTold w (wordsA a)) := by
  have HR := Lib.hid (right_any a)
  rw [h] at HR
  rw [words_nil h]
  have HB := Lib.hid ((Below.refl w.heap.size w).alloc (Nat.le_refl _) (.cells #[.string a.code, .int .i64 a.cls, .bool a.cash, .bool a.both, .string a.fixed, .bool a.worn] 89))
  clear h
  go_enter Tryz.func34, Tryz.ntmps34
  go_wp2_with fail
  refine (HR.out _).mono ?_
  rintro e w1 ⟨rfl, hb1⟩
  have HB1 := Lib.hid hb1
  clear hb1
  go_wp2
  go_ret
  exact ⟨_, rfl, StrsV.nil _, HB.out.trans (HB1.out.mono HB.out.size)⟩
theorem own_three (w : World) (x y z : ByteArray) (t : TypeId) : (w.alloc (.cells #[.string x, .string y, .string z] t)).ownsRow w.heap.size t 1 (.slice (some ⟨w.heap.size, 0, none⟩) 3 3) 3 ([x, y, z].map Value.string) :=
  ⟨rfl, .inr ⟨w.heap.size, 3, _, rfl, Nat.le_refl _, heap_alloc_new w _, Nat.le_refl _, by unfold maxLen; omega, rfl, rfl⟩⟩
set_option maxRecDepth 100000 in
set_option maxHeartbeats 4000000 in
theorem words_plain (co : ByteArray) (cl : Int) (w : World) (hL : Laid w) (h : rightA ⟨co, cl, false, false, ⟨#[]⟩, false⟩ = true) : Calls Tryz.prog 34 #[aggF ⟨co, cl, false, false, ⟨#[]⟩, false⟩] w (WordsTold w (wordsA ⟨co, cl, false, false, ⟨#[]⟩, false⟩)) := by
  have HR := Lib.hid (right_any ⟨co, cl, false, false, ⟨#[]⟩, false⟩)
  rw [h] at HR
  have hcl := (right_parts h).2.1
  simp only at hcl
  have HW : Hid (wordsA ⟨co, cl, false, false, ⟨#[]⟩, false⟩ = [tAccount, co, clsW cl]) := Lib.hid (by unfold wordsA; rw [if_pos h]; simp [markW, neB_empty])
  rw [HW.out]
  obtain ⟨i0, hi, hz0, hz1, hz2⟩ := info_parts info_str
  have HI := Lib.hid (And.intro hi (And.intro hz0 (And.intro hz1 hz2)))
  clear h HW hi hz0 hz1 hz2
  have HB := Lib.hid ((Below.refl w.heap.size w).alloc (Nat.le_refl _) (.cells #[.string co, .int .i64 cl, .bool false, .bool false, .string ⟨#[]⟩, .bool false] 89))
  have HL0 := Lib.hid (hL.below HB.out (Nat.le_refl _))
  have HX0 := Lib.hid (BoxA.new w ⟨co, cl, false, false, ⟨#[]⟩, false⟩ 89)
  clear hL
  rcases hcl with rfl | rfl | rfl
  all_goals
    go_enter Tryz.func34, Tryz.ntmps34
    go_wp2_with fail
    refine (HR.out _).mono ?_
    rintro e w1 ⟨rfl, hb1⟩
    have HB1 := Lib.hid (HB.out.trans (hb1.mono HB.out.size))
    have hlt : w.heap.size < w1.heap.size := by have := hb1.size; simp at this; omega
    obtain ⟨g0, g1, g2⟩ := HL0.out.below hb1 (Nat.le_refl _)
    obtain ⟨c0, c1, c2, c3, c4, c5⟩ := (HX0.out.keep hb1 (by simp)).facts
    simp only at c0 c1 c2 c3 c4 c5
    clear hb1
    go_wp2
    go_region
    clear g0 g1 g2
    go_wp2
    go_ret
    exact ⟨_, rfl, strs_of_own (own_three w1 tAccount _ _ _), below_drewN (HB1.out.alloc HB1.out.size _) 1⟩
set_option maxRecDepth 100000 in
set_option maxHeartbeats 4000000 in
theorem words_cash (co : ByteArray) (w : World) (hL : Laid w) (h : rightA ⟨co, 0, true, false, ⟨#[]⟩, false⟩ = true) : Calls Tryz.prog 34 #[aggF ⟨co, 0, true, false, ⟨#[]⟩, false⟩] w (WordsTold w (wordsA ⟨co, 0, true, false, ⟨#[]⟩, false⟩)) := by
  have HR := Lib.hid (right_any ⟨co, 0, true, false, ⟨#[]⟩, false⟩)
  rw [h] at HR
  have HW : Hid (wordsA ⟨co, 0, true, false, ⟨#[]⟩, false⟩ = [tAccount, co, tAsset, tCash]) := Lib.hid (by unfold wordsA; rw [if_pos h]; simp [markW, clsW])
  rw [HW.out]
  obtain ⟨i0, hi, hz0, hz1, hz2⟩ := info_parts info_str
  have HI := Lib.hid (And.intro hi (And.intro hz0 (And.intro hz1 hz2)))
  clear h HW hi hz0 hz1 hz2
  have HB := Lib.hid ((Below.refl w.heap.size w).alloc (Nat.le_refl _) (.cells #[.string co, .int .i64 0, .bool true, .bool false, .string ⟨#[]⟩, .bool false] 89))
  have HL0 := Lib.hid (hL.below HB.out (Nat.le_refl _))
  have HX0 := Lib.hid (BoxA.new w ⟨co, 0, true, false, ⟨#[]⟩, false⟩ 89)
  clear hL
  go_enter Tryz.func34, Tryz.ntmps34
  go_wp2_with fail
  refine (HR.out _).mono ?_
  rintro e w1 ⟨rfl, hb1⟩
  have HB1 := Lib.hid (HB.out.trans (hb1.mono HB.out.size))
  have hlt : w.heap.size < w1.heap.size := by have := hb1.size; simp at this; omega
  obtain ⟨g0, g1, g2⟩ := HL0.out.below hb1 (Nat.le_refl _)
  obtain ⟨c0, c1, c2, c3, c4, c5⟩ := (HX0.out.keep hb1 (by simp)).facts
  simp only at c0 c1 c2 c3 c4 c5
  clear hb1
  go_wp2
  go_region
  clear g0 g1 g2
  go_wp2_with (at_builtin; refine wpList_append_own _ rfl _ _ 58 rfl w1.heap.size 9 i0 (.string ⟨#[]⟩) 1 16 Tryz.underlying58 HI.out.1 HI.out.2.1 HI.out.2.2.1 HI.out.2.2.2 rfl (by decide) _ 3 _ rfl ((own_three w1 tAccount _ _ _).alloc _) ⟨w1.heap.size + 1, 0, none⟩ 1 1 [.string tCash] rfl rfl (new_cells2 w1 _ [.string tCash] _) (by intro u hu; simp at hu; rcases hu with rfl <;> rfl) (by unfold maxLen; omega) (by omega) (by simp; omega) ?_; intro v' w2 hown' hgrow _)
  have HF := Lib.hid (below_grown (below_drewN ((HB1.out.alloc HB1.out.size _).alloc (by have := HB1.out.size; simp; omega) _) 1) (by have := HB1.out.size; simp; omega) (row_base ((own_three w1 tAccount _ _ _).alloc _) HB1.out.size) hgrow)
  go_wp2
  go_ret
  exact ⟨_, rfl, strs_of_own (ws := [tAccount, co, tAsset, tCash]) hown', HF.out⟩
set_option maxRecDepth 100000 in
set_option maxHeartbeats 4000000 in
theorem words_both (co : ByteArray) (cl : Int) (w : World) (hL : Laid w) (h : rightA ⟨co, cl, false, true, ⟨#[]⟩, false⟩ = true) (h2 : cl ≠ 2) : Calls Tryz.prog 34 #[aggF ⟨co, cl, false, true, ⟨#[]⟩, false⟩] w (WordsTold w (wordsA ⟨co, cl, false, true, ⟨#[]⟩, false⟩)) := by
  have HR := Lib.hid (right_any ⟨co, cl, false, true, ⟨#[]⟩, false⟩)
  rw [h] at HR
  have hcl := (right_parts h).2.1
  simp only at hcl
  have HW : Hid (wordsA ⟨co, cl, false, true, ⟨#[]⟩, false⟩ = [tAccount, co, clsW cl, tMutual]) := Lib.hid (by unfold wordsA; rw [if_pos h]; simp [markW])
  rw [HW.out]
  obtain ⟨i0, hi, hz0, hz1, hz2⟩ := info_parts info_str
  have HI := Lib.hid (And.intro hi (And.intro hz0 (And.intro hz1 hz2)))
  clear h HW hi hz0 hz1 hz2
  have HB := Lib.hid ((Below.refl w.heap.size w).alloc (Nat.le_refl _) (.cells #[.string co, .int .i64 cl, .bool false, .bool true, .string ⟨#[]⟩, .bool false] 89))
  have HL0 := Lib.hid (hL.below HB.out (Nat.le_refl _))
  have HX0 := Lib.hid (BoxA.new w ⟨co, cl, false, true, ⟨#[]⟩, false⟩ 89)
  clear hL
  rcases (by omega : cl = 0 ∨ cl = 1) with rfl | rfl
  all_goals
    go_enter Tryz.func34, Tryz.ntmps34
    go_wp2_with fail
    refine (HR.out _).mono ?_
    rintro e w1 ⟨rfl, hb1⟩
    have HB1 := Lib.hid (HB.out.trans (hb1.mono HB.out.size))
    have hlt : w.heap.size < w1.heap.size := by have := hb1.size; simp at this; omega
    obtain ⟨g0, g1, g2⟩ := HL0.out.below hb1 (Nat.le_refl _)
    obtain ⟨c0, c1, c2, c3, c4, c5⟩ := (HX0.out.keep hb1 (by simp)).facts
    simp only at c0 c1 c2 c3 c4 c5
    clear hb1
    go_wp2
    go_region
    clear g0 g1 g2
    go_wp2_with (at_builtin; refine wpList_append_own _ rfl _ _ 58 rfl w1.heap.size 9 i0 (.string ⟨#[]⟩) 1 16 Tryz.underlying58 HI.out.1 HI.out.2.1 HI.out.2.2.1 HI.out.2.2.2 rfl (by decide) _ 3 _ rfl ((own_three w1 tAccount _ _ _).alloc _) ⟨w1.heap.size + 1, 0, none⟩ 1 1 [.string tMutual] rfl rfl (new_cells2 w1 _ [.string tMutual] _) (by intro u hu; simp at hu; rcases hu with rfl <;> rfl) (by unfold maxLen; omega) (by omega) (by simp; omega) ?_; intro v' w2 hown' hgrow _)
    have HF := Lib.hid (below_grown (below_drewN ((HB1.out.alloc HB1.out.size _).alloc (by have := HB1.out.size; simp; omega) _) 1) (by have := HB1.out.size; simp; omega) (row_base ((own_three w1 tAccount _ _ _).alloc _) HB1.out.size) hgrow)
    go_wp2
    go_ret
    exact ⟨_, rfl, strs_of_own (ws := [tAccount, co, _, tMutual]) hown', HF.out⟩
set_option maxRecDepth 100000 in
set_option maxHeartbeats 4000000 in
theorem words_fixed (co fi : ByteArray) (w : World) (hL : Laid w) (h : rightA ⟨co, 0, false, false, fi, false⟩ = true) (hf : neB fi = true) : Calls Tryz.prog 34 #[aggF ⟨co, 0, false, false, fi, false⟩] w (WordsTold w (wordsA ⟨co, 0, false, false, fi, false⟩)) := by
  have HR := Lib.hid (right_any ⟨co, 0, false, false, fi, false⟩)
  rw [h] at HR
  have HW : Hid (wordsA ⟨co, 0, false, false, fi, false⟩ = [tAccount, co, tAsset, tFixed, fi]) := Lib.hid (by unfold wordsA; rw [if_pos h]; simp [markW, clsW, hf])
  rw [HW.out]
  obtain ⟨i0, hi, hz0, hz1, hz2⟩ := info_parts info_str
  have HI := Lib.hid (And.intro hi (And.intro hz0 (And.intro hz1 hz2)))
  clear h HW hi hz0 hz1 hz2
  have HB := Lib.hid ((Below.refl w.heap.size w).alloc (Nat.le_refl _) (.cells #[.string co, .int .i64 0, .bool false, .bool false, .string fi, .bool false] 89))
  have HL0 := Lib.hid (hL.below HB.out (Nat.le_refl _))
  have HX0 := Lib.hid (BoxA.new w ⟨co, 0, false, false, fi, false⟩ 89)
  clear hL
  have HN := Lib.hid hf
  unfold neB at hf
  go_enter Tryz.func34, Tryz.ntmps34
  go_wp2_with fail
  refine (HR.out _).mono ?_
  rintro e w1 ⟨rfl, hb1⟩
  have HB1 := Lib.hid (HB.out.trans (hb1.mono HB.out.size))
  have hlt : w.heap.size < w1.heap.size := by have := hb1.size; simp at this; omega
  obtain ⟨g0, g1, g2⟩ := HL0.out.below hb1 (Nat.le_refl _)
  obtain ⟨c0, c1, c2, c3, c4, c5⟩ := (HX0.out.keep hb1 (by simp)).facts
  simp only at c0 c1 c2 c3 c4 c5
  clear hb1
  go_wp2
  go_region
  clear g0 g1 g2
  go_wp2_with (at_builtin; refine wpList_append_own _ rfl _ _ 58 rfl w1.heap.size 9 i0 (.string ⟨#[]⟩) 1 16 Tryz.underlying58 HI.out.1 HI.out.2.1 HI.out.2.2.1 HI.out.2.2.2 rfl (by decide) _ 3 _ rfl ((own_three w1 tAccount _ _ _).alloc _) ⟨w1.heap.size + 1, 0, none⟩ 2 2 [.string tFixed, .string fi] rfl rfl (new_cells2 w1 _ [.string tFixed, .string fi] _) (by intro u hu; simp at hu; rcases hu with rfl | rfl <;> rfl) (by unfold maxLen; omega) (by omega) (by simp; omega) ?_; intro v' w2 hown' hgrow _)
  have HF := Lib.hid (below_grown (below_drewN ((HB1.out.alloc HB1.out.size _).alloc (by have := HB1.out.size; simp; omega) _) 1) (by have := HB1.out.size; simp; omega) (row_base ((own_three w1 tAccount _ _ _).alloc _) HB1.out.size) hgrow)
  go_wp2
  go_ret
  exact ⟨_, rfl, strs_of_own (ws := [tAccount, co, tAsset, tFixed, fi]) hown', HF.out⟩
set_option maxRecDepth 100000 in
set_option maxHeartbeats 4000000 in
theorem words_worn (co fi : ByteArray) (w : World) (hL : Laid w) (h : rightA ⟨co, 0, false, false, fi, true⟩ = true) : Calls Tryz.prog 34 #[aggF ⟨co, 0, false, false, fi, true⟩] w (WordsTold w (wordsA ⟨co, 0, false, false, fi, true⟩)) := by
  have HR := Lib.hid (right_any ⟨co, 0, false, false, fi, true⟩)
  rw [h] at HR
  have HW : Hid (wordsA ⟨co, 0, false, false, fi, true⟩ = [tAccount, co, tAsset, tWorn, fi]) := Lib.hid (by unfold wordsA; rw [if_pos h]; simp [markW, clsW])
  rw [HW.out]
  obtain ⟨i0, hi, hz0, hz1, hz2⟩ := info_parts info_str
  have HI := Lib.hid (And.intro hi (And.intro hz0 (And.intro hz1 hz2)))
  clear h HW hi hz0 hz1 hz2
  have HB := Lib.hid ((Below.refl w.heap.size w).alloc (Nat.le_refl _) (.cells #[.string co, .int .i64 0, .bool false, .bool false, .string fi, .bool true] 89))
  have HL0 := Lib.hid (hL.below HB.out (Nat.le_refl _))
  have HX0 := Lib.hid (BoxA.new w ⟨co, 0, false, false, fi, true⟩ 89)
  clear hL
  go_enter Tryz.func34, Tryz.ntmps34
  go_wp2_with fail
  refine (HR.out _).mono ?_
  rintro e w1 ⟨rfl, hb1⟩
  have HB1 := Lib.hid (HB.out.trans (hb1.mono HB.out.size))
  have hlt : w.heap.size < w1.heap.size := by have := hb1.size; simp at this; omega
  obtain ⟨g0, g1, g2⟩ := HL0.out.below hb1 (Nat.le_refl _)
  obtain ⟨c0, c1, c2, c3, c4, c5⟩ := (HX0.out.keep hb1 (by simp)).facts
  simp only at c0 c1 c2 c3 c4 c5
  clear hb1
  go_wp2
  go_region
  clear g0 g1 g2
  go_wp2_with (at_builtin; refine wpList_append_own _ rfl _ _ 58 rfl w1.heap.size 9 i0 (.string ⟨#[]⟩) 1 16 Tryz.underlying58 HI.out.1 HI.out.2.1 HI.out.2.2.1 HI.out.2.2.2 rfl (by decide) _ 3 _ rfl ((own_three w1 tAccount _ _ _).alloc _) ⟨w1.heap.size + 1, 0, none⟩ 2 2 [.string tWorn, .string fi] rfl rfl (new_cells2 w1 _ [.string tWorn, .string fi] _) (by intro u hu; simp at hu; rcases hu with rfl | rfl <;> rfl) (by unfold maxLen; omega) (by omega) (by simp; omega) ?_; intro v' w2 hown' hgrow _)
  have HF := Lib.hid (below_grown (below_drewN ((HB1.out.alloc HB1.out.size _).alloc (by have := HB1.out.size; simp; omega) _) 1) (by have := HB1.out.size; simp; omega) (row_base ((own_three w1 tAccount _ _ _).alloc _) HB1.out.size) hgrow)
  go_wp2
  go_ret
  exact ⟨_, rfl, strs_of_own (ws := [tAccount, co, tAsset, tWorn, fi]) hown', HF.out⟩
theorem words_any (a : Acct) (w : World) (hL : Laid w) : Calls Tryz.prog 34 #[aggF a] w (WordsTold w (wordsA a)) := by
  cases h : rightA a with
  | false => exact words_no a w h
  | true =>
    obtain ⟨co, cl, ca, mu, fi, wo⟩ := a
    rcases marks_ways (right_parts h).2.2 with ⟨e1, e2, e3, e4⟩ | ⟨e1, e2, e3, e4, e5⟩ | ⟨e1, e2, e3, e4, e5⟩ | ⟨e1, e2, e3, e6, e4, e5⟩ | ⟨e1, e2, e3, e6, e4, e5⟩ <;> simp only at e1 e2 e3 e4 <;> subst e1 e2 e4
    · subst e3; exact words_plain co cl w hL h
    · simp only at e5; subst e3 e5; exact words_cash co w hL h
    · simp only at e5; subst e3; exact words_both co cl w hL h e5
    · simp only at e5; subst e5; exact words_fixed co fi w hL h e6
    · simp only at e5; subst e5; exact words_worn co fi w hL h
end Go.Proofs.YticdmlijacnjbaaGreatDoor
/- The walks of the document's SameWords and of slices.Equal at texts: whether the texts are the same; only draws. -/
namespace Go.Proofs.YticdmlijacnjbaaGreatDoor
open Go.RowKit

theorem cellD (w : World) (q : Nat) (p : Addr) : (w.drewN q).cell? p = w.cell? p := rfl
def sameW (us vs : List ByteArray) : Bool := decide (us = vs)
theorem sameW_len {us vs : List ByteArray} (h : us.length ≠ vs.length) : sameW us vs = false := decide_eq_false fun e => h (by rw [e])
theorem sameW_no {us vs : List ByteArray} {i : Nat} {x y : ByteArray} (hx : us[i]? = some x) (hy : vs[i]? = some y) (h : x ≠ y) : sameW us vs = false :=
  decide_eq_false fun e => h (by rw [e, hy] at hx; exact (Option.some.inj hx).symm)
theorem sameW_yes {us vs : List ByteArray} {n : Nat} (hu : us.length = n) (hv : vs.length = n) (h : ∀ (j : Nat) (x y : ByteArray), j < n → us[j]? = some x → vs[j]? = some y → x = y) : sameW us vs = true :=
  decide_eq_true (by
    apply List.ext_getElem?
    intro j
    by_cases hj : j < n
    · rw [List.getElem?_eq_getElem (by omega), List.getElem?_eq_getElem (by omega)]
      rw [h j _ _ hj (List.getElem?_eq_getElem (by omega)) (List.getElem?_eq_getElem (by omega))]
    · rw [List.getElem?_eq_none (by omega), List.getElem?_eq_none (by omega)])

set_option maxRecDepth 100000 in
set_option maxHeartbeats 2000000 in
theorem sameWords_any (v u : Value) (vs us : List ByteArray) (w : World) (h : StrsV w v vs) (h' : StrsV w u us) :
    Calls Tryz.prog 89 #[v, u] w fun e w' => e = .returned (.bool (sameW vs us)) ∧ ∃ q, w' = w.drewN q := by
  obtain ⟨a, c, rfl, _, hm, hc⟩ := h
  obtain ⟨a', c', rfl, _, hm', hc'⟩ := h'
  obtain ⟨n, hn⟩ : ∃ n, vs.length = n := ⟨_, rfl⟩
  obtain ⟨n', hn'⟩ : ∃ n, us.length = n := ⟨_, rfl⟩
  obtain ⟨r, hr⟩ : ∃ r, sameW vs us = r := ⟨_, rfl⟩
  rw [hn] at hm ⊢
  rw [hn'] at hm' ⊢
  rw [hr]
  have H := Lib.hid hc
  have H' := Lib.hid hc'
  have HN := Lib.hid hn
  have HN' := Lib.hid hn'
  have HR := Lib.hid hr
  unfold maxLen at hm hm'
  clear hc hc' hn hn' hr
  by_cases hne : n = n'
  · subst hne
    have hnn : ((n : Int) != (n : Int)) = false := by simp
    go_enter Tryz.func89, Tryz.ntmps89
    go_wp2
    go_loopg [5] n (fun kx vi wr => ∃ i q : Nat, vi = .int .i64 (i : Int) ∧ i ≤ n ∧ n - i ≤ kx ∧ Hid (wr = w.drewN q) ∧ Hid (∀ (j : Nat) (x y : ByteArray), j < i → vs[j]? = some x → us[j]? = some y → x = y))
    case atStart => exact ⟨0, 0, rfl, Nat.zero_le _, by omega, rfl, Lib.hid fun j x y hj => absurd hj (Nat.not_lt_zero _)⟩
    case round =>
      obtain ⟨i, q, rfl, hin, hkx, HW, HA⟩ := hrel
      by_cases hlt : i < n
      · obtain ⟨x, hx⟩ : ∃ y, vs[i]? = some y := ⟨_, List.getElem?_eq_getElem (by rw [HN.out]; exact hlt)⟩
        obtain ⟨y, hy⟩ : ∃ y, us[i]? = some y := ⟨_, List.getElem?_eq_getElem (by rw [HN'.out]; exact hlt)⟩
        obtain ⟨b1, o1, rfl, d1⟩ := H.out i _ hx
        obtain ⟨b2, o2, rfl, d2⟩ := H'.out i _ hy
        have HX := Lib.hid hx
        have HY := Lib.hid hy
        clear hx hy
        rw [← cellD w q, ← HW.out] at d1 d2
        have hltz : (i : Int) < (n : Int) := by omega
        cases hxy : (x.toList == y.toList) with
        | true =>
          have HXE := Lib.hid ((Lib.bytes_beq_iff x y).1 hxy)
          go_wp2_with fail
          go_big_quiet (fail)
          clear d1 d2 hxy
          go_wp2
          go_roundg (n - (i + 1))
          case measure => omega
          case rel => exact ⟨i + 1, q + nq, by first | rfl | go_num, by omega, Nat.le_refl _, Lib.hid (by rw [HW.out, World.drewN_drewN]), Lib.hid fun j z t hj hz ht => by
            rcases Nat.lt_or_ge j i with h | h
            · exact HA.out j z t h hz ht
            · obtain rfl : j = i := by omega
              rw [HX.out] at hz; rw [HY.out] at ht
              cases hz; cases ht; exact HXE.out⟩
        | false =>
          have HXE := Lib.hid ((Lib.bytes_beq_false_iff x y).1 hxy)
          go_wp2_with fail
          go_big_quiet (fail)
          clear d1 d2 hxy
          go_wp2
          go_ret
          exact ⟨ret_bool (by rw [← HR.out, sameW_no HX.out HY.out HXE.out]), q + nq, by rw [HW.out, World.drewN_drewN]⟩
      · have hltz : ¬ (i : Int) < (n : Int) := by omega
        go_wp2
        go_ret
        exact ⟨ret_bool (by rw [← HR.out, sameW_yes HN.out HN'.out fun j x y hj => HA.out j x y (by omega)]), q, HW.out⟩
  · have hnn : ((n : Int) != (n' : Int)) = true := by simp; omega
    have HNE := Lib.hid hne
    clear hne
    go_enter Tryz.func89, Tryz.ntmps89
    go_wp2
    go_ret
    exact ⟨ret_bool (by rw [← HR.out, sameW_len (by rw [HN.out, HN'.out]; exact HNE.out)]), 0, rfl⟩
set_option maxRecDepth 100000 in
set_option maxHeartbeats 2000000 in
theorem equal_any (v u : Value) (vs us : List ByteArray) (w : World) (h : StrsV w v vs) (h' : StrsV w u us) :
    Calls Tryz.prog 102 #[v, u] w fun e w' => e = .returned (.bool (sameW vs us)) ∧ ∃ q, w' = w.drewN q := by
  obtain ⟨a, c, rfl, _, hm, hc⟩ := h
  obtain ⟨a', c', rfl, _, hm', hc'⟩ := h'
  obtain ⟨n, hn⟩ : ∃ n, vs.length = n := ⟨_, rfl⟩
  obtain ⟨n', hn'⟩ : ∃ n, us.length = n := ⟨_, rfl⟩
  obtain ⟨r, hr⟩ : ∃ r, sameW vs us = r := ⟨_, rfl⟩
  rw [hn] at hm ⊢
  rw [hn'] at hm' ⊢
  rw [hr]
  have H := Lib.hid hc
  have H' := Lib.hid hc'
  have HN := Lib.hid hn
  have HN' := Lib.hid hn'
  have HR := Lib.hid hr
  unfold maxLen at hm hm'
  clear hc hc' hn hn' hr
  by_cases hne : n = n'
  · subst hne
    have hnn : ((n : Int) != (n : Int)) = false := by simp
    go_enter Tryz.func102, Tryz.ntmps102
    go_wp2
    go_loopg [13] n (fun kx vi wr => ∃ i q : Nat, vi = .int .i64 (i : Int) ∧ i ≤ n ∧ n - i ≤ kx ∧ Hid (wr = w.drewN q) ∧ Hid (∀ (j : Nat) (x y : ByteArray), j < i → vs[j]? = some x → us[j]? = some y → x = y))
    case atStart => exact ⟨0, 0, rfl, Nat.zero_le _, by omega, rfl, Lib.hid fun j x y hj => absurd hj (Nat.not_lt_zero _)⟩
    case round =>
      obtain ⟨i, q, rfl, hin, hkx, HW, HA⟩ := hrel
      by_cases hlt : i < n
      · obtain ⟨x, hx⟩ : ∃ y, vs[i]? = some y := ⟨_, List.getElem?_eq_getElem (by rw [HN.out]; exact hlt)⟩
        obtain ⟨y, hy⟩ : ∃ y, us[i]? = some y := ⟨_, List.getElem?_eq_getElem (by rw [HN'.out]; exact hlt)⟩
        obtain ⟨b1, o1, rfl, d1⟩ := H.out i _ hx
        obtain ⟨b2, o2, rfl, d2⟩ := H'.out i _ hy
        have HX := Lib.hid hx
        have HY := Lib.hid hy
        clear hx hy
        rw [← cellD w q, ← HW.out] at d1 d2
        have hltz : (i : Int) < (n : Int) := by omega
        cases hxy : (x.toList == y.toList) with
        | true =>
          have HXE := Lib.hid ((Lib.bytes_beq_iff x y).1 hxy)
          go_wp2_with fail
          go_big_quiet (fail)
          clear d1 d2 hxy
          go_wp2
          go_roundg (n - (i + 1))
          case measure => omega
          case rel => exact ⟨i + 1, q + nq, by first | rfl | go_num, by omega, Nat.le_refl _, Lib.hid (by rw [HW.out, World.drewN_drewN]), Lib.hid fun j z t hj hz ht => by
            rcases Nat.lt_or_ge j i with h | h
            · exact HA.out j z t h hz ht
            · obtain rfl : j = i := by omega
              rw [HX.out] at hz; rw [HY.out] at ht
              cases hz; cases ht; exact HXE.out⟩
        | false =>
          have HXE := Lib.hid ((Lib.bytes_beq_false_iff x y).1 hxy)
          go_wp2_with fail
          go_big_quiet (fail)
          clear d1 d2 hxy
          go_wp2
          go_ret
          exact ⟨ret_bool (by rw [← HR.out, sameW_no HX.out HY.out HXE.out]), q + nq, by rw [HW.out, World.drewN_drewN]⟩
      · have hltz : ¬ (i : Int) < (n : Int) := by omega
        go_wp2
        go_ret
        exact ⟨ret_bool (by rw [← HR.out, sameW_yes HN.out HN'.out fun j x y hj => HA.out j x y (by omega)]), q, HW.out⟩
  · have hnn : ((n : Int) != (n' : Int)) = true := by simp; omega
    have HNE := Lib.hid hne
    clear hne
    go_enter Tryz.func102, Tryz.ntmps102
    go_wp2
    go_ret
    exact ⟨ret_bool (by rw [← HR.out, sameW_len (by rw [HN.out, HN'.out]; exact HNE.out)]), 0, rfl⟩
end Go.Proofs.YticdmlijacnjbaaGreatDoor
