
/- The walk of UnitBack: it returns true. -/
import Derived.Test.YticdmlijacnjbaaGreatDoorM28
import Derived.Test.YticdmlijacnjbaaGreatDoorM29
import Derived.Test.YticdmlijacnjbaaGreatDoorSegs
namespace Go.Proofs.YticdmlijacnjbaaGreatDoor.Un
open Go.RowKit

/-- The nine cells of master data at a block. -/
abbrev Nin (w : World) (b : Nat) (c f e l : Value) (M : Mast) : Prop := w.cell? ⟨b, 0, none⟩ = some c ∧ w.cell? ⟨b, 1, none⟩ = some f ∧ w.cell? ⟨b, 2, none⟩ = some e ∧ w.cell? ⟨b, 3, none⟩ = some l ∧ w.cell? ⟨b, 4, none⟩ = some (.string M.cur) ∧ w.cell? ⟨b, 5, none⟩ = some (.string M.res) ∧ w.cell? ⟨b, 6, none⟩ = some (.string M.dif) ∧ w.cell? ⟨b, 7, none⟩ = some (.string M.min) ∧ w.cell? ⟨b, 8, none⟩ = some (.string M.stk)
theorem nin_of {w : World} {b : Nat} {c f e l : Value} {M : Mast} (h : NineAt w b c f e l M) : Nin w b c f e l M := ⟨h.c0, h.c1, h.c2, h.c3, h.c4, h.c5, h.c6, h.c7, h.c8⟩
theorem nin_keep {w w' : World} {b : Nat} {c f e l : Value} {M : Mast} (h : Nin w b c f e l M) (hb : Below w.heap.size w w') : Nin w' b c f e l M := by
  obtain ⟨h0, h1, h2, h3, h4, h5, h6, h7, h8⟩ := h
  exact ⟨cell_later hb h0, cell_later hb h1, cell_later hb h2, cell_later hb h3, cell_later hb h4, cell_later hb h5, cell_later hb h6, cell_later hb h7, cell_later hb h8⟩
theorem ours_few (c f e l : Value) (M : Mast) (w : World) (h : MastIn w c f e l M) (hs : Sane M) : Calls Tryz.prog 14 #[aggM c f e l M] w (MastGiven w M) :=
  ours_any c f e l M w h (by have := hs.lc; omega) (by have := hs.lf; omega) (by have := hs.le; omega) hs.ll
theorem same_vals (v u : Value) (M : Mast) (w : World) (h : MastV w v M) (h' : MastV w u M) : Calls Tryz.prog 13 #[v, u] w fun en w' => en = .returned (.bool true) ∧ Below w.heap.size w w' := by
  obtain ⟨c, f, e, l, rfl, hm⟩ := h
  obtain ⟨c', f', e', l', rfl, hm'⟩ := h'
  exact same_any c f e l c' f' e' l' M w hm hm'
theorem below_of_drew {B : Nat} {w w' : World} (h : Below B w.drew w') : Below B w w' := ⟨h.os, h.tape, h.output, h.size, h.block⟩
set_option maxRecDepth 100000 in
set_option maxHeartbeats 16000000 in
theorem unitBack_walk (s : ByteArray) (w : World) (_hs0 : s.size ≤ maxLen) (hU : LaidU w) : Calls Tryz.prog 5 #[.string s] w fun en w' => en = .returned (.bool true) ∧ Below w.heap.size w w' := by
  have HL := Lib.hid hU.1
  have HLF := Lib.hid hU.2
  clear hU _hs0
  go_enter Tryz.func5, Tryz.ntmps5
  go_wp2_with fail
  refine (alive_any _ HL.out HLF.out).mono ?_
  rintro en w1 ⟨rfl, hb1⟩
  have HB1 := Lib.hid hb1
  have HL1 := Lib.hid (HL.out.below hb1 (Nat.le_refl _))
  have HLF1 := Lib.hid (HLF.out.below hb1 (Nat.le_refl _))
  clear hb1
  by_cases hs : 4000 < s.size
  · go_wp2
    go_ret
    exact ⟨rfl, HB1.out⟩
  go_wp2_with fail
  refine (parse_told s _ (by omega) HL1.out HLF1.out).mono ?_
  rintro en w2 ⟨M, c, f, e, l, n, rfl, hm, hb2, hor⟩
  obtain ⟨pc, cc, pf, cf, pe, ce, pl, cl, rfl, rfl, rfl, rfl⟩ := mast_shapes hm
  have hb3 := hb2.alloc hb2.size (.cells (cellsM (.slice pc M.chart.length cc) (.slice pf M.flows.length cf) (.slice pe M.ents.length ce) (.slice pl M.lines.length cl) M) 30)
  have HB3 := Lib.hid (HB1.out.trans (hb3.mono HB1.out.size))
  have HM3 := Lib.hid (hm.keep ((Below.refl w2.heap.size w2).alloc (Nat.le_refl _) (.cells (cellsM (.slice pc M.chart.length cc) (.slice pf M.flows.length cf) (.slice pe M.ents.length ce) (.slice pl M.lines.length cl) M) 30)))
  have HN3 := Lib.hid (nine_new w2 (.slice pc M.chart.length cc) (.slice pf M.flows.length cf) (.slice pe M.ents.length ce) (.slice pl M.lines.length cl) M 30)
  clear hm hb2 hb3
  rcases hor with ⟨rfl, hR⟩ | ⟨hn, hz⟩
  · have HR := Lib.hid hR
    have hsn := hR.inv.sane
    have HSN := Lib.hid hsn
    have HL3 := Lib.hid (HL.out.below HB3.out (Nat.le_refl _))
    have HLF3 := Lib.hid (HLF.out.below HB3.out (Nat.le_refl _))
    have hsz := hR.size
    have hPB := print_back hR.run hR.all (by omega : s.size ≤ 4000)
    have HPR := Lib.hid (fun c f e l W h1 h2 h3 => print_any c f e l M W h1 h2 h3 (by have := hsn.lc; omega) (by have := hsn.lf; omega) (by have := hsn.le; omega) hsn.ll (by omega))
    obtain ⟨T, hT⟩ : ∃ T, mkB (textW (outM M)) = T := ⟨_, rfl⟩
    have hTn : T.size ≤ 30000 := by rw [← hT, mkB_size, textW_length]; omega
    rw [hT] at hPB
    simp only [hT] at HPR
    have HPA := Lib.hid (fun W h1 h2 => parse_any T W hTn h1 h2)
    simp only [hPB] at HPA
    clear hR hsn hsz hPB hT hTn HB1 HL1 HLF1
    obtain ⟨k0, k1, k2, k3, k4, k5, k6, k7, k8⟩ := HN3.out
    go_wp2_with fail
    clear k0 k1 k2 k3 k4 k5 k6 k7 k8
    refine (HPR.out _ _ _ _ _ HM3.out HL3.out HLF3.out).mono ?_
    rintro en w4 ⟨rfl, hb4⟩
    have HB4 := Lib.hid (HB3.out.trans (hb4.mono HB3.out.size))
    have HM4 := Lib.hid (HM3.out.keep hb4)
    have HN4 := Lib.hid (HN3.out.kept hb4)
    have HL4 := Lib.hid (HL.out.below HB4.out (Nat.le_refl _))
    have HLF4 := Lib.hid (HLF.out.below HB4.out (Nat.le_refl _))
    clear hb4 HB3 HM3 HN3 HL3 HLF3
    go_wp2_with fail
    refine (HPA.out _ HL4.out HLF4.out).mono ?_
    rintro en w5 ⟨v5, rfl, ⟨c5, f5, e5, l5, rfl, hm5⟩, hb5⟩
    obtain ⟨qc, dc, qf, df, qe, de, ql, dl, rfl, rfl, rfl, rfl⟩ := mast_shapes hm5
    have hb6 := hb5.alloc hb5.size (.cells (cellsM (.slice qc M.chart.length dc) (.slice qf M.flows.length df) (.slice qe M.ents.length de) (.slice ql M.lines.length dl) M) 30)
    have hB6 := HB4.out.trans (hb6.mono HB4.out.size)
    have hM6 := HM4.out.keep hb6
    have hN6 := HN4.out.kept hb6
    have hO6 := hm5.keep ((Below.refl w5.heap.size w5).alloc (Nat.le_refl _) (.cells (cellsM (.slice qc M.chart.length dc) (.slice qf M.flows.length df) (.slice qe M.ents.length de) (.slice ql M.lines.length dl) M) 30))
    have hP6 := nine_new w5 (.slice qc M.chart.length dc) (.slice qf M.flows.length df) (.slice qe M.ents.length de) (.slice ql M.lines.length dl) M 30
    obtain ⟨W6, hW6⟩ : ∃ W6, w5.alloc (.cells (cellsM (.slice qc M.chart.length dc) (.slice qf M.flows.length df) (.slice qe M.ents.length de) (.slice ql M.lines.length dl) M) 30) = W6 := ⟨_, rfl⟩
    rw [hW6] at hB6 hM6 hN6 hO6 hP6
    have HB6 := Lib.hid hB6
    have HM6 := Lib.hid hM6
    have HO6 := Lib.hid hO6
    have HN6 := Lib.hid hN6
    have HP6 := Lib.hid hP6
    clear hm5 hb5 hb6 HB4 HM4 HN4 HL4 HLF4 hB6 hM6 hN6 hO6 hP6
    have HD : Hid (Below W6.heap.size W6 W6.drew) := Lib.hid ⟨rfl, rfl, rfl, Nat.le_refl _, fun _ _ => rfl⟩
    have q1 := str_self T
    obtain ⟨k0, k1, k2, k3, k4, k5, k6, k7, k8⟩ := HN6.out
    obtain ⟨j0, j1, j2, j3, j4, j5, j6, j7, j8⟩ := HP6.out
    have r0 := fun p : Past W6 => cell_past k0 p
    have s0 := fun p : Past W6 => cell_past j0 p
    have r1 := fun p : Past W6 => cell_past k1 p
    have s1 := fun p : Past W6 => cell_past j1 p
    have r2 := fun p : Past W6 => cell_past k2 p
    have s2 := fun p : Past W6 => cell_past j2 p
    have r3 := fun p : Past W6 => cell_past k3 p
    have s3 := fun p : Past W6 => cell_past j3 p
    have r4 := fun p : Past W6 => cell_past k4 p
    have s4 := fun p : Past W6 => cell_past j4 p
    have r5 := fun p : Past W6 => cell_past k5 p
    have s5 := fun p : Past W6 => cell_past j5 p
    have r6 := fun p : Past W6 => cell_past k6 p
    have s6 := fun p : Past W6 => cell_past j6 p
    have r7 := fun p : Past W6 => cell_past k7 p
    have s7 := fun p : Past W6 => cell_past j7 p
    have r8 := fun p : Past W6 => cell_past k8 p
    have s8 := fun p : Past W6 => cell_past j8 p
    clear k0 k1 k2 k3 k4 k5 k6 k7 k8 j0 j1 j2 j3 j4 j5 j6 j7 j8 HN6 HP6
    go_wp2_with fail
    clear hW6
    refine wp_region_plan (.one [0, 1, 2, 3, 5] 4 (.one [] 6 (.one [] 7 (.one [8, 9, 10, 12] 11 (.last [13, 14, 15]))))) (by kernel_rfl) (by kernel_rfl) (fun d _ _ _ _ h => by cases d <;> exact h) ?_
    simp only [wpPlan, pick, nth]
    repeat (go_big_quiet_step (fail))
    refine wpQuiet_nil ?_
    intro K hK
    refine alone_want (by kernel_rfl) ?_
    go_big_op
    refine (ours_few (.slice qc M.chart.length dc) (.slice qf M.flows.length df) (.slice qe M.ents.length de) (.slice ql M.lines.length dl) M W6.drew (HO6.out.keep HD.out) HSN.out).mono ?_
    rintro en w7 ⟨v7, rfl, hm7, hb7⟩
    have HM7 := Lib.hid hm7
    have HP7 := Lib.hid (HD.out.trans (hb7.mono HD.out.size))
    clear hm7 hb7
    refine hK _ _ (past_in HP7.out) ?_
    clear hK K
    refine wpQuiet_nil ?_
    intro K hK
    refine alone_want (by kernel_rfl) ?_
    go_big_op
    refine (ours_few (.slice pc M.chart.length cc) (.slice pf M.flows.length cf) (.slice pe M.ents.length ce) (.slice pl M.lines.length cl) M w7 (HM6.out.keep HP7.out) HSN.out).mono ?_
    rintro en w8 ⟨v8, rfl, hm8, hb8⟩
    have HM8 := Lib.hid hm8
    have HK8 := Lib.hid (HM7.out.keep hb8)
    have HP8 := Lib.hid (HP7.out.trans (hb8.mono HP7.out.size))
    clear hm8 hb8
    refine hK _ _ (past_in HP8.out) ?_
    clear hK K
    refine wpQuiet_nil ?_
    intro K hK
    refine alone_want (by kernel_rfl) ?_
    go_big_op
    refine (same_vals v7 v8 M w8 HK8.out HM8.out).mono ?_
    rintro en w9 ⟨rfl, hb9⟩
    have HP9 := Lib.hid (HP8.out.trans (hb9.mono HP8.out.size))
    have HB9 := Lib.hid (HB6.out.trans (HP9.out.mono HB6.out.size))
    have HL9 := Lib.hid (HL.out.below HB9.out (Nat.le_refl _))
    have HLF9 := Lib.hid (HLF.out.below HB9.out (Nat.le_refl _))
    clear hb9
    refine hK _ _ (past_in HP9.out) ?_
    clear hK K
    repeat (go_big_quiet_step (fail))
    refine wpQuiet_nil ?_
    intro K hK
    refine alone_want (by kernel_rfl) ?_
    go_big_op
    refine (HPR.out _ _ _ _ w9 (HO6.out.keep HP9.out) HL9.out HLF9.out).mono ?_
    rintro en w10 ⟨rfl, hb10⟩
    have HP10 := Lib.hid (HP9.out.trans (hb10.mono HP9.out.size))
    have HB10 := Lib.hid (HB6.out.trans (HP10.out.mono HB6.out.size))
    clear hb10
    refine hK _ _ (past_in HP10.out) ?_
    clear hK K
    repeat (go_big_quiet_step (fail))
    refine wpQuiet_nil ?_
    go_wp2
    go_ret
    exact ⟨rfl, HB10.out⟩
  · subst hz
    have hnz : (n != 0) = true := by simp [hn]
    obtain ⟨k0, k1, k2, k3, k4, k5, k6, k7, k8⟩ := HN3.out
    go_wp2_with fail
    clear k0 k1 k2 k3 k4 k5 k6 k7 k8
    refine (ours_few _ _ _ _ zeroM _ HM3.out Sane.zero).mono ?_
    rintro en w4 ⟨v4, rfl, ⟨c4, f4, e4, l4, rfl, hm4⟩, hb4⟩
    obtain ⟨qc, dc, qf, df, qe, de, ql, dl, rfl, rfl, rfl, rfl⟩ := mast_shapes hm4
    have HB4 := Lib.hid (HB3.out.trans (hb4.mono HB3.out.size))
    have HM4 := Lib.hid hm4
    clear hm4 hb4
    go_wp2_with fail
    refine (same_any _ _ _ _ (.slice none 0 0) (.slice none 0 0) (.slice none 0 0) (.slice none 0 0) zeroM _ HM4.out (MastIn.zero _)).mono ?_
    rintro en w5 ⟨rfl, hb5⟩
    have HB5 := Lib.hid (HB4.out.trans (hb5.mono HB4.out.size))
    clear hb5
    go_wp2
    go_ret
    exact ⟨rfl, HB5.out⟩
end Go.Proofs.YticdmlijacnjbaaGreatDoor.Un
