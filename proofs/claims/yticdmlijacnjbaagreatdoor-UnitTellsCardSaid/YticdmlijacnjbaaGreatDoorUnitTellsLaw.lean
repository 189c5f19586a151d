
/- The walk of UnitTells: it returns true. -/
import Derived.Test.YticdmlijacnjbaaGreatDoorM28
import Derived.Test.YticdmlijacnjbaaGreatDoorM29
import Derived.Test.YticdmlijacnjbaaGreatDoorM30
import Derived.Test.YticdmlijacnjbaaGreatDoorUnitDocParse
import Derived.Test.YticdmlijacnjbaaGreatDoorUnitDocPrint
import Derived.Test.YticdmlijacnjbaaGreatDoorSegs
namespace Go.Proofs.YticdmlijacnjbaaGreatDoor.Un
open Go.RowKit

theorem ours_few (c f e l : Value) (M : Mast) (w : World) (h : MastIn w c f e l M) (hs : Sane M) : Calls Tryz.prog 14 #[aggM c f e l M] w (MastGiven w M) :=
  ours_any c f e l M w h (by have := hs.lc; omega) (by have := hs.lf; omega) (by have := hs.le; omega) hs.ll
theorem same_vals (v : Value) (c' f' e' l' : Value) (M : Mast) (w : World) (h : MastV w v M) (hm' : MastIn w c' f' e' l' M) : Calls Tryz.prog 13 #[v, aggM c' f' e' l' M] w fun en w' => en = .returned (.bool true) ∧ Below w.heap.size w w' := by
  obtain ⟨c, f, e, l, rfl, hm⟩ := h
  exact same_any c f e l c' f' e' l' M w hm hm'
set_option maxRecDepth 100000 in
set_option maxHeartbeats 16000000 in
theorem unitTells_walk (s : ByteArray) (w : World) (_hs0 : s.size ≤ maxLen) (hU : LaidU w) : Calls Tryz.prog 3 #[.string s] w fun en w' => en = .returned (.bool true) ∧ Below w.heap.size w w' := by
  have HL := Lib.hid hU.1
  have HLF := Lib.hid hU.2
  clear hU _hs0
  go_enter Tryz.func3, Tryz.ntmps3
  go_wp2_with fail
  refine (alive_any _ HL.out HLF.out).mono ?_
  rintro en w1 ⟨rfl, hb1⟩
  have HB1 := Lib.hid hb1
  have HL1 := Lib.hid (HL.out.below hb1 (Nat.le_refl _))
  have HLF1 := Lib.hid (HLF.out.below hb1 (Nat.le_refl _))
  clear hb1
  by_cases hbig : 4000 < s.size ∧ s.size ≤ 20000 ∨ 30000 < s.size
  · by_cases h4 : 4000 < s.size
    · have h4z : (4000 : Int) < (s.size : Int) := by omega
      by_cases h2 : s.size ≤ 20000
      · have h2z : (s.size : Int) ≤ 20000 := by omega
        go_wp2
        go_ret
        exact ⟨rfl, HB1.out⟩
      · have h2z : ¬ (s.size : Int) ≤ 20000 := by omega
        have h3z : (30000 : Int) < (s.size : Int) := by omega
        go_wp2
        go_ret
        exact ⟨rfl, HB1.out⟩
    · omega
  have h3 : s.size ≤ 30000 := by omega
  have HPA := Lib.hid (parse_any s w1 h3 HL1.out HLF1.out)
  have HPB := Lib.hid (fun W => rparseU_any s W h3)
  have hways := parse_ways s
  have hsmall : s.size ≤ 4000 ∨ 20000 < s.size := by omega
  rcases hways with ⟨M, hrun, hinv, hall, hpm, hlin⟩ | ⟨hz, hnz⟩
  · have HR : Hid (RightOf s M) := Lib.hid ⟨hrun, hinv, hall, hlin⟩
    have HSN := Lib.hid hinv.sane
    have HPR := Lib.hid (fun c f e l W h1 h2 h3 => print_any c f e l M W h1 h2 h3 (by have := hinv.sane.lc; omega) (by have := hinv.sane.lf; omega) (by have := hinv.sane.le; omega) hinv.sane.ll (by have := HR.out.size; omega))
    have HPD := Lib.hid (fun c f e l W h1 => rprintU_any c f e l M W h1 (by have := hinv.sane.lc; omega) (by have := hinv.sane.lf; omega) (by have := hinv.sane.le; omega) hinv.sane.ll (fun ws hw => (good_few (hinv.good ws ((out_perm hrun hall).mem_iff.2 hw))).2))
    obtain ⟨T, hT⟩ : ∃ T, mkB (textW (outM M)) = T := ⟨_, rfl⟩
    simp only [hT] at HPR HPD
    have q1 := str_self T
    simp only [hpm] at HPA HPB
    clear hrun hinv hall hpm hlin hT
    by_cases h4 : 4000 < s.size
    · have h4z : (4000 : Int) < (s.size : Int) := by omega
      have h2z : ¬ (s.size : Int) ≤ 20000 := by omega
      have h3z : ¬ (30000 : Int) < (s.size : Int) := by omega
      go_wp2_with fail
      refine HPA.out.mono ?_
      rintro en w2 ⟨v2, rfl, ⟨c, f, e, l, rfl, hm⟩, hb2⟩
      obtain ⟨pc, cc, pf, cf, pe, ce, pl, cl, rfl, rfl, rfl, rfl⟩ := mast_shapes hm
      have hb3 := hb2.alloc hb2.size (.cells (cellsM (.slice pc M.chart.length cc) (.slice pf M.flows.length cf) (.slice pe M.ents.length ce) (.slice pl M.lines.length cl) M) 30)
      have HB3 := Lib.hid (HB1.out.trans (hb3.mono HB1.out.size))
      have HM3 := Lib.hid (hm.keep ((Below.refl w2.heap.size w2).alloc (Nat.le_refl _) (.cells (cellsM (.slice pc M.chart.length cc) (.slice pf M.flows.length cf) (.slice pe M.ents.length ce) (.slice pl M.lines.length cl) M) 30)))
      have HN3 := Lib.hid (nine_new w2 (.slice pc M.chart.length cc) (.slice pf M.flows.length cf) (.slice pe M.ents.length ce) (.slice pl M.lines.length cl) M 30)
      clear hm hb2 hb3
      go_wp2_with fail
      refine (HPB.out _).mono ?_
      rintro en w5 ⟨v5, rfl, ⟨c5, f5, e5, l5, rfl, hm5⟩, hb5⟩
      obtain ⟨qc, dc, qf, df, qe, de, ql, dl, rfl, rfl, rfl, rfl⟩ := mast_shapes hm5
      have hb6 := hb5.alloc hb5.size (.cells (cellsM (.slice qc M.chart.length dc) (.slice qf M.flows.length df) (.slice qe M.ents.length de) (.slice ql M.lines.length dl) M) 39)
      have hB6 := HB3.out.trans (hb6.mono HB3.out.size)
      have hM6 := HM3.out.keep hb6
      have hN6 := HN3.out.kept hb6
      have hO6 := hm5.keep ((Below.refl w5.heap.size w5).alloc (Nat.le_refl _) (.cells (cellsM (.slice qc M.chart.length dc) (.slice qf M.flows.length df) (.slice qe M.ents.length de) (.slice ql M.lines.length dl) M) 39))
      have hP6 := nine_new w5 (.slice qc M.chart.length dc) (.slice qf M.flows.length df) (.slice qe M.ents.length de) (.slice ql M.lines.length dl) M 39
      obtain ⟨W6, hW6⟩ : ∃ W6, w5.alloc (.cells (cellsM (.slice qc M.chart.length dc) (.slice qf M.flows.length df) (.slice qe M.ents.length de) (.slice ql M.lines.length dl) M) 39) = W6 := ⟨_, rfl⟩
      rw [hW6] at hB6 hM6 hN6 hO6 hP6
      have HB6 := Lib.hid hB6
      have HM6 := Lib.hid hM6
      have HO6 := Lib.hid hO6
      obtain ⟨k0, k1, k2, k3, k4, k5, k6, k7, k8⟩ := hN6
      obtain ⟨j0, j1, j2, j3, j4, j5, j6, j7, j8⟩ := hP6
      have r0 := fun p : Past W6 => cell_past k0 p
      have s0 := fun p : Past W6 => cell_past j0 p
      have r1 := fun p : Past W6 => cell_past k1 p
      have s1 := fun p : Past W6 => cell_past j1 p
      have r2 := fun p : Past W6 => cell_past k2 p
      have s2 := fun p : Past W6 => cell_past j2 p
      have r3 := fun p : Past W6 => cell_past k3 p
      have s3 := fun p : Past W6 => cell_past j3 p
      have r4 := fun p : Past W6 => cell_past k4 p
      have s4 := fun p : Past W6 => cell_past j4 p
      have r5 := fun p : Past W6 => cell_past k5 p
      have s5 := fun p : Past W6 => cell_past j5 p
      have r6 := fun p : Past W6 => cell_past k6 p
      have s6 := fun p : Past W6 => cell_past j6 p
      have r7 := fun p : Past W6 => cell_past k7 p
      have s7 := fun p : Past W6 => cell_past j7 p
      have r8 := fun p : Past W6 => cell_past k8 p
      have s8 := fun p : Past W6 => cell_past j8 p
      clear k0 k1 k2 k3 k4 k5 k6 k7 k8 j0 j1 j2 j3 j4 j5 j6 j7 j8 hm5 hb5 hb6 hB6 hM6 hO6
      have HD : Hid (Below W6.heap.size W6 W6.drew) := Lib.hid ⟨rfl, rfl, rfl, Nat.le_refl _, fun _ _ => rfl⟩
      go_wp2_with fail
      clear hW6
      refine wp_region_plan (.one [0, 2] 1 (.one [] 3 (.one [4, 5, 6, 7, 8, 9, 10, 11, 12, 13, 15] 14 (.one [] 16 (.last [17, 18, 19, 20]))))) (by kernel_rfl) (by kernel_rfl) (fun d _ _ _ _ h => by cases d <;> exact h) ?_
      simp only [wpPlan, pick, nth]
      repeat (go_big_quiet_step (fail))
      refine wpQuiet_nil ?_
      intro K hK
      refine alone_want (by kernel_rfl) ?_
      go_big_op
      refine (ours_few _ _ _ _ M W6.drew (HM6.out.keep HD.out) HSN.out).mono ?_
      rintro en w7 ⟨v7, rfl, hm7, hb7⟩
      have HM7 := Lib.hid hm7
      have HP7 := Lib.hid (HD.out.trans (hb7.mono HD.out.size))
      clear hm7 hb7
      refine hK _ _ (past_in HP7.out) ?_
      clear hK K
      refine wpQuiet_nil ?_
      intro K hK
      refine alone_want (by kernel_rfl) ?_
      go_big_op
      refine (same_vals v7 _ _ _ _ M w7 HM7.out (HO6.out.keep HP7.out)).mono ?_
      rintro en w8 ⟨rfl, hb8⟩
      have HP8 := Lib.hid (HP7.out.trans (hb8.mono HP7.out.size))
      have HB8 := Lib.hid (HB6.out.trans (HP8.out.mono HB6.out.size))
      have HL8 := Lib.hid (HL.out.below HB8.out (Nat.le_refl _))
      have HLF8 := Lib.hid (HLF.out.below HB8.out (Nat.le_refl _))
      clear hb8
      refine hK _ _ (past_in HP8.out) ?_
      clear hK K
      repeat (go_big_quiet_step (fail))
      refine wpQuiet_nil ?_
      intro K hK
      refine alone_want (by kernel_rfl) ?_
      go_big_op
      refine (HPR.out _ _ _ _ w8 (HM6.out.keep HP8.out) HL8.out HLF8.out).mono ?_
      rintro en w9 ⟨rfl, hb9⟩
      have HP9 := Lib.hid (HP8.out.trans (hb9.mono HP8.out.size))
      clear hb9
      refine hK _ _ (past_in HP9.out) ?_
      clear hK K
      refine wpQuiet_nil ?_
      intro K hK
      refine alone_want (by kernel_rfl) ?_
      go_big_op
      refine (HPD.out _ _ _ _ w9 (HO6.out.keep HP9.out)).mono ?_
      rintro en w10 ⟨rfl, hb10⟩
      have HP10 := Lib.hid (HP9.out.trans (hb10.mono HP9.out.size))
      have HB10 := Lib.hid (HB6.out.trans (HP10.out.mono HB6.out.size))
      clear hb10
      refine hK _ _ (past_in HP10.out) ?_
      clear hK K
      repeat (go_big_quiet_step (fail))
      refine wpQuiet_nil ?_
      go_wp2
      go_ret
      exact ⟨rfl, HB10.out⟩
    · have h4z : ¬ (4000 : Int) < (s.size : Int) := by omega
      have h3z : ¬ (30000 : Int) < (s.size : Int) := by omega
      go_wp2_with fail
      refine HPA.out.mono ?_
      rintro en w2 ⟨v2, rfl, ⟨c, f, e, l, rfl, hm⟩, hb2⟩
      obtain ⟨pc, cc, pf, cf, pe, ce, pl, cl, rfl, rfl, rfl, rfl⟩ := mast_shapes hm
      have hb3 := hb2.alloc hb2.size (.cells (cellsM (.slice pc M.chart.length cc) (.slice pf M.flows.length cf) (.slice pe M.ents.length ce) (.slice pl M.lines.length cl) M) 30)
      have HB3 := Lib.hid (HB1.out.trans (hb3.mono HB1.out.size))
      have HM3 := Lib.hid (hm.keep ((Below.refl w2.heap.size w2).alloc (Nat.le_refl _) (.cells (cellsM (.slice pc M.chart.length cc) (.slice pf M.flows.length cf) (.slice pe M.ents.length ce) (.slice pl M.lines.length cl) M) 30)))
      have HN3 := Lib.hid (nine_new w2 (.slice pc M.chart.length cc) (.slice pf M.flows.length cf) (.slice pe M.ents.length ce) (.slice pl M.lines.length cl) M 30)
      clear hm hb2 hb3
      go_wp2_with fail
      refine (HPB.out _).mono ?_
      rintro en w5 ⟨v5, rfl, ⟨c5, f5, e5, l5, rfl, hm5⟩, hb5⟩
      obtain ⟨qc, dc, qf, df, qe, de, ql, dl, rfl, rfl, rfl, rfl⟩ := mast_shapes hm5
      have hb6 := hb5.alloc hb5.size (.cells (cellsM (.slice qc M.chart.length dc) (.slice qf M.flows.length df) (.slice qe M.ents.length de) (.slice ql M.lines.length dl) M) 39)
      have hB6 := HB3.out.trans (hb6.mono HB3.out.size)
      have hM6 := HM3.out.keep hb6
      have hN6 := HN3.out.kept hb6
      have hO6 := hm5.keep ((Below.refl w5.heap.size w5).alloc (Nat.le_refl _) (.cells (cellsM (.slice qc M.chart.length dc) (.slice qf M.flows.length df) (.slice qe M.ents.length de) (.slice ql M.lines.length dl) M) 39))
      have hP6 := nine_new w5 (.slice qc M.chart.length dc) (.slice qf M.flows.length df) (.slice qe M.ents.length de) (.slice ql M.lines.length dl) M 39
      obtain ⟨W6, hW6⟩ : ∃ W6, w5.alloc (.cells (cellsM (.slice qc M.chart.length dc) (.slice qf M.flows.length df) (.slice qe M.ents.length de) (.slice ql M.lines.length dl) M) 39) = W6 := ⟨_, rfl⟩
      rw [hW6] at hB6 hM6 hN6 hO6 hP6
      have HB6 := Lib.hid hB6
      have HM6 := Lib.hid hM6
      have HO6 := Lib.hid hO6
      obtain ⟨k0, k1, k2, k3, k4, k5, k6, k7, k8⟩ := hN6
      obtain ⟨j0, j1, j2, j3, j4, j5, j6, j7, j8⟩ := hP6
      have r0 := fun p : Past W6 => cell_past k0 p
      have s0 := fun p : Past W6 => cell_past j0 p
      have r1 := fun p : Past W6 => cell_past k1 p
      have s1 := fun p : Past W6 => cell_past j1 p
      have r2 := fun p : Past W6 => cell_past k2 p
      have s2 := fun p : Past W6 => cell_past j2 p
      have r3 := fun p : Past W6 => cell_past k3 p
      have s3 := fun p : Past W6 => cell_past j3 p
      have r4 := fun p : Past W6 => cell_past k4 p
      have s4 := fun p : Past W6 => cell_past j4 p
      have r5 := fun p : Past W6 => cell_past k5 p
      have s5 := fun p : Past W6 => cell_past j5 p
      have r6 := fun p : Past W6 => cell_past k6 p
      have s6 := fun p : Past W6 => cell_past j6 p
      have r7 := fun p : Past W6 => cell_past k7 p
      have s7 := fun p : Past W6 => cell_past j7 p
      have r8 := fun p : Past W6 => cell_past k8 p
      have s8 := fun p : Past W6 => cell_past j8 p
      clear k0 k1 k2 k3 k4 k5 k6 k7 k8 j0 j1 j2 j3 j4 j5 j6 j7 j8 hm5 hb5 hb6 hB6 hM6 hO6
      have HD : Hid (Below W6.heap.size W6 W6.drew) := Lib.hid ⟨rfl, rfl, rfl, Nat.le_refl _, fun _ _ => rfl⟩
      go_wp2_with fail
      clear hW6
      refine wp_region_plan (.one [0, 2] 1 (.one [] 3 (.one [4, 5, 6, 7, 8, 9, 10, 11, 12, 13, 15] 14 (.one [] 16 (.last [17, 18, 19, 20]))))) (by kernel_rfl) (by kernel_rfl) (fun d _ _ _ _ h => by cases d <;> exact h) ?_
      simp only [wpPlan, pick, nth]
      repeat (go_big_quiet_step (fail))
      refine wpQuiet_nil ?_
      intro K hK
      refine alone_want (by kernel_rfl) ?_
      go_big_op
      refine (ours_few _ _ _ _ M W6.drew (HM6.out.keep HD.out) HSN.out).mono ?_
      rintro en w7 ⟨v7, rfl, hm7, hb7⟩
      have HM7 := Lib.hid hm7
      have HP7 := Lib.hid (HD.out.trans (hb7.mono HD.out.size))
      clear hm7 hb7
      refine hK _ _ (past_in HP7.out) ?_
      clear hK K
      refine wpQuiet_nil ?_
      intro K hK
      refine alone_want (by kernel_rfl) ?_
      go_big_op
      refine (same_vals v7 _ _ _ _ M w7 HM7.out (HO6.out.keep HP7.out)).mono ?_
      rintro en w8 ⟨rfl, hb8⟩
      have HP8 := Lib.hid (HP7.out.trans (hb8.mono HP7.out.size))
      have HB8 := Lib.hid (HB6.out.trans (HP8.out.mono HB6.out.size))
      have HL8 := Lib.hid (HL.out.below HB8.out (Nat.le_refl _))
      have HLF8 := Lib.hid (HLF.out.below HB8.out (Nat.le_refl _))
      clear hb8
      refine hK _ _ (past_in HP8.out) ?_
      clear hK K
      repeat (go_big_quiet_step (fail))
      refine wpQuiet_nil ?_
      intro K hK
      refine alone_want (by kernel_rfl) ?_
      go_big_op
      refine (HPR.out _ _ _ _ w8 (HM6.out.keep HP8.out) HL8.out HLF8.out).mono ?_
      rintro en w9 ⟨rfl, hb9⟩
      have HP9 := Lib.hid (HP8.out.trans (hb9.mono HP8.out.size))
      clear hb9
      refine hK _ _ (past_in HP9.out) ?_
      clear hK K
      refine wpQuiet_nil ?_
      intro K hK
      refine alone_want (by kernel_rfl) ?_
      go_big_op
      refine (HPD.out _ _ _ _ w9 (HO6.out.keep HP9.out)).mono ?_
      rintro en w10 ⟨rfl, hb10⟩
      have HP10 := Lib.hid (HP9.out.trans (hb10.mono HP9.out.size))
      have HB10 := Lib.hid (HB6.out.trans (HP10.out.mono HB6.out.size))
      clear hb10
      refine hK _ _ (past_in HP10.out) ?_
      clear hK K
      repeat (go_big_quiet_step (fail))
      refine wpQuiet_nil ?_
      go_wp2
      go_ret
      exact ⟨rfl, HB10.out⟩
  · obtain ⟨PE, hPE⟩ : ∃ PE, (parseM s).2 = PE := ⟨_, rfl⟩
    rw [hz, hPE] at HPA
    simp only [hz, hPE] at HPB
    have hne : (PE != 0) = true := by rw [← hPE]; simp [hnz]
    have hpe2 : (PE == PE) = true := by simp
    have HSN := Lib.hid Sane.zero
    clear hz hPE hnz
    by_cases h4 : 4000 < s.size
    · have h4z : (4000 : Int) < (s.size : Int) := by omega
      have h2z : ¬ (s.size : Int) ≤ 20000 := by omega
      have h3z : ¬ (30000 : Int) < (s.size : Int) := by omega
      go_wp2_with fail
      refine HPA.out.mono ?_
      rintro en w2 ⟨v2, rfl, ⟨c, f, e, l, rfl, hm⟩, hb2⟩
      obtain ⟨pc, cc, pf, cf, pe, ce, pl, cl, rfl, rfl, rfl, rfl⟩ := mast_shapes hm
      have hb3 := hb2.alloc hb2.size (.cells (cellsM (.slice pc zeroM.chart.length cc) (.slice pf zeroM.flows.length cf) (.slice pe zeroM.ents.length ce) (.slice pl zeroM.lines.length cl) zeroM) 30)
      have HB3 := Lib.hid (HB1.out.trans (hb3.mono HB1.out.size))
      have HM3 := Lib.hid (hm.keep ((Below.refl w2.heap.size w2).alloc (Nat.le_refl _) (.cells (cellsM (.slice pc zeroM.chart.length cc) (.slice pf zeroM.flows.length cf) (.slice pe zeroM.ents.length ce) (.slice pl zeroM.lines.length cl) zeroM) 30)))
      have HN3 := Lib.hid (nine_new w2 (.slice pc zeroM.chart.length cc) (.slice pf zeroM.flows.length cf) (.slice pe zeroM.ents.length ce) (.slice pl zeroM.lines.length cl) zeroM 30)
      clear hm hb2 hb3
      go_wp2_with fail
      refine (HPB.out _).mono ?_
      rintro en w5 ⟨v5, rfl, ⟨c5, f5, e5, l5, rfl, hm5⟩, hb5⟩
      obtain ⟨qc, dc, qf, df, qe, de, ql, dl, rfl, rfl, rfl, rfl⟩ := mast_shapes hm5
      have hb6 := hb5.alloc hb5.size (.cells (cellsM (.slice qc zeroM.chart.length dc) (.slice qf zeroM.flows.length df) (.slice qe zeroM.ents.length de) (.slice ql zeroM.lines.length dl) zeroM) 39)
      have hB6 := HB3.out.trans (hb6.mono HB3.out.size)
      have hM6 := HM3.out.keep hb6
      have hN6 := HN3.out.kept hb6
      have hO6 := hm5.keep ((Below.refl w5.heap.size w5).alloc (Nat.le_refl _) (.cells (cellsM (.slice qc zeroM.chart.length dc) (.slice qf zeroM.flows.length df) (.slice qe zeroM.ents.length de) (.slice ql zeroM.lines.length dl) zeroM) 39))
      have hP6 := nine_new w5 (.slice qc zeroM.chart.length dc) (.slice qf zeroM.flows.length df) (.slice qe zeroM.ents.length de) (.slice ql zeroM.lines.length dl) zeroM 39
      obtain ⟨W6, hW6⟩ : ∃ W6, w5.alloc (.cells (cellsM (.slice qc zeroM.chart.length dc) (.slice qf zeroM.flows.length df) (.slice qe zeroM.ents.length de) (.slice ql zeroM.lines.length dl) zeroM) 39) = W6 := ⟨_, rfl⟩
      rw [hW6] at hB6 hM6 hN6 hO6 hP6
      have HB6 := Lib.hid hB6
      have HM6 := Lib.hid hM6
      have HO6 := Lib.hid hO6
      obtain ⟨k0, k1, k2, k3, k4, k5, k6, k7, k8⟩ := hN6
      obtain ⟨j0, j1, j2, j3, j4, j5, j6, j7, j8⟩ := hP6
      have r0 := fun p : Past W6 => cell_past k0 p
      have s0 := fun p : Past W6 => cell_past j0 p
      have r1 := fun p : Past W6 => cell_past k1 p
      have s1 := fun p : Past W6 => cell_past j1 p
      have r2 := fun p : Past W6 => cell_past k2 p
      have s2 := fun p : Past W6 => cell_past j2 p
      have r3 := fun p : Past W6 => cell_past k3 p
      have s3 := fun p : Past W6 => cell_past j3 p
      have r4 := fun p : Past W6 => cell_past k4 p
      have s4 := fun p : Past W6 => cell_past j4 p
      have r5 := fun p : Past W6 => cell_past k5 p
      have s5 := fun p : Past W6 => cell_past j5 p
      have r6 := fun p : Past W6 => cell_past k6 p
      have s6 := fun p : Past W6 => cell_past j6 p
      have r7 := fun p : Past W6 => cell_past k7 p
      have s7 := fun p : Past W6 => cell_past j7 p
      have r8 := fun p : Past W6 => cell_past k8 p
      have s8 := fun p : Past W6 => cell_past j8 p
      clear k0 k1 k2 k3 k4 k5 k6 k7 k8 j0 j1 j2 j3 j4 j5 j6 j7 j8 hm5 hb5 hb6 hB6 hM6 hO6
      have HD : Hid (Below W6.heap.size W6 W6.drew) := Lib.hid ⟨rfl, rfl, rfl, Nat.le_refl _, fun _ _ => rfl⟩
      go_wp2_with fail
      clear hW6
      refine wp_region_plan (.one [0, 2] 1 (.one [] 3 (.one [4, 5, 6, 7, 8, 9, 10, 11, 12, 13, 15] 14 (.one [] 16 (.last [17, 18, 19, 20]))))) (by kernel_rfl) (by kernel_rfl) (fun d _ _ _ _ h => by cases d <;> exact h) ?_
      simp only [wpPlan, pick, nth]
      repeat (go_big_quiet_step (fail))
      refine wpQuiet_nil ?_
      intro K hK
      refine alone_want (by kernel_rfl) ?_
      go_big_op
      refine (ours_few _ _ _ _ zeroM W6.drew (HM6.out.keep HD.out) HSN.out).mono ?_
      rintro en w7 ⟨v7, rfl, hm7, hb7⟩
      have HM7 := Lib.hid hm7
      have HP7 := Lib.hid (HD.out.trans (hb7.mono HD.out.size))
      clear hm7 hb7
      refine hK _ _ (past_in HP7.out) ?_
      clear hK K
      refine wpQuiet_nil ?_
      intro K hK
      refine alone_want (by kernel_rfl) ?_
      go_big_op
      refine (same_vals v7 _ _ _ _ zeroM w7 HM7.out (HO6.out.keep HP7.out)).mono ?_
      rintro en w8 ⟨rfl, hb8⟩
      have HP8 := Lib.hid (HP7.out.trans (hb8.mono HP7.out.size))
      have HB8 := Lib.hid (HB6.out.trans (HP8.out.mono HB6.out.size))
      have HL8 := Lib.hid (HL.out.below HB8.out (Nat.le_refl _))
      have HLF8 := Lib.hid (HLF.out.below HB8.out (Nat.le_refl _))
      clear hb8
      refine hK _ _ (past_in HP8.out) ?_
      clear hK K
      repeat (go_big_quiet_step (fail))
      refine wpQuiet_nil ?_
      intro K hK
      refine alone_skip (by kernel_rfl) ?_
      refine hK _ _ (past_in HP8.out) ?_
      clear hK K
      simp only [Act.put, List.setIfInBounds_toArray, List.set_cons_zero, List.set_cons_succ]
      refine wpQuiet_nil ?_
      intro K hK
      refine alone_skip (by kernel_rfl) ?_
      refine hK _ _ (past_in HP8.out) ?_
      clear hK K
      simp only [Act.put, List.setIfInBounds_toArray, List.set_cons_zero, List.set_cons_succ]
      repeat (go_big_quiet_step (fail))
      refine wpQuiet_nil ?_
      go_wp2
      go_ret
      exact ⟨rfl, HB8.out⟩
    · have h4z : ¬ (4000 : Int) < (s.size : Int) := by omega
      have h3z : ¬ (30000 : Int) < (s.size : Int) := by omega
      go_wp2_with fail
      refine HPA.out.mono ?_
      rintro en w2 ⟨v2, rfl, ⟨c, f, e, l, rfl, hm⟩, hb2⟩
      obtain ⟨pc, cc, pf, cf, pe, ce, pl, cl, rfl, rfl, rfl, rfl⟩ := mast_shapes hm
      have hb3 := hb2.alloc hb2.size (.cells (cellsM (.slice pc zeroM.chart.length cc) (.slice pf zeroM.flows.length cf) (.slice pe zeroM.ents.length ce) (.slice pl zeroM.lines.length cl) zeroM) 30)
      have HB3 := Lib.hid (HB1.out.trans (hb3.mono HB1.out.size))
      have HM3 := Lib.hid (hm.keep ((Below.refl w2.heap.size w2).alloc (Nat.le_refl _) (.cells (cellsM (.slice pc zeroM.chart.length cc) (.slice pf zeroM.flows.length cf) (.slice pe zeroM.ents.length ce) (.slice pl zeroM.lines.length cl) zeroM) 30)))
      have HN3 := Lib.hid (nine_new w2 (.slice pc zeroM.chart.length cc) (.slice pf zeroM.flows.length cf) (.slice pe zeroM.ents.length ce) (.slice pl zeroM.lines.length cl) zeroM 30)
      clear hm hb2 hb3
      go_wp2_with fail
      refine (HPB.out _).mono ?_
      rintro en w5 ⟨v5, rfl, ⟨c5, f5, e5, l5, rfl, hm5⟩, hb5⟩
      obtain ⟨qc, dc, qf, df, qe, de, ql, dl, rfl, rfl, rfl, rfl⟩ := mast_shapes hm5
      have hb6 := hb5.alloc hb5.size (.cells (cellsM (.slice qc zeroM.chart.length dc) (.slice qf zeroM.flows.length df) (.slice qe zeroM.ents.length de) (.slice ql zeroM.lines.length dl) zeroM) 39)
      have hB6 := HB3.out.trans (hb6.mono HB3.out.size)
      have hM6 := HM3.out.keep hb6
      have hN6 := HN3.out.kept hb6
      have hO6 := hm5.keep ((Below.refl w5.heap.size w5).alloc (Nat.le_refl _) (.cells (cellsM (.slice qc zeroM.chart.length dc) (.slice qf zeroM.flows.length df) (.slice qe zeroM.ents.length de) (.slice ql zeroM.lines.length dl) zeroM) 39))
      have hP6 := nine_new w5 (.slice qc zeroM.chart.length dc) (.slice qf zeroM.flows.length df) (.slice qe zeroM.ents.length de) (.slice ql zeroM.lines.length dl) zeroM 39
      obtain ⟨W6, hW6⟩ : ∃ W6, w5.alloc (.cells (cellsM (.slice qc zeroM.chart.length dc) (.slice qf zeroM.flows.length df) (.slice qe zeroM.ents.length de) (.slice ql zeroM.lines.length dl) zeroM) 39) = W6 := ⟨_, rfl⟩
      rw [hW6] at hB6 hM6 hN6 hO6 hP6
      have HB6 := Lib.hid hB6
      have HM6 := Lib.hid hM6
      have HO6 := Lib.hid hO6
      obtain ⟨k0, k1, k2, k3, k4, k5, k6, k7, k8⟩ := hN6
      obtain ⟨j0, j1, j2, j3, j4, j5, j6, j7, j8⟩ := hP6
      have r0 := fun p : Past W6 => cell_past k0 p
      have s0 := fun p : Past W6 => cell_past j0 p
      have r1 := fun p : Past W6 => cell_past k1 p
      have s1 := fun p : Past W6 => cell_past j1 p
      have r2 := fun p : Past W6 => cell_past k2 p
      have s2 := fun p : Past W6 => cell_past j2 p
      have r3 := fun p : Past W6 => cell_past k3 p
      have s3 := fun p : Past W6 => cell_past j3 p
      have r4 := fun p : Past W6 => cell_past k4 p
      have s4 := fun p : Past W6 => cell_past j4 p
      have r5 := fun p : Past W6 => cell_past k5 p
      have s5 := fun p : Past W6 => cell_past j5 p
      have r6 := fun p : Past W6 => cell_past k6 p
      have s6 := fun p : Past W6 => cell_past j6 p
      have r7 := fun p : Past W6 => cell_past k7 p
      have s7 := fun p : Past W6 => cell_past j7 p
      have r8 := fun p : Past W6 => cell_past k8 p
      have s8 := fun p : Past W6 => cell_past j8 p
      clear k0 k1 k2 k3 k4 k5 k6 k7 k8 j0 j1 j2 j3 j4 j5 j6 j7 j8 hm5 hb5 hb6 hB6 hM6 hO6
      have HD : Hid (Below W6.heap.size W6 W6.drew) := Lib.hid ⟨rfl, rfl, rfl, Nat.le_refl _, fun _ _ => rfl⟩
      go_wp2_with fail
      clear hW6
      refine wp_region_plan (.one [0, 2] 1 (.one [] 3 (.one [4, 5, 6, 7, 8, 9, 10, 11, 12, 13, 15] 14 (.one [] 16 (.last [17, 18, 19, 20]))))) (by kernel_rfl) (by kernel_rfl) (fun d _ _ _ _ h => by cases d <;> exact h) ?_
      simp only [wpPlan, pick, nth]
      repeat (go_big_quiet_step (fail))
      refine wpQuiet_nil ?_
      intro K hK
      refine alone_want (by kernel_rfl) ?_
      go_big_op
      refine (ours_few _ _ _ _ zeroM W6.drew (HM6.out.keep HD.out) HSN.out).mono ?_
      rintro en w7 ⟨v7, rfl, hm7, hb7⟩
      have HM7 := Lib.hid hm7
      have HP7 := Lib.hid (HD.out.trans (hb7.mono HD.out.size))
      clear hm7 hb7
      refine hK _ _ (past_in HP7.out) ?_
      clear hK K
      refine wpQuiet_nil ?_
      intro K hK
      refine alone_want (by kernel_rfl) ?_
      go_big_op
      refine (same_vals v7 _ _ _ _ zeroM w7 HM7.out (HO6.out.keep HP7.out)).mono ?_
      rintro en w8 ⟨rfl, hb8⟩
      have HP8 := Lib.hid (HP7.out.trans (hb8.mono HP7.out.size))
      have HB8 := Lib.hid (HB6.out.trans (HP8.out.mono HB6.out.size))
      have HL8 := Lib.hid (HL.out.below HB8.out (Nat.le_refl _))
      have HLF8 := Lib.hid (HLF.out.below HB8.out (Nat.le_refl _))
      clear hb8
      refine hK _ _ (past_in HP8.out) ?_
      clear hK K
      repeat (go_big_quiet_step (fail))
      refine wpQuiet_nil ?_
      intro K hK
      refine alone_skip (by kernel_rfl) ?_
      refine hK _ _ (past_in HP8.out) ?_
      clear hK K
      simp only [Act.put, List.setIfInBounds_toArray, List.set_cons_zero, List.set_cons_succ]
      refine wpQuiet_nil ?_
      intro K hK
      refine alone_skip (by kernel_rfl) ?_
      refine hK _ _ (past_in HP8.out) ?_
      clear hK K
      simp only [Act.put, List.setIfInBounds_toArray, List.set_cons_zero, List.set_cons_succ]
      repeat (go_big_quiet_step (fail))
      refine wpQuiet_nil ?_
      go_wp2
      go_ret
      exact ⟨rfl, HB8.out⟩
end Go.Proofs.YticdmlijacnjbaaGreatDoor.Un
