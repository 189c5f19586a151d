/- UnitFindsLaw: texts put together (each begins with what it is). -/
import Derived.Test.YticdmlijacnjbaaGreatDoorM28
import Derived.Test.YticdmlijacnjbaaGreatDoorM29
import Derived.Test.YticdmlijacnjbaaGreatDoorM27
/- The walk of UnitFinds: it returns true. -/
namespace Go.Proofs.YticdmlijacnjbaaGreatDoor.Un
open Go.RowKit

set_option maxRecDepth 100000 in
set_option maxHeartbeats 16000000 in
theorem unitFinds_walk (s code tt : ByteArray) (w : World) (_hs0 : s.size ≤ maxLen) (_hs1 : code.size ≤ maxLen) (_hs2 : tt.size ≤ maxLen) (hU : LaidU w) : Calls Tryz.prog 4 #[.string s, .string code, .string tt] w fun en w' => en = .returned (.bool true) ∧ Below w.heap.size w w' := by
  have HL := Lib.hid hU.1
  have HLF := Lib.hid hU.2
  clear hU _hs0 _hs1 _hs2
  go_enter Tryz.func4, Tryz.ntmps4
  go_wp2_with fail
  refine (alive_any _ HL.out HLF.out).mono ?_
  rintro en w1 ⟨rfl, hb1⟩
  have HB1 := Lib.hid hb1
  have HL1 := Lib.hid (HL.out.below hb1 (Nat.le_refl _))
  have HLF1 := Lib.hid (HLF.out.below hb1 (Nat.le_refl _))
  clear hb1
  by_cases hs : 4000 < s.size
  · go_wp2
    go_ret
    exact ⟨rfl, HB1.out⟩
  by_cases hcode : 100 < code.size
  · go_wp2
    go_ret
    exact ⟨rfl, HB1.out⟩
  by_cases htt : 100 < tt.size
  · go_wp2
    go_ret
    exact ⟨rfl, HB1.out⟩
  go_wp2_with fail
  refine (parse_told s _ (by omega) HL1.out HLF1.out).mono ?_
  rintro en w2 ⟨M, c, f, e, l, n, rfl, hm, hb2, hor⟩
  obtain ⟨pc, cc, pf, cf, pe, ce, pl, cl, rfl, rfl, rfl, rfl⟩ := mast_shapes hm
  have hb3 := hb2.alloc hb2.size (.cells (cellsM (.slice pc M.chart.length cc) (.slice pf M.flows.length cf) (.slice pe M.ents.length ce) (.slice pl M.lines.length cl) M) 30)
  have HB3 := Lib.hid (HB1.out.trans (hb3.mono HB1.out.size))
  have HM3 := Lib.hid (hm.keep ((Below.refl w2.heap.size w2).alloc (Nat.le_refl _) (.cells (cellsM (.slice pc M.chart.length cc) (.slice pf M.flows.length cf) (.slice pe M.ents.length ce) (.slice pl M.lines.length cl) M) 30)))
  have HN3 := Lib.hid (nine_new w2 (.slice pc M.chart.length cc) (.slice pf M.flows.length cf) (.slice pe M.ents.length ce) (.slice pl M.lines.length cl) M 30)
  clear hm hb2 hb3
  rcases hor with ⟨rfl, hR⟩ | ⟨hn, hz⟩
  · have HR := Lib.hid hR
    have HLN : Hid (linesN M = true) := Lib.hid (allE_parts hR.all).2.2.1
    clear hR HB1 HL HLF HL1 HLF1
    have hsn := HR.out.inv.sane
    have HSN := Lib.hid hsn
    clear hsn
    obtain ⟨k0, k1, k2, k3, k4, k5, k6, k7, k8⟩ := HN3.out
    go_wp2_with fail
    clear k0 k1 k2 k3 k4 k5 k6 k7 k8
    refine (ours_any (.slice pc M.chart.length cc) (.slice pf M.flows.length cf) (.slice pe M.ents.length ce) (.slice pl M.lines.length cl) M _ HM3.out (by have := HSN.out.lc; omega) (by have := HSN.out.lf; omega) (by have := HSN.out.le; omega) HSN.out.ll).mono ?_
    rintro en w4 ⟨v4, rfl, ⟨c4, f4, e4, l4, rfl, ho⟩, hb4⟩
    obtain ⟨qc, dc, qf, df, qe, de, ql, dl, rfl, rfl, rfl, rfl⟩ := mast_shapes ho
    have hb5 := hb4.alloc hb4.size (.cells (cellsM (.slice qc M.chart.length dc) (.slice qf M.flows.length df) (.slice qe M.ents.length de) (.slice ql M.lines.length dl) M) 39)
    have HB5 := Lib.hid (HB3.out.trans (hb5.mono HB3.out.size))
    have HM5 := Lib.hid (HM3.out.keep hb5)
    have HN5 := Lib.hid (HN3.out.kept hb5)
    have HO5 := Lib.hid (ho.keep ((Below.refl w4.heap.size w4).alloc (Nat.le_refl _) (.cells (cellsM (.slice qc M.chart.length dc) (.slice qf M.flows.length df) (.slice qe M.ents.length de) (.slice ql M.lines.length dl) M) 39)))
    have HP5 := Lib.hid (nine_new w4 (.slice qc M.chart.length dc) (.slice qf M.flows.length df) (.slice qe M.ents.length de) (.slice ql M.lines.length dl) M 39)
    clear ho hb4 hb5 HB3 HM3 HN3
    obtain ⟨k0, k1, k2, k3, k4, k5, k6, k7, k8⟩ := HN5.out
    obtain ⟨A1, hA1⟩ : ∃ A, curO (G.findK Ent.code M.ents code) = A := ⟨_, rfl⟩
    obtain ⟨I1, hI1⟩ : ∃ A, (G.findK Ent.code M.ents code).isSome = A := ⟨_, rfl⟩
    obtain ⟨A2, hA2⟩ : ∃ A, toO (G.findK Lin.key M.lines (code, tt)) = A := ⟨_, rfl⟩
    obtain ⟨I2, hI2⟩ : ∃ A, (G.findK Lin.key M.lines (code, tt)).isSome = A := ⟨_, rfl⟩
    have HC1 := Lib.hid (fun W h => find_any (.slice pc M.chart.length cc) (.slice pf M.flows.length cf) (.slice pe M.ents.length ce) (.slice pl M.lines.length cl) M code W h)
    have HC2 := Lib.hid (fun W h => rfind_any (.slice qc M.chart.length dc) (.slice qf M.flows.length df) (.slice qe M.ents.length de) (.slice ql M.lines.length dl) M code W h)
    have HC3 := Lib.hid (fun W h => to_any (.slice pc M.chart.length cc) (.slice pf M.flows.length cf) (.slice pe M.ents.length ce) (.slice pl M.lines.length cl) M code tt W h)
    have HC4 := Lib.hid (fun W h => rto_any (.slice qc M.chart.length dc) (.slice qf M.flows.length df) (.slice qe M.ents.length de) (.slice ql M.lines.length dl) M code tt W h)
    simp only [hA1, hI1] at HC1 HC2
    simp only [hA2, hI2] at HC3 HC4
    clear hA1 hI1 hA2 hI2
    go_wp2_with fail
    clear k0 k1 k2 k3 k4 k5 k6 k7 k8
    refine (HC1.out _ HM5.out).mono ?_
    rintro en w6 ⟨rfl, hb6⟩
    have HB6 := Lib.hid (HB5.out.trans (hb6.mono HB5.out.size))
    have HM6 := Lib.hid (HM5.out.keep hb6)
    have HN6 := Lib.hid (HN5.out.kept hb6)
    have HO6 := Lib.hid (HO5.out.keep hb6)
    have HP6 := Lib.hid (HP5.out.kept hb6)
    clear hb6 HB5 HM5 HN5 HO5 HP5
    obtain ⟨k0, k1, k2, k3, k4, k5, k6, k7, k8⟩ := HN6.out
    obtain ⟨j0, j1, j2, j3, j4, j5, j6, j7, j8⟩ := HP6.out
    go_wp2_with fail
    clear k0 k1 k2 k3 k4 k5 k6 k7 k8 j0 j1 j2 j3 j4 j5 j6 j7 j8
    refine (HC2.out _ HO6.out).mono ?_
    rintro en w7 ⟨rfl, hb7⟩
    have HB7 := Lib.hid (HB6.out.trans (hb7.mono HB6.out.size))
    have HM7 := Lib.hid (HM6.out.keep hb7)
    have HN7 := Lib.hid (HN6.out.kept hb7)
    have HO7 := Lib.hid (HO6.out.keep hb7)
    have HP7 := Lib.hid (HP6.out.kept hb7)
    clear hb7 HB6 HM6 HN6 HO6 HP6
    obtain ⟨k0, k1, k2, k3, k4, k5, k6, k7, k8⟩ := HN7.out
    obtain ⟨j0, j1, j2, j3, j4, j5, j6, j7, j8⟩ := HP7.out
    go_wp2_with fail
    clear k0 k1 k2 k3 k4 k5 k6 k7 k8 j0 j1 j2 j3 j4 j5 j6 j7 j8
    refine (HC3.out _ HM7.out).mono ?_
    rintro en w8 ⟨rfl, hb8⟩
    have HB8 := Lib.hid (HB7.out.trans (hb8.mono HB7.out.size))
    have HM8 := Lib.hid (HM7.out.keep hb8)
    have HN8 := Lib.hid (HN7.out.kept hb8)
    have HO8 := Lib.hid (HO7.out.keep hb8)
    have HP8 := Lib.hid (HP7.out.kept hb8)
    clear hb8 HB7 HM7 HN7 HO7 HP7
    obtain ⟨k0, k1, k2, k3, k4, k5, k6, k7, k8⟩ := HN8.out
    obtain ⟨j0, j1, j2, j3, j4, j5, j6, j7, j8⟩ := HP8.out
    go_wp2_with fail
    clear k0 k1 k2 k3 k4 k5 k6 k7 k8 j0 j1 j2 j3 j4 j5 j6 j7 j8
    refine (HC4.out _ HO8.out).mono ?_
    rintro en w9 ⟨rfl, hb9⟩
    have HB9 := Lib.hid (HB8.out.trans (hb9.mono HB8.out.size))
    have HM9 := Lib.hid (HM8.out.keep hb9)
    have HN9 := Lib.hid (HN8.out.kept hb9)
    have HO9 := Lib.hid (HO8.out.keep hb9)
    have HP9 := Lib.hid (HP8.out.kept hb9)
    clear hb9 HB8 HM8 HN8 HO8 HP8
    obtain ⟨k0, k1, k2, k3, k4, k5, k6, k7, k8⟩ := HN9.out
    obtain ⟨j0, j1, j2, j3, j4, j5, j6, j7, j8⟩ := HP9.out
    have q1 := str_self A1
    have q2 := str_self A2
    have q3 : (I1 == I1) = true := by simp
    have q4 : (I2 == I2) = true := by simp
    obtain ⟨MP, hMP⟩ : ∃ b, mapP M = b := ⟨_, rfl⟩
    have hMD : mapD M = MP := by rw [← map_eq HLN.out, hMP]
    have HMP := Lib.hid (fun p : Past w9 => mapped_any (.slice pc M.chart.length cc) (.slice pf M.flows.length cf) (.slice pe M.ents.length ce) (.slice pl M.lines.length cl) M p.to (HM9.out.keep p.below) HSN.out.ll HR.out.acc HR.out.code)
    have HMD := Lib.hid (fun p : Past w9 => rmapped_any (.slice qc M.chart.length dc) (.slice qf M.flows.length df) (.slice qe M.ents.length de) (.slice ql M.lines.length dl) M p.to (HO9.out.keep p.below))
    simp only [hMP] at HMP
    simp only [hMD] at HMD
    have q5 : (MP == MP) = true := by simp
    clear hMP hMD
    have r0 := fun p : Past w9 => cell_past k0 p
    have s0 := fun p : Past w9 => cell_past j0 p
    have r1 := fun p : Past w9 => cell_past k1 p
    have s1 := fun p : Past w9 => cell_past j1 p
    have r2 := fun p : Past w9 => cell_past k2 p
    have s2 := fun p : Past w9 => cell_past j2 p
    have r3 := fun p : Past w9 => cell_past k3 p
    have s3 := fun p : Past w9 => cell_past j3 p
    have r4 := fun p : Past w9 => cell_past k4 p
    have s4 := fun p : Past w9 => cell_past j4 p
    have r5 := fun p : Past w9 => cell_past k5 p
    have s5 := fun p : Past w9 => cell_past j5 p
    have r6 := fun p : Past w9 => cell_past k6 p
    have s6 := fun p : Past w9 => cell_past j6 p
    have r7 := fun p : Past w9 => cell_past k7 p
    have s7 := fun p : Past w9 => cell_past j7 p
    have r8 := fun p : Past w9 => cell_past k8 p
    have s8 := fun p : Past w9 => cell_past j8 p
    clear k0 k1 k2 k3 k4 k5 k6 k7 k8 j0 j1 j2 j3 j4 j5 j6 j7 j8
    go_wp2_with fail
    refine wp_region_past (by kernel_rfl) (by kernel_rfl) ?_
    repeat (go_big_quiet_step (first | (go_at_call 21; exact Calls.past_of (HMP.out _)) | (go_at_call 22; exact Calls.past_of (HMD.out _)) | fail))
    refine wpQuiet_nil ?_
    intro w10 hw'
    obtain ⟨⟨w10', hb10⟩, rfl⟩ := hw'
    have HB10 := Lib.hid (HB9.out.trans (hb10.mono HB9.out.size))
    clear hb10 r0 r1 r2 r3 r4 r5 r6 r7 r8 s0 s1 s2 s3 s4 s5 s6 s7 s8
    go_wp2
    go_ret
    exact ⟨rfl, HB10.out⟩
  · clear hz
    have hnz : (n != 0) = true := by simp [hn]
    go_wp2
    go_ret
    exact ⟨rfl, HB3.out⟩
end Go.Proofs.YticdmlijacnjbaaGreatDoor.Un
