
/- The walk of UnitOrder: it returns true. -/
import Derived.Test.YticdmlijacnjbaaGreatDoorUnitTurn
import Derived.Test.YticdmlijacnjbaaGreatDoorM24
import Derived.Test.YticdmlijacnjbaaGreatDoorSegs
namespace Go.Proofs.YticdmlijacnjbaaGreatDoor.Un
open Go.RowKit

theorem ours_few (c f e l : Value) (M : Mast) (w : World) (h : MastIn w c f e l M) (hs : Sane M) : Calls Tryz.prog 14 #[aggM c f e l M] w (MastGiven w M) :=
  ours_any c f e l M w h (by have := hs.lc; omega) (by have := hs.lf; omega) (by have := hs.le; omega) hs.ll
theorem same_vals (v u : Value) (M : Mast) (w : World) (h : MastV w v M) (h' : MastV w u M) : Calls Tryz.prog 13 #[v, u] w fun en w' => en = .returned (.bool true) ∧ Below w.heap.size w w' := by
  obtain ⟨c, f, e, l, rfl, hm⟩ := h
  obtain ⟨c', f', e', l', rfl, hm'⟩ := h'
  exact same_any c f e l c' f' e' l' M w hm hm'
/-- Lines of master data in another order are few and short; their text is the same master data. -/
theorem order_few {s : ByteArray} {M : Mast} (hR : RightOf s M) {L K : List (Int × List ByteArray)} (hW : wordsT s = L.map (·.2)) (hp : K.Perm L) : ∀ x ∈ K, x.2.length ≤ 60 ∧ ∀ y ∈ x.2, y.size ≤ 100 := fun x hx => by
  have hxw : x.2 ∈ wordsT s := by rw [hW]; exact List.mem_map.2 ⟨x, hp.mem_iff.1 hx, rfl⟩
  exact (good_few (hR.inv.good x.2 hxw)).2
theorem order_text {s : ByteArray} {M : Mast} (hR : RightOf s M) (hs : s.size ≤ 4000) {L K : List (Int × List ByteArray)} (hW : wordsT s = L.map (·.2)) (hp : K.Perm L) {T : ByteArray} (hT : mkB (joinL K) = T) : parseM T = (M, 0) ∧ T.size ≤ 30000 := by
  have hq : (wordsT s).Perm (K.map (·.2)) := by rw [hW]; exact (hp.map _).symm
  have h1 := text_size s
  have h2 := szL_perm hq
  subst hT
  rw [joinL_text]
  refine ⟨?_, by rw [mkB_size, textW_length]; omega⟩
  rw [parse_text (fun ws hw => text_right s ws (hq.mem_iff.2 hw)) (by omega)]
  exact order_lines hR.inv hR.all hq
set_option maxRecDepth 100000 in
set_option maxHeartbeats 16000000 in
theorem unitOrder_walk (s : ByteArray) (a : Int) (b : Bool) (w : World) (_hs0 : s.size ≤ maxLen) (ha : InU8 a) (hU : LaidU w) : Calls Tryz.prog 6 #[.string s, .int .u8 a, .bool b] w fun en w' => en = .returned (.bool true) ∧ Below w.heap.size w w' := by
  have HL := Lib.hid hU.1
  have HLF := Lib.hid hU.2
  clear hU _hs0
  go_enter Tryz.func6, Tryz.ntmps6
  go_wp2_with fail
  refine (alive_any _ HL.out HLF.out).mono ?_
  rintro en w1 ⟨rfl, hb1⟩
  have HB1 := Lib.hid hb1
  have HL1 := Lib.hid (HL.out.below hb1 (Nat.le_refl _))
  have HLF1 := Lib.hid (HLF.out.below hb1 (Nat.le_refl _))
  clear hb1
  by_cases hs : 4000 < s.size
  · go_wp2
    go_ret
    exact ⟨rfl, HB1.out⟩
  go_wp2_with fail
  refine (parse_told s _ (by omega) HL1.out HLF1.out).mono ?_
  rintro en w2 ⟨M, c, f, e, l, n, rfl, hm, hb2, hor⟩
  obtain ⟨pc, cc, pf, cf, pe, ce, pl, cl, rfl, rfl, rfl, rfl⟩ := mast_shapes hm
  have hb3 := hb2.alloc hb2.size (.cells (cellsM (.slice pc M.chart.length cc) (.slice pf M.flows.length cf) (.slice pe M.ents.length ce) (.slice pl M.lines.length cl) M) 30)
  have HB3 := Lib.hid (HB1.out.trans (hb3.mono HB1.out.size))
  have HM3 := Lib.hid (hm.keep ((Below.refl w2.heap.size w2).alloc (Nat.le_refl _) (.cells (cellsM (.slice pc M.chart.length cc) (.slice pf M.flows.length cf) (.slice pe M.ents.length ce) (.slice pl M.lines.length cl) M) 30)))
  have HN3 := Lib.hid (nine_new w2 (.slice pc M.chart.length cc) (.slice pf M.flows.length cf) (.slice pe M.ents.length ce) (.slice pl M.lines.length cl) M 30)
  have HW2 : Hid (w1.heap.size ≤ w2.heap.size) := Lib.hid hb2.size
  clear hm hb2 hb3
  obtain ⟨m, rfl⟩ := Int.eq_ofNat_of_zero_le ha.1
  have hm255 : m ≤ 255 := by have := ha.2; omega
  clear ha
  have HLN := Lib.hid (fun W => rlines_had s W (by omega))
  go_wp2_with fail
  refine (HLN.out _).mono ?_
  intro en w4 hlh
  obtain ⟨v4, rfl, hh4, hb4⟩ := had_of hlh
  have HB4 := Lib.hid (HB3.out.trans (hb4.mono HB3.out.size))
  have HH4B := Lib.hid hb4
  rcases hor with ⟨rfl, hR⟩ | ⟨hn, hz⟩
  · rw [World.size_alloc] at hh4
    have hlin := hR.lin
    rw [hlin]
    obtain ⟨L, hL⟩ : ∃ L, asB (linV s.data.toList) = L := ⟨_, rfl⟩
    have hWT : wordsT s = L.map (·.2) := by unfold wordsT; rw [hL]
    rw [hL] at hh4
    have HWT := Lib.hid hWT
    have HR := Lib.hid hR
    have HH4 := Lib.hid hh4
    have hNL : L.length ≤ 4001 := by
      have h1 := text_size s
      have h2 := szL_count (wordsT s)
      rw [hWT] at h1 h2
      rw [List.length_map] at h2
      omega
    obtain ⟨N, hN⟩ : ∃ N, L.length = N := ⟨_, rfl⟩
    have HN := Lib.hid hN
    obtain ⟨p4, cap4, rfl⟩ := hh4.len
    rw [hN] at HH4 hNL ⊢
    clear hlh hh4 hb4 hR hL hWT hlin hN
    by_cases h0 : N = 0
    · subst h0
      go_wp2
      go_ret
      exact ⟨rfl, HB4.out⟩
    · have hn0 : ((N : Int) == 0) = false := by simp; omega
      obtain ⟨q, hq⟩ : ∃ q, m % N = q := ⟨_, rfl⟩
      have hqN : q < N := by rw [← hq]; exact Nat.mod_lt _ (by omega)
      have hrem : ((m : Nat) : Int).tmod ((N : Nat) : Int) = ((q : Nat) : Int) := by
        rw [Int.tmod_eq_emod_of_nonneg (by omega), ← Int.natCast_emod, hq]
      obtain ⟨⟨num, ws⟩, hx⟩ : ∃ x, L[q]? = some x := ⟨_, List.getElem?_eq_getElem (by rw [HN.out]; exact hqN)⟩
      obtain ⟨g, cap, u, e4, hcap, hcm, _, _, _⟩ := HH4.out.at hx
      rw [HN.out] at e4 hcap
      cases e4
      unfold maxLen at hcm
      have HM4 := Lib.hid (HM3.out.keep HH4B.out)
      have HN4 := Lib.hid (HN3.out.kept HH4B.out)
      have HSN := Lib.hid HR.out.inv.sane
      have hcapz : (N : Int) ≤ (cap4 : Int) := by omega
      have hs1 := fun W => turn_lo W g N cap4 q hqN hcap
      have hs2 := fun W => turn_hi W g N cap4 q hqN hcap
      obtain ⟨V1, hV1⟩ : ∃ V1, (Value.slice (some ((⟨g, 0, none⟩ : Addr).add (q * 2))) (N - q) (cap4 - q)) = V1 := ⟨_, rfl⟩
      obtain ⟨V2, hV2⟩ : ∃ V2, (Value.slice (some ⟨g, 0, none⟩) q cap4) = V2 := ⟨_, rfl⟩
      rw [hV1] at hs1
      rw [hV2] at hs2
      have HV1 := Lib.hid hV1
      have HV2 := Lib.hid hV2
      have HPD := Lib.hid (HH4.out.drop q)
      have HPT := Lib.hid (HH4.out.take q)
      have HBW : Hid (w2.heap.size + 1 ≤ w4.heap.size) := Lib.hid (by have := HH4B.out.size; simp at this; omega)
      have HD4 : Hid (Below w4.heap.size w4 w4.drew) := Lib.hid ⟨rfl, rfl, rfl, Nat.le_refl _, fun _ _ => rfl⟩
      have hqz : (q : Int) < (N : Int) := by omega
      clear hx hq hV1 hV2
      go_wp2_with fail
      refine wp_region_plan (.one [0, 1, 2, 4, 5, 6] 3 (.one [] 7 (.last [8]))) (by kernel_rfl) (by kernel_rfl) (fun d _ _ _ _ h => by cases d <;> exact h) ?_
      simp only [wpPlan, pick, nth]
      repeat (go_big_quiet_step (fail))
      refine wpQuiet_nil ?_
      intro K hK
      refine alone_want (by kernel_rfl) ?_
      refine wp_append_part _ _ rfl w4.heap.size (w2.heap.size + 1) (.slice none 0 0) [] (L.drop q) _ _ _ rfl (HadAt.nil _ _ _) (by simp only [Act.eval]; exact HV1.out.symm) (by rw [List.length_drop, HN.out]) (HPD.out.below HD4.out) (Nat.le_refl _) (by simp; omega) ?_
      intro v5 w5 hh5 hb5 hg5
      have HH5 : Hid (HadAt w5 w4.heap.size (w2.heap.size + 1) v5 (L.drop q)) := Lib.hid (by simpa using hh5)
      have HB45 := Lib.hid (HD4.out.trans hb5)
      have HPT5 := Lib.hid (HPT.out.below HB45.out)
      clear hh5 hb5 hg5
      refine hK _ _ (past_in HB45.out) ?_
      clear hK K
      simp only [Act.put, List.setIfInBounds_toArray, List.set_cons_zero, List.set_cons_succ]
      refine wpQuiet_nil ?_
      intro K hK
      refine alone_want (by kernel_rfl) ?_
      refine wp_append_part _ _ rfl w4.heap.size (w2.heap.size + 1) v5 (L.drop q) (L.take q) _ _ _ rfl HH5.out (by simp only [Act.eval]; exact HV2.out.symm) (by rw [List.length_take, HN.out]; omega) HPT5.out HB45.out.size (by rw [List.length_drop, HN.out]; omega) ?_
      intro v6 w6 hh6 hb6 hg6
      have HB46 := Lib.hid (HB45.out.trans hb6)
      obtain ⟨K0, hK0⟩ : ∃ K0, L.drop q ++ L.take q = K0 := ⟨_, rfl⟩
      have HK0P : Hid (K0.Perm L) := Lib.hid (by rw [← hK0]; exact turn_perm L q)
      have HK0L : Hid (K0.length = N) := Lib.hid (by rw [HK0P.out.length_eq, HN.out])
      rw [hK0] at hh6
      have HK0 := Lib.hid hh6
      obtain ⟨y0, hy0⟩ : ∃ y, K0[0]? = some y := ⟨_, List.getElem?_eq_getElem (by rw [HK0L.out]; omega)⟩
      obtain ⟨g6, cap6, u6, e6, hcap6, hcm6, _, _, _⟩ := hh6.at hy0
      rw [HK0L.out] at e6 hcap6
      subst e6
      clear hh6 hb6 hg6 hK0 hy0
      refine hK _ _ (past_in HB46.out) ?_
      clear hK K hs1 hs2
      simp only [Act.put, List.setIfInBounds_toArray, List.set_cons_zero, List.set_cons_succ]
      repeat (go_big_quiet_step (fail))
      refine wpQuiet_nil ?_
      cases b with
      | false =>
        have HJ := Lib.hid (rjoin_at _ K0 w6 HK0.out.lines (by rw [HK0L.out]; omega) (order_few HR.out HWT.out HK0P.out))
        obtain ⟨T, hT⟩ : ∃ T, mkB (joinL K0) = T := ⟨_, rfl⟩
        obtain ⟨hPT, hTn⟩ := order_text HR.out (by omega : s.size ≤ 4000) HWT.out HK0P.out hT
        rw [hT] at HJ
        have HB5 := Lib.hid (HB4.out.trans (HB46.out.mono HB4.out.size))
        have HL5 := Lib.hid (HL.out.below HB5.out (Nat.le_refl _))
        have HLF5 := Lib.hid (HLF.out.below HB5.out (Nat.le_refl _))
        have HPA := Lib.hid (parse_any T w6 hTn HL5.out HLF5.out)
        rw [hPT] at HPA
        have HN5 := Lib.hid (HN4.out.kept HB46.out)
        have HM5 := Lib.hid (HM4.out.keep HB46.out)
        clear hT hPT hTn
        go_wp2_with fail
        refine HJ.out.mono ?_
        rintro en w8 ⟨rfl, rfl⟩
        go_wp2_with fail
        refine HPA.out.mono ?_
        rintro en w9 ⟨v9, rfl, ⟨c9, f9, e9, l9, rfl, hm9⟩, hb9⟩
        obtain ⟨qc, dc, qf, df, qe, de, ql, dl, rfl, rfl, rfl, rfl⟩ := mast_shapes hm9
        have hb10 := hb9.alloc hb9.size (.cells (cellsM (.slice qc M.chart.length dc) (.slice qf M.flows.length df) (.slice qe M.ents.length de) (.slice ql M.lines.length dl) M) 30)
        have hB6 := HB5.out.trans (hb10.mono HB5.out.size)
        have hM6 := HM5.out.keep hb10
        have hN6 := HN5.out.kept hb10
        have hO6 := hm9.keep ((Below.refl w9.heap.size w9).alloc (Nat.le_refl _) (.cells (cellsM (.slice qc M.chart.length dc) (.slice qf M.flows.length df) (.slice qe M.ents.length de) (.slice ql M.lines.length dl) M) 30))
        have hP6 := nine_new w9 (.slice qc M.chart.length dc) (.slice qf M.flows.length df) (.slice qe M.ents.length de) (.slice ql M.lines.length dl) M 30
        obtain ⟨W6, hW6⟩ : ∃ W6, w9.alloc (.cells (cellsM (.slice qc M.chart.length dc) (.slice qf M.flows.length df) (.slice qe M.ents.length de) (.slice ql M.lines.length dl) M) 30) = W6 := ⟨_, rfl⟩
        rw [hW6] at hB6 hM6 hN6 hO6 hP6
        have HB6 := Lib.hid hB6
        have HM6 := Lib.hid hM6
        have HO6 := Lib.hid hO6
        obtain ⟨k0, k1, k2, k3, k4, k5, k6, k7, k8⟩ := hN6
        obtain ⟨j0, j1, j2, j3, j4, j5, j6, j7, j8⟩ := hP6
        have r0 := fun p : Past W6 => cell_past k0 p
        have s0 := fun p : Past W6 => cell_past j0 p
        have r1 := fun p : Past W6 => cell_past k1 p
        have s1 := fun p : Past W6 => cell_past j1 p
        have r2 := fun p : Past W6 => cell_past k2 p
        have s2 := fun p : Past W6 => cell_past j2 p
        have r3 := fun p : Past W6 => cell_past k3 p
        have s3 := fun p : Past W6 => cell_past j3 p
        have r4 := fun p : Past W6 => cell_past k4 p
        have s4 := fun p : Past W6 => cell_past j4 p
        have r5 := fun p : Past W6 => cell_past k5 p
        have s5 := fun p : Past W6 => cell_past j5 p
        have r6 := fun p : Past W6 => cell_past k6 p
        have s6 := fun p : Past W6 => cell_past j6 p
        have r7 := fun p : Past W6 => cell_past k7 p
        have s7 := fun p : Past W6 => cell_past j7 p
        have r8 := fun p : Past W6 => cell_past k8 p
        have s8 := fun p : Past W6 => cell_past j8 p
        clear k0 k1 k2 k3 k4 k5 k6 k7 k8 j0 j1 j2 j3 j4 j5 j6 j7 j8 hm9 hb9 hb10 hB6 hM6 hO6
        have HD : Hid (Below W6.heap.size W6 W6.drew) := Lib.hid ⟨rfl, rfl, rfl, Nat.le_refl _, fun _ _ => rfl⟩
        go_wp2_with fail
        clear hW6
        refine wp_region_plan (.one [0, 1, 2, 3, 5] 4 (.one [] 6 (.one [] 7 (.last [8, 9])))) (by kernel_rfl) (by kernel_rfl) (fun d _ _ _ _ h => by cases d <;> exact h) ?_
        simp only [wpPlan, pick, nth]
        repeat (go_big_quiet_step (fail))
        refine wpQuiet_nil ?_
        intro K hK
        refine alone_want (by kernel_rfl) ?_
        go_big_op
        refine (ours_few _ _ _ _ M W6.drew (HO6.out.keep HD.out) HSN.out).mono ?_
        rintro en w10 ⟨v10, rfl, hm10, hb10⟩
        have HM10 := Lib.hid hm10
        have HP10 := Lib.hid (HD.out.trans (hb10.mono HD.out.size))
        clear hm10 hb10
        refine hK _ _ (past_in HP10.out) ?_
        clear hK K
        refine wpQuiet_nil ?_
        intro K hK
        refine alone_want (by kernel_rfl) ?_
        go_big_op
        refine (ours_few _ _ _ _ M w10 (HM6.out.keep HP10.out) HSN.out).mono ?_
        rintro en w11 ⟨v11, rfl, hm11, hb11⟩
        have HM11 := Lib.hid hm11
        have HK11 := Lib.hid (HM10.out.keep hb11)
        have HP11 := Lib.hid (HP10.out.trans (hb11.mono HP10.out.size))
        clear hm11 hb11
        refine hK _ _ (past_in HP11.out) ?_
        clear hK K
        refine wpQuiet_nil ?_
        intro K hK
        refine alone_want (by kernel_rfl) ?_
        go_big_op
        refine (same_vals v10 v11 M w11 HK11.out HM11.out).mono ?_
        rintro en w12 ⟨rfl, hb12⟩
        have HP12 := Lib.hid (HP11.out.trans (hb12.mono HP11.out.size))
        have HB12 := Lib.hid (HB6.out.trans (HP12.out.mono HB6.out.size))
        clear hb12
        refine hK _ _ (past_in HP12.out) ?_
        clear hK K
        repeat (go_big_quiet_step (fail))
        refine wpQuiet_nil ?_
        go_wp2
        go_ret
        exact ⟨rfl, HB12.out⟩
      | true =>
        obtain ⟨h2, hh2⟩ : ∃ h2, N / 2 = h2 := ⟨_, rfl⟩
        have hdiv : ((N : Nat) : Int).tdiv 2 = ((h2 : Nat) : Int) := by rw [Int.tdiv_eq_ediv_of_nonneg (by omega), ← hh2]; omega
        have hh2N : 2 * h2 ≤ N := by omega
        have HST : Hid (∃ K1, K1.Perm L ∧ HadAt w6 w4.heap.size (w2.heap.size + 1) (.slice (some ⟨g6, 0, none⟩) N cap6) K1 ∧ Below w4.heap.size w4 w6) := Lib.hid ⟨K0, HK0P.out, HK0.out, HB46.out⟩
        clear hh2
        go_wp2
        go_loopw [59] (fun s59 wr => ∃ i : Nat, i ≤ h2 ∧ s59 = .int .i64 (i : Int) ∧ Hid (∃ K1, K1.Perm L ∧ HadAt wr w4.heap.size (w2.heap.size + 1) (.slice (some ⟨g6, 0, none⟩) N cap6) K1 ∧ Below w4.heap.size w4 wr)) (fun s59 _ => h2 - (intOf s59).toNat)
        case atStart => exact ⟨0, Nat.zero_le _, rfl, HST⟩
        case round =>
          obtain ⟨i, hi, rfl, HKR⟩ := hrel
          obtain ⟨K1, hk1, hh1, hb1⟩ := HKR.out
          have HK1P := Lib.hid hk1
          have HK1 := Lib.hid hh1
          have HB1R := Lib.hid hb1
          have HK1L : Hid (K1.length = N) := Lib.hid (by rw [HK1P.out.length_eq, HN.out])
          clear hk1 hh1 hb1 HKR
          by_cases hlt : i < h2
          · obtain ⟨j, hj⟩ : ∃ j, N - 1 - i = j := ⟨_, rfl⟩
            have hjz : (N : Int) - 1 - (i : Int) = (j : Int) := by omega
            have hij : i ≠ j := by omega
            have hjN : j < N := by omega
            have hiN : i < N := by omega
            obtain ⟨⟨n1, ws1⟩, hx1⟩ : ∃ x, K1[i]? = some x := ⟨_, List.getElem?_eq_getElem (by rw [HK1L.out]; exact hiN)⟩
            obtain ⟨⟨n2, ws2⟩, hx2⟩ : ∃ x, K1[j]? = some x := ⟨_, List.getElem?_eq_getElem (by rw [HK1L.out]; exact hjN)⟩
            obtain ⟨_, _, u1, e1, _, _, c0, c1, hu1⟩ := HK1.out.at hx1
            rw [HK1L.out] at e1
            cases e1
            obtain ⟨_, _, u2, e2, _, _, d0, d1, hu2⟩ := HK1.out.at hx2
            rw [HK1L.out] at e2
            cases e2
            dsimp only at c0 c1 hu1 d0 d1 hu2
            have HU1 := Lib.hid hu1
            have HU2 := Lib.hid hu2
            have HX1 := Lib.hid hx1
            have HX2 := Lib.hid hx2
            obtain ⟨pu1, cu1, rfl⟩ := row_slice' hu1
            obtain ⟨pu2, cu2, rfl⟩ := row_slice' hu2
            have HGB : Hid (w4.heap.size ≤ g6) := Lib.hid (HK1.out.base)
            have HWB := Lib.hid HB1R.out.size
            have HD1 : Hid (Below w4.heap.size w4 wr.drew) := Lib.hid (HB1R.out.trans ⟨rfl, rfl, rfl, Nat.le_refl _, fun _ _ => rfl⟩)
            have HKD : Hid (HadAt wr.drew w4.heap.size (w2.heap.size + 1) (.slice (some ⟨g6, 0, none⟩) N cap6) K1) := Lib.hid (HK1.out.below ⟨rfl, rfl, rfl, Nat.le_refl _, fun _ _ => rfl⟩)
            obtain ⟨wq, hwq⟩ : ∃ wq, wr.drew = wq := ⟨_, rfl⟩
            rw [hwq] at HD1 HKD
            have f1 := HKD.out.frozen (i * 2)
            have f2 := HKD.out.frozen (i * 2 + 1)
            have hiz : (i : Int) < (N : Int) := by omega
            have hjz2 : (j : Int) < (N : Int) := by omega
            unfold maxLen at hcm6
            clear hx1 hx2 hu1 hu2 hj
            have x1 : wq.cell? ⟨g6, i * 2, none⟩ = some (.int .i64 n1) := by rw [← hwq]; exact c0
            have x2 : wq.cell? ⟨g6, i * 2 + 1, none⟩ = some (.slice pu1 ws1.length cu1) := by rw [← hwq]; exact c1
            have x3 : wq.cell? ⟨g6, j * 2, none⟩ = some (.int .i64 n2) := by rw [← hwq]; exact d0
            have x4 : wq.cell? ⟨g6, j * 2 + 1, none⟩ = some (.slice pu2 ws2.length cu2) := by rw [← hwq]; exact d1
            have hUD : ∀ {u : Value} {ws : List ByteArray}, wr.ownsRow (w2.heap.size + 1) 9 1 u ws.length (ws.map Value.string) → wq.ownsRow (w2.heap.size + 1) 9 1 u ws.length (ws.map Value.string) := fun h => by rw [← hwq]; exact row_below h ⟨rfl, rfl, rfl, Nat.le_refl _, fun _ _ => rfl⟩
            have hp1 := HKD.out.put (i := i) (num := n2) (hUD HU2.out) (by rw [HK1L.out]; exact hiN)
            obtain ⟨W1, hW1⟩ : ∃ W1, (wq.setCell ⟨g6, i * 2, none⟩ (.int .i64 n2)).setCell ⟨g6, i * 2 + 1, none⟩ (.slice pu2 ws2.length cu2) = W1 := ⟨_, rfl⟩
            rw [hW1] at hp1
            have HP1 := Lib.hid hp1
            have HG1 : Hid (W1.ownsRow (w2.heap.size + 1) 9 1 (.slice pu1 ws1.length cu1) ws1.length (ws1.map Value.string)) := Lib.hid (HKD.out.put_row (i := i) (num := n2) hW1 (hUD HU1.out))
            have hl2 : (K1.set i (n2, ws2))[j]? = some (n2, ws2) := by rw [List.getElem?_set_ne hij]; exact HX2.out
            obtain ⟨_, _, _, e5, _, _, y3, y4, _⟩ := HP1.out.1.at hl2
            rw [List.length_set, HK1L.out] at e5
            cases e5
            dsimp only at y3 y4
            have f3 := HP1.out.1.frozen (j * 2)
            have f4 := HP1.out.1.frozen (j * 2 + 1)
            have hp2 := HP1.out.1.put (i := j) (num := n1) HG1.out (by rw [List.length_set, HK1L.out]; exact hjN)
            obtain ⟨W2, hW2⟩ : ∃ W2, (W1.setCell ⟨g6, j * 2, none⟩ (.int .i64 n1)).setCell ⟨g6, j * 2 + 1, none⟩ (.slice pu1 ws1.length cu1) = W2 := ⟨_, rfl⟩
            rw [hW2] at hp2
            have HE1 := Lib.hid (HD1.out.trans HP1.out.2)
            have HE2 := Lib.hid (HE1.out.trans hp2.2)
            have HNX : Hid (∃ K1, K1.Perm L ∧ HadAt W2 w4.heap.size (w2.heap.size + 1) (.slice (some ⟨g6, 0, none⟩) N cap6) K1 ∧ Below w4.heap.size w4 W2) := Lib.hid ⟨_, (swap_perm HX1.out HX2.out).trans HK1P.out, hp2.1, HE2.out⟩
            have HS0 : Hid (Below w4.heap.size wr wq) := Lib.hid (by rw [← hwq]; exact ⟨rfl, rfl, rfl, Nat.le_refl _, fun _ _ => rfl⟩)
            have HS1 := Lib.hid (HS0.out.trans HP1.out.2)
            have HS2 := Lib.hid (HS1.out.trans hp2.2)
            clear hp1 hp2 hl2 hUD c0 c1 d0 d1
            go_wp2_with fail
            refine wp_region_since w4.heap.size (.two [0, 1, 2, 3, 4, 5, 6, 7, 8, 9, 10, 11, 12, 13, 14, 16, 17, 18] 15 (.one [] 19 (.one [20] 21 (.one [22] 23 (.last [])))) 19 (.one [] 15 (.one [20] 21 (.one [22] 23 (.last []))))) (by kernel_rfl) (by kernel_rfl) (fun d _ _ _ _ h => by cases d <;> exact h) ?_
            rw [hwq]
            clear hwq
            simp only [wpPlan, pick, nth]
            repeat (go_big_quiet_step (fail))
            refine wpQuiet_nil ?_
            refine ⟨?_, ?_⟩
            all_goals
              intro K hK
              refine alone_want (by kernel_rfl) ?_
              go_big_op
              refine hK _ _ (since_in HS0.out) ?_
              clear hK K
              refine wpQuiet_nil ?_
              intro K hK
              refine alone_want (by kernel_rfl) ?_
              go_big_op
              refine hK _ _ (since_in HS0.out) ?_
              clear hK K
              repeat (go_big_quiet_step (fail))
              refine wpQuiet_nil ?_
              intro K hK
              refine alone_want (by kernel_rfl) ?_
              go_big_op
              refine hK _ _ (since_in HS1.out) ?_
              clear hK K f1 f2 x1 x2 x3 x4
              repeat (go_big_quiet_step (fail))
              refine wpQuiet_nil ?_
              intro K hK
              refine alone_want (by kernel_rfl) ?_
              go_big_op
              refine hK _ _ (since_in HS2.out) ?_
              clear hK K y3 y4 f3 f4 hW1 hW2
              refine wpQuiet_nil ?_
              go_wp2
              go_roundw
              case rel => exact ⟨i + 1, by omega, by go_num, HNX⟩
              case measure => simp [intOf]; omega
          · have hxx := hlt
            have HJ := Lib.hid (rjoin_at _ K1 wr HK1.out.lines (by rw [HK1L.out]; omega) (order_few HR.out HWT.out HK1P.out))
            obtain ⟨T, hT⟩ : ∃ T, mkB (joinL K1) = T := ⟨_, rfl⟩
            obtain ⟨hPT, hTn⟩ := order_text HR.out (by omega : s.size ≤ 4000) HWT.out HK1P.out hT
            rw [hT] at HJ
            have HB5 := Lib.hid (HB4.out.trans (HB1R.out.mono HB4.out.size))
            have HL5 := Lib.hid (HL.out.below HB5.out (Nat.le_refl _))
            have HLF5 := Lib.hid (HLF.out.below HB5.out (Nat.le_refl _))
            have HPA := Lib.hid (parse_any T wr hTn HL5.out HLF5.out)
            rw [hPT] at HPA
            have HN5 := Lib.hid (HN4.out.kept HB1R.out)
            have HM5 := Lib.hid (HM4.out.keep HB1R.out)
            clear hT hPT hTn
            go_wp2_with fail
            refine HJ.out.mono ?_
            rintro en w8 ⟨rfl, rfl⟩
            go_wp2_with fail
            refine HPA.out.mono ?_
            rintro en w9 ⟨v9, rfl, ⟨c9, f9, e9, l9, rfl, hm9⟩, hb9⟩
            obtain ⟨qc, dc, qf, df, qe, de, ql, dl, rfl, rfl, rfl, rfl⟩ := mast_shapes hm9
            have hb10 := hb9.alloc hb9.size (.cells (cellsM (.slice qc M.chart.length dc) (.slice qf M.flows.length df) (.slice qe M.ents.length de) (.slice ql M.lines.length dl) M) 30)
            have hB6 := HB5.out.trans (hb10.mono HB5.out.size)
            have hM6 := HM5.out.keep hb10
            have hN6 := HN5.out.kept hb10
            have hO6 := hm9.keep ((Below.refl w9.heap.size w9).alloc (Nat.le_refl _) (.cells (cellsM (.slice qc M.chart.length dc) (.slice qf M.flows.length df) (.slice qe M.ents.length de) (.slice ql M.lines.length dl) M) 30))
            have hP6 := nine_new w9 (.slice qc M.chart.length dc) (.slice qf M.flows.length df) (.slice qe M.ents.length de) (.slice ql M.lines.length dl) M 30
            obtain ⟨W6, hW6⟩ : ∃ W6, w9.alloc (.cells (cellsM (.slice qc M.chart.length dc) (.slice qf M.flows.length df) (.slice qe M.ents.length de) (.slice ql M.lines.length dl) M) 30) = W6 := ⟨_, rfl⟩
            rw [hW6] at hB6 hM6 hN6 hO6 hP6
            have HB6 := Lib.hid hB6
            have HM6 := Lib.hid hM6
            have HO6 := Lib.hid hO6
            obtain ⟨k0, k1, k2, k3, k4, k5, k6, k7, k8⟩ := hN6
            obtain ⟨j0, j1, j2, j3, j4, j5, j6, j7, j8⟩ := hP6
            have r0 := fun p : Past W6 => cell_past k0 p
            have s0 := fun p : Past W6 => cell_past j0 p
            have r1 := fun p : Past W6 => cell_past k1 p
            have s1 := fun p : Past W6 => cell_past j1 p
            have r2 := fun p : Past W6 => cell_past k2 p
            have s2 := fun p : Past W6 => cell_past j2 p
            have r3 := fun p : Past W6 => cell_past k3 p
            have s3 := fun p : Past W6 => cell_past j3 p
            have r4 := fun p : Past W6 => cell_past k4 p
            have s4 := fun p : Past W6 => cell_past j4 p
            have r5 := fun p : Past W6 => cell_past k5 p
            have s5 := fun p : Past W6 => cell_past j5 p
            have r6 := fun p : Past W6 => cell_past k6 p
            have s6 := fun p : Past W6 => cell_past j6 p
            have r7 := fun p : Past W6 => cell_past k7 p
            have s7 := fun p : Past W6 => cell_past j7 p
            have r8 := fun p : Past W6 => cell_past k8 p
            have s8 := fun p : Past W6 => cell_past j8 p
            clear k0 k1 k2 k3 k4 k5 k6 k7 k8 j0 j1 j2 j3 j4 j5 j6 j7 j8 hm9 hb9 hb10 hB6 hM6 hO6
            have HD : Hid (Below W6.heap.size W6 W6.drew) := Lib.hid ⟨rfl, rfl, rfl, Nat.le_refl _, fun _ _ => rfl⟩
            go_wp2_with fail
            clear hW6
            refine wp_region_plan (.one [0, 1, 2, 3, 5] 4 (.one [] 6 (.one [] 7 (.last [8, 9])))) (by kernel_rfl) (by kernel_rfl) (fun d _ _ _ _ h => by cases d <;> exact h) ?_
            simp only [wpPlan, pick, nth]
            repeat (go_big_quiet_step (fail))
            refine wpQuiet_nil ?_
            intro K hK
            refine alone_want (by kernel_rfl) ?_
            go_big_op
            refine (ours_few _ _ _ _ M W6.drew (HO6.out.keep HD.out) HSN.out).mono ?_
            rintro en w10 ⟨v10, rfl, hm10, hb10⟩
            have HM10 := Lib.hid hm10
            have HP10 := Lib.hid (HD.out.trans (hb10.mono HD.out.size))
            clear hm10 hb10
            refine hK _ _ (past_in HP10.out) ?_
            clear hK K
            refine wpQuiet_nil ?_
            intro K hK
            refine alone_want (by kernel_rfl) ?_
            go_big_op
            refine (ours_few _ _ _ _ M w10 (HM6.out.keep HP10.out) HSN.out).mono ?_
            rintro en w11 ⟨v11, rfl, hm11, hb11⟩
            have HM11 := Lib.hid hm11
            have HK11 := Lib.hid (HM10.out.keep hb11)
            have HP11 := Lib.hid (HP10.out.trans (hb11.mono HP10.out.size))
            clear hm11 hb11
            refine hK _ _ (past_in HP11.out) ?_
            clear hK K
            refine wpQuiet_nil ?_
            intro K hK
            refine alone_want (by kernel_rfl) ?_
            go_big_op
            refine (same_vals v10 v11 M w11 HK11.out HM11.out).mono ?_
            rintro en w12 ⟨rfl, hb12⟩
            have HP12 := Lib.hid (HP11.out.trans (hb12.mono HP11.out.size))
            have HB12 := Lib.hid (HB6.out.trans (HP12.out.mono HB6.out.size))
            clear hb12
            refine hK _ _ (past_in HP12.out) ?_
            clear hK K
            repeat (go_big_quiet_step (fail))
            refine wpQuiet_nil ?_
            go_wp2
            go_ret
            exact ⟨rfl, HB12.out⟩
  · clear hz
    have hnz : (n != 0) = true := by simp [hn]
    go_wp2
    go_ret
    exact ⟨rfl, HB4.out⟩
end Go.Proofs.YticdmlijacnjbaaGreatDoor.Un
