
/- The walk of the document's all: what is asked behind the last line. What was there stays. -/
import Derived.Test.YticdmlijacnjbaaGreatDoorUnitDocBits
import Derived.Test.YticdmlijacnjbaaGreatDoorM29
import Derived.Test.YticdmlijacnjbaaGreatDoorFlowDocKind
import Derived.Test.YticdmlijacnjbaaGreatDoorSegs
namespace Go.Proofs.YticdmlijacnjbaaGreatDoor.Un
open Go.RowKit

/-- An account stored into a box. -/
theorem wp_store_acct {P : Program} {o : Oper} {act : Act} {w : World} {K : Act → World → Prop} {Q : Exit → Act → World → Prop} (ty : TypeId) (x y : Operand) (ho : o.op = .store ty x y)
    (g : Nat) (z a : Acct) (t : TypeId) (hx : act.eval x = .pointer (some ⟨g, 0, none⟩)) (hy : act.eval y = aggF a) (hg : BoxA w g t z) (hi : (P.info? ty).map (·.size) = some 6)
    (h : ∀ w', BoxA w' g t a → w.grownBy w' (some g) → K (act.put o.dst undef) w') : o.wp P act w K Q :=
  wp_store_row ty x y ho g _ hx hy t _ hg hi rfl (acct_one a) (h _ (hg.set a) (grownBy_setRow w g _))
/-- The codes that are asked for, and their classes. -/
def codesD (M : Mast) : List (ByteArray × Int) := [(M.res, 2), (M.min, 2), (M.dif, 0), (M.stk, 0)]
theorem codesD_cls {M : Mast} {i : Nat} {x : ByteArray} {k : Int} (h : (codesD M)[i]? = some (x, k)) : k = if 1 < i then 0 else 2 := by
  match i, h with
  | 0, h => simp [codesD] at h; simp [h.2.symm]
  | 1, h => simp [codesD] at h; simp [h.2.symm]
  | 2, h => simp [codesD] at h; simp [h.2.symm]
  | 3, h => simp [codesD] at h; simp [h.2.symm]
  | i + 4, h => simp [codesD] at h
/-- What is asked behind all, by the document. -/
def allD (M : Mast) : Int :=
  if M.cur = emp then 6
  else if (codesD M).all (fun x => (findL M.chart x.1).isSome) = false then 6
  else if M.lines.all (fun x => (findL M.chart x.acc).isSome && (Fl.findF M.flows x.flow).isSome) = false then 6
  else if Fl.wholeTo M.flows 5 = false then 8
  else if (codesD M).all (fun x => specA (findV (findL M.chart x.1)) x.2) = false then 15 else 0
set_option maxRecDepth 100000 in
set_option maxHeartbeats 16000000 in
theorem rall_any (c f e l : Value) (M : Mast) (w : World) (h : MastIn w c f e l M) (hfl : M.flows.length ≤ 1000) :
    Calls Tryz.prog 29 #[aggM c f e l M] w fun en w' => en = .returned (.int .i64 (allD M)) ∧ Below w.heap.size w w' := by
  have hb0 := (Below.refl w.heap.size w).alloc (Nat.le_refl _) (.cells (cellsM c f e l M) 39)
  have hb1 := hb0.alloc hb0.size (.cells #[.string M.res, .string M.min, .string M.dif, .string M.stk] 9)
  have hbx := (Below.refl _ (w.alloc (.cells (cellsM c f e l M) 39))).alloc (Nat.le_refl _) (.cells #[.string M.res, .string M.min, .string M.dif, .string M.stk] 9)
  have hn0 := nine_new w c f e l M 39
  have hn1 := hn0.kept hbx
  have hm1 := h.keep hb1
  have hst := strs_new (w.alloc (.cells (cellsM c f e l M) 39)) ((codesD M).map (·.1)) 9 (by unfold maxLen; simp [codesD])
  rw [World.size_alloc] at hst
  obtain ⟨W1, hW1⟩ : ∃ W1, (w.alloc (.cells (cellsM c f e l M) 39)).alloc (.cells #[.string M.res, .string M.min, .string M.dif, .string M.stk] 9) = W1 := ⟨_, rfl⟩
  have hst1 : StrsV W1 (.slice (some ⟨w.heap.size + 1, 0, none⟩) 4 4) ((codesD M).map (·.1)) := by rw [← hW1]; exact hst
  rw [hW1] at hb1 hn1 hm1
  have HB1 := Lib.hid hb1
  have HN1 := Lib.hid hn1
  have HM1 := Lib.hid hm1
  obtain ⟨p, cp, e1, _, _, hst2⟩ := hst1
  cases e1
  have HST := Lib.hid hst2
  have HCN : Hid ((codesD M).length = 4) := Lib.hid rfl
  obtain ⟨pl, cl, el, hcl, hml, _, hlv⟩ := hm1.lines
  subst el
  obtain ⟨n, hn⟩ : ∃ n, M.lines.length = n := ⟨_, rfl⟩
  rw [hn] at hcl HN1 HM1 hn1 hW1 ⊢
  have HN := Lib.hid hn
  have HLV := Lib.hid hlv
  have HFI := Lib.hid (fun x W hW => rcfind_any c M.chart x W hW)
  have HKI := Lib.hid (fun x W hW => rkind_any f M.flows x W hW)
  have HWH := Lib.hid (fun W hW => rwhole_any f M.flows W hW hfl)
  obtain ⟨R, hR⟩ : ∃ R, allD M = R := ⟨_, rfl⟩
  rw [hR]
  have HR : Hid (allD M = R) := Lib.hid hR
  unfold maxLen at hml
  by_cases hcur : M.cur = emp
  · have HRF : Hid (R = 6) := Lib.hid (by rw [← HR.out]; unfold allD; rw [if_pos hcur])
    have hq2 : M.cur.toList.isEmpty = true := by
      have hne : (!M.cur.toList.isEmpty) = false := by rw [hcur]; exact neB_empty
      revert hne; cases M.cur.toList.isEmpty <;> simp
    clear hb0 hb1 hbx hn0 hm1 hst hst2 hn hlv hR h hcur
    obtain ⟨k0, k1, k2, k3, k4, k5, k6, k7, k8⟩ := hn1
    go_enter Tryz.func29, Tryz.ntmps29
    go_wp2
    go_ret
    exact ⟨by rw [HRF.out]; rfl, HB1.out⟩
  have HCU := Lib.hid hcur
  have hq2 : M.cur.toList.isEmpty = false := by
    have hne : (!M.cur.toList.isEmpty) = true := (neB_iff M.cur).2 hcur
    revert hne; cases M.cur.toList.isEmpty <;> simp
  clear hb0 hb1 hbx hn0 hm1 hst hst2 hn hlv hR h hcur
  obtain ⟨k0, k1, k2, k3, k4, k5, k6, k7, k8⟩ := hn1
  go_enter Tryz.func29, Tryz.ntmps29
  go_wp2
  clear k0 k1 k2 k3 k4 k5 k6 k7 k8 hW1 hq2
  go_loopw [4] (fun si wr => ∃ i : Nat, i ≤ 4 ∧ si = .int .i64 (i : Int) ∧ Hid (Below W1.heap.size W1 wr) ∧ Hid (SoFar (fun x : ByteArray × Int => (findL M.chart x.1).isSome) (codesD M) i)) (fun si _ => 4 - (intOf si).toNat)
  case atStart => exact ⟨0, by omega, rfl, Lib.hid (Below.refl _ _), Lib.hid (SoFar.zero _ _)⟩
  case round =>
    obtain ⟨i, hi, rfl, HB, HSF⟩ := hrel
    by_cases hlt : i < 4
    · obtain ⟨⟨x, kx⟩, hx⟩ : ∃ x, (codesD M)[i]? = some x := ⟨_, List.getElem?_eq_getElem (by rw [HCN.out]; exact hlt)⟩
      obtain ⟨b, o, e2, hcx⟩ := HST.out i x (by rw [List.getElem?_map, hx]; rfl)
      cases e2
      have HX := Lib.hid hx
      have y0 := cell_later HB.out hcx
      rw [Nat.zero_add] at y0
      have k0 := (HN1.out.keep HB.out HN1.out.lt).c0
      have r0 := fun p : Past wr => cell_past y0 p
      have r1 := fun p : Past wr => cell_past k0 p
      obtain ⟨FA, hFA⟩ : ∃ FA, findV (findL M.chart x) = FA := ⟨_, rfl⟩
      obtain ⟨IS, hIS⟩ : ∃ IS, (findL M.chart x).isSome = IS := ⟨_, rfl⟩
      have HF := Lib.hid (HFI.out x)
      rw [hFA, hIS] at HF
      have HIS := Lib.hid hIS
      have HCH := Lib.hid (HM1.out.chart.keep HB.out)
      clear hx hcx hFA hIS y0 k0
      go_wp2_with fail
      refine wp_region_plan (.two [0, 1, 2, 3, 4, 5] 6 (.one [7, 8, 9] 10 (.one [] 11 (.last [12]))) 10 (.one [] 6 (.one [7, 8, 9] 11 (.last [12])))) (by kernel_rfl) (by kernel_rfl) (fun d _ _ _ _ h => by cases d <;> exact h) ?_
      obtain ⟨wq, hwq⟩ : ∃ wq, wr.drew = wq := ⟨_, rfl⟩
      rw [hwq]
      have HD : Hid (Below wr.heap.size wr wq) := Lib.hid (by rw [← hwq]; exact ⟨rfl, rfl, rfl, Nat.le_refl _, fun _ _ => rfl⟩)
      clear hwq
      simp only [wpPlan, pick, nth]
      repeat (go_big_quiet_step (fail))
      refine wpQuiet_nil ?_
      clear r0 r1
      refine ⟨?_, ?_⟩
      · intro K hK
        refine alone_want (by kernel_rfl) ?_
        go_big_op
        refine (HF.out wq (HCH.out.keep HD.out)).mono ?_
        rintro en w2 ⟨rfl, hb2⟩
        have HP2 := Lib.hid (HD.out.trans (hb2.mono HD.out.size))
        clear hb2
        refine hK _ _ (past_in HP2.out) ?_
        clear hK K
        repeat (go_big_quiet_step (fail))
        refine wpQuiet_nil ?_
        intro K hK
        refine alone_want (by kernel_rfl) ?_
        go_big_op
        have HP3 := Lib.hid (HP2.out.alloc HP2.out.size (.cells (encA.cs zeroA).toArray 99))
        refine hK _ _ (past_in HP3.out) ?_
        clear hK K
        refine wpQuiet_nil ?_
        intro K hK
        refine alone_want (by kernel_rfl) ?_
        refine wp_store_acct 99 (.tmp 5) (.tmp 40) rfl w2.heap.size zeroA FA 99 rfl rfl (BoxA.new w2 zeroA _) (by kernel_rfl) ?_
        intro w3 hb3 hg3
        have HP4 := Lib.hid (HP3.out.grown hg3 HP3.out.size (fun j hj => by cases hj; exact HP2.out.size))
        have HX3 := Lib.hid hb3
        clear hb3 hg3
        refine hK _ _ (past_in HP4.out) ?_
        clear hK K
        simp only [Act.put]
        repeat (go_big_quiet_step (fail))
        refine wpQuiet_nil ?_
        have HBN := Lib.hid (HB.out.trans (HP4.out.mono HB.out.size))
        cases IS with
        | false =>
          have HRF : Hid (R = 6) := Lib.hid (by
            rw [← HR.out]; unfold allD
            rw [if_neg HCU.out, if_pos (all_no HX.out HIS.out)])
          go_wp2
          go_ret
          exact ⟨by rw [HRF.out]; rfl, HB1.out.trans (HBN.out.mono HB1.out.size)⟩
        | true =>
          have HSN := Lib.hid (HSF.out.next HX.out HIS.out)
          go_wp2
          go_roundw
          case rel => exact ⟨i + 1, by omega, by go_num, HBN, HSN⟩
          case measure => simp [intOf]; omega
      · intro K hK
        refine alone_want (by kernel_rfl) ?_
        go_big_op
        have HP2 := Lib.hid (HD.out.alloc HD.out.size (.cells (encA.cs zeroA).toArray 99))
        have hb2 : BoxA (wq.alloc (.cells (encA.cs zeroA).toArray 99)) wq.heap.size 99 zeroA := BoxA.new wq zeroA _
        refine hK _ _ (past_in HP2.out) ?_
        clear hK K
        refine wpQuiet_nil ?_
        intro K hK
        refine alone_want (by kernel_rfl) ?_
        go_big_op
        refine (HF.out _ (HCH.out.keep HP2.out)).mono ?_
        rintro en w2 ⟨rfl, hb3⟩
        have HP3 := Lib.hid (HP2.out.trans (hb3.mono HP2.out.size))
        have HX2 := Lib.hid (hb2.keep hb3 (Array.getElem?_eq_some_iff.1 hb2).1)
        clear hb2 hb3
        refine hK _ _ (past_in HP3.out) ?_
        clear hK K
        repeat (go_big_quiet_step (fail))
        refine wpQuiet_nil ?_
        intro K hK
        refine alone_want (by kernel_rfl) ?_
        refine wp_store_acct 99 (.tmp 5) (.tmp 40) rfl wq.heap.size zeroA FA 99 rfl rfl HX2.out (by kernel_rfl) ?_
        intro w3 hb3 hg3
        have HP4 := Lib.hid (HP3.out.grown hg3 HP3.out.size (fun j hj => by cases hj; exact HD.out.size))
        have HX3 := Lib.hid hb3
        clear hb3 hg3
        refine hK _ _ (past_in HP4.out) ?_
        clear hK K
        simp only [Act.put]
        repeat (go_big_quiet_step (fail))
        refine wpQuiet_nil ?_
        have HBN := Lib.hid (HB.out.trans (HP4.out.mono HB.out.size))
        cases IS with
        | false =>
          have HRF : Hid (R = 6) := Lib.hid (by
            rw [← HR.out]; unfold allD
            rw [if_neg HCU.out, if_pos (all_no HX.out HIS.out)])
          go_wp2
          go_ret
          exact ⟨by rw [HRF.out]; rfl, HB1.out.trans (HBN.out.mono HB1.out.size)⟩
        | true =>
          have HSN := Lib.hid (HSF.out.next HX.out HIS.out)
          go_wp2
          go_roundw
          case rel => exact ⟨i + 1, by omega, by go_num, HBN, HSN⟩
          case measure => simp [intOf]; omega
    · have HA1 : Hid ((codesD M).all (fun x => (findL M.chart x.1).isSome) = true) := Lib.hid (HSF.out.done (by rw [HCN.out]; omega))
      rename World => wa
      go_wp2
      go_loopw [7] (fun si wr => ∃ i : Nat, i ≤ n ∧ si = .int .i64 (i : Int) ∧ Hid (Below W1.heap.size W1 wr) ∧ Hid (SoFar (fun x : Lin => (findL M.chart x.acc).isSome && (Fl.findF M.flows x.flow).isSome) M.lines i)) (fun si _ => n - (intOf si).toNat)
      case atStart => exact ⟨0, by omega, rfl, HB, Lib.hid (SoFar.zero _ _)⟩
      case round =>
        clear HB HSF
        obtain ⟨i, hi, rfl, HB, HSF⟩ := hrel
        by_cases hlt : i < n
        · obtain ⟨x, hx⟩ : ∃ x, M.lines[i]? = some x := ⟨_, List.getElem?_eq_getElem (by rw [HN.out]; exact hlt)⟩
          obtain ⟨b, o, rfl, hat⟩ := HLV.out i x hx
          have HX := Lib.hid hx
          have HAT := Lib.hid hat
          obtain ⟨d0, d1, d2⟩ := lin3 (hat.keep HB.out hat.lt)
          obtain ⟨k0, k1, k2, k3, k4, k5, k6, k7, k8⟩ := HN1.out.keep HB.out HN1.out.lt
          have r0 := fun p : Past wr => cell_past d0 p
          have r1 := fun p : Past wr => cell_past k0 p
          have r2 := fun p : Past wr => cell_past k3 p
          obtain ⟨FA, hFA⟩ : ∃ FA, findV (findL M.chart x.acc) = FA := ⟨_, rfl⟩
          obtain ⟨IS, hIS⟩ : ∃ IS, (findL M.chart x.acc).isSome = IS := ⟨_, rfl⟩
          obtain ⟨KK, hKK⟩ : ∃ KK, kindO' (Fl.findF M.flows x.flow) = KK := ⟨_, rfl⟩
          obtain ⟨HS, hHS⟩ : ∃ HS, (Fl.findF M.flows x.flow).isSome = HS := ⟨_, rfl⟩
          have HF := Lib.hid (HFI.out x.acc)
          have HK := Lib.hid (HKI.out x.flow)
          rw [hFA, hIS] at HF
          rw [hKK, hHS] at HK
          have HIS := Lib.hid hIS
          have HHS := Lib.hid hHS
          have HCH := Lib.hid (HM1.out.chart.keep HB.out)
          clear hx hat hFA hIS hKK hHS d0 d1 d2 k0 k1 k2 k4 k5 k6 k7 k8
          go_wp2_with fail
          refine wp_region_plan (.two [0, 1, 2, 3, 4, 5, 6, 7] 8 (.one [9, 10, 11] 12 (.one [] 13 (.last [14]))) 12 (.one [] 8 (.one [9, 10, 11] 13 (.last [14])))) (by kernel_rfl) (by kernel_rfl) (fun d _ _ _ _ h => by cases d <;> exact h) ?_
          obtain ⟨wq, hwq⟩ : ∃ wq, wr.drew = wq := ⟨_, rfl⟩
          rw [hwq]
          have HD : Hid (Below wr.heap.size wr wq) := Lib.hid (by rw [← hwq]; exact ⟨rfl, rfl, rfl, Nat.le_refl _, fun _ _ => rfl⟩)
          clear hwq
          simp only [wpPlan, pick, nth]
          repeat (go_big_quiet_step (fail))
          refine wpQuiet_nil ?_
          clear r0 r1 r2 k3
          refine ⟨?_, ?_⟩
          · intro K hK
            refine alone_want (by kernel_rfl) ?_
            go_big_op
            refine (HF.out wq (HCH.out.keep HD.out)).mono ?_
            rintro en w2 ⟨rfl, hb2⟩
            have HP2 := Lib.hid (HD.out.trans (hb2.mono HD.out.size))
            clear hb2
            refine hK _ _ (past_in HP2.out) ?_
            clear hK K
            repeat (go_big_quiet_step (fail))
            refine wpQuiet_nil ?_
            intro K hK
            refine alone_want (by kernel_rfl) ?_
            go_big_op
            have HP3 := Lib.hid (HP2.out.alloc HP2.out.size (.cells (encA.cs zeroA).toArray 99))
            refine hK _ _ (past_in HP3.out) ?_
            clear hK K
            refine wpQuiet_nil ?_
            intro K hK
            refine alone_want (by kernel_rfl) ?_
            refine wp_store_acct 99 (.tmp 8) (.tmp 61) rfl w2.heap.size zeroA FA 99 rfl rfl (BoxA.new w2 zeroA _) (by kernel_rfl) ?_
            intro w3 hb3 hg3
            have HP4 := Lib.hid (HP3.out.grown hg3 HP3.out.size (fun j hj => by cases hj; exact HP2.out.size))
            have HX3 := Lib.hid hb3
            clear hb3 hg3
            refine hK _ _ (past_in HP4.out) ?_
            clear hK K
            simp only [Act.put]
            repeat (go_big_quiet_step (fail))
            refine wpQuiet_nil ?_
            have HBN := Lib.hid (HB.out.trans (HP4.out.mono HB.out.size))
            obtain ⟨d0, d1, d2⟩ := lin3 (HAT.out.keep HBN.out HAT.out.lt)
            obtain ⟨k0, k1, k2, k3, k4, k5, k6, k7, k8⟩ := HN1.out.keep HBN.out HN1.out.lt
            have s0 := fun p : Past w3 => cell_past d1 p
            have s1 := fun p : Past w3 => cell_past k1 p
            have s2 := fun p : Past w3 => cell_past k3 p
            have HFV := Lib.hid (HM1.out.flows.keep HBN.out)
            have HD5 : Hid (Below w3.heap.size w3 w3.drew) := Lib.hid ⟨rfl, rfl, rfl, Nat.le_refl _, fun _ _ => rfl⟩
            clear d0 d1 d2 k0 k1 k2 k3 k4 k5 k6 k7 k8
            go_wp2_with fail
            refine wp_region_plan (.one [0, 1, 2, 3, 4, 5, 6, 7] 8 (.last [9, 10, 11, 12, 13])) (by kernel_rfl) (by kernel_rfl) (fun d _ _ _ _ h => by cases d <;> exact h) ?_
            simp only [wpPlan, pick, nth]
            repeat (go_big_quiet_step (fail))
            refine wpQuiet_nil ?_
            intro K hK
            refine alone_want (by kernel_rfl) ?_
            go_big_op
            refine (HK.out _ (HFV.out.keep HD5.out)).mono ?_
            rintro en w5 ⟨rfl, hb5⟩
            have HP5 := Lib.hid (HD5.out.trans (hb5.mono HD5.out.size))
            have HBM := Lib.hid (HBN.out.trans (HP5.out.mono HBN.out.size))
            refine hK _ _ (past_in HP5.out) ?_
            clear hK K hb5 s0 s1 s2
            repeat (go_big_quiet_step (fail))
            refine wpQuiet_nil ?_
            have HRX : Hid ((IS && HS) = false → R = 6) := Lib.hid (fun hf => by
              rw [← HR.out]; unfold allD
              rw [if_neg HCU.out, if_neg (by rw [HA1.out]; simp), if_pos (all_no HX.out (by rw [HIS.out, HHS.out]; exact hf))])
            cases IS with
            | false =>
              have HRF := Lib.hid (HRX.out rfl)
              go_wp2
              go_ret
              exact ⟨by rw [HRF.out]; rfl, HB1.out.trans (HBM.out.mono HB1.out.size)⟩
            | true =>
              cases HS with
              | false =>
                have HRF := Lib.hid (HRX.out rfl)
                go_wp2
                go_ret
                exact ⟨by rw [HRF.out]; rfl, HB1.out.trans (HBM.out.mono HB1.out.size)⟩
              | true =>
                have HSN := Lib.hid (HSF.out.next HX.out (by rw [HIS.out, HHS.out]; rfl))
                go_wp2
                go_roundw
                case rel => exact ⟨i + 1, by omega, by go_num, HBM, HSN⟩
                case measure => simp [intOf]; omega
          · intro K hK
            refine alone_want (by kernel_rfl) ?_
            go_big_op
            have HP2 := Lib.hid (HD.out.alloc HD.out.size (.cells (encA.cs zeroA).toArray 99))
            have hb2 : BoxA (wq.alloc (.cells (encA.cs zeroA).toArray 99)) wq.heap.size 99 zeroA := BoxA.new wq zeroA _
            refine hK _ _ (past_in HP2.out) ?_
            clear hK K
            refine wpQuiet_nil ?_
            intro K hK
            refine alone_want (by kernel_rfl) ?_
            go_big_op
            refine (HF.out _ (HCH.out.keep HP2.out)).mono ?_
            rintro en w2 ⟨rfl, hb3⟩
            have HP3 := Lib.hid (HP2.out.trans (hb3.mono HP2.out.size))
            have HX2 := Lib.hid (hb2.keep hb3 (Array.getElem?_eq_some_iff.1 hb2).1)
            clear hb2 hb3
            refine hK _ _ (past_in HP3.out) ?_
            clear hK K
            repeat (go_big_quiet_step (fail))
            refine wpQuiet_nil ?_
            intro K hK
            refine alone_want (by kernel_rfl) ?_
            refine wp_store_acct 99 (.tmp 8) (.tmp 61) rfl wq.heap.size zeroA FA 99 rfl rfl HX2.out (by kernel_rfl) ?_
            intro w3 hb3 hg3
            have HP4 := Lib.hid (HP3.out.grown hg3 HP3.out.size (fun j hj => by cases hj; exact HD.out.size))
            have HX3 := Lib.hid hb3
            clear hb3 hg3
            refine hK _ _ (past_in HP4.out) ?_
            clear hK K
            simp only [Act.put]
            repeat (go_big_quiet_step (fail))
            refine wpQuiet_nil ?_
            have HBN := Lib.hid (HB.out.trans (HP4.out.mono HB.out.size))
            obtain ⟨d0, d1, d2⟩ := lin3 (HAT.out.keep HBN.out HAT.out.lt)
            obtain ⟨k0, k1, k2, k3, k4, k5, k6, k7, k8⟩ := HN1.out.keep HBN.out HN1.out.lt
            have s0 := fun p : Past w3 => cell_past d1 p
            have s1 := fun p : Past w3 => cell_past k1 p
            have s2 := fun p : Past w3 => cell_past k3 p
            have HFV := Lib.hid (HM1.out.flows.keep HBN.out)
            have HD5 : Hid (Below w3.heap.size w3 w3.drew) := Lib.hid ⟨rfl, rfl, rfl, Nat.le_refl _, fun _ _ => rfl⟩
            clear d0 d1 d2 k0 k1 k2 k3 k4 k5 k6 k7 k8
            go_wp2_with fail
            refine wp_region_plan (.one [0, 1, 2, 3, 4, 5, 6, 7] 8 (.last [9, 10, 11, 12, 13])) (by kernel_rfl) (by kernel_rfl) (fun d _ _ _ _ h => by cases d <;> exact h) ?_
            simp only [wpPlan, pick, nth]
            repeat (go_big_quiet_step (fail))
            refine wpQuiet_nil ?_
            intro K hK
            refine alone_want (by kernel_rfl) ?_
            go_big_op
            refine (HK.out _ (HFV.out.keep HD5.out)).mono ?_
            rintro en w5 ⟨rfl, hb5⟩
            have HP5 := Lib.hid (HD5.out.trans (hb5.mono HD5.out.size))
            have HBM := Lib.hid (HBN.out.trans (HP5.out.mono HBN.out.size))
            refine hK _ _ (past_in HP5.out) ?_
            clear hK K hb5 s0 s1 s2
            repeat (go_big_quiet_step (fail))
            refine wpQuiet_nil ?_
            have HRX : Hid ((IS && HS) = false → R = 6) := Lib.hid (fun hf => by
              rw [← HR.out]; unfold allD
              rw [if_neg HCU.out, if_neg (by rw [HA1.out]; simp), if_pos (all_no HX.out (by rw [HIS.out, HHS.out]; exact hf))])
            cases IS with
            | false =>
              have HRF := Lib.hid (HRX.out rfl)
              go_wp2
              go_ret
              exact ⟨by rw [HRF.out]; rfl, HB1.out.trans (HBM.out.mono HB1.out.size)⟩
            | true =>
              cases HS with
              | false =>
                have HRF := Lib.hid (HRX.out rfl)
                go_wp2
                go_ret
                exact ⟨by rw [HRF.out]; rfl, HB1.out.trans (HBM.out.mono HB1.out.size)⟩
              | true =>
                have HSN := Lib.hid (HSF.out.next HX.out (by rw [HIS.out, HHS.out]; rfl))
                go_wp2
                go_roundw
                case rel => exact ⟨i + 1, by omega, by go_num, HBM, HSN⟩
                case measure => simp [intOf]; omega
        · have HA2 : Hid (M.lines.all (fun x => (findL M.chart x.acc).isSome && (Fl.findF M.flows x.flow).isSome) = true) := Lib.hid (HSF.out.done (by rw [HN.out]; omega))
          obtain ⟨k0, k1, k2, k3, k4, k5, k6, k7, k8⟩ := HN1.out.keep HB.out HN1.out.lt
          have HFV := Lib.hid (HM1.out.flows.keep HB.out)
          obtain ⟨WH, hWH⟩ : ∃ WH, Fl.wholeTo M.flows 5 = WH := ⟨_, rfl⟩
          have HW := Lib.hid (HWH.out)
          rw [hWH] at HW
          have HHW := Lib.hid hWH
          clear hWH
          go_wp2_with fail
          refine (HW.out _ HFV.out).mono ?_
          rintro en w5 ⟨rfl, hb5⟩
          have HB5 := Lib.hid (HB.out.trans (hb5.mono HB.out.size))
          clear hb5 k0 k1 k2 k3 k4 k5 k6 k7 k8
          cases WH with
          | false =>
            have HRF : Hid (R = 8) := Lib.hid (by
              rw [← HR.out]; unfold allD
              rw [if_neg HCU.out, if_neg (by rw [HA1.out]; simp), if_neg (by rw [HA2.out]; simp), if_pos HHW.out])
            go_wp2
            go_ret
            exact ⟨by rw [HRF.out]; rfl, HB1.out.trans (HB5.out.mono HB1.out.size)⟩
          | true =>
            go_wp2
            go_loopw [12] (fun si wr => ∃ i : Nat, i ≤ 4 ∧ si = .int .i64 (i : Int) ∧ Hid (Below W1.heap.size W1 wr) ∧ Hid (SoFar (fun x : ByteArray × Int => specA (findV (findL M.chart x.1)) x.2) (codesD M) i)) (fun si _ => 4 - (intOf si).toNat)
            case atStart => exact ⟨0, by omega, rfl, HB5, Lib.hid (SoFar.zero _ _)⟩
            case round =>
              clear HB HSF
              obtain ⟨i, hi, rfl, HB, HSF⟩ := hrel
              by_cases hlt : i < 4
              · obtain ⟨⟨x, kx⟩, hx⟩ : ∃ x, (codesD M)[i]? = some x := ⟨_, List.getElem?_eq_getElem (by rw [HCN.out]; exact hlt)⟩
                obtain ⟨b, o, e2, hcx⟩ := HST.out i x (by rw [List.getElem?_map, hx]; rfl)
                cases e2
                have HX := Lib.hid hx
                have hkx := codesD_cls hx
                have y0 := cell_later HB.out hcx
                rw [Nat.zero_add] at y0
                have k0 := (HN1.out.keep HB.out HN1.out.lt).c0
                have r0 := fun p : Past wr => cell_past y0 p
                have r1 := fun p : Past wr => cell_past k0 p
                obtain ⟨FA, hFA⟩ : ∃ FA, findV (findL M.chart x) = FA := ⟨_, rfl⟩
                obtain ⟨IS, hIS⟩ : ∃ IS, (findL M.chart x).isSome = IS := ⟨_, rfl⟩
                have HF := Lib.hid (HFI.out x)
                rw [hFA, hIS] at HF
                have HFA := Lib.hid hFA
                have HCH := Lib.hid (HM1.out.chart.keep HB.out)
                clear hx hcx hFA hIS y0 k0
                go_wp2_with fail
                refine wp_region_plan (.two [0, 1, 2, 3, 4, 5] 6 (.one [7, 8, 9] 10 (.one [] 11 (.last [12]))) 10 (.one [] 6 (.one [7, 8, 9] 11 (.last [12])))) (by kernel_rfl) (by kernel_rfl) (fun d _ _ _ _ h => by cases d <;> exact h) ?_
                obtain ⟨wq, hwq⟩ : ∃ wq, wr.drew = wq := ⟨_, rfl⟩
                rw [hwq]
                have HD : Hid (Below wr.heap.size wr wq) := Lib.hid (by rw [← hwq]; exact ⟨rfl, rfl, rfl, Nat.le_refl _, fun _ _ => rfl⟩)
                clear hwq
                simp only [wpPlan, pick, nth]
                repeat (go_big_quiet_step (fail))
                refine wpQuiet_nil ?_
                clear r0 r1
                refine ⟨?_, ?_⟩
                · intro K hK
                  refine alone_want (by kernel_rfl) ?_
                  go_big_op
                  refine (HF.out wq (HCH.out.keep HD.out)).mono ?_
                  rintro en w2 ⟨rfl, hb2⟩
                  have HP2 := Lib.hid (HD.out.trans (hb2.mono HD.out.size))
                  clear hb2
                  refine hK _ _ (past_in HP2.out) ?_
                  clear hK K
                  repeat (go_big_quiet_step (fail))
                  refine wpQuiet_nil ?_
                  intro K hK
                  refine alone_want (by kernel_rfl) ?_
                  go_big_op
                  have HP3 := Lib.hid (HP2.out.alloc HP2.out.size (.cells (encA.cs zeroA).toArray 99))
                  refine hK _ _ (past_in HP3.out) ?_
                  clear hK K
                  refine wpQuiet_nil ?_
                  intro K hK
                  refine alone_want (by kernel_rfl) ?_
                  refine wp_store_acct 99 (.tmp 13) (.tmp 97) rfl w2.heap.size zeroA FA 99 rfl rfl (BoxA.new w2 zeroA _) (by kernel_rfl) ?_
                  intro w3 hb3 hg3
                  have HP4 := Lib.hid (HP3.out.grown hg3 HP3.out.size (fun j hj => by cases hj; exact HP2.out.size))
                  have HX3 := Lib.hid hb3
                  clear hb3 hg3
                  refine hK _ _ (past_in HP4.out) ?_
                  clear hK K
                  simp only [Act.put]
                  repeat (go_big_quiet_step (fail))
                  refine wpQuiet_nil ?_
                  have HBN := Lib.hid (HB.out.trans (HP4.out.mono HB.out.size))
                  obtain ⟨q0, q1, q2, q3, q4, q5⟩ := HX3.out.facts
                  obtain ⟨SP, hSP⟩ : ∃ SP, specA FA kx = SP := ⟨_, rfl⟩
                  have HSP := Lib.hid hSP
                  have HSC := Lib.hid (fun W => special_any FA kx W)
                  rw [hSP] at HSC
                  clear hSP
                  by_cases hi1 : 1 < i
                  · rw [if_pos hi1] at hkx
                    subst hkx
                    have hi1z : (1 : Int) < (i : Int) := by omega
                    go_wp2_with fail
                    refine (HSC.out _).mono ?_
                    rintro en w5 ⟨rfl, hb5⟩
                    have HBM := Lib.hid (HBN.out.trans (hb5.mono HBN.out.size))
                    clear hb5 q0 q1 q2 q3 q4 q5
                    cases SP with
                    | false =>
                      have HRF : Hid (R = 15) := Lib.hid (by
                        rw [← HR.out]; unfold allD
                        rw [if_neg HCU.out, if_neg (by rw [HA1.out]; simp), if_neg (by rw [HA2.out]; simp), if_neg (by rw [HHW.out]; simp), if_pos (all_no HX.out (by rw [HFA.out]; exact HSP.out))])
                      go_wp2
                      go_ret
                      exact ⟨by rw [HRF.out]; rfl, HB1.out.trans (HBM.out.mono HB1.out.size)⟩
                    | true =>
                      have HSN := Lib.hid (HSF.out.next HX.out (by rw [HFA.out]; exact HSP.out))
                      go_wp2
                      go_roundw
                      case rel => exact ⟨i + 1, by omega, by go_num, HBM, HSN⟩
                      case measure => simp [intOf]; omega
                  · rw [if_neg hi1] at hkx
                    subst hkx
                    have hi1z : ¬ (1 : Int) < (i : Int) := by omega
                    go_wp2_with fail
                    refine (HSC.out _).mono ?_
                    rintro en w5 ⟨rfl, hb5⟩
                    have HBM := Lib.hid (HBN.out.trans (hb5.mono HBN.out.size))
                    clear hb5 q0 q1 q2 q3 q4 q5
                    cases SP with
                    | false =>
                      have HRF : Hid (R = 15) := Lib.hid (by
                        rw [← HR.out]; unfold allD
                        rw [if_neg HCU.out, if_neg (by rw [HA1.out]; simp), if_neg (by rw [HA2.out]; simp), if_neg (by rw [HHW.out]; simp), if_pos (all_no HX.out (by rw [HFA.out]; exact HSP.out))])
                      go_wp2
                      go_ret
                      exact ⟨by rw [HRF.out]; rfl, HB1.out.trans (HBM.out.mono HB1.out.size)⟩
                    | true =>
                      have HSN := Lib.hid (HSF.out.next HX.out (by rw [HFA.out]; exact HSP.out))
                      go_wp2
                      go_roundw
                      case rel => exact ⟨i + 1, by omega, by go_num, HBM, HSN⟩
                      case measure => simp [intOf]; omega
                · intro K hK
                  refine alone_want (by kernel_rfl) ?_
                  go_big_op
                  have HP2 := Lib.hid (HD.out.alloc HD.out.size (.cells (encA.cs zeroA).toArray 99))
                  have hb2 : BoxA (wq.alloc (.cells (encA.cs zeroA).toArray 99)) wq.heap.size 99 zeroA := BoxA.new wq zeroA _
                  refine hK _ _ (past_in HP2.out) ?_
                  clear hK K
                  refine wpQuiet_nil ?_
                  intro K hK
                  refine alone_want (by kernel_rfl) ?_
                  go_big_op
                  refine (HF.out _ (HCH.out.keep HP2.out)).mono ?_
                  rintro en w2 ⟨rfl, hb3⟩
                  have HP3 := Lib.hid (HP2.out.trans (hb3.mono HP2.out.size))
                  have HX2 := Lib.hid (hb2.keep hb3 (Array.getElem?_eq_some_iff.1 hb2).1)
                  clear hb2 hb3
                  refine hK _ _ (past_in HP3.out) ?_
                  clear hK K
                  repeat (go_big_quiet_step (fail))
                  refine wpQuiet_nil ?_
                  intro K hK
                  refine alone_want (by kernel_rfl) ?_
                  refine wp_store_acct 99 (.tmp 13) (.tmp 97) rfl wq.heap.size zeroA FA 99 rfl rfl HX2.out (by kernel_rfl) ?_
                  intro w3 hb3 hg3
                  have HP4 := Lib.hid (HP3.out.grown hg3 HP3.out.size (fun j hj => by cases hj; exact HD.out.size))
                  have HX3 := Lib.hid hb3
                  clear hb3 hg3
                  refine hK _ _ (past_in HP4.out) ?_
                  clear hK K
                  simp only [Act.put]
                  repeat (go_big_quiet_step (fail))
                  refine wpQuiet_nil ?_
                  have HBN := Lib.hid (HB.out.trans (HP4.out.mono HB.out.size))
                  obtain ⟨q0, q1, q2, q3, q4, q5⟩ := HX3.out.facts
                  obtain ⟨SP, hSP⟩ : ∃ SP, specA FA kx = SP := ⟨_, rfl⟩
                  have HSP := Lib.hid hSP
                  have HSC := Lib.hid (fun W => special_any FA kx W)
                  rw [hSP] at HSC
                  clear hSP
                  by_cases hi1 : 1 < i
                  · rw [if_pos hi1] at hkx
                    subst hkx
                    have hi1z : (1 : Int) < (i : Int) := by omega
                    go_wp2_with fail
                    refine (HSC.out _).mono ?_
                    rintro en w5 ⟨rfl, hb5⟩
                    have HBM := Lib.hid (HBN.out.trans (hb5.mono HBN.out.size))
                    clear hb5 q0 q1 q2 q3 q4 q5
                    cases SP with
                    | false =>
                      have HRF : Hid (R = 15) := Lib.hid (by
                        rw [← HR.out]; unfold allD
                        rw [if_neg HCU.out, if_neg (by rw [HA1.out]; simp), if_neg (by rw [HA2.out]; simp), if_neg (by rw [HHW.out]; simp), if_pos (all_no HX.out (by rw [HFA.out]; exact HSP.out))])
                      go_wp2
                      go_ret
                      exact ⟨by rw [HRF.out]; rfl, HB1.out.trans (HBM.out.mono HB1.out.size)⟩
                    | true =>
                      have HSN := Lib.hid (HSF.out.next HX.out (by rw [HFA.out]; exact HSP.out))
                      go_wp2
                      go_roundw
                      case rel => exact ⟨i + 1, by omega, by go_num, HBM, HSN⟩
                      case measure => simp [intOf]; omega
                  · rw [if_neg hi1] at hkx
                    subst hkx
                    have hi1z : ¬ (1 : Int) < (i : Int) := by omega
                    go_wp2_with fail
                    refine (HSC.out _).mono ?_
                    rintro en w5 ⟨rfl, hb5⟩
                    have HBM := Lib.hid (HBN.out.trans (hb5.mono HBN.out.size))
                    clear hb5 q0 q1 q2 q3 q4 q5
                    cases SP with
                    | false =>
                      have HRF : Hid (R = 15) := Lib.hid (by
                        rw [← HR.out]; unfold allD
                        rw [if_neg HCU.out, if_neg (by rw [HA1.out]; simp), if_neg (by rw [HA2.out]; simp), if_neg (by rw [HHW.out]; simp), if_pos (all_no HX.out (by rw [HFA.out]; exact HSP.out))])
                      go_wp2
                      go_ret
                      exact ⟨by rw [HRF.out]; rfl, HB1.out.trans (HBM.out.mono HB1.out.size)⟩
                    | true =>
                      have HSN := Lib.hid (HSF.out.next HX.out (by rw [HFA.out]; exact HSP.out))
                      go_wp2
                      go_roundw
                      case rel => exact ⟨i + 1, by omega, by go_num, HBM, HSN⟩
                      case measure => simp [intOf]; omega
              · have HA3 : Hid ((codesD M).all (fun x => specA (findV (findL M.chart x.1)) x.2) = true) := Lib.hid (HSF.out.done (by rw [HCN.out]; omega))
                have HRF : Hid (R = 0) := Lib.hid (by
                  rw [← HR.out]; unfold allD
                  rw [if_neg HCU.out, if_neg (by rw [HA1.out]; simp), if_neg (by rw [HA2.out]; simp), if_neg (by rw [HHW.out]; simp), if_neg (by rw [HA3.out]; simp)])
                go_wp2
                go_ret
                exact ⟨by rw [HRF.out]; rfl, HB1.out.trans (HB.out.mono HB1.out.size)⟩
end Go.Proofs.YticdmlijacnjbaaGreatDoor.Un
