/- UnitTwiceLaw: texts put together (each begins with what it is). -/
import Derived.Test.YticdmlijacnjbaaGreatDoorM28
import Derived.Test.YticdmlijacnjbaaGreatDoorM30
/- The walk of UnitTwice: it returns true. -/
namespace Go.Proofs.YticdmlijacnjbaaGreatDoor.Un
open Go.RowKit

theorem ours_few' (c f e l : Value) (M : Mast) (w : World) (h : MastIn w c f e l M) (hs : Sane M) : Calls Tryz.prog 14 #[aggM c f e l M] w (MastGiven w M) :=
  ours_any c f e l M w h (by have := hs.lc; omega) (by have := hs.lf; omega) (by have := hs.le; omega) hs.ll
theorem hl_new (w : World) (n : Int) (u : Value) (t : TypeId) : (w.alloc (.cells #[.int .i64 n, u] t)).cell? ⟨w.heap.size, 0, none⟩ = some (.int .i64 n) ∧ (w.alloc (.cells #[.int .i64 n, u] t)).cell? ⟨w.heap.size, 1, none⟩ = some u :=
  ⟨(cell_of_row _ w.heap.size 0 _ t (0, 0) (heap_alloc_new w _)).trans rfl, (cell_of_row _ w.heap.size 1 _ t (0, 0) (heap_alloc_new w _)).trans rfl⟩
/-- The text of a text's lines with one of them twice is no master data. -/
theorem twice_text {s : ByteArray} {M : Mast} (hr : runM zeroM (wordsT s) = (M, 0)) (hs : s.size ≤ 4000) {ws : List ByteArray} (hw : ws ∈ wordsT s) : parseM (mkB (textW (wordsT s ++ [ws]))) = (zeroM, 7) ∧ (textW (wordsT s ++ [ws])).length ≤ 30000 := by
  have h1 := text_size s
  have h2 := szW_le hw
  have e : szL (wordsT s ++ [ws]) = szL (wordsT s) + szW ws := by rw [szL_append]; simp [szL]
  have hr' : ∀ us ∈ wordsT s ++ [ws], rightW us := fun us hu => by
    rcases List.mem_append.1 hu with hu | hu
    · exact text_right s us hu
    · simp at hu; subst hu; exact text_right s _ hw
  refine ⟨?_, by rw [textW_length, e]; omega⟩
  rw [parse_text hr' (by rw [e]; omega)]
  exact lines_twice hr hw
set_option maxRecDepth 100000 in
set_option maxHeartbeats 16000000 in
theorem unitTwice_walk (s : ByteArray) (a : Int) (w : World) (_hs0 : s.size ≤ maxLen) (ha : InU8 a) (hU : LaidU w) : Calls Tryz.prog 7 #[.string s, .int .u8 a] w fun en w' => en = .returned (.bool true) ∧ Below w.heap.size w w' := by
  have HL := Lib.hid hU.1
  have HLF := Lib.hid hU.2
  clear hU _hs0
  go_enter Tryz.func7, Tryz.ntmps7
  go_wp2_with fail
  refine (alive_any _ HL.out HLF.out).mono ?_
  rintro en w1 ⟨rfl, hb1⟩
  have HB1 := Lib.hid hb1
  have HL1 := Lib.hid (HL.out.below hb1 (Nat.le_refl _))
  have HLF1 := Lib.hid (HLF.out.below hb1 (Nat.le_refl _))
  clear hb1
  by_cases hs : 4000 < s.size
  · go_wp2
    go_ret
    exact ⟨rfl, HB1.out⟩
  go_wp2_with fail
  refine (parse_told s _ (by omega) HL1.out HLF1.out).mono ?_
  rintro en w2 ⟨M, c, f, e, l, n, rfl, hm, hb2, hor⟩
  obtain ⟨pc, cc, pf, cf, pe, ce, pl, cl, rfl, rfl, rfl, rfl⟩ := mast_shapes hm
  have hb3 := hb2.alloc hb2.size (.cells (cellsM (.slice pc M.chart.length cc) (.slice pf M.flows.length cf) (.slice pe M.ents.length ce) (.slice pl M.lines.length cl) M) 30)
  have HB3 := Lib.hid (HB1.out.trans (hb3.mono HB1.out.size))
  have HM3 := Lib.hid (hm.keep ((Below.refl w2.heap.size w2).alloc (Nat.le_refl _) (.cells (cellsM (.slice pc M.chart.length cc) (.slice pf M.flows.length cf) (.slice pe M.ents.length ce) (.slice pl M.lines.length cl) M) 30)))
  have HN3 := Lib.hid (nine_new w2 (.slice pc M.chart.length cc) (.slice pf M.flows.length cf) (.slice pe M.ents.length ce) (.slice pl M.lines.length cl) M 30)
  have HW2 : Hid (w1.heap.size ≤ w2.heap.size) := Lib.hid hb2.size
  clear hm hb2 hb3
  obtain ⟨m, rfl⟩ := Int.eq_ofNat_of_zero_le ha.1
  have hm255 : m ≤ 255 := by have := ha.2; omega
  clear ha
  have HLN := Lib.hid (fun W => rlines_had s W (by omega))
  go_wp2_with fail
  refine (HLN.out _).mono ?_
  intro en w4 hlh
  obtain ⟨v4, rfl, hh4, hb4⟩ := had_of hlh
  have HB4 := Lib.hid (HB3.out.trans (hb4.mono HB3.out.size))
  have HH4B := Lib.hid hb4
  rcases hor with ⟨rfl, hR⟩ | ⟨hn, hz⟩
  · rw [World.size_alloc] at hh4
    have hlin := hR.lin
    rw [hlin]
    obtain ⟨L, hL⟩ : ∃ L, asB (linV s.data.toList) = L := ⟨_, rfl⟩
    have hWT : wordsT s = L.map (·.2) := by unfold wordsT; rw [hL]
    rw [hL] at hh4
    have HWT := Lib.hid hWT
    have HR := Lib.hid hR
    have HH4 := Lib.hid hh4
    have hNL : L.length ≤ 4001 := by
      have h1 := text_size s
      have h2 := szL_count (wordsT s)
      rw [hWT] at h1 h2
      rw [List.length_map] at h2
      omega
    obtain ⟨N, hN⟩ : ∃ N, L.length = N := ⟨_, rfl⟩
    have HN := Lib.hid hN
    obtain ⟨p4, cap4, rfl⟩ := hh4.len
    rw [hN] at HH4 hNL ⊢
    clear hlh hh4 hb4 hR hL hWT hlin hN HN3
    by_cases h0 : N = 0
    · subst h0
      go_wp2
      go_ret
      exact ⟨rfl, HB4.out⟩
    · have hn0 : ((N : Int) == 0) = false := by simp; omega
      obtain ⟨q, hq⟩ : ∃ q, m % N = q := ⟨_, rfl⟩
      have hqN : q < N := by rw [← hq]; exact Nat.mod_lt _ (by omega)
      have hrem : ((m : Nat) : Int).tmod ((N : Nat) : Int) = ((q : Nat) : Int) := by
        rw [Int.tmod_eq_emod_of_nonneg (by omega), ← Int.natCast_emod, hq]
      obtain ⟨⟨num, ws⟩, hx⟩ : ∃ x, L[q]? = some x := ⟨_, List.getElem?_eq_getElem (by rw [HN.out]; exact hqN)⟩
      obtain ⟨g, cap, u, e4, hcap, hcm, c0, c1, hu⟩ := HH4.out.at hx
      rw [HN.out] at e4 hcap
      cases e4
      dsimp only at c0 c1 hu
      have HX := Lib.hid hx
      have HU := Lib.hid hu
      have hu' := hu
      have hus : ∃ p c, u = .slice p ws.length c := by
        rcases hu'.2 with ⟨rfl, e0⟩ | ⟨g', cp, cur, rfl, _⟩
        · simp at e0; exact ⟨none, 0, by simp [e0]⟩
        · exact ⟨_, _, rfl⟩
      obtain ⟨pu, cu, rfl⟩ := hus
      have HMW : Hid (ws ∈ wordsT s) := Lib.hid (by rw [HWT.out]; exact List.mem_map.2 ⟨_, List.mem_of_getElem? hx, rfl⟩)
      unfold maxLen at hcm
      clear hu hu' hx hq
      have hb5 := (Below.refl w4.heap.size w4).alloc (Nat.le_refl _) (.cells #[.int .i64 num, .slice pu ws.length cu] 60)
      have hb6 := hb5.alloc (by simp) (.cells #[.int .i64 num, .slice pu ws.length cu] 60)
      have HB6 := Lib.hid hb6
      have HH6 := Lib.hid (HH4.out.below hb6)
      have HU6 := Lib.hid (row_below HU.out hb6)
      obtain ⟨x0, x1⟩ := hl_new w4 num (.slice pu ws.length cu) 60
      have hn6 := hl_new (w4.alloc (.cells #[.int .i64 num, .slice pu ws.length cu] 60)) num (.slice pu ws.length cu) 60
      rw [World.size_alloc] at hn6
      have HN6 := Lib.hid hn6
      have HBB : Hid (w2.heap.size + 1 ≤ w4.heap.size) := Lib.hid (by have := HH4B.out.size; simp at this; omega)
      clear hb5 hb6 hn6
      go_wp2_with (at_builtin; refine wpList_append_had rfl _ _ rfl (w2.heap.size + 1) (w2.heap.size + 1) L num ws (.slice pu ws.length cu) (w4.heap.size + 1) HH6.out rfl HN6.out.1 HN6.out.2 HU6.out (by have := HBB.out; simp; omega) (by rw [HN.out]; omega) ?_; intro v7 w7 hh7 hb7 hg7; have HH7 := Lib.hid hh7; obtain ⟨p7, cap7, rfl⟩ := hh7.len; clear hh7 hg7; generalize (L ++ [(num, ws)]).length = N7 at *)
      have HB7 : Hid (Below w.heap.size w w7) := Lib.hid ((HB4.out.trans (HB6.out.mono HB4.out.size)).trans (hb7.mono (by have := HB1.out.size; have := HW2.out; omega)))
      have HL7 := Lib.hid (HL.out.below HB7.out (Nat.le_refl _))
      have HLF7 := Lib.hid (HLF.out.below HB7.out (Nat.le_refl _))
      have hfew : ∀ x ∈ L ++ [(num, ws)], x.2.length ≤ 60 ∧ ∀ y ∈ x.2, y.size ≤ 100 := fun x hx => by
        have hxw : x.2 ∈ wordsT s := by
          rcases List.mem_append.1 hx with h | h
          · rw [HWT.out]; exact List.mem_map.2 ⟨x, h, rfl⟩
          · simp at h; subst h; exact HMW.out
        exact (good_few (HR.out.inv.good x.2 hxw)).2
      have HJ := Lib.hid (rjoin_at _ (L ++ [(num, ws)]) w7 HH7.out.lines (by rw [List.length_append, HN.out]; simp; omega) hfew)
      have hJT : joinL (L ++ [(num, ws)]) = textW (wordsT s ++ [ws]) := by rw [joinL_text, List.map_append, HWT.out]; rfl
      rw [hJT] at HJ
      obtain ⟨hP7, hPl⟩ := twice_text HR.out.run (by omega : s.size ≤ 4000) HMW.out
      obtain ⟨T, hT⟩ : ∃ T, mkB (textW (wordsT s ++ [ws])) = T := ⟨_, rfl⟩
      have hTn : T.size ≤ 30000 := by rw [← hT, mkB_size]; exact hPl
      rw [hT] at HJ hP7
      have HPA := Lib.hid (parse_any T w7 hTn HL7.out HLF7.out)
      rw [hP7] at HPA
      clear hfew hJT hP7 hPl hT hTn hb7 x0 x1 c0 c1
      go_wp2_with fail
      refine HJ.out.mono ?_
      rintro en w8 ⟨rfl, rfl⟩
      go_wp2_with fail
      refine HPA.out.mono ?_
      rintro en w9 ⟨v9, rfl, ⟨c9, f9, e9, l9, rfl, hm9⟩, hb9⟩
      obtain ⟨qc, dc, qf, df, qe, de, ql, dl, rfl, rfl, rfl, rfl⟩ := mast_shapes hm9
      have hb10 := hb9.alloc hb9.size (.cells (cellsM (.slice qc zeroM.chart.length dc) (.slice qf zeroM.flows.length df) (.slice qe zeroM.ents.length de) (.slice ql zeroM.lines.length dl) zeroM) 30)
      have HB10 := Lib.hid (HB7.out.trans (hb10.mono HB7.out.size))
      have HM10 := Lib.hid (hm9.keep ((Below.refl w9.heap.size w9).alloc (Nat.le_refl _) (.cells (cellsM (.slice qc zeroM.chart.length dc) (.slice qf zeroM.flows.length df) (.slice qe zeroM.ents.length de) (.slice ql zeroM.lines.length dl) zeroM) 30)))
      obtain ⟨k0, k1, k2, k3, k4, k5, k6, k7, k8⟩ := nine_new w9 (.slice qc zeroM.chart.length dc) (.slice qf zeroM.flows.length df) (.slice qe zeroM.ents.length de) (.slice ql zeroM.lines.length dl) zeroM 30
      clear hm9 hb9 hb10
      go_wp2_with fail
      clear k0 k1 k2 k3 k4 k5 k6 k7 k8
      refine (ours_few' _ _ _ _ zeroM _ HM10.out Sane.zero).mono ?_
      rintro en w11 ⟨v11, rfl, ⟨c11, f11, e11, l11, rfl, hm11⟩, hb11⟩
      obtain ⟨rc, xc, rf, xf, re, xe, rl, xl, rfl, rfl, rfl, rfl⟩ := mast_shapes hm11
      have HB11 := Lib.hid (HB10.out.trans (hb11.mono HB10.out.size))
      have HM11 := Lib.hid hm11
      clear hm11 hb11
      go_wp2_with fail
      refine (same_any _ _ _ _ (.slice none 0 0) (.slice none 0 0) (.slice none 0 0) (.slice none 0 0) zeroM _ HM11.out (MastIn.zero _)).mono ?_
      rintro en w12 ⟨rfl, hb12⟩
      have HB12 := Lib.hid (HB11.out.trans (hb12.mono HB11.out.size))
      clear hb12
      go_wp2
      go_ret
      exact ⟨rfl, HB12.out⟩
  · clear hz
    have hnz : (n != 0) = true := by simp [hn]
    go_wp2
    go_ret
    exact ⟨rfl, HB4.out⟩
end Go.Proofs.YticdmlijacnjbaaGreatDoor.Un
