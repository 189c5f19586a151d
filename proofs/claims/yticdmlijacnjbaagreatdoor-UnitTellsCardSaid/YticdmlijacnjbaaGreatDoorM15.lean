/- UnitReadF; UnitFormed; UnitKeyOf; UnitKeepS: texts put together (each begins with what it is). -/
import Derived.Test.YticdmlijacnjbaaGreatDoorM14
import Derived.Deep.RegionHeld3
import Derived.Test.YticdmlijacnjbaaGreatDoorM06
import Derived.Test.YticdmlijacnjbaaGreatDoorM05
import Derived.StillTailTactics
import Derived.Maps.AppendAt
/- The walk of the reader's readFlow: a flow more, or the number of what is wrong. -/
namespace Go.Proofs.YticdmlijacnjbaaGreatDoor.Un
open Go.RowKit Go.Maps

set_option maxRecDepth 100000 in
set_option maxHeartbeats 8000000 in
theorem readFlow_any (v : Value) (ws : List ByteArray) (W : World) (B R m n : Nat) (c f e l : Value) (D : DataW Unit) (M : Mast) (hv : StrsV W v ws) (hlaid : Fl.Laid W) (h : RdAt W B R m c f e l n D M) (hB : B ≤ W.heap.size) (hL : M.flows.length ≤ 1000) (hri : riseK Fl.Flow.code M.flows = true) :
    Calls Tryz.prog 47 #[.pointer (some ⟨R, 0, none⟩), v] W (ReadTold W B R m n D { M with flows := insK Fl.Flow.code M.flows (Fl.parseF ws).1 } (if (Fl.parseF ws).2 = 0 then Fl.addE M.flows (Fl.parseF ws).1 else (Fl.parseF ws).2)) := by
  have HP := Lib.hid (Fl.parse_any v ws W hv hlaid)
  have HL := Lib.hid hL
  obtain ⟨p, cp, rfl, _⟩ := hv
  obtain ⟨A, hA⟩ : ∃ A, (Fl.parseF ws).1 = A := ⟨_, rfl⟩
  obtain ⟨E1, hE1⟩ : ∃ E1, (Fl.parseF ws).2 = E1 := ⟨_, rfl⟩
  rw [hA, hE1] at HP ⊢
  have HR := Lib.hid h
  have HB := Lib.hid hB
  have hAV : Fl.addE M.flows A = 0 → Fl.addV M.flows A = insK Fl.Flow.code M.flows A := fun h0 => by unfold Fl.addV; rw [if_pos h0]
  have HAV := Lib.hid hAV
  obtain ⟨E2, hE2⟩ : ∃ E2, Fl.addE M.flows A = E2 := ⟨_, rfl⟩
  obtain ⟨MV, hMV⟩ : ∃ MV, Fl.addV M.flows A = MV := ⟨_, rfl⟩
  have HAD := Lib.hid (fun (X : World) (hX : Fl.FlowsV X f M.flows) => Fl.add_own f M.flows A X hX hri hL)
  rw [hE2] at HAV ⊢
  rw [hMV] at HAV
  simp only [hE2, hMV] at HAD
  obtain ⟨nw, hnw⟩ : ∃ nw, ws.length = nw := ⟨_, rfl⟩
  rw [hnw] at HP ⊢
  obtain ⟨E, hE⟩ : ∃ E, (if E1 = 0 then E2 else E1) = E := ⟨_, rfl⟩
  obtain ⟨MM, hMM⟩ : ∃ MM : Mast, ({ M with flows := insK Fl.Flow.code M.flows A } : Mast) = MM := ⟨_, rfl⟩
  rw [hE, hMM]
  have HE := Lib.hid hE
  have HMM := Lib.hid hMM
  clear hA hE1 hE2 hMV h hB hL hri hlaid hAV hnw hE hMM
  go_enter Tryz.func47, Tryz.ntmps47
  go_wp2_with fail
  refine HP.out.mono ?_
  rintro en w1 ⟨rfl, hb1⟩
  have hb2 := hb1.alloc hb1.size (.cells #[.string A.code, .int .i64 A.kind] 86)
  have HR2 := Lib.hid (HR.out.below hb2)
  have HX2 := Lib.hid (BoxE.new Fl.encF w1 A 86)
  have HB2 := Lib.hid (hb2.mono HB.out)
  have HS2 : Hid (B ≤ (w1.alloc (.cells #[.string A.code, .int .i64 A.kind] 86)).heap.size) := Lib.hid (Nat.le_trans HB.out hb2.size)
  clear hb1 hb2
  by_cases h0 : E1 = 0
  · subst h0
    obtain ⟨W2, hW2⟩ : ∃ W2, w1.alloc (.cells #[.string A.code, .int .i64 A.kind] 86) = W2 := ⟨_, rfl⟩
    rw [hW2] at HR2 HX2 HB2 HS2
    go_wp2_with fail
    clear hW2
    obtain ⟨k0, k1, k2, k3, k4, k5, k6, k7, k8⟩ := (show NineAt W2.drew R c f e l M from HR2.out.nine.kept ⟨rfl, rfl, rfl, Nat.le_refl _, fun _ _ => rfl⟩)
    obtain ⟨j0, j1⟩ := Fl.box (show BoxE Fl.encF W2.drew w1.heap.size 86 A from HX2.out)
    have HCV : Hid (Fl.FlowsV W2.drew f M.flows) := Lib.hid (ElsV.keep (w := W2) (els_of_own HR2.out.flows) ⟨rfl, rfl, rfl, Nat.le_refl _, fun _ _ => rfl⟩)
    clear k0 k2 k3 k4 k5 k6 k7 k8
    go_region_with (first
        | (go_at_call 79; refine (HAD.out W2.drew HCV.out).mono ?_; rintro en w3 ⟨v9, rfl, ho9, hb9⟩; obtain ⟨p9, c9, rfl, _, _⟩ := els_of_own ho9; have HR3 := Lib.hid (RdAt.below (W := W2.drew) (HR2.out.below (W' := W2.drew) ⟨rfl, rfl, rfl, Nat.le_refl _, fun _ _ => rfl⟩) hb9); have hz := HR3.out.nine.c1; have hfz := HR3.out.free 1)
        | fail)
    all_goals
      have HE2 : Hid (E2 = E) := Lib.hid (by rw [← HE.out, if_pos (by trivial)])
      have HFIN : Hid (E = 0 → RdAt (w3.setCell ⟨R, 1, none⟩ (.slice p9 MV.length c9)) B R m c (.slice p9 MV.length c9) e l n D MM) := Lib.hid (fun h0 => by
        have hmv := HAV.out (by rw [HE2.out]; exact h0)
        rw [← HMM.out]
        refine rd_stored 1 _ HR3.out.box rfl HR3.out.chart ?_ HR3.out.ents HR3.out.lines HR3.out.map HR3.out.geR HR3.out.geM
        show w3.ownsRow B _ 2 _ (insK Fl.Flow.code M.flows A).length (flat Fl.encF (insK Fl.Flow.code M.flows A))
        rw [← hmv]
        exact row_base ho9 HS2.out)
      have HBF : Hid (Below B W (w3.setCell ⟨R, 1, none⟩ (.slice p9 MV.length c9))) := Lib.hid (below_stored (HB2.out.trans ((below_undrawn hb9).mono HS2.out)) HR3.out.geR 1 _)
      clear ho9 hb9 hz hfz
      go_wp2
      go_ret
      exact ⟨by rw [← HE2.out]; rfl, HBF.out, fun h0 => ⟨_, _, _, _, HFIN.out h0⟩⟩
  · have HE2 : Hid (E1 = E ∧ E ≠ 0) := Lib.hid (by have := HE.out; rw [if_neg h0] at this; exact ⟨this, by rw [← this]; exact h0⟩)
    go_wp2
    go_ret
    exact ⟨by rw [← HE2.out.1]; rfl, HB2.out, fun h1 => absurd h1 HE2.out.2⟩
end Go.Proofs.YticdmlijacnjbaaGreatDoor.Un
/- The walks of unit's length, formed and keyOf: how many words a line has, whether it is formed, and what of it stands once. What was there stays. -/
namespace Go.Proofs.YticdmlijacnjbaaGreatDoor.Un
open Go.RowKit

theorem qL (s t : ByteArray) (l : List UInt8) (h : t.data.toList = l) : (s.toList == l) = decide (s = t) := by
  have e : t.toList = l := by rw [ByteArray.toList_eq, h]
  rw [← e, Bool.eq_iff_iff, decide_eq_true_eq]
  exact ⟨fun h => (Lib.bytes_beq_iff s t).1 h, fun h => (Lib.bytes_beq_iff s t).2 h⟩
theorem qGroup (s : ByteArray) : (s.toList == [103, 114, 111, 117, 112]) = decide (s = tGroup) := qL s tGroup _ rfl
theorem qReserve (s : ByteArray) : (s.toList == [114, 101, 115, 101, 114, 118, 101]) = decide (s = tReserve) := qL s tReserve _ rfl
theorem qDiffer (s : ByteArray) : (s.toList == [100, 105, 102, 102, 101, 114]) = decide (s = tDiffer) := qL s tDiffer _ rfl
theorem qMinor (s : ByteArray) : (s.toList == [109, 105, 110, 111, 114]) = decide (s = tMinor) := qL s tMinor _ rfl
theorem qStake (s : ByteArray) : (s.toList == [115, 116, 97, 107, 101]) = decide (s = tStake) := qL s tStake _ rfl
theorem qEntity (s : ByteArray) : (s.toList == [101, 110, 116, 105, 116, 121]) = decide (s = tEntity) := qL s tEntity _ rfl
theorem qMap (s : ByteArray) : (s.toList == [109, 97, 112]) = decide (s = tMap) := qL s tMap _ rfl
theorem qAccount (s : ByteArray) : (s.toList == [97, 99, 99, 111, 117, 110, 116]) = decide (s = tAccount) := qL s tAccount _ rfl
theorem qFlow (s : ByteArray) : (s.toList == [102, 108, 111, 119]) = decide (s = Fl.tFlow) := qL s Fl.tFlow _ rfl
/-- A first word that is none of those that a line may have. -/
theorem lenW_none {h : ByteArray} (h1 : h ≠ tGroup) (h2 : h ≠ tReserve) (h3 : h ≠ tDiffer) (h4 : h ≠ tMinor) (h5 : h ≠ tStake) (h6 : h ≠ tEntity) (h7 : h ≠ tMap) : lenW h = 0 := by
  unfold lenW
  rw [if_neg (by simp [h1, h2, h3, h4, h5]), if_neg h6, if_neg h7]
theorem lenW_2 {h : ByteArray} (h1 : h = tGroup ∨ h = tReserve ∨ h = tDiffer ∨ h = tMinor ∨ h = tStake) : lenW h = 2 := by unfold lenW; rw [if_pos h1]
theorem lenW_3 {h : ByteArray} (h1 : h = tEntity) : lenW h = 3 := by subst h1; decide
theorem lenW_4 {h : ByteArray} (h1 : h = tMap) : lenW h = 4 := by subst h1; decide
set_option maxRecDepth 100000 in
set_option maxHeartbeats 2000000 in
theorem length_any (s : ByteArray) (w : World) :
    Calls Tryz.prog 80 #[.string s] w fun en w' => en = .returned (.int .i64 (lenW s)) ∧ w' = w := by
  have g1 := qGroup s
  have g2 := qReserve s
  have g3 := qDiffer s
  have g4 := qMinor s
  have g5 := qStake s
  have g6 := qEntity s
  have g7 := qMap s
  have n2 := lenW_2 (h := s)
  have n3 := lenW_3 (h := s)
  have n4 := lenW_4 (h := s)
  have n0 := lenW_none (h := s)
  obtain ⟨N, hN⟩ : ∃ N, lenW s = N := ⟨_, rfl⟩
  rw [hN] at n2 n3 n4 n0 ⊢
  clear hN
  by_cases h1 : s = tGroup
  · have HN := Lib.hid (n2 (by simp [h1]))
    rw [decide_eq_true h1] at g1
    clear h1 n2 n3 n4 n0
    go_enter Tryz.func80, Tryz.ntmps80
    go_wp2
    go_ret
    exact ⟨by rw [HN.out]; rfl, rfl⟩
  rw [decide_eq_false h1] at g1
  by_cases h2 : s = tReserve
  · have HN := Lib.hid (n2 (by simp [h2]))
    rw [decide_eq_true h2] at g2
    clear h2 n2 n3 n4 n0 h1
    go_enter Tryz.func80, Tryz.ntmps80
    go_wp2
    go_ret
    exact ⟨by rw [HN.out]; rfl, rfl⟩
  rw [decide_eq_false h2] at g2
  by_cases h3 : s = tDiffer
  · have HN := Lib.hid (n2 (by simp [h3]))
    rw [decide_eq_true h3] at g3
    clear h3 n2 n3 n4 n0 h1 h2
    go_enter Tryz.func80, Tryz.ntmps80
    go_wp2
    go_ret
    exact ⟨by rw [HN.out]; rfl, rfl⟩
  rw [decide_eq_false h3] at g3
  by_cases h4 : s = tMinor
  · have HN := Lib.hid (n2 (by simp [h4]))
    rw [decide_eq_true h4] at g4
    clear h4 n2 n3 n4 n0 h1 h2 h3
    go_enter Tryz.func80, Tryz.ntmps80
    go_wp2
    go_ret
    exact ⟨by rw [HN.out]; rfl, rfl⟩
  rw [decide_eq_false h4] at g4
  by_cases h5 : s = tStake
  · have HN := Lib.hid (n2 (by simp [h5]))
    rw [decide_eq_true h5] at g5
    clear h5 n2 n3 n4 n0 h1 h2 h3 h4
    go_enter Tryz.func80, Tryz.ntmps80
    go_wp2
    go_ret
    exact ⟨by rw [HN.out]; rfl, rfl⟩
  rw [decide_eq_false h5] at g5
  by_cases h6 : s = tEntity
  · have HN := Lib.hid (n3 h6)
    rw [decide_eq_true h6] at g6
    clear h6 n2 n3 n4 n0 h1 h2 h3 h4 h5
    go_enter Tryz.func80, Tryz.ntmps80
    go_wp2
    go_ret
    exact ⟨by rw [HN.out]; rfl, rfl⟩
  rw [decide_eq_false h6] at g6
  by_cases h7 : s = tMap
  · have HN := Lib.hid (n4 h7)
    rw [decide_eq_true h7] at g7
    clear h7 n2 n3 n4 n0 h1 h2 h3 h4 h5 h6
    go_enter Tryz.func80, Tryz.ntmps80
    go_wp2
    go_ret
    exact ⟨by rw [HN.out]; rfl, rfl⟩
  rw [decide_eq_false h7] at g7
  have HN := Lib.hid (n0 h1 h2 h3 h4 h5 h6 h7)
  clear h1 h2 h3 h4 h5 h6 h7 n2 n3 n4 n0
  go_enter Tryz.func80, Tryz.ntmps80
  go_wp2
  go_ret
  exact ⟨by rw [HN.out]; rfl, rfl⟩
theorem formed_parts {ws : List ByteArray} (h0 : 0 < ws.length) : formedW ws = (decide ((ws.length : Int) = lenW (wd ws 0)) && (ws.drop 1).all nmB) := by
  unfold formedW namesW
  rw [decide_eq_true h0, Bool.true_and]
/-- All so far are so. -/
def SoFarS {α : Type} (p : α → Bool) (L : List α) (i : Nat) : Prop := ∀ (j : Nat) (x : α), j < i → L[j]? = some x → p x = true
theorem strs_u : Tryz.prog.underlying 58 = some (.slice (Tryz.prog.elem 58)) := by kernel_rfl
theorem strs_s (w : World) : (sizeOf (Tryz.prog.elem 58)).run Tryz.prog w = .ok 1 w := by kernel_rfl
theorem wd_of {ws : List ByteArray} {i : Nat} {x : ByteArray} (h : ws[i]? = some x) : wd ws i = x := by unfold wd; rw [List.getD_eq_getElem?_getD, h]; rfl
set_option maxRecDepth 100000 in
set_option maxHeartbeats 2000000 in
theorem formed_any (v : Value) (ws : List ByteArray) (w : World) (h : StrsV w v ws) (h0 : 0 < ws.length) :
    Calls Tryz.prog 48 #[v] w fun en w' => en = .returned (.bool (formedW ws)) ∧ w' = w := by
  have HV := Lib.hid h
  obtain ⟨p, c, rfl, hcap, hm, hc⟩ := h
  obtain ⟨x0, hx0⟩ : ∃ x, ws[0]? = some x := ⟨_, List.getElem?_eq_getElem h0⟩
  obtain ⟨b, o, rfl, k0⟩ := hc 0 x0 hx0
  rw [Nat.add_zero] at k0
  have hfp := formed_parts h0
  rw [wd_of hx0] at hfp
  obtain ⟨n, hn⟩ : ∃ n, ws.length = n := ⟨_, rfl⟩
  rw [hn] at hfp HV hcap hm h0 ⊢
  unfold maxLen at hm
  obtain ⟨N, hN⟩ : ∃ N, lenW x0 = N := ⟨_, rfl⟩
  have HLA := Lib.hid (fun W => length_any x0 W)
  simp only [hN] at HLA
  rw [hN] at hfp
  obtain ⟨r, hr⟩ : ∃ r, formedW ws = r := ⟨_, rfl⟩
  rw [hr] at hfp ⊢
  have HFP := Lib.hid hfp
  have HN := Lib.hid hn
  clear hfp hr hN hx0 hc hn
  by_cases hl : (n : Int) = N
  · have HFP2 : Hid (r = (ws.drop 1).all nmB) := Lib.hid (by rw [HFP.out, decide_eq_true hl, Bool.true_and])
    obtain ⟨v1, hv1, hs1⟩ := strs_tail strs_u strs_s HV.out (k := 1) (by omega)
    obtain ⟨p1, c1, rfl, hcap1, hm1, hc1⟩ := hs1
    have HC1 := Lib.hid hc1
    obtain ⟨n1, hn1⟩ : ∃ n1, (ws.drop 1).length = n1 := ⟨_, rfl⟩
    rw [hn1] at hv1 hcap1 hm1
    have HN1 := Lib.hid hn1
    unfold maxLen at hm1
    have HVE := Lib.hid hv1
    clear hc1 hn1 hv1
    subst hl
    go_enter Tryz.func48, Tryz.ntmps48
    go_wp2_with fail
    refine (HLA.out _).mono ?_
    rintro en w1 ⟨rfl, rfl⟩
    have hv1 := HVE.out
    simp only [Int.natCast_one] at hv1
    go_wp2
    clear hv1
    go_loop [15] (fun s15 => ∃ i : Nat, i ≤ n1 ∧ s15 = .int .i64 (i : Int) ∧ Hid (SoFarS nmB (ws.drop 1) i)) (fun s15 => n1 - (intOf s15).toNat)
    case atStart => exact ⟨0, Nat.zero_le _, rfl, Lib.hid (fun j x hj => absurd hj (Nat.not_lt_zero _))⟩
    case round =>
      obtain ⟨i, hi, rfl, HSF⟩ := hrel
      by_cases hlt : i < n1
      · obtain ⟨x, hx⟩ : ∃ x, (ws.drop 1)[i]? = some x := ⟨_, List.getElem?_eq_getElem (by rw [HN1.out]; exact hlt)⟩
        obtain ⟨b2, o2, rfl, q0⟩ := HC1.out i x hx
        have HX := Lib.hid hx
        obtain ⟨bb, hbb⟩ : ∃ bb, nmB x = bb := ⟨_, rfl⟩
        have HNA := Lib.hid (fun W => name_at x W)
        have hnm : nameL x.data.toList = bb := hbb
        simp only [hnm] at HNA
        have HBB := Lib.hid hbb
        clear hx hnm hbb
        cases bb with
        | false =>
          have HRF : Hid (r = false) := Lib.hid (by
            rw [HFP2.out, ← Bool.not_eq_true, List.all_eq_true]
            intro h'
            have := h' x (List.mem_of_getElem? HX.out)
            rw [HBB.out] at this; cases this)
          go_wp2_with fail
          refine (HNA.out _).mono ?_
          rintro en w1 ⟨rfl, rfl⟩
          go_wp2
          go_ret
          exact ⟨by rw [HRF.out]; rfl, rfl⟩
        | true =>
          have HSN : Hid (SoFarS nmB (ws.drop 1) (i + 1)) := Lib.hid (fun j y hj hy => by
            rcases Nat.lt_or_ge j i with h' | h'
            · exact HSF.out j y h' hy
            · obtain rfl : j = i := by omega
              rw [HX.out] at hy; cases hy; exact HBB.out)
          go_wp2_with fail
          refine (HNA.out _).mono ?_
          rintro en w1 ⟨rfl, rfl⟩
          go_wp2
          go_round
          case rel => exact ⟨i + 1, by omega, by go_num, HSN⟩
          case measure => simp [intOf]; omega
      · have HRT : Hid (r = true) := Lib.hid (by
          rw [HFP2.out, List.all_eq_true]
          intro x hx
          obtain ⟨j, hj, ej⟩ := List.getElem_of_mem hx
          exact HSF.out j x (by rw [HN1.out] at hj; omega) (by rw [List.getElem?_eq_getElem hj, ej]))
        go_wp2
        go_ret
        exact ⟨by rw [HRT.out]; rfl, rfl⟩
  · have HRF : Hid (r = false) := Lib.hid (by rw [HFP.out, decide_eq_false hl, Bool.false_and])
    go_enter Tryz.func48, Tryz.ntmps48
    go_wp2_with fail
    refine (HLA.out _).mono ?_
    rintro en w1 ⟨rfl, rfl⟩
    go_wp2
    go_ret
    exact ⟨by rw [HRF.out]; rfl, rfl⟩
end Go.Proofs.YticdmlijacnjbaaGreatDoor.Un
/- The walk of unit's keyOf: what of a line that is formed stands once. What was there stays. -/
namespace Go.Proofs.YticdmlijacnjbaaGreatDoor.Un
open Go.RowKit

/-- A box of a key that may be written. -/
abbrev encK : Enc (ByteArray × ByteArray × ByteArray) := ⟨fun e => [.string e.1, .string e.2.1, .string e.2.2], 3, fun _ => rfl, by decide, fun _ v hv => by simp at hv; rcases hv with rfl | rfl | rfl <;> rfl⟩
theorem key3 {w : World} {b : Nat} {t : TypeId} {x y z : ByteArray} (h : BoxE encK w b t (x, y, z)) : w.cell? ⟨b, 0, none⟩ = some (.string x) ∧ w.cell? ⟨b, 1, none⟩ = some (.string y) ∧ w.cell? ⟨b, 2, none⟩ = some (.string z) := ⟨h.at0 0 _ rfl, h.at0 1 _ rfl, h.at0 2 _ rfl⟩
set_option maxRecDepth 100000 in
set_option maxHeartbeats 2000000 in
theorem keyOf_any (v : Value) (ws : List ByteArray) (w : World) (h : StrsV w v ws) (hf : formedW ws = true) :
    Calls Tryz.prog 49 #[v] w fun en w' => en = .returned (aggK (wd ws 0) (keyB ws) (keyC ws)) ∧ Below w.heap.size w w' := by
  have HB0 := Lib.hid ((Below.refl w.heap.size w).alloc (Nat.le_refl _) (.cells #[.string emp, .string emp, .string emp] 111))
  have HX0 := Lib.hid (BoxE.new encK w (emp, emp, emp) 111)
  have h1 := h.keep HB0.out
  obtain ⟨p, c, rfl, hcap, hm, hc⟩ := h1
  unfold maxLen at hm
  have fin : ∀ (w1 : World) (a b d : ByteArray), BoxE encK w1 w.heap.size 111 (a, b, d) → (w.alloc (.cells #[.string emp, .string emp, .string emp] 111)).grownBy w1 (some w.heap.size) → Below w.heap.size w w1 := fun w1 a b d _ hg => HB0.out.grown hg HB0.out.size (fun k hk => by cases hk; exact Nat.le_refl _)
  have HF := Lib.hid fin
  clear fin
  rcases formed_ways hf with ⟨h0, a, b, rfl, ha, hb⟩ | ⟨h0, a, b, d, rfl, ha, hb, hd⟩ | ⟨h0, a, h2, ha⟩
  · obtain ⟨g, o, rfl, k0⟩ := hc 0 tEntity rfl
    obtain ⟨g', o', e1, k1⟩ := hc 1 a rfl
    cases e1
    rw [Nat.add_zero] at k0
    have g1 : (tEntity.toList == [101, 110, 116, 105, 116, 121]) = true := by rw [qEntity]; decide
    have HK : Hid (aggK (wd [tEntity, a, b] 0) (keyB [tEntity, a, b]) (keyC [tEntity, a, b]) = aggK ⟨#[101, 110, 116, 105, 116, 121]⟩ a emp) := Lib.hid rfl
    rw [HK.out]
    clear hc h0 hf h
    go_enter Tryz.func49, Tryz.ntmps49
    go_wp2_with (refine wpList_store_el (E := encK) rfl 111 (.tmp 2) (.tmp 11) rfl w.heap.size (emp, emp, emp) (⟨#[101, 110, 116, 105, 116, 121]⟩, a, emp) 111 rfl rfl HX0.out (by kernel_rfl) ?_; intro w2 hb2 hg2)
    have HF2 := Lib.hid (HF.out _ _ _ _ hb2 hg2)
    obtain ⟨d0, d1, d2⟩ := key3 hb2
    clear hb2 hg2
    exact bodyPost_ret (v := aggK ⟨#[101, 110, 116, 105, 116, 121]⟩ a emp) (by simp [results, Tryz.results49, go_sem, d0, d1, d2]) rfl ⟨rfl, HF2.out⟩
  · obtain ⟨g, o, rfl, k0⟩ := hc 0 tMap rfl
    obtain ⟨g', o', e1, k1⟩ := hc 1 a rfl
    cases e1
    obtain ⟨g', o', e1, k2⟩ := hc 2 b rfl
    cases e1
    rw [Nat.add_zero] at k0
    have g1 : (tMap.toList == [101, 110, 116, 105, 116, 121]) = false := by rw [qEntity]; decide
    have g2 : (tMap.toList == [109, 97, 112]) = true := by rw [qMap]; decide
    have HK : Hid (aggK (wd [tMap, a, b, d] 0) (keyB [tMap, a, b, d]) (keyC [tMap, a, b, d]) = aggK ⟨#[109, 97, 112]⟩ a b) := Lib.hid rfl
    rw [HK.out]
    clear hc h0 hf h
    obtain ⟨W, hW⟩ : ∃ W, w.alloc (.cells #[.string emp, .string emp, .string emp] 111) = W := ⟨_, rfl⟩
    rw [hW] at HB0 HX0 HF k0 k1 k2
    go_enter Tryz.func49, Tryz.ntmps49
    go_wp2_with fail
    clear hW
    obtain ⟨W2, hW2⟩ : ∃ W2, W.drew = W2 := ⟨_, rfl⟩
    have j1 : W2.cell? ⟨g, o + 1, none⟩ = some (.string a) := by rw [← hW2]; exact k1
    have j2 : W2.cell? ⟨g, o + 2, none⟩ = some (.string b) := by rw [← hW2]; exact k2
    have HX2 : Hid (BoxE encK W2 w.heap.size 111 (emp, emp, emp)) := Lib.hid (by rw [← hW2]; exact HX0.out)
    have HG2 : Hid (W.grownBy W2 (some w.heap.size)) := Lib.hid (by rw [← hW2]; exact ⟨rfl, rfl, rfl, Nat.le_refl _, fun _ _ _ => rfl⟩)
    refine wp_region_still_tail 7 (by kernel_rfl) (by kernel_rfl) ?_
    simp only [List.take_succ_cons, List.take_zero, List.drop_succ_cons, List.drop_zero]
    rw [show ({ heap := W.heap, tape := W.tape, drawn := W.drawn + 1, os := W.os, output := W.output } : World) = W2 from hW2]
    clear hW2 k0 k1 k2
    repeat still_step
    refine wpStill_nil ?_
    clear j1 j2
    go_wp2_with (refine wpList_store_el (E := encK) rfl 111 (.tmp 2) (.tmp 20) rfl w.heap.size (emp, emp, emp) (⟨#[109, 97, 112]⟩, a, b) 111 rfl rfl HX2.out (by kernel_rfl) ?_; intro w2 hb2 hg2)
    have HF2 := Lib.hid (HF.out _ _ _ _ hb2 (HG2.out.trans hg2))
    obtain ⟨d0, d1, d2⟩ := key3 hb2
    clear hb2 hg2
    exact bodyPost_ret (v := aggK ⟨#[109, 97, 112]⟩ a b) (by simp [results, Tryz.results49, go_sem, d0, d1, d2]) rfl ⟨rfl, HF2.out⟩
  · obtain ⟨x, hx⟩ : ∃ x, wd ws 0 = x := ⟨_, rfl⟩
    rw [hx] at h0 h2
    subst h2
    obtain ⟨g, o, rfl, k0⟩ := hc 0 x rfl
    rw [Nat.add_zero] at k0
    have n1 : x ≠ tEntity := by rcases h0 with h | h | h | h | h <;> rw [h] <;> decide
    have n2 : x ≠ tMap := by rcases h0 with h | h | h | h | h <;> rw [h] <;> decide
    have g1 : (x.toList == [101, 110, 116, 105, 116, 121]) = false := by rw [qEntity]; exact decide_eq_false n1
    have g2 : (x.toList == [109, 97, 112]) = false := by rw [qMap]; exact decide_eq_false n2
    have HK : Hid (aggK (wd [x, a] 0) (keyB [x, a]) (keyC [x, a]) = aggK x emp emp) := Lib.hid (by
      have e0 : wd [x, a] 0 = x := rfl
      unfold keyB keyC
      rw [e0, if_neg n1, if_neg n2, if_neg n1, if_neg n2])
    rw [HK.out]
    clear hc h0 hf h n1 n2 hx
    go_enter Tryz.func49, Tryz.ntmps49
    go_wp2_with (refine wpList_store_el (E := encK) rfl 111 (.tmp 2) (.tmp 24) rfl w.heap.size (emp, emp, emp) (x, emp, emp) 111 rfl rfl HX0.out (by kernel_rfl) ?_; intro w2 hb2 hg2)
    have HF2 := Lib.hid (HF.out _ _ _ _ hb2 hg2)
    obtain ⟨d0, d1, d2⟩ := key3 hb2
    clear hb2 hg2
    exact bodyPost_ret (v := aggK x emp emp) (by simp [results, Tryz.results49, go_sem, d0, d1, d2]) rfl ⟨rfl, HF2.out⟩
end Go.Proofs.YticdmlijacnjbaaGreatDoor.Un
/- The walk of the reader's keep at a line of one word behind its first: a group, a reserve, a differ, a minor, a stake. -/
namespace Go.Proofs.YticdmlijacnjbaaGreatDoor.Un
open Go.RowKit Go.Maps

set_option maxRecDepth 100000 in
set_option maxHeartbeats 4000000 in
theorem keep_cur (v : Value) (a : ByteArray) (W : World) (B R m n : Nat) (c f e l : Value) (D : DataW Unit) (M : Mast) (hv : StrsV W v [tGroup, a]) (h : RdAt W B R m c f e l n D M) :
    Calls Tryz.prog 50 #[.pointer (some ⟨R, 0, none⟩), v] W (ReadTold W B R m n D { M with cur := a } 0) := by
  obtain ⟨p, cp, rfl, _, _, hc⟩ := hv
  obtain ⟨g, o, rfl, k0⟩ := hc 0 tGroup rfl
  obtain ⟨g', o', e1, k1⟩ := hc 1 a rfl
  cases e1
  rw [Nat.add_zero] at k0
  have g0 : (tGroup.toList == [101, 110, 116, 105, 116, 121]) = false := by rw [qEntity]; decide
  have g1 : (tGroup.toList == [109, 97, 112]) = false := by rw [qMap]; decide
  have gt : (tGroup.toList == [103, 114, 111, 117, 112]) = true := by rw [qGroup]; decide
  have HF : Hid (RdAt (W.setCell ⟨R, 4, none⟩ (.string a)) B R m c f e l n D { M with cur := a }) := Lib.hid (rd_stored 4 _ h.box rfl h.chart h.flows h.ents h.lines h.map h.geR h.geM)
  have HB : Hid (Below B W (W.setCell ⟨R, 4, none⟩ (.string a))) := Lib.hid (below_stored (Below.refl B W) h.geR 4 _)
  obtain ⟨MM, hMM⟩ : ∃ MM : Mast, ({ M with cur := a } : Mast) = MM := ⟨_, rfl⟩
  rw [hMM] at HF ⊢
  have hz := h.nine.c4
  have hfz := h.free 4
  clear hc hMM h
  go_enter Tryz.func50, Tryz.ntmps50
  go_wp2
  go_ret
  exact ⟨rfl, HB.out, fun _ => ⟨_, _, _, _, HF.out⟩⟩
set_option maxRecDepth 100000 in
set_option maxHeartbeats 4000000 in
theorem keep_res (v : Value) (a : ByteArray) (W : World) (B R m n : Nat) (c f e l : Value) (D : DataW Unit) (M : Mast) (hv : StrsV W v [tReserve, a]) (h : RdAt W B R m c f e l n D M) :
    Calls Tryz.prog 50 #[.pointer (some ⟨R, 0, none⟩), v] W (ReadTold W B R m n D { M with res := a } 0) := by
  obtain ⟨p, cp, rfl, _, _, hc⟩ := hv
  obtain ⟨g, o, rfl, k0⟩ := hc 0 tReserve rfl
  obtain ⟨g', o', e1, k1⟩ := hc 1 a rfl
  cases e1
  rw [Nat.add_zero] at k0
  have g0 : (tReserve.toList == [101, 110, 116, 105, 116, 121]) = false := by rw [qEntity]; decide
  have g1 : (tReserve.toList == [109, 97, 112]) = false := by rw [qMap]; decide
  have g2 : (tReserve.toList == [103, 114, 111, 117, 112]) = false := by rw [qGroup]; decide
  have gt : (tReserve.toList == [114, 101, 115, 101, 114, 118, 101]) = true := by rw [qReserve]; decide
  have HF : Hid (RdAt (W.setCell ⟨R, 5, none⟩ (.string a)) B R m c f e l n D { M with res := a }) := Lib.hid (rd_stored 5 _ h.box rfl h.chart h.flows h.ents h.lines h.map h.geR h.geM)
  have HB : Hid (Below B W (W.setCell ⟨R, 5, none⟩ (.string a))) := Lib.hid (below_stored (Below.refl B W) h.geR 5 _)
  obtain ⟨MM, hMM⟩ : ∃ MM : Mast, ({ M with res := a } : Mast) = MM := ⟨_, rfl⟩
  rw [hMM] at HF ⊢
  have hz := h.nine.c5
  have hfz := h.free 5
  clear hc hMM h
  go_enter Tryz.func50, Tryz.ntmps50
  go_wp2
  go_ret
  exact ⟨rfl, HB.out, fun _ => ⟨_, _, _, _, HF.out⟩⟩
set_option maxRecDepth 100000 in
set_option maxHeartbeats 4000000 in
theorem keep_dif (v : Value) (a : ByteArray) (W : World) (B R m n : Nat) (c f e l : Value) (D : DataW Unit) (M : Mast) (hv : StrsV W v [tDiffer, a]) (h : RdAt W B R m c f e l n D M) :
    Calls Tryz.prog 50 #[.pointer (some ⟨R, 0, none⟩), v] W (ReadTold W B R m n D { M with dif := a } 0) := by
  obtain ⟨p, cp, rfl, _, _, hc⟩ := hv
  obtain ⟨g, o, rfl, k0⟩ := hc 0 tDiffer rfl
  obtain ⟨g', o', e1, k1⟩ := hc 1 a rfl
  cases e1
  rw [Nat.add_zero] at k0
  have g0 : (tDiffer.toList == [101, 110, 116, 105, 116, 121]) = false := by rw [qEntity]; decide
  have g1 : (tDiffer.toList == [109, 97, 112]) = false := by rw [qMap]; decide
  have g2 : (tDiffer.toList == [103, 114, 111, 117, 112]) = false := by rw [qGroup]; decide
  have g3 : (tDiffer.toList == [114, 101, 115, 101, 114, 118, 101]) = false := by rw [qReserve]; decide
  have gt : (tDiffer.toList == [100, 105, 102, 102, 101, 114]) = true := by rw [qDiffer]; decide
  have HF : Hid (RdAt (W.setCell ⟨R, 6, none⟩ (.string a)) B R m c f e l n D { M with dif := a }) := Lib.hid (rd_stored 6 _ h.box rfl h.chart h.flows h.ents h.lines h.map h.geR h.geM)
  have HB : Hid (Below B W (W.setCell ⟨R, 6, none⟩ (.string a))) := Lib.hid (below_stored (Below.refl B W) h.geR 6 _)
  obtain ⟨MM, hMM⟩ : ∃ MM : Mast, ({ M with dif := a } : Mast) = MM := ⟨_, rfl⟩
  rw [hMM] at HF ⊢
  have hz := h.nine.c6
  have hfz := h.free 6
  clear hc hMM h
  go_enter Tryz.func50, Tryz.ntmps50
  go_wp2
  go_ret
  exact ⟨rfl, HB.out, fun _ => ⟨_, _, _, _, HF.out⟩⟩
set_option maxRecDepth 100000 in
set_option maxHeartbeats 4000000 in
theorem keep_min (v : Value) (a : ByteArray) (W : World) (B R m n : Nat) (c f e l : Value) (D : DataW Unit) (M : Mast) (hv : StrsV W v [tMinor, a]) (h : RdAt W B R m c f e l n D M) :
    Calls Tryz.prog 50 #[.pointer (some ⟨R, 0, none⟩), v] W (ReadTold W B R m n D { M with min := a } 0) := by
  obtain ⟨p, cp, rfl, _, _, hc⟩ := hv
  obtain ⟨g, o, rfl, k0⟩ := hc 0 tMinor rfl
  obtain ⟨g', o', e1, k1⟩ := hc 1 a rfl
  cases e1
  rw [Nat.add_zero] at k0
  have g0 : (tMinor.toList == [101, 110, 116, 105, 116, 121]) = false := by rw [qEntity]; decide
  have g1 : (tMinor.toList == [109, 97, 112]) = false := by rw [qMap]; decide
  have g2 : (tMinor.toList == [103, 114, 111, 117, 112]) = false := by rw [qGroup]; decide
  have g3 : (tMinor.toList == [114, 101, 115, 101, 114, 118, 101]) = false := by rw [qReserve]; decide
  have g4 : (tMinor.toList == [100, 105, 102, 102, 101, 114]) = false := by rw [qDiffer]; decide
  have gt : (tMinor.toList == [109, 105, 110, 111, 114]) = true := by rw [qMinor]; decide
  have HF : Hid (RdAt (W.setCell ⟨R, 7, none⟩ (.string a)) B R m c f e l n D { M with min := a }) := Lib.hid (rd_stored 7 _ h.box rfl h.chart h.flows h.ents h.lines h.map h.geR h.geM)
  have HB : Hid (Below B W (W.setCell ⟨R, 7, none⟩ (.string a))) := Lib.hid (below_stored (Below.refl B W) h.geR 7 _)
  obtain ⟨MM, hMM⟩ : ∃ MM : Mast, ({ M with min := a } : Mast) = MM := ⟨_, rfl⟩
  rw [hMM] at HF ⊢
  have hz := h.nine.c7
  have hfz := h.free 7
  clear hc hMM h
  go_enter Tryz.func50, Tryz.ntmps50
  go_wp2
  go_ret
  exact ⟨rfl, HB.out, fun _ => ⟨_, _, _, _, HF.out⟩⟩
set_option maxRecDepth 100000 in
set_option maxHeartbeats 4000000 in
theorem keep_stk (v : Value) (a : ByteArray) (W : World) (B R m n : Nat) (c f e l : Value) (D : DataW Unit) (M : Mast) (hv : StrsV W v [tStake, a]) (h : RdAt W B R m c f e l n D M) :
    Calls Tryz.prog 50 #[.pointer (some ⟨R, 0, none⟩), v] W (ReadTold W B R m n D { M with stk := a } 0) := by
  obtain ⟨p, cp, rfl, _, _, hc⟩ := hv
  obtain ⟨g, o, rfl, k0⟩ := hc 0 tStake rfl
  obtain ⟨g', o', e1, k1⟩ := hc 1 a rfl
  cases e1
  rw [Nat.add_zero] at k0
  have g0 : (tStake.toList == [101, 110, 116, 105, 116, 121]) = false := by rw [qEntity]; decide
  have g1 : (tStake.toList == [109, 97, 112]) = false := by rw [qMap]; decide
  have g2 : (tStake.toList == [103, 114, 111, 117, 112]) = false := by rw [qGroup]; decide
  have g3 : (tStake.toList == [114, 101, 115, 101, 114, 118, 101]) = false := by rw [qReserve]; decide
  have g4 : (tStake.toList == [100, 105, 102, 102, 101, 114]) = false := by rw [qDiffer]; decide
  have g5 : (tStake.toList == [109, 105, 110, 111, 114]) = false := by rw [qMinor]; decide
  have gt : (tStake.toList == [115, 116, 97, 107, 101]) = true := by rw [qStake]; decide
  have HF : Hid (RdAt (W.setCell ⟨R, 8, none⟩ (.string a)) B R m c f e l n D { M with stk := a }) := Lib.hid (rd_stored 8 _ h.box rfl h.chart h.flows h.ents h.lines h.map h.geR h.geM)
  have HB : Hid (Below B W (W.setCell ⟨R, 8, none⟩ (.string a))) := Lib.hid (below_stored (Below.refl B W) h.geR 8 _)
  obtain ⟨MM, hMM⟩ : ∃ MM : Mast, ({ M with stk := a } : Mast) = MM := ⟨_, rfl⟩
  rw [hMM] at HF ⊢
  have hz := h.nine.c8
  have hfz := h.free 8
  clear hc hMM h
  go_enter Tryz.func50, Tryz.ntmps50
  go_wp2
  go_ret
  exact ⟨rfl, HB.out, fun _ => ⟨_, _, _, _, HF.out⟩⟩
end Go.Proofs.YticdmlijacnjbaaGreatDoor.Un
