/- ChartParse; UnitReadA; FlowWords; FlowParse: texts put together (each begins with what it is). -/
import Derived.Test.YticdmlijacnjbaaGreatDoorM13
import Derived.Deep.RegionHeld3
import Derived.Deep.RegionLaw
import Derived.Laws.Slices
import Derived.Deep.CutBlock
import Derived.Deep.DeepCutAuto
import Derived.Test.YticdmlijacnjbaaGreatDoorM12
import Derived.Lib.SlicesS
import Derived.RegionTactic
/- The walk of chart.Parse: what the plain facts say; what was there stays. -/
namespace Go.Proofs.YticdmlijacnjbaaGreatDoor
open Go.RowKit

/-- What stands from k on of a slice of texts. -/
theorem strs_tail {P : Program} {t : TypeId} (ht : P.underlying t = some (.slice (P.elem t))) (hs : ∀ w, (sizeOf (P.elem t)).run P w = .ok 1 w) {w : World} {p : Option Addr} {n c k : Nat} {ws : List ByteArray}
    (h : StrsV w (.slice p n c) ws) (hk : k ≤ n) : ∃ v, (∀ w', (Instr.slice t (.slice p n c) (some (.int .i64 (k : Int))) none none).run P w' = .ok v w') ∧ StrsV w v (ws.drop k) := by
  obtain ⟨p', c', e, h1, h2, hc⟩ := h
  injection e with e1 e2 e3
  subst e1 e2 e3
  refine ⟨sliced p k ws.length c 1, fun w' => ?_, ?_⟩
  · rw [run_slice_l w' t p _ c ht .i64 (k : Int) (by omega) (by omega), hs]; simp [Result.andThen]
  · cases p with
    | none =>
      refine ⟨none, c - k, by simp [sliced], by simp; omega, by simp; omega, fun i x hx => ?_⟩
      rw [List.getElem?_drop] at hx
      obtain ⟨b, o, e, _⟩ := hc _ x hx
      cases e
    | some ad =>
      by_cases hck : c = k
      · subst hck
        refine ⟨some ad, 0, by simp [sliced], by simp; omega, by simp; omega, fun i x hx => ?_⟩
        rw [List.getElem?_drop] at hx
        have := (List.getElem?_eq_some_iff.1 hx).1
        omega
      · refine ⟨some (ad.add k), c - k, by simp [sliced, hck], by simp; omega, by simp; omega, fun i x hx => ?_⟩
        rw [List.getElem?_drop] at hx
        obtain ⟨b, o, e, h3⟩ := hc _ x hx
        cases e
        exact ⟨b, o + k, by rw [add_off], by rw [Nat.add_assoc]; exact h3⟩
theorem tail_u : Tryz.prog.underlying 58 = some (.slice (Tryz.prog.elem 58)) := by kernel_rfl
theorem tail_s (w : World) : (sizeOf (Tryz.prog.elem 58)).run Tryz.prog w = .ok 1 w := by kernel_rfl
/-- The six cells of a box, written one behind the other. -/
abbrev put6 (w : World) (g : Nat) (a : Acct) : World :=
  (((((w.setCell ⟨g, 0, none⟩ (.string a.code)).setCell ⟨g, 1, none⟩ (.int .i64 a.cls)).setCell ⟨g, 2, none⟩ (.bool a.cash)).setCell ⟨g, 3, none⟩ (.bool a.both)).setCell ⟨g, 4, none⟩ (.string a.fixed)).setCell ⟨g, 5, none⟩ (.bool a.worn)
theorem put6_eq {w : World} {g : Nat} {t : TypeId} {z : Acct} (h : BoxA w g t z) (a : Acct) : put6 w g a = w.setRow g #[.string a.code, .int .i64 a.cls, .bool a.cash, .bool a.both, .string a.fixed, .bool a.worn] := by
  unfold BoxA at h
  unfold put6
  rw [setCell_eq_setRow w g 0 _ t (0, 0) _ h,
    setCell_eq_setRow _ g 1 _ t (0, 0) _ (setRow_heap w g _ _ t _ h), setRow_setRow,
    setCell_eq_setRow _ g 2 _ t (0, 0) _ (setRow_heap w g _ _ t _ h), setRow_setRow,
    setCell_eq_setRow _ g 3 _ t (0, 0) _ (setRow_heap w g _ _ t _ h), setRow_setRow,
    setCell_eq_setRow _ g 4 _ t (0, 0) _ (setRow_heap w g _ _ t _ h), setRow_setRow,
    setCell_eq_setRow _ g 5 _ t (0, 0) _ (setRow_heap w g _ _ t _ h), setRow_setRow]
  simp
theorem put6_box {w : World} {g : Nat} {t : TypeId} {z : Acct} (h : BoxA w g t z) (a : Acct) : BoxA (put6 w g a) g t a ∧ w.grownBy (put6 w g a) (some g) := by
  rw [put6_eq h a]; exact ⟨h.set a, grownBy_setRow w g _⟩
theorem BoxA.free {w : World} {b : Nat} {t : TypeId} {a : Acct} (h : BoxA w b t a) (o : Nat) : w.frozen? ⟨b, o, none⟩ = false := by unfold BoxA at h; simp [World.frozen?, h]
abbrev zcells : Array Value := #[.string ⟨#[]⟩, .int .i64 0, .bool false, .bool false, .string ⟨#[]⟩, .bool false]
theorem below_undrew {B : Nat} {w w' : World} (h : Below B w.drew w') : Below B w w' := ⟨h.os, h.tape, h.output, h.size, h.block⟩
/-- What Parse holds ahead of its test. -/
def ParseAt (w wx : World) (g : Nat) (A : Acct) : Prop := BoxA wx g 89 A ∧ w.heap.size < g ∧ Below (w.heap.size + 1) (w.alloc (.cells zcells 89)) wx
theorem parseAt_late {w W0 w5 : World} {A M : Acct} (hW : w.alloc (.cells zcells 89) = W0) (hA : M = A) (hb5 : Below W0.drew.heap.size W0.drew w5) :
    ParseAt w (w5.alloc (.cells #[.string M.code, .int .i64 M.cls, .bool M.cash, .bool M.both, .string M.fixed, .bool M.worn] 89)) w5.heap.size A := by
  subst hA
  have hz : W0.heap.size = w.heap.size + 1 := by rw [← hW]; simp
  have hb : Below (w.heap.size + 1) W0 w5 := by rw [← hz]; exact below_undrew hb5
  refine ⟨BoxA.new w5 M _, ?_, ?_⟩
  · have := hb.size; omega
  · rw [hW]; exact hb.alloc (by have := hb.size; omega) _
theorem parseAt_early {w W0 w5 : World} {A M : Acct} (hW : w.alloc (.cells zcells 89) = W0) (hA : M = A) (hx : BoxA w5 W0.heap.size 89 zeroA) (hb5 : Below (W0.alloc (.cells zcells 89)).drew.heap.size (W0.alloc (.cells zcells 89)).drew w5) :
    ParseAt w (put6 w5 W0.heap.size M) W0.heap.size A := by
  subst hA
  have hz : W0.heap.size = w.heap.size + 1 := by rw [← hW]; simp
  have hb : Below W0.heap.size W0 w5 := ((Below.refl W0.heap.size W0).alloc (Nat.le_refl _) _).trans ((below_undrew hb5).mono (by simp))
  obtain ⟨h1, h2⟩ := put6_box hx M
  refine ⟨h1, by omega, ?_⟩
  rw [hW, ← hz]
  exact hb.grown h2 hb.size (fun j hj => by cases hj; exact Nat.le_refl _)
set_option maxRecDepth 100000 in
set_option maxHeartbeats 8000000 in
theorem parse_any (v : Value) (ws : List ByteArray) (w : World) (h : StrsV w v ws) (hL : Laid w) :
    Calls Tryz.prog 76 #[v] w fun e w' => e = .returned (.tuple #[aggF (parseA ws).1, .int .i64 (parseA ws).2]) ∧ Below w.heap.size w w' := by
  have HV := Lib.hid h
  obtain ⟨p, c, rfl, hcap, hm, hc⟩ := h
  obtain ⟨n, hn⟩ : ∃ n, ws.length = n := ⟨_, rfl⟩
  rw [hn] at hcap hm HV ⊢
  unfold maxLen at hm
  have HB0 := Lib.hid ((Below.refl w.heap.size w).alloc (Nat.le_refl _) (.cells zcells 89))
  have HX0 := Lib.hid (BoxA.new w zeroA 89)
  by_cases h3 : n < 3
  · have hP : Hid (parseA ws = (zeroA, 5)) := Lib.hid (by unfold parseA; rw [if_pos (by rw [hn]; exact h3)])
    rw [hP.out]
    have H3 := Lib.hid h3
    clear hn hc
    go_enter Tryz.func76, Tryz.ntmps76
    go_wp2
    refine bodyPost_ret (v := .tuple #[aggF zeroA, .int .i64 5]) (by simp [results, Tryz.results76, go_sem, zeroA]) rfl ⟨rfl, HB0.out⟩
  · obtain ⟨A, hA⟩ : ∃ A, candA ws = A := ⟨_, rfl⟩
    obtain ⟨x1, hx1⟩ : ∃ x, ws[1]? = some x := ⟨_, List.getElem?_eq_getElem (by omega)⟩
    obtain ⟨x2, hx2⟩ : ∃ x, ws[2]? = some x := ⟨_, List.getElem?_eq_getElem (by omega)⟩
    obtain ⟨b, o, rfl, k1⟩ := hc 1 x1 hx1
    obtain ⟨b', o', e', k2⟩ := hc 2 x2 hx2
    cases e'
    obtain ⟨v3, hv3, hs3⟩ := strs_tail tail_u tail_s HV.out (k := 3) (by omega)
    have HA : Hid (markedA ⟨x1, clsOf x2, false, false, ⟨#[]⟩, false⟩ (ws.drop 3) = A) := Lib.hid (by
      rw [← hA]; unfold candA
      rw [List.getD_eq_getElem?_getD, List.getD_eq_getElem?_getD, hx1, hx2]; rfl)
    have HP : Hid (parseA ws = if wordsA A = ws then (A, 0) else (zeroA, 5)) := Lib.hid (by unfold parseA; rw [if_neg (by rw [hn]; exact h3), hA])
    obtain ⟨R, hR⟩ : ∃ R, parseA ws = R := ⟨_, rfl⟩
    rw [hR] at HP ⊢
    have HN := Lib.hid hn
    have HL0 := Lib.hid (hL.below HB0.out (Nat.le_refl _))
    have HS0 := Lib.hid (hs3.keep HB0.out)
    have HV0 := Lib.hid (HV.out.keep HB0.out)
    have j1 := cell_later HB0.out k1
    have j2 := cell_later HB0.out k2
    clear hA hx1 hx2 hc hn hR hL k1 k2 hs3
    obtain ⟨W0, hW0⟩ : ∃ W0, w.alloc (.cells zcells 89) = W0 := ⟨_, rfl⟩
    have HSZ : Hid (W0.heap.size = w.heap.size + 1) := Lib.hid (by rw [← hW0]; simp)
    have HX1 : Hid (BoxA W0 w.heap.size 89 zeroA) := Lib.hid (by rw [← hW0]; exact HX0.out)
    rw [hW0] at HB0 HL0 HS0 HV0 j1 j2
    clear HX0
    go_enter Tryz.func76, Tryz.ntmps76
    go_upto_region 3 with (fail)
    have HW0 := Lib.hid hW0
    clear hW0
    go_cut [4] (fun s4 wx => ∃ g, s4 = .pointer (some ⟨g, 0, none⟩) ∧ ParseAt w wx g A)
    case first =>
      have hv : ∀ w', (Instr.slice 58 (.slice (some ⟨b, o, none⟩) n c) (some (.int .i64 3)) none none).run Tryz.prog w' = .ok v3 w' := hv3
      clear hv3
      have l1 : (1 : Int) < (n : Int) := by omega
      have l2 : (2 : Int) < (n : Int) := by omega
      have n1 := cell_later ((Below.refl W0.heap.size W0).alloc (Nat.le_refl _) (.cells zcells 89)) j1
      have n2 := cell_later ((Below.refl W0.heap.size W0).alloc (Nat.le_refl _) (.cells zcells 89)) j2
      have y1 : W0.drew.cell? ⟨b, o + 1, none⟩ = some (.string x1) := j1
      have y2 : W0.drew.cell? ⟨b, o + 2, none⟩ = some (.string x2) := j2
      have z1 : (W0.alloc (.cells zcells 89)).drew.cell? ⟨b, o + 1, none⟩ = some (.string x1) := n1
      have z2 : (W0.alloc (.cells zcells 89)).drew.cell? ⟨b, o + 2, none⟩ = some (.string x2) := n2
      have HLa := Lib.hid (HL0.out.below ((Below.refl W0.heap.size W0).alloc (Nat.le_refl _) (.cells zcells 89)) (Nat.le_refl _))
      have HSa := Lib.hid (HS0.out.keep ((Below.refl W0.heap.size W0).alloc (Nat.le_refl _) (.cells zcells 89)))
      have HNE : Hid (some b ≠ some W0.heap.size) := Lib.hid (fun e => World.new_ne W0 _ j1 (Option.some.inj e).symm)
      have HXa := Lib.hid (BoxA.new W0 zeroA 89)
      go_region_held3 (fun w' => w'.cell? ⟨b, o + 1, none⟩ = some (.string x1) ∧ w'.cell? ⟨b, o + 2, none⟩ = some (.string x2))
        (first | (with_reducible exact ⟨j1, j2⟩) | (with_reducible exact ⟨y1, y2⟩) | (with_reducible exact ⟨n1, n2⟩) | (with_reducible exact ⟨z1, z2⟩) | (with_reducible exact ⟨m1, m2⟩) | (with_reducible exact ⟨p1 _, p2 _⟩) | (with_reducible exact ⟨s1, s2⟩) | fail)
        (first
          | (go_at_call 101; refine (classOf_any x2 W0.drew ⟨HL0.out.g0, HL0.out.g1, HL0.out.g2⟩).mono ?_; rintro e w' ⟨rfl, rfl⟩)
          | (go_at_call 101; refine (classOf_any x2 (W0.alloc (.cells zcells 89)).drew ⟨HLa.out.g0, HLa.out.g1, HLa.out.g2⟩).mono ?_; rintro e w' ⟨rfl, rfl⟩)
          | (go_at_call 100; refine (marked_any ⟨x1, clsOf x2, false, false, ⟨#[]⟩, false⟩ v3 (ws.drop 3) W0.drew HS0.out).mono ?_; rintro e w5 ⟨rfl, hb5⟩; have m1 := cell_later hb5 j1; have m2 := cell_later hb5 j2; have p1 := fun C : Array Value => cell_later ((Below.refl w5.heap.size w5).alloc (Nat.le_refl _) (.cells C 89)) m1; have p2 := fun C : Array Value => cell_later ((Below.refl w5.heap.size w5).alloc (Nat.le_refl _) (.cells C 89)) m2)
          | (go_at_call 100; refine (marked_any ⟨x1, clsOf x2, false, false, ⟨#[]⟩, false⟩ v3 (ws.drop 3) (W0.alloc (.cells zcells 89)).drew HSa.out).mono ?_; rintro e w5 ⟨rfl, hb5⟩; have m1 := cell_later hb5 n1; have m2 := cell_later hb5 n2; have HX5 : Hid (BoxA w5 W0.heap.size 89 zeroA) := Lib.hid (BoxA.keep (w := (W0.alloc (.cells zcells 89)).drew) HXa.out hb5 (by simp)); obtain ⟨d0, d1, d2, d3, d4, d5⟩ := HX5.out.facts; have f0 := HX5.out.free 0; have f1 := HX5.out.free 1; have f2 := HX5.out.free 2; have f3 := HX5.out.free 3; have f4 := HX5.out.free 4; have f5 := HX5.out.free 5; have s1 := (put6_box HX5.out (markedA ⟨x1, clsOf x2, false, false, ⟨#[]⟩, false⟩ (ws.drop 3))).2.cell m1 HNE.out; have s2 := (put6_box HX5.out (markedA ⟨x1, clsOf x2, false, false, ⟨#[]⟩, false⟩ (ws.drop 3))).2.cell m2 HNE.out)
          | fail)
      all_goals
        go_wp2_with fail
        go_meet
        case rel =>
          refine ⟨_, rfl, ?_⟩
          first | (with_reducible exact parseAt_late HW0.out HA.out hb5) | (with_reducible exact parseAt_early HW0.out HA.out HX5.out hb5)
    case rest =>
      obtain ⟨g, rfl, hP⟩ := hcut
      rename World => wx
      obtain ⟨hx, hg, hb⟩ := hP
      rw [HW0.out] at hb
      rw [← HSZ.out] at hb
      have HXR := Lib.hid (HX1.out.keep hb (by rw [HSZ.out]; omega))
      have HBX := Lib.hid (HB0.out.trans (hb.mono (by rw [HSZ.out]; omega)))
      have HLX := Lib.hid (HL0.out.below hb (Nat.le_refl _))
      have HVX := Lib.hid (HV0.out.keep hb)
      have HX := Lib.hid hx
      obtain ⟨d0, d1, d2, d3, d4, d5⟩ := hx.facts
      have hlt : w.heap.size < wx.heap.size := by have := hb.size; rw [HSZ.out] at this; omega
      have hgx : g < wx.heap.size := World.block_lt_of_cell? wx _ d0
      clear hx hb hv3 j1 j2
      go_wp2_with fail
      clear d0 d1 d2 d3 d4 d5
      refine (words_any A _ HLX.out).mono ?_
      rintro e w6 ⟨v6, rfl, hs6, hb6⟩
      have HS6 := Lib.hid hs6
      have HV6 := Lib.hid (HVX.out.keep hb6)
      have HXR6 := Lib.hid (HXR.out.keep hb6 hlt)
      have HX6 := Lib.hid (HX.out.keep hb6 hgx)
      have HB6 := Lib.hid (HBX.out.trans (hb6.mono HBX.out.size))
      clear hs6 hb6
      go_wp2_with fail
      refine (equal_any _ _ _ ws _ HS6.out HV6.out).mono ?_
      rintro e w7 ⟨rfl, q, hq⟩
      have HXR7 : Hid (BoxA w7 w.heap.size 89 zeroA) := Lib.hid (by rw [hq]; exact HXR6.out)
      have HX7 : Hid (BoxA w7 g 89 A) := Lib.hid (by rw [hq]; exact HX6.out)
      have HB7 : Hid (Below w.heap.size w w7) := Lib.hid (by rw [hq]; exact below_drewN HB6.out q)
      clear hq
      by_cases hw : wordsA A = ws
      · have hsm : Hid (sameW (wordsA A) ws = true) := Lib.hid (decide_eq_true hw)
        have hRR : Hid (R = (A, 0)) := Lib.hid (by rw [HP.out, if_pos hw])
        rw [hsm.out]
        clear hw
        obtain ⟨d0, d1, d2, d3, d4, d5⟩ := HX7.out.facts
        go_wp2_with (refine wpList_store_acct rfl 89 (.tmp 2) (.tmp 26) rfl w.heap.size zeroA A 89 rfl rfl HXR7.out (by kernel_rfl) ?_; intro w8 hb8 hg8)
        have HF := Lib.hid (HB7.out.grown hg8 HB7.out.size (fun j hj => by cases hj; exact Nat.le_refl _))
        obtain ⟨t0, t1, t2, t3, t4, t5⟩ := hb8.facts
        clear hb8 hg8
        refine bodyPost_ret (v := .tuple #[aggF A, .int .i64 0]) (by simp [results, Tryz.results76, go_sem, t0, t1, t2, t3, t4, t5]) rfl ⟨by rw [hRR.out], HF.out⟩
      · have hsm : Hid (sameW (wordsA A) ws = false) := Lib.hid (decide_eq_false hw)
        have hRR : Hid (R = (zeroA, 5)) := Lib.hid (by rw [HP.out, if_neg hw])
        rw [hsm.out]
        clear hw
        go_wp2_with (refine wpList_store_acct rfl 89 (.tmp 2) (.tmp 25) rfl w.heap.size zeroA zeroA 89 rfl rfl HXR7.out (by kernel_rfl) ?_; intro w8 hb8 hg8)
        have HF := Lib.hid (HB7.out.grown hg8 HB7.out.size (fun j hj => by cases hj; exact Nat.le_refl _))
        obtain ⟨t0, t1, t2, t3, t4, t5⟩ := hb8.facts
        clear hb8 hg8
        refine bodyPost_ret (v := .tuple #[aggF zeroA, .int .i64 5]) (by simp [results, Tryz.results76, go_sem, t0, t1, t2, t3, t4, t5]) rfl ⟨by rw [hRR.out], HF.out⟩
end Go.Proofs.YticdmlijacnjbaaGreatDoor
/- The walk of the reader's readAccount: an account more, or the number of what is wrong. -/
namespace Go.Proofs.YticdmlijacnjbaaGreatDoor.Un
open Go.RowKit Go.Maps

/-- What reading a line tells: the number, and, if it is 0, the reader with it. -/
def ReadTold (W : World) (B R m n : Nat) (D : DataW Unit) (M : Mast) (E : Int) (en : Ending) (W' : World) : Prop :=
  en = .returned (.int .i64 E) ∧ Below B W W' ∧ (E = 0 → ∃ c f e l, RdAt W' B R m c f e l n D M)
set_option maxRecDepth 100000 in
set_option maxHeartbeats 8000000 in
theorem readAccount_any (v : Value) (ws : List ByteArray) (W : World) (B R m n : Nat) (c f e l : Value) (D : DataW Unit) (M : Mast) (hv : StrsV W v ws) (hlaid : Laid W) (h : RdAt W B R m c f e l n D M) (hB : B ≤ W.heap.size) (hL : M.chart.length ≤ 1000) :
    Calls Tryz.prog 46 #[.pointer (some ⟨R, 0, none⟩), v] W (ReadTold W B R m n D { M with chart := insL M.chart (parseA ws).1 } (if (parseA ws).2 = 0 then addE M.chart (parseA ws).1 else (parseA ws).2)) := by
  have HP := Lib.hid (parse_any v ws W hv hlaid)
  have HL := Lib.hid hL
  obtain ⟨p, cp, rfl, _⟩ := hv
  obtain ⟨A, hA⟩ : ∃ A, (parseA ws).1 = A := ⟨_, rfl⟩
  obtain ⟨E1, hE1⟩ : ∃ E1, (parseA ws).2 = E1 := ⟨_, rfl⟩
  rw [hA, hE1] at HP ⊢
  have HR := Lib.hid h
  have HB := Lib.hid hB
  have hAV : addE M.chart A = 0 → addV M.chart A = insL M.chart A := fun h0 => by unfold addV; rw [if_pos h0]
  have HAV := Lib.hid hAV
  obtain ⟨E2, hE2⟩ : ∃ E2, addE M.chart A = E2 := ⟨_, rfl⟩
  obtain ⟨MV, hMV⟩ : ∃ MV, addV M.chart A = MV := ⟨_, rfl⟩
  have HAD := Lib.hid (fun (X : World) (hX : ChartV X c M.chart) => add_own c M.chart A X hX hL)
  rw [hE2] at HAV ⊢
  rw [hMV] at HAV
  simp only [hE2, hMV] at HAD
  obtain ⟨nw, hnw⟩ : ∃ nw, ws.length = nw := ⟨_, rfl⟩
  rw [hnw] at HP ⊢
  obtain ⟨E, hE⟩ : ∃ E, (if E1 = 0 then E2 else E1) = E := ⟨_, rfl⟩
  obtain ⟨MM, hMM⟩ : ∃ MM : Mast, ({ M with chart := insL M.chart A } : Mast) = MM := ⟨_, rfl⟩
  rw [hE, hMM]
  have HE := Lib.hid hE
  have HMM := Lib.hid hMM
  clear hA hE1 hE2 hMV h hB hL hlaid hAV hnw hE hMM
  go_enter Tryz.func46, Tryz.ntmps46
  go_wp2_with fail
  refine HP.out.mono ?_
  rintro en w1 ⟨rfl, hb1⟩
  have hb2 := hb1.alloc hb1.size (.cells #[.string A.code, .int .i64 A.cls, .bool A.cash, .bool A.both, .string A.fixed, .bool A.worn] 89)
  have HR2 := Lib.hid (HR.out.below hb2)
  have HX2 := Lib.hid (BoxA.new w1 A 89)
  have HB2 := Lib.hid (hb2.mono HB.out)
  have HS2 : Hid (B ≤ (w1.alloc (.cells #[.string A.code, .int .i64 A.cls, .bool A.cash, .bool A.both, .string A.fixed, .bool A.worn] 89)).heap.size) := Lib.hid (Nat.le_trans HB.out hb2.size)
  clear hb1 hb2
  by_cases h0 : E1 = 0
  · subst h0
    obtain ⟨W2, hW2⟩ : ∃ W2, w1.alloc (.cells #[.string A.code, .int .i64 A.cls, .bool A.cash, .bool A.both, .string A.fixed, .bool A.worn] 89) = W2 := ⟨_, rfl⟩
    rw [hW2] at HR2 HX2 HB2 HS2
    go_wp2_with fail
    clear hW2
    obtain ⟨k0, k1, k2, k3, k4, k5, k6, k7, k8⟩ := (show NineAt W2.drew R c f e l M from HR2.out.nine.kept ⟨rfl, rfl, rfl, Nat.le_refl _, fun _ _ => rfl⟩)
    obtain ⟨j0, j1, j2, j3, j4, j5⟩ := (show BoxA W2.drew w1.heap.size 89 A from HX2.out).facts
    have HCV : Hid (ChartV W2.drew c M.chart) := Lib.hid ((chart_of_own HR2.out.chart).keep ⟨rfl, rfl, rfl, Nat.le_refl _, fun _ _ => rfl⟩)
    clear k1 k2 k3 k4 k5 k6 k7 k8
    go_region_with (first
        | (go_at_call 77; refine (HAD.out W2.drew HCV.out).mono ?_; rintro en w3 ⟨v9, rfl, ho9, hb9⟩; obtain ⟨p9, c9, rfl, _, _⟩ := chart_of_own ho9; have HR3 := Lib.hid (RdAt.below (W := W2.drew) (HR2.out.below (W' := W2.drew) ⟨rfl, rfl, rfl, Nat.le_refl _, fun _ _ => rfl⟩) hb9); have hz := HR3.out.nine.c0; have hfz := HR3.out.free 0)
        | fail)
    all_goals
      have HE2 : Hid (E2 = E) := Lib.hid (by rw [← HE.out, if_pos (by trivial)])
      have HFIN : Hid (E = 0 → RdAt (w3.setCell ⟨R, 0, none⟩ (.slice p9 MV.length c9)) B R m (.slice p9 MV.length c9) f e l n D MM) := Lib.hid (fun h0 => by
        have hmv := HAV.out (by rw [HE2.out]; exact h0)
        rw [← HMM.out]
        refine rd_stored 0 _ HR3.out.box rfl ?_ HR3.out.flows HR3.out.ents HR3.out.lines HR3.out.map HR3.out.geR HR3.out.geM
        show w3.ownsRow B _ 6 _ (insL M.chart A).length (flatA (insL M.chart A))
        rw [← hmv]
        exact row_base ho9 HS2.out)
      have HBF : Hid (Below B W (w3.setCell ⟨R, 0, none⟩ (.slice p9 MV.length c9))) := Lib.hid (below_stored (HB2.out.trans ((below_undrawn hb9).mono HS2.out)) HR3.out.geR 0 _)
      clear ho9 hb9 hz hfz
      go_wp2
      go_ret
      exact ⟨by rw [← HE2.out]; rfl, HBF.out, fun h0 => ⟨_, _, _, _, HFIN.out h0⟩⟩
  · have HE2 : Hid (E1 = E ∧ E ≠ 0) := Lib.hid (by have := HE.out; rw [if_neg h0] at this; exact ⟨this, by rw [← this]; exact h0⟩)
    go_wp2
    go_ret
    exact ⟨by rw [← HE2.out.1]; rfl, HB2.out, fun h1 => absurd h1 HE2.out.2⟩
end Go.Proofs.YticdmlijacnjbaaGreatDoor.Un
/- What the listed variable holds, as the walks ask it; the walks of flow.kindOf, flow.Words: what the plain facts say, in new memory; what was there stays. -/
namespace Go.Proofs.YticdmlijacnjbaaGreatDoor.Fl
open Go.RowKit

/-- The kinds' words lie where the program's text lays them. -/
structure Laid (w : World) : Prop where
  g0 : w.cell? ⟨1, 0, none⟩ = some (.string tOpen)
  g1 : w.cell? ⟨1, 1, none⟩ = some (.string tMove)
  g2 : w.cell? ⟨1, 2, none⟩ = some (.string tFx)
  g3 : w.cell? ⟨1, 3, none⟩ = some (.string tScope)
  g4 : w.cell? ⟨1, 4, none⟩ = some (.string tClose)
theorem Laid.below {w w' : World} {B : Nat} (h : Laid w) (hb : Below B w w') (hB : w.heap.size ≤ B) : Laid w' :=
  have lt := Nat.lt_of_lt_of_le (World.block_lt_of_cell? w _ h.g0) hB
  ⟨(hb.cell (p := ⟨_, 0, none⟩) lt).trans h.g0, (hb.cell (p := ⟨_, 1, none⟩) lt).trans h.g1, (hb.cell (p := ⟨_, 2, none⟩) lt).trans h.g2, (hb.cell (p := ⟨_, 3, none⟩) lt).trans h.g3, (hb.cell (p := ⟨_, 4, none⟩) lt).trans h.g4⟩
theorem Laid.drew {w : World} (h : Laid w) : Laid w.drew := ⟨h.g0, h.g1, h.g2, h.g3, h.g4⟩
theorem Laid.drewN {w : World} (h : Laid w) (q : Nat) : Laid (w.drewN q) := ⟨h.g0, h.g1, h.g2, h.g3, h.g4⟩
theorem at_arr0 (w : World) : (Instr.index 131 (.agg #[.string tOpen, .string tMove, .string tFx, .string tScope, .string tClose]) (.int .i64 0)).run Tryz.prog w = .ok (.string tOpen) w := by kernel_rfl
theorem at_arr1 (w : World) : (Instr.index 131 (.agg #[.string tOpen, .string tMove, .string tFx, .string tScope, .string tClose]) (.int .i64 1)).run Tryz.prog w = .ok (.string tMove) w := by kernel_rfl
theorem at_arr2 (w : World) : (Instr.index 131 (.agg #[.string tOpen, .string tMove, .string tFx, .string tScope, .string tClose]) (.int .i64 2)).run Tryz.prog w = .ok (.string tFx) w := by kernel_rfl
theorem at_arr3 (w : World) : (Instr.index 131 (.agg #[.string tOpen, .string tMove, .string tFx, .string tScope, .string tClose]) (.int .i64 3)).run Tryz.prog w = .ok (.string tScope) w := by kernel_rfl
theorem at_arr4 (w : World) : (Instr.index 131 (.agg #[.string tOpen, .string tMove, .string tFx, .string tScope, .string tClose]) (.int .i64 4)).run Tryz.prog w = .ok (.string tClose) w := by kernel_rfl
theorem ret_int {a b : Int} (h : a = b) : Ending.returned (.int .i64 a) = .returned (.int .i64 b) := by rw [h]
theorem kindO_no {s : ByteArray} (h0 : tOpen ≠ s) (h1 : tMove ≠ s) (h2 : tFx ≠ s) (h3 : tScope ≠ s) (h4 : tClose ≠ s) : kindO s = -1 := by
  unfold kindO
  rw [if_neg (fun e => h0 e.symm), if_neg (fun e => h1 e.symm), if_neg (fun e => h2 e.symm), if_neg (fun e => h3 e.symm), if_neg (fun e => h4 e.symm)]
set_option maxRecDepth 100000 in
set_option maxHeartbeats 4000000 in
theorem kindOf_any (s : ByteArray) (w : World) (hL : Laid w) :
    Calls Tryz.prog 106 #[.string s] w fun e w' => e = .returned (.int .i64 (kindO s)) ∧ w = w' := by
  obtain ⟨g0, g1, g2, g3, g4⟩ := hL
  obtain ⟨r, hr⟩ : ∃ r, kindO s = r := ⟨_, rfl⟩
  rw [hr]
  have HR := Lib.hid hr
  clear hr
  obtain ⟨A, hA⟩ : ∃ A, tOpen = A := ⟨_, rfl⟩
  obtain ⟨B, hB⟩ : ∃ B, tMove = B := ⟨_, rfl⟩
  obtain ⟨C, hC⟩ : ∃ C, tFx = C := ⟨_, rfl⟩
  obtain ⟨D, hD⟩ : ∃ D, tScope = D := ⟨_, rfl⟩
  obtain ⟨E, hE⟩ : ∃ E, tClose = E := ⟨_, rfl⟩
  have i0 := at_arr0
  have i1 := at_arr1
  have i2 := at_arr2
  have i3 := at_arr3
  have i4 := at_arr4
  rw [hA] at g0
  rw [hB] at g1
  rw [hC] at g2
  rw [hD] at g3
  rw [hE] at g4
  rw [hA, hB, hC, hD, hE] at i0 i1 i2 i3 i4
  have HA := Lib.hid hA
  have HBB := Lib.hid hB
  have HCC := Lib.hid hC
  have HDD := Lib.hid hD
  have HEE := Lib.hid hE
  clear hA hB hC hD hE
  cases hs0 : (A.toList == s.toList) with
  | true =>
    have HS := Lib.hid ((Lib.bytes_beq_iff A s).1 hs0)
    go_enter Tryz.func106, Tryz.ntmps106
    go_wp2
    refine wp_loop_rounds 1 ?_
    rw [rounds_succ]
    go_wp2
    go_ret
    exact ⟨ret_int (by rw [← HR.out, ← HS.out, ← HA.out]; decide), rfl⟩
  | false =>
    have HS := Lib.hid ((Lib.bytes_beq_false_iff A s).1 hs0)
    cases hs1 : (B.toList == s.toList) with
    | true =>
      have HS1 := Lib.hid ((Lib.bytes_beq_iff B s).1 hs1)
      go_enter Tryz.func106, Tryz.ntmps106
      go_wp2
      refine wp_loop_rounds 2 ?_
      rw [rounds_succ]
      go_wp2
      rw [rounds_succ]
      go_wp2
      go_ret
      exact ⟨ret_int (by rw [← HR.out, ← HS1.out, ← HBB.out]; decide), rfl⟩
    | false =>
      have HS1 := Lib.hid ((Lib.bytes_beq_false_iff B s).1 hs1)
      cases hs2 : (C.toList == s.toList) with
      | true =>
        have HS2 := Lib.hid ((Lib.bytes_beq_iff C s).1 hs2)
        go_enter Tryz.func106, Tryz.ntmps106
        go_wp2
        refine wp_loop_rounds 3 ?_
        rw [rounds_succ]
        go_wp2
        rw [rounds_succ]
        go_wp2
        rw [rounds_succ]
        go_wp2
        go_ret
        exact ⟨ret_int (by rw [← HR.out, ← HS2.out, ← HCC.out]; decide), rfl⟩
      | false =>
        have HS2 := Lib.hid ((Lib.bytes_beq_false_iff C s).1 hs2)
        cases hs3 : (D.toList == s.toList) with
        | true =>
          have HS3 := Lib.hid ((Lib.bytes_beq_iff D s).1 hs3)
          go_enter Tryz.func106, Tryz.ntmps106
          go_wp2
          refine wp_loop_rounds 4 ?_
          rw [rounds_succ]
          go_wp2
          rw [rounds_succ]
          go_wp2
          rw [rounds_succ]
          go_wp2
          rw [rounds_succ]
          go_wp2
          go_ret
          exact ⟨ret_int (by rw [← HR.out, ← HS3.out, ← HDD.out]; decide), rfl⟩
        | false =>
          have HS3 := Lib.hid ((Lib.bytes_beq_false_iff D s).1 hs3)
          cases hs4 : (E.toList == s.toList) with
          | true =>
            have HS4 := Lib.hid ((Lib.bytes_beq_iff E s).1 hs4)
            go_enter Tryz.func106, Tryz.ntmps106
            go_wp2
            refine wp_loop_rounds 5 ?_
            rw [rounds_succ]
            go_wp2
            rw [rounds_succ]
            go_wp2
            rw [rounds_succ]
            go_wp2
            rw [rounds_succ]
            go_wp2
            rw [rounds_succ]
            go_wp2
            go_ret
            exact ⟨ret_int (by rw [← HR.out, ← HS4.out, ← HEE.out]; decide), rfl⟩
          | false =>
            have HS4 := Lib.hid ((Lib.bytes_beq_false_iff E s).1 hs4)
            have hres : Hid (r = -1) := Lib.hid (by
              rw [← HR.out]
              exact kindO_no (by rw [HA.out]; exact HS.out) (by rw [HBB.out]; exact HS1.out) (by rw [HCC.out]; exact HS2.out) (by rw [HDD.out]; exact HS3.out) (by rw [HEE.out]; exact HS4.out))
            go_enter Tryz.func106, Tryz.ntmps106
            go_wp2
            refine wp_loop_rounds 6 ?_
            rw [rounds_succ]
            go_wp2
            rw [rounds_succ]
            go_wp2
            rw [rounds_succ]
            go_wp2
            rw [rounds_succ]
            go_wp2
            rw [rounds_succ]
            go_wp2
            rw [rounds_succ]
            go_wp2
            go_ret
            exact ⟨ret_int hres.out.symm, rfl⟩
/-- Three texts that were just laid. -/
theorem strs_three (w : World) (x y z : ByteArray) (t : TypeId) : StrsV (w.alloc (.cells #[.string x, .string y, .string z] t)) (.slice (some ⟨w.heap.size, 0, none⟩) 3 3) [x, y, z] :=
  strs_new w [x, y, z] t (by show 3 ≤ _; unfold maxLen; omega)
theorem below_drewN' {B : Nat} {a w : World} (h : Below B a w) (n : Nat) : Below B a (w.drewN n) := ⟨h.os, h.tape, h.output, h.size, h.block⟩
theorem below_drew' {B : Nat} {a w : World} (h : Below B a w) : Below B a w.drew := ⟨h.os, h.tape, h.output, h.size, h.block⟩
set_option maxRecDepth 100000 in
set_option maxHeartbeats 4000000 in
theorem words_any (f : Flow) (w : World) (hL : Laid w) : Calls Tryz.prog 35 #[aggL f] w (StrsTold w (wordsF f)) := by
  have HR := Lib.hid (right_any f)
  have HB := Lib.hid ((Below.refl w.heap.size w).alloc (Nat.le_refl _) (.cells #[.string f.code, .int .i64 f.kind] 86))
  have HX0 := Lib.hid (BoxE.new encF w f 86)
  have HL0 := Lib.hid (hL.below HB.out (Nat.le_refl _))
  clear hL
  cases h : rightF f with
  | false =>
    rw [h] at HR
    rw [words_nil h]
    clear h
    go_enter Tryz.func35, Tryz.ntmps35
    go_wp2_with fail
    refine (HR.out _).mono ?_
    rintro e w1 ⟨rfl, hb1⟩
    have HB1 := Lib.hid hb1
    clear hb1
    go_wp2
    go_ret
    exact ⟨_, rfl, StrsV.nil _, HB.out.trans (HB1.out.mono HB.out.size)⟩
  | true =>
    rw [h] at HR
    rw [words_of h]
    obtain ⟨co, k⟩ := f
    have hk := (right_parts h).2
    clear h
    simp only at HR HB HX0 HL0 hk ⊢
    rcases hk with rfl | rfl | rfl | rfl | rfl
    all_goals
      go_enter Tryz.func35, Tryz.ntmps35
      go_wp2_with fail
      refine (HR.out _).mono ?_
      rintro e w1 ⟨rfl, hb1⟩
      have HB1 := Lib.hid (HB.out.trans (hb1.mono HB.out.size))
      have hlt : w.heap.size < w1.heap.size := by have := hb1.size; simp at this; omega
      obtain ⟨g0, g1, g2, g3, g4⟩ := HL0.out.below hb1 (Nat.le_refl _)
      obtain ⟨c0, c1⟩ := box (HX0.out.keep hb1 (by simp))
      simp only at c0 c1
      clear hb1
      go_wp2
      go_region
      clear g0 g1 g2 g3 g4
      go_wp2
      go_ret
      exact ⟨_, rfl, strs_three w1 tFlow _ _ _, below_drewN' (HB1.out.alloc HB1.out.size _) 1⟩
end Go.Proofs.YticdmlijacnjbaaGreatDoor.Fl
/- The walk of flow.Parse: what the plain facts say; what was there stays. -/
namespace Go.Proofs.YticdmlijacnjbaaGreatDoor.Fl
open Go.RowKit

theorem cell_on {w w' : World} {p : Addr} {v : Value} (hb : Below w.heap.size w w') (h : w.cell? p = some v) : w'.cell? p = some v := (hb.cell (World.block_lt_of_cell? w _ h)).trans h
abbrev zc : Array Value := #[.string ⟨#[]⟩, .int .i64 0]
theorem list_flow : tFlow.toList = [102, 108, 111, 119] := by rw [ByteArray.toList_eq]; rfl
theorem beq_flow (x : ByteArray) : (x.toList == [102, 108, 111, 119]) = decide (x = tFlow) := by
  rw [← list_flow]
  cases h : (x.toList == tFlow.toList) with
  | true => rw [decide_eq_true ((Lib.bytes_beq_iff x tFlow).1 h)]
  | false => rw [decide_eq_false ((Lib.bytes_beq_false_iff x tFlow).1 h)]
/-- What Parse holds ahead of its test. -/
def ParseAt (w wx : World) (A : Flow) : Prop := BoxE encF wx (w.heap.size + 1) 86 A ∧ Below (w.heap.size + 1) (w.alloc (.cells zc 86)) wx
set_option maxRecDepth 100000 in
set_option maxHeartbeats 8000000 in
theorem parse_any (v : Value) (ws : List ByteArray) (w : World) (h : StrsV w v ws) (hL : Laid w) :
    Calls Tryz.prog 78 #[v] w fun e w' => e = .returned (.tuple #[aggL (parseF ws).1, .int .i64 (parseF ws).2]) ∧ Below w.heap.size w w' := by
  have HV := Lib.hid h
  obtain ⟨p, c, rfl, hcap, hm, hc⟩ := h
  have HB0 := Lib.hid ((Below.refl w.heap.size w).alloc (Nat.le_refl _) (.cells zc 86))
  have HX0 := Lib.hid (BoxE.new encF w zeroF 86)
  by_cases h3 : ws.length = 3
  · match ws, h3 with
    | [x0, x1, x2], _ =>
      obtain ⟨b, o, rfl, k0'⟩ := hc 0 x0 rfl
      obtain ⟨b', o', e', k1⟩ := hc 1 x1 rfl
      cases e'
      obtain ⟨b', o', e', k2⟩ := hc 2 x2 rfl
      cases e'
      have k0 : w.cell? ⟨b, o, none⟩ = some (.string x0) := k0'
      have j0 := cell_on HB0.out k0
      have j1 := cell_on HB0.out k1
      have j2 := cell_on HB0.out k2
      have HNB : Hid (b ≠ w.heap.size) := Lib.hid (by have := World.block_lt_of_cell? w _ k0; simp at this; omega)
      have HLT : Hid (b < w.heap.size) := Lib.hid (World.block_lt_of_cell? w _ k0)
      have HL0 := Lib.hid (hL.below HB0.out (Nat.le_refl _))
      rw [parse_three]
      obtain ⟨A, hA⟩ : ∃ A : Flow, (⟨x1, kindO x2⟩ : Flow) = A := ⟨_, rfl⟩
      rw [hA]
      have HA := Lib.hid hA
      clear hc hA k0' k0 k1 k2 hL hm hcap HV
      show Calls _ _ #[.slice (some ⟨b, o, none⟩) 3 c] _ _
      obtain ⟨W0, hW0⟩ : ∃ W0, w.alloc (.cells zc 86) = W0 := ⟨_, rfl⟩
      have HSZ : Hid (W0.heap.size = w.heap.size + 1) := Lib.hid (by rw [← hW0]; simp)
      have HX1 : Hid (BoxE encF W0 w.heap.size 86 zeroF) := Lib.hid (by rw [← hW0]; exact HX0.out)
      rw [hW0] at HB0 HL0 j0 j1 j2
      clear HX0
      cases hx0 : (x0.toList == [102, 108, 111, 119]) with
      | false =>
        have hne : ¬ (x0 = tFlow ∧ rightF A = true) := fun e => by
          rw [beq_flow, e.1] at hx0; simp at hx0
        rw [if_neg hne]
        have hxn : (!x0.toList == [102, 108, 111, 119]) = true := by rw [hx0]; rfl
        clear hne hx0
        go_enter Tryz.func78, Tryz.ntmps78
        go_wp2_with (refine wpList_store_el (E := encF) rfl 86 (.tmp 2) (.tmp 14) rfl w.heap.size zeroF zeroF 86 rfl rfl HX1.out (by kernel_rfl) ?_; intro w8 hb8 hg8)
        have HF := Lib.hid (HB0.out.grown hg8 HB0.out.size (fun j hj => by cases hj; exact Nat.le_refl _))
        obtain ⟨t0, t1⟩ := box hb8
        clear hb8 hg8
        refine bodyPost_ret (v := .tuple #[aggL zeroF, .int .i64 5]) (by simp [results, Tryz.results78, go_sem, t0, t1]) rfl ⟨rfl, HF.out⟩
      | true =>
        have hx : x0 = tFlow := by rw [beq_flow] at hx0; exact of_decide_eq_true hx0
        have hxn : (!x0.toList == [102, 108, 111, 119]) = false := by rw [hx0]; rfl
        have HE : Hid (∀ r, rightF A = r → (if x0 = tFlow ∧ rightF A = true then (A, (0 : Int)) else (zeroF, 5)) = if r = true then (A, 0) else (zeroF, 5)) := Lib.hid (fun r hr => by
          rw [hr]; cases r <;> simp [hx])
        obtain ⟨R, hR⟩ : ∃ R, (if x0 = tFlow ∧ rightF A = true then (A, (0 : Int)) else (zeroF, 5)) = R := ⟨_, rfl⟩
        rw [hR] at HE ⊢
        clear hR hx hx0
        go_enter Tryz.func78, Tryz.ntmps78
        go_upto_region 3 with (fail)
        have HW0 := Lib.hid hW0
        clear hW0 j0
        go_cut [4] (fun s4 wx => s4 = .pointer (some ⟨w.heap.size + 1, 0, none⟩) ∧ ParseAt w wx A)
        case first =>
          have hba := (Below.refl W0.heap.size W0).alloc (Nat.le_refl _) (.cells zc 86)
          have n1 := cell_on hba j1
          have n2 := cell_on hba j2
          have y1 : W0.drew.cell? ⟨b, o + 1, none⟩ = some (.string x1) := j1
          have y2 : W0.drew.cell? ⟨b, o + 2, none⟩ = some (.string x2) := j2
          have z1 : (W0.alloc (.cells zc 86)).drew.cell? ⟨b, o + 1, none⟩ = some (.string x1) := n1
          have z2 : (W0.alloc (.cells zc 86)).drew.cell? ⟨b, o + 2, none⟩ = some (.string x2) := n2
          have HLa := Lib.hid (HL0.out.below hba (Nat.le_refl _))
          have hbl := fun C : Array Value => (Below.refl W0.heap.size W0).alloc (Nat.le_refl _) (.cells C 86)
          have p1 := fun C : Array Value => cell_on (hbl C) j1
          have p2 := fun C : Array Value => cell_on (hbl C) j2
          clear hba hbl
          go_region_held3 (fun w' => w'.cell? ⟨b, o + 1, none⟩ = some (.string x1) ∧ w'.cell? ⟨b, o + 2, none⟩ = some (.string x2))
            (first | (with_reducible exact ⟨j1, j2⟩) | (with_reducible exact ⟨y1, y2⟩) | (with_reducible exact ⟨n1, n2⟩) | (with_reducible exact ⟨z1, z2⟩) | exact ⟨p1 _, p2 _⟩ | fail)
            (first
              | (go_at_call 106; refine (kindOf_any x2 W0.drew HL0.out.drew).mono ?_; rintro e w' ⟨rfl, rfl⟩)
              | (go_at_call 106; refine (kindOf_any x2 (W0.alloc (.cells zc 86)).drew HLa.out.drew).mono ?_; rintro e w' ⟨rfl, rfl⟩)
              | fail)
          all_goals
            go_wp2_with fail
            go_meet
            case rel =>
              refine ⟨by rw [← HSZ.out], ?_⟩
              exact ⟨by rw [← HSZ.out, ← HA.out]; exact BoxE.new encF W0 ⟨x1, kindO x2⟩ 86, by rw [HW0.out, ← HSZ.out]; exact below_drew' ((Below.refl W0.heap.size W0).alloc (Nat.le_refl _) _)⟩
        case rest =>
          obtain ⟨rfl, hP⟩ := hcut
          rename World => wx
          obtain ⟨hx, hb⟩ := hP
          rw [HW0.out] at hb
          rw [← HSZ.out] at hb
          have HXR := Lib.hid (HX1.out.keep hb (by rw [HSZ.out]; omega))
          have HBX := Lib.hid (HB0.out.trans (hb.mono (by rw [HSZ.out]; omega)))
          have HX := Lib.hid hx
          obtain ⟨d0, d1⟩ := box hx
          have hlt : w.heap.size < wx.heap.size := by have := hb.size; rw [HSZ.out] at this; omega
          have hgx := hx.lt
          obtain ⟨r, hr⟩ : ∃ r, rightF A = r := ⟨_, rfl⟩
          have HRA := Lib.hid (right_any A)
          rw [hr] at HRA
          have HER := Lib.hid (HE.out r hr)
          clear hx hb j1 j2 hr
          go_wp2_with fail
          clear d0 d1
          refine (HRA.out wx).mono ?_
          rintro e w7 ⟨rfl, hb7⟩
          have HXR7 := Lib.hid (HXR.out.keep hb7 hlt)
          have HX7 := Lib.hid (HX.out.keep hb7 hgx)
          have HB7 := Lib.hid (HBX.out.trans (hb7.mono HBX.out.size))
          clear hb7
          cases r with
          | true =>
            obtain ⟨d0, d1⟩ := box HX7.out
            go_wp2_with (refine wpList_store_el (E := encF) rfl 86 (.tmp 2) (.tmp 27) rfl w.heap.size zeroF A 86 rfl rfl HXR7.out (by kernel_rfl) ?_; intro w8 hb8 hg8)
            have HF := Lib.hid (HB7.out.grown hg8 HB7.out.size (fun j hj => by cases hj; exact Nat.le_refl _))
            obtain ⟨t0, t1⟩ := box hb8
            clear hb8 hg8
            refine bodyPost_ret (v := .tuple #[aggL A, .int .i64 0]) (by simp [results, Tryz.results78, go_sem, t0, t1]) rfl ⟨by rw [HER.out]; rfl, HF.out⟩
          | false =>
            go_wp2_with (refine wpList_store_el (E := encF) rfl 86 (.tmp 2) (.tmp 26) rfl w.heap.size zeroF zeroF 86 rfl rfl HXR7.out (by kernel_rfl) ?_; intro w8 hb8 hg8)
            have HF := Lib.hid (HB7.out.grown hg8 HB7.out.size (fun j hj => by cases hj; exact Nat.le_refl _))
            obtain ⟨t0, t1⟩ := box hb8
            clear hb8 hg8
            refine bodyPost_ret (v := .tuple #[aggL zeroF, .int .i64 5]) (by simp [results, Tryz.results78, go_sem, t0, t1]) rfl ⟨by rw [HER.out]; rfl, HF.out⟩
  · have HP := Lib.hid (parse_len h3)
    rw [HP.out]
    obtain ⟨n, hn⟩ : ∃ n, ws.length = n := ⟨_, rfl⟩
    rw [hn] at h3 hcap hm ⊢
    unfold maxLen at hm
    have hnz : ((n : Int) != 3) = true := by simp; omega
    clear hc hn h3 HV
    go_enter Tryz.func78, Tryz.ntmps78
    go_wp2
    refine bodyPost_ret (v := .tuple #[aggL zeroF, .int .i64 5]) (by simp [results, Tryz.results78, go_sem, zeroF]) rfl ⟨rfl, HB0.out⟩
end Go.Proofs.YticdmlijacnjbaaGreatDoor.Fl
