
/- The walk of flow.Parse: what the plain facts say; what was there stays. -/
import Derived.Test.YtkacidoflmbjkaaDoorFlowWords
import Derived.Deep.RegionHeld3
import Derived.Deep.CutBlock
import Derived.Deep.DeepCutAuto
namespace Go.Proofs.YtkacidoflmbjkaaDoor.Fl
open Go.RowKit

theorem cell_on {w w' : World} {p : Addr} {v : Value} (hb : Below w.heap.size w w') (h : w.cell? p = some v) : w'.cell? p = some v := (hb.cell (World.block_lt_of_cell? w _ h)).trans h
abbrev zc : Array Value := #[.string ⟨#[]⟩, .int .i64 0]
theorem list_flow : tFlow.toList = [102, 108, 111, 119] := by rw [ByteArray.toList_eq]; rfl
theorem beq_flow (x : ByteArray) : (x.toList == [102, 108, 111, 119]) = decide (x = tFlow) := by
  rw [← list_flow]
  cases h : (x.toList == tFlow.toList) with
  | true => rw [decide_eq_true ((Lib.bytes_beq_iff x tFlow).1 h)]
  | false => rw [decide_eq_false ((Lib.bytes_beq_false_iff x tFlow).1 h)]
/-- What Parse holds ahead of its test. -/
def ParseAt (w wx : World) (A : Flow) : Prop := BoxE encF wx (w.heap.size + 1) 28 A ∧ Below (w.heap.size + 1) (w.alloc (.cells zc 28)) wx
set_option maxRecDepth 100000 in
set_option maxHeartbeats 8000000 in
theorem parse_any (v : Value) (ws : List ByteArray) (w : World) (h : StrsV w v ws) (hL : Laid w) :
    Calls Tryd.prog 9 #[v] w fun e w' => e = .returned (.tuple #[aggL (parseF ws).1, .int .i64 (parseF ws).2]) ∧ Below w.heap.size w w' := by
  have HV := Lib.hid h
  obtain ⟨p, c, rfl, hcap, hm, hc⟩ := h
  have HB0 := Lib.hid ((Below.refl w.heap.size w).alloc (Nat.le_refl _) (.cells zc 28))
  have HX0 := Lib.hid (BoxE.new encF w zeroF 28)
  by_cases h3 : ws.length = 3
  · match ws, h3 with
    | [x0, x1, x2], _ =>
      obtain ⟨b, o, rfl, k0'⟩ := hc 0 x0 rfl
      obtain ⟨b', o', e', k1⟩ := hc 1 x1 rfl
      cases e'
      obtain ⟨b', o', e', k2⟩ := hc 2 x2 rfl
      cases e'
      have k0 : w.cell? ⟨b, o, none⟩ = some (.string x0) := k0'
      have j0 := cell_on HB0.out k0
      have j1 := cell_on HB0.out k1
      have j2 := cell_on HB0.out k2
      have HNB : Hid (b ≠ w.heap.size) := Lib.hid (by have := World.block_lt_of_cell? w _ k0; simp at this; omega)
      have HLT : Hid (b < w.heap.size) := Lib.hid (World.block_lt_of_cell? w _ k0)
      have HL0 := Lib.hid (hL.below HB0.out (Nat.le_refl _))
      rw [parse_three]
      obtain ⟨A, hA⟩ : ∃ A : Flow, (⟨x1, kindO x2⟩ : Flow) = A := ⟨_, rfl⟩
      rw [hA]
      have HA := Lib.hid hA
      clear hc hA k0' k0 k1 k2 hL hm hcap HV
      show Calls _ _ #[.slice (some ⟨b, o, none⟩) 3 c] _ _
      obtain ⟨W0, hW0⟩ : ∃ W0, w.alloc (.cells zc 28) = W0 := ⟨_, rfl⟩
      have HSZ : Hid (W0.heap.size = w.heap.size + 1) := Lib.hid (by rw [← hW0]; simp)
      have HX1 : Hid (BoxE encF W0 w.heap.size 28 zeroF) := Lib.hid (by rw [← hW0]; exact HX0.out)
      rw [hW0] at HB0 HL0 j0 j1 j2
      clear HX0
      cases hx0 : (x0.toList == [102, 108, 111, 119]) with
      | false =>
        have hne : ¬ (x0 = tFlow ∧ rightF A = true) := fun e => by
          rw [beq_flow, e.1] at hx0; simp at hx0
        rw [if_neg hne]
        have hxn : (!x0.toList == [102, 108, 111, 119]) = true := by rw [hx0]; rfl
        clear hne hx0
        go_enter Tryd.func9, Tryd.ntmps9
        go_wp2_with (refine wpList_store_el (E := encF) rfl 28 (.tmp 2) (.tmp 14) rfl w.heap.size zeroF zeroF 28 rfl rfl HX1.out (by kernel_rfl) ?_; intro w8 hb8 hg8)
        have HF := Lib.hid (HB0.out.grown hg8 HB0.out.size (fun j hj => by cases hj; exact Nat.le_refl _))
        obtain ⟨t0, t1⟩ := box hb8
        clear hb8 hg8
        refine bodyPost_ret (v := .tuple #[aggL zeroF, .int .i64 5]) (by simp [results, Tryd.results9, go_sem, t0, t1]) rfl ⟨rfl, HF.out⟩
      | true =>
        have hx : x0 = tFlow := by rw [beq_flow] at hx0; exact of_decide_eq_true hx0
        have hxn : (!x0.toList == [102, 108, 111, 119]) = false := by rw [hx0]; rfl
        have HE : Hid (∀ r, rightF A = r → (if x0 = tFlow ∧ rightF A = true then (A, (0 : Int)) else (zeroF, 5)) = if r = true then (A, 0) else (zeroF, 5)) := Lib.hid (fun r hr => by
          rw [hr]; cases r <;> simp [hx])
        obtain ⟨R, hR⟩ : ∃ R, (if x0 = tFlow ∧ rightF A = true then (A, (0 : Int)) else (zeroF, 5)) = R := ⟨_, rfl⟩
        rw [hR] at HE ⊢
        clear hR hx hx0
        go_enter Tryd.func9, Tryd.ntmps9
        go_upto_region 3 with (fail)
        have HW0 := Lib.hid hW0
        clear hW0 j0
        go_cut [4] (fun s4 wx => s4 = .pointer (some ⟨w.heap.size + 1, 0, none⟩) ∧ ParseAt w wx A)
        case first =>
          have hba := (Below.refl W0.heap.size W0).alloc (Nat.le_refl _) (.cells zc 28)
          have n1 := cell_on hba j1
          have n2 := cell_on hba j2
          have y1 : W0.drew.cell? ⟨b, o + 1, none⟩ = some (.string x1) := j1
          have y2 : W0.drew.cell? ⟨b, o + 2, none⟩ = some (.string x2) := j2
          have z1 : (W0.alloc (.cells zc 28)).drew.cell? ⟨b, o + 1, none⟩ = some (.string x1) := n1
          have z2 : (W0.alloc (.cells zc 28)).drew.cell? ⟨b, o + 2, none⟩ = some (.string x2) := n2
          have HLa := Lib.hid (HL0.out.below hba (Nat.le_refl _))
          have hbl := fun C : Array Value => (Below.refl W0.heap.size W0).alloc (Nat.le_refl _) (.cells C 28)
          have p1 := fun C : Array Value => cell_on (hbl C) j1
          have p2 := fun C : Array Value => cell_on (hbl C) j2
          clear hba hbl
          go_region_held3 (fun w' => w'.cell? ⟨b, o + 1, none⟩ = some (.string x1) ∧ w'.cell? ⟨b, o + 2, none⟩ = some (.string x2))
            (first | (with_reducible exact ⟨j1, j2⟩) | (with_reducible exact ⟨y1, y2⟩) | (with_reducible exact ⟨n1, n2⟩) | (with_reducible exact ⟨z1, z2⟩) | exact ⟨p1 _, p2 _⟩ | fail)
            (first
              | (go_at_call 24; refine (kindOf_any x2 W0.drew HL0.out.drew).mono ?_; rintro e w' ⟨rfl, rfl⟩)
              | (go_at_call 24; refine (kindOf_any x2 (W0.alloc (.cells zc 28)).drew HLa.out.drew).mono ?_; rintro e w' ⟨rfl, rfl⟩)
              | fail)
          all_goals
            go_wp2_with fail
            go_meet
            case rel =>
              refine ⟨by rw [← HSZ.out], ?_⟩
              exact ⟨by rw [← HSZ.out, ← HA.out]; exact BoxE.new encF W0 ⟨x1, kindO x2⟩ 28, by rw [HW0.out, ← HSZ.out]; exact below_drew' ((Below.refl W0.heap.size W0).alloc (Nat.le_refl _) _)⟩
        case rest =>
          obtain ⟨rfl, hP⟩ := hcut
          rename World => wx
          obtain ⟨hx, hb⟩ := hP
          rw [HW0.out] at hb
          rw [← HSZ.out] at hb
          have HXR := Lib.hid (HX1.out.keep hb (by rw [HSZ.out]; omega))
          have HBX := Lib.hid (HB0.out.trans (hb.mono (by rw [HSZ.out]; omega)))
          have HX := Lib.hid hx
          obtain ⟨d0, d1⟩ := box hx
          have hlt : w.heap.size < wx.heap.size := by have := hb.size; rw [HSZ.out] at this; omega
          have hgx := hx.lt
          obtain ⟨r, hr⟩ : ∃ r, rightF A = r := ⟨_, rfl⟩
          have HRA := Lib.hid (right_any A)
          rw [hr] at HRA
          have HER := Lib.hid (HE.out r hr)
          clear hx hb j1 j2 hr
          go_wp2_with fail
          clear d0 d1
          refine (HRA.out wx).mono ?_
          rintro e w7 ⟨rfl, hb7⟩
          have HXR7 := Lib.hid (HXR.out.keep hb7 hlt)
          have HX7 := Lib.hid (HX.out.keep hb7 hgx)
          have HB7 := Lib.hid (HBX.out.trans (hb7.mono HBX.out.size))
          clear hb7
          cases r with
          | true =>
            obtain ⟨d0, d1⟩ := box HX7.out
            go_wp2_with (refine wpList_store_el (E := encF) rfl 28 (.tmp 2) (.tmp 27) rfl w.heap.size zeroF A 28 rfl rfl HXR7.out (by kernel_rfl) ?_; intro w8 hb8 hg8)
            have HF := Lib.hid (HB7.out.grown hg8 HB7.out.size (fun j hj => by cases hj; exact Nat.le_refl _))
            obtain ⟨t0, t1⟩ := box hb8
            clear hb8 hg8
            refine bodyPost_ret (v := .tuple #[aggL A, .int .i64 0]) (by simp [results, Tryd.results9, go_sem, t0, t1]) rfl ⟨by rw [HER.out]; rfl, HF.out⟩
          | false =>
            go_wp2_with (refine wpList_store_el (E := encF) rfl 28 (.tmp 2) (.tmp 26) rfl w.heap.size zeroF zeroF 28 rfl rfl HXR7.out (by kernel_rfl) ?_; intro w8 hb8 hg8)
            have HF := Lib.hid (HB7.out.grown hg8 HB7.out.size (fun j hj => by cases hj; exact Nat.le_refl _))
            obtain ⟨t0, t1⟩ := box hb8
            clear hb8 hg8
            refine bodyPost_ret (v := .tuple #[aggL zeroF, .int .i64 5]) (by simp [results, Tryd.results9, go_sem, t0, t1]) rfl ⟨by rw [HER.out]; rfl, HF.out⟩
  · have HP := Lib.hid (parse_len h3)
    rw [HP.out]
    obtain ⟨n, hn⟩ : ∃ n, ws.length = n := ⟨_, rfl⟩
    rw [hn] at h3 hcap hm ⊢
    unfold maxLen at hm
    have hnz : ((n : Int) != 3) = true := by simp; omega
    clear hc hn h3 HV
    go_enter Tryd.func9, Tryd.ntmps9
    go_wp2
    refine bodyPost_ret (v := .tuple #[aggL zeroF, .int .i64 5]) (by simp [results, Tryd.results9, go_sem, zeroF]) rfl ⟨rfl, HB0.out⟩
end Go.Proofs.YtkacidoflmbjkaaDoor.Fl
