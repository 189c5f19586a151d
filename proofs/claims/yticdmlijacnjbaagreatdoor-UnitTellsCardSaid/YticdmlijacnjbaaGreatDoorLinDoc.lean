
/- The walks of the document's ahead and line: one more put in from the left, or the number of what is wrong. What was there stays. -/
import Derived.Test.YticdmlijacnjbaaGreatDoorM26
namespace Go.Proofs.YticdmlijacnjbaaGreatDoor.Un
open Go.RowKit

set_option maxRecDepth 100000 in
set_option maxHeartbeats 4000000 in
theorem ahead_any (x y : Lin) (w : World) :
    Calls Tryz.prog 119 #[aggN x, aggN y] w fun en w' => en = .returned (.bool (G.ltP x.key y.key)) ∧ Below w.heap.size w w' := by
  have HB := Lib.hid (((Below.refl w.heap.size w).alloc (Nat.le_refl _) (.cells (encL.cs x).toArray 81)).alloc (by simp) (.cells (encL.cs y).toArray 81))
  obtain ⟨R, hR⟩ : ∃ R, G.ltP x.key y.key = R := ⟨_, rfl⟩
  rw [hR]
  have hRR : R = (ltS x.acc y.acc || (decide (x.acc = y.acc) && ltS x.flow y.flow)) := hR.symm
  have HR := Lib.hid hRR
  clear hR hRR
  cases h1 : ltS x.acc y.acc with
  | true =>
    have HRS : Hid (R = true) := Lib.hid (by rw [HR.out, h1]; rfl)
    unfold ltS at h1
    go_enter Tryz.func119, Tryz.ntmps119
    go_wp2
    go_ret
    exact ⟨ret_bool HRS.out.symm, HB.out⟩
  | false =>
    cases h2 : (x.acc.toList == y.acc.toList) with
    | false =>
      have HRS : Hid (R = false) := Lib.hid (by rw [HR.out, h1, decide_eq_false ((Lib.bytes_beq_false_iff x.acc y.acc).1 h2)]; rfl)
      unfold ltS at h1
      go_enter Tryz.func119, Tryz.ntmps119
      go_wp2
      go_ret
      exact ⟨ret_bool HRS.out.symm, HB.out⟩
    | true =>
      cases h3 : ltS x.flow y.flow with
      | true =>
        have HRS : Hid (R = true) := Lib.hid (by rw [HR.out, h1, decide_eq_true ((Lib.bytes_beq_iff x.acc y.acc).1 h2), h3]; rfl)
        unfold ltS at h1 h3
        go_enter Tryz.func119, Tryz.ntmps119
        go_wp2
        go_ret
        exact ⟨ret_bool HRS.out.symm, HB.out⟩
      | false =>
        have HRS : Hid (R = false) := Lib.hid (by rw [HR.out, h1, decide_eq_true ((Lib.bytes_beq_iff x.acc y.acc).1 h2), h3]; rfl)
        unfold ltS at h1 h3
        go_enter Tryz.func119, Tryz.ntmps119
        go_wp2
        go_ret
        exact ⟨ret_bool HRS.out.symm, HB.out⟩
theorem info_rlin : InfoE Tryz.prog 37 81 encL :=
  InfoE.of (z := .agg #[.string ⟨#[]⟩, .string ⟨#[]⟩, .string ⟨#[]⟩]) (n := 48) Tryz.underlying37 (by kernel_rfl) (by kernel_rfl) (by decide)
theorem InsAt.keep {α κ : Type} [G.KeyO κ] {E : Enc α} {key : α → κ} {e : TypeId} {W0 wr w' : World} {L : List α} {x : α} {i : Nat} {s6 : Value} (h : InsAt E key e W0 wr L x i s6) (hb : Below wr.heap.size wr w') : InsAt E key e W0 w' L x i s6 := ⟨row_below h.own hb, h.bel.trans (hb.mono h.bel.size), h.no⟩
theorem linE_there {L : List Lin} {x y : Lin} {i : Nat} (hy : L[i]? = some y) (he : y.key = x.key) : linEr L x = 7 := by
  unfold linEr
  rw [if_pos]
  have hm := List.mem_of_getElem? hy
  cases hf : G.findK Lin.key L x.key with
  | some z => rfl
  | none => exact absurd he (G.findK_no hf y hm)
theorem linE_not {L : List Lin} {x : Lin} (h : ∀ (j : Nat) (y : Lin), L[j]? = some y → y.key ≠ x.key) : linEr L x = if 1000 ≤ L.length then 4 else 0 := by
  unfold linEr
  rw [if_neg]
  rw [G.findK_none (fun y hy e => by
    obtain ⟨j, hj, rfl⟩ := List.getElem_of_mem hy
    exact h j _ (List.getElem?_eq_getElem hj) e)]
  simp
def linVr (L : List Lin) (x : Lin) : List Lin := if linEr L x = 0 then G.insR Lin.key L x else L
set_option maxRecDepth 100000 in
set_option maxHeartbeats 8000000 in
theorem rline_any (v : Value) (L : List Lin) (x : Lin) (w : World) (h : ElsV encL w v L) (hL : L.length ≤ 1000) :
    Calls Tryz.prog 93 #[v, aggN x] w (ListTold encL w v (G.insR Lin.key L x) (linEr L x)) := by
  have hB0 := (Below.refl w.heap.size w).alloc (Nat.le_refl _) (.cells #[.string x.acc, .string x.flow, .string x.to] 81)
  have hX0 := BoxE.new encL w x 81
  have hV0 := h.keep hB0
  have hS0 : (w.alloc (.cells #[.string x.acc, .string x.flow, .string x.to] 81)).heap.size = w.heap.size + 1 := World.size_alloc ..
  obtain ⟨W0, hW0⟩ : ∃ W0, w.alloc (.cells #[.string x.acc, .string x.flow, .string x.to] 81) = W0 := ⟨_, rfl⟩
  have hX0' : BoxE encL W0 w.heap.size 81 x := by rw [← hW0]; exact hX0
  rw [hW0] at hB0 hV0 hS0
  have HB0 := Lib.hid hB0
  have HX0 := Lib.hid hX0'
  have HV0 := Lib.hid hV0
  have HS0 := Lib.hid hS0
  obtain ⟨p, c, e, hcap, hm, _, hc⟩ := hV0
  subst e
  obtain ⟨n, hn⟩ : ∃ n, L.length = n := ⟨_, rfl⟩
  rw [hn] at hcap hL HV0 ⊢
  obtain ⟨N, hN⟩ : ∃ N, linEr L x = N := ⟨_, rfl⟩
  rw [hN]
  have HC := Lib.hid hc
  have HN := Lib.hid hn
  have HE := Lib.hid hN
  have HI := Lib.hid info_rlin
  unfold maxLen at hm
  have HST : Hid (InsAt encL Lin.key 81 W0 W0 L x 0 (.slice none 0 0)) := Lib.hid ⟨World.ownsRow_nil _ _ _ _, Below.refl _ _, fun j y hj => absurd hj (Nat.not_lt_zero _)⟩
  clear h hB0 hX0 hX0' hS0 hc hn hN
  go_enter Tryz.func93, Tryz.ntmps93
  go_wp2
  clear hW0
  go_loopw [6, 7, 8] (fun s6 s7 s8 wr => ∃ (i : Nat) (v6 : Value), i ≤ n ∧ s8 = .int .i64 (i : Int) ∧ v6 = s6 ∧ s7 = .bool (G.doneR Lin.key (L.take i) x) ∧ Hid (InsAt encL Lin.key 81 W0 wr L x i v6)) (fun _ _ s8 _ => n - (intOf s8).toNat)
  case atStart => exact ⟨0, _, Nat.zero_le _, rfl, rfl, rfl, HST⟩
  case round =>
    obtain ⟨i, v6, hi, rfl, rfl, rfl, HA⟩ := hrel
    by_cases hlt : i < n
    · obtain ⟨y, hy⟩ : ∃ y, L[i]? = some y := ⟨_, List.getElem?_eq_getElem (by rw [HN.out]; exact hlt)⟩
      obtain ⟨b, o, rfl, hat⟩ := HC.out i y hy
      obtain ⟨d0, d1, d2⟩ := lin3 (hat.keep HA.out.bel hat.lt)
      obtain ⟨q0, q1, q2⟩ := lin3 ((HX0.out.keep HA.out.bel HX0.out.lt).at0)
      have HY := Lib.hid hy
      have HAT := Lib.hid hat
      have HTK : Hid (L.take (i + 1) = L.take i ++ [y]) := Lib.hid (by rw [List.take_succ_eq_append_getElem (by rw [HN.out]; exact hlt), (List.getElem?_eq_some_iff.1 hy).2])
      obtain ⟨D, hD⟩ : ∃ D, G.doneR Lin.key (L.take i) x = D := ⟨_, rfl⟩
      have HD := Lib.hid hD
      rw [hD]
      clear hy hat hD
      by_cases hyk : y.key = x.key
      · have HYE := Lib.hid hyk
        have HRS : Hid (N = 7) := Lib.hid (by rw [← HE.out]; exact linE_there HY.out HYE.out)
        have h1 : (y.acc.toList == x.acc.toList) = true := (Lib.bytes_beq_iff y.acc x.acc).2 (Prod.mk.inj hyk).1
        have h2 : (y.flow.toList == x.flow.toList) = true := (Lib.bytes_beq_iff y.flow x.flow).2 (Prod.mk.inj hyk).2
        clear hyk
        go_wp2_with fail
        go_big_quiet (fail)
        clear d0 d1 d2 q0 q1 q2 h1 h2
        go_wp2
        go_ret2
        have HQ := HA.out.drewN nq
        rw [HRS.out]
        exact ⟨_, rfl, fun _ => rfl, fun h => absurd h (by decide), HB0.out.trans (HQ.bel.mono HB0.out.size)⟩
      · have HYE := Lib.hid hyk
        have HWQ : Hid (∀ wq, (∃ q, wq = wr.drewN q) → InsAt encL Lin.key 81 W0 wq L x i v6) := Lib.hid (fun wq ⟨q, e⟩ => by rw [e]; exact HA.out.drewN q)
        cases h1 : (y.acc.toList == x.acc.toList) with
        | false =>
          clear hyk
          go_wp2_with fail
          go_big_quiet (fail)
          clear h1
          have HA1 := Lib.hid (HA.out.drewN nq)
          clear d0 d1 d2 q0 q1 q2 HA HWQ
          generalize wr.drewN nq = wq at *
          obtain ⟨d0, d1, d2⟩ := lin3 (HAT.out.keep HA1.out.bel HAT.out.lt)
          obtain ⟨q0, q1, q2⟩ := lin3 ((HX0.out.keep HA1.out.bel HX0.out.lt).at0)
          cases D with
          | true =>
            go_wp2_with fail
            go_big_quiet (fail)
            have HA2 := Lib.hid (HA1.out.drewN nq)
            clear d0 d1 d2 q0 q1 q2 HA1
            generalize wq.drewN nq = w2 at *
            obtain ⟨d0, d1, d2⟩ := lin3 (HAT.out.keep HA2.out.bel HAT.out.lt)
            obtain ⟨q0, q1, q2⟩ := lin3 ((HX0.out.keep HA2.out.bel HX0.out.lt).at0)
            have HB3 := Lib.hid ((Below.refl w2.heap.size w2).alloc (Nat.le_refl _) (.cells (encL.cs y).toArray 81))
            go_wp2_with (at_builtin; refine wpList_append_el (E := encL) rfl _ _ 37 81 rfl HI.out W0.heap.size _ y w2.heap.size (HA2.out.own.alloc _) rfl (el_new encL w2 y _) (by have := HA2.out.bel.size; simp; omega) (mid_small HN.out hL) ?_; intro v9 w9 hr9 hb9 hg9)
            have HA9 : Hid (InsAt encL Lin.key 81 W0 w9 L x (i + 1) v9) := Lib.hid ⟨by rw [HTK.out, G.midR_there y HD.out]; exact hr9, (HA2.out.bel.trans (HB3.out.mono HA2.out.bel.size)).trans hb9, no_snoc HA2.out.no HY.out HYE.out⟩
            have HD9 : Hid (G.doneR Lin.key (L.take (i + 1)) x = true) := Lib.hid (by rw [HTK.out, G.doneR_snoc, HD.out]; first | rfl | (rw [HLT.out]; rfl))
            clear hr9 hb9 hg9 d0 d1 d2 q0 q1 q2
            go_wp2
            go_roundw
            case rel => exact ⟨i + 1, _, by omega, by go_num, rfl, by rw [HD9.out], HA9⟩
            case measure => simp [intOf]; omega
          | false =>
            have HAG := Lib.hid (ahead_any x y)
            cases hlx : G.ltP x.key y.key with
            | true =>
              have HLT : Hid (G.KeyO.lt (Lin.key x) (Lin.key y) = true) := Lib.hid hlx
              rw [hlx] at HAG
              clear hlx
              have r0 := fun p : Past wq => cell_past d0 p
              have r1 := fun p : Past wq => cell_past d1 p
              have r2 := fun p : Past wq => cell_past d2 p
              have s0 := fun p : Past wq => cell_past q0 p
              have s1 := fun p : Past wq => cell_past q1 p
              have s2 := fun p : Past wq => cell_past q2 p
              clear d0 d1 d2 q0 q1 q2
              go_wp2_with fail
              refine wp_region_past (by kernel_rfl) (by kernel_rfl) ?_
              repeat (go_big_quiet_step ((go_at_call 119; exact Calls.past_of (HAG.out _))))
              refine wpQuiet_nil ?_
              intro w2 hw'
              obtain ⟨⟨w2', hb2⟩, rfl⟩ := hw'
              have HA2 := Lib.hid (HA1.out.keep hb2)
              clear r0 r1 r2 s0 s1 s2 HA1 hb2
              obtain ⟨d0, d1, d2⟩ := lin3 (HAT.out.keep HA2.out.bel HAT.out.lt)
              obtain ⟨q0, q1, q2⟩ := lin3 ((HX0.out.keep HA2.out.bel HX0.out.lt).at0)
              have HB3 := Lib.hid ((Below.refl w2.heap.size w2).alloc (Nat.le_refl _) (.cells (encL.cs x).toArray 81))
              go_wp2_with (at_builtin; first
                | (refine wpList_append_el (E := encL) rfl _ _ 37 81 rfl HI.out W0.heap.size _ x w2.heap.size (HA2.out.own.alloc _) rfl (el_new encL w2 x _) (by have := HA2.out.bel.size; simp; omega) (mid_small HN.out hL) ?_; intro v8 w8 hr8 hb8 hg8; have HB8 : Hid (Below W0.heap.size W0 w8) := Lib.hid ((HA2.out.bel.trans (HB3.out.mono HA2.out.bel.size)).trans hb8); have HO8 := Lib.hid hr8; have HB9 := Lib.hid ((Below.refl w8.heap.size w8).alloc (Nat.le_refl _) (.cells (encL.cs y).toArray 81)); clear d0 d1 d2 q0 q1 q2 hr8 hb8 hg8; obtain ⟨d0, d1, d2⟩ := lin3 (HAT.out.keep HB8.out HAT.out.lt))
                | (refine wpList_append_el (E := encL) rfl _ _ 37 81 rfl HI.out W0.heap.size _ y w8.heap.size (HO8.out.alloc _) rfl (el_new encL w8 y _) (by have := HB8.out.size; simp; omega) (mid_small1 HN.out hL) ?_; intro v9 w9 hr9 hb9 hg9)
                | fail)
              have HA9 : Hid (InsAt encL Lin.key 81 W0 w9 L x (i + 1) v9) := Lib.hid ⟨by rw [HTK.out, G.midR_now HD.out HLT.out]; exact hr9, (HB8.out.trans (HB9.out.mono HB8.out.size)).trans hb9, no_snoc HA2.out.no HY.out HYE.out⟩
              have HD9 : Hid (G.doneR Lin.key (L.take (i + 1)) x = true) := Lib.hid (by rw [HTK.out, G.doneR_snoc, HD.out, HLT.out]; rfl)
              clear hr9 hb9 hg9 d0 d1 d2
              go_wp2
              go_roundw
              case rel => exact ⟨i + 1, _, by omega, by go_num, rfl, by rw [HD9.out], HA9⟩
              case measure => simp [intOf]; omega
            | false =>
              have HLT : Hid (G.KeyO.lt (Lin.key x) (Lin.key y) = false) := Lib.hid hlx
              rw [hlx] at HAG
              clear hlx
              have r0 := fun p : Past wq => cell_past d0 p
              have r1 := fun p : Past wq => cell_past d1 p
              have r2 := fun p : Past wq => cell_past d2 p
              have s0 := fun p : Past wq => cell_past q0 p
              have s1 := fun p : Past wq => cell_past q1 p
              have s2 := fun p : Past wq => cell_past q2 p
              clear d0 d1 d2 q0 q1 q2
              go_wp2_with fail
              refine wp_region_past (by kernel_rfl) (by kernel_rfl) ?_
              repeat (go_big_quiet_step ((go_at_call 119; exact Calls.past_of (HAG.out _))))
              refine wpQuiet_nil ?_
              intro w2 hw'
              obtain ⟨⟨w2', hb2⟩, rfl⟩ := hw'
              have HA2 := Lib.hid (HA1.out.keep hb2)
              clear r0 r1 r2 s0 s1 s2 HA1 hb2
              obtain ⟨d0, d1, d2⟩ := lin3 (HAT.out.keep HA2.out.bel HAT.out.lt)
              obtain ⟨q0, q1, q2⟩ := lin3 ((HX0.out.keep HA2.out.bel HX0.out.lt).at0)
              have HB3 := Lib.hid ((Below.refl w2.heap.size w2).alloc (Nat.le_refl _) (.cells (encL.cs y).toArray 81))
              go_wp2_with (at_builtin; refine wpList_append_el (E := encL) rfl _ _ 37 81 rfl HI.out W0.heap.size _ y w2.heap.size (HA2.out.own.alloc _) rfl (el_new encL w2 y _) (by have := HA2.out.bel.size; simp; omega) (mid_small HN.out hL) ?_; intro v9 w9 hr9 hb9 hg9)
              have HA9 : Hid (InsAt encL Lin.key 81 W0 w9 L x (i + 1) v9) := Lib.hid ⟨by rw [HTK.out, G.midR_not HD.out HLT.out]; exact hr9, (HA2.out.bel.trans (HB3.out.mono HA2.out.bel.size)).trans hb9, no_snoc HA2.out.no HY.out HYE.out⟩
              have HD9 : Hid (G.doneR Lin.key (L.take (i + 1)) x = false) := Lib.hid (by rw [HTK.out, G.doneR_snoc, HD.out]; first | rfl | (rw [HLT.out]; rfl))
              clear hr9 hb9 hg9 d0 d1 d2 q0 q1 q2
              go_wp2
              go_roundw
              case rel => exact ⟨i + 1, _, by omega, by go_num, rfl, by rw [HD9.out], HA9⟩
              case measure => simp [intOf]; omega
        | true =>
          have h2 : (y.flow.toList == x.flow.toList) = false := (Lib.bytes_beq_false_iff y.flow x.flow).2 (fun e => hyk (Prod.ext ((Lib.bytes_beq_iff y.acc x.acc).1 h1) e))
          clear hyk
          go_wp2_with fail
          go_big_quiet (fail)
          clear h1 h2
          have HA1 := Lib.hid (HA.out.drewN nq)
          clear d0 d1 d2 q0 q1 q2 HA HWQ
          generalize wr.drewN nq = wq at *
          obtain ⟨d0, d1, d2⟩ := lin3 (HAT.out.keep HA1.out.bel HAT.out.lt)
          obtain ⟨q0, q1, q2⟩ := lin3 ((HX0.out.keep HA1.out.bel HX0.out.lt).at0)
          cases D with
          | true =>
            go_wp2_with fail
            go_big_quiet (fail)
            have HA2 := Lib.hid (HA1.out.drewN nq)
            clear d0 d1 d2 q0 q1 q2 HA1
            generalize wq.drewN nq = w2 at *
            obtain ⟨d0, d1, d2⟩ := lin3 (HAT.out.keep HA2.out.bel HAT.out.lt)
            obtain ⟨q0, q1, q2⟩ := lin3 ((HX0.out.keep HA2.out.bel HX0.out.lt).at0)
            have HB3 := Lib.hid ((Below.refl w2.heap.size w2).alloc (Nat.le_refl _) (.cells (encL.cs y).toArray 81))
            go_wp2_with (at_builtin; refine wpList_append_el (E := encL) rfl _ _ 37 81 rfl HI.out W0.heap.size _ y w2.heap.size (HA2.out.own.alloc _) rfl (el_new encL w2 y _) (by have := HA2.out.bel.size; simp; omega) (mid_small HN.out hL) ?_; intro v9 w9 hr9 hb9 hg9)
            have HA9 : Hid (InsAt encL Lin.key 81 W0 w9 L x (i + 1) v9) := Lib.hid ⟨by rw [HTK.out, G.midR_there y HD.out]; exact hr9, (HA2.out.bel.trans (HB3.out.mono HA2.out.bel.size)).trans hb9, no_snoc HA2.out.no HY.out HYE.out⟩
            have HD9 : Hid (G.doneR Lin.key (L.take (i + 1)) x = true) := Lib.hid (by rw [HTK.out, G.doneR_snoc, HD.out]; first | rfl | (rw [HLT.out]; rfl))
            clear hr9 hb9 hg9 d0 d1 d2 q0 q1 q2
            go_wp2
            go_roundw
            case rel => exact ⟨i + 1, _, by omega, by go_num, rfl, by rw [HD9.out], HA9⟩
            case measure => simp [intOf]; omega
          | false =>
            have HAG := Lib.hid (ahead_any x y)
            cases hlx : G.ltP x.key y.key with
            | true =>
              have HLT : Hid (G.KeyO.lt (Lin.key x) (Lin.key y) = true) := Lib.hid hlx
              rw [hlx] at HAG
              clear hlx
              have r0 := fun p : Past wq => cell_past d0 p
              have r1 := fun p : Past wq => cell_past d1 p
              have r2 := fun p : Past wq => cell_past d2 p
              have s0 := fun p : Past wq => cell_past q0 p
              have s1 := fun p : Past wq => cell_past q1 p
              have s2 := fun p : Past wq => cell_past q2 p
              clear d0 d1 d2 q0 q1 q2
              go_wp2_with fail
              refine wp_region_past (by kernel_rfl) (by kernel_rfl) ?_
              repeat (go_big_quiet_step ((go_at_call 119; exact Calls.past_of (HAG.out _))))
              refine wpQuiet_nil ?_
              intro w2 hw'
              obtain ⟨⟨w2', hb2⟩, rfl⟩ := hw'
              have HA2 := Lib.hid (HA1.out.keep hb2)
              clear r0 r1 r2 s0 s1 s2 HA1 hb2
              obtain ⟨d0, d1, d2⟩ := lin3 (HAT.out.keep HA2.out.bel HAT.out.lt)
              obtain ⟨q0, q1, q2⟩ := lin3 ((HX0.out.keep HA2.out.bel HX0.out.lt).at0)
              have HB3 := Lib.hid ((Below.refl w2.heap.size w2).alloc (Nat.le_refl _) (.cells (encL.cs x).toArray 81))
              go_wp2_with (at_builtin; first
                | (refine wpList_append_el (E := encL) rfl _ _ 37 81 rfl HI.out W0.heap.size _ x w2.heap.size (HA2.out.own.alloc _) rfl (el_new encL w2 x _) (by have := HA2.out.bel.size; simp; omega) (mid_small HN.out hL) ?_; intro v8 w8 hr8 hb8 hg8; have HB8 : Hid (Below W0.heap.size W0 w8) := Lib.hid ((HA2.out.bel.trans (HB3.out.mono HA2.out.bel.size)).trans hb8); have HO8 := Lib.hid hr8; have HB9 := Lib.hid ((Below.refl w8.heap.size w8).alloc (Nat.le_refl _) (.cells (encL.cs y).toArray 81)); clear d0 d1 d2 q0 q1 q2 hr8 hb8 hg8; obtain ⟨d0, d1, d2⟩ := lin3 (HAT.out.keep HB8.out HAT.out.lt))
                | (refine wpList_append_el (E := encL) rfl _ _ 37 81 rfl HI.out W0.heap.size _ y w8.heap.size (HO8.out.alloc _) rfl (el_new encL w8 y _) (by have := HB8.out.size; simp; omega) (mid_small1 HN.out hL) ?_; intro v9 w9 hr9 hb9 hg9)
                | fail)
              have HA9 : Hid (InsAt encL Lin.key 81 W0 w9 L x (i + 1) v9) := Lib.hid ⟨by rw [HTK.out, G.midR_now HD.out HLT.out]; exact hr9, (HB8.out.trans (HB9.out.mono HB8.out.size)).trans hb9, no_snoc HA2.out.no HY.out HYE.out⟩
              have HD9 : Hid (G.doneR Lin.key (L.take (i + 1)) x = true) := Lib.hid (by rw [HTK.out, G.doneR_snoc, HD.out, HLT.out]; rfl)
              clear hr9 hb9 hg9 d0 d1 d2
              go_wp2
              go_roundw
              case rel => exact ⟨i + 1, _, by omega, by go_num, rfl, by rw [HD9.out], HA9⟩
              case measure => simp [intOf]; omega
            | false =>
              have HLT : Hid (G.KeyO.lt (Lin.key x) (Lin.key y) = false) := Lib.hid hlx
              rw [hlx] at HAG
              clear hlx
              have r0 := fun p : Past wq => cell_past d0 p
              have r1 := fun p : Past wq => cell_past d1 p
              have r2 := fun p : Past wq => cell_past d2 p
              have s0 := fun p : Past wq => cell_past q0 p
              have s1 := fun p : Past wq => cell_past q1 p
              have s2 := fun p : Past wq => cell_past q2 p
              clear d0 d1 d2 q0 q1 q2
              go_wp2_with fail
              refine wp_region_past (by kernel_rfl) (by kernel_rfl) ?_
              repeat (go_big_quiet_step ((go_at_call 119; exact Calls.past_of (HAG.out _))))
              refine wpQuiet_nil ?_
              intro w2 hw'
              obtain ⟨⟨w2', hb2⟩, rfl⟩ := hw'
              have HA2 := Lib.hid (HA1.out.keep hb2)
              clear r0 r1 r2 s0 s1 s2 HA1 hb2
              obtain ⟨d0, d1, d2⟩ := lin3 (HAT.out.keep HA2.out.bel HAT.out.lt)
              obtain ⟨q0, q1, q2⟩ := lin3 ((HX0.out.keep HA2.out.bel HX0.out.lt).at0)
              have HB3 := Lib.hid ((Below.refl w2.heap.size w2).alloc (Nat.le_refl _) (.cells (encL.cs y).toArray 81))
              go_wp2_with (at_builtin; refine wpList_append_el (E := encL) rfl _ _ 37 81 rfl HI.out W0.heap.size _ y w2.heap.size (HA2.out.own.alloc _) rfl (el_new encL w2 y _) (by have := HA2.out.bel.size; simp; omega) (mid_small HN.out hL) ?_; intro v9 w9 hr9 hb9 hg9)
              have HA9 : Hid (InsAt encL Lin.key 81 W0 w9 L x (i + 1) v9) := Lib.hid ⟨by rw [HTK.out, G.midR_not HD.out HLT.out]; exact hr9, (HA2.out.bel.trans (HB3.out.mono HA2.out.bel.size)).trans hb9, no_snoc HA2.out.no HY.out HYE.out⟩
              have HD9 : Hid (G.doneR Lin.key (L.take (i + 1)) x = false) := Lib.hid (by rw [HTK.out, G.doneR_snoc, HD.out]; first | rfl | (rw [HLT.out]; rfl))
              clear hr9 hb9 hg9 d0 d1 d2 q0 q1 q2
              go_wp2
              go_roundw
              case rel => exact ⟨i + 1, _, by omega, by go_num, rfl, by rw [HD9.out], HA9⟩
              case measure => simp [intOf]; omega
    · have hnf : Hid (∀ (j : Nat) (y : Lin), L[j]? = some y → y.key ≠ x.key) := Lib.hid (fun j y hy => HA.out.no j y (by have := (List.getElem?_eq_some_iff.1 hy).1; rw [HN.out] at this; omega) hy)
      have hNN : Hid (N = if 1000 ≤ n then 4 else 0) := Lib.hid (by rw [← HE.out, linE_not hnf.out, HN.out])
      have hTA : Hid (L.take i = L) := Lib.hid (List.take_of_length_le (by rw [HN.out]; omega))
      rw [hTA.out]
      obtain ⟨D, hD⟩ : ∃ D, G.doneR Lin.key L x = D := ⟨_, rfl⟩
      have HD := Lib.hid hD
      rw [hD]
      clear hD
      by_cases h60 : 1000 ≤ n
      · have HRS : Hid (N = 4) := Lib.hid (by rw [hNN.out, if_pos h60])
        go_wp2
        go_ret2
        rw [HRS.out]
        exact ⟨_, rfl, fun _ => rfl, fun h => absurd h (by decide), HB0.out.trans (HA.out.bel.mono HB0.out.size)⟩
      · have HRS : Hid (N = 0) := Lib.hid (by rw [hNN.out, if_neg h60])
        have HO := Lib.hid HA.out.own
        rw [hTA.out] at HO
        cases D with
        | true =>
          go_wp2
          go_ret2
          rw [HRS.out]
          exact ⟨_, rfl, fun h => absurd rfl h, fun _ => ⟨_, by rw [← G.midR_end HD.out]; exact row_base HO.out HB0.out.size⟩, HB0.out.trans (HA.out.bel.mono HB0.out.size)⟩
        | false =>
          obtain ⟨q0, q1, q2⟩ := lin3 ((HX0.out.keep HA.out.bel HX0.out.lt).at0)
          have HB3 := Lib.hid ((Below.refl wr.heap.size wr).alloc (Nat.le_refl _) (.cells (encL.cs x).toArray 81))
          go_wp2_with (at_builtin; refine wpList_append_el (E := encL) rfl _ _ 37 81 rfl HI.out W0.heap.size _ x wr.heap.size (HO.out.alloc _) rfl (el_new encL wr x _) (by have := HA.out.bel.size; simp; omega) (mid_small0 HN.out hL) ?_; intro v9 w9 hr9 hb9 hg9)
          have HO9 := Lib.hid hr9
          have HB9 := Lib.hid ((HA.out.bel.trans (HB3.out.mono HA.out.bel.size)).trans hb9)
          clear hr9 hb9 hg9 q0 q1 q2
          go_wp2
          go_ret2
          rw [HRS.out]
          exact ⟨_, rfl, fun h => absurd rfl h, fun _ => ⟨_, by rw [← G.midR_last HD.out]; exact row_base HO9.out HB0.out.size⟩, HB0.out.trans (HB9.out.mono HB0.out.size)⟩
end Go.Proofs.YticdmlijacnjbaaGreatDoor.Un
