
/- The walk of ChartBack: it returns true. -/
import Derived.Test.YtploldcbpejncaaDoorChartMarks
namespace Go.Proofs.YtploldcbpejncaaDoor
open Go.RowKit

/-- A slice of two accounts that was just laid. -/
theorem chart_two (w : World) (a b : Acct) (t : TypeId) : ChartV (w.alloc (.cells #[.string a.code, .int .i64 a.cls, .bool a.cash, .bool a.both, .string a.fixed, .bool a.worn, .string b.code, .int .i64 b.cls, .bool b.cash, .bool b.both, .string b.fixed, .bool b.worn] t)) (.slice (some ⟨w.heap.size, 0, none⟩) 2 2) [a, b] :=
  ⟨_, 2, rfl, by simp, by unfold maxLen; omega, (fun e => by cases e), fun i x hx => by
    match i, hx with
    | 0, hx =>
      cases hx
      exact ⟨_, 0, rfl, acct_of fun j v hj => by
        have hj6 : j < 6 := (List.getElem?_eq_some_iff.1 hj).1
        rw [cell_of_row _ w.heap.size (0 + 0 * 6 + j) _ t (0, 0) (heap_alloc_new w _)]
        match j, hj6, hj with
        | 0, _, hj | 1, _, hj | 2, _, hj | 3, _, hj | 4, _, hj | 5, _, hj => cases hj; rfl⟩
    | 1, hx =>
      cases hx
      exact ⟨_, 0, rfl, acct_of fun j v hj => by
        have hj6 : j < 6 := (List.getElem?_eq_some_iff.1 hj).1
        rw [cell_of_row _ w.heap.size (0 + 1 * 6 + j) _ t (0, 0) (heap_alloc_new w _)]
        match j, hj6, hj with
        | 0, _, hj | 1, _, hj | 2, _, hj | 3, _, hj | 4, _, hj | 5, _, hj => cases hj; rfl⟩
    | i + 2, hx => simp at hx⟩
abbrev cellsTwo (a b : Acct) : Obj := .cells #[.string a.code, .int .i64 a.cls, .bool a.cash, .bool a.both, .string a.fixed, .bool a.worn, .string b.code, .int .i64 b.cls, .bool b.cash, .bool b.both, .string b.fixed, .bool b.worn] 23
theorem few_two (a b : Acct) (w : World) : Calls Tryd.prog 9 #[.slice (some ⟨w.heap.size, 0, none⟩) 2 2] (w.alloc (cellsTwo a b)) fun e w' => e = .returned (.bool (fewA [a, b])) ∧ Below (w.heap.size + 1) (w.alloc (cellsTwo a b)) w' := by
  have := few_any _ _ _ (chart_two w a b 23)
  rwa [World.size_alloc] at this
structure BackAt (w W : World) (a b : Acct) : Prop where
  b3 : BoxA W w.heap.size 23 a
  b4 : BoxA W (w.heap.size + 1) 23 b
  bel : Below w.heap.size w W
theorem BackAt.keep {w W W' : World} {a b : Acct} (h : BackAt w W a b) (hb : Below W.heap.size W W') : BackAt w W' a b :=
  ⟨h.b3.keep hb (Array.getElem?_eq_some_iff.1 h.b3).1, h.b4.keep hb (Array.getElem?_eq_some_iff.1 h.b4).1, h.bel.trans (hb.mono h.bel.size)⟩
theorem BackAt.drew {w W : World} {a b : Acct} (h : BackAt w W a b) : BackAt w W.drew a b := h.keep ⟨rfl, rfl, rfl, Nat.le_refl _, fun _ _ => rfl⟩
theorem BackAt.drewN {w W : World} {a b : Acct} (h : BackAt w W a b) (q : Nat) : BackAt w (W.drewN q) a b := h.keep (below_drewN (Below.refl _ _) q)
theorem Laid.drew {w : World} (h : Laid w) : Laid w.drew := ⟨h.g0, h.g1, h.g2⟩
theorem sameW_eq {a b : Acct} (ha : rightA a = true) (hb : rightA b = true) : sameW (wordsA a) (wordsA b) = eqA a b := by
  unfold sameW eqA
  rw [Bool.eq_iff_iff]
  simp only [decide_eq_true_eq]
  exact ⟨words_inj ha hb, fun e => by rw [e]⟩
theorem BackAt.two {w W : World} {a b : Acct} (h : BackAt w W a b) : (W.cell? ⟨w.heap.size, 0, none⟩ = some (.string a.code) ∧ W.cell? ⟨w.heap.size, 1, none⟩ = some (.int .i64 a.cls) ∧ W.cell? ⟨w.heap.size, 2, none⟩ = some (.bool a.cash) ∧ W.cell? ⟨w.heap.size, 3, none⟩ = some (.bool a.both) ∧ W.cell? ⟨w.heap.size, 4, none⟩ = some (.string a.fixed) ∧ W.cell? ⟨w.heap.size, 5, none⟩ = some (.bool a.worn)) ∧ (W.cell? ⟨w.heap.size + 1, 0, none⟩ = some (.string b.code) ∧ W.cell? ⟨w.heap.size + 1, 1, none⟩ = some (.int .i64 b.cls) ∧ W.cell? ⟨w.heap.size + 1, 2, none⟩ = some (.bool b.cash) ∧ W.cell? ⟨w.heap.size + 1, 3, none⟩ = some (.bool b.both) ∧ W.cell? ⟨w.heap.size + 1, 4, none⟩ = some (.string b.fixed) ∧ W.cell? ⟨w.heap.size + 1, 5, none⟩ = some (.bool b.worn)) := ⟨h.b3.facts, h.b4.facts⟩
theorem same_ws {v u : Value} {ws : List ByteArray} {W : World} (h : StrsV W v ws) (h' : StrsV W u ws) : Calls Tryd.prog 14 #[v, u] W fun e w' => e = .returned (.bool true) ∧ ∃ q, w' = W.drewN q := by
  have := sameWords_any v u ws ws W h h'
  rwa [show sameW ws ws = true from decide_eq_true rfl] at this
set_option maxRecDepth 100000 in
set_option maxHeartbeats 8000000 in
theorem chartBack_walk (a b : Acct) (v : Value) (ws : List ByteArray) (w : World) (h : StrsV w v ws) (hL : Laid w) : Calls Tryd.prog 4 #[aggF a, aggF b, v] w fun e w' => e = .returned (.bool true) ∧ Below w.heap.size w w' := by
  have hb0 := ((Below.refl w.heap.size w).alloc (Nat.le_refl _) (cells23' a)).alloc (by simp) (cells23' b)
  have HA0 : Hid (BackAt w ((w.alloc (cells23' a)).alloc (cells23' b)) a b) := Lib.hid ⟨(BoxA.new w a 23).keep ((Below.refl _ _).alloc (Nat.le_refl _) (cells23' b)) (by simp), by have := BoxA.new (w.alloc (cells23' a)) b 23; rwa [World.size_alloc] at this, hb0⟩
  have HL0 := Lib.hid (hL.below hb0 (Nat.le_refl _))
  have HV0 := Lib.hid (h.keep hb0)
  obtain ⟨p, c, rfl, hcap, hm, _⟩ := h
  obtain ⟨n, hn⟩ : ∃ n, ws.length = n := ⟨_, rfl⟩
  rw [hn] at hcap hm HV0 ⊢
  unfold maxLen at hm
  clear hL hn hb0
  obtain ⟨F, hF⟩ : ∃ F, fewA [a, b] = F := ⟨_, rfl⟩
  have HFW := Lib.hid (few_two a b)
  rw [hF] at HFW
  clear hF
  go_enter Tryd.func4, Tryd.ntmps4
  go_wp2_with fail
  refine (alive_any _ HL0.out).mono ?_
  rintro e w1 ⟨rfl, hb1⟩
  have HA1 := Lib.hid (HA0.out.keep hb1)
  have HL1 := Lib.hid (HL0.out.below hb1 (Nat.le_refl _))
  have HV1 := Lib.hid (HV0.out.keep hb1)
  clear hb1 HA0 HL0 HV0
  obtain ⟨c0, c1, c2, c3, c4, c5⟩ := HA1.out.b3.facts
  obtain ⟨d0, d1, d2, d3, d4, d5⟩ := HA1.out.b4.facts
  go_wp2_with fail
  clear c0 c1 c2 c3 c4 c5 d0 d1 d2 d3 d4 d5
  refine (HFW.out w1).mono ?_
  rintro e w2 ⟨rfl, hb2⟩
  have hb2' : Below w1.heap.size w1 w2 := ((Below.refl w1.heap.size w1).alloc (Nat.le_refl _) _).trans (hb2.mono (Nat.le_succ _))
  have HA2 := Lib.hid (HA1.out.keep hb2')
  have HL2 := Lib.hid (HL1.out.below hb2' (Nat.le_refl _))
  have HV2 := Lib.hid (HV1.out.keep hb2')
  clear hb2 hb2' HA1 HL1 HV1
  cases F with
  | false =>
    go_wp2
    go_ret
    exact ⟨rfl, HA2.out.bel⟩
  | true =>
    by_cases h70 : 70 < n
    · go_wp2
      go_ret
      exact ⟨rfl, HA2.out.bel⟩
    · obtain ⟨R, hR⟩ : ∃ R, parseA ws = R := ⟨_, rfl⟩
      have HPA := Lib.hid (fun W => parse_any (.slice p n c) ws W)
      have HPE := Lib.hid (parse_err ws)
      rw [hR] at HPA HPE
      obtain ⟨x, E⟩ := R
      simp only at HPA HPE
      obtain ⟨us, hus⟩ : ∃ us, wordsA a = us := ⟨_, rfl⟩
      obtain ⟨vs, hvs⟩ : ∃ vs, wordsA b = vs := ⟨_, rfl⟩
      have HWA := Lib.hid (words_any a)
      have HWB := Lib.hid (words_any b)
      rw [hus] at HWA
      rw [hvs] at HWB
      have HUS := Lib.hid hus
      have HVS := Lib.hid hvs
      clear hR hus hvs
      go_wp2_with fail
      have k0 := HA2.out.two
      have k1 := HA2.out.drew.two
      go_region_held3 (fun w' => (w'.cell? ⟨w.heap.size, 0, none⟩ = some (.string a.code) ∧ w'.cell? ⟨w.heap.size, 1, none⟩ = some (.int .i64 a.cls) ∧ w'.cell? ⟨w.heap.size, 2, none⟩ = some (.bool a.cash) ∧ w'.cell? ⟨w.heap.size, 3, none⟩ = some (.bool a.both) ∧ w'.cell? ⟨w.heap.size, 4, none⟩ = some (.string a.fixed) ∧ w'.cell? ⟨w.heap.size, 5, none⟩ = some (.bool a.worn)) ∧ (w'.cell? ⟨w.heap.size + 1, 0, none⟩ = some (.string b.code) ∧ w'.cell? ⟨w.heap.size + 1, 1, none⟩ = some (.int .i64 b.cls) ∧ w'.cell? ⟨w.heap.size + 1, 2, none⟩ = some (.bool b.cash) ∧ w'.cell? ⟨w.heap.size + 1, 3, none⟩ = some (.bool b.both) ∧ w'.cell? ⟨w.heap.size + 1, 4, none⟩ = some (.string b.fixed) ∧ w'.cell? ⟨w.heap.size + 1, 5, none⟩ = some (.bool b.worn)))
        (first | (with_reducible exact k0) | (with_reducible exact k1) | (with_reducible exact m1) | (with_reducible exact m2) | fail)
        (first
          | (go_at_call 15; (with_reducible refine (HWA.out w2.drew HL2.out.drew).mono ?_); rintro e w3 ⟨u3, rfl, hs3, hb3⟩; have M1 := Lib.hid (HA2.out.drew.keep hb3); have m1 := M1.out.two; have L1 := Lib.hid (HL2.out.drew.below hb3 (Nat.le_refl _)); have S1 := Lib.hid hs3; have V1 := Lib.hid (StrsV.keep (w := w2.drew) HV2.out hb3))
          | (go_at_call 15; (with_reducible refine (HWB.out w3 L1.out).mono ?_); rintro e w4 ⟨u4, rfl, hs4, hb4⟩; have M2 := Lib.hid (M1.out.keep hb4); have m2 := M2.out.two; have L2 := Lib.hid (L1.out.below hb4 (Nat.le_refl _)); have S2 := Lib.hid (S1.out.keep hb4); have T2 := Lib.hid hs4; have V2 := Lib.hid (V1.out.keep hb4))
          | fail)
      obtain ⟨p3, k3, hu3, _, hm3, _⟩ := S2.out
      obtain ⟨p4, k4, hu4, _, hm4, _⟩ := T2.out
      subst hu3 hu4
      clear k0 k1 m1 m2 hs3 hb3 hs4 hb4 S1 V1 L1 M1
      unfold maxLen at hm3 hm4
      cases ha : rightA a with
      | false =>
        have hl0 : us.length = 0 := by rw [← HUS.out, words_nil ha]; rfl
        rw [hl0] at hm3 S2 ⊢
        have HAX := Lib.hid M2.out
        have HLX := Lib.hid L2.out
        have HVX := Lib.hid V2.out
        clear hl0 ha
        go_wp2_with fail
        refine (HPA.out _ HVX.out HLX.out).mono ?_
        rintro e wp ⟨rfl, hbp⟩
        have hbq := hbp.alloc hbp.size (.cells (cellsA x) 28)
        have HBQ := Lib.hid (HAX.out.bel.trans (hbq.mono HAX.out.bel.size))
        have HYQ := Lib.hid (BoxA.new wp x 28)
        have HLQ := Lib.hid (HLX.out.below hbq (Nat.le_refl _))
        have HVQ := Lib.hid (HVX.out.keep hbq)
        clear hbp hbq
        rcases HPE.out with hE | ⟨hwx, _, hE⟩
        · obtain ⟨rfl, rfl⟩ := Prod.mk.inj hE
          clear hE
          go_wp2
          go_ret
          exact ⟨rfl, HBQ.out⟩
        · subst hE
          have HWX := Lib.hid (words_any x)
          rw [hwx] at HWX
          clear hwx
          obtain ⟨c0, c1, c2, c3, c4, c5⟩ := HYQ.out.facts
          go_wp2_with fail
          clear c0 c1 c2 c3 c4 c5
          refine (HWX.out _ HLQ.out).mono ?_
          rintro e wr ⟨vr, rfl, hsr, hbr⟩
          have HSR := Lib.hid hsr
          have HVR := Lib.hid (HVQ.out.keep hbr)
          have HBR := Lib.hid (HBQ.out.trans (hbr.mono HBQ.out.size))
          clear hsr hbr
          go_wp2_with fail
          refine (same_ws HSR.out HVR.out).mono ?_
          rintro e ws2 ⟨rfl, q, rfl⟩
          go_wp2
          go_ret
          exact ⟨rfl, below_drewN HBR.out q⟩
      | true =>
        have HRA := Lib.hid ha
        have hl3 : 3 ≤ us.length := by rw [← HUS.out]; exact words_ne ha
        have hl3z : (0 : Int) < (us.length : Int) := by omega
        have HPU : Hid (parseA us = (a, 0)) := Lib.hid (by rw [← HUS.out]; exact parse_words ha)
        have HPC := Lib.hid (parse_any (.slice p3 us.length k3) us _ S2.out L2.out)
        rw [HPU.out] at HPC
        clear ha
        go_wp2_with fail
        refine HPC.out.mono ?_
        rintro e w5 ⟨rfl, hb5⟩
        have hb6 := hb5.alloc hb5.size (.cells (cellsA a) 28)
        have HA6 := Lib.hid (M2.out.keep hb6)
        have HY6 := Lib.hid (BoxA.new w5 a 28)
        have HL6 := Lib.hid (L2.out.below hb6 (Nat.le_refl _))
        have HV6 := Lib.hid (V2.out.keep hb6)
        have HS6 := Lib.hid (S2.out.keep hb6)
        have HT6 := Lib.hid (T2.out.keep hb6)
        clear hb5 hb6
        have hgd := guard_ref
        have q1 : ∀ w', Sem.run Tryd.prog (binOp .neq 23 (.agg #[.string a.code, .int .i64 a.cls, .bool a.cash, .bool a.both, .string a.fixed, .bool a.worn]) (.agg #[.string a.code, .int .i64 a.cls, .bool a.cash, .bool a.both, .string a.fixed, .bool a.worn])) w' = .ok (.bool false) w' := fun w' => by
          have := neq_ref a a w'
          rwa [show eqA a a = true from (eqA_iff _ _).2 rfl] at this
        have q2 := eql_ref a b
        obtain ⟨Wr, hWr⟩ : ∃ Wr, w5.alloc (.cells (cellsA a) 28) = Wr := ⟨_, rfl⟩
        rw [hWr] at HA6 HY6 HL6 HV6 HS6 HT6
        obtain ⟨c0, c1, c2, c3, c4, c5⟩ := HA6.out.b3.facts
        obtain ⟨d0, d1, d2, d3, d4, d5⟩ := HY6.out.facts
        obtain ⟨f0, f1, f2, f3, f4, f5⟩ := HA6.out.b4.facts
        cases hbr : rightA b with
        | false =>
          have hl0 : vs.length = 0 := by rw [← HVS.out, words_nil hbr]; rfl
          rw [hl0] at hm4 HT6 ⊢
          clear hl0 hbr T2
          go_wp2_with fail
          clear d0 d1 d2 d3 d4 d5 hWr
          go_big_quiet (fail)
          clear c0 c1 c2 c3 c4 c5 f0 f1 f2 f3 f4 f5
          have HAX := Lib.hid (HA6.out.drewN nq)
          have HLX : Hid (Laid (Wr.drewN nq)) := Lib.hid ⟨HL6.out.g0, HL6.out.g1, HL6.out.g2⟩
          have HVX : Hid (StrsV (Wr.drewN nq) (.slice p n c) ws) := Lib.hid HV6.out
          generalize Wr.drewN nq = Wq at *
          go_wp2_with fail
          refine (HPA.out _ HVX.out HLX.out).mono ?_
          rintro e wp ⟨rfl, hbp⟩
          have hbq := hbp.alloc hbp.size (.cells (cellsA x) 28)
          have HBQ := Lib.hid (HAX.out.bel.trans (hbq.mono HAX.out.bel.size))
          have HYQ := Lib.hid (BoxA.new wp x 28)
          have HLQ := Lib.hid (HLX.out.below hbq (Nat.le_refl _))
          have HVQ := Lib.hid (HVX.out.keep hbq)
          clear hbp hbq
          rcases HPE.out with hE | ⟨hwx, _, hE⟩
          · obtain ⟨rfl, rfl⟩ := Prod.mk.inj hE
            clear hE
            go_wp2
            go_ret
            exact ⟨rfl, HBQ.out⟩
          · subst hE
            have HWX := Lib.hid (words_any x)
            rw [hwx] at HWX
            clear hwx
            obtain ⟨c0, c1, c2, c3, c4, c5⟩ := HYQ.out.facts
            go_wp2_with fail
            clear c0 c1 c2 c3 c4 c5
            refine (HWX.out _ HLQ.out).mono ?_
            rintro e wr ⟨vr, rfl, hsr, hbr⟩
            have HSR := Lib.hid hsr
            have HVR := Lib.hid (HVQ.out.keep hbr)
            have HBR := Lib.hid (HBQ.out.trans (hbr.mono HBQ.out.size))
            clear hsr hbr
            go_wp2_with fail
            refine (same_ws HSR.out HVR.out).mono ?_
            rintro e ws2 ⟨rfl, q, rfl⟩
            go_wp2
            go_ret
            exact ⟨rfl, below_drewN HBR.out q⟩
        | true =>
          have hl4 : 3 ≤ vs.length := by rw [← HVS.out]; exact words_ne hbr
          have hl4z : (0 : Int) < (vs.length : Int) := by omega
          have HSW : Hid (sameW us vs = eqA a b) := Lib.hid (by rw [← HUS.out, ← HVS.out]; exact sameW_eq HRA.out hbr)
          have HSC := Lib.hid (fun W h h' => sameWords_any (.slice p3 us.length k3) (.slice p4 vs.length k4) us vs W h h')
          rw [HSW.out] at HSC
          clear hbr
          obtain ⟨X, hX⟩ : ∃ X, eqA a b = X := ⟨_, rfl⟩
          rw [hX] at HSC q2
          have hXX : (X != X) = false := by simp
          have hgb : decide ((0 : Int) < (vs.length : Int)) = true := decide_eq_true hl4z
          have hgn : decide (0 < vs.length) = true := decide_eq_true (by omega)
          clear hl4z
          clear hX HSW
          go_wp2_with fail
          clear d0 d1 d2 d3 d4 d5 hWr c0 c1 c2 c3 c4 c5 f0 f1 f2 f3 f4 f5
          have k0 := HA6.out.two
          have k1 := HA6.out.drew.two
          go_region_held3 (fun w' => (w'.cell? ⟨w.heap.size, 0, none⟩ = some (.string a.code) ∧ w'.cell? ⟨w.heap.size, 1, none⟩ = some (.int .i64 a.cls) ∧ w'.cell? ⟨w.heap.size, 2, none⟩ = some (.bool a.cash) ∧ w'.cell? ⟨w.heap.size, 3, none⟩ = some (.bool a.both) ∧ w'.cell? ⟨w.heap.size, 4, none⟩ = some (.string a.fixed) ∧ w'.cell? ⟨w.heap.size, 5, none⟩ = some (.bool a.worn)) ∧ (w'.cell? ⟨w.heap.size + 1, 0, none⟩ = some (.string b.code) ∧ w'.cell? ⟨w.heap.size + 1, 1, none⟩ = some (.int .i64 b.cls) ∧ w'.cell? ⟨w.heap.size + 1, 2, none⟩ = some (.bool b.cash) ∧ w'.cell? ⟨w.heap.size + 1, 3, none⟩ = some (.bool b.both) ∧ w'.cell? ⟨w.heap.size + 1, 4, none⟩ = some (.string b.fixed) ∧ w'.cell? ⟨w.heap.size + 1, 5, none⟩ = some (.bool b.worn)))
            (first | (with_reducible exact k0) | (with_reducible exact k1) | (with_reducible exact m1) | fail)
            (first
              | (go_at_call 14; refine (HSC.out Wr.drew HS6.out HT6.out).mono ?_; rintro e w' ⟨rfl, q, rfl⟩; have M1 := Lib.hid (HA6.out.drewN (1 + q)); have m1 := M1.out.two)
              | fail)
          have HAX := Lib.hid M1.out
          have HLX : Hid (Laid (Wr.drewN (1 + q))) := Lib.hid ⟨HL6.out.g0, HL6.out.g1, HL6.out.g2⟩
          have HVX : Hid (StrsV (Wr.drewN (1 + q)) (.slice p n c) ws) := Lib.hid HV6.out
          clear k0 k1 m1
          generalize Wr.drewN (1 + q) = Wq at *
          go_wp2_with fail
          refine (HPA.out _ HVX.out HLX.out).mono ?_
          rintro e wp ⟨rfl, hbp⟩
          have hbq := hbp.alloc hbp.size (.cells (cellsA x) 28)
          have HBQ := Lib.hid (HAX.out.bel.trans (hbq.mono HAX.out.bel.size))
          have HYQ := Lib.hid (BoxA.new wp x 28)
          have HLQ := Lib.hid (HLX.out.below hbq (Nat.le_refl _))
          have HVQ := Lib.hid (HVX.out.keep hbq)
          clear hbp hbq
          rcases HPE.out with hE | ⟨hwx, _, hE⟩
          · obtain ⟨rfl, rfl⟩ := Prod.mk.inj hE
            clear hE
            go_wp2
            go_ret
            exact ⟨rfl, HBQ.out⟩
          · subst hE
            have HWX := Lib.hid (words_any x)
            rw [hwx] at HWX
            clear hwx
            obtain ⟨c0, c1, c2, c3, c4, c5⟩ := HYQ.out.facts
            go_wp2_with fail
            clear c0 c1 c2 c3 c4 c5
            refine (HWX.out _ HLQ.out).mono ?_
            rintro e wr ⟨vr, rfl, hsr, hbr⟩
            have HSR := Lib.hid hsr
            have HVR := Lib.hid (HVQ.out.keep hbr)
            have HBR := Lib.hid (HBQ.out.trans (hbr.mono HBQ.out.size))
            clear hsr hbr
            go_wp2_with fail
            refine (same_ws HSR.out HVR.out).mono ?_
            rintro e ws2 ⟨rfl, q, rfl⟩
            go_wp2
            go_ret
            exact ⟨rfl, below_drewN HBR.out q⟩
end Go.Proofs.YtploldcbpejncaaDoor
