
/- The walk of ChartOwn: it returns true. -/
import Derived.Test.YtploldcbpejncaaDoorChartBackLaw
import Derived.Test.YtploldcbpejncaaDoorChartOurs
import Derived.Laws.AppendOwnNone
namespace Go.Proofs.YtploldcbpejncaaDoor
open Go.RowKit

theorem addV_length (L : List Acct) (a : Acct) : (addV L a).length = if addE L a = 0 then L.length + 1 else L.length := by
  unfold addV; split
  · exact insL_length L a
  · rfl
theorem addE_ways (L : List Acct) (a : Acct) : addE L a = 0 ∨ addE L a = 7 ∨ addE L a = 1 ∨ addE L a = 4 := by
  unfold addE; split
  · simp
  · split
    · simp
    · split <;> simp
section
variable {w : World} {ops : Array Oper} {rest : List Oper} {o : Oper} {a : Act} {Q : Exit → Act → World → Prop}
/-- 'append(nil, chart...)'. -/
theorem wpList_append_chart (hgd : o.guard = none) (s x : Operand) (ho : o.op = .call { callee := .builtin .append, args := #[s, x], argTypes := #[42, 42] })
    (hs : a.eval s = .slice none 0 0) (v : Value) (hx : a.eval x = v) (L : List Acct) (hV : ChartV w v L) (hL : L.length ≤ 1000)
    (h : ∀ v' w', ChartV w' v' L → Below w.heap.size w w' → wpList Tryd.prog ops Q rest (a.put o.dst v') w') : wpList Tryd.prog ops Q (o :: rest) a w := by
  obtain ⟨i0, hi, hz0, hz1, hz2⟩ := info_parts info_theirs_any
  have HV := hV
  obtain ⟨p, c, rfl, hcap, hm, hpn, _⟩ := hV
  cases p with
  | none =>
    have h0 := hpn rfl
    have : L = [] := List.eq_nil_of_length_eq_zero (by omega)
    subst this
    subst h0
    refine wpList_append_own_none hgd s x _ ho w.heap.size 28 i0 6 Tryd.underlying42 hi _ _ _ hs (World.ownsRow_nil w w.heap.size 28 6) hx ?_
    exact h _ _ (ChartV.nil w) (Below.refl _ _)
  | some ad =>
    refine wpList_append_own w hgd s x _ ho w.heap.size 28 i0 _ 6 56 Tryd.underlying42 hi hz0 hz1 hz2 rfl (by decide) _ _ _ hs (World.ownsRow_nil w w.heap.size 28 6) ad L.length c (flatA L) hx (flatA_length L) (fun j u hj => ?_) (flatA_one L) (by unfold maxLen; omega) (by omega) (Nat.le_refl _) ?_
    · by_cases hne : L = []
      · subst hne; simp [flatA] at hj
      · obtain ⟨b, of, e, _, hcell⟩ := HV.cells hne
        cases e
        rw [add_off]; exact hcell j u hj
    · intro v' w' hown hgr _
      have : w'.ownsRow w.heap.size 28 6 v' L.length (flatA L) := by simpa using hown
      exact h v' w' (chart_of_own this) (below_grown (Below.refl _ _) (Nat.le_refl _) (World.ownsRow_nil w w.heap.size 28 6) hgr)
end
theorem same_chart {v u : Value} {L : List Acct} {W : World} (h : ChartV W v L) (h' : ChartV W u L) : Calls Tryd.prog 18 #[v, u] W fun e w' => e = .returned (.bool true) ∧ ∃ q, w' = W.drewN q := by
  have := same_any v u L L W h h'
  rwa [show sameA L L = true from decide_eq_true rfl] at this
theorem ChartV.drewN {w : World} {v : Value} {L : List Acct} (h : ChartV w v L) (q : Nat) : ChartV (w.drewN q) v L := h.keep (below_drewN (Below.refl _ _) q)
theorem Laid.drewN {w : World} (h : Laid w) (q : Nat) : Laid (w.drewN q) := ⟨h.g0, h.g1, h.g2⟩
set_option maxRecDepth 100000 in
set_option maxHeartbeats 8000000 in
theorem chartOwn_walk (v : Value) (L : List Acct) (a b : Acct) (w : World) (h : ChartV w v L) (hL : Laid w) : Calls Tryd.prog 7 #[v, aggF a, aggF b] w fun e w' => e = .returned (.bool true) ∧ Below w.heap.size w w' := by
  have hb0 := ((Below.refl w.heap.size w).alloc (Nat.le_refl _) (cells23' a)).alloc (by simp) (cells23' b)
  have HA0 : Hid (BackAt w ((w.alloc (cells23' a)).alloc (cells23' b)) a b) := Lib.hid ⟨(BoxA.new w a 23).keep ((Below.refl _ _).alloc (Nat.le_refl _) (cells23' b)) (by simp), by have := BoxA.new (w.alloc (cells23' a)) b 23; rwa [World.size_alloc] at this, hb0⟩
  have HL0 := Lib.hid (hL.below hb0 (Nat.le_refl _))
  have HV0 := Lib.hid (h.keep hb0)
  obtain ⟨p, c, rfl, hcap, hm, _, _⟩ := h
  obtain ⟨n, hn⟩ : ∃ n, L.length = n := ⟨_, rfl⟩
  rw [hn] at hcap HV0 ⊢
  have HN := Lib.hid hn
  unfold maxLen at hm
  clear hL hn hb0
  obtain ⟨F, hF⟩ : ∃ F, fewA [a, b] = F := ⟨_, rfl⟩
  have HFW := Lib.hid (few_two a b)
  rw [hF] at HFW
  obtain ⟨G, hG⟩ : ∃ G, fewA L = G := ⟨_, rfl⟩
  have HFL := Lib.hid (fun W h => few_any (.slice p n c) L W h)
  rw [hG] at HFL
  have HGV := Lib.hid hG
  obtain ⟨I, hI⟩ : ∃ I, riseL L = I := ⟨_, rfl⟩
  have HRI := Lib.hid (fun W h => rise_any (.slice p n c) L W h)
  rw [hI] at HRI
  clear hF hG hI
  go_enter Tryd.func7, Tryd.ntmps7
  go_wp2_with fail
  refine (alive_any _ HL0.out).mono ?_
  rintro e w1 ⟨rfl, hb1⟩
  have HA1 := Lib.hid (HA0.out.keep hb1)
  have HL1 := Lib.hid (HL0.out.below hb1 (Nat.le_refl _))
  have HV1 := Lib.hid (HV0.out.keep hb1)
  clear hb1 HA0 HL0 HV0
  go_wp2_with fail
  refine (HFL.out _ HV1.out).mono ?_
  rintro e w2 ⟨rfl, hb2⟩
  have HA2 := Lib.hid (HA1.out.keep hb2)
  have HL2 := Lib.hid (HL1.out.below hb2 (Nat.le_refl _))
  have HV2 := Lib.hid (HV1.out.keep hb2)
  clear hb2 HA1 HL1 HV1
  cases G with
  | false =>
    go_wp2
    go_ret
    exact ⟨rfl, HA2.out.bel⟩
  | true =>
    have hn70 : n ≤ 70 := by rw [← HN.out]; exact (fewA_parts HGV.out).1
    obtain ⟨c0, c1, c2, c3, c4, c5⟩ := HA2.out.b3.facts
    obtain ⟨d0, d1, d2, d3, d4, d5⟩ := HA2.out.b4.facts
    go_wp2_with fail
    clear c0 c1 c2 c3 c4 c5 d0 d1 d2 d3 d4 d5
    refine (HFW.out w2).mono ?_
    rintro e w3 ⟨rfl, hb3⟩
    have hb3' : Below w2.heap.size w2 w3 := ((Below.refl w2.heap.size w2).alloc (Nat.le_refl _) _).trans (hb3.mono (Nat.le_succ _))
    have HA3 := Lib.hid (HA2.out.keep hb3')
    have HL3 := Lib.hid (HL2.out.below hb3' (Nat.le_refl _))
    have HV3 := Lib.hid (HV2.out.keep hb3')
    clear hb3 hb3' HA2 HL2 HV2
    cases F with
    | false =>
      go_wp2
      go_ret
      exact ⟨rfl, HA3.out.bel⟩
    | true =>
      go_wp2_with fail
      refine (HRI.out _ HV3.out).mono ?_
      rintro e w4 ⟨rfl, q, rfl⟩
      have HA4 := Lib.hid (HA3.out.drewN q)
      have HL4 := Lib.hid (HL3.out.drewN q)
      have HV4 := Lib.hid (HV3.out.drewN q)
      generalize w3.drewN q = w4 at *
      clear HA3 HL3 HV3
      cases I with
      | false =>
        go_wp2
        go_ret
        exact ⟨rfl, HA4.out.bel⟩
      | true =>
        obtain ⟨M, hM⟩ : ∃ M, addV L a = M := ⟨_, rfl⟩
        obtain ⟨E, hE⟩ : ∃ E, addE L a = E := ⟨_, rfl⟩
        obtain ⟨E2, hE2⟩ : ∃ E2, addE M b = E2 := ⟨_, rfl⟩
        have hlen := addV_length L a
        rw [hM, hE, HN.out] at hlen
        have HLEN := Lib.hid hlen
        have HM1 : Hid (M.length ≤ 1000) := Lib.hid (by rw [hlen]; split <;> omega)
        have HAD := Lib.hid (fun v W h => add_any v L a W h (by rw [HN.out]; omega))
        rw [hM, hE] at HAD
        have HAE := Lib.hid (fun v W h => add_any v M b W h HM1.out)
        rw [hE2] at HAE
        have HE2 := Lib.hid (hE2 ▸ addE_ways M b)
        clear hM hE hE2 hlen
        go_wp2_with fail
        refine (theirs_any _ L _ HV4.out (by rw [HN.out]; omega)).mono ?_
        rintro e w5 ⟨v5, rfl, hc5, hb5⟩
        have HO5 := Lib.hid hc5
        have HA5 := Lib.hid (HA4.out.keep hb5)
        have HV5 := Lib.hid (HV4.out.keep hb5)
        clear hc5 hb5 HA4 HL4 HV4
        obtain ⟨c0, c1, c2, c3, c4, c5⟩ := HA5.out.b3.facts
        go_wp2_with fail
        clear c0 c1 c2 c3 c4 c5
        refine (HAD.out v5 _ HO5.out).mono ?_
        rintro e w6 ⟨v6, rfl, hc6, hb6⟩
        have HX6 := Lib.hid hc6
        have HA6 := Lib.hid (HA5.out.keep hb6)
        have HV6 := Lib.hid (HV5.out.keep hb6)
        have HO6 := Lib.hid (HO5.out.keep hb6)
        clear hc6 hb6 HA5 HV5 HO5
        go_wp2_with (at_builtin; refine wpList_append_chart rfl _ _ rfl rfl v6 rfl M HX6.out HM1.out ?_; intro v7 w7 hk7 hb7; obtain ⟨c0, c1, c2, c3, c4, c5⟩ := (HA6.out.keep hb7).b4.facts)
        clear c0 c1 c2 c3 c4 c5
        have HK7 := Lib.hid hk7
        have HX7 := Lib.hid (HX6.out.keep hb7)
        have HA7 := Lib.hid (HA6.out.keep hb7)
        have HV7 := Lib.hid (HV6.out.keep hb7)
        have HO7 := Lib.hid (HO6.out.keep hb7)
        clear hk7 hb7 HA6 HV6 HO6 HX6
        refine (HAE.out v6 _ HX7.out).mono ?_
        rintro e w8 ⟨v8, rfl, _, hb8⟩
        have HK8 := Lib.hid (HK7.out.keep hb8)
        have HX8 := Lib.hid (HX7.out.keep hb8)
        have HA8 := Lib.hid (HA7.out.bel.trans (hb8.mono HA7.out.bel.size))
        have HV8 := Lib.hid (HV7.out.keep hb8)
        have HO8 := Lib.hid (HO7.out.keep hb8)
        clear hb8 HA7 HV7 HO7 HX7 HK7
        go_wp2_with fail
        refine (ours_any _ L _ HO8.out (by rw [HN.out]; omega)).mono ?_
        rintro e w9 ⟨v9, rfl, hc9, hb9⟩
        have HK9 := Lib.hid (HK8.out.keep hb9)
        have HX9 := Lib.hid (HX8.out.keep hb9)
        have HA9 := Lib.hid (HA8.out.trans (hb9.mono HA8.out.size))
        have HV9 := Lib.hid (HV8.out.keep hb9)
        have HU9 := Lib.hid hc9
        clear hb9 hc9 HA8 HV8 HO8 HX8 HK8
        go_wp2_with fail
        refine (same_chart HU9.out HV9.out).mono ?_
        rintro e wa ⟨rfl, q, rfl⟩
        have HKa := Lib.hid (HK9.out.drewN q)
        have HXa := Lib.hid (HX9.out.drewN q)
        have HAa := Lib.hid (below_drewN HA9.out q)
        generalize w9.drewN q = wa at *
        clear HA9 HV9 HU9 HX9 HK9
        go_wp2_with fail
        refine (ours_any _ M _ HXa.out HM1.out).mono ?_
        rintro e wb ⟨vb, rfl, hcb, hbb⟩
        have HKb := Lib.hid (HKa.out.keep hbb)
        have HAb := Lib.hid (HAa.out.trans (hbb.mono HAa.out.size))
        have HUb := Lib.hid hcb
        clear hcb hbb
        go_wp2_with fail
        refine (ours_any _ M _ HKb.out HM1.out).mono ?_
        rintro e wc ⟨vc, rfl, hcc, hbc⟩
        have HUc := Lib.hid (HUb.out.keep hbc)
        have HAc := Lib.hid (HAb.out.trans (hbc.mono HAb.out.size))
        have HTc := Lib.hid hcc
        clear hcc hbc
        go_wp2_with fail
        refine (same_chart HUc.out HTc.out).mono ?_
        rintro e wd ⟨rfl, q, rfl⟩
        obtain ⟨p6, k6, hv6, _, _, _, _⟩ := HXa.out
        subst hv6
        obtain ⟨m, hm6⟩ : ∃ m, M.length = m := ⟨_, rfl⟩
        rw [hm6] at HLEN ⊢
        clear hm6
        by_cases hE0 : E = 0
        · subst hE0
          obtain rfl : m = n + 1 := by have := HLEN.out; simpa using this
          rcases HE2.out with h | h | h | h <;> subst h
          all_goals
            go_wp2
            go_ret
            exact ⟨rfl, below_drewN HAc.out q⟩
        · obtain rfl : m = n := by have := HLEN.out; rw [if_neg hE0] at this; exact this
          have hEz : (E == 0) = false := by simpa using hE0
          have hmm : ((m : Int) == (m : Int) + 1) = false := by simp; omega
          clear hE0
          rcases HE2.out with h | h | h | h <;> subst h
          all_goals
            go_wp2
            go_ret
            exact ⟨rfl, below_drewN HAc.out q⟩
end Go.Proofs.YtploldcbpejncaaDoor
