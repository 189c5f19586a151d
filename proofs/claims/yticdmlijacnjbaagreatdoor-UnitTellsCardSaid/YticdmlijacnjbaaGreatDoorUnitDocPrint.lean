
/- The walk of the document's Print: the text of master data. What was there stays. -/
import Derived.Test.YticdmlijacnjbaaGreatDoorM24
import Derived.Test.YticdmlijacnjbaaGreatDoorM30
import Derived.Test.YticdmlijacnjbaaGreatDoorM23
import Derived.Test.YticdmlijacnjbaaGreatDoorSegs
namespace Go.Proofs.YticdmlijacnjbaaGreatDoor.Un
open Go.RowKit

/-- Lines more, at the operation. -/
theorem wp_append_lines {P : Program} {o : Oper} {a : Act} {w : World} {K : Act → World → Prop} {Q : Exit → Act → World → Prop} (s x : Operand) (t : TypeId) (ho : o.op = .call { callee := .builtin .append, args := #[s, x], argTypes := #[t, t] })
    (B : Nat) (e : TypeId) (i : TypeInfo) (ht : P.underlying t = some (.slice e)) (hi : P.info? e = some i) (hz : i.zero = some (.agg #[.int .i64 0, .slice none 0 0])) (hsz : i.size = 2) (hby : i.bytes = 32) (hne : e ≠ 9)
    (v : Value) (KK L : List (List ByteArray)) (PV : List (Int × Value)) (g m : Nat) (hs : a.eval s = v) (hrow : RowsAt w B e v KK) (hx : a.eval x = .slice (some ⟨g, 0, none⟩) m m) (hm : PV.length = m) (hc : ∀ (j : Nat) (u : Value), (flatL PV)[j]? = some u → w.cell? ⟨g, j, none⟩ = some u) (hone : ∀ y ∈ flatL PV, y.oneCell' = true) (hu : WordsOwn w B 9 PV (zn L)) (hB : B ≤ w.heap.size) (hK : KK.length + m ≤ 100000)
    (h : ∀ v' w', RowsAt w' B e v' (KK ++ L) → Below B w w' → w.grownBy w' v.ownBlock → K (a.put o.dst v') w') : o.wp P a w K Q := by
  obtain ⟨LV, h1, h2⟩ := hrow
  have hlen : LV.length = KK.length := by have := h2.1; simpa [zn] using this
  refine wp_append_own w s x t ho B e i _ 2 32 ht hi hz hsz hby rfl (by decide) v LV.length (flatL LV) hs h1 ⟨g, 0, none⟩ m m (flatL PV) hx (by rw [flatL_length, hm]) (fun j u hj => by rw [add_off, Nat.zero_add]; exact hc j u hj) hone (by unfold maxLen; omega) (by omega) hB ?_
  intro v' w' h3 h4 _
  have hk : ∀ (q : Value) (n : Nat) (xs : List Value), w.ownsRow B 9 1 q n xs → w'.ownsRow B 9 1 q n xs := fun q n xs hq => hq.kept h4 (row_apart h1 hq hne)
  refine h v' w' ⟨LV ++ PV, ?_, ?_⟩ (below_grown (Below.refl _ _) hB h1 h4) h4
  · rw [show flatL (LV ++ PV) = flatL LV ++ flatL PV by simp [flatL], List.length_append, hm]; exact h3
  · have ha := h2.mono hk
    have hb := hu.mono hk
    refine ⟨by rw [List.length_append, ha.1, hb.1]; simp [zn], fun i x y hx hy => ?_⟩
    rw [show zn (KK ++ L) = zn KK ++ zn L by simp [zn]] at hy
    by_cases hi : i < LV.length
    · rw [List.getElem?_append_left hi] at hx
      rw [List.getElem?_append_left (by rw [← ha.1]; exact hi)] at hy
      exact ha.2 i x y hx hy
    · rw [List.getElem?_append_right (by omega)] at hx
      rw [List.getElem?_append_right (by rw [← ha.1]; omega), ← ha.1] at hy
      exact hb.2 _ x y hx hy
theorem line_words {w : World} {B : Nat} {u : Value} {ws : List ByteArray} (hu : w.ownsRow B 9 1 u ws.length (ws.map Value.string)) : WordsOwn w B 9 [((0 : Int), u)] (zn [ws]) := by
  refine ⟨rfl, fun i x y hx hy => ?_⟩
  match i, hx, hy with
  | 0, hx, hy => simp [zn] at hx hy; subst hx hy; exact ⟨rfl, hu⟩
  | i + 1, hx, _ => simp at hx
theorem words_cons {w : World} {B : Nat} {u : Value} {ws : List ByteArray} {PV : List (Int × Value)} {L : List (List ByteArray)} (hu : w.ownsRow B 9 1 u ws.length (ws.map Value.string)) (h : WordsOwn w B 9 PV (zn L)) : WordsOwn w B 9 ((0, u) :: PV) (zn (ws :: L)) := by
  refine ⟨by have := h.1; simp [zn] at this ⊢; exact this, fun i x y hx hy => ?_⟩
  match i, hx, hy with
  | 0, hx, hy => simp [zn] at hx hy; subst hx hy; exact ⟨rfl, hu⟩
  | i + 1, hx, hy =>
    simp only [zn, List.map_cons, List.getElem?_cons_succ] at hx hy
    exact h.2 i x y hx (by simpa [zn] using hy)
theorem wpList_append_lines {P : Program} {ops : Array Oper} {rest : List Oper} {o : Oper} {a : Act} {w : World} {Q : Exit → Act → World → Prop} (hgd : o.guard = none) (s x : Operand) (t : TypeId) (ho : o.op = .call { callee := .builtin .append, args := #[s, x], argTypes := #[t, t] })
    (B : Nat) (e : TypeId) (i : TypeInfo) (ht : P.underlying t = some (.slice e)) (hi : P.info? e = some i) (hz : i.zero = some (.agg #[.int .i64 0, .slice none 0 0])) (hsz : i.size = 2) (hby : i.bytes = 32) (hne : e ≠ 9)
    (v : Value) (KK L : List (List ByteArray)) (PV : List (Int × Value)) (g m : Nat) (hs : a.eval s = v) (hrow : RowsAt w B e v KK) (hx : a.eval x = .slice (some ⟨g, 0, none⟩) m m) (hm : PV.length = m) (hc : ∀ (j : Nat) (u : Value), (flatL PV)[j]? = some u → w.cell? ⟨g, j, none⟩ = some u) (hone : ∀ y ∈ flatL PV, y.oneCell' = true) (hu : WordsOwn w B 9 PV (zn L)) (hB : B ≤ w.heap.size) (hK : KK.length + m ≤ 100000)
    (h : ∀ v' w', RowsAt w' B e v' (KK ++ L) → Below B w w' → w.grownBy w' v.ownBlock → wpList P ops Q rest (a.put o.dst v') w') : wpList P ops Q (o :: rest) a w :=
  wpList_plain hgd fun _ hK' => wp_append_lines s x t ho B e i ht hi hz hsz hby hne v KK L PV g m hs hrow hx hm hc hone hu hB hK fun v' w' h1 h2 h3 => hK' _ _ (h v' w' h1 h2 h3)
theorem info_rpline : (Tryz.prog.info? 60).map (fun i => (i.zero, i.size, i.bytes)) = some (some (.agg #[.int .i64 0, .slice none 0 0]), 2, 32) := by kernel_rfl
theorem cells_new (w : World) (cs : List Value) (t : TypeId) : ∀ (j : Nat) (u : Value), cs[j]? = some u → (w.alloc (.cells cs.toArray t)).cell? ⟨w.heap.size, j, none⟩ = some u := fun j u hj => by
  rw [cell_of_row _ w.heap.size j _ t (0, 0) (heap_alloc_new w _)]; simpa using hj
/-- Between two lines of Print. -/
structure PrAtR (W0 wr : World) (v : Value) (K : List (List ByteArray)) : Prop where
  rows : RowsAt wr W0.heap.size 60 v K
  bel : Below W0.heap.size W0 wr
  len : K.length ≤ 50000
set_option maxRecDepth 100000 in
set_option maxHeartbeats 16000000 in
theorem rprintU_any (c f e l : Value) (M : Mast) (w : World) (h : MastIn w c f e l M) (hc : M.chart.length ≤ 1000) (hfl : M.flows.length ≤ 1000) (he : M.ents.length ≤ 1000) (hln : M.lines.length ≤ 1000) (hfew : ∀ ws ∈ outM M, ws.length ≤ 60 ∧ ∀ y ∈ ws, y.size ≤ 100) :
    Calls Tryz.prog 16 #[aggM c f e l M] w fun en w' => en = .returned (.string (mkB (textW (outM M)))) ∧ Below w.heap.size w w' := by
  have hB0 := (Below.refl w.heap.size w).alloc (Nat.le_refl _) (.cells (cellsM c f e l M) 39)
  have HB0 := Lib.hid hB0
  have hN0 := nine_new w c f e l M 39
  have hM0 := h.keep hB0
  obtain ⟨W0, hW0⟩ : ∃ W0, w.alloc (.cells (cellsM c f e l M) 39) = W0 := ⟨_, rfl⟩
  rw [hW0] at HB0 hN0 hM0
  have HN0 := Lib.hid hN0
  have HM0 := Lib.hid hM0
  have HFEW := Lib.hid hfew
  obtain ⟨i0, hi, hz0, hz1, hz2⟩ := info_parts info_rpline
  have HI := Lib.hid (And.intro hi (And.intro hz0 (And.intro hz1 hz2)))
  obtain ⟨RES, hRES⟩ : ∃ RES, mkB (textW (outM M)) = RES := ⟨_, rfl⟩
  rw [hRES]
  have HRES := Lib.hid hRES
  clear h hfew hB0 hM0 hi hz0 hz1 hz2 hRES
  obtain ⟨pc, cc, ec, hcc, hcm, _, hcv⟩ := HM0.out.chart
  obtain ⟨pf, cf, ef, hfc, hfm, _, hfv⟩ := HM0.out.flows
  obtain ⟨pe, ce, ee, hec, hem, _, hev⟩ := HM0.out.ents
  obtain ⟨pn, cn, en, hnc, hnm, _, hnv⟩ := HM0.out.lines
  obtain ⟨N0, hN0'⟩ : ∃ N, M.chart.length = N := ⟨_, rfl⟩
  obtain ⟨N1, hN1⟩ : ∃ N, M.flows.length = N := ⟨_, rfl⟩
  obtain ⟨N2, hN2⟩ : ∃ N, M.ents.length = N := ⟨_, rfl⟩
  obtain ⟨N3, hN3⟩ : ∃ N, M.lines.length = N := ⟨_, rfl⟩
  rw [hN0'] at ec hcc hc
  rw [hN1] at ef hfc hfl
  rw [hN2] at ee hec he
  rw [hN3] at en hnc hln
  have HCV := Lib.hid hcv
  have HFV := Lib.hid hfv
  have HEV := Lib.hid hev
  have HNV := Lib.hid hnv
  have HN_0 := Lib.hid hN0'
  have HN_1 := Lib.hid hN1
  have HN_2 := Lib.hid hN2
  have HN_3 := Lib.hid hN3
  unfold maxLen at hcm hfm hem hnm
  subst ec ef ee en
  clear hcv hfv hev hnv hN0' hN1 hN2 hN3 hN0
  have HK0 : Hid (PrAtR W0 W0 (.slice none 0 0) (([] : List (List ByteArray)) ++ (M.chart.take 0).map wordsA)) := Lib.hid ⟨RowsAt.nil _ _ _, Below.refl _ _, by simp⟩
  go_enter Tryz.func16, Tryz.ntmps16
  go_wp2
  clear hW0
  go_loopw [3, 4] (fun s3 si wr => ∃ (i : Nat) (v3 : Value), i ≤ N0 ∧ si = .int .i64 (i : Int) ∧ v3 = s3 ∧ Hid (PrAtR W0 wr v3 (([] : List (List ByteArray)) ++ (M.chart.take i).map wordsA))) (fun _ si _ => N0 - (intOf si).toNat)
  case atStart => exact ⟨0, _, Nat.zero_le _, rfl, rfl, HK0⟩
  case round =>
    obtain ⟨i, v3, hi, rfl, rfl, HP⟩ := hrel
    obtain ⟨KK, hKK⟩ : ∃ KK, (([] : List (List ByteArray)) ++ (M.chart.take i).map wordsA) = KK := ⟨_, rfl⟩
    rw [hKK] at HP
    by_cases hlt : i < N0
    · obtain ⟨x, hx⟩ : ∃ x, M.chart[i]? = some x := ⟨_, List.getElem?_eq_getElem (by rw [HN_0.out]; exact hlt)⟩
      have HTK : Hid (KK ++ [wordsA x] = (([] : List (List ByteArray)) ++ (M.chart.take (i + 1)).map wordsA)) := Lib.hid (by rw [map_take_succ hx, ← hKK]; simp)
      have HKL : Hid (KK.length ≤ 9000) := Lib.hid (by rw [← hKK]; have := HN_0.out; have := HN_1.out; have := HN_2.out; have := HN_3.out; simp; omega)
      clear hKK
      obtain ⟨b, o, rfl, hat⟩ := HCV.out i x hx
      obtain ⟨k0, k1, k2, k3, k4, k5, k6, k7, k8⟩ := HN0.out.keep HP.out.bel HN0.out.lt
      obtain ⟨d0, d1, d2, d3, d4, d5⟩ := hat.keep HP.out.bel hat.lt
      clear hat hx
      go_wp2_with fail
      clear d0 d1 d2 d3 d4 d5 k0 k1 k2 k3 k4 k5 k6 k7 k8
      refine (Ow.rwords_any x _).mono ?_
      rintro en w4 ⟨v4, rfl, ho4, hb4⟩
      obtain ⟨WS, hWS⟩ : ∃ WS, wordsA x = WS := ⟨_, rfl⟩
      rw [hWS] at ho4 HTK
      obtain ⟨pu, cu, rfl⟩ := row_slice' ho4
      have HU4 := Lib.hid (row_base ho4 HP.out.bel.size)
      have HP4 : Hid (PrAtR W0 w4 v3 KK) := Lib.hid ⟨HP.out.rows.below hb4, HP.out.bel.trans (hb4.mono HP.out.bel.size), HP.out.len⟩
      have BX5 := Lib.hid ((Below.refl w4.heap.size w4).alloc (Nat.le_refl _) (.cells #[.int .i64 0, .slice pu WS.length cu] 60))
      clear ho4 hb4 hWS
      go_wp2_with (at_builtin; refine wpList_append_line rfl _ _ 55 rfl W0.heap.size 60 i0 Tryz.underlying55 HI.out.1 HI.out.2.1 HI.out.2.2.1 HI.out.2.2.2 (by decide) KK WS (.slice pu WS.length cu) w4.heap.size (HP4.out.rows.below BX5.out) rfl (line_new w4 _ _).1 (line_new w4 _ _).2 (row_below HU4.out BX5.out) (Nat.le_trans HP4.out.bel.size BX5.out.size) (by have := HP4.out.len; omega) ?_; intro v6 w6 hr6 hb6 hg6)
      have HP6 : Hid (PrAtR W0 w6 v6 (KK ++ [WS])) := Lib.hid ⟨hr6, (HP4.out.bel.trans (BX5.out.mono HP4.out.bel.size)).trans hb6, by have := HKL.out; simp; omega⟩
      clear hr6 hb6 hg6
      go_wp2
      go_roundw
      case rel => exact ⟨i + 1, _, by omega, by go_num, rfl, by rw [← HTK.out]; exact HP6⟩
      case measure => simp [intOf]; omega
    · have HKN : Hid (KK = (([] : List (List ByteArray)) ++ M.chart.map wordsA)) := Lib.hid (by rw [← hKK, List.take_of_length_le (by rw [HN_0.out]; omega)])
      clear hKK
      obtain ⟨k0, k1, k2, k3, k4, k5, k6, k7, k8⟩ := HN0.out.keep HP.out.bel HN0.out.lt
      have HK1 : Hid (PrAtR W0 wr v3 ((([] : List (List ByteArray)) ++ M.chart.map wordsA) ++ (M.flows.take 0).map Fl.wordsF)) := Lib.hid (by have := HP.out; rw [HKN.out] at this; simpa using this)
      go_wp2
      clear k0 k1 k2 k3 k4 k5 k6 k7 k8
      go_loopw [3, 5] (fun s3 si wr => ∃ (i : Nat) (v3 : Value), i ≤ N1 ∧ si = .int .i64 (i : Int) ∧ v3 = s3 ∧ Hid (PrAtR W0 wr v3 ((([] : List (List ByteArray)) ++ M.chart.map wordsA) ++ (M.flows.take i).map Fl.wordsF))) (fun _ si _ => N1 - (intOf si).toNat)
      case atStart => exact ⟨0, _, Nat.zero_le _, rfl, rfl, HK1⟩
      case round =>
        obtain ⟨i, v3, hi, rfl, rfl, HP⟩ := hrel
        obtain ⟨KK, hKK⟩ : ∃ KK, ((([] : List (List ByteArray)) ++ M.chart.map wordsA) ++ (M.flows.take i).map Fl.wordsF) = KK := ⟨_, rfl⟩
        rw [hKK] at HP
        by_cases hlt : i < N1
        · obtain ⟨x, hx⟩ : ∃ x, M.flows[i]? = some x := ⟨_, List.getElem?_eq_getElem (by rw [HN_1.out]; exact hlt)⟩
          have HTK : Hid (KK ++ [Fl.wordsF x] = ((([] : List (List ByteArray)) ++ M.chart.map wordsA) ++ (M.flows.take (i + 1)).map Fl.wordsF)) := Lib.hid (by rw [map_take_succ hx, ← hKK]; simp)
          have HKL : Hid (KK.length ≤ 9000) := Lib.hid (by rw [← hKK]; have := HN_0.out; have := HN_1.out; have := HN_2.out; have := HN_3.out; simp; omega)
          clear hKK
          obtain ⟨b, o, rfl, hat⟩ := HFV.out i x hx
          obtain ⟨k0, k1, k2, k3, k4, k5, k6, k7, k8⟩ := HN0.out.keep HP.out.bel HN0.out.lt
          obtain ⟨d0, d1⟩ := Fl.two (hat.keep HP.out.bel hat.lt)
          clear hat hx
          go_wp2_with fail
          clear d0 d1 k0 k1 k2 k3 k4 k5 k6 k7 k8
          refine (Fl.rwords_own x _).mono ?_
          rintro en w4 ⟨v4, rfl, ho4, hb4⟩
          obtain ⟨WS, hWS⟩ : ∃ WS, Fl.wordsF x = WS := ⟨_, rfl⟩
          rw [hWS] at ho4 HTK
          obtain ⟨pu, cu, rfl⟩ := row_slice' ho4
          have HU4 := Lib.hid (row_base ho4 HP.out.bel.size)
          have HP4 : Hid (PrAtR W0 w4 v3 KK) := Lib.hid ⟨HP.out.rows.below hb4, HP.out.bel.trans (hb4.mono HP.out.bel.size), HP.out.len⟩
          have BX5 := Lib.hid ((Below.refl w4.heap.size w4).alloc (Nat.le_refl _) (.cells #[.int .i64 0, .slice pu WS.length cu] 60))
          clear ho4 hb4 hWS
          go_wp2_with (at_builtin; refine wpList_append_line rfl _ _ 55 rfl W0.heap.size 60 i0 Tryz.underlying55 HI.out.1 HI.out.2.1 HI.out.2.2.1 HI.out.2.2.2 (by decide) KK WS (.slice pu WS.length cu) w4.heap.size (HP4.out.rows.below BX5.out) rfl (line_new w4 _ _).1 (line_new w4 _ _).2 (row_below HU4.out BX5.out) (Nat.le_trans HP4.out.bel.size BX5.out.size) (by have := HP4.out.len; omega) ?_; intro v6 w6 hr6 hb6 hg6)
          have HP6 : Hid (PrAtR W0 w6 v6 (KK ++ [WS])) := Lib.hid ⟨hr6, (HP4.out.bel.trans (BX5.out.mono HP4.out.bel.size)).trans hb6, by have := HKL.out; simp; omega⟩
          clear hr6 hb6 hg6
          go_wp2
          go_roundw
          case rel => exact ⟨i + 1, _, by omega, by go_num, rfl, by rw [← HTK.out]; exact HP6⟩
          case measure => simp [intOf]; omega
        · have HKN : Hid (KK = ((([] : List (List ByteArray)) ++ M.chart.map wordsA) ++ M.flows.map Fl.wordsF)) := Lib.hid (by rw [← hKK, List.take_of_length_le (by rw [HN_1.out]; omega)])
          clear hKK
          obtain ⟨k0, k1, k2, k3, k4, k5, k6, k7, k8⟩ := HN0.out.keep HP.out.bel HN0.out.lt
          have HK2 : Hid (PrAtR W0 wr v3 (((([] : List (List ByteArray)) ++ M.chart.map wordsA) ++ M.flows.map Fl.wordsF) ++ (M.ents.take 0).map entW)) := Lib.hid (by have := HP.out; rw [HKN.out] at this; simpa using this)
          go_wp2
          clear k0 k1 k2 k3 k4 k5 k6 k7 k8
          go_loopw [3, 6] (fun s3 si wr => ∃ (i : Nat) (v3 : Value), i ≤ N2 ∧ si = .int .i64 (i : Int) ∧ v3 = s3 ∧ Hid (PrAtR W0 wr v3 (((([] : List (List ByteArray)) ++ M.chart.map wordsA) ++ M.flows.map Fl.wordsF) ++ (M.ents.take i).map entW))) (fun _ si _ => N2 - (intOf si).toNat)
          case atStart => exact ⟨0, _, Nat.zero_le _, rfl, rfl, HK2⟩
          case round =>
            obtain ⟨i, v3, hi, rfl, rfl, HP⟩ := hrel
            obtain ⟨KK, hKK⟩ : ∃ KK, (((([] : List (List ByteArray)) ++ M.chart.map wordsA) ++ M.flows.map Fl.wordsF) ++ (M.ents.take i).map entW) = KK := ⟨_, rfl⟩
            rw [hKK] at HP
            by_cases hlt : i < N2
            · obtain ⟨x, hx⟩ : ∃ x, M.ents[i]? = some x := ⟨_, List.getElem?_eq_getElem (by rw [HN_2.out]; exact hlt)⟩
              have HTK : Hid (KK ++ [entW x] = (((([] : List (List ByteArray)) ++ M.chart.map wordsA) ++ M.flows.map Fl.wordsF) ++ (M.ents.take (i + 1)).map entW)) := Lib.hid (by rw [map_take_succ hx, ← hKK]; simp)
              have HKL : Hid (KK.length ≤ 9000) := Lib.hid (by rw [← hKK]; have := HN_0.out; have := HN_1.out; have := HN_2.out; have := HN_3.out; simp; omega)
              clear hKK
              obtain ⟨b, o, rfl, hat⟩ := HEV.out i x hx
              obtain ⟨k0, k1, k2, k3, k4, k5, k6, k7, k8⟩ := HN0.out.keep HP.out.bel HN0.out.lt
              obtain ⟨d0, d1⟩ := ent2 (hat.keep HP.out.bel hat.lt)
              have hbw : b < W0.heap.size := hat.lt
              have hgw := HN0.out.lt
              have r0 := fun p : Since W0.heap.size wr => cell_since d0 hbw p
              have r1 := fun p : Since W0.heap.size wr => cell_since d1 hbw p
              have r2 := fun p : Since W0.heap.size wr => cell_since k2 hgw p
              clear hat hx d0 d1 k0 k1 k3 k4 k5 k6 k7 k8
              have hWS : entW x = [tEntity, x.code, x.cur] := rfl
              go_wp2_with fail
              refine wp_region_since W0.heap.size (.one [0, 1, 2, 3, 4, 5, 6, 7, 8, 9, 10, 11, 12] 13 (.one [14] 15 (.one [] 16 (.last [17])))) (by kernel_rfl) (by kernel_rfl) (fun d _ _ _ _ h => by cases d <;> exact h) ?_
              obtain ⟨wq, hwq⟩ : ∃ wq, wr.drew = wq := ⟨_, rfl⟩
              rw [hwq]
              have hd0 : Below wr.heap.size wr wq := by rw [← hwq]; exact ⟨rfl, rfl, rfl, Nat.le_refl _, fun _ _ => rfl⟩
              clear hwq k2
              simp only [wpPlan, pick, nth]
              repeat (go_big_quiet_step (fail))
              refine wpQuiet_nil ?_
              intro K hK
              refine alone_want (by kernel_rfl) ?_
              have hou0 := own_new wq [tEntity, x.code, x.cur] 9 (by unfold maxLen; simp)
              obtain ⟨w4, hw4⟩ : ∃ w4, wq.alloc (.cells #[.string ⟨#[101, 110, 116, 105, 116, 121]⟩, .string x.code, .string x.cur] 9) = w4 := ⟨_, rfl⟩
              have hb4 : Below wq.heap.size wq w4 := by rw [← hw4]; exact (Below.refl _ _).alloc (Nat.le_refl _) _
              have hou : w4.ownsRow wq.heap.size 9 1 (.slice (some ⟨wq.heap.size, 0, none⟩) 3 3) 3 ([tEntity, x.code, x.cur].map Value.string) := by rw [← hw4]; exact hou0
              clear hou0
              go_big_op
              have hs4 : Below W0.heap.size wr w4 := (hd0.mono HP.out.bel.size).trans (hb4.mono (Nat.le_trans HP.out.bel.size hd0.size))
              have hq0 : W0.heap.size ≤ wq.heap.size := Nat.le_trans HP.out.bel.size hd0.size
              have HU4 := Lib.hid (row_base hou hq0)
              have HP4 : Hid (PrAtR W0 w4 v3 KK) := Lib.hid ⟨(HP.out.rows.below hd0).below hb4, HP.out.bel.trans hs4, HP.out.len⟩
              have HS4 := Lib.hid hs4
              refine hK _ w4 (since_in HS4.out) ?_
              clear hK K hou hb4 hs4 hd0
              repeat (go_big_quiet_step (fail))
              refine wpQuiet_nil ?_
              intro K hK
              refine alone_want (by kernel_rfl) ?_
              go_big_op
              have hl5 := line_new w4 (.slice (some ⟨wq.heap.size, 0, none⟩) 3 3) 60
              have BX5 := Lib.hid ((Below.refl w4.heap.size w4).alloc (Nat.le_refl _) (.cells #[.int .i64 0, .slice (some ⟨wq.heap.size, 0, none⟩) 3 3] 60))
              refine hK _ _ (since_in (HS4.out.trans (BX5.out.mono HP4.out.bel.size))) ?_
              clear hK K
              refine wpQuiet_nil ?_
              intro K hK
              refine alone_want (by kernel_rfl) ?_
              refine wp_append_lines _ _ 55 rfl W0.heap.size 60 i0 Tryz.underlying55 HI.out.1 HI.out.2.1 HI.out.2.2.1 HI.out.2.2.2 (by decide) v3 KK [entW x] [((0 : Int), .slice (some ⟨wq.heap.size, 0, none⟩) 3 3)] w4.heap.size 1 rfl (HP4.out.rows.below BX5.out) rfl rfl (fun j u hj => ?_) (fun y hy => ?_) (line_words (by rw [hWS]; exact row_below HU4.out BX5.out)) (Nat.le_trans HP4.out.bel.size BX5.out.size) (by have := HP4.out.len; omega) ?_
              · match j, hj with
                | 0, hj => cases hj; exact hl5.1
                | 1, hj => cases hj; exact hl5.2
                | j + 2, hj => simp [flatL] at hj
              · simp [flatL] at hy; rcases hy with rfl | rfl <;> rfl
              intro v6 w6 hr6 hb6 hg6
              have HP6 : Hid (PrAtR W0 w6 v6 (KK ++ [entW x])) := Lib.hid ⟨hr6, (HP4.out.bel.trans (BX5.out.mono HP4.out.bel.size)).trans hb6, by have := HKL.out; simp; omega⟩
              have HS6 := Lib.hid ((HS4.out.trans (BX5.out.mono HP4.out.bel.size)).trans hb6)
              refine hK _ _ (since_in HS6.out) ?_
              clear hK K hl5 hw4 r0 r1 r2
              simp only [Act.put, List.setIfInBounds_toArray, List.set_cons_zero, List.set_cons_succ]
              repeat (go_big_quiet_step (fail))
              refine wpQuiet_nil ?_
              clear hr6 hb6 hg6
              go_wp2
              go_roundw
              case rel => exact ⟨i + 1, _, by omega, by go_num, rfl, by rw [← HTK.out]; exact HP6⟩
              case measure => simp [intOf]; omega
            · have HKN : Hid (KK = (((([] : List (List ByteArray)) ++ M.chart.map wordsA) ++ M.flows.map Fl.wordsF) ++ M.ents.map entW)) := Lib.hid (by rw [← hKK, List.take_of_length_le (by rw [HN_2.out]; omega)])
              clear hKK
              obtain ⟨k0, k1, k2, k3, k4, k5, k6, k7, k8⟩ := HN0.out.keep HP.out.bel HN0.out.lt
              have HK3 : Hid (PrAtR W0 wr v3 ((((([] : List (List ByteArray)) ++ M.chart.map wordsA) ++ M.flows.map Fl.wordsF) ++ M.ents.map entW) ++ (M.lines.take 0).map linW)) := Lib.hid (by have := HP.out; rw [HKN.out] at this; simpa using this)
              go_wp2
              clear k0 k1 k2 k3 k4 k5 k6 k7 k8
              go_loopw [3, 7] (fun s3 si wr => ∃ (i : Nat) (v3 : Value), i ≤ N3 ∧ si = .int .i64 (i : Int) ∧ v3 = s3 ∧ Hid (PrAtR W0 wr v3 ((((([] : List (List ByteArray)) ++ M.chart.map wordsA) ++ M.flows.map Fl.wordsF) ++ M.ents.map entW) ++ (M.lines.take i).map linW))) (fun _ si _ => N3 - (intOf si).toNat)
              case atStart => exact ⟨0, _, Nat.zero_le _, rfl, rfl, HK3⟩
              case round =>
                obtain ⟨i, v3, hi, rfl, rfl, HP⟩ := hrel
                obtain ⟨KK, hKK⟩ : ∃ KK, ((((([] : List (List ByteArray)) ++ M.chart.map wordsA) ++ M.flows.map Fl.wordsF) ++ M.ents.map entW) ++ (M.lines.take i).map linW) = KK := ⟨_, rfl⟩
                rw [hKK] at HP
                by_cases hlt : i < N3
                · obtain ⟨x, hx⟩ : ∃ x, M.lines[i]? = some x := ⟨_, List.getElem?_eq_getElem (by rw [HN_3.out]; exact hlt)⟩
                  have HTK : Hid (KK ++ [linW x] = ((((([] : List (List ByteArray)) ++ M.chart.map wordsA) ++ M.flows.map Fl.wordsF) ++ M.ents.map entW) ++ (M.lines.take (i + 1)).map linW)) := Lib.hid (by rw [map_take_succ hx, ← hKK]; simp)
                  have HKL : Hid (KK.length ≤ 9000) := Lib.hid (by rw [← hKK]; have := HN_0.out; have := HN_1.out; have := HN_2.out; have := HN_3.out; simp; omega)
                  clear hKK
                  obtain ⟨b, o, rfl, hat⟩ := HNV.out i x hx
                  obtain ⟨k0, k1, k2, k3, k4, k5, k6, k7, k8⟩ := HN0.out.keep HP.out.bel HN0.out.lt
                  obtain ⟨d0, d1, d2⟩ := lin3 (hat.keep HP.out.bel hat.lt)
                  have hWS : linW x = [tMap, x.acc, x.flow, x.to] := rfl
                  have hq := (BoxE.new encL wr x 81).at0
                  obtain ⟨w2, hw2⟩ : ∃ w2, wr.alloc (.cells #[.string x.acc, .string x.flow, .string x.to] 81) = w2 := ⟨_, rfl⟩
                  have hb2 : Below wr.heap.size wr w2 := by rw [← hw2]; exact (Below.refl _ _).alloc (Nat.le_refl _) _
                  have hq2 : ElAt encL w2 wr.heap.size 0 x := by rw [← hw2]; exact hq
                  obtain ⟨q0, q1, q2⟩ := lin3 hq2
                  have hou := own_new w2 [tMap, x.acc, x.flow, x.to] 9 (by unfold maxLen; simp)
                  obtain ⟨w4, hw4⟩ : ∃ w4, w2.alloc (.cells #[.string ⟨#[109, 97, 112]⟩, .string x.acc, .string x.flow, .string x.to] 9) = w4 := ⟨_, rfl⟩
                  have hb4 : Below w2.heap.size w2 w4 := by rw [← hw4]; exact (Below.refl _ _).alloc (Nat.le_refl _) _
                  have hou4 : w4.ownsRow w2.heap.size 9 1 (.slice (some ⟨w2.heap.size, 0, none⟩) 4 4) 4 ([tMap, x.acc, x.flow, x.to].map Value.string) := by rw [← hw4]; exact hou
                  have HU4 := Lib.hid (row_base hou4 (Nat.le_trans HP.out.bel.size hb2.size))
                  have HP4 : Hid (PrAtR W0 w4 v3 KK) := Lib.hid ⟨(HP.out.rows.below hb2).below hb4, (HP.out.bel.trans (hb2.mono HP.out.bel.size)).trans (hb4.mono (Nat.le_trans HP.out.bel.size hb2.size)), HP.out.len⟩
                  have BX5 := Lib.hid ((Below.refl w4.heap.size w4).alloc (Nat.le_refl _) (.cells #[.int .i64 0, .slice (some ⟨w2.heap.size, 0, none⟩) 4 4] 60))
                  clear hat hx hq hq2 hou hou4 hb2 hb4
                  go_wp2_with (at_builtin; refine wpList_append_line rfl _ _ 55 rfl W0.heap.size 60 i0 Tryz.underlying55 HI.out.1 HI.out.2.1 HI.out.2.2.1 HI.out.2.2.2 (by decide) KK (linW x) (.slice (some ⟨w2.heap.size, 0, none⟩) 4 4) w4.heap.size (HP4.out.rows.below BX5.out) rfl (line_new w4 _ _).1 (line_new w4 _ _).2 (by rw [hWS]; exact row_below HU4.out BX5.out) (Nat.le_trans HP4.out.bel.size BX5.out.size) (by have := HP4.out.len; omega) ?_; intro v6 w6 hr6 hb6 hg6)
                  have HP6 : Hid (PrAtR W0 w6 v6 (KK ++ [linW x])) := Lib.hid ⟨hr6, (HP4.out.bel.trans (BX5.out.mono HP4.out.bel.size)).trans hb6, by have := HKL.out; simp; omega⟩
                  clear q0 q1 q2 hw2 hw4 d0 d1 d2 k0 k1 k2 k3 k4 k5 k6 k7 k8
                  clear hr6 hb6 hg6
                  go_wp2
                  go_roundw
                  case rel => exact ⟨i + 1, _, by omega, by go_num, rfl, by rw [← HTK.out]; exact HP6⟩
                  case measure => simp [intOf]; omega
                · have HKN : Hid (KK = ((((([] : List (List ByteArray)) ++ M.chart.map wordsA) ++ M.flows.map Fl.wordsF) ++ M.ents.map entW) ++ M.lines.map linW)) := Lib.hid (by rw [← hKK, List.take_of_length_le (by rw [HN_3.out]; omega)])
                  clear hKK
                  obtain ⟨k0, k1, k2, k3, k4, k5, k6, k7, k8⟩ := HN0.out.keep HP.out.bel HN0.out.lt
                  have HKL : Hid (KK.length ≤ 9000) := Lib.hid (by rw [HKN.out]; have := HN_0.out; have := HN_1.out; have := HN_2.out; have := HN_3.out; simp; omega)
                  have ho1 := own_new wr [tGroup, M.cur] 9 (by unfold maxLen; simp)
                  obtain ⟨u1, hu1⟩ : ∃ u, wr.alloc (.cells #[.string ⟨#[103, 114, 111, 117, 112]⟩, .string M.cur] 9) = u := ⟨_, rfl⟩
                  have hb1 : Below wr.heap.size wr u1 := by rw [← hu1]; exact (Below.refl _ _).alloc (Nat.le_refl _) _
                  have ow1 : u1.ownsRow wr.heap.size 9 1 (.slice (some ⟨wr.heap.size, 0, none⟩) 2 2) 2 ([tGroup, M.cur].map Value.string) := by rw [← hu1]; exact ho1
                  have ho2 := own_new u1 [tReserve, M.res] 9 (by unfold maxLen; simp)
                  obtain ⟨u2, hu2⟩ : ∃ u, u1.alloc (.cells #[.string ⟨#[114, 101, 115, 101, 114, 118, 101]⟩, .string M.res] 9) = u := ⟨_, rfl⟩
                  have hb2 : Below u1.heap.size u1 u2 := by rw [← hu2]; exact (Below.refl _ _).alloc (Nat.le_refl _) _
                  have ow2 : u2.ownsRow u1.heap.size 9 1 (.slice (some ⟨u1.heap.size, 0, none⟩) 2 2) 2 ([tReserve, M.res].map Value.string) := by rw [← hu2]; exact ho2
                  have ho3 := own_new u2 [tDiffer, M.dif] 9 (by unfold maxLen; simp)
                  obtain ⟨u3, hu3⟩ : ∃ u, u2.alloc (.cells #[.string ⟨#[100, 105, 102, 102, 101, 114]⟩, .string M.dif] 9) = u := ⟨_, rfl⟩
                  have hb3 : Below u2.heap.size u2 u3 := by rw [← hu3]; exact (Below.refl _ _).alloc (Nat.le_refl _) _
                  have ow3 : u3.ownsRow u2.heap.size 9 1 (.slice (some ⟨u2.heap.size, 0, none⟩) 2 2) 2 ([tDiffer, M.dif].map Value.string) := by rw [← hu3]; exact ho3
                  have ho4 := own_new u3 [tMinor, M.min] 9 (by unfold maxLen; simp)
                  obtain ⟨u4, hu4⟩ : ∃ u, u3.alloc (.cells #[.string ⟨#[109, 105, 110, 111, 114]⟩, .string M.min] 9) = u := ⟨_, rfl⟩
                  have hb4 : Below u3.heap.size u3 u4 := by rw [← hu4]; exact (Below.refl _ _).alloc (Nat.le_refl _) _
                  have ow4 : u4.ownsRow u3.heap.size 9 1 (.slice (some ⟨u3.heap.size, 0, none⟩) 2 2) 2 ([tMinor, M.min].map Value.string) := by rw [← hu4]; exact ho4
                  have ho5 := own_new u4 [tStake, M.stk] 9 (by unfold maxLen; simp)
                  obtain ⟨u5, hu5⟩ : ∃ u, u4.alloc (.cells #[.string ⟨#[115, 116, 97, 107, 101]⟩, .string M.stk] 9) = u := ⟨_, rfl⟩
                  have hb5 : Below u4.heap.size u4 u5 := by rw [← hu5]; exact (Below.refl _ _).alloc (Nat.le_refl _) _
                  have ow5 : u5.ownsRow u4.heap.size 9 1 (.slice (some ⟨u4.heap.size, 0, none⟩) 2 2) 2 ([tStake, M.stk].map Value.string) := by rw [← hu5]; exact ho5
                  have s1 := hb1.size
                  have s2 := hb2.size
                  have s3 := hb3.size
                  have s4 := hb4.size
                  have s5 := hb5.size
                  have s0 := HP.out.bel.size
                  have bx5 := (Below.refl u5.heap.size u5).alloc (Nat.le_refl _) (.cells (flatL [((0 : Int), .slice (some ⟨wr.heap.size, 0, none⟩) 2 2), (0, .slice (some ⟨u1.heap.size, 0, none⟩) 2 2), (0, .slice (some ⟨u2.heap.size, 0, none⟩) 2 2), (0, .slice (some ⟨u3.heap.size, 0, none⟩) 2 2), (0, .slice (some ⟨u4.heap.size, 0, none⟩) 2 2)]).toArray 60)
                  have g5 := row_below (row_base ow5 (B' := W0.heap.size) (by omega)) bx5
                  have g4 := row_below (row_below (row_base ow4 (B' := W0.heap.size) (by omega)) hb5) bx5
                  have g3 := row_below (row_below (row_below (row_base ow3 (B' := W0.heap.size) (by omega)) hb4) hb5) bx5
                  have g2 := row_below (row_below (row_below (row_below (row_base ow2 (B' := W0.heap.size) (by omega)) hb3) hb4) hb5) bx5
                  have g1 := row_below (row_below (row_below (row_below (row_below (row_base ow1 (B' := W0.heap.size) (by omega)) hb2) hb3) hb4) hb5) bx5
                  have HWO := Lib.hid (words_cons (ws := [tGroup, M.cur]) g1 (words_cons (ws := [tReserve, M.res]) g2 (words_cons (ws := [tDiffer, M.dif]) g3 (words_cons (ws := [tMinor, M.min]) g4 (line_words (ws := [tStake, M.stk]) g5)))))
                  have HRW := Lib.hid ((((((HP.out.rows.below hb1).below hb2).below hb3).below hb4).below hb5).below bx5)
                  have HBW : Hid (Below W0.heap.size W0 (u5.alloc (.cells (flatL [((0 : Int), .slice (some ⟨wr.heap.size, 0, none⟩) 2 2), (0, .slice (some ⟨u1.heap.size, 0, none⟩) 2 2), (0, .slice (some ⟨u2.heap.size, 0, none⟩) 2 2), (0, .slice (some ⟨u3.heap.size, 0, none⟩) 2 2), (0, .slice (some ⟨u4.heap.size, 0, none⟩) 2 2)]).toArray 60))) := Lib.hid ((((((HP.out.bel.trans (hb1.mono (by omega))).trans (hb2.mono (by omega))).trans (hb3.mono (by omega))).trans (hb4.mono (by omega))).trans (hb5.mono (by omega))).trans (bx5.mono (by omega)))
                  have n0 := HN0.out.keep HP.out.bel HN0.out.lt
                  have m1 := n0.kept hb1
                  have m2 := m1.kept hb2
                  have m3 := m2.kept hb3
                  have m4 := m3.kept hb4
                  have z5 := m1.c5
                  have z6 := m2.c6
                  have z7 := m3.c7
                  have z8 := m4.c8
                  clear n0 m1 m2 m3 m4 g1 g2 g3 g4 g5 ow1 ow2 ow3 ow4 ow5 ho1 ho2 ho3 ho4 ho5 hb1 hb2 hb3 hb4 hb5 bx5 s0 s1 s2 s3 s4 s5 k0 k1 k2 k5 k6 k7 k8
                  go_wp2_with (at_builtin; refine wpList_append_lines rfl _ _ 55 rfl W0.heap.size 60 i0 Tryz.underlying55 HI.out.1 HI.out.2.1 HI.out.2.2.1 HI.out.2.2.2 (by decide) v3 KK [[tGroup, M.cur], [tReserve, M.res], [tDiffer, M.dif], [tMinor, M.min], [tStake, M.stk]] [((0 : Int), .slice (some ⟨wr.heap.size, 0, none⟩) 2 2), (0, .slice (some ⟨u1.heap.size, 0, none⟩) 2 2), (0, .slice (some ⟨u2.heap.size, 0, none⟩) 2 2), (0, .slice (some ⟨u3.heap.size, 0, none⟩) 2 2), (0, .slice (some ⟨u4.heap.size, 0, none⟩) 2 2)] u5.heap.size 5 rfl HRW.out rfl rfl (fun j u hj => cells_new u5 _ 60 j u hj) (fun y hy => by simp [flatL] at hy; rcases hy with rfl | rfl | rfl | rfl | rfl | rfl | rfl | rfl | rfl | rfl <;> rfl) HWO.out HBW.out.size (by have := HP.out.len; omega) ?_; intro v6 w6 hr6 hb6 hg6)
                  have HR6 := Lib.hid hr6
                  have HB6 := Lib.hid (HBW.out.trans hb6)
                  clear hr6 hb6 hg6 z5 z6 z7 z8 k3 k4 hu1 hu2 hu3 hu4 hu5
                  have hout : KK ++ [[tGroup, M.cur], [tReserve, M.res], [tDiffer, M.dif], [tMinor, M.min], [tStake, M.stk]] = outM M := by rw [HKN.out]; simp [outM, rolesOf, roleW]
                  have HLI : Hid (LinesV w6 v6 (zn (outM M))) := Lib.hid (by have := HR6.out.lines; rw [hout] at this; exact this)
                  have HLN : Hid ((zn (outM M)).length ≤ 10000) := Lib.hid (by rw [← hout]; have := HKL.out; simp [zn]; omega)
                  have HJ := Lib.hid (rjoin_at v6 (zn (outM M)) w6 HLI.out HLN.out (fun y hy => by
                    obtain ⟨ws, hw, rfl⟩ := List.mem_map.1 hy
                    exact HFEW.out ws hw))
                  have hjt : joinL (zn (outM M)) = textW (outM M) := by rw [joinL_text]; simp [zn, List.map_map, Function.comp_def]
                  rw [hjt, HRES.out] at HJ
                  clear hjt hout
                  go_wp2_with fail
                  refine HJ.out.mono ?_
                  rintro en w9 ⟨rfl, rfl⟩
                  have HB9 := Lib.hid (HB0.out.trans (HB6.out.mono HB0.out.size))
                  go_wp2
                  go_ret
                  exact ⟨rfl, HB9.out⟩
end Go.Proofs.YticdmlijacnjbaaGreatDoor.Un
