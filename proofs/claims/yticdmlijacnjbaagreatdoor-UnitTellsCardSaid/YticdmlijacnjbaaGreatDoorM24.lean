/- UnitPrint; UnitRun; UnitOk; UnitBackP: texts put together (each begins with what it is). -/
import Derived.Test.YticdmlijacnjbaaGreatDoorM22
import Derived.Test.YticdmlijacnjbaaGreatDoorM23
import Derived.Test.YticdmlijacnjbaaGreatDoorM17
import Derived.Test.YticdmlijacnjbaaGreatDoorM06
/- The walk of unit.Print: the text of master data. What was there stays. -/
namespace Go.Proofs.YticdmlijacnjbaaGreatDoor.Un
open Go.RowKit

theorem own_new (w : World) (ws : List ByteArray) (t : TypeId) (hl : ws.length ≤ maxLen) : (w.alloc (.cells (ws.map Value.string).toArray t)).ownsRow w.heap.size t 1 (.slice (some ⟨w.heap.size, 0, none⟩) ws.length ws.length) ws.length (ws.map Value.string) :=
  ⟨by simp, .inr ⟨w.heap.size, ws.length, _, rfl, Nat.le_refl _, heap_alloc_new w _, Nat.le_refl _, hl, by simp, by simp [List.take_of_length_le]⟩⟩
theorem line_new (w : World) (u : Value) (t : TypeId) : (w.alloc (.cells #[.int .i64 0, u] t)).cell? ⟨w.heap.size, 0, none⟩ = some (.int .i64 0) ∧ (w.alloc (.cells #[.int .i64 0, u] t)).cell? ⟨w.heap.size, 1, none⟩ = some u :=
  ⟨(cell_of_row _ w.heap.size 0 _ t (0, 0) (heap_alloc_new w _)).trans rfl, (cell_of_row _ w.heap.size 1 _ t (0, 0) (heap_alloc_new w _)).trans rfl⟩
theorem row_slice' {W : World} {B : Nat} {e : TypeId} {s : Nat} {v : Value} {n : Nat} {xs : List Value} (h : W.ownsRow B e s v n xs) : ∃ a c, v = .slice a n c := by
  rcases h.2 with ⟨rfl, rfl⟩ | ⟨g, cap, cur, rfl, _⟩
  · exact ⟨none, 0, rfl⟩
  · exact ⟨_, _, rfl⟩
/-- A role among those that lie in a block. -/
theorem roles_at {w : World} {rb i : Nat} {L : List Role} {x : Role} {t : TypeId} (h : w.heap[rb]? = some (.cells (flat encR L).toArray t (0, 0))) (hx : L[i]? = some x) : ElAt encR w rb (0 + i * encR.k) x := fun j v hj => by
  rw [cell_of_row _ rb _ _ t (0, 0) h, Nat.zero_add]
  simpa using flat_at L i x hx j v hj
set_option maxHeartbeats 1000000 in
theorem roles_box (c f e l : Value) (M : Mast) (w : World) :
    Calls Tryz.prog 36 #[aggM c f e l M] w fun en w' => ∃ b, en = .returned (.slice (some ⟨b, 0, none⟩) 4 4) ∧ w'.heap[b]? = some (.cells (flat encR (rolesOf M)).toArray 96 (0, 0)) ∧ Below w.heap.size w w' := by
  have HB := Lib.hid ((Below.refl w.heap.size w).alloc (Nat.le_refl _) (.cells (cellsM c f e l M) 30))
  have HN := Lib.hid (nine_new w c f e l M 30)
  have hE := heap_alloc_new (w.alloc (.cells (cellsM c f e l M) 30)) (.cells (flat encR (rolesOf M)).toArray 96)
  rw [World.size_alloc] at hE
  have HE := Lib.hid hE
  clear hE
  obtain ⟨c0, c1, c2, c3, c4, c5, c6, c7, c8⟩ := HN.out
  go_enter Tryz.func36, Tryz.ntmps36
  go_wp2
  go_ret
  exact ⟨_, rfl, HE.out, HB.out.alloc HB.out.size _⟩
/-- Between two lines of Print. -/
structure PrAt (W0 wr : World) (v : Value) (K : List (List ByteArray)) : Prop where
  rows : RowsAt wr W0.heap.size 75 v K
  bel : Below W0.heap.size W0 wr
  len : K.length ≤ 50000
theorem info_pline : (Tryz.prog.info? 75).map (fun i => (i.zero, i.size, i.bytes)) = some (some (.agg #[.int .i64 0, .slice none 0 0]), 2, 32) := by kernel_rfl
theorem map_take_succ {α β : Type} {f : α → β} {L : List α} {i : Nat} {x : α} (h : L[i]? = some x) : (L.take (i + 1)).map f = (L.take i).map f ++ [f x] := by
  have hi := (List.getElem?_eq_some_iff.1 h).1
  rw [List.take_succ_eq_append_getElem hi, (List.getElem?_eq_some_iff.1 h).2]; simp
set_option maxRecDepth 100000 in
set_option maxHeartbeats 16000000 in
theorem print_any (c f e l : Value) (M : Mast) (w : World) (h : MastIn w c f e l M) (hL : Laid w) (hLF : Fl.Laid w) (hc : M.chart.length ≤ 1000) (hfl : M.flows.length ≤ 1000) (he : M.ents.length ≤ 1000) (hln : M.lines.length ≤ 1000) (hsz : szL (outM M) ≤ 100000000) :
    Calls Tryz.prog 15 #[aggM c f e l M] w fun en w' => en = .returned (.string (mkB (textW (outM M)))) ∧ Below w.heap.size w w' := by
  have hB0 := (Below.refl w.heap.size w).alloc (Nat.le_refl _) (.cells (cellsM c f e l M) 30)
  have HB0 := Lib.hid hB0
  have hN0 := nine_new w c f e l M 30
  have hM0 := h.keep hB0
  have hL0 := hL.below hB0 (Nat.le_refl _)
  have hLF0 := hLF.below hB0 (Nat.le_refl _)
  obtain ⟨W0, hW0⟩ : ∃ W0, w.alloc (.cells (cellsM c f e l M) 30) = W0 := ⟨_, rfl⟩
  rw [hW0] at HB0 hN0 hM0 hL0 hLF0
  have HN0 := Lib.hid hN0
  have HM0 := Lib.hid hM0
  have HL0 := Lib.hid hL0
  have HLF0 := Lib.hid hLF0
  have HRO := Lib.hid (roles_box c f e l M)
  have HN_5 : Hid ((rolesOf M).length = 4) := Lib.hid rfl
  have HSZ := Lib.hid hsz
  obtain ⟨i0, hi, hz0, hz1, hz2⟩ := info_parts info_pline
  have HI := Lib.hid (And.intro hi (And.intro hz0 (And.intro hz1 hz2)))
  obtain ⟨RES, hRES⟩ : ∃ RES, mkB (textW (outM M)) = RES := ⟨_, rfl⟩
  rw [hRES]
  have HRES := Lib.hid hRES
  clear h hL hLF hsz hB0 hN0 hM0 hL0 hLF0 hi hz0 hz1 hz2 hRES
  obtain ⟨pc, cc, ec, hcc, hcm, _, hcv⟩ := HM0.out.chart
  obtain ⟨pf, cf, ef, hfc, hfm, _, hfv⟩ := HM0.out.flows
  obtain ⟨pe, ce, ee, hec, hem, _, hev⟩ := HM0.out.ents
  obtain ⟨pn, cn, en, hnc, hnm, _, hnv⟩ := HM0.out.lines
  obtain ⟨N0, hN0⟩ : ∃ N, M.chart.length = N := ⟨_, rfl⟩
  obtain ⟨N1, hN1⟩ : ∃ N, M.flows.length = N := ⟨_, rfl⟩
  obtain ⟨N2, hN2⟩ : ∃ N, M.ents.length = N := ⟨_, rfl⟩
  obtain ⟨N3, hN3⟩ : ∃ N, M.lines.length = N := ⟨_, rfl⟩
  rw [hN0] at ec hcc hc
  rw [hN1] at ef hfc hfl
  rw [hN2] at ee hec he
  rw [hN3] at en hnc hln
  have HCV := Lib.hid hcv
  have HFV := Lib.hid hfv
  have HEV := Lib.hid hev
  have HNV := Lib.hid hnv
  have HN_0 := Lib.hid hN0
  have HN_1 := Lib.hid hN1
  have HN_2 := Lib.hid hN2
  have HN_3 := Lib.hid hN3
  unfold maxLen at hcm hfm hem hnm
  subst ec ef ee en
  clear hcv hfv hev hnv hN0 hN1 hN2 hN3
  have HK0 : Hid (PrAt W0 W0 (.slice none 0 0) (([] : List (List ByteArray)) ++ (M.chart.take 0).map wordsA)) := Lib.hid ⟨RowsAt.nil _ _ _, Below.refl _ _, by simp⟩
  obtain ⟨c0, c1, c2, c3, c4, c5, c6, c7, c8⟩ := HN0.out
  go_enter Tryz.func15, Tryz.ntmps15
  go_wp2
  clear hW0 c0 c1 c2 c3 c4 c5 c6 c7 c8
  go_loopw [3, 17] (fun s3 si wr => ∃ (i : Nat) (v3 : Value), i ≤ N0 ∧ si = .int .i64 (i : Int) ∧ v3 = s3 ∧ Hid (PrAt W0 wr v3 (([] : List (List ByteArray)) ++ (M.chart.take i).map wordsA))) (fun _ si _ => N0 - (intOf si).toNat)
  case atStart => exact ⟨0, _, Nat.zero_le _, rfl, rfl, HK0⟩
  case round =>
    obtain ⟨i, v3, hi, rfl, rfl, HP⟩ := hrel
    obtain ⟨KK, hKK⟩ : ∃ KK, ([] : List (List ByteArray)) ++ (M.chart.take i).map wordsA = KK := ⟨_, rfl⟩
    rw [hKK] at HP
    by_cases hlt : i < N0
    · obtain ⟨x, hx⟩ : ∃ x, M.chart[i]? = some x := ⟨_, List.getElem?_eq_getElem (by rw [HN_0.out]; exact hlt)⟩
      have HTK : Hid (KK ++ [wordsA x] = ([] : List (List ByteArray)) ++ (M.chart.take (i + 1)).map wordsA) := Lib.hid (by rw [map_take_succ hx, ← hKK]; simp)
      have HKL : Hid (KK.length ≤ 9000) := Lib.hid (by rw [← hKK]; have := HN_0.out; have := HN_0.out; have := HN_1.out; have := HN_2.out; have := HN_3.out; simp; omega)
      clear hKK
      obtain ⟨b, o, rfl, hat⟩ := HCV.out i x hx
      obtain ⟨d0, d1, d2, d3, d4, d5⟩ := hat.keep HP.out.bel hat.lt
      have hbx := (Below.refl wr.heap.size wr).alloc (Nat.le_refl _) (.cells #[.string x.code, .int .i64 x.cls, .bool x.cash, .bool x.both, .string x.fixed, .bool x.worn] 89)
      have HL1 := Lib.hid (HL0.out.below (HP.out.bel.trans (hbx.mono HP.out.bel.size)) (Nat.le_refl _))
      have HBX0 := Lib.hid hbx
      obtain ⟨q0, q1, q2, q3, q4, q5⟩ := (BoxA.new wr x 89).facts
      clear hat hx hbx
      go_wp2_with fail
      clear d0 d1 d2 d3 d4 d5 q0 q1 q2 q3 q4 q5
      refine (Ow.words_any x _ HL1.out).mono ?_
      rintro en w4 ⟨v4, rfl, ho4, hb4⟩
      obtain ⟨WS, hWS⟩ : ∃ WS, wordsA x = WS := ⟨_, rfl⟩
      rw [hWS] at ho4 HTK
      have HBX := Lib.hid (HBX0.out.trans (hb4.mono HBX0.out.size))
      obtain ⟨pu, cu, rfl⟩ := row_slice' ho4
      have HU4 := Lib.hid (row_base ho4 (Nat.le_trans HP.out.bel.size HBX0.out.size))
      clear ho4 hb4 hWS
      have HP4 : Hid (PrAt W0 w4 v3 KK) := Lib.hid ⟨HP.out.rows.below HBX.out, HP.out.bel.trans (HBX.out.mono HP.out.bel.size), HP.out.len⟩
      go_wp2_with fail
      refine (lineOf_any _ _ _ _).mono ?_
      rintro en w5 ⟨rfl, hb5⟩
      have HP5 : Hid (PrAt W0 w5 v3 KK) := Lib.hid ⟨HP4.out.rows.below hb5, HP4.out.bel.trans (hb5.mono HP4.out.bel.size), HP4.out.len⟩
      have HU5 := Lib.hid (row_below HU4.out hb5)
      have BX5 := Lib.hid ((Below.refl w5.heap.size w5).alloc (Nat.le_refl _) (.cells #[.int .i64 0, .slice pu WS.length cu] 75))
      clear hb5
      go_wp2_with (at_builtin; refine wpList_append_line rfl _ _ 69 rfl W0.heap.size 75 i0 Tryz.underlying69 HI.out.1 HI.out.2.1 HI.out.2.2.1 HI.out.2.2.2 (by decide) KK WS (.slice pu WS.length cu) w5.heap.size (HP5.out.rows.below BX5.out) rfl (line_new w5 _ _).1 (line_new w5 _ _).2 (row_below HU5.out BX5.out) (Nat.le_trans HP5.out.bel.size BX5.out.size) (by have := HP5.out.len; omega) ?_; intro v6 w6 hr6 hb6 hg6)
      have HP6 : Hid (PrAt W0 w6 v6 (KK ++ [WS])) := Lib.hid ⟨hr6, (HP5.out.bel.trans (BX5.out.mono HP5.out.bel.size)).trans hb6, by have := HKL.out; simp; omega⟩
      clear hr6 hb6 hg6
      go_wp2
      go_roundw
      case rel => exact ⟨i + 1, _, by omega, by go_num, rfl, by rw [← HTK.out]; exact HP6⟩
      case measure => simp [intOf]; omega
    · have HKN : Hid (KK = ([] : List (List ByteArray)) ++ M.chart.map wordsA) := Lib.hid (by rw [← hKK, List.take_of_length_le (by rw [HN_0.out]; omega)])
      clear hKK
      have HK1 : Hid (PrAt W0 wr v3 ((([] : List (List ByteArray)) ++ M.chart.map wordsA) ++ (M.flows.take 0).map Fl.wordsF)) := Lib.hid (by have := HP.out; rw [HKN.out] at this; simpa using this)
      obtain ⟨c0, c1, c2, c3, c4, c5, c6, c7, c8⟩ := HN0.out.keep HP.out.bel HN0.out.lt
      go_wp2
      clear c0 c1 c2 c3 c4 c5 c6 c7 c8
      go_loopw [3, 31] (fun s3 si wr => ∃ (i : Nat) (v3 : Value), i ≤ N1 ∧ si = .int .i64 (i : Int) ∧ v3 = s3 ∧ Hid (PrAt W0 wr v3 ((([] : List (List ByteArray)) ++ M.chart.map wordsA) ++ (M.flows.take i).map Fl.wordsF))) (fun _ si _ => N1 - (intOf si).toNat)
      case atStart => exact ⟨0, _, Nat.zero_le _, rfl, rfl, HK1⟩
      case round =>
        obtain ⟨i, v3, hi, rfl, rfl, HP⟩ := hrel
        obtain ⟨KK, hKK⟩ : ∃ KK, (([] : List (List ByteArray)) ++ M.chart.map wordsA) ++ (M.flows.take i).map Fl.wordsF = KK := ⟨_, rfl⟩
        rw [hKK] at HP
        by_cases hlt : i < N1
        · obtain ⟨x, hx⟩ : ∃ x, M.flows[i]? = some x := ⟨_, List.getElem?_eq_getElem (by rw [HN_1.out]; exact hlt)⟩
          have HTK : Hid (KK ++ [Fl.wordsF x] = (([] : List (List ByteArray)) ++ M.chart.map wordsA) ++ (M.flows.take (i + 1)).map Fl.wordsF) := Lib.hid (by rw [map_take_succ hx, ← hKK]; simp)
          have HKL : Hid (KK.length ≤ 9000) := Lib.hid (by rw [← hKK]; have := HN_1.out; have := HN_0.out; have := HN_1.out; have := HN_2.out; have := HN_3.out; simp; omega)
          clear hKK
          obtain ⟨b, o, rfl, hat⟩ := HFV.out i x hx
          obtain ⟨d0, d1⟩ := Fl.two (hat.keep HP.out.bel hat.lt)
          have hbx := (Below.refl wr.heap.size wr).alloc (Nat.le_refl _) (.cells #[.string x.code, .int .i64 x.kind] 86)
          have HL1 := Lib.hid (HLF0.out.below (HP.out.bel.trans (hbx.mono HP.out.bel.size)) (Nat.le_refl _))
          have HBX0 := Lib.hid hbx
          obtain ⟨q0, q1⟩ := Fl.box (BoxE.new Fl.encF wr x 86)
          clear hat hx hbx
          go_wp2_with fail
          clear d0 d1 q0 q1
          refine (Fl.words_own x _ HL1.out).mono ?_
          rintro en w4 ⟨v4, rfl, ho4, hb4⟩
          obtain ⟨WS, hWS⟩ : ∃ WS, Fl.wordsF x = WS := ⟨_, rfl⟩
          rw [hWS] at ho4 HTK
          have HBX := Lib.hid (HBX0.out.trans (hb4.mono HBX0.out.size))
          obtain ⟨pu, cu, rfl⟩ := row_slice' ho4
          have HU4 := Lib.hid (row_base ho4 (Nat.le_trans HP.out.bel.size HBX0.out.size))
          clear ho4 hb4 hWS
          have HP4 : Hid (PrAt W0 w4 v3 KK) := Lib.hid ⟨HP.out.rows.below HBX.out, HP.out.bel.trans (HBX.out.mono HP.out.bel.size), HP.out.len⟩
          go_wp2_with fail
          refine (lineOf_any _ _ _ _).mono ?_
          rintro en w5 ⟨rfl, hb5⟩
          have HP5 : Hid (PrAt W0 w5 v3 KK) := Lib.hid ⟨HP4.out.rows.below hb5, HP4.out.bel.trans (hb5.mono HP4.out.bel.size), HP4.out.len⟩
          have HU5 := Lib.hid (row_below HU4.out hb5)
          have BX5 := Lib.hid ((Below.refl w5.heap.size w5).alloc (Nat.le_refl _) (.cells #[.int .i64 0, .slice pu WS.length cu] 75))
          clear hb5
          go_wp2_with (at_builtin; refine wpList_append_line rfl _ _ 69 rfl W0.heap.size 75 i0 Tryz.underlying69 HI.out.1 HI.out.2.1 HI.out.2.2.1 HI.out.2.2.2 (by decide) KK WS (.slice pu WS.length cu) w5.heap.size (HP5.out.rows.below BX5.out) rfl (line_new w5 _ _).1 (line_new w5 _ _).2 (row_below HU5.out BX5.out) (Nat.le_trans HP5.out.bel.size BX5.out.size) (by have := HP5.out.len; omega) ?_; intro v6 w6 hr6 hb6 hg6)
          have HP6 : Hid (PrAt W0 w6 v6 (KK ++ [WS])) := Lib.hid ⟨hr6, (HP5.out.bel.trans (BX5.out.mono HP5.out.bel.size)).trans hb6, by have := HKL.out; simp; omega⟩
          clear hr6 hb6 hg6
          go_wp2
          go_roundw
          case rel => exact ⟨i + 1, _, by omega, by go_num, rfl, by rw [← HTK.out]; exact HP6⟩
          case measure => simp [intOf]; omega
        · have HKN : Hid (KK = (([] : List (List ByteArray)) ++ M.chart.map wordsA) ++ M.flows.map Fl.wordsF) := Lib.hid (by rw [← hKK, List.take_of_length_le (by rw [HN_1.out]; omega)])
          clear hKK
          have HK2 : Hid (PrAt W0 wr v3 (((([] : List (List ByteArray)) ++ M.chart.map wordsA) ++ M.flows.map Fl.wordsF) ++ (M.ents.take 0).map entW)) := Lib.hid (by have := HP.out; rw [HKN.out] at this; simpa using this)
          obtain ⟨c0, c1, c2, c3, c4, c5, c6, c7, c8⟩ := HN0.out.keep HP.out.bel HN0.out.lt
          go_wp2
          clear c0 c1 c2 c3 c4 c5 c6 c7 c8
          go_loopw [3, 45] (fun s3 si wr => ∃ (i : Nat) (v3 : Value), i ≤ N2 ∧ si = .int .i64 (i : Int) ∧ v3 = s3 ∧ Hid (PrAt W0 wr v3 (((([] : List (List ByteArray)) ++ M.chart.map wordsA) ++ M.flows.map Fl.wordsF) ++ (M.ents.take i).map entW))) (fun _ si _ => N2 - (intOf si).toNat)
          case atStart => exact ⟨0, _, Nat.zero_le _, rfl, rfl, HK2⟩
          case round =>
            obtain ⟨i, v3, hi, rfl, rfl, HP⟩ := hrel
            obtain ⟨KK, hKK⟩ : ∃ KK, ((([] : List (List ByteArray)) ++ M.chart.map wordsA) ++ M.flows.map Fl.wordsF) ++ (M.ents.take i).map entW = KK := ⟨_, rfl⟩
            rw [hKK] at HP
            by_cases hlt : i < N2
            · obtain ⟨x, hx⟩ : ∃ x, M.ents[i]? = some x := ⟨_, List.getElem?_eq_getElem (by rw [HN_2.out]; exact hlt)⟩
              have HTK : Hid (KK ++ [entW x] = ((([] : List (List ByteArray)) ++ M.chart.map wordsA) ++ M.flows.map Fl.wordsF) ++ (M.ents.take (i + 1)).map entW) := Lib.hid (by rw [map_take_succ hx, ← hKK]; simp)
              have HKL : Hid (KK.length ≤ 9000) := Lib.hid (by rw [← hKK]; have := HN_2.out; have := HN_0.out; have := HN_1.out; have := HN_2.out; have := HN_3.out; simp; omega)
              clear hKK
              obtain ⟨b, o, rfl, hat⟩ := HEV.out i x hx
              obtain ⟨d0, d1⟩ := ent2 (hat.keep HP.out.bel hat.lt)
              have HBX0 := Lib.hid ((Below.refl wr.heap.size wr).alloc (Nat.le_refl _) (.cells #[.string x.code, .string x.cur] 65))
              obtain ⟨q0, q1⟩ := ent2 (BoxE.new encE wr x 65).at0
              have HON := Lib.hid (own_new (wr.alloc (.cells #[.string x.code, .string x.cur] 65)) [tEntity, x.code, x.cur] 9 (by unfold maxLen; simp))
              have HBX1 := Lib.hid (HBX0.out.alloc HBX0.out.size (.cells ([tEntity, x.code, x.cur].map Value.string).toArray 9))
              have hWS : entW x = [tEntity, x.code, x.cur] := rfl
              clear hat hx
              go_wp2_with fail
              clear d0 d1 q0 q1
              refine (lineOf_any _ _ _ _).mono ?_
              rintro en w5 ⟨rfl, hb5⟩
              obtain ⟨WS, hWW⟩ : ∃ WS : List ByteArray, entW x = WS := ⟨_, rfl⟩
              have hLN : WS.length = 3 := by rw [← hWW, hWS]; rfl
              have HP5 : Hid (PrAt W0 w5 v3 KK) := Lib.hid ⟨(HP.out.rows.below HBX1.out).below hb5, (HP.out.bel.trans (HBX1.out.mono HP.out.bel.size)).trans (hb5.mono (Nat.le_trans HP.out.bel.size HBX1.out.size)), HP.out.len⟩
              have HU5 := Lib.hid (row_below (row_base HON.out (Nat.le_trans HP.out.bel.size HBX0.out.size)) hb5)
              rw [← hWS, hWW] at HU5
              rw [World.size_alloc, hLN] at HU5
              rw [hWW] at HTK
              have BX5 := Lib.hid ((Below.refl w5.heap.size w5).alloc (Nat.le_refl _) (.cells #[.int .i64 0, .slice (some ⟨wr.heap.size + 1, 0, none⟩) 3 3] 75))
              have HLN := Lib.hid hLN
              clear hb5 hWS hWW hLN
              go_wp2_with (at_builtin; refine wpList_append_line rfl _ _ 69 rfl W0.heap.size 75 i0 Tryz.underlying69 HI.out.1 HI.out.2.1 HI.out.2.2.1 HI.out.2.2.2 (by decide) KK WS (.slice (some ⟨wr.heap.size + 1, 0, none⟩) 3 3) w5.heap.size (HP5.out.rows.below BX5.out) rfl (line_new w5 _ _).1 (line_new w5 _ _).2 (by rw [HLN.out]; exact row_below HU5.out BX5.out) (Nat.le_trans HP5.out.bel.size BX5.out.size) (by have := HP5.out.len; omega) ?_; intro v6 w6 hr6 hb6 hg6)
              have HP6 : Hid (PrAt W0 w6 v6 (KK ++ [WS])) := Lib.hid ⟨hr6, (HP5.out.bel.trans (BX5.out.mono HP5.out.bel.size)).trans hb6, by have := HKL.out; simp; omega⟩
              clear hr6 hb6 hg6
              go_wp2
              go_roundw
              case rel => exact ⟨i + 1, _, by omega, by go_num, rfl, by rw [← HTK.out]; exact HP6⟩
              case measure => simp [intOf]; omega
            · have HKN : Hid (KK = ((([] : List (List ByteArray)) ++ M.chart.map wordsA) ++ M.flows.map Fl.wordsF) ++ M.ents.map entW) := Lib.hid (by rw [← hKK, List.take_of_length_le (by rw [HN_2.out]; omega)])
              clear hKK
              have HK3 : Hid (PrAt W0 wr v3 ((((([] : List (List ByteArray)) ++ M.chart.map wordsA) ++ M.flows.map Fl.wordsF) ++ M.ents.map entW) ++ (M.lines.take 0).map linW)) := Lib.hid (by have := HP.out; rw [HKN.out] at this; simpa using this)
              obtain ⟨c0, c1, c2, c3, c4, c5, c6, c7, c8⟩ := HN0.out.keep HP.out.bel HN0.out.lt
              go_wp2
              clear c0 c1 c2 c3 c4 c5 c6 c7 c8
              go_loopw [3, 62] (fun s3 si wr => ∃ (i : Nat) (v3 : Value), i ≤ N3 ∧ si = .int .i64 (i : Int) ∧ v3 = s3 ∧ Hid (PrAt W0 wr v3 ((((([] : List (List ByteArray)) ++ M.chart.map wordsA) ++ M.flows.map Fl.wordsF) ++ M.ents.map entW) ++ (M.lines.take i).map linW))) (fun _ si _ => N3 - (intOf si).toNat)
              case atStart => exact ⟨0, _, Nat.zero_le _, rfl, rfl, HK3⟩
              case round =>
                obtain ⟨i, v3, hi, rfl, rfl, HP⟩ := hrel
                obtain ⟨KK, hKK⟩ : ∃ KK, (((([] : List (List ByteArray)) ++ M.chart.map wordsA) ++ M.flows.map Fl.wordsF) ++ M.ents.map entW) ++ (M.lines.take i).map linW = KK := ⟨_, rfl⟩
                rw [hKK] at HP
                by_cases hlt : i < N3
                · obtain ⟨x, hx⟩ : ∃ x, M.lines[i]? = some x := ⟨_, List.getElem?_eq_getElem (by rw [HN_3.out]; exact hlt)⟩
                  have HTK : Hid (KK ++ [linW x] = (((([] : List (List ByteArray)) ++ M.chart.map wordsA) ++ M.flows.map Fl.wordsF) ++ M.ents.map entW) ++ (M.lines.take (i + 1)).map linW) := Lib.hid (by rw [map_take_succ hx, ← hKK]; simp)
                  have HKL : Hid (KK.length ≤ 9000) := Lib.hid (by rw [← hKK]; have := HN_3.out; have := HN_0.out; have := HN_1.out; have := HN_2.out; have := HN_3.out; simp; omega)
                  clear hKK
                  obtain ⟨b, o, rfl, hat⟩ := HNV.out i x hx
                  obtain ⟨d0, d1, d2⟩ := lin3 (hat.keep HP.out.bel hat.lt)
                  have HBX0 := Lib.hid ((Below.refl wr.heap.size wr).alloc (Nat.le_refl _) (.cells #[.string x.acc, .string x.flow, .string x.to] 67))
                  obtain ⟨q0, q1, q2⟩ := lin3 (BoxE.new encL wr x 67).at0
                  have HON := Lib.hid (own_new (wr.alloc (.cells #[.string x.acc, .string x.flow, .string x.to] 67)) [tMap, x.acc, x.flow, x.to] 9 (by unfold maxLen; simp))
                  have HBX1 := Lib.hid (HBX0.out.alloc HBX0.out.size (.cells ([tMap, x.acc, x.flow, x.to].map Value.string).toArray 9))
                  have hWS : linW x = [tMap, x.acc, x.flow, x.to] := rfl
                  clear hat hx
                  go_wp2_with fail
                  clear d0 d1 d2 q0 q1 q2
                  refine (lineOf_any _ _ _ _).mono ?_
                  rintro en w5 ⟨rfl, hb5⟩
                  obtain ⟨WS, hWW⟩ : ∃ WS : List ByteArray, linW x = WS := ⟨_, rfl⟩
                  have hLN : WS.length = 4 := by rw [← hWW, hWS]; rfl
                  have HP5 : Hid (PrAt W0 w5 v3 KK) := Lib.hid ⟨(HP.out.rows.below HBX1.out).below hb5, (HP.out.bel.trans (HBX1.out.mono HP.out.bel.size)).trans (hb5.mono (Nat.le_trans HP.out.bel.size HBX1.out.size)), HP.out.len⟩
                  have HU5 := Lib.hid (row_below (row_base HON.out (Nat.le_trans HP.out.bel.size HBX0.out.size)) hb5)
                  rw [← hWS, hWW] at HU5
                  rw [World.size_alloc, hLN] at HU5
                  rw [hWW] at HTK
                  have BX5 := Lib.hid ((Below.refl w5.heap.size w5).alloc (Nat.le_refl _) (.cells #[.int .i64 0, .slice (some ⟨wr.heap.size + 1, 0, none⟩) 4 4] 75))
                  have HLN := Lib.hid hLN
                  clear hb5 hWS hWW hLN
                  go_wp2_with (at_builtin; refine wpList_append_line rfl _ _ 69 rfl W0.heap.size 75 i0 Tryz.underlying69 HI.out.1 HI.out.2.1 HI.out.2.2.1 HI.out.2.2.2 (by decide) KK WS (.slice (some ⟨wr.heap.size + 1, 0, none⟩) 4 4) w5.heap.size (HP5.out.rows.below BX5.out) rfl (line_new w5 _ _).1 (line_new w5 _ _).2 (by rw [HLN.out]; exact row_below HU5.out BX5.out) (Nat.le_trans HP5.out.bel.size BX5.out.size) (by have := HP5.out.len; omega) ?_; intro v6 w6 hr6 hb6 hg6)
                  have HP6 : Hid (PrAt W0 w6 v6 (KK ++ [WS])) := Lib.hid ⟨hr6, (HP5.out.bel.trans (BX5.out.mono HP5.out.bel.size)).trans hb6, by have := HKL.out; simp; omega⟩
                  clear hr6 hb6 hg6
                  go_wp2
                  go_roundw
                  case rel => exact ⟨i + 1, _, by omega, by go_num, rfl, by rw [← HTK.out]; exact HP6⟩
                  case measure => simp [intOf]; omega
                · have HKN : Hid (KK = (((([] : List (List ByteArray)) ++ M.chart.map wordsA) ++ M.flows.map Fl.wordsF) ++ M.ents.map entW) ++ M.lines.map linW) := Lib.hid (by rw [← hKK, List.take_of_length_le (by rw [HN_3.out]; omega)])
                  clear hKK
                  obtain ⟨c0, c1, c2, c3, c4, c5, c6, c7, c8⟩ := HN0.out.keep HP.out.bel HN0.out.lt
                  have HON := Lib.hid (own_new wr [tGroup, M.cur] 9 (by unfold maxLen; simp))
                  have HBX1 := Lib.hid ((Below.refl wr.heap.size wr).alloc (Nat.le_refl _) (.cells ([tGroup, M.cur].map Value.string).toArray 9))
                  have HKL : Hid (KK.length ≤ 9000) := Lib.hid (by rw [HKN.out]; have := HN_0.out; have := HN_1.out; have := HN_2.out; have := HN_3.out; simp; omega)
                  go_wp2_with fail
                  clear c0 c1 c2 c3 c4 c5 c6 c7 c8
                  refine (lineOf_any _ _ _ _).mono ?_
                  rintro en w5 ⟨rfl, hb5⟩
                  have HP5 : Hid (PrAt W0 w5 v3 KK) := Lib.hid ⟨(HP.out.rows.below HBX1.out).below hb5, (HP.out.bel.trans (HBX1.out.mono HP.out.bel.size)).trans (hb5.mono (Nat.le_trans HP.out.bel.size HBX1.out.size)), HP.out.len⟩
                  obtain ⟨WS, hWW⟩ : ∃ WS : List ByteArray, [tGroup, M.cur] = WS := ⟨_, rfl⟩
                  have hLN : WS.length = 2 := by rw [← hWW]; rfl
                  have HU5 := Lib.hid (row_below (row_base HON.out HP.out.bel.size) hb5)
                  rw [hWW] at HU5
                  rw [hLN] at HU5
                  have BX5 := Lib.hid ((Below.refl w5.heap.size w5).alloc (Nat.le_refl _) (.cells #[.int .i64 0, .slice (some ⟨wr.heap.size, 0, none⟩) 2 2] 75))
                  have HLN := Lib.hid hLN
                  have HWW := Lib.hid hWW
                  clear hb5 hWW hLN
                  go_wp2_with (at_builtin; refine wpList_append_line rfl _ _ 69 rfl W0.heap.size 75 i0 Tryz.underlying69 HI.out.1 HI.out.2.1 HI.out.2.2.1 HI.out.2.2.2 (by decide) KK WS (.slice (some ⟨wr.heap.size, 0, none⟩) 2 2) w5.heap.size (HP5.out.rows.below BX5.out) rfl (line_new w5 _ _).1 (line_new w5 _ _).2 (by rw [HLN.out]; exact row_below HU5.out BX5.out) (Nat.le_trans HP5.out.bel.size BX5.out.size) (by have := HP5.out.len; omega) ?_; intro v6 w6 hr6 hb6 hg6; have hb06 := (HP5.out.bel.trans (BX5.out.mono HP5.out.bel.size)).trans hb6; obtain ⟨c0, c1, c2, c3, c4, c5, c6, c7, c8⟩ := HN0.out.keep hb06 HN0.out.lt; clear hb06)
                  have HP6 : Hid (PrAt W0 w6 v6 (KK ++ [WS])) := Lib.hid ⟨hr6, (HP5.out.bel.trans (BX5.out.mono HP5.out.bel.size)).trans hb6, by have := HKL.out; simp; omega⟩
                  clear hr6 hb6 hg6
                  clear c0 c1 c2 c3 c4 c5 c6 c7 c8
                  refine (HRO.out _).mono ?_
                  rintro en w7 ⟨rb, rfl, hrb, hb7⟩
                  have HK4 : Hid (PrAt W0 w7 v6 ((((((([] : List (List ByteArray)) ++ M.chart.map wordsA) ++ M.flows.map Fl.wordsF) ++ M.ents.map entW) ++ M.lines.map linW) ++ [[tGroup, M.cur]]) ++ ((rolesOf M).take 0).map roleW)) := Lib.hid (by
                    have h6 := HP6.out
                    rw [← HWW.out, HKN.out] at h6
                    have h7 : PrAt W0 w7 v6 _ := ⟨h6.rows.below hb7, h6.bel.trans (hb7.mono h6.bel.size), h6.len⟩
                    simpa using h7)
                  have HRB0 := Lib.hid hrb
                  clear hrb hb7
                  go_wp2
                  go_loopw [3, 88] (fun s3 si wr => ∃ (i : Nat) (v3 : Value), i ≤ 4 ∧ si = .int .i64 (i : Int) ∧ v3 = s3 ∧ Hid (PrAt W0 wr v3 ((((((([] : List (List ByteArray)) ++ M.chart.map wordsA) ++ M.flows.map Fl.wordsF) ++ M.ents.map entW) ++ M.lines.map linW) ++ [[tGroup, M.cur]]) ++ ((rolesOf M).take i).map roleW)) ∧ Hid (wr.heap[rb]? = some (.cells (flat encR (rolesOf M)).toArray 96 (0, 0)))) (fun _ si _ => 4 - (intOf si).toNat)
                  case atStart => exact ⟨0, _, Nat.zero_le _, rfl, rfl, HK4, HRB0⟩
                  case round =>
                    obtain ⟨i, v3, hi, rfl, rfl, HP, HRB⟩ := hrel
                    obtain ⟨KK, hKK⟩ : ∃ KK, (((((([] : List (List ByteArray)) ++ M.chart.map wordsA) ++ M.flows.map Fl.wordsF) ++ M.ents.map entW) ++ M.lines.map linW) ++ [[tGroup, M.cur]]) ++ ((rolesOf M).take i).map roleW = KK := ⟨_, rfl⟩
                    rw [hKK] at HP
                    by_cases hlt : i < 4
                    · obtain ⟨x, hx⟩ : ∃ x, (rolesOf M)[i]? = some x := ⟨_, List.getElem?_eq_getElem (by rw [HN_5.out]; exact hlt)⟩
                      have HTK : Hid (KK ++ [roleW x] = (((((([] : List (List ByteArray)) ++ M.chart.map wordsA) ++ M.flows.map Fl.wordsF) ++ M.ents.map entW) ++ M.lines.map linW) ++ [[tGroup, M.cur]]) ++ ((rolesOf M).take (i + 1)).map roleW) := Lib.hid (by rw [map_take_succ hx, ← hKK]; simp)
                      have HKL : Hid (KK.length ≤ 9000) := Lib.hid (by rw [← hKK]; have := HN_5.out; have := HN_0.out; have := HN_1.out; have := HN_2.out; have := HN_3.out; simp [rolesOf]; omega)
                      clear hKK
                      have HRR : Hid (ElAt encR wr rb (0 + i * encR.k) x) := Lib.hid (roles_at HRB.out hx)
                      obtain ⟨d0, d1, d2⟩ := role3 HRR.out
                      simp only [Nat.zero_add] at d0 d1 d2
                      have HBX0 := Lib.hid ((Below.refl wr.heap.size wr).alloc (Nat.le_refl _) (.cells #[.string x.head, .string x.code, .int .i64 x.cls] 96))
                      obtain ⟨q0, q1, q2⟩ := role3 (BoxE.new encR wr x 96).at0
                      have HON := Lib.hid (own_new (wr.alloc (.cells #[.string x.head, .string x.code, .int .i64 x.cls] 96)) [x.head, x.code] 9 (by unfold maxLen; simp))
                      have HBX1 := Lib.hid (HBX0.out.alloc HBX0.out.size (.cells ([x.head, x.code].map Value.string).toArray 9))
                      have hWS : roleW x = [x.head, x.code] := rfl
                      clear hx
                      go_wp2_with fail
                      clear d0 d1 d2 q0 q1 q2
                      refine (lineOf_any _ _ _ _).mono ?_
                      rintro en w5 ⟨rfl, hb5⟩
                      obtain ⟨WS, hWW⟩ : ∃ WS : List ByteArray, roleW x = WS := ⟨_, rfl⟩
                      have hLN : WS.length = 2 := by rw [← hWW, hWS]; rfl
                      have HP5 : Hid (PrAt W0 w5 v3 KK) := Lib.hid ⟨(HP.out.rows.below HBX1.out).below hb5, (HP.out.bel.trans (HBX1.out.mono HP.out.bel.size)).trans (hb5.mono (Nat.le_trans HP.out.bel.size HBX1.out.size)), HP.out.len⟩
                      have HB55 := Lib.hid (HBX1.out.trans (hb5.mono HBX1.out.size))
                      have HU5 := Lib.hid (row_below (row_base HON.out (Nat.le_trans HP.out.bel.size HBX0.out.size)) hb5)
                      rw [← hWS, hWW] at HU5
                      rw [World.size_alloc, hLN] at HU5
                      rw [hWW] at HTK
                      have BX5 := Lib.hid ((Below.refl w5.heap.size w5).alloc (Nat.le_refl _) (.cells #[.int .i64 0, .slice (some ⟨wr.heap.size + 1, 0, none⟩) 2 2] 75))
                      have HLN := Lib.hid hLN
                      clear hb5 hWS hWW hLN
                      go_wp2_with (at_builtin; refine wpList_append_line rfl _ _ 69 rfl W0.heap.size 75 i0 Tryz.underlying69 HI.out.1 HI.out.2.1 HI.out.2.2.1 HI.out.2.2.2 (by decide) KK WS (.slice (some ⟨wr.heap.size + 1, 0, none⟩) 2 2) w5.heap.size (HP5.out.rows.below BX5.out) rfl (line_new w5 _ _).1 (line_new w5 _ _).2 (by rw [HLN.out]; exact row_below HU5.out BX5.out) (Nat.le_trans HP5.out.bel.size BX5.out.size) (by have := HP5.out.len; omega) ?_; intro v6 w6 hr6 hb6 hg6)
                      have HP6 : Hid (PrAt W0 w6 v6 (KK ++ [WS])) := Lib.hid ⟨hr6, (HP5.out.bel.trans (BX5.out.mono HP5.out.bel.size)).trans hb6, by have := HKL.out; simp; omega⟩
                      have HRB6 : Hid (w6.heap[rb]? = some (.cells (flat encR (rolesOf M)).toArray 96 (0, 0))) := Lib.hid (by
                        have h5 : w5.heap[rb]? = _ := (HB55.out.block rb (Array.getElem?_eq_some_iff.1 HRB.out).1).trans HRB.out
                        have h5b := (BX5.out.block rb (Array.getElem?_eq_some_iff.1 h5).1).trans h5
                        exact (hg6.block rb (Array.getElem?_eq_some_iff.1 h5b).1 ((HP5.out.rows.below BX5.out).apart h5b (by decide))).trans h5b)
                      clear hr6 hb6 hg6
                      go_wp2
                      go_roundw
                      case rel => exact ⟨i + 1, _, by omega, by go_num, rfl, by rw [← HTK.out]; exact HP6, HRB6⟩
                      case measure => simp [intOf]; omega
                    · have HKN : Hid (KK = (((((([] : List (List ByteArray)) ++ M.chart.map wordsA) ++ M.flows.map Fl.wordsF) ++ M.ents.map entW) ++ M.lines.map linW) ++ [[tGroup, M.cur]]) ++ (rolesOf M).map roleW) := Lib.hid (by rw [← hKK, List.take_of_length_le (by rw [HN_5.out]; omega)])
                      clear hKK
                      have HTX : Hid (LinesV wr v3 (zn (outM M))) := Lib.hid (by
                        have := HP.out.rows.lines
                        rw [HKN.out] at this
                        simpa [outM] using this)
                      have HJL : Hid (joinL (zn (outM M)) = textW (outM M)) := Lib.hid (by rw [joinL_text]; simp [zn, List.map_map, Function.comp_def])
                      have HJO := Lib.hid (join_any v3 (zn (outM M)) wr HTX.out (by rw [HJL.out, textW_length]; have := HSZ.out; omega))
                      rw [HJL.out, HRES.out] at HJO
                      go_wp2_with fail
                      refine HJO.out.mono ?_
                      rintro en w9 ⟨rfl, hb9⟩
                      have HB9 := Lib.hid ((HB0.out.trans (HP.out.bel.mono HB0.out.size)).trans (hb9.mono (Nat.le_trans HB0.out.size HP.out.bel.size)))
                      clear hb9
                      go_wp2
                      go_ret
                      exact ⟨rfl, HB9.out⟩
end Go.Proofs.YticdmlijacnjbaaGreatDoor.Un
/- The plain facts of reading lines: what the lines that were read hold; when all can be read; lines in any order make the same master data. No program in it. -/
namespace Go.Proofs.YticdmlijacnjbaaGreatDoor.Un
open Go.RowKit

def acO (ws : List ByteArray) : Option Acct := if wd ws 0 = tAccount ∧ (parseA ws).2 = 0 then some (parseA ws).1 else none
def flO (ws : List ByteArray) : Option Fl.Flow := if wd ws 0 = Fl.tFlow ∧ (Fl.parseF ws).2 = 0 then some (Fl.parseF ws).1 else none
def enO (ws : List ByteArray) : Option Ent := if wd ws 0 = tEntity ∧ formedW ws = true then some (entOf ws) else none
def liO (ws : List ByteArray) : Option Lin := if wd ws 0 = tMap ∧ formedW ws = true then some (linOf ws) else none
def onO (t : ByteArray) (ws : List ByteArray) : Option ByteArray := if wd ws 0 = t ∧ formedW ws = true then some (wd ws 1) else none
theorem acO_no {ws : List ByteArray} (h : wd ws 0 ≠ tAccount) : acO ws = none := by unfold acO; rw [if_neg (fun e => h e.1)]
theorem flO_no {ws : List ByteArray} (h : wd ws 0 ≠ Fl.tFlow) : flO ws = none := by unfold flO; rw [if_neg (fun e => h e.1)]
theorem enO_no {ws : List ByteArray} (h : wd ws 0 ≠ tEntity) : enO ws = none := by unfold enO; rw [if_neg (fun e => h e.1)]
theorem liO_no {ws : List ByteArray} (h : wd ws 0 ≠ tMap) : liO ws = none := by unfold liO; rw [if_neg (fun e => h e.1)]
theorem onO_no {t : ByteArray} {ws : List ByteArray} (h : wd ws 0 ≠ t) : onO t ws = none := by unfold onO; rw [if_neg (fun e => h e.1)]
theorem acO_yes {ws : List ByteArray} (h : wd ws 0 = tAccount) (hp : (parseA ws).2 = 0) : acO ws = some (parseA ws).1 := by unfold acO; rw [if_pos ⟨h, hp⟩]
theorem flO_yes {ws : List ByteArray} (h : wd ws 0 = Fl.tFlow) (hp : (Fl.parseF ws).2 = 0) : flO ws = some (Fl.parseF ws).1 := by unfold flO; rw [if_pos ⟨h, hp⟩]
theorem enO_yes {ws : List ByteArray} (h : wd ws 0 = tEntity) (hp : formedW ws = true) : enO ws = some (entOf ws) := by unfold enO; rw [if_pos ⟨h, hp⟩]
theorem liO_yes {ws : List ByteArray} (h : wd ws 0 = tMap) (hp : formedW ws = true) : liO ws = some (linOf ws) := by unfold liO; rw [if_pos ⟨h, hp⟩]
theorem onO_yes {t : ByteArray} {ws : List ByteArray} (h : wd ws 0 = t) (hp : formedW ws = true) : onO t ws = some (wd ws 1) := by unfold onO; rw [if_pos ⟨h, hp⟩]
/-- May a line be, whatever was ahead of it? -/
def Good (ws : List ByteArray) : Prop := (wd ws 0 = tAccount ∧ (parseA ws).2 = 0) ∨ (wd ws 0 = Fl.tFlow ∧ (Fl.parseF ws).2 = 0) ∨ formedW ws = true
def oneL (x : ByteArray) : List ByteArray := if x = emp then [] else [x]
theorem oneL_no : oneL emp = [] := by simp [oneL]
theorem oneL_yes {x : ByteArray} (h : x ≠ emp) : oneL x = [x] := by simp [oneL, h]
theorem oneL_inj {x y : ByteArray} (h : oneL x = oneL y) : x = y := by
  unfold oneL at h
  split at h <;> split at h
  · rename_i a b; rw [a, b]
  · cases h
  · cases h
  · simpa using h
theorem oneL_len (x : ByteArray) : (oneL x).length ≤ 1 := by unfold oneL; split <;> simp
/-- What lines hold is what was read. -/
structure Inv (l : List (List ByteArray)) (M : Mast) : Prop where
  chart : M.chart.Perm (l.filterMap acO)
  flows : M.flows.Perm (l.filterMap flO)
  ents : M.ents.Perm (l.filterMap enO)
  lines : M.lines.Perm (l.filterMap liO)
  cur : l.filterMap (onO tGroup) = oneL M.cur
  res : l.filterMap (onO tReserve) = oneL M.res
  dif : l.filterMap (onO tDiffer) = oneL M.dif
  min : l.filterMap (onO tMinor) = oneL M.min
  stk : l.filterMap (onO tStake) = oneL M.stk
  sane : Sane M
  good : ∀ ws ∈ l, Good ws
theorem Inv.zero : Inv [] zeroM := ⟨.refl _, .refl _, .refl _, .refl _, rfl, rfl, rfl, rfl, rfl, Sane.zero, fun _ h => by cases h⟩
theorem fm_no {α : Type} {f : List ByteArray → Option α} {l : List (List ByteArray)} {ws : List ByteArray} (h : f ws = none) : (l ++ [ws]).filterMap f = l.filterMap f := by simp [List.filterMap_append, h]
theorem fm_yes {α : Type} {f : List ByteArray → Option α} {l : List (List ByteArray)} {ws : List ByteArray} {x : α} (h : f ws = some x) : (l ++ [ws]).filterMap f = l.filterMap f ++ [x] := by simp [List.filterMap_append, h]
theorem perm_snoc {α : Type} {A B : List α} {x : α} {C : List α} (h : A.Perm B) (hc : C.Perm (x :: A)) : C.Perm (B ++ [x]) :=
  hc.trans ((List.Perm.cons x h).trans (List.perm_append_singleton x B).symm)
theorem insL_perm (L : List Acct) (x : Acct) : (insL L x).Perm (x :: L) := by
  rw [insL_eq]
  exact List.perm_middle.trans (by rw [List.take_append_drop])
theorem insK_perm (L : List Fl.Flow) (x : Fl.Flow) : (insK Fl.Flow.code L x).Perm (x :: L) := by
  unfold insK
  exact List.perm_middle.trans (by rw [List.take_append_drop])
theorem formed_one {ws : List ByteArray} (hf : formedW ws = true) (h : wd ws 0 ≠ tEntity) (h' : wd ws 0 ≠ tMap) : wd ws 1 ≠ emp := by
  rcases formed_ways hf with ⟨h0, _⟩ | ⟨h0, _⟩ | ⟨_, a, h1, ha⟩
  · exact absurd h0 h
  · exact absurd h0 h'
  · rw [h1]; exact nm_ne ha
theorem Inv.step {l : List (List ByteArray)} {M : Mast} {ws : List ByteArray} (h : Inv l M) (hs : stepE M ws = 0) : Inv (l ++ [ws]) (stepV M ws) := by
  have hsn := h.sane.step hs
  have hgd : Good ws → ∀ us ∈ l ++ [ws], Good us := fun hg us hu => by
    rcases List.mem_append.1 hu with hu | hu
    · exact h.good us hu
    · simp at hu; subst hu; exact hg
  rcases step_ways hs with ⟨w0, hp, ha, e⟩ | ⟨w0, hp, ha, e⟩ | ⟨hf, w0, ha, e⟩ | ⟨hf, w0, ha, e⟩ | ⟨hf, w0, ha, e⟩ | ⟨hf, w0, ha, e⟩ | ⟨hf, w0, ha, e⟩ | ⟨hf, w0, ha, e⟩ | ⟨hf, w0, ha, e⟩
  · rw [e] at hsn ⊢
    exact ⟨by rw [fm_yes (acO_yes w0 hp)]; exact perm_snoc h.chart (insL_perm _ _), by rw [fm_no (flO_no (by rw [w0]; decide))]; exact h.flows, by rw [fm_no (enO_no (by rw [w0]; decide))]; exact h.ents, by rw [fm_no (liO_no (by rw [w0]; decide))]; exact h.lines, by rw [fm_no (onO_no (by rw [w0]; decide))]; exact h.cur, by rw [fm_no (onO_no (by rw [w0]; decide))]; exact h.res, by rw [fm_no (onO_no (by rw [w0]; decide))]; exact h.dif, by rw [fm_no (onO_no (by rw [w0]; decide))]; exact h.min, by rw [fm_no (onO_no (by rw [w0]; decide))]; exact h.stk, hsn, hgd (.inl ⟨w0, hp⟩)⟩
  · rw [e] at hsn ⊢
    exact ⟨by rw [fm_no (acO_no (by rw [w0]; decide))]; exact h.chart, by rw [fm_yes (flO_yes w0 hp)]; exact perm_snoc h.flows (insK_perm _ _), by rw [fm_no (enO_no (by rw [w0]; decide))]; exact h.ents, by rw [fm_no (liO_no (by rw [w0]; decide))]; exact h.lines, by rw [fm_no (onO_no (by rw [w0]; decide))]; exact h.cur, by rw [fm_no (onO_no (by rw [w0]; decide))]; exact h.res, by rw [fm_no (onO_no (by rw [w0]; decide))]; exact h.dif, by rw [fm_no (onO_no (by rw [w0]; decide))]; exact h.min, by rw [fm_no (onO_no (by rw [w0]; decide))]; exact h.stk, hsn, hgd (.inr (.inl ⟨w0, hp⟩))⟩
  · rw [e] at hsn ⊢
    exact ⟨by rw [fm_no (acO_no (by rw [w0]; decide))]; exact h.chart, by rw [fm_no (flO_no (by rw [w0]; decide))]; exact h.flows, by rw [fm_yes (enO_yes w0 hf)]; exact perm_snoc h.ents (G.ins_perm _ _), by rw [fm_no (liO_no (by rw [w0]; decide))]; exact h.lines, by rw [fm_no (onO_no (by rw [w0]; decide))]; exact h.cur, by rw [fm_no (onO_no (by rw [w0]; decide))]; exact h.res, by rw [fm_no (onO_no (by rw [w0]; decide))]; exact h.dif, by rw [fm_no (onO_no (by rw [w0]; decide))]; exact h.min, by rw [fm_no (onO_no (by rw [w0]; decide))]; exact h.stk, hsn, hgd (.inr (.inr hf))⟩
  · rw [e] at hsn ⊢
    exact ⟨by rw [fm_no (acO_no (by rw [w0]; decide))]; exact h.chart, by rw [fm_no (flO_no (by rw [w0]; decide))]; exact h.flows, by rw [fm_no (enO_no (by rw [w0]; decide))]; exact h.ents, by rw [fm_yes (liO_yes w0 hf)]; exact perm_snoc h.lines (G.ins_perm _ _), by rw [fm_no (onO_no (by rw [w0]; decide))]; exact h.cur, by rw [fm_no (onO_no (by rw [w0]; decide))]; exact h.res, by rw [fm_no (onO_no (by rw [w0]; decide))]; exact h.dif, by rw [fm_no (onO_no (by rw [w0]; decide))]; exact h.min, by rw [fm_no (onO_no (by rw [w0]; decide))]; exact h.stk, hsn, hgd (.inr (.inr hf))⟩
  all_goals
    have hne := formed_one hf (by rw [w0]; decide) (by rw [w0]; decide)
    rw [e] at hsn ⊢
    refine ⟨by rw [fm_no (acO_no (by rw [w0]; decide))]; exact h.chart, by rw [fm_no (flO_no (by rw [w0]; decide))]; exact h.flows, by rw [fm_no (enO_no (by rw [w0]; decide))]; exact h.ents, by rw [fm_no (liO_no (by rw [w0]; decide))]; exact h.lines, ?_, ?_, ?_, ?_, ?_, hsn, hgd (.inr (.inr hf))⟩
    all_goals first
      | (rw [fm_no (onO_no (by rw [w0]; decide))]; first | exact h.cur | exact h.res | exact h.dif | exact h.min | exact h.stk)
      | (rw [fm_yes (onO_yes w0 hf)]; first | rw [h.cur] | rw [h.res] | rw [h.dif] | rw [h.min] | rw [h.stk]
         rw [ha, oneL_no]
         exact (oneL_yes hne).symm)
theorem Inv.run {l k : List (List ByteArray)} {M N : Mast} (h : Inv l M) (hr : runM M k = (N, 0)) : Inv (l ++ k) N := by
  induction k generalizing l M with
  | nil =>
    simp only [runM, Prod.mk.injEq] at hr
    rw [List.append_nil, ← hr.1]; exact h
  | cons ws k ih =>
    by_cases hs : stepE M ws = 0
    · rw [runM_cons _ _ _ hs] at hr
      have := ih (h.step hs) hr
      simpa using this
    · rw [runM_stop _ _ _ hs] at hr
      simp only [Prod.mk.injEq] at hr
      exact absurd hr.2 hs
theorem run_zero_of {l : List (List ByteArray)} {M : Mast} (h : runM zeroM l = (M, 0)) : Inv l M := by
  simpa using Inv.zero.run h
end Go.Proofs.YticdmlijacnjbaaGreatDoor.Un
/- When lines can be read, whatever their order; what is read is told by what they hold. No program in it. -/
namespace Go.Proofs.YticdmlijacnjbaaGreatDoor.Un
open Go.RowKit

def ones : List ByteArray := [tGroup, tReserve, tDiffer, tMinor, tStake]
structure Ok (l : List (List ByteArray)) : Prop where
  good : ∀ ws ∈ l, Good ws
  ac : ((l.filterMap acO).map Acct.code).Nodup
  al : (l.filterMap acO).length ≤ 60
  fc : ((l.filterMap flO).map Fl.Flow.code).Nodup
  fk : Fl.onesF (l.filterMap flO)
  fl : (l.filterMap flO).length ≤ 60
  ec : ((l.filterMap enO).map Ent.code).Nodup
  el : (l.filterMap enO).length ≤ 60
  lc : ((l.filterMap liO).map Lin.key).Nodup
  ll : (l.filterMap liO).length ≤ 1000
  on : ∀ t ∈ ones, (l.filterMap (onO t)).length ≤ 1
theorem ones_perm {L M : List Fl.Flow} (h : L.Perm M) (ho : Fl.onesF L) : Fl.onesF M := fun k hk h1 => by
  have := ho k hk h1
  rw [Fl.ofF_length] at this ⊢
  rw [← (h.filter _).length_eq]; exact this
theorem ones_sub {L M : List Fl.Flow} (h : M.Sublist L) (ho : Fl.onesF L) : Fl.onesF M := fun k hk h1 => by
  have := ho k hk h1
  rw [Fl.ofF_length] at this ⊢
  exact Nat.le_trans (h.filter _).length_le this
theorem Ok.perm {l k : List (List ByteArray)} (h : Ok l) (hp : l.Perm k) : Ok k where
  good ws hw := h.good ws (hp.mem_iff.2 hw)
  ac := (((hp.filterMap acO).map _).nodup_iff).1 h.ac
  al := by rw [← (hp.filterMap acO).length_eq]; exact h.al
  fc := (((hp.filterMap flO).map _).nodup_iff).1 h.fc
  fk := ones_perm (hp.filterMap flO) h.fk
  fl := by rw [← (hp.filterMap flO).length_eq]; exact h.fl
  ec := (((hp.filterMap enO).map _).nodup_iff).1 h.ec
  el := by rw [← (hp.filterMap enO).length_eq]; exact h.el
  lc := (((hp.filterMap liO).map _).nodup_iff).1 h.lc
  ll := by rw [← (hp.filterMap liO).length_eq]; exact h.ll
  on t ht := by rw [← (hp.filterMap (onO t)).length_eq]; exact h.on t ht
theorem Ok.sub {l k : List (List ByteArray)} (h : Ok l) (hp : k.Sublist l) : Ok k where
  good ws hw := h.good ws (hp.mem hw)
  ac := h.ac.sublist ((hp.filterMap acO).map _)
  al := Nat.le_trans (hp.filterMap acO).length_le h.al
  fc := h.fc.sublist ((hp.filterMap flO).map _)
  fk := ones_sub (hp.filterMap flO) h.fk
  fl := Nat.le_trans (hp.filterMap flO).length_le h.fl
  ec := h.ec.sublist ((hp.filterMap enO).map _)
  el := Nat.le_trans (hp.filterMap enO).length_le h.el
  lc := h.lc.sublist ((hp.filterMap liO).map _)
  ll := Nat.le_trans (hp.filterMap liO).length_le h.ll
  on t ht := Nat.le_trans (hp.filterMap (onO t)).length_le (h.on t ht)
/-! ### Charts and flows as lists by rising keys -/
theorem riseL_eq : ∀ L : List Acct, riseL L = G.riseK Acct.code L
  | [] => rfl
  | [_] => rfl
  | a :: b :: L => by
    have := riseL_eq (b :: L)
    unfold riseL G.riseK
    rw [this]; rfl
theorem riseF_eq : ∀ L : List Fl.Flow, riseK Fl.Flow.code L = G.riseK Fl.Flow.code L
  | [] => rfl
  | [_] => rfl
  | a :: b :: L => by
    have := riseF_eq (b :: L)
    unfold riseK G.riseK
    rw [this]; rfl
theorem findL_none {L : List Acct} {c : ByteArray} (h : c ∉ L.map Acct.code) : findL L c = none := by
  cases hf : findL L c with
  | none => rfl
  | some x =>
    obtain ⟨h1, h2⟩ := find_mem hf
    exact absurd (List.mem_map.2 ⟨x, h2, h1⟩) h
theorem findL_some {L : List Acct} {x : Acct} (h : x ∈ L) : (findL L x.code).isSome = true := by
  induction L with
  | nil => cases h
  | cons a L ih =>
    simp only [findL]
    split
    · rfl
    · rename_i hne
      rcases List.mem_cons.1 h with rfl | h
      · exact absurd rfl hne
      · exact ih h
theorem findG_none {α κ : Type} [DecidableEq κ] {key : α → κ} {L : List α} {c : κ} (h : c ∉ L.map key) : G.findK key L c = none :=
  G.findK_none fun x hx e => h (List.mem_map.2 ⟨x, hx, e⟩)
theorem findG_some {α κ : Type} [DecidableEq κ] {key : α → κ} {L : List α} {x : α} (h : x ∈ L) : (G.findK key L (key x)).isSome = true := by
  cases hf : G.findK key L (key x) with
  | some y => rfl
  | none => exact absurd rfl (G.findK_no hf x h)
theorem Inv.ok {l : List (List ByteArray)} {M : Mast} (h : Inv l M) : Ok l where
  good := h.good
  ac := ((h.chart.map _).nodup_iff).1 (G.rise_nodup (by rw [← riseL_eq]; exact h.sane.ch))
  al := by rw [← h.chart.length_eq]; exact h.sane.lc
  fc := ((h.flows.map _).nodup_iff).1 (G.rise_nodup (by rw [← riseF_eq]; exact Fl.rise_codes h.sane.fl))
  fk := ones_perm h.flows (Fl.rise_ones h.sane.fl)
  fl := by rw [← h.flows.length_eq]; exact h.sane.lf
  ec := ((h.ents.map _).nodup_iff).1 (G.rise_nodup h.sane.en)
  el := by rw [← h.ents.length_eq]; exact h.sane.le
  lc := ((h.lines.map _).nodup_iff).1 (G.rise_nodup h.sane.li)
  ll := by rw [← h.lines.length_eq]; exact h.sane.ll
  on t ht := by
    simp only [ones, List.mem_cons, List.not_mem_nil, or_false] at ht
    rcases ht with rfl | rfl | rfl | rfl | rfl
    · rw [h.cur]; exact oneL_len _
    · rw [h.res]; exact oneL_len _
    · rw [h.dif]; exact oneL_len _
    · rw [h.min]; exact oneL_len _
    · rw [h.stk]; exact oneL_len _
theorem fm_mid {α : Type} {f : List ByteArray → Option α} {l k : List (List ByteArray)} {ws : List ByteArray} {x : α} (h : f ws = some x) : (l ++ ws :: k).filterMap f = l.filterMap f ++ x :: k.filterMap f := by simp [List.filterMap_append, h]
theorem nodup_mid {α β : Type} {f : α → β} {A B : List α} {x : α} (h : ((A ++ x :: B).map f).Nodup) : f x ∉ A.map f := by
  rw [List.map_append, List.map_cons] at h
  intro hm
  exact (List.nodup_append.1 h).2.2 _ hm _ (List.mem_cons_self ..) rfl
theorem one_mid {l k : List (List ByteArray)} {ws : List ByteArray} {t x : ByteArray} (hl : l.filterMap (onO t) = oneL x) (hw : wd ws 0 = t) (hf : formedW ws = true) (h : ((l ++ ws :: k).filterMap (onO t)).length ≤ 1) : oneE x = 0 := by
  rw [fm_mid (onO_yes hw hf), hl] at h
  unfold oneE
  by_cases hx : x = emp
  · rw [if_pos hx]
  · rw [oneL_yes hx] at h; simp at h
/-- A line that can be read behind those that were. -/
theorem step_of_ok {l k : List (List ByteArray)} {M : Mast} {ws : List ByteArray} (h : Inv l M) (ho : Ok (l ++ ws :: k)) : stepE M ws = 0 := by
  rcases ho.good ws (by simp) with ⟨w0, hp⟩ | ⟨w0, hp⟩ | hf
  · unfold stepE
    rw [if_pos w0, if_pos hp]
    have hm := fm_mid (k := k) (l := l) (acO_yes w0 hp)
    have h1 := ho.ac
    have h2 := ho.al
    rw [hm] at h1 h2
    have hfn : findL M.chart (parseA ws).1.code = none := findL_none fun hx => nodup_mid h1 (((h.chart.map _).mem_iff).1 hx)
    have hlen : ¬ 60 ≤ M.chart.length := by
      rw [h.chart.length_eq]
      simp only [List.length_append, List.length_cons] at h2
      omega
    unfold addE
    rw [(parse_ok hp).2, hfn, if_neg (by simp), if_neg (by simp), if_neg hlen]
  · unfold stepE
    rw [if_neg (by rw [w0]; decide), if_pos w0, if_pos hp]
    have hm := fm_mid (k := k) (l := l) (flO_yes w0 hp)
    have h1 := ho.fc
    have h2 := ho.fl
    have h3 := ho.fk
    rw [hm] at h1 h2 h3
    have hr : Fl.rightF (Fl.parseF ws).1 = true := by
      rcases Fl.parse_err ws with e | ⟨_, e, _⟩
      · rw [e] at hp; simp at hp
      · exact e
    have hrise := Fl.rise_codes h.sane.fl
    have hfn : findK Fl.Flow.code M.flows (Fl.parseF ws).1.code = none := findK_none fun x hx e => nodup_mid h1 (((h.flows.map _).mem_iff).1 (List.mem_map.2 ⟨x, hx, e⟩))
    have hk : isK Fl.Flow.code M.flows (Fl.parseF ws).1.code = false := by rw [(isK_find hrise _).1, hfn]; rfl
    have hlen : ¬ 60 ≤ M.flows.length := by
      rw [h.flows.length_eq]
      simp only [List.length_append, List.length_cons] at h2
      omega
    have hkind : (decide ((Fl.parseF ws).1.kind ≠ 1) && Fl.hasF M.flows (Fl.parseF ws).1.kind) = false := by
      by_cases h1k : (Fl.parseF ws).1.kind = 1
      · simp [h1k]
      · have hkk : 0 ≤ (Fl.parseF ws).1.kind ∧ (Fl.parseF ws).1.kind < 5 := by
          have := (Fl.right_parts hr).2
          omega
        have := h3 _ hkk h1k
        rw [Fl.ofF_length, List.filter_append, List.filter_cons, if_pos (by simp), List.length_append, List.length_cons, ← (h.flows.filter _).length_eq, ← Fl.ofF_length] at this
        have h0 : ¬ 0 < (Fl.ofF M.flows (Fl.parseF ws).1.kind).length := by omega
        unfold Fl.hasF
        rw [decide_eq_false h0, Bool.and_false]
    unfold Fl.addE
    rw [hr, if_neg (by simp), hk, hkind, if_neg (by simp), if_neg hlen]
  · rcases formed_ways hf with ⟨w0, _⟩ | ⟨w0, _⟩ | ⟨w0, _⟩
    · unfold stepE
      rw [if_neg (by rw [w0]; decide), if_neg (by rw [w0]; decide), if_neg (by rw [hf]; simp), if_pos w0]
      have hm := fm_mid (k := k) (l := l) (enO_yes w0 hf)
      have h1 := ho.ec
      have h2 := ho.el
      rw [hm] at h1 h2
      have hfn : G.findK Ent.code M.ents (entOf ws).code = none := findG_none fun hx => nodup_mid h1 (((h.ents.map _).mem_iff).1 hx)
      have hlen : ¬ 60 ≤ M.ents.length := by
        rw [h.ents.length_eq]
        simp only [List.length_append, List.length_cons] at h2
        omega
      unfold entE
      rw [hfn, if_neg (by simp), if_neg hlen]
    · unfold stepE
      rw [if_neg (by rw [w0]; decide), if_neg (by rw [w0]; decide), if_neg (by rw [hf]; simp), if_neg (by rw [w0]; decide), if_pos w0]
      have hm := fm_mid (k := k) (l := l) (liO_yes w0 hf)
      have h1 := ho.lc
      have h2 := ho.ll
      rw [hm] at h1 h2
      have hfn : G.findK Lin.key M.lines (linOf ws).key = none := findG_none fun hx => nodup_mid h1 (((h.lines.map _).mem_iff).1 hx)
      have hlen : ¬ 1000 ≤ M.lines.length := by
        rw [h.lines.length_eq]
        simp only [List.length_append, List.length_cons] at h2
        omega
      unfold linEr
      rw [hfn, if_neg (by simp), if_neg hlen]
    · unfold stepE
      rcases w0 with w0 | w0 | w0 | w0 | w0
      · rw [if_neg (by rw [w0]; decide), if_neg (by rw [w0]; decide), if_neg (by rw [hf]; simp), if_neg (by rw [w0]; decide), if_neg (by rw [w0]; decide), if_pos w0]
        exact one_mid h.cur w0 hf (ho.on tGroup (by simp [ones]))
      · rw [if_neg (by rw [w0]; decide), if_neg (by rw [w0]; decide), if_neg (by rw [hf]; simp), if_neg (by rw [w0]; decide), if_neg (by rw [w0]; decide), if_neg (by rw [w0]; decide), if_pos w0]
        exact one_mid h.res w0 hf (ho.on tReserve (by simp [ones]))
      · rw [if_neg (by rw [w0]; decide), if_neg (by rw [w0]; decide), if_neg (by rw [hf]; simp), if_neg (by rw [w0]; decide), if_neg (by rw [w0]; decide), if_neg (by rw [w0]; decide), if_neg (by rw [w0]; decide), if_pos w0]
        exact one_mid h.dif w0 hf (ho.on tDiffer (by simp [ones]))
      · rw [if_neg (by rw [w0]; decide), if_neg (by rw [w0]; decide), if_neg (by rw [hf]; simp), if_neg (by rw [w0]; decide), if_neg (by rw [w0]; decide), if_neg (by rw [w0]; decide), if_neg (by rw [w0]; decide), if_neg (by rw [w0]; decide), if_pos w0]
        exact one_mid h.min w0 hf (ho.on tMinor (by simp [ones]))
      · rw [if_neg (by rw [w0]; decide), if_neg (by rw [w0]; decide), if_neg (by rw [hf]; simp), if_neg (by rw [w0]; decide), if_neg (by rw [w0]; decide), if_neg (by rw [w0]; decide), if_neg (by rw [w0]; decide), if_neg (by rw [w0]; decide), if_neg (by rw [w0]; decide)]
        exact one_mid h.stk w0 hf (ho.on tStake (by simp [ones]))
theorem run_of_ok {l k : List (List ByteArray)} {M : Mast} (h : Inv l M) (ho : Ok (l ++ k)) : ∃ N, runM M k = (N, 0) := by
  induction k generalizing l M with
  | nil => exact ⟨M, rfl⟩
  | cons ws k ih =>
    have hs := step_of_ok h ho
    obtain ⟨N, hN⟩ := ih (h.step hs) (by simpa using ho)
    exact ⟨N, by rw [runM_cons _ _ _ hs]; exact hN⟩
/-- Lines that can be read are. -/
theorem run_ok {l : List (List ByteArray)} (ho : Ok l) : ∃ M, runM zeroM l = (M, 0) ∧ Inv l M := by
  obtain ⟨M, hM⟩ := run_of_ok Inv.zero (by simpa using ho)
  exact ⟨M, hM, run_zero_of hM⟩
theorem one_perm {A B : List ByteArray} (h : A.Perm B) (hA : A.length ≤ 1) : A = B := by
  match A, hA with
  | [], _ => exact (List.nil_perm.1 h).symm
  | [x], _ => exact (List.singleton_perm.1 h).symm ▸ rfl
/-- What is read is told by what lines hold, in whatever order. -/
theorem Inv.uniq {l k : List (List ByteArray)} {M N : Mast} (h : Inv l M) (h' : Inv k N) (hp : l.Perm k) : M = N := by
  have e1 : M.chart = N.chart := G.rise_perm (key := Acct.code) (by rw [← riseL_eq]; exact h.sane.ch) (by rw [← riseL_eq]; exact h'.sane.ch) (h.chart.trans ((hp.filterMap acO).trans h'.chart.symm))
  have e2 : M.flows = N.flows := G.rise_perm (key := Fl.Flow.code) (by rw [← riseF_eq]; exact Fl.rise_codes h.sane.fl) (by rw [← riseF_eq]; exact Fl.rise_codes h'.sane.fl) (h.flows.trans ((hp.filterMap flO).trans h'.flows.symm))
  have e3 : M.ents = N.ents := G.rise_perm h.sane.en h'.sane.en (h.ents.trans ((hp.filterMap enO).trans h'.ents.symm))
  have e4 : M.lines = N.lines := G.rise_perm h.sane.li h'.sane.li (h.lines.trans ((hp.filterMap liO).trans h'.lines.symm))
  have one : ∀ t x y, l.filterMap (onO t) = oneL x → k.filterMap (onO t) = oneL y → x = y := fun t x y hx hy => by
    have := hp.filterMap (onO t)
    rw [hx, hy] at this
    exact oneL_inj (one_perm this (oneL_len x))
  have f1 := one _ _ _ h.cur h'.cur
  have f2 := one _ _ _ h.res h'.res
  have f3 := one _ _ _ h.dif h'.dif
  have f4 := one _ _ _ h.min h'.min
  have f5 := one _ _ _ h.stk h'.stk
  cases M; cases N
  simp only at e1 e2 e3 e4 f1 f2 f3 f4 f5
  subst e1 e2 e3 e4 f1 f2 f3 f4 f5
  rfl
end Go.Proofs.YticdmlijacnjbaaGreatDoor.Un
/- The plain facts of master data's own lines: they are those that were read, in another order; master data come back from them; a line twice; lines left out. No program in it. -/
namespace Go.Proofs.YticdmlijacnjbaaGreatDoor.Un
open Go.RowKit

theorem perm_in {α : Type} {A A' : List α} {x : α} (B : List α) (h : A'.Perm (x :: A)) : (A' ++ B).Perm (x :: (A ++ B)) := by
  have := h.append_right B
  rwa [List.cons_append] at this
theorem perm_out {α : Type} {B B' : List α} {x : α} (A : List α) (h : B'.Perm (x :: B)) : (A ++ B').Perm (x :: (A ++ B)) :=
  (h.append_left A).trans List.perm_middle
/-- The lines of what was read so far. -/
def outO (M : Mast) : List (List ByteArray) := M.chart.map wordsA ++ (M.flows.map Fl.wordsF ++ (M.ents.map entW ++ (M.lines.map linW ++ ((oneL M.cur).map (fun x => [tGroup, x]) ++ ((oneL M.res).map (fun x => [tReserve, x]) ++ ((oneL M.dif).map (fun x => [tDiffer, x]) ++ ((oneL M.min).map (fun x => [tMinor, x]) ++ (oneL M.stk).map (fun x => [tStake, x]))))))))
theorem outO_zero : outO zeroM = [] := by
  unfold outO zeroM
  simp only [oneL_no, List.map_nil, List.append_nil]
theorem one_words {ws : List ByteArray} {t : ByteArray} (hf : formedW ws = true) (h : wd ws 0 = t) (hE : t ≠ tEntity) (hM : t ≠ tMap) : ws = [t, wd ws 1] ∧ wd ws 1 ≠ emp := by
  rcases formed_ways hf with ⟨h0, _⟩ | ⟨h0, _⟩ | ⟨_, a, h1, ha⟩
  · exact absurd (h.symm.trans h0) hE
  · exact absurd (h.symm.trans h0) hM
  · refine ⟨?_, formed_one hf (by rw [h]; exact hE) (by rw [h]; exact hM)⟩
    rw [← h]
    conv => lhs; rw [h1]
    rw [show wd ws 1 = a by rw [h1]; rfl]
theorem perm_one {x y t : ByteArray} {ws : List ByteArray} (hx : x = emp) (hw : ws = [t, y] ∧ y ≠ emp) : ((oneL y).map (fun z => [t, z])).Perm (ws :: (oneL x).map (fun z => [t, z])) := by
  rw [hx, oneL_no, oneL_yes hw.2, hw.1]; exact .refl _
theorem out_step {M : Mast} {ws : List ByteArray} (hs : stepE M ws = 0) : (outO (stepV M ws)).Perm (ws :: outO M) := by
  rcases step_ways hs with ⟨w0, hp, ha, e⟩ | ⟨w0, hp, ha, e⟩ | ⟨hf, w0, ha, e⟩ | ⟨hf, w0, ha, e⟩ | ⟨hf, w0, ha, e⟩ | ⟨hf, w0, ha, e⟩ | ⟨hf, w0, ha, e⟩ | ⟨hf, w0, ha, e⟩ | ⟨hf, w0, ha, e⟩
  all_goals
    rw [e]
    unfold outO
  · refine perm_in _ ?_
    have := (insL_perm M.chart (parseA ws).1).map wordsA
    rwa [List.map_cons, (parse_ok hp).1] at this
  · refine perm_out _ (perm_in _ ?_)
    have := (insK_perm M.flows (Fl.parseF ws).1).map Fl.wordsF
    have hw : Fl.wordsF (Fl.parseF ws).1 = ws := by
      rcases Fl.parse_err ws with e | ⟨e, _⟩
      · rw [e] at hp; simp at hp
      · exact e
    rwa [List.map_cons, hw] at this
  · refine perm_out _ (perm_out _ (perm_in _ ?_))
    have := (G.ins_perm (key := Ent.code) M.ents (entOf ws)).map entW
    have hw : entW (entOf ws) = ws := by
      rcases formed_ways hf with ⟨_, a, b, h1, _⟩ | ⟨h0, _⟩ | ⟨h0, _⟩
      · rw [h1]; rfl
      · exact absurd (w0.symm.trans h0) (by decide)
      · rw [w0] at h0; exact absurd h0 (by decide)
    rwa [List.map_cons, hw] at this
  · refine perm_out _ (perm_out _ (perm_out _ (perm_in _ ?_)))
    have := (G.ins_perm (key := Lin.key) M.lines (linOf ws)).map linW
    have hw : linW (linOf ws) = ws := by
      rcases formed_ways hf with ⟨h0, _⟩ | ⟨_, a, b, c, h1, _⟩ | ⟨h0, _⟩
      · exact absurd (w0.symm.trans h0) (by decide)
      · rw [h1]; rfl
      · rw [w0] at h0; exact absurd h0 (by decide)
    rwa [List.map_cons, hw] at this
  · exact perm_out _ (perm_out _ (perm_out _ (perm_out _ (perm_in _ (perm_one ha (one_words hf w0 (by decide) (by decide)))))))
  · exact perm_out _ (perm_out _ (perm_out _ (perm_out _ (perm_out _ (perm_in _ (perm_one ha (one_words hf w0 (by decide) (by decide))))))))
  · exact perm_out _ (perm_out _ (perm_out _ (perm_out _ (perm_out _ (perm_out _ (perm_in _ (perm_one ha (one_words hf w0 (by decide) (by decide)))))))))
  · exact perm_out _ (perm_out _ (perm_out _ (perm_out _ (perm_out _ (perm_out _ (perm_out _ (perm_in _ (perm_one ha (one_words hf w0 (by decide) (by decide))))))))))
  · exact perm_out _ (perm_out _ (perm_out _ (perm_out _ (perm_out _ (perm_out _ (perm_out _ (perm_out _ (perm_one ha (one_words hf w0 (by decide) (by decide))))))))))
theorem out_run {k : List (List ByteArray)} {M N : Mast} (hr : runM M k = (N, 0)) : (outO N).Perm (outO M ++ k) := by
  induction k generalizing M with
  | nil =>
    simp only [runM, Prod.mk.injEq] at hr
    rw [List.append_nil, ← hr.1]
  | cons ws k ih =>
    by_cases hs : stepE M ws = 0
    · rw [runM_cons _ _ _ hs] at hr
      refine (ih hr).trans ?_
      refine ((out_step hs).append_right k).trans ?_
      rw [List.cons_append]
      exact List.perm_middle.symm
    · rw [runM_stop _ _ _ hs] at hr
      simp only [Prod.mk.injEq] at hr
      exact absurd hr.2 hs
theorem allE_parts {M : Mast} (h : allE M = 0) : M.cur ≠ emp ∧ rolesN M = true ∧ linesN M = true ∧ Fl.wholeF M.flows = true ∧ rolesP M = true := by
  unfold allE at h
  split at h
  · simp at h
  · rename_i h1
    split at h
    · simp at h
    · rename_i h2
      split at h
      · simp at h
      · rename_i h3
        simp only [Bool.or_eq_true, decide_eq_true_eq, Bool.not_eq_true', not_or, Bool.not_eq_false] at h1
        exact ⟨h1.1.1, h1.1.2, h1.2, by simpa using h2, by simpa using h3⟩
theorem Inv.right {l : List (List ByteArray)} {M : Mast} (h : Inv l M) : ∀ a ∈ M.chart, rightA a = true := fun a ha => by
  have := (h.chart.mem_iff).1 ha
  obtain ⟨ws, _, hw⟩ := List.mem_filterMap.1 this
  unfold acO at hw
  split at hw
  · rename_i h2
    cases hw
    exact (parse_ok h2.2).2
  · cases hw
theorem Inv.rightF {l : List (List ByteArray)} {M : Mast} (h : Inv l M) : ∀ a ∈ M.flows, Fl.rightF a = true := fun a ha => by
  have := (h.flows.mem_iff).1 ha
  obtain ⟨ws, _, hw⟩ := List.mem_filterMap.1 this
  unfold flO at hw
  split at hw
  · rename_i h2
    cases hw
    rcases Fl.parse_err ws with e | ⟨_, e, _⟩
    · rw [e] at h2; simp at h2
    · exact e
  · cases hw
theorem Inv.no_emp {l : List (List ByteArray)} {M : Mast} (h : Inv l M) : hasA M.chart emp = false := by
  unfold hasA
  rw [findL_none]
  · rfl
  · intro hm
    obtain ⟨a, ha, hc⟩ := List.mem_map.1 hm
    exact nm_ne (right_parts (h.right a ha)).1 hc
theorem roles_ne {l : List (List ByteArray)} {M : Mast} (h : Inv l M) (hr : rolesN M = true) : M.res ≠ emp ∧ M.dif ≠ emp ∧ M.min ≠ emp ∧ M.stk ≠ emp := by
  unfold rolesN at hr
  simp only [Bool.and_eq_true] at hr
  have hn := h.no_emp
  refine ⟨fun e => ?_, fun e => ?_, fun e => ?_, fun e => ?_⟩
  · have := hr.1.1.1; rw [e, hn] at this; cases this
  · have := hr.1.1.2; rw [e, hn] at this; cases this
  · have := hr.1.2; rw [e, hn] at this; cases this
  · have := hr.2; rw [e, hn] at this; cases this
theorem out_all {l : List (List ByteArray)} {M : Mast} (h : Inv l M) (ha : allE M = 0) : outM M = outO M := by
  obtain ⟨h1, h2, _⟩ := allE_parts ha
  obtain ⟨r1, r2, r3, r4⟩ := roles_ne h h2
  unfold outM outO
  rw [oneL_yes h1, oneL_yes r1, oneL_yes r2, oneL_yes r3, oneL_yes r4]
  simp only [rolesOf, List.map_cons, List.map_nil, roleW, List.append_assoc, List.cons_append, List.nil_append]
/-- What a text's lines make, if it is master data. -/
theorem parse_ways (s : ByteArray) : (∃ M, runM zeroM (wordsT s) = (M, 0) ∧ Inv (wordsT s) M ∧ allE M = 0 ∧ parseM s = (M, 0) ∧ linE s.data.toList = 0) ∨ ((parseM s).1 = zeroM ∧ (parseM s).2 ≠ 0) := by
  unfold parseM
  by_cases h0 : linE s.data.toList = 0
  · rw [if_pos h0]
    unfold linesM
    cases hr : runM zeroM (wordsT s) with
    | mk M E =>
      by_cases hE : E = 0
      · subst hE
        by_cases ha : allE M = 0
        · exact .inl ⟨M, rfl, run_zero_of hr, ha, endM_ok M ha, h0⟩
        · right; rw [endM_no M ha]; exact ⟨rfl, ha⟩
      · right
        unfold endM
        rw [if_neg hE]; exact ⟨rfl, hE⟩
  · rw [if_neg h0]; exact .inr ⟨rfl, h0⟩
/-- Lines in another order are the same master data. -/
theorem order_lines {s : ByteArray} {M : Mast} (h : Inv (wordsT s) M) (ha : allE M = 0) {l : List (List ByteArray)} (hp : (wordsT s).Perm l) : linesM l = (M, 0) := by
  obtain ⟨N, hN, hi⟩ := run_ok (h.ok.perm hp)
  have e := h.uniq hi hp
  subst e
  unfold linesM
  rw [hN, endM_ok M ha]
theorem out_perm {s : ByteArray} {M : Mast} (hr : runM zeroM (wordsT s) = (M, 0)) (ha : allE M = 0) : (wordsT s).Perm (outM M) := by
  have h := run_zero_of hr
  rw [out_all h ha]
  have := out_run hr
  rw [outO_zero, List.nil_append] at this
  exact this.symm
theorem szL_perm {l k : List (List ByteArray)} (h : l.Perm k) : szL l = szL k := by
  unfold szL
  exact (h.map szW).sum_nat
/-- A text of lines is what they are. -/
theorem parse_text {l : List (List ByteArray)} (h : ∀ ws ∈ l, rightW ws) (hs : szL l ≤ 20000) : parseM (mkB (textW l)) = linesM l := by
  obtain ⟨h1, h2⟩ := text_back l h hs
  unfold parseM
  rw [if_pos h1, h2]
/-- Master data come back from their text. -/
theorem print_back {s : ByteArray} {M : Mast} (hr : runM zeroM (wordsT s) = (M, 0)) (ha : allE M = 0) (hs : s.size ≤ 4000) : parseM (mkB (textW (outM M))) = (M, 0) := by
  have hp := out_perm hr ha
  have h1 := text_size s
  rw [parse_text (fun ws hw => text_right s ws ((hp.mem_iff).2 hw)) (by rw [← szL_perm hp]; omega)]
  exact order_lines (run_zero_of hr) ha hp
/-! ### A line twice -/
theorem runM_append (l k : List (List ByteArray)) (M : Mast) : runM M (l ++ k) = if (runM M l).2 = 0 then runM (runM M l).1 k else runM M l := by
  induction l generalizing M with
  | nil => simp [runM]
  | cons ws l ih =>
    rw [List.cons_append]
    by_cases hs : stepE M ws = 0
    · rw [runM_cons _ _ _ hs, runM_cons _ _ _ hs, ih]
    · rw [runM_stop _ _ _ hs, runM_stop _ _ _ hs, if_neg hs]
theorem one_twice {l : List (List ByteArray)} {x t : ByteArray} {ws : List ByteArray} (h : l.filterMap (onO t) = oneL x) (hw : ws ∈ l) (h0 : wd ws 0 = t) (hf : formedW ws = true) : oneE x = 7 := by
  have hm : wd ws 1 ∈ l.filterMap (onO t) := List.mem_filterMap.2 ⟨ws, hw, onO_yes h0 hf⟩
  rw [h] at hm
  unfold oneE
  split
  · rename_i e; rw [e, oneL_no] at hm; cases hm
  · rfl
theorem step_twice {l : List (List ByteArray)} {M : Mast} {ws : List ByteArray} (h : Inv l M) (hw : ws ∈ l) : stepE M ws = 7 := by
  unfold stepE
  rcases h.good ws hw with ⟨w0, hp⟩ | ⟨w0, hp⟩ | hf
  · rw [if_pos w0, if_pos hp]
    have hm : (parseA ws).1 ∈ M.chart := (h.chart.mem_iff).2 (List.mem_filterMap.2 ⟨ws, hw, acO_yes w0 hp⟩)
    unfold addE
    rw [(parse_ok hp).2, findL_some hm, if_neg (by simp), if_pos rfl]
  · rw [if_neg (by rw [w0]; decide), if_pos w0, if_pos hp]
    have hm : (Fl.parseF ws).1 ∈ M.flows := (h.flows.mem_iff).2 (List.mem_filterMap.2 ⟨ws, hw, flO_yes w0 hp⟩)
    have hrise := Fl.rise_codes h.sane.fl
    have hk : isK Fl.Flow.code M.flows (Fl.parseF ws).1.code = true := by rw [(isK_find hrise _).1, findK_of_mem hrise hm]; rfl
    unfold Fl.addE
    rw [h.rightF _ hm, hk, if_neg (by simp), if_pos (by simp)]
  · rcases formed_ways hf with ⟨w0, _⟩ | ⟨w0, _⟩ | ⟨w0, _⟩
    · rw [if_neg (by rw [w0]; decide), if_neg (by rw [w0]; decide), if_neg (by rw [hf]; simp), if_pos w0]
      have hm : entOf ws ∈ M.ents := (h.ents.mem_iff).2 (List.mem_filterMap.2 ⟨ws, hw, enO_yes w0 hf⟩)
      unfold entE
      rw [findG_some (key := Ent.code) hm, if_pos rfl]
    · rw [if_neg (by rw [w0]; decide), if_neg (by rw [w0]; decide), if_neg (by rw [hf]; simp), if_neg (by rw [w0]; decide), if_pos w0]
      have hm : linOf ws ∈ M.lines := (h.lines.mem_iff).2 (List.mem_filterMap.2 ⟨ws, hw, liO_yes w0 hf⟩)
      unfold linEr
      rw [findG_some (key := Lin.key) hm, if_pos rfl]
    · rw [if_neg (by rcases w0 with w0 | w0 | w0 | w0 | w0 <;> rw [w0] <;> decide), if_neg (by rcases w0 with w0 | w0 | w0 | w0 | w0 <;> rw [w0] <;> decide), if_neg (by rw [hf]; simp), if_neg (by rcases w0 with w0 | w0 | w0 | w0 | w0 <;> rw [w0] <;> decide), if_neg (by rcases w0 with w0 | w0 | w0 | w0 | w0 <;> rw [w0] <;> decide)]
      rcases w0 with w0 | w0 | w0 | w0 | w0
      · rw [if_pos w0]; exact one_twice h.cur hw w0 hf
      · rw [if_neg (by rw [w0]; decide), if_pos w0]; exact one_twice h.res hw w0 hf
      · rw [if_neg (by rw [w0]; decide), if_neg (by rw [w0]; decide), if_pos w0]; exact one_twice h.dif hw w0 hf
      · rw [if_neg (by rw [w0]; decide), if_neg (by rw [w0]; decide), if_neg (by rw [w0]; decide), if_pos w0]; exact one_twice h.min hw w0 hf
      · rw [if_neg (by rw [w0]; decide), if_neg (by rw [w0]; decide), if_neg (by rw [w0]; decide), if_neg (by rw [w0]; decide)]; exact one_twice h.stk hw w0 hf
theorem lines_twice {l : List (List ByteArray)} {M : Mast} {ws : List ByteArray} (hr : runM zeroM l = (M, 0)) (hw : ws ∈ l) : linesM (l ++ [ws]) = (zeroM, 7) := by
  have h7 := step_twice (run_zero_of hr) hw
  unfold linesM
  rw [runM_append, hr, if_pos rfl, runM_stop _ _ _ (by rw [h7]; decide), h7, endM_stop _ (by decide)]
/-! ### Lines left out -/
theorem fm_nil {α : Type} {f : List ByteArray → Option α} {l : List (List ByteArray)} (h : ∀ ws ∈ l, f ws = none) : l.filterMap f = [] := by
  induction l with
  | nil => rfl
  | cons a l ih => rw [List.filterMap_cons, h a (List.mem_cons_self ..)]; exact ih fun ws hw => h ws (List.mem_cons_of_mem _ hw)
theorem oneL_emp {x : ByteArray} (h : oneL x = []) : x = emp := by
  unfold oneL at h
  split at h
  · assumption
  · cases h
theorem one_gone {l : List (List ByteArray)} {x t : ByteArray} (h : l.filterMap (onO t) = oneL x) (hl : ∀ ws ∈ l, wd ws 0 ≠ t) : x = emp :=
  oneL_emp (by rw [← h]; exact fm_nil fun ws hw => onO_no (hl ws hw))
theorem needs_run {l k : List (List ByteArray)} {M : Mast} (hr : runM zeroM l = (M, 0)) (hk : k.Sublist l) : ∃ N, runM zeroM k = (N, 0) ∧ Inv k N := run_ok ((run_zero_of hr).ok.sub hk)
theorem allE_six {M : Mast} (h : M.cur = emp ∨ rolesN M = false) : allE M = 6 := by
  unfold allE
  rw [if_pos]
  rcases h with h | h
  · rw [h]; simp
  · rw [h]; simp
theorem linesM_six {k : List (List ByteArray)} {N : Mast} (hr : runM zeroM k = (N, 0)) (h : N.cur = emp ∨ rolesN N = false) : linesM k = (zeroM, 6) := by
  unfold linesM
  have := allE_six h
  rw [hr, endM_no N (by rw [this]; decide), this]
theorem roles_gone {k : List (List ByteArray)} {N : Mast} (h : Inv k N) (he : N.res = emp ∨ N.dif = emp ∨ N.min = emp ∨ N.stk = emp) : rolesN N = false := by
  cases hr : rolesN N with
  | false => rfl
  | true =>
    obtain ⟨h1, h2, h3, h4⟩ := roles_ne h hr
    rcases he with e | e | e | e
    · exact absurd e h1
    · exact absurd e h2
    · exact absurd e h3
    · exact absurd e h4
/-- Without a group, a reserve, a differ, a minor or a stake. -/
theorem needs_one {l k : List (List ByteArray)} {M : Mast} {t : ByteArray} (ht : t ∈ ones) (hr : runM zeroM l = (M, 0)) (hk : k.Sublist l) (hl : ∀ ws ∈ k, wd ws 0 ≠ t) : linesM k = (zeroM, 6) := by
  obtain ⟨N, hN, hi⟩ := needs_run hr hk
  refine linesM_six hN ?_
  simp only [ones, List.mem_cons, List.not_mem_nil, or_false] at ht
  rcases ht with rfl | rfl | rfl | rfl | rfl
  · exact .inl (one_gone hi.cur hl)
  · exact .inr (roles_gone hi (.inl (one_gone hi.res hl)))
  · exact .inr (roles_gone hi (.inr (.inl (one_gone hi.dif hl))))
  · exact .inr (roles_gone hi (.inr (.inr (.inl (one_gone hi.min hl)))))
  · exact .inr (roles_gone hi (.inr (.inr (.inr (one_gone hi.stk hl)))))
/-- Without flows but those that move. -/
theorem needs_flow {l k : List (List ByteArray)} {M : Mast} (hr : runM zeroM l = (M, 0)) (hk : k.Sublist l) (hl : ∀ ws ∈ k, wd ws 0 = Fl.tFlow → wd ws 2 = Fl.tMove) : linesM k = (zeroM, 6) ∨ linesM k = (zeroM, 8) := by
  obtain ⟨N, hN, hi⟩ := needs_run hr hk
  have hno : Fl.wholeF N.flows = false := by
    have h0 : Fl.hasF N.flows 0 = false := by
      unfold Fl.hasF
      rw [decide_eq_false]
      intro hp
      obtain ⟨c, hc⟩ := List.exists_mem_of_length_pos hp
      obtain ⟨f, hf, hk0, _⟩ := Fl.mem_of.1 hc
      have hm := (hi.flows.mem_iff).1 hf
      obtain ⟨ws, hw, he⟩ := List.mem_filterMap.1 hm
      unfold flO at he
      split at he
      · rename_i h2
        cases he
        have hmv := hl ws hw h2.1
        rcases Fl.parse_err ws with e | ⟨e, er, _⟩
        · rw [e] at h2; simp at h2
        · rw [Fl.words_of er] at e
          rw [← e] at hmv
          rw [hk0] at hmv
          exact absurd hmv (show Fl.tOpen ≠ Fl.tMove by decide)
      · cases he
    unfold Fl.wholeF
    rw [h0]; rfl
  by_cases h6 : (decide (N.cur = emp) || !rolesN N || !linesN N) = true
  · left
    have e : allE N = 6 := by unfold allE; rw [if_pos h6]
    unfold linesM
    rw [hN, endM_no N (by rw [e]; decide), e]
  · right
    have e : allE N = 8 := by unfold allE; rw [if_neg h6, if_pos hno]
    unfold linesM
    rw [hN, endM_no N (by rw [e]; decide), e]
end Go.Proofs.YticdmlijacnjbaaGreatDoor.Un
