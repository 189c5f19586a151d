/- UnitNeedsLaw: texts put together (each begins with what it is). -/
import Derived.Test.YticdmlijacnjbaaGreatDoorM28
import Derived.Test.YticdmlijacnjbaaGreatDoorM30
/- The walk of UnitNeeds: it returns true. -/
namespace Go.Proofs.YticdmlijacnjbaaGreatDoor.Un
open Go.RowKit

theorem ours_few2 (c f e l : Value) (M : Mast) (w : World) (h : MastIn w c f e l M) (hs : Sane M) : Calls Tryz.prog 14 #[aggM c f e l M] w (MastGiven w M) :=
  ours_any c f e l M w h (by have := hs.lc; omega) (by have := hs.lf; omega) (by have := hs.le; omega) hs.ll
theorem hl_new2 (w : World) (n : Int) (u : Value) (t : TypeId) : (w.alloc (.cells #[.int .i64 n, u] t)).cell? ⟨w.heap.size, 0, none⟩ = some (.int .i64 n) ∧ (w.alloc (.cells #[.int .i64 n, u] t)).cell? ⟨w.heap.size, 1, none⟩ = some u :=
  ⟨(cell_of_row _ w.heap.size 0 _ t (0, 0) (heap_alloc_new w _)).trans rfl, (cell_of_row _ w.heap.size 1 _ t (0, 0) (heap_alloc_new w _)).trans rfl⟩
/-- Is a line kept, if those with this word go? -/
def keepW (word : ByteArray) (ws : List ByteArray) : Bool := !(decide (wd ws 0 = word)) || (decide (word = Fl.tFlow) && decide (wd ws 2 = Fl.tMove))
def six : List ByteArray := [tGroup, tReserve, tMinor, tDiffer, tStake, Fl.tFlow]
theorem six_ways {word : ByteArray} {q : Nat} (h : six[q]? = some word) : word ∈ ones ∨ word = Fl.tFlow := by
  have := List.mem_of_getElem? h
  simp only [six, List.mem_cons, List.not_mem_nil, or_false] at this
  simp only [ones, List.mem_cons, List.not_mem_nil, or_false]
  rcases this with rfl | rfl | rfl | rfl | rfl | rfl <;> simp
theorem ones_flow {word : ByteArray} (h : word ∈ ones) : word ≠ Fl.tFlow := by
  simp only [ones, List.mem_cons, List.not_mem_nil, or_false] at h
  rcases h with rfl | rfl | rfl | rfl | rfl <;> decide
theorem szL_sub {k l : List (List ByteArray)} (h : k.Sublist l) : szL k ≤ szL l := by
  have e : ∀ (a : List ByteArray) (r : List (List ByteArray)), szL (a :: r) = szW a + szL r := fun _ _ => rfl
  induction h with
  | slnil => exact Nat.le_refl _
  | cons a _ ih => rw [e]; omega
  | cons_cons a _ ih => rw [e, e]; omega
/-- What a text without these lines is. -/
theorem needs_text {s : ByteArray} {M : Mast} (hr : runM zeroM (wordsT s) = (M, 0)) (hs : s.size ≤ 4000) {word : ByteArray} (hw : word ∈ ones ∨ word = Fl.tFlow) :
    (textW ((wordsT s).filter (keepW word))).length ≤ 30000 ∧ (parseM (mkB (textW ((wordsT s).filter (keepW word))))).1 = zeroM ∧ ((parseM (mkB (textW ((wordsT s).filter (keepW word))))).2 = 6 ∨ (word = Fl.tFlow ∧ (parseM (mkB (textW ((wordsT s).filter (keepW word))))).2 = 8)) := by
  have h1 := text_size s
  have hsub : ((wordsT s).filter (keepW word)).Sublist (wordsT s) := List.filter_sublist
  have h2 : szL ((wordsT s).filter (keepW word)) ≤ szL (wordsT s) := szL_sub hsub
  have hp : parseM (mkB (textW ((wordsT s).filter (keepW word)))) = linesM ((wordsT s).filter (keepW word)) := parse_text (fun us hu => text_right s us (hsub.mem hu)) (by omega)
  rw [hp]
  refine ⟨by rw [textW_length]; omega, ?_⟩
  rcases hw with ho | rfl
  · have hl : ∀ ws ∈ (wordsT s).filter (keepW word), wd ws 0 ≠ word := fun ws hw e => by
      have := (List.mem_filter.1 hw).2
      unfold keepW at this
      rw [decide_eq_true e, decide_eq_false (ones_flow ho)] at this
      cases this
    rw [needs_one ho hr hsub hl]
    exact ⟨rfl, .inl rfl⟩
  · have hl : ∀ ws ∈ (wordsT s).filter (keepW Fl.tFlow), wd ws 0 = Fl.tFlow → wd ws 2 = Fl.tMove := fun ws hw e => by
      have := (List.mem_filter.1 hw).2
      unfold keepW at this
      rw [decide_eq_true e, decide_eq_true rfl] at this
      simpa using this
    rcases needs_flow hr hsub hl with h | h
    · rw [h]; exact ⟨rfl, .inl rfl⟩
    · rw [h]; exact ⟨rfl, .inr ⟨rfl, rfl⟩⟩
theorem flow_len {ws : List ByteArray} (h : Good ws) (h0 : wd ws 0 = Fl.tFlow) : ws.length = 3 := by
  rcases h with ⟨e, _⟩ | ⟨_, hp⟩ | hf
  · rw [h0] at e; exact absurd e (by decide)
  · by_cases hl : ws.length = 3
    · exact hl
    · rw [Fl.parse_len hl] at hp; simp at hp
  · rcases formed_ways hf with ⟨e, _⟩ | ⟨e, _⟩ | ⟨e, _⟩
    · rw [h0] at e; exact absurd e (by decide)
    · rw [h0] at e; exact absurd e (by decide)
    · rw [h0] at e
      rcases e with e | e | e | e | e <;> exact absurd e (by decide)
abbrev restL (word : ByteArray) (L : List (Int × List ByteArray)) : List (Int × List ByteArray) := L.filter fun x => keepW word x.2
theorem rest_yes {word : ByteArray} {L : List (Int × List ByteArray)} {i : Nat} {x : Int × List ByteArray} (hx : L[i]? = some x) (hk : keepW word x.2 = true) : restL word (L.take (i + 1)) = restL word (L.take i) ++ [x] := by
  rw [take_more hx, restL, List.filter_append, List.filter_cons, hk]; rfl
theorem rest_no {word : ByteArray} {L : List (Int × List ByteArray)} {i : Nat} {x : Int × List ByteArray} (hx : L[i]? = some x) (hk : keepW word x.2 = false) : restL word (L.take (i + 1)) = restL word (L.take i) := by
  rw [take_more hx, restL, List.filter_append, List.filter_cons, hk]; simp
theorem rest_small {L : List (Int × List ByteArray)} {N : Nat} (word : ByteArray) (i : Nat) (hn : L.length = N) (h : N ≤ 4001) : (restL word (L.take i)).length ≤ 100000 := by
  have h1 : (restL word (L.take i)).length ≤ (L.take i).length := List.length_filter_le _ _
  rw [List.length_take] at h1
  omega
theorem hu7_of {w w' : World} {B n : Nat} {p : Option Addr} {ws : List ByteArray} {c : Nat} (h : w.ownsRow B 9 1 (.slice p ws.length c) ws.length (ws.map Value.string)) (hn : ws.length = n) (hb : Below w.heap.size w w') : w'.ownsRow B 9 1 (.slice p n c) ws.length (ws.map Value.string) := by
  subst hn
  exact row_below h hb
/-- Between two lines of UnitNeeds. -/
structure NeedsAt (W5 wr : World) (B : Nat) (v : Value) (L : List (Int × List ByteArray)) (word : ByteArray) (i : Nat) : Prop where
  had : HadAt wr W5.heap.size B v (restL word (L.take i))
  bel : Below W5.heap.size W5 wr
set_option maxRecDepth 100000 in
set_option maxHeartbeats 16000000 in
theorem unitNeeds_walk (s : ByteArray) (a : Int) (w : World) (_hs0 : s.size ≤ maxLen) (ha : InU8 a) (hU : LaidU w) : Calls Tryz.prog 9 #[.string s, .int .u8 a] w fun en w' => en = .returned (.bool true) ∧ Below w.heap.size w w' := by
  have HL := Lib.hid hU.1
  have HLF := Lib.hid hU.2
  clear hU _hs0
  go_enter Tryz.func9, Tryz.ntmps9
  go_wp2_with fail
  refine (alive_any _ HL.out HLF.out).mono ?_
  rintro en w1 ⟨rfl, hb1⟩
  have HB1 := Lib.hid hb1
  have HL1 := Lib.hid (HL.out.below hb1 (Nat.le_refl _))
  have HLF1 := Lib.hid (HLF.out.below hb1 (Nat.le_refl _))
  clear hb1
  by_cases hs : 4000 < s.size
  · go_wp2
    go_ret
    exact ⟨rfl, HB1.out⟩
  go_wp2_with fail
  refine (parse_told s _ (by omega) HL1.out HLF1.out).mono ?_
  rintro en w2 ⟨M, c, f, e, l, n, rfl, hm, hb2, hor⟩
  obtain ⟨pc, cc, pf, cf, pe, ce, pl, cl, rfl, rfl, rfl, rfl⟩ := mast_shapes hm
  have hb3 := hb2.alloc hb2.size (.cells (cellsM (.slice pc M.chart.length cc) (.slice pf M.flows.length cf) (.slice pe M.ents.length ce) (.slice pl M.lines.length cl) M) 30)
  have HB3 := Lib.hid (HB1.out.trans (hb3.mono HB1.out.size))
  have HM3 := Lib.hid (hm.keep ((Below.refl w2.heap.size w2).alloc (Nat.le_refl _) (.cells (cellsM (.slice pc M.chart.length cc) (.slice pf M.flows.length cf) (.slice pe M.ents.length ce) (.slice pl M.lines.length cl) M) 30)))
  have HN3 := Lib.hid (nine_new w2 (.slice pc M.chart.length cc) (.slice pf M.flows.length cf) (.slice pe M.ents.length ce) (.slice pl M.lines.length cl) M 30)
  have HW2 : Hid (w1.heap.size ≤ w2.heap.size) := Lib.hid hb2.size
  clear hm hb2 hb3
  obtain ⟨m, rfl⟩ := Int.eq_ofNat_of_zero_le ha.1
  have hm255 : m ≤ 255 := by have := ha.2; omega
  clear ha
  have HLN := Lib.hid (fun W => rlines_had s W (by omega))
  go_wp2_with fail
  refine (HLN.out _).mono ?_
  intro en w4 hlh
  obtain ⟨v4, rfl, hh4, hb4⟩ := had_of hlh
  have HB4 := Lib.hid (HB3.out.trans (hb4.mono HB3.out.size))
  have HH4B := Lib.hid hb4
  rcases hor with ⟨rfl, hR⟩ | ⟨hn, hz⟩
  · rw [World.size_alloc] at hh4
    have hlin := hR.lin
    rw [hlin]
    obtain ⟨L, hL⟩ : ∃ L, asB (linV s.data.toList) = L := ⟨_, rfl⟩
    have hWT : wordsT s = L.map (·.2) := by unfold wordsT; rw [hL]
    rw [hL] at hh4
    have HWT := Lib.hid hWT
    have HR := Lib.hid hR
    have HH4 := Lib.hid hh4
    have hNL : L.length ≤ 4001 := by
      have h1 := text_size s
      have h2 := szL_count (wordsT s)
      rw [hWT] at h1 h2
      rw [List.length_map] at h2
      omega
    obtain ⟨N, hN⟩ : ∃ N, L.length = N := ⟨_, rfl⟩
    have HN := Lib.hid hN
    obtain ⟨p4, cap4, rfl⟩ := hh4.len
    rw [hN] at HH4 hNL ⊢
    clear hlh hh4 hb4 hR hL hWT hlin hN HN3
    obtain ⟨q, hq⟩ : ∃ q, m % 6 = q := ⟨_, rfl⟩
    have hq6 : q < 6 := by rw [← hq]; exact Nat.mod_lt _ (by omega)
    have hrem : ((m : Nat) : Int).tmod (6 : Int) = ((q : Nat) : Int) := by
      rw [Int.tmod_eq_emod_of_nonneg (by omega), ← hq]; omega
    obtain ⟨word, hword⟩ : ∃ x, six[q]? = some x := ⟨_, List.getElem?_eq_getElem (by simp [six]; omega)⟩
    have hqz : (q : Int) < 6 := by omega
    have hcell : (w4.alloc (.cells #[.string ⟨#[103, 114, 111, 117, 112]⟩, .string ⟨#[114, 101, 115, 101, 114, 118, 101]⟩, .string ⟨#[109, 105, 110, 111, 114]⟩, .string ⟨#[100, 105, 102, 102, 101, 114]⟩, .string ⟨#[115, 116, 97, 107, 101]⟩, .string ⟨#[102, 108, 111, 119]⟩] 9)).cell? ⟨w4.heap.size, q, none⟩ = some (.string word) := by
      rw [cell_of_row _ w4.heap.size _ _ 9 (0, 0) (heap_alloc_new w4 _)]
      have h1 : (six.map Value.string)[q]? = some (.string word) := by rw [List.getElem?_map, hword]; rfl
      rw [List.getElem?_toArray]
      exact h1
    have HW := Lib.hid (six_ways hword)
    have hb5 := (Below.refl w4.heap.size w4).alloc (Nat.le_refl _) (.cells #[.string ⟨#[103, 114, 111, 117, 112]⟩, .string ⟨#[114, 101, 115, 101, 114, 118, 101]⟩, .string ⟨#[109, 105, 110, 111, 114]⟩, .string ⟨#[100, 105, 102, 102, 101, 114]⟩, .string ⟨#[115, 116, 97, 107, 101]⟩, .string ⟨#[102, 108, 111, 119]⟩] 9)
    have HB5 := Lib.hid (HB4.out.trans (hb5.mono HB4.out.size))
    have HH5 := Lib.hid (HH4.out.below hb5)
    obtain ⟨W5, hW5⟩ : ∃ W5, w4.alloc (.cells #[.string ⟨#[103, 114, 111, 117, 112]⟩, .string ⟨#[114, 101, 115, 101, 114, 118, 101]⟩, .string ⟨#[109, 105, 110, 111, 114]⟩, .string ⟨#[100, 105, 102, 102, 101, 114]⟩, .string ⟨#[115, 116, 97, 107, 101]⟩, .string ⟨#[102, 108, 111, 119]⟩] 9) = W5 := ⟨_, rfl⟩
    rw [hW5] at HB5 HH5 hcell
    clear hword hq hb5
    go_wp2
    clear hW5 hcell
    go_loopw [10, 44] (fun s10 si wr => ∃ (i : Nat) (v10 : Value), i ≤ N ∧ si = .int .i64 (i : Int) ∧ v10 = s10 ∧ Hid (NeedsAt W5 wr (w2.heap.size + 1) v10 L word i)) (fun _ si _ => N - (intOf si).toNat)
    case atStart => exact ⟨0, _, Nat.zero_le _, rfl, rfl, Lib.hid ⟨HadAt.nil _ _ _, Below.refl _ _⟩⟩
    case round =>
      obtain ⟨i, v10, hi, rfl, rfl, HA⟩ := hrel
      by_cases hlt : i < N
      · obtain ⟨⟨num, ws⟩, hx⟩ : ∃ x, L[i]? = some x := ⟨_, List.getElem?_eq_getElem (by rw [HN.out]; exact hlt)⟩
        obtain ⟨g, cap, u, e4, hcap, hcm, c0, c1, hu⟩ := HH5.out.at hx
        rw [HN.out] at e4 hcap
        cases e4
        dsimp only at c0 c1 hu
        have HX := Lib.hid hx
        have hgd : Good ws := HR.out.inv.good ws (by rw [HWT.out]; exact List.mem_map.2 ⟨_, List.mem_of_getElem? hx, rfl⟩)
        have HGD := Lib.hid hgd
        have d0 := (HA.out.bel.cell (World.block_lt_of_cell? W5 _ c0)).trans c0
        have d1 := (HA.out.bel.cell (World.block_lt_of_cell? W5 _ c1)).trans c1
        have hur := row_below hu HA.out.bel
        have hpos := (good_few hgd).1
        rcases hur.2 with ⟨_, e0⟩ | ⟨gu, cu, cur, rfl, _⟩
        · simp at e0; subst e0; simp at hpos
        · obtain ⟨z0, hz0⟩ : ∃ x, ws[0]? = some x := ⟨_, List.getElem?_eq_getElem hpos⟩
          have hwd0 : wd ws 0 = z0 := wd_of hz0
          have k0 : wr.cell? ⟨gu, 0, none⟩ = some (.string z0) := by
            have := hur.cells (g := gu) rfl 0 (.string z0) (by rw [List.getElem?_map, hz0]; rfl)
            rwa [add_off] at this
          have HU := Lib.hid hur
          obtain ⟨nw, hnw⟩ : ∃ nw, ws.length = nw := ⟨_, rfl⟩
          have HNW := Lib.hid hnw
          have hpz : 0 < nw := by rw [← hnw]; exact hpos
          rw [hnw] at d1
          have hb6 := (Below.refl wr.heap.size wr).alloc (Nat.le_refl _) (.cells #[.int .i64 num, .slice (some ⟨gu, 0, none⟩) nw cu] 60)
          have hb7 := hb6.alloc (by simp) (.cells #[.int .i64 num, .slice (some ⟨gu, 0, none⟩) nw cu] 60)
          have HB6 := Lib.hid hb6
          have HB7 := Lib.hid (HA.out.bel.trans (hb7.mono HA.out.bel.size))
          have HR7 := Lib.hid (HA.out.had.below hb7)
          have HU7 := Lib.hid (hu7_of HU.out hnw hb7)
          have y0 := cell_later hb6 k0
          obtain ⟨x0', x1'⟩ := hl_new2 wr num (.slice (some ⟨gu, 0, none⟩) nw cu) 60
          have hn7 := hl_new2 (wr.alloc (.cells #[.int .i64 num, .slice (some ⟨gu, 0, none⟩) nw cu] 60)) num (.slice (some ⟨gu, 0, none⟩) nw cu) 60
          rw [World.size_alloc] at hn7
          have HN7 := Lib.hid hn7
          have HZ0 := Lib.hid hwd0
          unfold maxLen at hcm
          clear hx hgd hu hur hpos hz0 k0 hnw hb6 hb7 hn7 hwd0 c0 c1
          cases h1 : (z0.toList == word.toList) with
          | false =>
            have HKP : Hid (keepW word ws = true) := Lib.hid (by unfold keepW; rw [HZ0.out, decide_eq_false ((Lib.bytes_beq_false_iff z0 word).1 h1)]; rfl)
            go_wp2_with (at_builtin; refine wpList_append_had rfl _ _ rfl W5.heap.size (w2.heap.size + 1) (restL word (L.take i)) num ws (.slice (some ⟨gu, 0, none⟩) nw cu) (wr.heap.size + 1) HR7.out rfl HN7.out.1 HN7.out.2 HU7.out (by have := HA.out.bel.size; simp; omega) (rest_small word i HN.out hNL) ?_; intro v8 w8 hh8 hb8 hg8)
            have HA8 : Hid (NeedsAt W5 w8 (w2.heap.size + 1) v8 L word (i + 1)) := Lib.hid ⟨by rw [rest_yes HX.out HKP.out]; exact hh8, HB7.out.trans hb8⟩
            clear hh8 hb8 hg8 y0 x0' x1'
            go_roundw
            case rel => exact ⟨i + 1, _, by omega, by go_num, rfl, HA8⟩
            case measure => simp [intOf]; omega
          | true =>
            have HEQ := Lib.hid ((Lib.bytes_beq_iff z0 word).1 h1)
            have qf := qFlow word
            by_cases hfl : word = Fl.tFlow
            · rw [decide_eq_true hfl] at qf
              have hn3 : nw = 3 := by rw [← HNW.out]; exact flow_len HGD.out (by rw [HZ0.out, HEQ.out, hfl])
              have HFL := Lib.hid hfl
              subst hn3
              obtain ⟨z2, hz2⟩ : ∃ x, ws[2]? = some x := ⟨_, List.getElem?_eq_getElem (by rw [HNW.out]; omega)⟩
              have k2 : wr.cell? ⟨gu, 2, none⟩ = some (.string z2) := by
                have := HU.out.cells (g := gu) rfl 2 (.string z2) (by rw [List.getElem?_map, hz2]; rfl)
                rwa [add_off] at this
              have y2 := cell_later HB6.out k2
              have HZ2 : Hid (wd ws 2 = z2) := Lib.hid (wd_of hz2)
              have qm : (z2.toList == [109, 111, 118, 101]) = decide (z2 = Fl.tMove) := qL z2 Fl.tMove _ rfl
              clear hfl hz2 k2
              by_cases hmv : z2 = Fl.tMove
              · rw [decide_eq_true hmv] at qm
                have HKP : Hid (keepW word ws = true) := Lib.hid (by unfold keepW; rw [HZ0.out, HZ2.out, HEQ.out, decide_eq_true HFL.out, decide_eq_true hmv]; simp)
                clear hmv
                go_wp2_with (at_builtin; refine wpList_append_had rfl _ _ rfl W5.heap.size (w2.heap.size + 1) (restL word (L.take i)) num ws (.slice (some ⟨gu, 0, none⟩) 3 cu) (wr.heap.size + 1) HR7.out rfl HN7.out.1 HN7.out.2 HU7.out (by have := HA.out.bel.size; simp; omega) (rest_small word i HN.out hNL) ?_; intro v8 w8 hh8 hb8 hg8)
                have HA8 : Hid (NeedsAt W5 w8 (w2.heap.size + 1) v8 L word (i + 1)) := Lib.hid ⟨by rw [rest_yes HX.out HKP.out]; exact hh8, HB7.out.trans hb8⟩
                clear hh8 hb8 hg8 y0 y2 x0' x1'
                go_roundw
                case rel => exact ⟨i + 1, _, by omega, by go_num, rfl, HA8⟩
                case measure => simp [intOf]; omega
              · rw [decide_eq_false hmv] at qm
                have HKP : Hid (keepW word ws = false) := Lib.hid (by unfold keepW; rw [HZ0.out, HZ2.out, HEQ.out, decide_eq_true rfl, decide_eq_false hmv]; simp)
                clear hmv
                have HA8 : Hid (NeedsAt W5 (wr.alloc (.cells #[.int .i64 num, .slice (some ⟨gu, 0, none⟩) 3 cu] 60)) (w2.heap.size + 1) v10 L word (i + 1)) := Lib.hid ⟨by rw [rest_no HX.out HKP.out]; exact HA.out.had.below HB6.out, HA.out.bel.trans (HB6.out.mono HA.out.bel.size)⟩
                go_wp2
                go_roundw
                case rel => exact ⟨i + 1, _, by omega, by go_num, rfl, HA8⟩
                case measure => simp [intOf]; omega
            · rw [decide_eq_false hfl] at qf
              have HKP : Hid (keepW word ws = false) := Lib.hid (by unfold keepW; rw [HZ0.out, HEQ.out, decide_eq_true rfl, decide_eq_false hfl]; simp)
              clear hfl
              have HA8 : Hid (NeedsAt W5 (wr.alloc (.cells #[.int .i64 num, .slice (some ⟨gu, 0, none⟩) nw cu] 60)) (w2.heap.size + 1) v10 L word (i + 1)) := Lib.hid ⟨by rw [rest_no HX.out HKP.out]; exact HA.out.had.below HB6.out, HA.out.bel.trans (HB6.out.mono HA.out.bel.size)⟩
              go_wp2
              go_roundw
              case rel => exact ⟨i + 1, _, by omega, by go_num, rfl, HA8⟩
              case measure => simp [intOf]; omega
      · have hte : L.take i = L := List.take_of_length_le (by rw [HN.out]; omega)
        have HHR : Hid (HadAt wr W5.heap.size (w2.heap.size + 1) v10 (restL word L)) := Lib.hid (by have := HA.out.had; rwa [hte] at this)
        clear hte
        have HBR : Hid (Below w.heap.size w wr) := Lib.hid (HB5.out.trans (HA.out.bel.mono HB5.out.size))
        have HLR := Lib.hid (HL.out.below HBR.out (Nat.le_refl _))
        have HLFR := Lib.hid (HLF.out.below HBR.out (Nat.le_refl _))
        have hfew : ∀ x ∈ restL word L, x.2.length ≤ 60 ∧ ∀ y ∈ x.2, y.size ≤ 100 := fun x hx => by
          have hxw : x.2 ∈ wordsT s := by rw [HWT.out]; exact List.mem_map.2 ⟨x, (List.mem_filter.1 hx).1, rfl⟩
          exact (good_few (HR.out.inv.good x.2 hxw)).2
        have hrl : (restL word L).length ≤ 10000 := by
          have h1 : (restL word L).length ≤ L.length := List.length_filter_le _ _
          have := HN.out
          omega
        have HJ := Lib.hid (rjoin_at v10 (restL word L) wr HHR.out.lines hrl hfew)
        have hJT : joinL (restL word L) = textW ((wordsT s).filter (keepW word)) := by rw [joinL_text, HWT.out, List.filter_map]; rfl
        rw [hJT] at HJ
        obtain ⟨hPl, hP1, hP2⟩ := needs_text HR.out.run (by omega : s.size ≤ 4000) HW.out
        obtain ⟨T, hT⟩ : ∃ T, mkB (textW ((wordsT s).filter (keepW word))) = T := ⟨_, rfl⟩
        have hTn : T.size ≤ 30000 := by rw [← hT, mkB_size]; exact hPl
        rw [hT] at HJ hP1 hP2
        have HPA := Lib.hid (parse_any T wr hTn HLR.out HLFR.out)
        rw [hP1] at HPA
        obtain ⟨E, hE⟩ : ∃ E, (parseM T).2 = E := ⟨_, rfl⟩
        rw [hE] at HPA hP2
        have HP2 := Lib.hid hP2
        clear hfew hrl hJT hP1 hP2 hPl hT hTn hE
        go_wp2_with fail
        refine HJ.out.mono ?_
        rintro en w8 ⟨rfl, rfl⟩
        go_wp2_with fail
        refine HPA.out.mono ?_
        rintro en w9 ⟨v9, rfl, ⟨c9, f9, e9, l9, rfl, hm9⟩, hb9⟩
        obtain ⟨qc, dc, qf, df, qe, de, ql, dl, rfl, rfl, rfl, rfl⟩ := mast_shapes hm9
        rcases HP2.out with rfl | ⟨hwf, rfl⟩
        · have hb10 := hb9.alloc hb9.size (.cells (cellsM (.slice qc zeroM.chart.length dc) (.slice qf zeroM.flows.length df) (.slice qe zeroM.ents.length de) (.slice ql zeroM.lines.length dl) zeroM) 30)
          have HB10 := Lib.hid (HBR.out.trans (hb10.mono HBR.out.size))
          have HM10 := Lib.hid (hm9.keep ((Below.refl w9.heap.size w9).alloc (Nat.le_refl _) (.cells (cellsM (.slice qc zeroM.chart.length dc) (.slice qf zeroM.flows.length df) (.slice qe zeroM.ents.length de) (.slice ql zeroM.lines.length dl) zeroM) 30)))
          obtain ⟨k0, k1, k2, k3, k4, k5, k6, k7, k8⟩ := nine_new w9 (.slice qc zeroM.chart.length dc) (.slice qf zeroM.flows.length df) (.slice qe zeroM.ents.length de) (.slice ql zeroM.lines.length dl) zeroM 30
          clear hm9 hb9 hb10
          go_wp2_with fail
          clear k0 k1 k2 k3 k4 k5 k6 k7 k8
          refine (ours_few2 _ _ _ _ zeroM _ HM10.out Sane.zero).mono ?_
          rintro en w11 ⟨v11, rfl, ⟨c11, f11, e11, l11, rfl, hm11⟩, hb11⟩
          obtain ⟨rc, xc, rf, xf, re, xe, rl, xl, rfl, rfl, rfl, rfl⟩ := mast_shapes hm11
          have HB11 := Lib.hid (HB10.out.trans (hb11.mono HB10.out.size))
          have HM11 := Lib.hid hm11
          clear hm11 hb11
          go_wp2_with fail
          refine (same_any _ _ _ _ (.slice none 0 0) (.slice none 0 0) (.slice none 0 0) (.slice none 0 0) zeroM _ HM11.out (MastIn.zero _)).mono ?_
          rintro en w12 ⟨rfl, hb12⟩
          have HB12 := Lib.hid (HB11.out.trans (hb12.mono HB11.out.size))
          clear hb12
          go_wp2
          go_ret
          exact ⟨rfl, HB12.out⟩
        · have qf0 := qFlow word
          rw [decide_eq_true hwf] at qf0
          clear hwf
          have hb10 := hb9.alloc hb9.size (.cells (cellsM (.slice qc zeroM.chart.length dc) (.slice qf zeroM.flows.length df) (.slice qe zeroM.ents.length de) (.slice ql zeroM.lines.length dl) zeroM) 30)
          have HB10 := Lib.hid (HBR.out.trans (hb10.mono HBR.out.size))
          have HM10 := Lib.hid (hm9.keep ((Below.refl w9.heap.size w9).alloc (Nat.le_refl _) (.cells (cellsM (.slice qc zeroM.chart.length dc) (.slice qf zeroM.flows.length df) (.slice qe zeroM.ents.length de) (.slice ql zeroM.lines.length dl) zeroM) 30)))
          obtain ⟨k0, k1, k2, k3, k4, k5, k6, k7, k8⟩ := nine_new w9 (.slice qc zeroM.chart.length dc) (.slice qf zeroM.flows.length df) (.slice qe zeroM.ents.length de) (.slice ql zeroM.lines.length dl) zeroM 30
          clear hm9 hb9 hb10
          go_wp2_with fail
          clear k0 k1 k2 k3 k4 k5 k6 k7 k8
          refine (ours_few2 _ _ _ _ zeroM _ HM10.out Sane.zero).mono ?_
          rintro en w11 ⟨v11, rfl, ⟨c11, f11, e11, l11, rfl, hm11⟩, hb11⟩
          obtain ⟨rc, xc, rf, xf, re, xe, rl, xl, rfl, rfl, rfl, rfl⟩ := mast_shapes hm11
          have HB11 := Lib.hid (HB10.out.trans (hb11.mono HB10.out.size))
          have HM11 := Lib.hid hm11
          clear hm11 hb11
          go_wp2_with fail
          refine (same_any _ _ _ _ (.slice none 0 0) (.slice none 0 0) (.slice none 0 0) (.slice none 0 0) zeroM _ HM11.out (MastIn.zero _)).mono ?_
          rintro en w12 ⟨rfl, hb12⟩
          have HB12 := Lib.hid (HB11.out.trans (hb12.mono HB11.out.size))
          clear hb12
          go_wp2
          go_ret
          exact ⟨rfl, HB12.out⟩
  · clear hz
    have hnz : (n != 0) = true := by simp [hn]
    go_wp2
    go_ret
    exact ⟨rfl, HB4.out⟩
end Go.Proofs.YticdmlijacnjbaaGreatDoor.Un
