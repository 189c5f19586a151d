
/- The walk of codec.Print: the text of any cube that may be printed; what was there stays. -/
import Derived.Test.YtdnneognilffaaaGreatDoorCdWords
import Derived.Lib.ItoaLen
import Derived.OwnWalk
import Derived.Handy
namespace Go.Proofs.YtdnneognilffaaaGreatDoor.Cd
open Go.Proofs.YtdnneognilffaaaGreatDoor.Fa Go.RowKit

/-! ### How long texts are -/
theorem itoa_len {n : Int} (h : fit n = true) : (Lib.itoa n).length ≤ 21 := Lib.itoa_length_le n ((fit_iff n).1 h).1 ((fit_iff n).1 h).2
theorem factL_le {f : Fact} (h : keyOk f.key = true) (hf : fit f.amt = true) : (factL f).length ≤ 95 := by
  obtain ⟨h1, h2, h3, h4, h5, h6⟩ := key_words h
  have hm : fit f.key.m = true := (fit_iff _).2 (by omega)
  have a := (name_word h1).2.2.2
  have b := (name_word h2).2.2.2
  have c := (name_word h3).2.2.2
  have d := (part_word h4).2.2
  have i := itoa_len hm
  have j := itoa_len hf
  rw [factL_eq]
  simp only [List.length_append, List.length_cons, size_list]
  omega
theorem rowsL_le : ∀ {c : List Fact}, (∀ f ∈ c, keyOk f.key = true) → FitC c → (rowsL c).length ≤ c.length * 96
  | [], _, _ => Nat.le_refl _
  | f :: c, h, hf => by
    have h1 := factL_le (h f (List.mem_cons_self ..)) (hf f (List.mem_cons_self ..))
    have h2 := rowsL_le (fun g hg => h g (List.mem_cons_of_mem _ hg)) fun g hg => hf g (List.mem_cons_of_mem _ hg)
    rw [rowsL_cons]
    simp only [List.length_append, List.length_cons]
    omega
theorem firstL_le {n : Nat} (h : n ≤ 1000000) : (firstL n).length ≤ 26 := by
  have := itoa_len (n := (n : Int)) ((fit_iff _).2 (by omega))
  unfold firstL
  simp only [List.length_append, List.length_cons, List.length_nil]
  omega
theorem textL_le {c : List Fact} (h : okC c = true) (hf : FitC c) (hc : c.length ≤ 1000000) : (textL c).length ≤ c.length * 96 + 27 := by
  have h1 := rowsL_le (okC_keys h) hf
  have h2 := firstL_le hc
  rw [textL_eq]
  simp only [List.length_append, List.length_cons]
  omega

/-- What Print tells. -/
def prS (c : List Fact) : ByteArray := if okC c = true then mkB (textL c) else ⟨#[]⟩
def prE (c : List Fact) : Int := if okC c = true then 0 else 1
theorem prS_yes {c : List Fact} (h : okC c = true) : prS c = mkB (textL c) := if_pos h
theorem prE_yes {c : List Fact} (h : okC c = true) : prE c = 0 := if_pos h
theorem prS_no {c : List Fact} (h : okC c = false) : prS c = ⟨#[]⟩ := if_neg (by rw [h]; decide)
theorem prE_no {c : List Fact} (h : okC c = false) : prE c = 1 := if_neg (by rw [h]; decide)
/-- Numbers of 64 bits. -/
def In64s (c : List Fact) : Prop := ∀ f ∈ c, In64 f.key.m ∧ In64 f.amt
theorem In64s.fit {c : List Fact} (h : In64s c) : FitC c := fun f hf => fit_of_in64 (h f hf).2

/-- Between two lines of Print. -/
structure PrAt (W0 wr : World) (v : Value) (K : List (List ByteArray)) : Prop where
  rows : RowsAt wr W0.heap.size 51 v K
  bel : Below W0.heap.size W0 wr
  len : K.length ≤ 90000
theorem info_pline : (Tryz.prog.info? 51).map (fun i => (i.zero, i.size, i.bytes)) = some (some (.agg #[.int .i64 0, .slice none 0 0]), 2, 32) := by kernel_rfl
theorem map_take_succ {α β : Type} {f : α → β} {L : List α} {i : Nat} {x : α} (h : L[i]? = some x) : (L.take (i + 1)).map f = (L.take i).map f ++ [f x] := by
  have hi := (List.getElem?_eq_some_iff.1 h).1
  rw [List.take_succ_eq_append_getElem hi, (List.getElem?_eq_some_iff.1 h).2]; simp
set_option maxRecDepth 100000 in
set_option maxHeartbeats 16000000 in
theorem cprint_any (v : Value) (c : List Fact) (w : World) (h : FactsV w v c) (hL : c.length ≤ 100000) (hz : In64s c) (hl : Laid w) :
    Calls Tryz.prog 6 #[v] w fun e w' => e = .returned (.tuple #[.string (prS c), .int .i64 (prE c)]) ∧ Below w.heap.size w w' := by
  have HV := Lib.hid h
  have HPC := Lib.hid (printable_any v c w h hL)
  have HZ := Lib.hid hz
  have HLW := Lib.hid hl
  obtain ⟨p, cp, rfl, hcap, hm, _, _⟩ := h
  obtain ⟨n, hn⟩ : ∃ n, c.length = n := ⟨_, rfl⟩
  rw [hn] at hcap hL HV HPC ⊢
  have HN := Lib.hid hn
  unfold maxLen at hm
  cases hok : okC c with
  | false =>
    rw [hok] at HPC
    rw [prS_no hok, prE_no hok]
    clear hok hn hz hl
    go_enter Tryz.func6, Tryz.ntmps6
    go_wp2_with fail
    refine HPC.out.mono ?_
    rintro e w1 ⟨rfl, hb1⟩
    go_wp2
    go_ret2
    exact ⟨rfl, hb1⟩
  | true =>
    rw [hok] at HPC
    rw [prS_yes hok, prE_yes hok]
    have h2k : n ≤ 2000 := by have := (of_decide_eq_true (okC_right hok) : RightP c).1; omega
    obtain ⟨M, hM⟩ : ∃ M, numB (n : Int) = M := ⟨_, rfl⟩
    have HPM : Hid (∀ W, Laid W → Calls Tryz.prog 14 #[.int .i64 (n : Int)] W fun e w' => e = .returned (.string M) ∧ Below W.heap.size W w') := Lib.hid (fun W h => by rw [← hM]; exact print_any (n : Int) W ⟨by omega, by omega⟩ h)
    have HTL : Hid (zn ([headB, M] :: c.map wordsF) = linesC c) := Lib.hid (by rw [← hM, ← hn]; simp [zn, linesC])
    have HTS : Hid ((joinL (linesC c)).length ≤ 1000000000) := Lib.hid (by
      have := textL_le hok hz.fit (by omega)
      have e : textL c = joinL (linesC c) := rfl
      rw [e] at this
      omega)
    obtain ⟨RES, hRES⟩ : ∃ RES, mkB (textL c) = RES := ⟨_, rfl⟩
    have HRES : Hid (mkB (joinL (linesC c)) = RES) := Lib.hid hRES
    rw [hRES]
    obtain ⟨i0, hi, hz0, hz1, hz2⟩ := info_parts info_pline
    have HI := Lib.hid (And.intro hi (And.intro hz0 (And.intro hz1 hz2)))
    clear hok hn hz hl hRES hM hi hz0 hz1 hz2
    go_enter Tryz.func6, Tryz.ntmps6
    go_wp2_with fail
    refine HPC.out.mono ?_
    rintro e w1 ⟨rfl, hb1⟩
    have HB1 := Lib.hid hb1
    have HL1 := Lib.hid (HLW.out.below hb1)
    clear hb1 HPC
    go_wp2_with fail
    refine (HPM.out _ HL1.out).mono ?_
    rintro e w2 ⟨rfl, hb2⟩
    have HB2 := Lib.hid (HB1.out.trans (hb2.mono HB1.out.size))
    clear hb2 HL1
    have hb3 := ((Below.refl w2.heap.size w2).alloc (Nat.le_refl _) (.cells #[.string ⟨#[99, 117, 98, 101]⟩, .string M] 9)).alloc (by simp) (.cells #[.int .i64 0, .slice (some ⟨w2.heap.size, 0, none⟩) 2 2] 51)
    have hr3 := rows_one (w2.alloc (.cells #[.string ⟨#[99, 117, 98, 101]⟩, .string M] 9)) w.heap.size 51 (.slice (some ⟨w2.heap.size, 0, none⟩) 2 2) [headB, M] (row_base (own_new w2 [headB, M] 9 (by simp [maxLen])) HB2.out.size) (by have := HB2.out.size; simp; omega)
    rw [World.size_alloc] at hr3
    obtain ⟨W3, hW3⟩ : ∃ W3, (w2.alloc (.cells #[.string ⟨#[99, 117, 98, 101]⟩, .string M] 9)).alloc (.cells #[.int .i64 0, .slice (some ⟨w2.heap.size, 0, none⟩) 2 2] 51) = W3 := ⟨_, rfl⟩
    rw [hW3] at hb3 hr3
    have HP3 : Hid (PrAt w W3 (.slice (some ⟨w2.heap.size + 1, 0, none⟩) 1 1) ([headB, M] :: (c.take 0).map wordsF)) := Lib.hid ⟨hr3, HB2.out.trans (hb3.mono HB2.out.size), by simp⟩
    clear hb3 hr3 HB2
    go_wp2
    clear hW3
    go_loopw [4, 18] (fun s4 s18 wr => ∃ (i : Nat) (v4 : Value), i ≤ n ∧ s18 = .int .i64 (i : Int) ∧ v4 = s4 ∧ Hid (PrAt w wr v4 ([headB, M] :: (c.take i).map wordsF))) (fun _ s18 _ => n - (intOf s18).toNat)
    case atStart => exact ⟨0, _, Nat.zero_le _, rfl, rfl, HP3⟩
    case round =>
      obtain ⟨i, v4, hin, rfl, rfl, HP⟩ := hrel
      obtain ⟨KK, hKK⟩ : ∃ KK, [headB, M] :: (c.take i).map wordsF = KK := ⟨_, rfl⟩
      rw [hKK] at HP
      by_cases hlt : i < n
      · obtain ⟨x, hx⟩ : ∃ x, c[i]? = some x := ⟨_, List.getElem?_eq_getElem (by rw [HN.out]; exact hlt)⟩
        obtain ⟨b, o, rfl, hat⟩ := ElsV.at_ HV.out hx
        obtain ⟨r0, r1, r2, r3, r4, r5⟩ := fact6 (hat.keep HP.out.bel hat.lt)
        simp only [show encF.k = 6 from rfl] at r0 r1 r2 r3 r4 r5
        obtain ⟨WS, hWS⟩ : ∃ WS, wordsF x = WS := ⟨_, rfl⟩
        have HWL : Hid (WS.length = 6) := Lib.hid (by rw [← hWS]; rfl)
        have HTK : Hid (KK ++ [WS] = [headB, M] :: (c.take (i + 1)).map wordsF) := Lib.hid (by rw [map_take_succ hx, ← hKK, hWS]; simp)
        have HKL : Hid (KK.length ≤ 2001) := Lib.hid (by rw [← hKK]; simp; omega)
        have hxm := HZ.out x (List.mem_of_getElem? hx)
        have hbx := (Below.refl wr.heap.size wr).alloc (Nat.le_refl _) (.cells #[.string x.key.e, .string x.key.a, .string x.key.f, .string x.key.p, .int .i64 x.key.m, .int .i64 x.amt] 43)
        have HBX0 := Lib.hid hbx
        obtain ⟨q0, q1, q2, q3, q4, q5⟩ := fact6 (BoxE.new encF wr x 43).at0
        simp only [Nat.zero_add] at q0 q1 q2 q3 q4 q5
        have HL4 := Lib.hid (HLW.out.below (HP.out.bel.trans (hbx.mono HP.out.bel.size)))
        have HWO := Lib.hid (fun W hW => wordsOf_any x W hxm.1 hxm.2 hW)
        simp only [hWS] at HWO
        clear hKK hx hat hxm hbx hWS
        go_wp2_with fail
        clear r0 r1 r2 r3 r4 r5 q0 q1 q2 q3 q4 q5
        refine (HWO.out _ HL4.out).mono ?_
        rintro e w5 ⟨pu, cu, rfl, ho5, hb5⟩
        have HBX := Lib.hid (HBX0.out.trans (hb5.mono HBX0.out.size))
        have HU5 : Hid (w5.ownsRow w.heap.size 9 1 (.slice pu 6 cu) WS.length (WS.map Value.string)) := Lib.hid (by rw [HWL.out]; exact row_base ho5 (Nat.le_trans HP.out.bel.size HBX0.out.size))
        have HP5 : Hid (PrAt w w5 v4 KK) := Lib.hid ⟨HP.out.rows.below HBX.out, HP.out.bel.trans (HBX.out.mono HP.out.bel.size), HP.out.len⟩
        have BX5 := Lib.hid ((Below.refl w5.heap.size w5).alloc (Nat.le_refl _) (.cells #[.int .i64 0, .slice pu 6 cu] 51))
        clear ho5 hb5
        go_wp2_with (at_builtin; refine wpList_append_line rfl _ _ 52 rfl w.heap.size 51 i0 Tryz.underlying52 HI.out.1 HI.out.2.1 HI.out.2.2.1 HI.out.2.2.2 (by decide) KK WS (.slice pu 6 cu) w5.heap.size (HP5.out.rows.below BX5.out) rfl (line_new w5 _ _).1 (line_new w5 _ _).2 (row_below HU5.out BX5.out) (Nat.le_trans HP5.out.bel.size BX5.out.size) (by have := HP5.out.len; omega) ?_; intro v6 w6 hr6 hb6 hg6)
        have HP6 : Hid (PrAt w w6 v6 (KK ++ [WS])) := Lib.hid ⟨hr6, (HP5.out.bel.trans (BX5.out.mono HP5.out.bel.size)).trans hb6, by have := HKL.out; simp; omega⟩
        clear hr6 hb6 hg6
        go_wp2
        go_roundw
        case rel => exact ⟨i + 1, _, by omega, by go_num, rfl, by rw [← HTK.out]; exact HP6⟩
        case measure => simp [intOf]; omega
      · have HKN : Hid (KK = [headB, M] :: c.map wordsF) := Lib.hid (by rw [← hKK, List.take_of_length_le (by rw [HN.out]; omega)])
        have HLN : Hid (LinesV wr v4 (linesC c)) := Lib.hid (by rw [← HTL.out, ← HKN.out]; exact HP.out.rows.lines)
        clear hKK
        go_wp2_with fail
        refine (join_any v4 (linesC c) wr HLN.out HTS.out).mono ?_
        rintro e w5 ⟨rfl, hb5⟩
        rw [HRES.out]
        go_wp2
        go_ret2
        exact ⟨rfl, HP.out.bel.trans (hb5.mono HP.out.bel.size)⟩
end Go.Proofs.YtdnneognilffaaaGreatDoor.Cd
