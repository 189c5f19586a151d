
/- The walk of ChartFinds: it returns true. -/
import Derived.Test.YtploldcbpejncaaDoorChartHad
namespace Go.Proofs.YtploldcbpejncaaDoor
open Go.RowKit Go.Maps

/-- What the round of the first loop holds. -/
structure FindsAt (w wr : World) (B i : Nat) (v : Value) (A : List Acct) (D : DataW Unit) : Prop where
  chart : ChartV wr v A
  had : Had wr B i D
  agr : Agr A D
  rise : riseL A = true
  few : A.length ≤ 60
  bel : Below w.heap.size w wr
  base : w.heap.size ≤ B
theorem FindsAt.keep {w wr w' : World} {B i : Nat} {v : Value} {A : List Acct} {D : DataW Unit} (h : FindsAt w wr B i v A D) (hb : Below wr.heap.size wr w') : FindsAt w w' B i v A D :=
  ⟨h.chart.keep hb, h.had.below hb, h.agr, h.rise, h.few, h.bel.trans (hb.mono h.bel.size), h.base⟩
theorem Had.mono {w : World} {b n m : Nat} {D : DataW Unit} (h : Had w b n D) (hm : n ≤ m) : Had w b m D := by
  obtain ⟨es, c, h1, h2, h3, h4⟩ := h
  exact ⟨es, c, h1, h2, by omega, h4⟩
theorem FindsAt.step {w wr : World} {B i : Nat} {v : Value} {A : List Acct} {D : DataW Unit} (h : FindsAt w wr B i v A D) : FindsAt w wr B (i + 1) v A D :=
  ⟨h.chart, h.had.mono (Nat.le_succ _), h.agr, h.rise, h.few, h.bel, h.base⟩
theorem FindsAt.drewN {w wr : World} {B i : Nat} {v : Value} {A : List Acct} {D : DataW Unit} (h : FindsAt w wr B i v A D) (q : Nat) : FindsAt w (wr.drewN q) B i v A D := h.keep (below_drewN (Below.refl _ _) q)
theorem FindsAt.added {w wr w' : World} {B i : Nat} {v u : Value} {A : List Acct} {D : DataW Unit} {x : Acct} (h : FindsAt w wr B i v A D) (hE : addE A x = 0) (hc : ChartV wr u (addV A x)) (hm : Had w' B (i + 1) (D.put (kS x.code) (dA x))) (hg : wr.grownBy w' (some B)) : FindsAt w w' B (i + 1) u (insL A x) (D.put (kS x.code) (dA x)) := by
  obtain ⟨_, hn, hl⟩ := addE_zero hE
  have hv : addV A x = insL A x := by unfold addV; rw [if_pos hE]
  rw [hv] at hc
  exact ⟨hc.beside h.had hg, hm, h.agr.put (h.had.tidy law9) x hn, rise_ins A x h.rise hn, by rw [insL_length]; omega, h.bel.grown hg h.bel.size (fun j hj => by cases hj; exact h.base), h.base⟩
theorem ranges_iter {w : World} {b r n cnt : Nat} {D : DataW Unit} {left : Lit → Bool} (h : w.ranges Tryd.prog 9 RA b r n D left cnt) (o : Nat) (v : Value) : w.cell? ⟨r, o, none⟩ ≠ some v := by
  obtain ⟨es, clock, since, seen, c0, _, _, _, _, hr, _⟩ := h
  simp [World.cell?, hr]
theorem ChartV.besideIter {w w' : World} {b r n cnt : Nat} {D : DataW Unit} {left : Lit → Bool} {v : Value} {L : List Acct} (h : ChartV w v L) (hm : w.ranges Tryd.prog 9 RA b r n D left cnt) (hg : w.grownBy w' (some r)) : ChartV w' v L := by
  obtain ⟨p, c, e, h1, h2, h3, hc⟩ := h
  exact ⟨p, c, e, h1, h2, h3, fun i x hx => by
    obtain ⟨b, o, e', hat⟩ := hc i x hx
    have hne : some b ≠ some r := fun e => by cases e; exact ranges_iter hm _ _ hat.c0
    exact ⟨b, o, e', hg.cell hat.c0 hne, hg.cell hat.c1 hne, hg.cell hat.c2 hne, hg.cell hat.c3 hne, hg.cell hat.c4 hne, hg.cell hat.c5 hne⟩⟩
/-- What the round of the second loop holds. -/
def RangeAt (w wq : World) (B r n : Nat) (v : Value) (A : List Acct) (D : DataW Unit) (left : Lit → Bool) (cnt : Nat) : Prop :=
  wq.ranges Tryd.prog 9 RA B r n D left cnt ∧ ChartV wq v A ∧ Below w.heap.size w wq ∧ ∀ kl, left kl = true → Maps.has D kl = true
set_option maxRecDepth 100000 in
set_option maxHeartbeats 8000000 in
theorem chartFinds_walk (v : Value) (L : List Acct) (t : Int) (code : ByteArray) (w : World) (h : ChartV w v L) (ht : InU8 t) (hs : code.size ≤ maxLen) (hL : Laid w) :
    Calls Tryd.prog 5 #[v, .int .u8 t, .string code] w fun e w' => e = .returned (.bool true) ∧ Below w.heap.size w w' := by
  have HV := Lib.hid h
  obtain ⟨p, c, rfl, hcap, hm, _, hc⟩ := h
  obtain ⟨n, hn⟩ : ∃ n, L.length = n := ⟨_, rfl⟩
  rw [hn] at hcap HV ⊢
  have HN := Lib.hid hn
  have HC := Lib.hid hc
  have HL := Lib.hid hL
  have HSZ := Lib.hid hs
  unfold maxLen at hm hs
  clear hL hn hc
  obtain ⟨ht0, ht1⟩ := ht
  obtain ⟨t, rfl⟩ : ∃ tn : Nat, t = (tn : Int) := ⟨t.toNat, by omega⟩
  clear ht0
  obtain ⟨G, hG⟩ : ∃ G, fewA L = G := ⟨_, rfl⟩
  have HFL := Lib.hid (fun W h => few_any (.slice p n c) L W h)
  rw [hG] at HFL
  have HGV := Lib.hid hG
  clear hG
  go_enter Tryd.func5, Tryd.ntmps5
  go_wp2_with fail
  refine (alive_any _ HL.out).mono ?_
  rintro e w1 ⟨rfl, hb1⟩
  have HB1 := Lib.hid hb1
  have HV1 := Lib.hid (HV.out.keep hb1)
  clear hb1
  go_wp2_with fail
  refine (HFL.out _ HV1.out).mono ?_
  rintro e w2 ⟨rfl, hb2⟩
  have HB2 := Lib.hid (HB1.out.trans (hb2.mono HB1.out.size))
  clear hb2 HB1 HV1
  cases G with
  | false =>
    go_wp2
    go_ret
    exact ⟨rfl, HB2.out⟩
  | true =>
    have hn70 : n ≤ 70 := by rw [← HN.out]; exact (fewA_parts HGV.out).1
    by_cases hn0 : n = 0
    · subst hn0
      go_wp2
      go_ret
      exact ⟨rfl, HB2.out⟩
    · have hn0z : ((n : Int) == 0) = false := by simp; omega
      have HN0 : Hid (0 < n) := Lib.hid (by omega)
      clear hn0
      by_cases hc60 : 60 < code.size
      · go_wp2
        go_ret
        exact ⟨rfl, HB2.out⟩
      · have hmm := @run_makeMap Tryd.prog
        have HF0 : Hid (FindsAt w (w2.alloc (.map #[] 0)) w2.heap.size 0 (.slice none 0 0) [] (.map [])) := Lib.hid ⟨ChartV.nil _, World.ownsMap_made _ _ _ _, Agr.nil, rfl, by simp, HB2.out.alloc HB2.out.size _, HB2.out.size⟩
        have hs60 : code.size ≤ 60 := by omega
        have HS60 := Lib.hid hs60
        clear hs60
        go_wp2
        go_loopw [7, 39] (fun s7 s39 wr => ∃ (i : Nat) (A : List Acct) (D : DataW Unit), i ≤ n ∧ s39 = .int .i64 (i : Int) ∧ FindsAt w wr w2.heap.size i s7 A D) (fun _ s39 _ => n - (intOf s39).toNat)
        case atStart => exact ⟨0, [], _, by omega, rfl, HF0.out⟩
        case round =>
          obtain ⟨i, A, D, hi, rfl, hF⟩ := hrel
          have HF := Lib.hid hF
          clear hF
          by_cases hlt : i < n
          · obtain ⟨k, hk⟩ : ∃ k, (i + t) % n = k := ⟨_, rfl⟩
            have hkn : k < n := by rw [← hk]; exact Nat.mod_lt _ (by omega)
            have hkz : ((i : Int) + (t : Int)) % (n : Int) = (k : Int) := by rw [← hk]; simp
            have hkt : Int.tmod ((i : Int) + (t : Int)) (n : Int) = (k : Int) := by rw [Int.tmod_eq_emod_of_nonneg (by omega)]; exact hkz
            clear hk
            obtain ⟨x, hx⟩ : ∃ x, L[k]? = some x := ⟨_, List.getElem?_eq_getElem (by rw [HN.out]; exact hkn)⟩
            obtain ⟨b, o, rfl, hat⟩ := HC.out k x hx
            obtain ⟨c0, c1, c2, c3, c4, c5⟩ := hat.keep HF.out.bel hat.lt
            have HXM := Lib.hid (List.mem_of_getElem? hx)
            clear hx hat
            have hxs : x.code.size ≤ maxLen := by have := ((fewA_parts HGV.out).2 x HXM.out).1; unfold maxLen; omega
            have HKE := Lib.hid (WideMaps.keyOf_string_mk Tryd.underlying9 hxs)
            clear hxs
            have hba := (Below.refl wr.heap.size wr).alloc (Nat.le_refl _) (cells23' x)
            have HFA := Lib.hid (HF.out.keep hba)
            have HXA := Lib.hid (BoxA.new wr x 23)
            obtain ⟨E, hE⟩ : ∃ E, addE A x = E := ⟨_, rfl⟩
            have HAD := Lib.hid (add_any u7 A x _ HFA.out.chart (by have := HF.out.few; omega))
            rw [hE] at HAD
            have HEV := Lib.hid hE
            clear hE hba
            go_wp2_with fail
            clear c0 c1 c2 c3 c4 c5
            refine HAD.out.mono ?_
            rintro e w4 ⟨v4, rfl, hc4, hb4⟩
            have HF4 := Lib.hid (HFA.out.keep hb4)
            have HX4 := Lib.hid (HXA.out.keep hb4 (by simp))
            have HC4 := Lib.hid hc4
            clear hc4 hb4 HF HFA HXA HAD hkz hkt
            by_cases hE0 : E = 0
            · subst hE0
              obtain ⟨c0, c1, c2, c3, c4, c5⟩ := HX4.out.facts
              go_wp2_with (at_mapUpdate; refine wpList_mapUpdate_own _ rfl _ _ _ 43 rfl 9 23 law9 Tryd.underlying43 RA w2.heap.size i D rfl HF4.out.had (by unfold maxLen; omega) _ _ (kS x.code) rfl rfl HKE.out (dA x) [] (RA_mk x) ?_; intro w5 hown5 hg5)
              go_roundw
              case rel => exact ⟨i + 1, _, _, by omega, by go_num, HF4.out.added HEV.out HC4.out hown5 hg5⟩
              case measure => simp [intOf]; omega
            · have hEz : (E == 0) = false := by simpa using hE0
              have HCA : Hid (ChartV w4 v4 A) := Lib.hid (by have := HC4.out; unfold addV at this; rwa [HEV.out, if_neg hE0] at this)
              clear hE0
              go_wp2_with fail
              refine (ours_any _ A _ HCA.out (by have := HF4.out.few; omega)).mono ?_
              rintro e w5 ⟨v5, rfl, hc5, hb5⟩
              have HF5 := Lib.hid (HF4.out.keep hb5)
              have HC5 := Lib.hid hc5
              clear hc5 hb5
              go_wp2_with fail
              refine (ours_any _ A _ HF5.out.chart (by have := HF4.out.few; omega)).mono ?_
              rintro e w6 ⟨v6, rfl, hc6, hb6⟩
              have HF6 := Lib.hid (HF5.out.keep hb6)
              have HC6 := Lib.hid (HC5.out.keep hb6)
              have HU6 := Lib.hid hc6
              clear hc6 hb6
              go_wp2_with fail
              refine (same_chart HC6.out HU6.out).mono ?_
              rintro e w7 ⟨rfl, q, rfl⟩
              have HF7 := Lib.hid (HF6.out.drewN q)
              go_wp2
              go_roundw
              case rel => exact ⟨i + 1, _, _, by omega, by go_num, HF7.out.step⟩
              case measure => simp [intOf]; omega
          · obtain rfl : i = n := by omega
            clear hlt
            rename World => wa
            go_wp2_with (at_range; refine wpList_range_own _ rfl _ 43 rfl 9 23 law9 Tryd.underlying43 RA w2.heap.size i D rfl HF.out.had ?_; intro w5 hrg5 hg5 hs5)
            go_frame
            have HR5 : Hid (RangeAt w w5 w2.heap.size wa.heap.size i u7 A D (Maps.has D) (Maps.size D)) := Lib.hid ⟨hrg5, HF.out.chart.keep ⟨hg5.os, hg5.tape, hg5.output, hg5.size, fun k hk => hg5.block k hk (by simp)⟩, HF.out.bel.trans (Below.mono (B := wa.heap.size) ⟨hg5.os, hg5.tape, hg5.output, hg5.size, fun k hk => hg5.block k hk (by simp)⟩ HF.out.bel.size), fun _ h => h⟩
            have HWA : Hid (w.heap.size ≤ wa.heap.size) := Lib.hid HF.out.bel.size
            clear hrg5 hg5 hs5
            go_loopw [13] (fun _ wq => ∃ (left : Lit → Bool) (cnt : Nat), RangeAt w wq w2.heap.size wa.heap.size i u7 A D left cnt) (fun _ wq => wq.rangeLeft w2.heap.size wa.heap.size)
            case atStart => exact ⟨_, _, HR5.out⟩
            case round =>
              obtain ⟨left, cnt, hrg, hcv, hbl, hlf⟩ := hrel
              have HRG := Lib.hid hrg
              have HCV := Lib.hid hcv
              have HBL := Lib.hid hbl
              have HLF := Lib.hid hlf
              clear hrg hcv hbl hlf
              go_wp2_with (at_next; refine wpList_next_ranges _ rfl _ rfl 9 law9 RA Value.string (fun a : Acct => .agg #[.string a.code, .int .i64 a.cls, .bool a.cash, .bool a.both, .string a.fixed, .bool a.worn]) invK invV w2.heap.size wa.heap.size i D left cnt rfl HRG.out ?_ ?_)
              · intro _ _
                have HMO := Lib.hid HRG.out.owns
                obtain ⟨S, hS⟩ : ∃ S, (findL A code).isSome = S := ⟨_, rfl⟩
                have HFC := Lib.hid (find_any u7 A code _ HCV.out)
                rw [hS] at HFC
                have hhs : Maps.has D (kS code) = S := by rw [HF.out.agr.has, hS]
                have HHS := Lib.hid hhs
                have HKC := Lib.hid (WideMaps.keyOf_string_mk Tryd.underlying9 HSZ.out)
                obtain ⟨f, hf⟩ : ∃ f, findV (findL A code) = f := ⟨_, rfl⟩
                rw [hf] at HFC
                obtain ⟨m, hm7⟩ : ∃ m, A.length = m := ⟨_, rfl⟩
                have HMS : Hid (Maps.size D = m) := Lib.hid (by rw [HF.out.agr.size, hm7])
                have HM60 : Hid (m ≤ 60) := Lib.hid (by rw [← hm7]; exact HF.out.few)
                have HRS := Lib.hid (fun v W h => rise_any v A W h)
                rw [HF.out.rise] at HRS
                have HAM := Lib.hid hm7
                clear hS hhs hf
                go_wp2_with fail
                refine HFC.out.mono ?_
                rintro e w7 ⟨rfl, hb7⟩
                have hb8 := hb7.alloc hb7.size (.cells (cellsA f) 28)
                have HM8 := Lib.hid (Had.below HMO.out hb8)
                have HC8 := Lib.hid (HCV.out.keep hb8)
                have HB8 := Lib.hid (HBL.out.trans (hb8.mono HBL.out.size))
                clear hb7 hb8
                obtain ⟨p7, k7, hu7, _, hm77, _, _⟩ := HF.out.chart
                rw [hm7] at hu7
                subst hu7
                unfold maxLen at hm77
                have HC8' : Hid (ChartV (w7.alloc (.cells (cellsA f) 28)) (.slice p7 m k7) A) := HC8
                clear hm7
                have hm60 : (m : Int) ≤ 60 := by have := HM60.out; omega
                have hSS : (S == S) = true := by simp
                go_wp2_with (first
                  | (at_lookup; refine wpList_lookup_own_ok _ rfl _ _ 43 rfl 9 23 law9 Tryd.underlying43 RA (zero23 _) (dA zeroA) [] (RA_mk zeroA) w2.heap.size i D rfl HM8.out _ (kS code) rfl HKC.out ?_; intro lv lps hlv; rw [HHS.out]; obtain ⟨la, rfl, _⟩ := RA_inv hlv)
                  | (at_len; refine wpList_len_own _ rfl _ 43 rfl 9 23 Tryd.underlying43 RA w2.heap.size i D rfl (HM8.out.alloc (cells23' la)) ?_; rw [HMS.out]))
                have hb9 := (Below.refl (w7.alloc (.cells (cellsA f) 28)).heap.size (w7.alloc (.cells (cellsA f) 28))).alloc (Nat.le_refl _) (cells23' la)
                have HB9 := Lib.hid (HB8.out.trans (hb9.mono HB8.out.size))
                refine (ours_any _ A _ (HC8'.out.keep hb9) (by rw [HAM.out]; have := HM60.out; omega)).mono ?_
                rintro e w10 ⟨v10, rfl, hc10, hb10⟩
                have HB10 := Lib.hid (HB9.out.trans (hb10.mono HB9.out.size))
                have HC10 := Lib.hid hc10
                clear hb9 hc10 hb10
                go_wp2_with fail
                refine (HRS.out _ _ HC10.out).mono ?_
                rintro e w11 ⟨rfl, q, rfl⟩
                go_wp2
                go_ret
                exact ⟨rfl, below_drewN HB10.out q⟩
              · intro s z kl y1 y2 w6 cnt' hkey hlk hRz hat hrg6 hlt6 hg6 hs6 hen
                obtain rfl := keyS hkey
                obtain rfl : y1 = dA z := (Prod.mk.inj (Option.some.inj (hRz.symm.trans (RA_mk z)))).1
                have HFI : Hid (findL A s = some z) := Lib.hid (by
                  have h1 := HLF.out _ hlk
                  rw [HF.out.agr.has] at h1
                  obtain ⟨z', hz'⟩ := Option.isSome_iff_exists.1 h1
                  have h2 := HF.out.agr.val s z' hz' (.lit (.bool true))
                  rw [hat] at h2
                  rw [hz', dA_inj h2])
                have HR6 : Hid (RangeAt w w6 w2.heap.size wa.heap.size i u7 A D (fun q => left q && !q.sameKey (kS s)) cnt') := Lib.hid ⟨hrg6, HCV.out.besideIter HRG.out hg6, HBL.out.grown hg6 HBL.out.size (fun j hj => by cases hj; exact HWA.out), fun kl h => HLF.out kl (by simp at h; exact h.1)⟩
                have HLT := Lib.hid hlt6
                clear hkey hlk hRz hat hrg6 hlt6 hg6 hs6
                have HRA := Lib.hid (rangesBelow HR6.out.1 ((Below.refl w6.heap.size w6).alloc (Nat.le_refl _) (cells23' z)))
                have HCA := Lib.hid (HR6.out.2.1.keep ((Below.refl w6.heap.size w6).alloc (Nat.le_refl _) (cells23' z)))
                have HBA := Lib.hid (HR6.out.2.2.1.alloc HR6.out.2.2.1.size (cells23' z))
                have HXA := Lib.hid (BoxA.new w6 z 23)
                have HFC := Lib.hid (find_any u7 A s _ HCA.out)
                rw [HFI.out] at HFC
                go_wp2_with fail
                refine HFC.out.mono ?_
                rintro e w7 ⟨rfl, hb7⟩
                have hb8 := hb7.alloc hb7.size (.cells (cellsA z) 28)
                have HRB := Lib.hid (rangesBelow HRA.out hb8)
                have HCB := Lib.hid (HCA.out.keep hb8)
                have HBB := Lib.hid (HBA.out.trans (hb8.mono HBA.out.size))
                have HXB := Lib.hid (HXA.out.keep hb8 (by simp))
                have hs8 : w6.heap.size < w7.heap.size := by have := hb7.size; simp at this; omega
                clear hb7 hb8 hen
                rw [show findV (some z) = z from rfl, show (some z).isSome = true from rfl]
                have hgd := guard_ref
                have q1 : ∀ w', Sem.run Tryd.prog (binOp .neq 23 (.agg #[.string z.code, .int .i64 z.cls, .bool z.cash, .bool z.both, .string z.fixed, .bool z.worn]) (.agg #[.string z.code, .int .i64 z.cls, .bool z.cash, .bool z.both, .string z.fixed, .bool z.worn])) w' = .ok (.bool false) w' := fun w' => by
                  have := neq_ref z z w'
                  rwa [show eqA z z = true from (eqA_iff _ _).2 rfl] at this
                obtain ⟨c0, c1, c2, c3, c4, c5⟩ := HXB.out.facts
                go_wp2
                go_roundw
                case rel => exact ⟨_, _, HRB.out, HCB.out, HBB.out, HR6.out.2.2.2⟩
                case measure => rw [HRB.out.left_eq, HRG.out.left_eq]; exact HLT.out
end Go.Proofs.YtploldcbpejncaaDoor
