
/- The walk of FlowAdds: it returns true. -/
import Derived.Test.YtkacidoflmbjkaaDoorFlowKindsLaw
import Derived.Test.YtkacidoflmbjkaaDoorMapKeys
namespace Go.Proofs.YtkacidoflmbjkaaDoor.Fl
open Go.RowKit Go.Maps

/-- The datum of a number. -/
def dI (k : Int) : DataW Unit := .lit (.int .i64 k)
theorem RI_mk {k : Int} (h : In64 k) : (plainElem (H := Unit) Tryd.prog 3) (.int .i64 k) = some (dI k, []) := by
  have e1 : IntKind.i64.min = -9223372036854775808 := rfl
  have e2 : IntKind.i64.max = 9223372036854775807 := rfl
  exact plainElem_int Tryd.underlying3 (by simp [Lit.wf, e1, e2]; exact h)
theorem zeroI (w : World) : (zeroValue 3).run Tryd.prog w = .ok (.int .i64 0) w := by kernel_rfl
/-- The list and the map hold the same. -/
structure Agr (A : List Flow) (D : DataW Unit) : Prop where
  has : ∀ s, Maps.has D (kS s) = (findF A s).isSome
  val : ∀ s x, findF A s = some x → ∀ z, D.atKey (kS s) z = dI x.kind
  size : Maps.size D = A.length
theorem Agr.nil : Agr [] (.map []) := ⟨fun _ => rfl, (fun s x h => by cases h), rfl⟩
theorem Agr.put {A : List Flow} {D : DataW Unit} (h : Agr A D) (ht : Tidy D) (x : Flow) (hn : findF A x.code = none) : Agr (insK Flow.code A x) (D.put (kS x.code) (dI x.kind)) := by
  refine ⟨fun s => ?_, fun s y hy z => ?_, ?_⟩
  · unfold findF
    rw [findK_ins A x s hn]
    by_cases e : x.code = s
    · subst e; rw [has_put_same ht.isMap (kS_key _)]; simp
    · rw [has_put_other (fun e' => e (kS_inj e').symm), h.has, if_neg e]
  · unfold findF at hy
    rw [findK_ins A x s hn] at hy
    by_cases e : x.code = s
    · subst e; rw [if_pos rfl] at hy; cases hy; exact atKey_put_same ht.isMap (kS_key _) _ _
    · rw [if_neg e] at hy; rw [atKey_put_other (fun e' => e (kS_inj e').symm)]; exact h.val s y hy z
  · rw [size_put ht, h.has, hn, insK_length, h.size]; rfl
abbrev Had (w : World) (b n : Nat) (D : DataW Unit) : Prop := w.ownsMap Tryd.prog 9 (plainElem (H := Unit) Tryd.prog 3) b n D
theorem Had.below {w w' : World} {b n : Nat} {D : DataW Unit} (h : Had w b n D) (hb : Below w.heap.size w w') : Had w' b n D :=
  World.ownsMap.kept h (row := none) ⟨hb.os, hb.tape, hb.output, hb.size, fun j hj _ => hb.block j hj⟩ (by simp)
theorem Had.mono {w : World} {b n m : Nat} {D : DataW Unit} (h : Had w b n D) (hm : n ≤ m) : Had w b m D := by
  obtain ⟨es, c, h1, h2, h3, h4⟩ := h
  exact ⟨es, c, h1, h2, by omega, h4⟩
theorem Had.block {w : World} {b n : Nat} {D : DataW Unit} (h : Had w b n D) (o : Nat) (v : Value) : w.cell? ⟨b, o, none⟩ ≠ some v := by
  obtain ⟨es, c, hh, _⟩ := h
  simp [World.cell?, hh]
/-- What the rounds of FlowAdds hold. -/
structure AddsAt (w wr : World) (B i : Nat) (v : Value) (A : List Flow) (D : DataW Unit) : Prop where
  ls : FlowsV wr v A
  had : Had wr B i D
  agr : Agr A D
  rise : riseF A = true
  kinds : ∀ f ∈ A, 0 ≤ f.kind ∧ f.kind < 5
  short : ∀ f ∈ A, f.code.size ≤ 60
  few : A.length ≤ 60
  bel : Below w.heap.size w wr
  base : w.heap.size ≤ B
theorem AddsAt.keep {w wr w' : World} {B i : Nat} {v : Value} {A : List Flow} {D : DataW Unit} (h : AddsAt w wr B i v A D) (hb : Below wr.heap.size wr w') : AddsAt w w' B i v A D :=
  ⟨h.ls.keep hb, h.had.below hb, h.agr, h.rise, h.kinds, h.short, h.few, h.bel.trans (hb.mono h.bel.size), h.base⟩
theorem AddsAt.drewN {w wr : World} {B i : Nat} {v : Value} {A : List Flow} {D : DataW Unit} (h : AddsAt w wr B i v A D) (q : Nat) : AddsAt w (wr.drewN q) B i v A D := h.keep ⟨rfl, rfl, rfl, Nat.le_refl _, fun _ _ => rfl⟩
theorem AddsAt.step {w wr : World} {B i : Nat} {v : Value} {A : List Flow} {D : DataW Unit} (h : AddsAt w wr B i v A D) : AddsAt w wr B (i + 1) v A D :=
  ⟨h.ls, h.had.mono (Nat.le_succ _), h.agr, h.rise, h.kinds, h.short, h.few, h.bel, h.base⟩
theorem right_kind {f : Flow} (h : rightF f = true) : 0 ≤ f.kind ∧ f.kind < 5 := by have := (right_parts h).2; omega
theorem AddsAt.added {w wr w' : World} {B i : Nat} {v u : Value} {A : List Flow} {D : DataW Unit} {x : Flow} (h : AddsAt w wr B i v A D) (hs : x.code.size ≤ 60) (hE : addE A x = 0) (hc : FlowsV wr u (addV A x)) (hm : Had w' B (i + 1) (D.put (kS x.code) (dI x.kind))) (hg : wr.grownBy w' (some B)) : AddsAt w w' B (i + 1) u (insK Flow.code A x) (D.put (kS x.code) (dI x.kind)) := by
  obtain ⟨hr, hn, _, hl⟩ := addE_zero (rise_codes h.rise) hE
  have hv : addV A x = insK Flow.code A x := by unfold addV; rw [if_pos hE]
  rw [hv] at hc
  exact ⟨hc.beside hg (fun o v => h.had.block o v), hm, h.agr.put (h.had.tidy law9) x hn, rise_ins h.rise hE, fun f hf => by
    rcases mem_ins.1 hf with rfl | hf
    · exact right_kind hr
    · exact h.kinds f hf, fun f hf => by
    rcases mem_ins.1 hf with rfl | hf
    · exact hs
    · exact h.short f hf, by rw [insK_length]; omega, h.bel.grown hg h.bel.size (fun j hj => by cases hj; exact h.base), h.base⟩
theorem same_self {v u : Value} {L : List Flow} {W : World} (h : FlowsV W v L) (h' : FlowsV W u L) : Calls Tryd.prog 17 #[v, u] W fun e w' => e = .returned (.bool true) ∧ ∃ q, w' = W.drewN q := by
  have := same_any v u L L W h h'
  rwa [show sameF L L = true from decide_eq_true rfl] at this
/-- What the map has of a code of a kind. -/
theorem AddsAt.has {w wr : World} {B i : Nat} {v : Value} {A : List Flow} {D : DataW Unit} (h : AddsAt w wr B i v A D) {k : Int} {j : Nat} {c : ByteArray} (hc : (ofF A k)[j]? = some c) : c.size ≤ maxLen ∧ ∀ z, D.atKey (kS c) z = dI k := by
  have hm := List.mem_of_getElem? hc
  obtain ⟨_, _, f, hf, rfl⟩ := kind_of (rise_codes h.rise) hm
  refine ⟨?_, h.agr.val c f hf⟩
  have h1 := findK_mem hf
  have := h.short f h1.2
  rw [h1.1] at this
  unfold maxLen; omega
theorem ck_of {D : DataW Unit} {kl : Lit} {k ck : Int} (h : D.atKey kl (.lit (.int .i64 0)) = dI k) (h' : D.atKey kl (.lit (.int .i64 0)) = .lit (.int .i64 ck)) : (ck != k) = false := by
  rw [h] at h'
  unfold dI at h'
  simp only [DataW.lit.injEq, Lit.int.injEq, true_and] at h'
  rw [h']; simp
set_option maxRecDepth 100000 in
set_option maxHeartbeats 8000000 in
theorem flowAdds_walk (v : Value) (L : List Flow) (code : ByteArray) (w : World) (h : FlowsV w v L) (hs : code.size ≤ maxLen) (hL : Laid w) :
    Calls Tryd.prog 5 #[v, .string code] w fun e w' => e = .returned (.bool true) ∧ Below w.heap.size w w' := by
  have HV := Lib.hid h
  obtain ⟨p, c, rfl, hcap, hm, _, hc⟩ := h
  obtain ⟨n, hn⟩ : ∃ n, L.length = n := ⟨_, rfl⟩
  rw [hn] at hcap HV ⊢
  have HN := Lib.hid hn
  have HC := Lib.hid hc
  have HL := Lib.hid hL
  have HSZ := Lib.hid hs
  unfold maxLen at hm hs
  clear hL hn hc
  obtain ⟨G, hG⟩ : ∃ G, fewF L = G := ⟨_, rfl⟩
  have HFL := Lib.hid (fun W h => few_any (.slice p n c) L W h)
  rw [hG] at HFL
  have HGV := Lib.hid hG
  clear hG
  go_enter Tryd.func5, Tryd.ntmps5
  go_wp2_with fail
  refine (alive_any _ HL.out).mono ?_
  rintro e w1 ⟨rfl, hb1⟩
  have HB1 := Lib.hid hb1
  have HV1 := Lib.hid (HV.out.keep hb1)
  clear hb1
  go_wp2_with fail
  refine (HFL.out _ HV1.out).mono ?_
  rintro e w2 ⟨rfl, hb2⟩
  have HB2 := Lib.hid (HB1.out.trans (hb2.mono HB1.out.size))
  clear hb2 HB1 HV1
  cases G with
  | false =>
    go_wp2
    go_ret
    exact ⟨rfl, HB2.out⟩
  | true =>
    have hn70 : n ≤ 70 := by rw [← HN.out]; exact (fewF_parts HGV.out).1
    by_cases hc60 : 60 < code.size
    · go_wp2
      go_ret
      exact ⟨rfl, HB2.out⟩
    · have hmm := @run_makeMap Tryd.prog
      have HF0 : Hid (AddsAt w (w2.alloc (.map #[] 0)) w2.heap.size 0 (.slice none 0 0) [] (.map [])) := Lib.hid ⟨ElsV.nil _, World.ownsMap_made _ _ _ _, Agr.nil, rfl, (fun f hf => by cases hf), (fun f hf => by cases hf), by simp, HB2.out.alloc HB2.out.size _, HB2.out.size⟩
      go_wp2
      go_loopw [5, 33] (fun s5 s33 wr => ∃ (i : Nat) (A : List Flow) (D : DataW Unit), i ≤ n ∧ s33 = .int .i64 (i : Int) ∧ AddsAt w wr w2.heap.size i s5 A D) (fun _ s33 _ => n - (intOf s33).toNat)
      case atStart => exact ⟨0, [], _, by omega, rfl, HF0.out⟩
      case round =>
        obtain ⟨i, A, D, hi, rfl, hF⟩ := hrel
        have HF := Lib.hid hF
        clear hF
        by_cases hlt : i < n
        · obtain ⟨x, hx⟩ : ∃ x, L[i]? = some x := ⟨_, List.getElem?_eq_getElem (by rw [HN.out]; exact hlt)⟩
          obtain ⟨b, o, rfl, hat⟩ := HC.out i x hx
          obtain ⟨c0, c1⟩ := two (hat.keep HF.out.bel hat.lt)
          have HXS := Lib.hid ((fewF_parts HGV.out).2 x (List.mem_of_getElem? hx))
          clear hx hat
          have hxs : x.code.size ≤ maxLen := by have := HXS.out; unfold maxLen; omega
          have HKE := Lib.hid (WideMaps.keyOf_string_mk Tryd.underlying9 hxs)
          clear hxs
          have hba := (Below.refl wr.heap.size wr).alloc (Nat.le_refl _) (.cells #[.string x.code, .int .i64 x.kind] 23)
          have HFA := Lib.hid (HF.out.keep hba)
          have HXA := Lib.hid (BoxE.new encF wr x 23)
          obtain ⟨E, hE⟩ : ∃ E, addE A x = E := ⟨_, rfl⟩
          have HAD := Lib.hid (add_any u5 A x _ HFA.out.ls (rise_codes HF.out.rise) (by have := HF.out.few; omega))
          rw [hE] at HAD
          have HEV := Lib.hid hE
          clear hE hba
          go_wp2_with fail
          clear c0 c1
          refine HAD.out.mono ?_
          rintro e w4 ⟨v4, rfl, hc4, hb4⟩
          have HF4 := Lib.hid (HFA.out.keep hb4)
          have HX4 := Lib.hid (HXA.out.kept hb4)
          have HC4 := Lib.hid hc4
          clear hc4 hb4 HF HFA HXA HAD
          by_cases hE0 : E = 0
          · subst hE0
            obtain ⟨c0, c1⟩ := box HX4.out
            have HIN : Hid (In64 x.kind) := Lib.hid (by have := right_kind (addE_zero (rise_codes HF4.out.rise) HEV.out).1; unfold In64; omega)
            go_wp2_with (at_mapUpdate; refine wpList_mapUpdate_own _ rfl _ _ _ 42 rfl 9 3 law9 Tryd.underlying42 (plainElem (H := Unit) Tryd.prog 3) w2.heap.size i D rfl HF4.out.had (by unfold maxLen; omega) _ _ (kS x.code) rfl rfl HKE.out (dI x.kind) [] (RI_mk HIN.out) ?_; intro w5 hown5 hg5)
            go_roundw
            case rel => exact ⟨i + 1, _, _, by omega, by go_num, HF4.out.added HXS.out HEV.out HC4.out hown5 hg5⟩
            case measure => simp [intOf]; omega
          · have hEz : (E == 0) = false := by simpa using hE0
            have HCA : Hid (FlowsV w4 v4 A) := Lib.hid (by have := HC4.out; unfold addV at this; rwa [HEV.out, if_neg hE0] at this)
            clear hE0
            go_wp2_with fail
            refine (ours_any _ A _ HCA.out (by have := HF4.out.few; omega)).mono ?_
            rintro e w5 ⟨v5, rfl, hc5, hb5⟩
            have HF5 := Lib.hid (HF4.out.keep hb5)
            have HC5 := Lib.hid hc5
            clear hc5 hb5
            go_wp2_with fail
            refine (ours_any _ A _ HF5.out.ls (by have := HF4.out.few; omega)).mono ?_
            rintro e w6 ⟨v6, rfl, hc6, hb6⟩
            have HF6 := Lib.hid (HF5.out.keep hb6)
            have HC6 := Lib.hid (HC5.out.keep hb6)
            have HU6 := Lib.hid hc6
            clear hc6 hb6
            go_wp2_with fail
            refine (same_self HC6.out HU6.out).mono ?_
            rintro e w7 ⟨rfl, q, rfl⟩
            have HF7 := Lib.hid (HF6.out.drewN q)
            go_wp2
            go_roundw
            case rel => exact ⟨i + 1, _, _, by omega, by go_num, HF7.out.step⟩
            case measure => simp [intOf]; omega
        · obtain rfl : i = n := by omega
          clear hlt hi
          have HLL : Hid (A.length ≤ 1000) := Lib.hid (by have := HF.out.few; omega)
          have HRK := Lib.hid (rise_codes HF.out.rise)
          rename World => wa
          go_wp2
          go_loopg [11, 58] 5 (fun kx s11 s58 wr => ∃ k : Nat, k ≤ 5 ∧ 5 - k ≤ kx ∧ s58 = .int .i64 (k : Int) ∧ s11 = .int .i64 (sumF A k : Nat) ∧ Hid (AddsAt w wr w2.heap.size i u5 A D))
          case atStart => exact ⟨0, by omega, by omega, rfl, rfl, HF⟩
          case round =>
            obtain ⟨k, hk5, hkx, rfl, rfl, HK⟩ := hrel
            obtain ⟨T, hT⟩ : ∃ T, sumF A k = T := ⟨_, rfl⟩
            have hTn : T ≤ 60 := by rw [← hT]; exact Nat.le_trans (sumF_bound A k) HF.out.few
            rw [hT]
            have HT := Lib.hid hT
            clear hT
            by_cases hlt : k < 5
            · have hltz : (k : Int) < 5 := by omega
              have HOA := Lib.hid (of_any u5 A (k : Int) wr HK.out.ls HLL.out)
              go_wp2_with fail
              refine HOA.out.mono ?_
              rintro e w5 ⟨v5, rfl, hs5, hb5⟩
              have HK5 := Lib.hid (HK.out.keep hb5)
              obtain ⟨p5, c5, rfl, hcap5, hm5, hc5⟩ := hs5
              obtain ⟨m, hmm⟩ : ∃ m, (ofF A (k : Int)).length = m := ⟨_, rfl⟩
              have hmn : m ≤ 60 := by rw [← hmm]; exact Nat.le_trans (ofF_len_le A _) HF.out.few
              have HM := Lib.hid hmm
              have HC5 := Lib.hid hc5
              have HSU : Hid (sumF A (k + 1) = T + m) := Lib.hid (by rw [sumF, HT.out, hmm])
              rw [hmm] at hcap5 hm5 ⊢
              unfold maxLen at hm5
              have hways : (k = 1) ∨ (k ≠ 1 ∧ m ≤ 1) := by
                by_cases h1 : k = 1
                · exact .inl h1
                · refine .inr ⟨h1, ?_⟩
                  rw [← hmm]
                  exact rise_ones HF.out.rise (k : Int) (by omega) (by omega)
              clear hmm hc5 hb5 HOA HK HT
              have hgu : ((k : Int) != 1) = decide (k ≠ 1) := by rw [Bool.eq_iff_iff]; simp; omega
              rcases hways with h1 | ⟨h1, h2⟩
              all_goals
                first
                  | (have h2z : ¬ (1 : Int) < (m : Int) := by omega)
                  | skip
                first
                  | (rw [decide_eq_true h1] at hgu)
                  | (rw [decide_eq_false (fun e => e h1)] at hgu)
                have H1 := Lib.hid h1
                clear h1
                rename World => wb
                go_wp2
                go_loopg [77] m (fun kx s77 wq => ∃ j : Nat, j ≤ m ∧ m - j ≤ kx ∧ s77 = .int .i64 (j : Int) ∧ Hid (AddsAt w wq w2.heap.size i u5 A D) ∧ Hid (Below wb.heap.size wb wq))
                case atStart => exact ⟨0, Nat.zero_le _, by omega, rfl, HK5, Lib.hid (Below.refl _ _)⟩
                case round =>
                  obtain ⟨j, hjm, hjx, rfl, HKJ, HBJ⟩ := hrel
                  by_cases hj : j < m
                  · have hjz : (j : Int) < (m : Int) := by omega
                    obtain ⟨cd, hcd⟩ : ∃ x, (ofF A (k : Int))[j]? = some x := ⟨_, List.getElem?_eq_getElem (by rw [HM.out]; exact hj)⟩
                    obtain ⟨b6, o6, rfl, hcell⟩ := HC5.out j cd hcd
                    have d0 := cell_on HBJ.out hcell
                    obtain ⟨hsz, hat⟩ := HKJ.out.has hcd
                    have HKC := Lib.hid (WideMaps.keyOf_string_mk Tryd.underlying9 hsz)
                    have HAT := Lib.hid (hat (.lit (.int .i64 0)))
                    clear hcd hcell hsz hat
                    go_wp2_with (at_lookup; refine wpList_lookup_own_int _ rfl _ _ 42 rfl 9 3 .i64 law9 Tryd.underlying42 Tryd.underlying3 (zeroI _) w2.heap.size i D rfl HKJ.out.had _ (kS cd) rfl HKC.out ?_; intro ck hck _; have hkk := ck_of HAT.out hck; clear hck)
                    go_roundg (m - (j + 1))
                    case measure => omega
                    case rel => exact ⟨j + 1, by omega, Nat.le_refl _, by go_num, HKJ, HBJ⟩
                  · have hjz : ¬ (j : Int) < (m : Int) := by omega
                    go_wp2
                    go_roundg (5 - (k + 1))
                    case measure => omega
                    case rel => exact ⟨k + 1, by omega, Nat.le_refl _, by go_num, by rw [HSU.out]; go_num, HKJ⟩
            · obtain rfl : k = 5 := by omega
              have HTE : Hid (T = A.length) := Lib.hid (by rw [← HT.out]; exact sumF_all HF.out.kinds)
              obtain ⟨S, hS⟩ : ∃ S, isK Flow.code A code = S := ⟨_, rfl⟩
              have HKA := Lib.hid (kind_any u5 A code wr HK.out.ls HRK.out HLL.out)
              rw [hS] at HKA
              have HHS : Hid (Maps.has D (kS code) = S) := Lib.hid (by rw [HF.out.agr.has, ← (isK_find HRK.out code).1, hS])
              have HKC := Lib.hid (WideMaps.keyOf_string_mk Tryd.underlying9 HSZ.out)
              obtain ⟨kk, hkk⟩ : ∃ kk, kindL A code = kk := ⟨_, rfl⟩
              rw [hkk] at HKA
              clear hS hkk hlt hkx hk5
              go_wp2_with fail
              refine HKA.out.mono ?_
              rintro e w7 ⟨rfl, hb7⟩
              have HK7 := Lib.hid (HK.out.keep hb7)
              clear hb7 HKA HK
              obtain ⟨m, hm7⟩ : ∃ m, A.length = m := ⟨_, rfl⟩
              have HMS : Hid (Maps.size D = m) := Lib.hid (by rw [HF.out.agr.size, hm7])
              obtain ⟨p7, k7, hu7, hcp7, hm77, _, _⟩ := HK7.out.ls
              rw [hm7] at hu7 hcp7
              subst hu7
              unfold maxLen at hm77
              have hTm : T = m := by rw [HTE.out, hm7]
              subst hTm
              have hSS : (S == S) = true := by simp
              have hTT : ((T : Int) == (T : Int)) = true := by simp
              have hlen : (Builtin.len_ #[42] 3 #[.map (some w2.heap.size)]).run Tryd.prog w7 = .ok (.int .i64 (T : Int)) w7 := by rw [← HMS.out]; exact HK7.out.had.len Tryd.underlying42 3
              go_wp2_with (
                (at_lookup; refine wpList_lookup_own_ok_int _ rfl _ _ 42 rfl 9 3 .i64 law9 Tryd.underlying42 Tryd.underlying3 (zeroI _) w2.heap.size i D rfl HK7.out.had _ (kS code) rfl HKC.out ?_; intro lc hlc hlw; rw [HHS.out]))
              clear hlc hlw hlen
              refine (ours_any _ A _ HK7.out.ls HLL.out).mono ?_
              rintro e w10 ⟨v10, rfl, hc10, hb10⟩
              have HK10 := Lib.hid (HK7.out.keep hb10)
              have HRS := Lib.hid (rise_any v10 A w10 hc10 HLL.out)
              rw [HF.out.rise] at HRS
              clear hc10 hb10
              go_wp2_with fail
              refine HRS.out.mono ?_
              rintro e w11 ⟨rfl, hb11⟩
              have HK11 := Lib.hid (HK10.out.keep hb11)
              clear hb11
              go_wp2
              go_ret
              exact ⟨rfl, HK11.out.bel⟩
end Go.Proofs.YtkacidoflmbjkaaDoor.Fl
