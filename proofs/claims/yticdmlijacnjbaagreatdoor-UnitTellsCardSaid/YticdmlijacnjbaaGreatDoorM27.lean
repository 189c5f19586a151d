/- UnitMapped; UnitDocMapped; UnitSmall; UnitAlive: texts put together (each begins with what it is). -/
import Derived.Test.YticdmlijacnjbaaGreatDoorM18
import Derived.Test.YticdmlijacnjbaaGreatDoorM26
import Derived.Test.YticdmlijacnjbaaGreatDoorM24
import Derived.Test.YticdmlijacnjbaaGreatDoorM21
/- The walks of unit's accountsOf, hasAll and Mapped. What was there stays. -/
namespace Go.Proofs.YticdmlijacnjbaaGreatDoor.Un
open Go.RowKit Go.Maps

/-- The datum of a count. -/
def dN (k : Nat) : DataW Unit := .lit (.int .i64 (k : Int))
theorem RN_mk {k : Nat} (h : k ≤ 100000) : (plainElem (H := Unit) Tryz.prog 3) (.int .i64 (k : Int)) = some (dN k, []) := by
  have e1 : IntKind.i64.min = -9223372036854775808 := rfl
  have e2 : IntKind.i64.max = 9223372036854775807 := rfl
  exact plainElem_int Tryz.underlying3 (by simp [Lit.wf, e1, e2]; omega)
theorem RN_succ {k : Nat} (h : k ≤ 1000) : (plainElem (H := Unit) Tryz.prog 3) (.int .i64 ((k : Int) + 1)) = some (dN (k + 1), []) := by
  have := RN_mk (k := k + 1) (by omega)
  rwa [Int.natCast_add] at this
theorem zeroN (w : World) : (zeroValue 3).run Tryz.prog w = .ok (.int .i64 0) w := by kernel_rfl
theorem dN_inj {k : Nat} {c : Int} (h : dN k = .lit (.int .i64 c)) : c = (k : Int) := by
  unfold dN at h
  injection h with h
  injection h with _ h
  exact h.symm
/-- How many lines a flow has of an account, and whether it has any. -/
def cntL (L : List Lin) (fl s : ByteArray) : Nat := (L.filter fun x => decide (x.flow = fl) && decide (x.acc = s)).length
def anyL (L : List Lin) (fl : ByteArray) : Bool := L.any fun x => decide (x.flow = fl)
theorem cntL_le (L : List Lin) (fl s : ByteArray) : cntL L fl s ≤ L.length := List.length_filter_le _ _
theorem cntL_snoc (L : List Lin) (y : Lin) (fl s : ByteArray) : cntL (L ++ [y]) fl s = if y.flow = fl ∧ y.acc = s then cntL L fl s + 1 else cntL L fl s := by
  unfold cntL
  rw [List.filter_append, List.length_append, List.filter_cons]
  by_cases h : y.flow = fl ∧ y.acc = s
  · rw [if_pos h, if_pos (by simp [h])]; rfl
  · rw [if_neg h, if_neg (by simpa using h)]; rfl
theorem anyL_snoc (L : List Lin) (y : Lin) (fl : ByteArray) : anyL (L ++ [y]) fl = (anyL L fl || decide (y.flow = fl)) := by simp [anyL, List.any_append]
abbrev MapA (w : World) (b n : Nat) (D : DataW Unit) : Prop := w.ownsMap Tryz.prog 9 (plainElem (H := Unit) Tryz.prog 3) b n D
theorem MapA.below {w w' : World} {b n : Nat} {D : DataW Unit} (h : MapA w b n D) (hb : Below w.heap.size w w') : MapA w' b n D :=
  World.ownsMap.kept h (row := none) ⟨hb.os, hb.tape, hb.output, hb.size, fun j hj _ => hb.block j hj⟩ (by simp)
theorem MapA.mono {w : World} {b n m : Nat} {D : DataW Unit} (h : MapA w b n D) (hm : n ≤ m) : MapA w b m D := by
  obtain ⟨es, c, h1, h2, h3, h4⟩ := h
  exact ⟨es, c, h1, h2, by omega, h4⟩
/-- The map counts the lines. -/
structure AgrC (L : List Lin) (fl : ByteArray) (D : DataW Unit) : Prop where
  val : ∀ s, D.atKey (kS s) (.lit (.int .i64 0)) = dN (cntL L fl s)
  has : ∀ s, Maps.has D (kS s) = true → anyL L fl = true
  size : Maps.size D = 0 ↔ anyL L fl = false
theorem AgrC.nil (fl : ByteArray) : AgrC [] fl (.map []) := ⟨fun _ => rfl, (fun s h => by cases h), by simp [anyL, Maps.size]⟩
theorem AgrC.skip {L : List Lin} {fl : ByteArray} {D : DataW Unit} {y : Lin} (h : AgrC L fl D) (hy : y.flow ≠ fl) : AgrC (L ++ [y]) fl D :=
  ⟨fun s => by rw [cntL_snoc, if_neg (fun e => hy e.1)]; exact h.val s, fun s hs => by rw [anyL_snoc, h.has s hs]; rfl, by rw [anyL_snoc, decide_eq_false hy, Bool.or_false]; exact h.size⟩
theorem AgrC.put {L : List Lin} {fl : ByteArray} {D : DataW Unit} {y : Lin} (h : AgrC L fl D) (ht : Tidy D) (hy : y.flow = fl) : AgrC (L ++ [y]) fl (D.put (kS y.acc) (dN (cntL L fl y.acc + 1))) := by
  have ha : anyL (L ++ [y]) fl = true := by rw [anyL_snoc, decide_eq_true hy, Bool.or_true]
  refine ⟨fun s => ?_, fun _ _ => ha, ?_⟩
  · by_cases e : y.acc = s
    · subst e
      rw [atKey_put_same ht.isMap (kS_key _), cntL_snoc, if_pos ⟨hy, rfl⟩]
    · rw [atKey_put_other (fun e' => e (kS_inj e').symm), cntL_snoc, if_neg (fun e' => e e'.2)]
      exact h.val s
  · rw [ha, size_put ht]
    constructor
    · intro h0
      split at h0
      · rename_i hh
        have := h.has _ hh
        rw [h.size.1 h0] at this; cases this
      · omega
    · intro h0; cases h0
/-- Between two lines of accountsOf. -/
structure CntAt (W0 wr : World) (B i : Nat) (L : List Lin) (fl : ByteArray) (D : DataW Unit) : Prop where
  map : MapA wr B i D
  agr : AgrC (L.take i) fl D
  bel : Below B W0 wr
def CntTold (w : World) (L : List Lin) (fl : ByteArray) (en : Ending) (w' : World) : Prop := ∃ b n D, en = .returned (.map (some b)) ∧ MapA w' b n D ∧ AgrC L fl D ∧ Below w.heap.size w w'
set_option maxRecDepth 100000 in
set_option maxHeartbeats 4000000 in
theorem accountsOf_any (v : Value) (L : List Lin) (fl : ByteArray) (w : World) (h : ElsV encL w v L) (hL : L.length ≤ 1000) (hs : ∀ x ∈ L, x.acc.size ≤ 100) :
    Calls Tryz.prog 40 #[v, .string fl] w (CntTold w L fl) := by
  obtain ⟨p, c, rfl, hcap, hm, _, hc⟩ := h
  obtain ⟨n, hn⟩ : ∃ n, L.length = n := ⟨_, rfl⟩
  rw [hn] at hcap hL ⊢
  have HC := Lib.hid hc
  have HN := Lib.hid hn
  have HS := Lib.hid hs
  unfold maxLen at hm
  have hmm := @run_makeMap Tryz.prog
  have HST : Hid (CntAt w (w.alloc (.map #[] 0)) w.heap.size 0 L fl (.map [])) := Lib.hid ⟨World.ownsMap_made _ _ _ _, AgrC.nil fl, (Below.refl _ _).alloc (Nat.le_refl _) _⟩
  clear hc hn hs
  go_enter Tryz.func40, Tryz.ntmps40
  go_wp2
  clear hmm
  go_loopw [11] (fun si wr => ∃ (i : Nat) (D : DataW Unit), i ≤ n ∧ si = .int .i64 (i : Int) ∧ Hid (CntAt w wr w.heap.size i L fl D)) (fun si _ => n - (intOf si).toNat)
  case atStart => exact ⟨0, _, Nat.zero_le _, rfl, HST⟩
  case round =>
    obtain ⟨i, D, hi, rfl, HA⟩ := hrel
    by_cases hlt : i < n
    · obtain ⟨x, hx⟩ : ∃ x, L[i]? = some x := ⟨_, List.getElem?_eq_getElem (by rw [HN.out]; exact hlt)⟩
      obtain ⟨b, o, rfl, hat⟩ := HC.out i x hx
      obtain ⟨d0, d1, d2⟩ := lin3 (hat.keep HA.out.bel hat.lt)
      have HTK : Hid (L.take (i + 1) = L.take i ++ [x]) := Lib.hid (by rw [List.take_succ_eq_append_getElem (by rw [HN.out]; exact hlt), (List.getElem?_eq_some_iff.1 hx).2])
      have hxs : x.acc.size ≤ maxLen := by have := HS.out x (List.mem_of_getElem? hx); unfold maxLen; omega
      have HKE := Lib.hid (WideMaps.keyOf_string_mk Tryz.underlying9 hxs)
      have HCB : Hid (cntL (L.take i) fl x.acc ≤ 1000) := Lib.hid (by have := cntL_le (L.take i) fl x.acc; rw [List.length_take] at this; omega)
      clear hx hat hxs
      have HBX := Lib.hid ((Below.refl wr.heap.size wr).alloc (Nat.le_refl _) (.cells (encL.cs x).toArray 67))
      have HB1 := Lib.hid (HA.out.bel.trans (HBX.out.mono HA.out.bel.size))
      have HM1 := Lib.hid (HA.out.map.below HBX.out)
      obtain ⟨q0, q1, q2⟩ := lin3 (BoxE.new encL wr x 67).at0
      cases h1 : (x.flow.toList == fl.toList) with
      | false =>
        have HNE := Lib.hid ((Lib.bytes_beq_false_iff x.flow fl).1 h1)
        go_wp2
        go_roundw
        case rel => exact ⟨i + 1, D, by omega, by go_num, Lib.hid ⟨HM1.out.mono (Nat.le_succ _), by rw [HTK.out]; exact HA.out.agr.skip HNE.out, HB1.out⟩⟩
        case measure => simp [intOf]; omega
      | true =>
        have HEQ := Lib.hid ((Lib.bytes_beq_iff x.flow fl).1 h1)
        obtain ⟨cc, hlk, hat0, _⟩ := HM1.out.lookup_int law9 Tryz.underlying101 Tryz.underlying3 (zeroN _) HKE.out
        obtain ⟨K, hK⟩ : ∃ K, cntL (L.take i) fl x.acc = K := ⟨_, rfl⟩
        have hcc : cc = (K : Int) := dN_inj (by rw [← hK, ← HA.out.agr.val x.acc]; exact hat0)
        have HKV := Lib.hid hK
        have hKB := HCB.out
        rw [hK] at hKB
        subst hcc
        clear hat0 hK
        have hw1 : IntKind.i64.wrap ((K : Int) + 1) = (K : Int) + 1 := by rw [IntKind.wrap_i64]; omega
        go_wp2_with (at_mapUpdate; refine wpList_mapUpdate_own _ rfl _ _ _ 101 rfl 9 3 law9 Tryz.underlying101 (plainElem (H := Unit) Tryz.prog 3) w.heap.size i D rfl HM1.out (by unfold maxLen; omega) _ _ (kS x.acc) rfl rfl HKE.out (dN (K + 1)) [] (RN_succ hKB) ?_; intro w5 hown5 hg5)
        have HA5 : Hid (CntAt w w5 w.heap.size (i + 1) L fl (D.put (kS x.acc) (dN (K + 1)))) := Lib.hid ⟨hown5, by rw [HTK.out, ← HKV.out]; exact HA.out.agr.put (HM1.out.tidy law9) HEQ.out, HB1.out.grown hg5 HB1.out.size (fun j hj => by cases hj; exact Nat.le_refl _)⟩
        clear hown5 hg5 hlk d0 d1 d2 q0 q1 q2
        go_roundw
        case rel => exact ⟨i + 1, _, by omega, by go_num, HA5⟩
        case measure => simp [intOf]; omega
    · have HLT : Hid (L.take i = L) := Lib.hid (List.take_of_length_le (by rw [HN.out]; omega))
      go_wp2
      go_ret
      exact ⟨_, _, _, rfl, HA.out.map, by rw [← HLT.out]; exact HA.out.agr, HA.out.bel⟩
/-- Has a flow a line of each account? -/
def allC (C : List Acct) (L : List Lin) (fl : ByteArray) : Bool := C.all fun a => decide (0 < cntL L fl a.code)
set_option maxRecDepth 100000 in
set_option maxHeartbeats 4000000 in
theorem hasAll_any (v : Value) (C : List Acct) (L : List Lin) (fl : ByteArray) (b m : Nat) (D : DataW Unit) (w : World) (h : ChartV w v C) (hm : MapA w b m D) (ha : AgrC L fl D) (hs : ∀ x ∈ C, x.code.size ≤ 100) (hL : L.length ≤ 1000) :
    Calls Tryz.prog 41 #[.map (some b), v] w fun en w' => en = .returned (.bool (allC C L fl)) ∧ Below w.heap.size w w' := by
  obtain ⟨p, c, rfl, hcap, hm', _, hc⟩ := h
  obtain ⟨n, hn⟩ : ∃ n, C.length = n := ⟨_, rfl⟩
  rw [hn] at hcap ⊢
  obtain ⟨R, hR⟩ : ∃ R, allC C L fl = R := ⟨_, rfl⟩
  rw [hR]
  have HR : Hid (C.all (fun a => decide (0 < cntL L fl a.code)) = R) := Lib.hid hR
  have HC := Lib.hid hc
  have HN := Lib.hid hn
  have HS := Lib.hid hs
  have HM := Lib.hid hm
  have HA := Lib.hid ha
  have HLL := Lib.hid hL
  unfold maxLen at hm'
  clear hc hn hs hm ha hR hL
  go_enter Tryz.func41, Tryz.ntmps41
  go_wp2
  go_loopw [9] (fun si wr => ∃ (i : Nat), i ≤ n ∧ si = .int .i64 (i : Int) ∧ Hid (Below w.heap.size w wr) ∧ Hid (SoFar (fun a => decide (0 < cntL L fl a.code)) C i)) (fun si _ => n - (intOf si).toNat)
  case atStart => exact ⟨0, Nat.zero_le _, rfl, Lib.hid (Below.refl _ _), Lib.hid (SoFar.zero _ _)⟩
  case round =>
    obtain ⟨i, hi, rfl, HB, HSF⟩ := hrel
    by_cases hlt : i < n
    · obtain ⟨x, hx⟩ : ∃ x, C[i]? = some x := ⟨_, List.getElem?_eq_getElem (by rw [HN.out]; exact hlt)⟩
      obtain ⟨b', o, rfl, hat⟩ := HC.out i x hx
      obtain ⟨d0, d1, d2, d3, d4, d5⟩ := hat.keep HB.out hat.lt
      have hxs : x.code.size ≤ maxLen := by have := HS.out x (List.mem_of_getElem? hx); unfold maxLen; omega
      have HX := Lib.hid hx
      have HKE := Lib.hid (WideMaps.keyOf_string_mk Tryz.underlying9 hxs)
      have HCB : Hid (cntL L fl x.code ≤ 1000) := Lib.hid (Nat.le_trans (cntL_le L fl x.code) HLL.out)
      clear hx hat hxs
      have HB1 := Lib.hid (HB.out.alloc HB.out.size (.cells #[.string x.code, .int .i64 x.cls, .bool x.cash, .bool x.both, .string x.fixed, .bool x.worn] 89))
      have HM1 := Lib.hid (HM.out.below HB1.out)
      obtain ⟨q0, q1, q2, q3, q4, q5⟩ := (BoxA.new wr x 89).facts
      obtain ⟨cc, hlk, hat0, _⟩ := HM1.out.lookup_int law9 Tryz.underlying101 Tryz.underlying3 (zeroN _) HKE.out
      obtain ⟨K, hK⟩ : ∃ K, cntL L fl x.code = K := ⟨_, rfl⟩
      have hcc : cc = (K : Int) := dN_inj (by rw [← hK, ← HA.out.val x.code]; exact hat0)
      have HKV := Lib.hid hK
      subst hcc
      clear hat0 hK
      by_cases h0 : K = 0
      · subst h0
        have HRF : Hid (R = false) := Lib.hid (by rw [← HR.out]; exact all_no HX.out (by simp only [HKV.out]; rfl))
        go_wp2
        go_ret
        exact ⟨by rw [HRF.out]; rfl, HB1.out⟩
      · have hkz : ((K : Int) == 0) = false := by simp; omega
        have HSN := Lib.hid (HSF.out.next HX.out (by simp only [HKV.out]; exact decide_eq_true (by omega)))
        clear h0
        go_wp2
        go_roundw
        case rel => exact ⟨i + 1, by omega, by go_num, HB1, HSN⟩
        case measure => simp [intOf]; omega
    · have HRT : Hid (R = true) := Lib.hid (by rw [← HR.out]; exact HSF.out.done (by rw [HN.out]; omega))
      go_wp2
      go_ret
      exact ⟨by rw [HRT.out]; rfl, HB.out⟩
/-- What Mapped tells. -/
def okF (M : Mast) (f : Fl.Flow) : Bool := if f.kind = 0 ∨ f.kind = 4 then !anyL M.lines f.code else allC M.chart M.lines f.code
def mapP (M : Mast) : Bool := M.flows.all (okF M)
set_option maxRecDepth 100000 in
set_option maxHeartbeats 4000000 in
theorem mapped_any (c f e l : Value) (M : Mast) (w : World) (h : MastIn w c f e l M) (hL : M.lines.length ≤ 1000) (hs : ∀ x ∈ M.lines, x.acc.size ≤ 100) (hsc : ∀ x ∈ M.chart, x.code.size ≤ 100) :
    Calls Tryz.prog 21 #[aggM c f e l M] w fun en w' => en = .returned (.bool (mapP M)) ∧ Below w.heap.size w w' := by
  have HB0 := Lib.hid ((Below.refl w.heap.size w).alloc (Nat.le_refl _) (.cells (cellsM c f e l M) 30))
  have HN0 := Lib.hid (nine_new w c f e l M 30)
  have HM0 := Lib.hid (h.keep HB0.out)
  obtain ⟨R, hR⟩ : ∃ R, mapP M = R := ⟨_, rfl⟩
  rw [hR]
  have HR : Hid (M.flows.all (okF M) = R) := Lib.hid hR
  have HLL := Lib.hid hL
  have HS := Lib.hid hs
  have HSC := Lib.hid hsc
  clear hR h hL hs hsc
  obtain ⟨W, hW⟩ : ∃ W, w.alloc (.cells (cellsM c f e l M) 30) = W := ⟨_, rfl⟩
  rw [hW] at HB0 HN0 HM0
  obtain ⟨pl, cl, el, hlc, hlm, _, hlv⟩ := HM0.out.flows
  subst el
  obtain ⟨n, hn⟩ : ∃ n, M.flows.length = n := ⟨_, rfl⟩
  rw [hn] at hlc
  have HN := Lib.hid hn
  have HLV := Lib.hid hlv
  unfold maxLen at hlm
  rw [hn] at HN0 HM0 ⊢
  rw [hn] at hW
  clear hlv hn
  obtain ⟨c0, c1, c2, c3, c4, c5, c6, c7, c8⟩ := HN0.out
  go_enter Tryz.func21, Tryz.ntmps21
  go_wp2
  clear c0 c1 c2 c3 c4 c5 c6 c7 c8 hW
  go_loopw [9] (fun si wr => ∃ (i : Nat), i ≤ n ∧ si = .int .i64 (i : Int) ∧ Hid (Below W.heap.size W wr) ∧ Hid (SoFar (okF M) M.flows i)) (fun si _ => n - (intOf si).toNat)
  case atStart => exact ⟨0, Nat.zero_le _, rfl, Lib.hid (Below.refl _ _), Lib.hid (SoFar.zero _ _)⟩
  case round =>
    obtain ⟨i, hi, rfl, HB, HSF⟩ := hrel
    by_cases hlt : i < n
    · obtain ⟨x, hx⟩ : ∃ x, M.flows[i]? = some x := ⟨_, List.getElem?_eq_getElem (by rw [HN.out]; exact hlt)⟩
      obtain ⟨b', o, rfl, hat⟩ := HLV.out i x hx
      obtain ⟨d0, d1⟩ := Fl.two (hat.keep HB.out hat.lt)
      have HX := Lib.hid hx
      have hb1 := HB.out.alloc HB.out.size (.cells #[.string x.code, .int .i64 x.kind] 86)
      have HB1 := Lib.hid hb1
      have HM1 := Lib.hid (HM0.out.keep hb1)
      obtain ⟨k0, k1, k2, k3, k4, k5, k6, k7, k8⟩ := HN0.out.keep hb1 HN0.out.lt
      have HX1 := Lib.hid (BoxE.new Fl.encF wr x 86)
      obtain ⟨q0, q1⟩ := Fl.two HX1.out.at0
      clear hx hat hb1
      go_wp2_with fail
      clear k0 k1 k2 k3 k4 k5 k6 k7 k8 q0 q1 d0 d1
      refine (accountsOf_any _ M.lines x.code _ HM1.out.lines HLL.out HS.out).mono ?_
      rintro en w3 ⟨mb, mn, D, rfl, hma, hag, hb3⟩
      have HB3 := Lib.hid (HB1.out.trans (hb3.mono HB1.out.size))
      have HM3 := Lib.hid (HM1.out.keep hb3)
      have HMA := Lib.hid hma
      have HAG := Lib.hid hag
      have hlen : (Builtin.len_ #[101] 3 #[.map (some mb)]).run Tryz.prog w3 = .ok (.int .i64 (Maps.size D : Nat)) w3 := hma.len Tryz.underlying101 3
      obtain ⟨q0, q1⟩ := Fl.two (HX1.out.kept hb3).at0
      obtain ⟨k0, k1, k2, k3, k4, k5, k6, k7, k8⟩ := HN0.out.keep HB3.out HN0.out.lt
      obtain ⟨T, hT⟩ : ∃ T, Maps.size D = T := ⟨_, rfl⟩
      rw [hT] at hlen
      have HT := Lib.hid hT
      have HTZ : Hid (T = 0 ↔ anyL M.lines x.code = false) := Lib.hid (by rw [← hT]; exact hag.size)
      clear hma hag hb3 hT HB1 HM1 HX1
      by_cases hk : x.kind = 0 ∨ x.kind = 4
      · have HOK : Hid (okF M x = !anyL M.lines x.code) := Lib.hid (by unfold okF; rw [if_pos hk])
        by_cases hT0 : T = 0
        · have HSN := Lib.hid (HSF.out.next HX.out (by rw [HOK.out, HTZ.out.1 hT0]; rfl))
          subst hT0
          rcases hk with hk | hk
          · have hk0 : (x.kind == 0) = true := by simp [hk]
            go_wp2
            go_roundw
            case rel => exact ⟨i + 1, by omega, by go_num, HB3, HSN⟩
            case measure => simp [intOf]; omega
          · have hk0 : (x.kind == 0) = false := by simp [hk]
            have hk4 : (x.kind == 4) = true := by simp [hk]
            go_wp2
            go_roundw
            case rel => exact ⟨i + 1, by omega, by go_num, HB3, HSN⟩
            case measure => simp [intOf]; omega
        · have HRF : Hid (R = false) := Lib.hid (by
            rw [← HR.out]
            refine all_no HX.out ?_
            rw [HOK.out]
            cases hany : anyL M.lines x.code with
            | true => rfl
            | false => exact absurd (HTZ.out.2 hany) hT0)
          have hTp : decide ((0 : Int) < (T : Int)) = true := decide_eq_true (by omega)
          have hTq : decide (0 < T) = true := decide_eq_true (by omega)
          rcases hk with hk | hk
          · have hk0 : (x.kind == 0) = true := by simp [hk]
            go_wp2
            go_ret
            exact ⟨by rw [HRF.out]; rfl, HB0.out.trans (HB3.out.mono HB0.out.size)⟩
          · have hk0 : (x.kind == 0) = false := by simp [hk]
            have hk4 : (x.kind == 4) = true := by simp [hk]
            go_wp2
            go_ret
            exact ⟨by rw [HRF.out]; rfl, HB0.out.trans (HB3.out.mono HB0.out.size)⟩
      · have HOK : Hid (okF M x = allC M.chart M.lines x.code) := Lib.hid (by unfold okF; rw [if_neg hk])
        have hk0 : (x.kind == 0) = false := by simp; exact fun e => hk (.inl e)
        have hk4 : (x.kind == 4) = false := by simp; exact fun e => hk (.inr e)
        have HHA := Lib.hid (hasAll_any _ M.chart M.lines x.code mb mn D w3 HM3.out.chart HMA.out HAG.out HSC.out HLL.out)
        obtain ⟨A, hA⟩ : ∃ A, allC M.chart M.lines x.code = A := ⟨_, rfl⟩
        rw [hA] at HHA HOK
        clear hk hA
        go_wp2_with fail
        refine HHA.out.mono ?_
        rintro en w4 ⟨rfl, hb4⟩
        have HB4 := Lib.hid (HB3.out.trans (hb4.mono HB3.out.size))
        clear hb4 k0 k1 k2 k3 k4 k5 k6 k7 k8 q0 q1
        cases A with
        | false =>
          have HRF : Hid (R = false) := Lib.hid (by rw [← HR.out]; exact all_no HX.out HOK.out)
          go_wp2
          go_ret
          exact ⟨by rw [HRF.out]; rfl, HB0.out.trans (HB4.out.mono HB0.out.size)⟩
        | true =>
          have HSN := Lib.hid (HSF.out.next HX.out HOK.out)
          go_wp2
          go_roundw
          case rel => exact ⟨i + 1, by omega, by go_num, HB4, HSN⟩
          case measure => simp [intOf]; omega
    · have HRT : Hid (R = true) := Lib.hid (by rw [← HR.out]; exact HSF.out.done (by rw [HN.out]; omega))
      go_wp2
      go_ret
      exact ⟨by rw [HRT.out]; rfl, HB0.out.trans (HB.out.mono HB0.out.size)⟩
end Go.Proofs.YticdmlijacnjbaaGreatDoor.Un
/- The walk of the document's Mapped, and that it tells what the program's does. What was there stays. -/
namespace Go.Proofs.YticdmlijacnjbaaGreatDoor.Un
open Go.RowKit

/-- Is a flow of an account as it should be? -/
def okAF (M : Mast) (a : Acct) (f : Fl.Flow) : Bool := (G.findK Lin.key M.lines (a.code, f.code)).isSome == (decide (f.kind ≠ 0) && decide (f.kind ≠ 4))
def okA (M : Mast) (a : Acct) : Bool := M.flows.all (okAF M a)
def mapD (M : Mast) : Bool := M.chart.all (okA M)
theorem find_cnt (L : List Lin) (a f : ByteArray) : (G.findK Lin.key L (a, f)).isSome = decide (0 < cntL L f a) := by
  cases hf : G.findK Lin.key L (a, f) with
  | some x =>
    obtain ⟨h1, h2⟩ := G.findK_mem hf
    have e1 : x.acc = a := (Prod.mk.inj h1).1
    have e2 : x.flow = f := (Prod.mk.inj h1).2
    symm
    refine decide_eq_true ?_
    unfold cntL
    exact List.length_pos_of_mem (List.mem_filter.2 ⟨h2, by simp [e1, e2]⟩)
  | none =>
    symm
    refine decide_eq_false ?_
    intro h
    unfold cntL at h
    obtain ⟨x, hx⟩ := List.exists_mem_of_length_pos h
    rw [List.mem_filter] at hx
    have := G.findK_no hf x hx.1
    simp only [Bool.and_eq_true, decide_eq_true_eq] at hx
    exact this (Prod.ext hx.2.2 hx.2.1)
theorem any_cnt {M : Mast} (hl : linesN M = true) (f : ByteArray) : anyL M.lines f = false ↔ ∀ a ∈ M.chart, cntL M.lines f a.code = 0 := by
  constructor
  · intro h a _
    unfold cntL
    rw [List.length_eq_zero_iff, List.filter_eq_nil_iff]
    intro x hx
    unfold anyL at h
    rw [List.any_eq_false] at h
    have := h x hx
    simp only [decide_eq_true_eq] at this
    simp [this]
  · intro h
    unfold anyL
    rw [List.any_eq_false]
    intro x hx
    simp only [decide_eq_true_eq]
    intro e
    unfold linesN at hl
    have hx2 := List.all_eq_true.1 hl x hx
    unfold lineN hasA at hx2
    rw [Bool.and_eq_true] at hx2
    obtain ⟨y, hy⟩ := Option.isSome_iff_exists.1 hx2.1
    obtain ⟨h1, h2⟩ := find_mem hy
    have h0 := h y h2
    unfold cntL at h0
    rw [List.length_eq_zero_iff, List.filter_eq_nil_iff] at h0
    have := h0 x hx
    simp [e, h1] at this
theorem map_eq {M : Mast} (hl : linesN M = true) : mapP M = mapD M := by
  rw [Bool.eq_iff_iff]
  unfold mapP mapD okA
  simp only [List.all_eq_true]
  constructor
  · intro h a ha f hf
    have h1 := h f hf
    unfold okF at h1
    unfold okAF
    rw [find_cnt]
    by_cases hk : f.kind = 0 ∨ f.kind = 4
    · rw [if_pos hk, Bool.not_eq_true', any_cnt hl] at h1
      rw [h1 a ha]
      rcases hk with hk | hk <;> simp [hk]
    · rw [if_neg hk] at h1
      unfold allC at h1
      have h2 := List.all_eq_true.1 h1 a ha
      rw [h2]
      simp only [not_or] at hk
      simp [hk.1, hk.2]
  · intro h f hf
    unfold okF
    by_cases hk : f.kind = 0 ∨ f.kind = 4
    · rw [if_pos hk, Bool.not_eq_true', any_cnt hl]
      intro a ha
      have h1 := h a ha f hf
      unfold okAF at h1
      rw [find_cnt] at h1
      have e : (decide (f.kind ≠ 0) && decide (f.kind ≠ 4)) = false := by rcases hk with hk | hk <;> simp [hk]
      rw [e, beq_iff_eq, decide_eq_false_iff_not] at h1
      omega
    · rw [if_neg hk]
      unfold allC
      rw [List.all_eq_true]
      intro a ha
      have h1 := h a ha f hf
      unfold okAF at h1
      rw [find_cnt] at h1
      simp only [not_or] at hk
      have e : (decide (f.kind ≠ 0) && decide (f.kind ≠ 4)) = true := by simp [hk.1, hk.2]
      rw [e, beq_iff_eq] at h1
      exact h1
set_option maxRecDepth 100000 in
set_option maxHeartbeats 8000000 in
theorem rmapped_any (c f e l : Value) (M : Mast) (w : World) (h : MastIn w c f e l M) :
    Calls Tryz.prog 22 #[aggM c f e l M] w fun en w' => en = .returned (.bool (mapD M)) ∧ Below w.heap.size w w' := by
  have HB0 := Lib.hid ((Below.refl w.heap.size w).alloc (Nat.le_refl _) (.cells (cellsM c f e l M) 39))
  have HN0 := Lib.hid (nine_new w c f e l M 39)
  have HM0 := Lib.hid (h.keep HB0.out)
  obtain ⟨R, hR⟩ : ∃ R, mapD M = R := ⟨_, rfl⟩
  rw [hR]
  have HR : Hid (M.chart.all (okA M) = R) := Lib.hid hR
  clear hR h
  obtain ⟨W, hW⟩ : ∃ W, w.alloc (.cells (cellsM c f e l M) 39) = W := ⟨_, rfl⟩
  rw [hW] at HB0 HN0 HM0
  obtain ⟨pa, ca, ea, hac, ham, _, hav⟩ := HM0.out.chart
  obtain ⟨pf, cf, ef, hfc, hfm, _, hfv⟩ := HM0.out.flows
  subst ea ef
  obtain ⟨n, hn⟩ : ∃ n, M.chart.length = n := ⟨_, rfl⟩
  obtain ⟨m, hm⟩ : ∃ m, M.flows.length = m := ⟨_, rfl⟩
  rw [hn] at hac
  rw [hm] at hfc
  have HN := Lib.hid hn
  have HMM := Lib.hid hm
  have HAV := Lib.hid hav
  have HFV := Lib.hid hfv
  unfold maxLen at ham hfm
  rw [hn, hm] at HN0 HM0 ⊢
  rw [hn, hm] at hW
  clear hav hfv hn hm
  go_enter Tryz.func22, Tryz.ntmps22
  go_wp2
  clear hW
  go_loopg [3] n (fun kx s3 wr => ∃ (i : Nat), i ≤ n ∧ n - i ≤ kx ∧ s3 = .int .i64 (i : Int) ∧ Hid (Below W.heap.size W wr) ∧ Hid (SoFar (okA M) M.chart i))
  case atStart => exact ⟨0, Nat.zero_le _, by omega, rfl, Lib.hid (Below.refl _ _), Lib.hid (SoFar.zero _ _)⟩
  case round =>
    obtain ⟨i, hi, hkx, rfl, HB, HSF⟩ := hrel
    obtain ⟨k0, k1, k2, k3, k4, k5, k6, k7, k8⟩ := HN0.out.keep HB.out HN0.out.lt
    by_cases hlt : i < n
    · obtain ⟨x, hx⟩ : ∃ x, M.chart[i]? = some x := ⟨_, List.getElem?_eq_getElem (by rw [HN.out]; exact hlt)⟩
      obtain ⟨ba, oa, rfl, hat⟩ := HAV.out i x hx
      have HX := Lib.hid hx
      have HAT := Lib.hid hat
      clear hx hat
      rename World => wa
      go_wp2
      clear k0 k1 k2 k3 k4 k5 k6 k7 k8
      go_loopg [4] m (fun ky s4 wq => ∃ (j : Nat), j ≤ m ∧ m - j ≤ ky ∧ s4 = .int .i64 (j : Int) ∧ Hid (Below W.heap.size W wq) ∧ Hid (SoFar (okAF M x) M.flows j))
      case atStart => exact ⟨0, Nat.zero_le _, by omega, rfl, HB, Lib.hid (SoFar.zero _ _)⟩
      case round =>
        obtain ⟨j, hj, hky, rfl, HBQ, HSQ⟩ := hrel
        obtain ⟨k0, k1, k2, k3, k4, k5, k6, k7, k8⟩ := HN0.out.keep HBQ.out HN0.out.lt
        by_cases hlj : j < m
        · obtain ⟨y, hy⟩ : ∃ y, M.flows[j]? = some y := ⟨_, List.getElem?_eq_getElem (by rw [HMM.out]; exact hlj)⟩
          obtain ⟨bf, of, rfl, hfat⟩ := HFV.out j y hy
          obtain ⟨d0, d1⟩ := Fl.two (hfat.keep HBQ.out hfat.lt)
          have HY := Lib.hid hy
          have hb1 := HBQ.out.alloc HBQ.out.size (.cells #[.string y.code, .int .i64 y.kind] 87)
          have hX1 := BoxE.new Fl.encF wr y 87
          obtain ⟨W1, hW1⟩ : ∃ W1, wr.alloc (.cells #[.string y.code, .int .i64 y.kind] 87) = W1 := ⟨_, rfl⟩
          have hX1' : BoxE Fl.encF W1 wr.heap.size 87 y := by rw [← hW1]; exact hX1
          rw [hW1] at hb1
          have HX1 := Lib.hid hX1'
          have HB1 := Lib.hid hb1
          clear hy hfat hb1 hX1 hX1'
          go_wp2_with fail
          clear k0 k1 k2 k3 k4 k5 k6 k7 k8 d0 d1 hW1
          obtain ⟨k0, k1, k2, k3, k4, k5, k6, k7, k8⟩ := HN0.out.keep HB1.out HN0.out.lt
          obtain ⟨q0, q1⟩ := Fl.two HX1.out.at0
          obtain ⟨a0, a1, a2, a3, a4, a5⟩ := HAT.out.keep HB1.out HAT.out.lt
          have r0 := fun p : Past W1 => cell_past k0 p
          have r1 := fun p : Past W1 => cell_past k1 p
          have r2 := fun p : Past W1 => cell_past k2 p
          have r3 := fun p : Past W1 => cell_past k3 p
          have r4 := fun p : Past W1 => cell_past k4 p
          have r5 := fun p : Past W1 => cell_past k5 p
          have r6 := fun p : Past W1 => cell_past k6 p
          have r7 := fun p : Past W1 => cell_past k7 p
          have r8 := fun p : Past W1 => cell_past k8 p
          have s0 := fun p : Past W1 => cell_past q0 p
          have s1 := fun p : Past W1 => cell_past q1 p
          have t0 := fun p : Past W1 => cell_past a0 p
          clear k0 k1 k2 k3 k4 k5 k6 k7 k8 q0 q1 a0 a1 a2 a3 a4 a5
          have HTO := Lib.hid (fun p : Past W1 => rto_any _ _ e l M x.code y.code p.to (HM0.out.keep (HB1.out.trans (p.below.mono HB1.out.size))))
          obtain ⟨T, hT⟩ : ∃ T, toO (G.findK Lin.key M.lines (x.code, y.code)) = T := ⟨_, rfl⟩
          obtain ⟨I, hI⟩ : ∃ I, (G.findK Lin.key M.lines (x.code, y.code)).isSome = I := ⟨_, rfl⟩
          simp only [hT, hI] at HTO
          have HOK : Hid (okAF M x y = (I == (decide (y.kind ≠ 0) && decide (y.kind ≠ 4)))) := Lib.hid (by unfold okAF; rw [hI])
          clear hT hI
          refine wp_region_past (by kernel_rfl) (by kernel_rfl) ?_
          repeat (go_big_quiet_step ((go_at_call 20; exact Calls.past_of (HTO.out _))))
          refine wpQuiet_nil ?_
          intro w2 hw'
          obtain ⟨⟨w2', hb2⟩, rfl⟩ := hw'
          clear r0 r1 r2 r3 r4 r5 r6 r7 r8 s0 s1 t0 HTO
          have HB2 := Lib.hid (HB1.out.trans (hb2.mono HB1.out.size))
          obtain ⟨q0, q1⟩ := Fl.two (HX1.out.kept hb2).at0
          clear hb2
          have next : ∀ {ok : Bool}, okAF M x y = ok → ok = true → SoFar (okAF M x) M.flows (j + 1) := fun h1 h2 => HSQ.out.next HY.out (h1.trans h2)
          have HNX := Lib.hid (fun (h1 : okAF M x y = true) => HSQ.out.next HY.out h1)
          have HNO := Lib.hid (fun (h1 : okAF M x y = false) => show R = false by rw [← HR.out]; exact all_no HX.out (all_no HY.out h1))
          clear next
          by_cases hk0 : y.kind = 0
          · have hz0 : (y.kind != 0) = false := by simp [hk0]
            have HOK2 : Hid (okAF M x y = !I) := Lib.hid (by rw [HOK.out, hk0]; cases I <;> rfl)
            clear hk0
            cases I with
            | false =>
              have HSN := Lib.hid (HNX.out HOK2.out)
              go_wp2
              go_roundg (m - (j + 1))
              case measure => omega
              case rel => exact ⟨j + 1, by omega, Nat.le_refl _, by go_num, HB2, HSN⟩
            | true =>
              have HRF := Lib.hid (HNO.out HOK2.out)
              go_wp2
              go_ret
              exact ⟨by rw [HRF.out]; rfl, HB0.out.trans (HB2.out.mono HB0.out.size)⟩
          · have hz0 : (y.kind != 0) = true := by simp [hk0]
            by_cases hk4 : y.kind = 4
            · have hz4 : (y.kind != 4) = false := by simp [hk4]
              have HOK2 : Hid (okAF M x y = !I) := Lib.hid (by rw [HOK.out, hk4]; cases I <;> rfl)
              clear hk0 hk4
              cases I with
              | false =>
                have HSN := Lib.hid (HNX.out HOK2.out)
                go_wp2
                go_roundg (m - (j + 1))
                case measure => omega
                case rel => exact ⟨j + 1, by omega, Nat.le_refl _, by go_num, HB2, HSN⟩
              | true =>
                have HRF := Lib.hid (HNO.out HOK2.out)
                go_wp2
                go_ret
                exact ⟨by rw [HRF.out]; rfl, HB0.out.trans (HB2.out.mono HB0.out.size)⟩
            · have hz4 : (y.kind != 4) = true := by simp [hk4]
              have HOK2 : Hid (okAF M x y = I) := Lib.hid (by rw [HOK.out, decide_eq_true hk0, decide_eq_true hk4]; cases I <;> rfl)
              clear hk0 hk4
              cases I with
              | true =>
                have HSN := Lib.hid (HNX.out HOK2.out)
                go_wp2
                go_roundg (m - (j + 1))
                case measure => omega
                case rel => exact ⟨j + 1, by omega, Nat.le_refl _, by go_num, HB2, HSN⟩
              | false =>
                have HRF := Lib.hid (HNO.out HOK2.out)
                go_wp2
                go_ret
                exact ⟨by rw [HRF.out]; rfl, HB0.out.trans (HB2.out.mono HB0.out.size)⟩
        · have HAN := Lib.hid (HSF.out.next HX.out (show okA M x = true from HSQ.out.done (by rw [HMM.out]; omega)))
          go_wp2
          go_roundg (n - (i + 1))
          case measure => omega
          case rel => exact ⟨i + 1, by omega, Nat.le_refl _, by go_num, HBQ, HAN⟩
    · have HRT : Hid (R = true) := Lib.hid (by rw [← HR.out]; exact HSF.out.done (by rw [HN.out]; omega))
      go_wp2
      go_ret
      exact ⟨by rw [HRT.out]; rfl, HB0.out.trans (HB.out.mono HB0.out.size)⟩
end Go.Proofs.YticdmlijacnjbaaGreatDoor.Un
/- The master data of the statements' own small text: what it tells, whatever the order of its lines. No program in it. -/
namespace Go.Proofs.YticdmlijacnjbaaGreatDoor.Un
open Go.RowKit

abbrev xa : ByteArray := ⟨#[97]⟩
abbrev xb : ByteArray := ⟨#[98]⟩
abbrev xc : ByteArray := ⟨#[99]⟩
abbrev xF0 : ByteArray := ⟨#[70, 48]⟩
abbrev xF1 : ByteArray := ⟨#[70, 49]⟩
abbrev xF8 : ByteArray := ⟨#[70, 56]⟩
abbrev xF9 : ByteArray := ⟨#[70, 57]⟩
abbrev xFz : ByteArray := ⟨#[70, 122]⟩
abbrev xE1 : ByteArray := ⟨#[69, 49]⟩
abbrev xU : ByteArray := ⟨#[85, 83, 68]⟩
abbrev xL1 : ByteArray := ⟨#[76, 49]⟩
def smallT : ByteArray := ⟨#[97, 99, 99, 111, 117, 110, 116, 32, 97, 32, 97, 115, 115, 101, 116, 10, 97, 99, 99, 111, 117, 110, 116, 32, 98, 32, 108, 105, 97, 98, 105, 108, 105, 116, 121, 10, 97, 99, 99, 111, 117, 110, 116, 32, 99, 32, 101, 113, 117, 105, 116, 121, 10, 102, 108, 111, 119, 32, 70, 48, 32, 111, 112, 101, 110, 10, 102, 108, 111, 119, 32, 70, 49, 32, 109, 111, 118, 101, 10, 102, 108, 111, 119, 32, 70, 56, 32, 102, 120, 10, 102, 108, 111, 119, 32, 70, 57, 32, 115, 99, 111, 112, 101, 10, 102, 108, 111, 119, 32, 70, 122, 32, 99, 108, 111, 115, 101, 10, 101, 110, 116, 105, 116, 121, 32, 69, 49, 32, 85, 83, 68, 10, 103, 114, 111, 117, 112, 32, 85, 83, 68, 10, 114, 101, 115, 101, 114, 118, 101, 32, 99, 10, 109, 105, 110, 111, 114, 32, 99, 10, 100, 105, 102, 102, 101, 114, 32, 97, 10, 115, 116, 97, 107, 101, 32, 97, 10, 109, 97, 112, 32, 97, 32, 70, 49, 32, 76, 49, 10]⟩
def accLines : List (List ByteArray) := [[tAccount, xa, tAsset], [tAccount, xb, tLiability], [tAccount, xc, tEquity]]
def restLines : List (List ByteArray) := [[Fl.tFlow, xF0, Fl.tOpen], [Fl.tFlow, xF1, Fl.tMove], [Fl.tFlow, xF8, Fl.tFx], [Fl.tFlow, xF9, Fl.tScope], [Fl.tFlow, xFz, Fl.tClose], [tEntity, xE1, xU], [tGroup, xU], [tReserve, xc], [tMinor, xc], [tDiffer, xa], [tStake, xa], [tMap, xa, xF1, xL1]]
def smallL : List (List ByteArray) := accLines ++ restLines
/-- A plain account. -/
abbrev plainAcc (s : ByteArray) (k : Int) : Acct := ⟨s, k, false, false, emp, false⟩
theorem plain_marks (s : ByteArray) (k : Int) : marksA (plainAcc s k) = true := by
  unfold marksA
  simp [neB_empty]
theorem plain_parse (s : ByteArray) (k : Int) (hs : nmB s = true) (hk : k = 0 ∨ k = 1 ∨ k = 2) : parseA [tAccount, s, clsW k] = (plainAcc s k, 0) := by
  have hr : rightA (plainAcc s k) = true := by
    unfold rightA
    rw [plain_marks, hs]
    rcases hk with rfl | rfl | rfl <;> rfl
  refine parse_of hr ?_
  unfold wordsA
  rw [if_pos hr]
  unfold markW
  simp [neB_empty]
theorem small_text : smallT = mkB (textW smallL) := by kernel_rfl
theorem acO_a : acO [tAccount, xa, tAsset] = some (plainAcc xa 0) := by
  have h := plain_parse xa 0 (by decide) (by simp)
  rw [acO_yes rfl (by rw [show [tAccount, xa, tAsset] = [tAccount, xa, clsW 0] from rfl, h]), show [tAccount, xa, tAsset] = [tAccount, xa, clsW 0] from rfl, h]
theorem acO_b : acO [tAccount, xb, tLiability] = some (plainAcc xb 1) := by
  have h := plain_parse xb 1 (by decide) (by simp)
  rw [acO_yes rfl (by rw [show [tAccount, xb, tLiability] = [tAccount, xb, clsW 1] from rfl, h]), show [tAccount, xb, tLiability] = [tAccount, xb, clsW 1] from rfl, h]
theorem acO_c : acO [tAccount, xc, tEquity] = some (plainAcc xc 2) := by
  have h := plain_parse xc 2 (by decide) (by simp)
  rw [acO_yes rfl (by rw [show [tAccount, xc, tEquity] = [tAccount, xc, clsW 2] from rfl, h]), show [tAccount, xc, tEquity] = [tAccount, xc, clsW 2] from rfl, h]
def smallA : List Acct := [plainAcc xa 0, plainAcc xb 1, plainAcc xc 2]
def smallF : List Fl.Flow := [⟨xF0, 0⟩, ⟨xF1, 1⟩, ⟨xF8, 2⟩, ⟨xF9, 3⟩, ⟨xFz, 4⟩]
theorem fm_ac : smallL.filterMap acO = smallA := by
  unfold smallL
  rw [List.filterMap_append, show restLines.filterMap acO = [] by kernel_rfl, List.append_nil]
  unfold accLines
  rw [List.filterMap_cons, acO_a, List.filterMap_cons, acO_b, List.filterMap_cons, acO_c]; rfl
theorem fm_fl : smallL.filterMap flO = smallF := by kernel_rfl
theorem fm_en : smallL.filterMap enO = [⟨xE1, xU⟩] := by kernel_rfl
theorem fm_li : smallL.filterMap liO = [⟨xa, xF1, xL1⟩] := by kernel_rfl
theorem fm_cur : smallL.filterMap (onO tGroup) = [xU] := by kernel_rfl
theorem fm_res : smallL.filterMap (onO tReserve) = [xc] := by kernel_rfl
theorem fm_dif : smallL.filterMap (onO tDiffer) = [xa] := by kernel_rfl
theorem fm_min : smallL.filterMap (onO tMinor) = [xc] := by kernel_rfl
theorem fm_stk : smallL.filterMap (onO tStake) = [xa] := by kernel_rfl
theorem small_good : ∀ ws ∈ smallL, Good ws := by
  intro ws hw
  rcases List.mem_append.1 hw with h | h
  · left
    simp only [accLines, List.mem_cons, List.not_mem_nil, or_false] at h
    rcases h with rfl | rfl | rfl
    · exact ⟨rfl, by rw [show [tAccount, xa, tAsset] = [tAccount, xa, clsW 0] from rfl, plain_parse xa 0 (by decide) (by simp)]⟩
    · exact ⟨rfl, by rw [show [tAccount, xb, tLiability] = [tAccount, xb, clsW 1] from rfl, plain_parse xb 1 (by decide) (by simp)]⟩
    · exact ⟨rfl, by rw [show [tAccount, xc, tEquity] = [tAccount, xc, clsW 2] from rfl, plain_parse xc 2 (by decide) (by simp)]⟩
  · right
    simp only [restLines, List.mem_cons, List.not_mem_nil, or_false] at h
    rcases h with rfl | rfl | rfl | rfl | rfl | rfl | rfl | rfl | rfl | rfl | rfl | rfl
    · exact .inl ⟨by kernel_rfl, by kernel_rfl⟩
    · exact .inl ⟨by kernel_rfl, by kernel_rfl⟩
    · exact .inl ⟨by kernel_rfl, by kernel_rfl⟩
    · exact .inl ⟨by kernel_rfl, by kernel_rfl⟩
    · exact .inl ⟨by kernel_rfl, by kernel_rfl⟩
    · exact .inr (by kernel_rfl)
    · exact .inr (by kernel_rfl)
    · exact .inr (by kernel_rfl)
    · exact .inr (by kernel_rfl)
    · exact .inr (by kernel_rfl)
    · exact .inr (by kernel_rfl)
    · exact .inr (by kernel_rfl)
theorem small_ok : Ok smallL where
  good := small_good
  ac := by rw [fm_ac]; decide
  al := by rw [fm_ac]; decide
  fc := by rw [fm_fl]; decide
  fk := by rw [fm_fl]; decide
  fl := by rw [fm_fl]; decide
  ec := by rw [fm_en]; decide
  el := by rw [fm_en]; decide
  lc := by rw [fm_li]; decide
  ll := by rw [fm_li]; decide
  on t ht := by
    simp only [ones, List.mem_cons, List.not_mem_nil, or_false] at ht
    rcases ht with rfl | rfl | rfl | rfl | rfl
    · rw [fm_cur]; decide
    · rw [fm_res]; decide
    · rw [fm_dif]; decide
    · rw [fm_min]; decide
    · rw [fm_stk]; decide
theorem small_right : ∀ ws ∈ smallL, rightW ws := by
  intro ws hw
  have : smallL.all (fun ws => decide (ws ≠ []) && ws.all fun x => rightL x.data.toList) = true := by kernel_rfl
  have h := List.all_eq_true.1 this ws hw
  rw [Bool.and_eq_true, decide_eq_true_eq] at h
  exact ⟨h.1, fun x hx => List.all_eq_true.1 h.2 x hx⟩
/-- What the small text tells. -/
structure SmallIs (M : Mast) : Prop where
  chart : M.chart.length = 3
  flows : M.flows.length = 5
  cur : M.cur = xU
  ent : G.findK Ent.code M.ents xE1 = some ⟨xE1, xU⟩
  lin : G.findK Lin.key M.lines (xa, xF1) = some ⟨xa, xF1, xL1⟩
  map : mapP M = false
  size : szL (outM M) = 189
  few : M.ents.length ≤ 60 ∧ M.lines.length ≤ 1000
  acc : ∀ x ∈ M.lines, x.acc.size ≤ 100
  code : ∀ x ∈ M.chart, x.code.size ≤ 100
theorem oneL_at {x y : ByteArray} (h : [y] = oneL x) : x = y := by
  unfold oneL at h
  split at h
  · cases h
  · simpa using h.symm
theorem has_of {C : List Acct} {a : Acct} (h : a ∈ C) : hasA C a.code = true := findL_some h
theorem plain_of {C : List Acct} {a : Acct} (hr : riseL C = true) (h : a ∈ C) (k : Int) (he : a = plainAcc a.code k) : plainA C a.code k = true := by
  have e : findL C a.code = some a := by
    have h1 : G.findK Acct.code C a.code = some a := G.findK_of_mem (by rw [← riseL_eq]; exact hr) h
    rw [← h1]
    clear h1 hr h
    induction C with
    | nil => rfl
    | cons y C ih => simp only [findL, G.findK]; rw [ih]
  unfold plainA
  rw [e]
  exact decide_eq_true he
theorem hasF_of {L : List Fl.Flow} {f : Fl.Flow} (h : f ∈ L) : Fl.hasF L f.kind = true := by
  unfold Fl.hasF
  exact decide_eq_true (List.length_pos_of_mem (Fl.mem_of.2 ⟨f, h, rfl, rfl⟩))
theorem isK_of {L : List Fl.Flow} {f : Fl.Flow} (hr : riseK Fl.Flow.code L = true) (h : f ∈ L) : isK Fl.Flow.code L f.code = true := by
  rw [(isK_find hr _).1, findK_of_mem hr h]; rfl
theorem small_parse : ∃ M, parseM smallT = (M, 0) ∧ SmallIs M := by
  obtain ⟨M, hM, hi⟩ := run_ok small_ok
  have hch := hi.chart
  have hfl := hi.flows
  have hen := hi.ents
  have hli := hi.lines
  have hcu := hi.cur
  have hre := hi.res
  have hdi := hi.dif
  have hmi := hi.min
  have hst := hi.stk
  rw [fm_ac] at hch
  rw [fm_fl] at hfl
  rw [fm_en] at hen
  rw [fm_li] at hli
  rw [fm_cur] at hcu
  rw [fm_res] at hre
  rw [fm_dif] at hdi
  rw [fm_min] at hmi
  rw [fm_stk] at hst
  have e1 := oneL_at hcu
  have e2 := oneL_at hre
  have e3 := oneL_at hdi
  have e4 := oneL_at hmi
  have e5 := oneL_at hst
  have hents : M.ents = [⟨xE1, xU⟩] := (List.perm_singleton.1 hen)
  have hlins : M.lines = [⟨xa, xF1, xL1⟩] := (List.perm_singleton.1 hli)
  have ma : plainAcc xa 0 ∈ M.chart := (hch.mem_iff).2 (by simp [smallA])
  have mc : plainAcc xc 2 ∈ M.chart := (hch.mem_iff).2 (by simp [smallA])
  have mf : ∀ f ∈ smallF, f ∈ M.flows := fun f hf => (hfl.mem_iff).2 hf
  have hrf := Fl.rise_codes hi.sane.fl
  have hroles : rolesN M = true := by
    unfold rolesN
    rw [e2, e3, e4, e5, has_of mc, has_of ma]; rfl
  have hlines : linesN M = true := by
    unfold linesN
    rw [hlins]
    simp only [List.all_cons, List.all_nil, Bool.and_true]
    unfold lineN
    rw [has_of ma, show isK Fl.Flow.code M.flows xF1 = true from isK_of hrf (mf ⟨xF1, 1⟩ (by simp [smallF]))]; rfl
  have hwhole : Fl.wholeF M.flows = true := by
    unfold Fl.wholeF
    rw [hasF_of (mf ⟨xF0, 0⟩ (by simp [smallF])), hasF_of (mf ⟨xF8, 2⟩ (by simp [smallF])), hasF_of (mf ⟨xF9, 3⟩ (by simp [smallF])), hasF_of (mf ⟨xFz, 4⟩ (by simp [smallF]))]; rfl
  have hplain : rolesP M = true := by
    unfold rolesP
    rw [e2, e3, e4, e5, plain_of hi.sane.ch mc 2 rfl, plain_of hi.sane.ch ma 0 rfl]; rfl
  have hall : allE M = 0 := by
    unfold allE
    rw [if_neg, if_neg, if_neg]
    · rw [hplain]; simp
    · rw [hwhole]; simp
    · rw [hroles, hlines, e1]
      have : (xU : ByteArray) ≠ emp := by decide
      simp [this]
  have hmp : mapP M = false := by
    unfold mapP
    obtain ⟨i, hlt, he⟩ := List.getElem_of_mem (mf ⟨xF8, 2⟩ (by simp [smallF]))
    refine all_no (i := i) (x := ⟨xF8, 2⟩) (by rw [List.getElem?_eq_getElem hlt, he]) ?_
    unfold okF
    rw [if_neg (by decide)]
    obtain ⟨j, hjt, hj⟩ := List.getElem_of_mem ma
    refine all_no (i := j) (x := plainAcc xa 0) (by rw [List.getElem?_eq_getElem hjt, hj]) ?_
    rw [hlins]
    decide
  obtain ⟨hE, hW⟩ := text_back smallL small_right (by have : szL smallL = 189 := by kernel_rfl
                                                      omega)
  rw [← small_text] at hE hW
  have hout : outM M = outO M := out_all hi hall
  have hperm := out_run hM
  rw [outO_zero, List.nil_append, ← hout] at hperm
  refine ⟨M, ?_, ⟨?_, ?_, e1, ?_, ?_, hmp, ?_, ?_, ?_, ?_⟩⟩
  · unfold parseM
    rw [if_pos hE, hW]
    unfold linesM
    rw [hM, endM_ok M hall]
  · rw [hch.length_eq]; rfl
  · rw [hfl.length_eq]; rfl
  · rw [hents]; simp [G.findK]
  · rw [hlins]; simp [G.findK, Lin.key]
  · rw [szL_perm hperm]; kernel_rfl
  · rw [hents, hlins]; exact ⟨by decide, by decide⟩
  · intro x hx; rw [hlins] at hx; simp at hx; subst hx; decide
  · intro x hx
    have := (hch.mem_iff).1 hx
    simp only [smallA, List.mem_cons, List.not_mem_nil, or_false] at this
    rcases this with rfl | rfl | rfl <;> decide
/-- The text of a group alone. -/
def groupT : ByteArray := ⟨#[103, 114, 111, 117, 112, 32, 85, 83, 68, 10]⟩
theorem group_parse : (parseM groupT).2 = 6 := by
  have hl : ∀ ws ∈ [[tGroup, xU]], rightW ws := by
    intro ws hw
    simp at hw; subst hw
    exact ⟨by simp, by simp; exact ⟨by decide, by decide⟩⟩
  have h := parse_text (l := [[tGroup, xU]]) hl (by decide)
  rw [show groupT = mkB (textW [[tGroup, xU]]) by kernel_rfl, h]
  have h0 : stepE zeroM [tGroup, xU] = 0 := by kernel_rfl
  have hr : runM zeroM [[tGroup, xU]] = (stepV zeroM [tGroup, xU], 0) := by rw [runM_cons _ _ _ h0]; rfl
  rw [linesM_six hr (.inr (by kernel_rfl))]
end Go.Proofs.YticdmlijacnjbaaGreatDoor.Un
/- The walk of the statements' alive: it returns true. -/
namespace Go.Proofs.YticdmlijacnjbaaGreatDoor.Un
open Go.RowKit

/-- What Parse tells of the small text. -/
def SmallTold (w : World) (en : Ending) (w' : World) : Prop := ∃ M c f e l, SmallIs M ∧ en = .returned (.tuple #[aggM c f e l M, .int .i64 0]) ∧ MastIn w' c f e l M ∧ Below w.heap.size w w'
theorem parse_small (s : ByteArray) (hs : s = smallT) (w : World) (hl : Laid w) (hlf : Fl.Laid w) : Calls Tryz.prog 11 #[.string s] w (SmallTold w) := by
  subst hs
  obtain ⟨M, hM, hS⟩ := small_parse
  have := parse_any smallT w (by have : smallT.size = 189 := by kernel_rfl
                                 omega) hl hlf
  rw [hM] at this
  refine this.mono ?_
  rintro en w' ⟨v, rfl, ⟨c, f, e, l, rfl, hm⟩, hb⟩
  exact ⟨M, c, f, e, l, hS, rfl, hm, hb⟩
def GroupTold (w : World) (en : Ending) (w' : World) : Prop := ∃ M c f e l, en = .returned (.tuple #[aggM c f e l M, .int .i64 6]) ∧ MastIn w' c f e l M ∧ Below w.heap.size w w'
theorem parse_group (s : ByteArray) (hs : s = groupT) (w : World) (hl : Laid w) (hlf : Fl.Laid w) : Calls Tryz.prog 11 #[.string s] w (GroupTold w) := by
  subst hs
  have := parse_any groupT w (by decide) hl hlf
  rw [group_parse] at this
  refine this.mono ?_
  rintro en w' ⟨v, rfl, ⟨c, f, e, l, rfl, hm⟩, hb⟩
  exact ⟨_, c, f, e, l, rfl, hm, hb⟩
/-- Slices of master data, as they are spelled. -/
theorem mast_shapes {w : World} {c f e l : Value} {M : Mast} (h : MastIn w c f e l M) : ∃ pc cc pf cf pe ce pl cl, c = .slice pc M.chart.length cc ∧ f = .slice pf M.flows.length cf ∧ e = .slice pe M.ents.length ce ∧ l = .slice pl M.lines.length cl := by
  obtain ⟨p0, k0, e0, _⟩ := h.chart
  obtain ⟨p1, k1, e1, _⟩ := h.flows
  obtain ⟨p2, k2, e2, _⟩ := h.ents
  obtain ⟨p3, k3, e3, _⟩ := h.lines
  exact ⟨_, _, _, _, _, _, _, _, e0, e1, e2, e3⟩
theorem qU (s : ByteArray) : (s.toList == [85, 83, 68]) = decide (s = xU) := qL s xU _ rfl
theorem qL1 (s : ByteArray) : (s.toList == [76, 49]) = decide (s = xL1) := qL s xL1 _ rfl
theorem mkB_size (l : List UInt8) : (mkB l).size = l.length := by
  rw [← size_list, mkB_data]
set_option maxRecDepth 100000 in
set_option maxHeartbeats 16000000 in
theorem alive_any (w : World) (hl : Laid w) (hlf : Fl.Laid w) : Calls Tryz.prog 10 #[] w fun en w' => en = .returned (.bool true) ∧ Below w.heap.size w w' := by
  have HL := Lib.hid hl
  have HLF := Lib.hid hlf
  clear hl hlf
  go_enter Tryz.func10, Tryz.ntmps10
  go_wp2_with fail
  refine (parse_small _ (by kernel_rfl) _ HL.out HLF.out).mono ?_
  rintro en w1 ⟨M, c, f, e, l, hS, rfl, hm, hb1⟩
  obtain ⟨pc, cc, pf, cf, pe, ce, pl, cl, rfl, rfl, rfl, rfl⟩ := mast_shapes hm
  have HS := Lib.hid hS
  have hb2 := (Below.refl w1.heap.size w1).alloc (Nat.le_refl _) (.cells (cellsM (.slice pc M.chart.length cc) (.slice pf M.flows.length cf) (.slice pe M.ents.length ce) (.slice pl M.lines.length cl) M) 30)
  have HB2 := Lib.hid (hb1.trans (hb2.mono hb1.size))
  have HM2 := Lib.hid (hm.keep hb2)
  have HN2 := Lib.hid (nine_new w1 (.slice pc M.chart.length cc) (.slice pf M.flows.length cf) (.slice pe M.ents.length ce) (.slice pl M.lines.length cl) M 30)
  have HL2 := Lib.hid (HL.out.below HB2.out (Nat.le_refl _))
  have HLF2 := Lib.hid (HLF.out.below HB2.out (Nat.le_refl _))
  clear hm hb1 hb2 hS
  go_wp2_with fail
  refine (parse_group _ (by kernel_rfl) _ HL2.out HLF2.out).mono ?_
  rintro en w3 ⟨M3, c3, f3, e3, l3, rfl, hm3, hb3⟩
  obtain ⟨pc3, cc3, pf3, cf3, pe3, ce3, pl3, cl3, rfl, rfl, rfl, rfl⟩ := mast_shapes hm3
  have hb4 := hb3.alloc hb3.size (.cells (cellsM (.slice pc3 M3.chart.length cc3) (.slice pf3 M3.flows.length cf3) (.slice pe3 M3.ents.length ce3) (.slice pl3 M3.lines.length cl3) M3) 30)
  have HB4 := Lib.hid (HB2.out.trans (hb4.mono HB2.out.size))
  have HM4 := Lib.hid (HM2.out.keep hb4)
  have HN4 := Lib.hid (HN2.out.kept hb4)
  obtain ⟨k0, k1, k2, k3, k4, k5, k6, k7, k8⟩ := HN4.out
  clear hm3 hb3 hb4 HB2 HM2 HN2
  go_wp2_with fail
  clear k0 k1 k2 k3 k4 k5 k6 k7 k8
  refine (find_any _ _ _ _ M _ _ HM4.out).mono ?_
  rintro en w5 ⟨rfl, hb5⟩
  have HB5 := Lib.hid (HB4.out.trans (hb5.mono HB4.out.size))
  have HM5 := Lib.hid (HM4.out.keep hb5)
  have HN5 := Lib.hid (HN4.out.kept hb5)
  obtain ⟨k0, k1, k2, k3, k4, k5, k6, k7, k8⟩ := HN5.out
  have hfe : G.findK Ent.code M.ents ⟨#[69, 49]⟩ = some ⟨xE1, xU⟩ := HS.out.ent
  rw [hfe]
  clear hb5 HB4 HM4 HN4 hfe
  go_wp2_with fail
  clear k0 k1 k2 k3 k4 k5 k6 k7 k8
  refine (to_any _ _ _ _ M _ _ _ HM5.out).mono ?_
  rintro en w6 ⟨rfl, hb6⟩
  have HB6 := Lib.hid (HB5.out.trans (hb6.mono HB5.out.size))
  have HM6 := Lib.hid (HM5.out.keep hb6)
  have HN6 := Lib.hid (HN5.out.kept hb6)
  obtain ⟨k0, k1, k2, k3, k4, k5, k6, k7, k8⟩ := HN6.out
  have hfl : G.findK Lin.key M.lines (⟨#[97]⟩, ⟨#[70, 49]⟩) = some ⟨xa, xF1, xL1⟩ := HS.out.lin
  rw [hfl]
  have q1 : ((M.chart.length : Int) == 3) = true := by rw [HS.out.chart]; rfl
  have q2 : ((M.flows.length : Int) == 5) = true := by rw [HS.out.flows]; rfl
  have q3 : (M.cur.toList == [85, 83, 68]) = true := by rw [qU]; exact decide_eq_true HS.out.cur
  have q4 : ((curO (some ⟨xE1, xU⟩)).toList == [85, 83, 68]) = true := by rw [qU]; exact decide_eq_true rfl
  have q5 : ((toO (some ⟨xa, xF1, xL1⟩)).toList == [76, 49]) = true := by rw [qL1]; exact decide_eq_true rfl
  clear hb6 HB5 HM5 HN5 hfl
  go_wp2_with fail
  clear k0 k1 k2 k3 k4 k5 k6 k7 k8
  refine (mapped_any _ _ _ _ M _ HM6.out HS.out.few.2 HS.out.acc HS.out.code).mono ?_
  rintro en w7 ⟨rfl, hb7⟩
  rw [HS.out.map]
  have HB7 := Lib.hid (HB6.out.trans (hb7.mono HB6.out.size))
  have HM7 := Lib.hid (HM6.out.keep hb7)
  have HN7 := Lib.hid (HN6.out.kept hb7)
  obtain ⟨k0, k1, k2, k3, k4, k5, k6, k7, k8⟩ := HN7.out
  have HL7 := Lib.hid (HL.out.below HB7.out (Nat.le_refl _))
  have HLF7 := Lib.hid (HLF.out.below HB7.out (Nat.le_refl _))
  clear hb7 HB6 HM6 HN6
  have HPR := Lib.hid (fun W h1 h2 h3 => print_any (.slice pc M.chart.length cc) (.slice pf M.flows.length cf) (.slice pe M.ents.length ce) (.slice pl M.lines.length cl) M W h1 h2 h3 (by rw [HS.out.chart]; decide) (by rw [HS.out.flows]; decide) (by have := HS.out.few.1; omega) HS.out.few.2 (by rw [HS.out.size]; decide))
  obtain ⟨T, hT⟩ : ∃ T, mkB (textW (outM M)) = T := ⟨_, rfl⟩
  have htn : T.size = 189 := by rw [← hT, mkB_size, textW_length, HS.out.size]
  simp only [hT] at HPR
  have hts : decide ((100 : Int) < (T.size : Int)) = true := by rw [htn]; rfl
  have htm : T.size ≤ 1000 := by rw [htn]; decide
  clear hT htn
  go_wp2_with fail
  clear k0 k1 k2 k3 k4 k5 k6 k7 k8
  refine (HPR.out _ HM7.out HL7.out HLF7.out).mono ?_
  rintro en w8 ⟨rfl, hb8⟩
  have HB8 := Lib.hid (HB7.out.trans (hb8.mono HB7.out.size))
  clear hb8
  go_wp2
  go_ret
  exact ⟨rfl, HB8.out⟩
end Go.Proofs.YticdmlijacnjbaaGreatDoor.Un
