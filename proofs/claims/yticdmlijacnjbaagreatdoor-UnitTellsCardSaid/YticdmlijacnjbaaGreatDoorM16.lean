/- UnitRead; UnitReadB; Shelf; LexShelf: texts put together (each begins with what it is). -/
import Derived.Test.YticdmlijacnjbaaGreatDoorM15
import Derived.StillTailTactics
import Derived.BigRegion
import Derived.Shelf.Strings.OnBuilder
import Derived.Shelf.Strings.Search2
import Derived.Shelf.LaysM
import Derived.Shelf.Strings.FieldsFuncAny
import Derived.Test.YticdmlijacnjbaaGreatDoorProg
/- The walk of the reader's read: a line more. -/
namespace Go.Proofs.YticdmlijacnjbaaGreatDoor.Un
open Go.RowKit Go.Maps

/-- What reading a line tells, the map with it. -/
def LineTold (W : World) (B R m n : Nat) (M : Mast) (E : Int) (en : Ending) (W' : World) : Prop :=
  en = .returned (.int .i64 E) ∧ Below B W W' ∧ (E = 0 → ∃ c f e l D, RdAt W' B R m c f e l n D M ∧ StoodOk D M)
theorem RdAt.mono {W : World} {B R m n k : Nat} {c f e l : Value} {D : DataW Unit} {M : Mast} (h : RdAt W B R m c f e l n D M) (hk : n ≤ k) : RdAt W B R m c f e l k D M :=
  ⟨h.box, h.chart, h.flows, h.ents, h.lines, h.map.mono hk, h.geR, h.geM⟩
/-- What is written into the map leaves the reader's other parts. -/
theorem RdAt.mapTurned {W W' : World} {B R m n k : Nat} {c f e l : Value} {D D' : DataW Unit} {M : Mast} (h : RdAt W B R m c f e l n D M) (hg : W.grownBy W' (some m)) (hm : MapRd W' m k D') : RdAt W' B R m c f e l k D' M := by
  have hne : ∀ {B' : Nat} {e' : TypeId} {s q : Nat} {v : Value} {xs : List Value}, W.ownsRow B' e' s v q xs → v.ownBlock = none ∨ v.ownBlock ≠ some m := fun hr => .inr (map_apart h.map hr).symm
  refine ⟨(hg.block R h.lt (fun e0 => ?_)).trans h.box, h.chart.kept hg (hne h.chart), h.flows.kept hg (hne h.flows), h.ents.kept hg (hne h.ents), h.lines.kept hg (hne h.lines), hm, h.geR, h.geM⟩
  cases e0
  obtain ⟨es, cl, hb, _⟩ := h.map
  have := h.box
  unfold BoxRd at this
  rw [hb] at this; cases this
set_option maxRecDepth 100000 in
set_option maxHeartbeats 8000000 in
theorem read_head (v : Value) (ws : List ByteArray) (W0 W : World) (R m n : Nat) (c f e l : Value) (D : DataW Unit) (M : Mast) (hv0 : StrsV W0 v ws) (h0 : 0 < ws.length) (hl : Laid W0) (hlf : Fl.Laid W0) (hb : Below W0.heap.size W0 W) (h : RdAt W W0.heap.size R m c f e l n D M) (hst : StoodOk D M) (hs : Sane M)
    (hw : wd ws 0 = tAccount ∨ wd ws 0 = Fl.tFlow ∨ formedW ws = false) :
    Calls Tryz.prog 26 #[.pointer (some ⟨R, 0, none⟩), v] W (LineTold W W0.heap.size R m (n + 1) (stepV M ws) (stepE M ws)) := by
  have hv := hv0.keep hb
  obtain ⟨x0, hx0⟩ : ∃ x, ws[0]? = some x := ⟨_, List.getElem?_eq_getElem h0⟩
  have hwd : wd ws 0 = x0 := wd_of hx0
  have q1 := qAccount x0
  have q2 := qFlow x0
  by_cases w1 : x0 = tAccount
  · rw [decide_eq_true w1] at q1
    have HV : Hid (stepV M ws = { M with chart := insL M.chart (parseA ws).1 }) := Lib.hid (by unfold stepV; rw [if_pos (hwd.trans w1)])
    have HE : Hid (stepE M ws = (if (parseA ws).2 = 0 then addE M.chart (parseA ws).1 else (parseA ws).2)) := Lib.hid (by unfold stepE; rw [if_pos (hwd.trans w1)])
    have HRA := Lib.hid (readAccount_any v ws W W0.heap.size R m n c f e l D M hv (hl.below hb (Nat.le_refl _)) h hb.size (by have := hs.lc; omega))
    rw [← HV.out, ← HE.out] at HRA
    have HSS : Hid (StoodOk D (stepV M ws)) := Lib.hid (by rw [HV.out]; exact hst.same rfl rfl rfl rfl rfl rfl rfl)
    obtain ⟨E, hE⟩ : ∃ E, stepE M ws = E := ⟨_, rfl⟩
    obtain ⟨N, hN⟩ : ∃ N, stepV M ws = N := ⟨_, rfl⟩
    rw [hE, hN] at HRA ⊢
    rw [hN] at HSS
    obtain ⟨p, cp, rfl, _, _, hc⟩ := hv
    obtain ⟨g, o, rfl, k0⟩ := hc 0 x0 hx0
    rw [Nat.add_zero] at k0
    obtain ⟨nw, hnw⟩ : ∃ nw, ws.length = nw := ⟨_, rfl⟩
    rw [hnw] at HRA h0 ⊢
    clear hE hN hc hx0 hwd w1 hv0 hl hlf hst hs h hw HV HE hnw
    go_enter Tryz.func26, Tryz.ntmps26
    go_wp2_with fail
    refine HRA.out.mono ?_
    rintro en w1 ⟨rfl, hb1, hrd⟩
    have HB1 := Lib.hid hb1
    have HRD := Lib.hid hrd
    clear hb1 hrd
    go_wp2
    go_ret
    exact ⟨rfl, HB1.out, fun h0 => by
      obtain ⟨c, f, e, l, hr⟩ := HRD.out h0
      exact ⟨c, f, e, l, D, hr.mono (Nat.le_succ _), HSS.out⟩⟩
  · rw [decide_eq_false w1] at q1
    by_cases w2 : x0 = Fl.tFlow
    · rw [decide_eq_true w2] at q2
      have HV : Hid (stepV M ws = { M with flows := insK Fl.Flow.code M.flows (Fl.parseF ws).1 }) := Lib.hid (by unfold stepV; rw [hwd, if_neg w1, if_pos w2])
      have HE : Hid (stepE M ws = (if (Fl.parseF ws).2 = 0 then Fl.addE M.flows (Fl.parseF ws).1 else (Fl.parseF ws).2)) := Lib.hid (by unfold stepE; rw [hwd, if_neg w1, if_pos w2])
      have HRA := Lib.hid (readFlow_any v ws W W0.heap.size R m n c f e l D M hv (hlf.below hb (Nat.le_refl _)) h hb.size (by have := hs.lf; omega) (Fl.rise_codes hs.fl))
      rw [← HV.out, ← HE.out] at HRA
      have HSS : Hid (StoodOk D (stepV M ws)) := Lib.hid (by rw [HV.out]; exact hst.same rfl rfl rfl rfl rfl rfl rfl)
      obtain ⟨E, hE⟩ : ∃ E, stepE M ws = E := ⟨_, rfl⟩
      obtain ⟨N, hN⟩ : ∃ N, stepV M ws = N := ⟨_, rfl⟩
      rw [hE, hN] at HRA ⊢
      rw [hN] at HSS
      obtain ⟨p, cp, rfl, _, _, hc⟩ := hv
      obtain ⟨g, o, rfl, k0⟩ := hc 0 x0 hx0
      rw [Nat.add_zero] at k0
      obtain ⟨nw, hnw⟩ : ∃ nw, ws.length = nw := ⟨_, rfl⟩
      rw [hnw] at HRA h0 ⊢
      clear hE hN hc hx0 hwd w1 w2 hv0 hl hlf hst hs h hw HV HE hnw
      go_enter Tryz.func26, Tryz.ntmps26
      go_wp2_with fail
      refine HRA.out.mono ?_
      rintro en w1 ⟨rfl, hb1, hrd⟩
      have HB1 := Lib.hid hb1
      have HRD := Lib.hid hrd
      clear hb1 hrd
      go_wp2
      go_ret
      exact ⟨rfl, HB1.out, fun h0 => by
        obtain ⟨c, f, e, l, hr⟩ := HRD.out h0
        exact ⟨c, f, e, l, D, hr.mono (Nat.le_succ _), HSS.out⟩⟩
    · rw [decide_eq_false w2] at q2
      have hff : formedW ws = false := by
        rcases hw with hw | hw | hw
        · exact absurd (hwd.symm.trans hw) w1
        · exact absurd (hwd.symm.trans hw) w2
        · exact hw
      have HE : Hid (stepE M ws = 5) := Lib.hid (by unfold stepE; rw [hwd, if_neg w1, if_neg w2, if_pos hff])
      have HFO := Lib.hid (formed_any v ws W hv h0)
      rw [hff] at HFO
      obtain ⟨E, hE⟩ : ∃ E, stepE M ws = E := ⟨_, rfl⟩
      obtain ⟨N, hN⟩ : ∃ N, stepV M ws = N := ⟨_, rfl⟩
      rw [hE] at HE
      rw [hE, hN]
      obtain ⟨p, cp, rfl, _, _, hc⟩ := hv
      obtain ⟨g, o, rfl, k0⟩ := hc 0 x0 hx0
      rw [Nat.add_zero] at k0
      obtain ⟨nw, hnw⟩ : ∃ nw, ws.length = nw := ⟨_, rfl⟩
      rw [hnw] at HFO h0 ⊢
      clear hE hN hc hx0 hwd w1 w2 hv0 hl hlf hst hs h hw hff hnw
      go_enter Tryz.func26, Tryz.ntmps26
      go_wp2_with fail
      refine HFO.out.mono ?_
      rintro en w1 ⟨rfl, rfl⟩
      go_wp2
      go_ret
      exact ⟨by rw [HE.out]; rfl, Below.refl _ _, fun h1 => by rw [HE.out] at h1; simp at h1⟩
end Go.Proofs.YticdmlijacnjbaaGreatDoor.Un
/- The walk of the reader's read at a line that is formed: it is kept, if it stands for the first time. -/
namespace Go.Proofs.YticdmlijacnjbaaGreatDoor.Un
open Go.RowKit Go.Maps

set_option maxRecDepth 100000 in
/-- The map's entry of a line that stands for the first time. -/
theorem stood_entry {W : World} {m n : Nat} {D : DataW Unit} {M : Mast} {ws : List ByteArray} (hm : MapRd W m n D) (hst : StoodOk D M) (hf : formedW ws = true) (hn : n < maxLen) :
    (∃ c : Int, c = hadI M ws ∧ (Instr.lookup 72 (.map (some m)) (aggK (wd ws 0) (keyB ws) (keyC ws)) false).run Tryz.prog W = .ok (.int .i64 c) W) ∧
    (hadW M ws = false → ∃ (v0 : Value) (st : Nat) (W3 W4 : World), (Instr.mapEntry 72 (.map (some m)) (aggK (wd ws 0) (keyB ws) (keyC ws))).run Tryz.prog W = .ok (.tuple #[v0, .int .i64 (st : Int)]) W3 ∧
      (Instr.lookup 72 (.map (some m)) (aggK (wd ws 0) (keyB ws) (keyC ws)) false).run Tryz.prog W3 = .ok (.int .i64 0) W3 ∧
      (Instr.entryStore 72 (.map (some m)) (.int .i64 (st : Int)) (.int .i64 1)).run Tryz.prog W3 = .ok () W4 ∧
      MapRd W4 m (n + 1) (D.put (klW ws) (.lit (.int .i64 1))) ∧ W.grownBy W4 (some m)) := by
  obtain ⟨s1, s2, s3⟩ := formed_sizes hf
  have hkey := keyOf_mk (wd ws 0) (keyB ws) (keyC ws) (small_len s1) (small_len s2) (small_len s3)
  have hT := Tryz.underlying72
  have hI := Tryz.underlying3
  refine ⟨?_, fun hno => ?_⟩
  · obtain ⟨c, hrun, hat, _⟩ := hm.lookup_int keyLaw hT hI (zeroInt _) hkey
    have := hst ws hf
    rw [hat] at this
    injection this with this
    injection this with _ this
    exact ⟨c, this, hrun⟩
  · have hz0 : plainElem (H := Unit) Tryz.prog 3 (.int .i64 0) = some (.lit (.int .i64 0), []) := plainElem_int hI (by decide)
    have h1 : plainElem (H := Unit) Tryz.prog 3 (.int .i64 1) = some (.lit (.int .i64 1), []) := plainElem_int hI (by decide)
    obtain ⟨v0, st, W3, dv, he, hg3, ho3, hdv, hs⟩ := own_entry hm keyLaw hT (z := .int .i64 0) (fun u => zeroInt u) hz0 hn hkey
    obtain ⟨W4, hs4, ho4, hg4⟩ := hs (.int .i64 1) _ _ h1
    obtain ⟨c, hrun, hat, _⟩ := ho3.lookup_int keyLaw hT hI (zeroInt _) hkey
    have hc : c = 0 := by
      rw [atKey_put_same (hm.tidy keyLaw).isMap (klit_key _ _ _), hdv, hst ws hf] at hat
      injection hat with hat
      injection hat with _ hat
      rw [← hat]; unfold hadI; rw [hno]; rfl
    subst hc
    exact ⟨v0, st, W3, W4, he, hrun, hs4, ho4, hg3.trans hg4⟩
set_option maxRecDepth 100000 in
set_option maxHeartbeats 8000000 in
theorem read_formed (v : Value) (ws : List ByteArray) (W0 W : World) (R m n : Nat) (c f e l : Value) (D : DataW Unit) (M : Mast) (hv0 : StrsV W0 v ws) (hb : Below W0.heap.size W0 W) (h : RdAt W W0.heap.size R m c f e l n D M) (hst : StoodOk D M)
    (hw1 : wd ws 0 ≠ tAccount) (hw2 : wd ws 0 ≠ Fl.tFlow) (hf : formedW ws = true) (hn : n < maxLen)
    (HKP : ∀ (X : World) (k : Nat) (D' : DataW Unit), StrsV X v ws → RdAt X W0.heap.size R m c f e l k D' M → W0.heap.size ≤ X.heap.size → Calls Tryz.prog 50 #[.pointer (some ⟨R, 0, none⟩), v] X (ReadTold X W0.heap.size R m k D' (stepV M ws) (keepE M ws))) :
    Calls Tryz.prog 26 #[.pointer (some ⟨R, 0, none⟩), v] W (LineTold W W0.heap.size R m (n + 1) (stepV M ws) (stepE M ws)) := by
  have hv := hv0.keep hb
  have h0 : 0 < ws.length := by
    unfold formedW at hf
    rw [Bool.and_eq_true, decide_eq_true_eq] at hf
    exact hf.1
  obtain ⟨x0, hx0⟩ : ∃ x, ws[0]? = some x := ⟨_, List.getElem?_eq_getElem h0⟩
  have hwd : wd ws 0 = x0 := wd_of hx0
  have q1 := qAccount x0
  have q2 := qFlow x0
  rw [decide_eq_false (by rw [← hwd]; exact hw1)] at q1
  rw [decide_eq_false (by rw [← hwd]; exact hw2)] at q2
  have HSF : Hid (stepE M ws = if hadW M ws = true then 7 else keepE M ws) := Lib.hid (step_formed hw1 hw2 hf)
  have HFO := Lib.hid (formed_any v ws W hv h0)
  rw [hf] at HFO
  have HKO := Lib.hid (keyOf_any v ws W hv hf)
  have HSE := Lib.hid (fun (X : World) (hX : MapRd X m n D) => stood_entry hX hst hf hn)
  have HSP : Hid (stepE M ws = 0 → StoodOk (D.put (klW ws) (.lit (.int .i64 1))) (stepV M ws)) := Lib.hid (fun h0 => hst.step (h.map.tidy keyLaw) hf h0)
  obtain ⟨kA, hkA⟩ : ∃ kA, wd ws 0 = kA := ⟨_, rfl⟩
  obtain ⟨kB, hkB⟩ : ∃ kB, keyB ws = kB := ⟨_, rfl⟩
  obtain ⟨kC, hkC⟩ : ∃ kC, keyC ws = kC := ⟨_, rfl⟩
  rw [hkA, hkB, hkC] at HKO
  simp only [hkA, hkB, hkC] at HSE
  obtain ⟨E, hE⟩ : ∃ E, stepE M ws = E := ⟨_, rfl⟩
  obtain ⟨N, hN⟩ : ∃ N, stepV M ws = N := ⟨_, rfl⟩
  obtain ⟨K, hK⟩ : ∃ K, keepE M ws = K := ⟨_, rfl⟩
  rw [hE, hK] at HSF
  rw [hE, hN] at HSP ⊢
  simp only [hN, hK] at HKP
  have HKE := Lib.hid HKP
  have HV0 := Lib.hid hv0
  have HRD := Lib.hid h
  have HB := Lib.hid hb
  obtain ⟨p, cp, rfl, _, _, hc⟩ := hv
  obtain ⟨g, o, rfl, k0⟩ := hc 0 x0 hx0
  rw [Nat.add_zero] at k0
  obtain ⟨nw, hnw⟩ : ∃ nw, ws.length = nw := ⟨_, rfl⟩
  rw [hnw] at HFO HKO HV0 h0 ⊢
  simp only [hnw] at HKE
  clear HKP hE hN hK hkA hkB hkC hc hx0 hwd hw1 hw2 hv0 hst h hf hnw hb hn
  go_enter Tryz.func26, Tryz.ntmps26
  go_wp2_with fail
  refine HFO.out.mono ?_
  rintro en w1 ⟨rfl, rfl⟩
  go_wp2_with fail
  refine HKO.out.mono ?_
  rintro en w2 ⟨rfl, hb2⟩
  have hb3 := hb2.alloc hb2.size (.cells #[.string kA, .string kB, .string kC] 111)
  have HR3 := Lib.hid (HRD.out.below hb3)
  have HX3 := Lib.hid (BoxE.new encK w2 (kA, kB, kC) 111)
  have HB3 := Lib.hid (HB.out.trans (hb3.mono HB.out.size))
  have HBW := Lib.hid (hb3.mono HB.out.size)
  obtain ⟨W3, hW3⟩ : ∃ W3, w2.alloc (.cells #[.string kA, .string kB, .string kC] 111) = W3 := ⟨_, rfl⟩
  have hW3' : w2.alloc (.cells (encK.cs (kA, kB, kC)).toArray 111) = W3 := hW3
  rw [hW3] at HR3 HB3 HBW
  rw [hW3'] at HX3
  clear hb2 hb3 hW3'
  go_wp2_with fail
  clear hW3
  obtain ⟨W4, hW4⟩ : ∃ W4, W3.drew = W4 := ⟨_, rfl⟩
  have HR4 : Hid (RdAt W4 W0.heap.size R m c f e l n D M) := Lib.hid (by rw [← hW4]; exact HR3.out.below ⟨rfl, rfl, rfl, Nat.le_refl _, fun _ _ => rfl⟩)
  have HX4 : Hid (BoxE encK W4 w2.heap.size 111 (kA, kB, kC)) := Lib.hid (by rw [← hW4]; exact HX3.out)
  have HB4 : Hid (Below W0.heap.size W0 W4) := Lib.hid (by rw [← hW4]; exact ⟨HB3.out.os, HB3.out.tape, HB3.out.output, HB3.out.size, HB3.out.block⟩)
  have HW4 : Hid (Below W0.heap.size w1 W4) := Lib.hid (by rw [← hW4]; exact ⟨HBW.out.os, HBW.out.tape, HBW.out.output, HBW.out.size, HBW.out.block⟩)
  obtain ⟨⟨cc, hcc, hlk⟩, hen⟩ := HSE.out W4 HR4.out.map
  have hten := HR4.out.ten
  obtain ⟨y0, y1, y2⟩ := key3 HX4.out
  obtain ⟨hd, hhd⟩ : ∃ hd, hadW M ws = hd := ⟨_, rfl⟩
  unfold hadI at hcc
  rw [hhd] at hcc hen HSF
  have HHD := Lib.hid hhd
  refine wp_region_still_lit (by kernel_rfl) (by kernel_rfl) ?_
  rw [show ({ heap := W3.heap, tape := W3.tape, drawn := W3.drawn + 1, os := W3.os, output := W3.output } : World) = W4 from hW4]
  clear hW4 hhd HR3 HX3 HB3 HBW
  cases hd with
  | true =>
    have HE7 : Hid (E = 7) := Lib.hid (by rw [HSF.out]; rfl)
    rw [if_pos rfl] at hcc
    subst hcc
    clear hen
    repeat still_step
    refine wpStill_nil ?_
    go_wp2
    go_ret
    exact ⟨by rw [HE7.out]; rfl, HW4.out, fun h1 => by rw [HE7.out] at h1; simp at h1⟩
  | false =>
    have HEK : Hid (E = K) := Lib.hid (by rw [HSF.out]; rfl)
    rw [if_neg (by simp)] at hcc
    subst hcc
    clear hen
    repeat still_step
    refine wpStill_nil ?_
    clear hlk hten y0 y1 y2
    go_wp2_with fail
    have HR5 : Hid (RdAt W4.drew W0.heap.size R m c f e l n D M) := Lib.hid (HR4.out.below ⟨rfl, rfl, rfl, Nat.le_refl _, fun _ _ => rfl⟩)
    have HX5 : Hid (BoxE encK W4.drew w2.heap.size 111 (kA, kB, kC)) := Lib.hid HX4.out
    obtain ⟨⟨cc, hcc, hlk⟩, hen⟩ := HSE.out W4.drew HR5.out.map
    unfold hadI at hcc
    rw [HHD.out] at hcc hen
    rw [if_neg (by simp)] at hcc
    subst hcc
    obtain ⟨v0, st, W6, W7, he, hl6, hs7, ho7, hg7⟩ := hen rfl
    have hten := HR5.out.ten
    obtain ⟨y0, y1, y2⟩ := key3 HX5.out
    have HR7 := Lib.hid (HR5.out.mapTurned hg7 ho7)
    have HB7 : Hid (Below W0.heap.size W0 W7) := Lib.hid (by
      have hb5 : Below W0.heap.size W0 W4.drew := ⟨HB4.out.os, HB4.out.tape, HB4.out.output, HB4.out.size, HB4.out.block⟩
      exact hb5.grown hg7 hb5.size (fun j hj => by cases hj; exact HR4.out.geM))
    have HW7 : Hid (Below W0.heap.size w1 W7) := Lib.hid (by
      have hb5 : Below W0.heap.size w1 W4.drew := ⟨HW4.out.os, HW4.out.tape, HW4.out.output, HW4.out.size, HW4.out.block⟩
      exact hb5.grown hg7 HB4.out.size (fun j hj => by cases hj; exact HR4.out.geM))
    clear ho7 hg7
    go_region
    clear he hl6 hs7 hlk hten y0 y1 y2
    go_wp2_with fail
    refine (HKE.out W7 _ _ (HV0.out.keep HB7.out) HR7.out HB7.out.size).mono ?_
    rintro en w9 ⟨rfl, hb9, hrd9⟩
    have HB9 := Lib.hid (HW7.out.trans hb9)
    have HR9 := Lib.hid hrd9
    clear hb9 hrd9
    go_wp2
    go_ret
    exact ⟨by rw [HEK.out]; rfl, HB9.out, fun h1 => by
      obtain ⟨c9, f9, e9, l9, hr9⟩ := HR9.out (by rw [← HEK.out]; exact h1)
      exact ⟨c9, f9, e9, l9, _, hr9, HSP.out h1⟩⟩
end Go.Proofs.YticdmlijacnjbaaGreatDoor.Un
/- Contracts of Go's library, laid at this program by the shelf's own two commands: each is one application of a theorem that the library holds. -/
namespace Go.Proofs
open Go.Shelf
def Tryz.lays156_ren : Go.Shelf.Ren := ⟨fun | 156 => 67 | 165 => 97 | 166 => 66 | 169 => 68 | 240 => 96 | 241 => 121 | 276 => 120 | 277 => 135 | n => n, fun | 31 => 58 | 9 => 9 | 3 => 3 | 4 => 4 | 0 => 0 | 20 => 20 | 72 => 135 | 76 => 138 | 70 => 132 | 37 => 133 | 75 => 137 | 127 => 181 | 164 => 200 | 5 => 5 | 80 => 141 | n => n, fun | n => n⟩
theorem Tryz.lays156 : Go.Proofs.Lays.n156 Tryz.prog Tryz.lays156_ren := {
  mixed := by kernel_rfl
  f156 := Tryz.func67.trans (congrArg some (by kernel_rfl))
  f165 := Tryz.func97.trans (congrArg some (by kernel_rfl))
  f166 := Tryz.func66.trans (congrArg some (by kernel_rfl))
  f169 := Tryz.func68.trans (congrArg some (by kernel_rfl))
  f240 := Tryz.func96.trans (congrArg some (by kernel_rfl))
  f241 := Tryz.func121.trans (congrArg some (by kernel_rfl))
  f276 := Tryz.func120.trans (congrArg some (by kernel_rfl))
  f277 := Tryz.func135.trans (congrArg some (by kernel_rfl))
  t0 := Tryz.underlying0
  a0 := Tryz.isAgg0
  z0 := Tryz.sizeOf0
  v0 := Tryz.zeroValue0
  t3 := Tryz.underlying3
  a3 := Tryz.isAgg3
  z3 := Tryz.sizeOf3
  v3 := Tryz.zeroValue3
  t4 := Tryz.underlying4
  a4 := Tryz.isAgg4
  z4 := Tryz.sizeOf4
  v4 := Tryz.zeroValue4
  t9 := Tryz.underlying9
  a9 := Tryz.isAgg9
  z9 := Tryz.sizeOf9
  v9 := Tryz.zeroValue9
  t20 := Tryz.underlying20
  a20 := Tryz.isAgg20
  z20 := Tryz.sizeOf20
  v20 := Tryz.zeroValue20
  t31 := Tryz.underlying58
  a31 := Tryz.isAgg58
  z31 := Tryz.sizeOf58
  v31 := Tryz.zeroValue58
  t37 := Tryz.underlying133
  a37 := Tryz.isAgg133
  z37 := Tryz.sizeOf133
  v37 := Tryz.zeroValue133
  t70 := Tryz.underlying132
  a70 := Tryz.isAgg132
  z70 := Tryz.sizeOf132
  v70 := Tryz.zeroValue132
  t72 := Tryz.underlying135
  a72 := Tryz.isAgg135
  z72 := Tryz.sizeOf135
  v72 := Tryz.zeroValue135
  t75 := Tryz.underlying137
  a75 := Tryz.isAgg137
  z75 := Tryz.sizeOf137
  v75 := Tryz.zeroValue137
  t76 := Tryz.underlying138
  a76 := Tryz.isAgg138
  z76 := Tryz.sizeOf138
  v76 := Tryz.zeroValue138
  t127 := Tryz.underlying181
  a127 := Tryz.isAgg181
  z127 := Tryz.sizeOf181
  v127 := Tryz.zeroValue181
  t164 := Tryz.underlying200
  a164 := Tryz.isAgg200
  z164 := Tryz.sizeOf200
  v164 := Tryz.zeroValue200 }
def Tryz.lays219_ren : Go.Shelf.Ren := ⟨fun | 219 => 123 | 217 => 136 | 225 => 137 | 224 => 138 | 267 => 139 | 266 => 145 | 314 => 146 | n => n, fun | 9 => 9 | 3 => 3 | 4 => 4 | 5 => 5 | 46 => 208 | 146 => 218 | 51 => 217 | n => n, fun | 1 => 2 | n => n⟩
theorem Tryz.lays219 : Go.Proofs.Lays.n219 Tryz.prog Tryz.lays219_ren := {
  mixed := by kernel_rfl
  f217 := Tryz.func136.trans (congrArg some (by kernel_rfl))
  f219 := Tryz.func123.trans (congrArg some (by kernel_rfl))
  f224 := Tryz.func138.trans (congrArg some (by kernel_rfl))
  f225 := Tryz.func137.trans (congrArg some (by kernel_rfl))
  f266 := Tryz.func145.trans (congrArg some (by kernel_rfl))
  f267 := Tryz.func139.trans (congrArg some (by kernel_rfl))
  f314 := Tryz.func146.trans (congrArg some (by kernel_rfl))
  t3 := Tryz.underlying3
  a3 := Tryz.isAgg3
  z3 := Tryz.sizeOf3
  v3 := Tryz.zeroValue3
  t4 := Tryz.underlying4
  a4 := Tryz.isAgg4
  z4 := Tryz.sizeOf4
  v4 := Tryz.zeroValue4
  t5 := Tryz.underlying5
  a5 := Tryz.isAgg5
  z5 := Tryz.sizeOf5
  v5 := Tryz.zeroValue5
  t9 := Tryz.underlying9
  a9 := Tryz.isAgg9
  z9 := Tryz.sizeOf9
  v9 := Tryz.zeroValue9
  t46 := Tryz.underlying208
  a46 := Tryz.isAgg208
  z46 := Tryz.sizeOf208
  v46 := Tryz.zeroValue208
  t51 := Tryz.underlying217
  a51 := Tryz.isAgg217
  z51 := Tryz.sizeOf217
  v51 := Tryz.zeroValue217
  t146 := Tryz.underlying218
  a146 := Tryz.isAgg218
  z146 := Tryz.sizeOf218
  v146 := Tryz.zeroValue218
  g1 := by kernel_rfl }
open Go.RowKit Go.Lib in
/-- internal/stringslite.Index (what strings.Index calls) AT A substr OF ONE BYTE c: IT RETURNS 'Lib.indexByte s c'; the world is as it was. (LAID: no walk: one application.) -/
theorem Tryz.stringslite_Index_one (s : ByteArray) (c : UInt8) (w : World) :
    Calls Tryz.prog 123 #[.string s, .string ⟨#[c]⟩] w fun e w' => e = .returned (.int .i64 (Lib.indexByte s.data.toList c)) ∧ w' = w := Any.stringslite_Index_one Tryz.lays219 s c w
def Tryz.lays229_ren : Go.Shelf.Ren := ⟨fun | 229 => 74 | n => n, fun | 9 => 9 | 40 => 149 | 31 => 58 | 152 => 182 | 3 => 3 | 0 => 0 | 4 => 4 | 21 => 21 | 154 => 184 | n => n, fun | n => n⟩
theorem Tryz.lays229 : Go.Proofs.Lays.n229 Tryz.prog Tryz.lays229_ren := {
  mixed := by kernel_rfl
  f229 := Tryz.func74.trans (congrArg some (by kernel_rfl))
  t0 := Tryz.underlying0
  a0 := Tryz.isAgg0
  z0 := Tryz.sizeOf0
  v0 := Tryz.zeroValue0
  t3 := Tryz.underlying3
  a3 := Tryz.isAgg3
  z3 := Tryz.sizeOf3
  v3 := Tryz.zeroValue3
  t4 := Tryz.underlying4
  a4 := Tryz.isAgg4
  z4 := Tryz.sizeOf4
  v4 := Tryz.zeroValue4
  t9 := Tryz.underlying9
  a9 := Tryz.isAgg9
  z9 := Tryz.sizeOf9
  v9 := Tryz.zeroValue9
  t21 := Tryz.underlying21
  a21 := Tryz.isAgg21
  z21 := Tryz.sizeOf21
  v21 := Tryz.zeroValue21
  t31 := Tryz.underlying58
  a31 := Tryz.isAgg58
  z31 := Tryz.sizeOf58
  v31 := Tryz.zeroValue58
  t40 := Tryz.underlying149
  a40 := Tryz.isAgg149
  z40 := Tryz.sizeOf149
  v40 := Tryz.zeroValue149
  t152 := Tryz.underlying182
  a152 := Tryz.isAgg182
  z152 := Tryz.sizeOf182
  v152 := Tryz.zeroValue182
  t154 := Tryz.underlying184
  a154 := Tryz.isAgg184
  z154 := Tryz.sizeOf184
  v154 := Tryz.zeroValue184 }
open Go.RowKit Go.Lib in
theorem Tryz.strings_FieldsFunc_runes (g : Nat) (lb : Array Value) (eg : ∀ args w, (callFunc g args).run Tryz.prog w = .ok (.enter g args) w) (p : Nat → Bool) (s : ByteArray) (w : World) (hs : s.size ≤ 4294967296) (hp : PredAtRunes Tryz.prog g lb p w) :
    Calls Tryz.prog 74 #[.string s, .func (.func g) #[] lb] w fun e w' => ∃ A, e = .returned (.slice (some ⟨A, 0, none⟩) (Lib.goFieldsP p s).length (Lib.goFieldsP p s).length) ∧ w.heap.size ≤ A ∧
      w'.ownsRow w.heap.size 9 1 (.slice (some ⟨A, 0, none⟩) (Lib.goFieldsP p s).length (Lib.goFieldsP p s).length) (Lib.goFieldsP p s).length ((Lib.goFieldsP p s).map Value.string) ∧ Below w.heap.size w w' := Any.strings_FieldsFunc_runes Tryz.lays229 g lb eg p s w hs hp (by kernel_rfl) (by kernel_rfl)
end Go.Proofs
/- Contracts of strings.Join and of strings.Builder at this program, each one application of a theorem that the library holds. -/
namespace Go.Proofs.YticdmlijacnjbaaGreatDoor
open Go.RowKit

theorem extra : Builder.Extra Tryz.prog Tryz.lays156_ren where
  sizeBuilder := by kernel_rfl
  liesBuilder := by kernel_rfl
  t5 := Tryz.underlying5
  a5 := Tryz.isAgg5
  z5 := Tryz.sizeOf5
  v5 := Tryz.zeroValue5
  infoByte := by kernel_rfl
  cellsByte := by kernel_rfl
  sizeByte := by kernel_rfl
  neB5 := by decide
theorem bjoin_none (a : Option Addr) (c : Nat) (sep : ByteArray) (w : World) :
    Calls Tryz.prog 67 #[.slice a 0 c, .string sep] w fun e w' => e = .returned (.string ⟨#[]⟩) ∧ w' = w := Any.strings_Join_none Tryz.lays156 extra a c sep w
theorem bjoin (bk o c : Nat) (xs : List ByteArray) (sep : ByteArray) (w : World)
    (hcells : ∀ (j : Nat) x, xs[j]? = some x → w.cell? ⟨bk, o + j, none⟩ = some (.string x))
    (hbk : bk < w.heap.size) (hN : xs.length ≤ 140737488355328) (hcap : xs.length ≤ c) (hlen : (Lib.join (xs.map (·.data.toList)) sep.data.toList).length ≤ 140737488355328) :
    Calls Tryz.prog 67 #[.slice (some ⟨bk, o, none⟩) xs.length c, .string sep] w fun e w' => e = .returned (.string ⟨(Lib.join (xs.map (·.data.toList)) sep.data.toList).toArray⟩) ∧ Below w.heap.size w w' :=
  Any.strings_Join Tryz.lays156 extra bk o c xs sep w hcells hbk hN hcap hlen
theorem bwrite (B b : Nat) (bs : List Value) (s : ByteArray) (w : World) (h : Lib.IsBuilder 135 5 B b bs w) (hlen : bs.length + s.size ≤ 140737488355328) (hBw : B ≤ w.heap.size) :
    Calls Tryz.prog 66 #[.pointer (some ⟨b, 0, none⟩), .string s] w fun e w' => e = .returned (.tuple #[.int .i64 s.size, .nilIface]) ∧ (Lib.BuilderAt 135 5 B b (.pointer (some ⟨b, 0, none⟩)) (bs ++ Lib.strCells s) w' ∧ Below B w w') :=
  Any.Builder_WriteString (ρ := Tryz.lays156_ren) { Tryz.lays156 with } extra B b bs s w h hlen hBw
theorem bstring (B b : Nat) (l : List UInt8) (w : World) (h : Lib.IsBuilder 135 5 B b (Lib.byteCells l) w) (hBw : B ≤ w.heap.size) :
    Calls Tryz.prog 68 #[.pointer (some ⟨b, 0, none⟩)] w fun e w' => e = .returned (.string ⟨l.toArray⟩) ∧ Below B w w' :=
  Any.Builder_String_any (ρ := Tryz.lays156_ren) { Tryz.lays156 with } extra B b l w h hBw
end Go.Proofs.YticdmlijacnjbaaGreatDoor
