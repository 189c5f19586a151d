/- UnitAllLaw: texts put together (each begins with what it is). -/
import Derived.Test.YticdmlijacnjbaaGreatDoorM28
/- The walk of UnitAll: it returns true. -/
namespace Go.Proofs.YticdmlijacnjbaaGreatDoor.Un
open Go.RowKit

def hadE (L : List Ent) (code : ByteArray) : Bool := L.any fun x => decide (x.code = code)
theorem hadE_snoc (L : List Ent) (x : Ent) (code : ByteArray) : hadE (L ++ [x]) code = (hadE L code || decide (x.code = code)) := by simp [hadE, List.any_append]
theorem take_more' {α : Type} {L : List α} {i : Nat} {x : α} (hx : L[i]? = some x) : L.take (i + 1) = L.take i ++ [x] := by
  rw [List.take_succ_eq_append_getElem (List.getElem?_eq_some_iff.1 hx).1, (List.getElem?_eq_some_iff.1 hx).2]
theorem hadE_find (L : List Ent) (code : ByteArray) : (G.findK Ent.code L code).isSome = hadE L code := by
  induction L with
  | nil => rfl
  | cons a L ih =>
    unfold hadE at ih ⊢
    rw [List.any_cons, ← ih]
    simp only [G.findK]
    by_cases h : a.code = code
    · rw [if_pos h, decide_eq_true h]; rfl
    · rw [if_neg h, decide_eq_false h, Bool.false_or]
set_option maxRecDepth 100000 in
set_option maxHeartbeats 16000000 in
theorem unitAll_walk (s code : ByteArray) (w : World) (_hs0 : s.size ≤ maxLen) (_hs1 : code.size ≤ maxLen) (hU : LaidU w) : Calls Tryz.prog 8 #[.string s, .string code] w fun en w' => en = .returned (.bool true) ∧ Below w.heap.size w w' := by
  have HL := Lib.hid hU.1
  have HLF := Lib.hid hU.2
  clear hU _hs0 _hs1
  go_enter Tryz.func8, Tryz.ntmps8
  go_wp2_with fail
  refine (alive_any _ HL.out HLF.out).mono ?_
  rintro en w1 ⟨rfl, hb1⟩
  have HB1 := Lib.hid hb1
  have HL1 := Lib.hid (HL.out.below hb1 (Nat.le_refl _))
  have HLF1 := Lib.hid (HLF.out.below hb1 (Nat.le_refl _))
  clear hb1
  by_cases hs : 4000 < s.size
  · go_wp2
    go_ret
    exact ⟨rfl, HB1.out⟩
  by_cases hc : 100 < code.size
  · go_wp2
    go_ret
    exact ⟨rfl, HB1.out⟩
  go_wp2_with fail
  refine (parse_told s _ (by omega) HL1.out HLF1.out).mono ?_
  rintro en w2 ⟨M, c, f, e, l, n, rfl, hm, hb2, hor⟩
  obtain ⟨pc, cc, pf, cf, pe, ce, pl, cl, rfl, rfl, rfl, rfl⟩ := mast_shapes hm
  have hb3 := hb2.alloc hb2.size (.cells (cellsM (.slice pc M.chart.length cc) (.slice pf M.flows.length cf) (.slice pe M.ents.length ce) (.slice pl M.lines.length cl) M) 30)
  have HB3 := Lib.hid (HB1.out.trans (hb3.mono HB1.out.size))
  have hM3 := hm.keep ((Below.refl w2.heap.size w2).alloc (Nat.le_refl _) (.cells (cellsM (.slice pc M.chart.length cc) (.slice pf M.flows.length cf) (.slice pe M.ents.length ce) (.slice pl M.lines.length cl) M) 30))
  have hN3 := nine_new w2 (.slice pc M.chart.length cc) (.slice pf M.flows.length cf) (.slice pe M.ents.length ce) (.slice pl M.lines.length cl) M 30
  obtain ⟨W3, hW3⟩ : ∃ W3, w2.alloc (.cells (cellsM (.slice pc M.chart.length cc) (.slice pf M.flows.length cf) (.slice pe M.ents.length ce) (.slice pl M.lines.length cl) M) 30) = W3 := ⟨_, rfl⟩
  rw [hW3] at HB3 hM3 hN3
  rcases hor with ⟨rfl, hR⟩ | ⟨hn, hz⟩
  · have HM3 := Lib.hid hM3
    have HN3 := Lib.hid hN3
    have HR := Lib.hid hR
    obtain ⟨_, _, e0, hce, hcm, _, hev⟩ := hM3.ents
    cases e0
    obtain ⟨_, _, e0, hcl, hlm, _, hlv⟩ := hM3.lines
    cases e0
    have HEV := Lib.hid hev
    have HLV := Lib.hid hlv
    unfold maxLen at hcm hlm
    obtain ⟨k0, k1, k2, k3, k4, k5, k6, k7, k8⟩ := hN3
    clear hm hb2 hb3 hR hev hlv hM3 HB1 HL HLF HL1 HLF1
    obtain ⟨NE, hNE⟩ : ∃ N, M.ents.length = N := ⟨_, rfl⟩
    obtain ⟨NL, hNL⟩ : ∃ N, M.lines.length = N := ⟨_, rfl⟩
    rw [hNE] at HM3 HN3 hce k2 hW3 ⊢
    rw [hNL] at HM3 HN3 hcl k3 hW3 ⊢
    have HNE := Lib.hid hNE
    have HNL := Lib.hid hNL
    have hNE2 : NE ≤ 60 := by rw [← hNE]; exact HR.out.inv.sane.le
    have hNL2 : NL ≤ 1000 := by rw [← hNL]; exact HR.out.inv.sane.ll
    clear hNE hNL
    go_wp2
    clear k0 k1 k2 k3 k4 k5 k6 k7 k8 hW3
    go_loopw [7, 38] (fun s7 si wr => ∃ (i : Nat), i ≤ NE ∧ si = .int .i64 (i : Int) ∧ s7 = .bool (hadE (M.ents.take i) code) ∧ Hid (Below W3.heap.size W3 wr)) (fun _ si _ => NE - (intOf si).toNat)
    case atStart => exact ⟨0, Nat.zero_le _, rfl, rfl, Lib.hid (Below.refl _ _)⟩
    case round =>
      obtain ⟨i, hi, rfl, rfl, HB⟩ := hrel
      by_cases hlt : i < NE
      · obtain ⟨x, hx⟩ : ∃ x, M.ents[i]? = some x := ⟨_, List.getElem?_eq_getElem (by rw [HNE.out]; exact hlt)⟩
        obtain ⟨b, o, rfl, hat⟩ := HEV.out i x hx
        obtain ⟨d0, d1⟩ := ent2 (hat.keep HB.out hat.lt)
        have HX := Lib.hid hx
        have HTK := Lib.hid (take_more' hx)
        have hfx : G.findK Ent.code M.ents x.code = some x := G.findK_of_mem HR.out.inv.sane.en (List.mem_of_getElem? hx)
        have hb4 := HB.out.alloc HB.out.size (.cells #[.string x.code, .string x.cur] 65)
        have HB4 := Lib.hid hb4
        have HM4 := Lib.hid (HM3.out.keep hb4)
        have HX4 := Lib.hid (BoxE.new encE wr x 65)
        obtain ⟨k0, k1, k2, k3, k4, k5, k6, k7, k8⟩ := HN3.out.keep hb4 HN3.out.lt
        obtain ⟨q0, q1⟩ := ent2 HX4.out.at0
        have HFI := Lib.hid (fun W h => find_any (.slice pc M.chart.length cc) (.slice pf M.flows.length cf) (.slice (some ⟨b, o, none⟩) NE ce) (.slice pl NL cl) M x.code W h)
        simp only [hfx] at HFI
        clear hx hat hb4 hfx
        go_wp2_with fail
        clear k0 k1 k2 k3 k4 k5 k6 k7 k8 q0 q1 d0 d1
        refine (HFI.out _ HM4.out).mono ?_
        rintro en w5 ⟨rfl, hb5⟩
        have HB5 := Lib.hid (HB4.out.trans (hb5.mono HB4.out.size))
        obtain ⟨k0, k1, k2, k3, k4, k5, k6, k7, k8⟩ := HN3.out.keep HB5.out HN3.out.lt
        obtain ⟨q0, q1⟩ := ent2 (HX4.out.kept hb5).at0
        have q2 := str_self x.cur
        have qc : curO (some x) = x.cur := rfl
        rw [qc]
        obtain ⟨D, hD⟩ : ∃ D, hadE (M.ents.take i) code = D := ⟨_, rfl⟩
        rw [hD]
        have HD := Lib.hid hD
        have HX5 := Lib.hid (HX4.out.kept hb5)
        clear hb5 HB4 HM4 HX4 HFI qc hD
        have q3 : (0 : Int) ≤ (i : Int) := by omega
        by_cases h0 : i = 0
        · have h0z : decide ((0 : Int) < (i : Int)) = false := decide_eq_false (by omega)
          have h0n : decide (0 < i) = false := decide_eq_false (by omega)
          go_wp2_with fail
          go_big_quiet (fail)
          clear h0z h0n
          clear k0 k1 k2 k3 k4 k5 k6 k7 k8 q0 q1 q2 q3
          have HB6 := Lib.hid (below_drewN HB5.out nq)
          have HX6 := Lib.hid (HX5.out.kept (below_drewN (Below.refl w5.heap.size w5) nq))
          clear HX5
          generalize w5.drewN nq = w6 at *
          obtain ⟨q0, q1⟩ := ent2 HX6.out.at0
          have HDN : Hid (hadE (M.ents.take (i + 1)) code = (D || decide (x.code = code))) := Lib.hid (by rw [HTK.out, hadE_snoc, HD.out])
          cases D with
          | true =>
            go_wp2
            go_roundw
            case rel => exact ⟨i + 1, by omega, by go_num, by rw [HDN.out]; rfl, HB6⟩
            case measure => simp [intOf]; omega
          | false =>
            cases hxc : (x.code.toList == code.toList) with
            | true =>
              have HXC := Lib.hid ((Lib.bytes_beq_iff x.code code).1 hxc)
              go_wp2
              go_roundw
              case rel => exact ⟨i + 1, by omega, by go_num, by rw [HDN.out, decide_eq_true HXC.out]; rfl, HB6⟩
              case measure => simp [intOf]; omega
            | false =>
              have HXC := Lib.hid ((Lib.bytes_beq_false_iff x.code code).1 hxc)
              go_wp2
              go_roundw
              case rel => exact ⟨i + 1, by omega, by go_num, by rw [HDN.out, decide_eq_false HXC.out]; rfl, HB6⟩
              case measure => simp [intOf]; omega
        · have h0z : decide ((0 : Int) < (i : Int)) = true := decide_eq_true (by omega)
          have h0n : decide (0 < i) = true := decide_eq_true (by omega)
          obtain ⟨y, hy⟩ : ∃ y, M.ents[i - 1]? = some y := ⟨_, List.getElem?_eq_getElem (by rw [HNE.out]; omega)⟩
          obtain ⟨b', o', e', hat'⟩ := HEV.out (i - 1) y hy
          cases e'
          obtain ⟨y0, y1⟩ := ent2 (hat'.keep HB5.out hat'.lt)
          have hyx : ltS y.code x.code = true := G.riseK_at HR.out.inv.sane.en (show i - 1 < i by omega) hy HX.out
          unfold ltS at hyx
          have hp1 : (i : Int) - 1 = ((i - 1 : Nat) : Int) := by omega
          have hp2 : i - 1 < NE := by omega
          clear hy hat'
          go_wp2_with fail
          go_big_quiet (fail)
          clear h0z h0n y0 y1 hyx hp1 hp2
          clear k0 k1 k2 k3 k4 k5 k6 k7 k8 q0 q1 q2 q3
          have HB6 := Lib.hid (below_drewN HB5.out nq)
          have HX6 := Lib.hid (HX5.out.kept (below_drewN (Below.refl w5.heap.size w5) nq))
          clear HX5
          generalize w5.drewN nq = w6 at *
          obtain ⟨q0, q1⟩ := ent2 HX6.out.at0
          have HDN : Hid (hadE (M.ents.take (i + 1)) code = (D || decide (x.code = code))) := Lib.hid (by rw [HTK.out, hadE_snoc, HD.out])
          cases D with
          | true =>
            go_wp2
            go_roundw
            case rel => exact ⟨i + 1, by omega, by go_num, by rw [HDN.out]; rfl, HB6⟩
            case measure => simp [intOf]; omega
          | false =>
            cases hxc : (x.code.toList == code.toList) with
            | true =>
              have HXC := Lib.hid ((Lib.bytes_beq_iff x.code code).1 hxc)
              go_wp2
              go_roundw
              case rel => exact ⟨i + 1, by omega, by go_num, by rw [HDN.out, decide_eq_true HXC.out]; rfl, HB6⟩
              case measure => simp [intOf]; omega
            | false =>
              have HXC := Lib.hid ((Lib.bytes_beq_false_iff x.code code).1 hxc)
              go_wp2
              go_roundw
              case rel => exact ⟨i + 1, by omega, by go_num, by rw [HDN.out, decide_eq_false HXC.out]; rfl, HB6⟩
              case measure => simp [intOf]; omega
      · have hte : M.ents.take i = M.ents := List.take_of_length_le (by rw [HNE.out]; omega)
        rw [hte]
        obtain ⟨D, hD⟩ : ∃ D, hadE M.ents code = D := ⟨_, rfl⟩
        rw [hD]
        have HD : Hid ((G.findK Ent.code M.ents code).isSome = D) := Lib.hid (by rw [hadE_find, hD])
        clear hte hD
        rename World => wa
        obtain ⟨k0, k1, k2, k3, k4, k5, k6, k7, k8⟩ := HN3.out.keep HB.out HN3.out.lt
        go_wp2
        clear k0 k1 k2 k3 k4 k5 k6 k7 k8
        go_loopw [85] (fun si wr => ∃ (i : Nat), i ≤ NL ∧ si = .int .i64 (i : Int) ∧ Hid (Below W3.heap.size W3 wr)) (fun si _ => NL - (intOf si).toNat)
        case atStart => exact ⟨0, Nat.zero_le _, rfl, HB⟩
        case round =>
          obtain ⟨i, hi, rfl, HB⟩ := hrel
          by_cases hlt : i < NL
          · obtain ⟨x, hx⟩ : ∃ x, M.lines[i]? = some x := ⟨_, List.getElem?_eq_getElem (by rw [HNL.out]; exact hlt)⟩
            obtain ⟨b, o, rfl, hat⟩ := HLV.out i x hx
            obtain ⟨d0, d1, d2⟩ := lin3 (hat.keep HB.out hat.lt)
            have hfx : G.findK Lin.key M.lines (x.acc, x.flow) = some x := G.findK_of_mem (key := Lin.key) HR.out.inv.sane.li (List.mem_of_getElem? hx)
            have hb4 := HB.out.alloc HB.out.size (.cells #[.string x.acc, .string x.flow, .string x.to] 67)
            have HB4 := Lib.hid hb4
            have HM4 := Lib.hid (HM3.out.keep hb4)
            have HX4 := Lib.hid (BoxE.new encL wr x 67)
            obtain ⟨k0, k1, k2, k3, k4, k5, k6, k7, k8⟩ := HN3.out.keep hb4 HN3.out.lt
            obtain ⟨q0, q1, q2⟩ := lin3 HX4.out.at0
            have HFI := Lib.hid (fun W h => to_any (.slice pc M.chart.length cc) (.slice pf M.flows.length cf) (.slice pe NE ce) (.slice (some ⟨b, o, none⟩) NL cl) M x.acc x.flow W h)
            simp only [hfx] at HFI
            clear hx hat hb4 hfx
            go_wp2_with fail
            clear k0 k1 k2 k3 k4 k5 k6 k7 k8 q0 q1 q2 d0 d1 d2
            refine (HFI.out _ HM4.out).mono ?_
            rintro en w5 ⟨rfl, hb5⟩
            have HB5 := Lib.hid (HB4.out.trans (hb5.mono HB4.out.size))
            obtain ⟨q0, q1, q2⟩ := lin3 (HX4.out.kept hb5).at0
            have q3 := str_self x.to
            have qc : toO (some x) = x.to := rfl
            rw [qc]
            clear hb5 HB4 HM4 HX4 HFI qc
            go_wp2
            go_roundw
            case rel => exact ⟨i + 1, by omega, by go_num, HB5⟩
            case measure => simp [intOf]; omega
          · have HMR := Lib.hid (HM3.out.keep HB.out)
            obtain ⟨k0, k1, k2, k3, k4, k5, k6, k7, k8⟩ := HN3.out.keep HB.out HN3.out.lt
            have HFI := Lib.hid (fun W h => find_any (.slice pc M.chart.length cc) (.slice pf M.flows.length cf) (.slice pe NE ce) (.slice pl NL cl) M code W h)
            simp only [HD.out] at HFI
            have hdd : (D == D) = true := by simp
            go_wp2_with fail
            refine (HFI.out _ HMR.out).mono ?_
            rintro en w5 ⟨rfl, hb5⟩
            have HB5 := Lib.hid (HB.out.trans (hb5.mono HB.out.size))
            clear hb5 k0 k1 k2 k3 k4 k5 k6 k7 k8
            go_wp2
            go_ret
            exact ⟨by simp, HB3.out.trans (HB5.out.mono HB3.out.size)⟩
  · clear hz
    have hnz : (n != 0) = true := by simp [hn]
    go_wp2
    go_ret
    exact ⟨rfl, HB3.out⟩
end Go.Proofs.YticdmlijacnjbaaGreatDoor.Un
