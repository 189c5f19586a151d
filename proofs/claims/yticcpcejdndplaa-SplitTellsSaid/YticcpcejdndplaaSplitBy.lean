
/- The walk of split.By: why there are no parts, or the parts: each rounded towards 0, and those at the first places of the order of rests have one more. -/
import Derived.Test.YticcpcejdndplaaSplitCalls
namespace Go.Proofs.Yticcpcejdndplaa
open Go.RowKit

/-- The rests and the parts rounded towards 0. -/
def rests (a : Int) (l : List Int) : List Int := l.map (rstV a (tgV l))
def lows (a : Int) (l : List Int) : List Int := l.map (lowV a (tgV l))
/-- All parts, in the order p. -/
def partsOf (a : Int) (l : List Int) (p : Nat → Nat) : List Int := outs (lows a l) (cmpI a 0) p (moreN a (tgV l) l)
/-- What By leaves where there are parts. -/
def ByOk (a : Int) (l : List Int) (n : Nat) (w : World) (e : Ending) (w' : World) : Prop :=
  ∃ pb p, e = .returned (.tuple #[.slice (some ⟨pb, 0, none⟩) n n, .int .i64 0]) ∧ w.heap.size ≤ pb ∧ Firsts (rests a l) n p ∧ (∀ k, k < n → w'.cell? ⟨pb, k, none⟩ = some (.int .i64 ((partsOf a l p).getD k 0))) ∧ RowKit.Below w.heap.size w w'

theorem getD_mapI (f : Int → Int) (l : List Int) (k : Nat) (hk : k < l.length) : (l.map f).getD k 0 = f (l.getD k 0) := by simp [List.getD, hk]
theorem qN_sum {a s x : Int} {l : List Int} (h : x ∈ l) : qN a x s ≤ qSum a s l := by
  induction l with
  | nil => cases h
  | cons y l ih =>
    rcases List.mem_cons.1 h with rfl | h
    · simp [qSum]
    · have := ih h
      simp only [qSum, List.map_cons, List.sum_cons] at this ⊢
      omega
theorem getD_mem {l : List Int} {k : Nat} (hk : k < l.length) : l.getD k 0 ∈ l := by rw [getD_at l k hk]; exact List.getElem_mem _
/-- One more fits. -/
theorem part_bd {a : Int} {l : List Int} {p : Nat → Nat} (h : tgE l = 0) (ha : In64 a) (hp : Firsts (rests a l) l.length p) {k : Nat} (hk : k < moreN a (tgV l) l) :
    In64 ((outs (lows a l) (cmpI a 0) p k).getD (p k) 0) ∧ In64 ((outs (lows a l) (cmpI a 0) p k).getD (p k) 0 + cmpI a 0) := by
  obtain ⟨h1, h2, h3, h4, h5⟩ := tg_ok h
  have hl := more_lt (a := a) h2 h3 h4
  have hq := qSum_le (a := a) h2 h3 h4 l.length
  rw [List.take_length] at hq
  have hlen : (lows a l).length = l.length := by simp [lows]
  have hpk := hp.1 k (by omega)
  rw [outs_at (rs := rests a l) (by rw [hlen]; exact hp) k (by omega)]
  have hn : among p (p k) k = false := by
    cases hc : among p (p k) k with
    | false => rfl
    | true =>
      obtain ⟨j, j1, j2⟩ := (among_iff _ _ _).1 hc
      exact absurd j2 (hp.inj j k j1 (by omega))
  rw [hn]
  unfold lows
  rw [getD_mapI _ _ _ hpk]
  have hx := qN_sum (a := a) (s := tgV l) (getD_mem hpk)
  generalize l.getD (p k) 0 = x at hx ⊢
  unfold moreN at hk
  unfold lowV In64 at *
  rcases sgn_cases a with ⟨c2, c3⟩ | ⟨c2, c3⟩ | ⟨c2, c3⟩ <;> rw [c3] <;> simp <;> omega

set_option maxHeartbeats 400000 in
theorem by_bad (a : Int) (ad : Option Addr) (n c : Nat) (l : List Int) (w : World) (h : RowIs .i64 w ad n l) (hz : ∀ x ∈ l, In64 x) (he : tgE l ≠ 0) :
    Calls Try.prog 10 #[.int .i64 a, .slice ad n c] w fun e w' => e = .returned (.tuple #[.slice none 0 0, .int .i64 (tgE l)]) ∧ w = w' := by
  have HT := Lib.hid (together_any ad n c l w h hz)
  obtain ⟨E, hE⟩ : ∃ E, E = tgE l := ⟨_, rfl⟩
  rw [← hE] at he ⊢
  have HE := Lib.hid hE
  have he' : (E != 0) = true := by rw [bne_iff_ne]; exact he
  clear h hz hE he
  go_enter Try.func10, Try.ntmps10
  go_wp2_with fail
  refine HT.out.mono ?_
  rintro e w1 ⟨rfl, rfl⟩
  rw [← HE.out]
  go_wp2
  go_ret2
  exact ⟨rfl, rfl⟩

/-- What is left behind k rounds. -/
theorem left_at {a : Int} {M k : Nat} (h : k ≤ M) (hM : M ≤ a.natAbs) (ha : In64 a) : In64 (cmpI a 0 * ((M - k : Nat) : Int)) ∧ (k < M → a ≠ 0 → cmpI a 0 * ((M - k : Nat) : Int) ≠ 0) ∧ (k < M → cmpI a 0 * ((M - k : Nat) : Int) - cmpI a 0 = cmpI a 0 * ((M - (k + 1) : Nat) : Int)) := by
  unfold In64 at *
  rcases sgn_cases a with ⟨c2, c3⟩ | ⟨c2, c3⟩ | ⟨c2, c3⟩ <;> rw [c3] <;> refine ⟨by omega, fun h1 h2 => by omega, fun h1 => by omega⟩
theorem row_step {wr : World} {b n i : Nat} {f : Nat → Int} {x : Int} (h : wr.rowIs b 2 n (fun k => .int .i64 (if k < i then f k else 0))) (e : f i = x) :
    (wr.setCell ⟨b, i, none⟩ (.int .i64 x)).rowIs b 2 n (fun k => .int .i64 (if k < i + 1 then f k else 0)) := by
  subst e
  refine (h.set i _).congr fun k hk => ?_
  by_cases c1 : k = i
  · subst c1; rw [if_pos rfl, if_pos (by omega)]
  · rw [if_neg c1]
    by_cases c2 : k < i
    · rw [if_pos c2, if_pos (by omega)]
    · rw [if_neg c2, if_neg (by omega)]

set_option maxHeartbeats 4000000 in
theorem by_ok (a : Int) (ad : Option Addr) (n c : Nat) (l : List Int) (w : World) (ha : In64 a) (h : RowIs .i64 w ad n l) (hz : ∀ x ∈ l, In64 x) (he : tgE l = 0) :
    Calls Try.prog 10 #[.int .i64 a, .slice ad n c] w (ByOk a l n w) := by
  have hTG := together_any ad n c l w h hz
  rw [he] at hTG
  obtain ⟨t1, t2, t3, t4, t5⟩ := tg_ok he
  have hlen := h.len
  have hn : n ≤ 100 := by omega
  have hn0 : 0 < n := by
    rcases l with _ | ⟨x, l⟩
    · simp at t3; omega
    · simp at hlen; omega
  obtain ⟨s, hs⟩ : ∃ s, s = tgV l := ⟨_, rfl⟩
  rw [← hs] at hTG t3 t4 t5
  have hmk := run_make_row' (P := Try.prog) 22 2 (.int .i64 0) 8 (by kernel_rfl) (by kernel_rfl) rfl .i64 .i64 n (by omega) (by omega)
  have HT := Lib.hid hTG
  have HS := Lib.hid hs
  have HL := Lib.hid hlen
  have H := Lib.hid h
  have T2 := Lib.hid t2
  have T3 := Lib.hid t3
  have T5 := Lib.hid t5
  have HA := Lib.hid ha
  have HE := Lib.hid he
  obtain ⟨a1, a2⟩ := ha
  obtain ⟨s1, s2⟩ := t5
  clear hTG hs h hz he t1 t2 t3 hlen
  go_enter Try.func10, Try.ntmps10
  go_wp2_with fail
  refine HT.out.mono ?_
  rintro e w1 ⟨rfl, rfl⟩
  clear HT
  go_wp2
  have hrow1 := (World.rowIs_made w (.int .i64 0) n 2).alloc (.cells (madeCells #[.int .i64 0] n) 2)
  have hrow2 := World.rowIs_made (w.alloc (.cells (madeCells #[.int .i64 0] n) 2)) (.int .i64 0) n 2
  rw [show (w.alloc (.cells (madeCells #[.int .i64 0] n) 2)).heap.size = w.heap.size + 1 by simp] at hrow2
  have hbel : RowKit.Below w.heap.size w ((w.alloc (.cells (madeCells #[.int .i64 0] n) 2)).alloc (.cells (madeCells #[.int .i64 0] n) 2)) := ((Below.refl _ _).alloc (Nat.le_refl _) _).alloc (by simp) _
  generalize (w.alloc (.cells (madeCells #[.int .i64 0] n) 2)).alloc (.cells (madeCells #[.int .i64 0] n) 2) = w2 at hrow1 hrow2 hbel ⊢
  obtain ⟨B, hB⟩ : ∃ B, B = w.heap.size := ⟨_, rfl⟩
  rw [← hB] at hrow1 hrow2 hbel ⊢
  have R1 := Lib.hid hrow1
  have R2 := Lib.hid hrow2
  have BL := Lib.hid hbel
  have EB := Lib.hid hB
  clear hrow1 hrow2 hbel hmk hB
  go_loopg [10, 33] n (fun kx v10 v33 wr => ∃ k : Nat, v10 = .int .i64 (leftV a s l k) ∧ v33 = .int .i64 (k : Int) ∧ k ≤ n ∧ n - k ≤ kx ∧ Hid (wr.rowIs B 2 n (fun j => .int .i64 (if j < k then lowV a s (l.getD j 0) else 0))) ∧
    Hid (wr.rowIs (B + 1) 2 n (fun j => .int .i64 (if j < k then rstV a s (l.getD j 0) else 0))) ∧ Hid (RowKit.Below B w wr))
  case atStart => exact ⟨0, by rw [leftV_zero], rfl, Nat.zero_le _, by omega, Lib.hid (R1.out.congr fun j _ => by rw [if_neg (by omega)]), Lib.hid (R2.out.congr fun j _ => by rw [if_neg (by omega)]), BL⟩
  case round =>
    clear R1 R2 BL
    obtain ⟨k, rfl, rfl, hkn, hkx, R1, R2, BL⟩ := hrel
    by_cases hlt : k < n
    · obtain ⟨b, o, rfl, hc⟩ := H.out.cell k hlt
      have hbB : b < B := by rw [EB.out]; exact World.block_lt_of_cell? w _ hc
      have hc' : wr.cell? ⟨b, o + k, none⟩ = some (.int .i64 (l.getD k 0)) := by rw [BL.out.cell (p := ⟨b, o + k, none⟩) hbB]; exact hc
      have hkl : k < l.length := by rw [HL.out]; exact hlt
      have hx0 := T2.out _ (getD_mem hkl)
      have hxs := le_sum T2.out (getD_mem hkl)
      rw [T3.out] at hxs
      have hcut := fun W => cut_any a (l.getD k 0) s W HA.out hx0 hxs t4 T5.out
      have hst := leftV_step a s l k hkl
      have hlb := leftV_bd (a := a) T2.out T3.out t4 k HA.out
      have hlb2 := leftV_bd (a := a) T2.out T3.out t4 (k + 1) HA.out
      have hlw := lowV_bd (a := a) hx0 hxs t4 HA.out
      obtain ⟨x, hx⟩ : ∃ x, x = l.getD k 0 := ⟨_, rfl⟩
      obtain ⟨y, hy⟩ : ∃ y, y = lowV a s x := ⟨_, rfl⟩
      obtain ⟨z, hz⟩ : ∃ z, z = rstV a s x := ⟨_, rfl⟩
      obtain ⟨L0, hL0⟩ : ∃ z, z = leftV a s l k := ⟨_, rfl⟩
      obtain ⟨L1, hL1⟩ : ∃ z, z = leftV a s l (k + 1) := ⟨_, rfl⟩
      rw [← hx] at hc' hcut hst hlw hx0 hxs
      rw [← hy] at hst hcut hlw
      rw [← hz] at hcut
      rw [← hL0] at hst hlb ⊢
      rw [← hL1] at hst hlb2
      unfold In64 at hlb hlb2 hlw
      obtain ⟨lb1, lb2⟩ := hlb
      obtain ⟨lb3, lb4⟩ := hlb2
      obtain ⟨lw1, lw2⟩ := hlw
      have HX := Lib.hid hx
      have HY := Lib.hid hy
      have HZ := Lib.hid hz
      have HL1 := Lib.hid hL1
      have HCUT := Lib.hid hcut
      have HST := Lib.hid hst
      have hltz : (k : Int) < (n : Int) := by omega
      clear hx hy hz hL0 hL1 hcut hst hc hkl
      go_wp2_with fail
      clear hc'
      refine (HCUT.out _).mono ?_
      rintro e w3 ⟨rfl, hb3⟩
      have R1' := Lib.hid (R1.out.of_block (hb3.block B R1.out.lt))
      have R2' := Lib.hid (R2.out.of_block (hb3.block (B + 1) R2.out.lt))
      have BL' := Lib.hid (BL.out.trans (hb3.mono (by have := R1.out.lt; omega)))
      clear hb3 R1 R2 BL HCUT
      have c1 := R1'.out.cell hlt
      have f1 := R1'.out.frozen k
      have c2 := R2'.out.cell hlt
      have f2 := R2'.out.frozen k
      have R3 := Lib.hid ((row_step (f := fun j => lowV a s (l.getD j 0)) R1'.out (show lowV a s (l.getD k 0) = y by rw [← HX.out, HY.out])).setOther (a := ⟨B + 1, k, none⟩) (by simp) (.int .i64 z))
      have R4 := Lib.hid (row_step (f := fun j => rstV a s (l.getD j 0)) (R2'.out.setOther (a := ⟨B, k, none⟩) (by simp) (.int .i64 y)) (show rstV a s (l.getD k 0) = z by rw [← HX.out, HZ.out]))
      have B3 := Lib.hid ((BL'.out.setCell (p := ⟨B, k, none⟩) (by simp) (.int .i64 y)).setCell (p := ⟨B + 1, k, none⟩) (by simp) (.int .i64 z))
      have c5 := R3.out.cell hlt
      rw [if_pos (by omega)] at c5
      have c6 : ((w3.setCell ⟨B, k, none⟩ (.int .i64 y)).setCell ⟨B + 1, k, none⟩ (.int .i64 z)).cell? ⟨B, k, none⟩ = some (.int .i64 y) := by rw [c5, ← HX.out, ← HY.out]
      have hst2 : L0 - y = L1 := HST.out.symm
      clear c5 R1' R2' BL'
      go_wp2
      go_roundg (n - (k + 1))
      case measure => omega
      case rel => exact ⟨k + 1, by rw [← HL1.out], by first | rfl | go_num, by omega, Nat.le_refl _, R3, R4, B3⟩
    · have hltz : ¬ (k : Int) < (n : Int) := by omega
      obtain rfl : k = n := by omega
      have hle := more_left (a := a) T2.out T3.out t4
      rw [HL.out] at hle
      have hml := more_lt (a := a) T2.out T3.out t4
      rw [HL.out] at hml
      have hmA : moreN a s l ≤ a.natAbs := by unfold moreN; omega
      obtain ⟨M, hM⟩ : ∃ M, M = moreN a s l := ⟨_, rfl⟩
      rw [← hM] at hle hml hmA
      rw [hle]
      have hlr : (rests a l).length = k := by simp [rests, HL.out]
      have hll : (lows a l).length = k := by simp [lows, HL.out]
      have R1' := Lib.hid (R1.out.congr (g := fun j => .int .i64 ((lows a l).getD j 0)) fun j hj => by rw [if_pos hj]; unfold lows; rw [getD_mapI _ _ _ (by rw [HL.out]; exact hj), HS.out])
      have hcells : ∀ t, t < k → wr.cell? ⟨B + 1, t, none⟩ = some (.int .i64 ((rests a l).getD t 0)) := fun t ht => by
        rw [R2.out.cell ht, if_pos ht]; unfold rests; rw [getD_mapI _ _ _ (by rw [HL.out]; exact ht), HS.out]
      have HG := Lib.hid (greatest_any k (B + 1) k (rests a l) wr hn0 (by omega) hcells)
      have HM := Lib.hid hM
      have HLR := Lib.hid hlr
      have HLL := Lib.hid hll
      have HSG := Lib.hid (fun W => sign_any a W)
      have h64 := left_at (a := a) (k := 0) (Nat.zero_le M) hmA HA.out
      rw [Nat.sub_zero] at h64
      have hob : -1 ≤ cmpI a 0 ∧ cmpI a 0 ≤ 1 := by rcases sgn_cases a with ⟨h2, h3⟩ | ⟨h2, h3⟩ | ⟨h2, h3⟩ <;> rw [h3] <;> omega
      obtain ⟨one, hone⟩ : ∃ o, o = cmpI a 0 := ⟨_, rfl⟩
      obtain ⟨L0, hL0⟩ : ∃ z, z = cmpI a 0 * (M : Int) := ⟨_, rfl⟩
      rw [← hL0] at h64 ⊢
      rw [← hone] at hob
      have HO := Lib.hid hone
      have HL0 := Lib.hid hL0
      obtain ⟨⟨lb1, lb2⟩, -, -⟩ := h64
      obtain ⟨o1, o2⟩ := hob
      clear R1 R2 hcells hle hM hlr hll hone hL0
      go_wp2_with fail
      refine (HSG.out _).mono ?_
      rintro e w3 ⟨rfl, rfl⟩
      rw [← HO.out]
      go_wp2_with fail
      refine HG.out.mono ?_
      rintro e w3 ⟨pb, p, rfl, hpb, hF, hcp, hb3⟩
      have HF := Lib.hid hF
      have HCP := Lib.hid hcp
      have hpB : B ≠ pb := by have := R1'.out.lt; omega
      have hpB2 : B ≤ pb := by have := R1'.out.lt; omega
      have R3 := Lib.hid (R1'.out.of_block (hb3.block B R1'.out.lt))
      have BL' := Lib.hid (BL.out.trans (hb3.mono (by have := R1'.out.lt; omega)))
      clear hF hcp hb3 HG R1' BL hpb
      go_wp2
      go_loopg [10, 63] k (fun kx v10 v63 wr => ∃ j : Nat, v10 = .int .i64 (one * ((M - j : Nat) : Int)) ∧ v63 = .int .i64 (j : Int) ∧ j ≤ M ∧ M - j ≤ kx ∧ Hid (wr.rowIs B 2 k (fun i => .int .i64 ((outs (lows a l) one p j).getD i 0))) ∧
        Hid (∀ t, t < k → wr.cell? ⟨pb, t, none⟩ = some (.int .i64 (p t : Int))) ∧ Hid (RowKit.Below B w wr))
      case atStart => exact ⟨0, by rw [Nat.sub_zero, HL0.out, HO.out], rfl, Nat.zero_le _, by omega, R3, HCP, BL'⟩
      case round =>
        clear R3 HCP BL'
        obtain ⟨j, rfl, rfl, hjM, hjx, R3, HCP, BL⟩ := hrel
        have hjk : j < k := by omega
        have hjz : (j : Int) < (k : Int) := by omega
        have hpj := HF.out.1 j hjk
        have hcj := HCP.out j hjk
        have hla := left_at hjM hmA HA.out
        rw [← HO.out] at hla
        by_cases hend : j = M
        · subst hend
          have hz : (one * ((j - j : Nat) : Int) == 0) = true := by rw [beq_iff_eq, Nat.sub_self]; simp
          obtain ⟨x, hx⟩ : ∃ x, x = one * ((j - j : Nat) : Int) := ⟨_, rfl⟩
          rw [← hx] at hz hla ⊢
          obtain ⟨⟨x1, x2⟩, -, -⟩ := hla
          clear hx
          go_wp2
          go_ret2
          refine ⟨B, p, rfl, by rw [EB.out]; exact Nat.le_refl _, HF.out, fun i hi => ?_, by rw [← EB.out]; exact BL.out⟩
          unfold partsOf
          rw [← HS.out, ← HO.out, ← HM.out]
          exact R3.out.cell hi
        · have hjl : j < M := by omega
          have ha0 : a ≠ 0 := fun e => by rw [e] at hmA; simp at hmA; omega
          have hnz := hla.2.1 hjl ha0
          have hst := hla.2.2 hjl
          have hpb := part_bd (p := p) HE.out HA.out (by rw [HL.out]; exact HF.out) (k := j) (by rw [← HS.out, ← HM.out]; exact hjl)
          rw [← HO.out] at hpb
          have hla2 := left_at (k := j + 1) hjl hmA HA.out
          rw [← HO.out] at hla2
          have c1 := R3.out.cell hpj
          have f1 := R3.out.frozen (p j)
          have R4 := Lib.hid ((R3.out.set (p j) (.int .i64 ((outs (lows a l) one p j).getD (p j) 0 + one))).congr (g := fun i => .int .i64 ((outs (lows a l) one p (j + 1)).getD i 0)) fun i hi => by
            rw [outs, getD_set _ _ _ _ (by rw [outs_len, HLL.out]; exact hpj)]
            by_cases c : i = p j
            · rw [if_pos c, if_pos c]
            · rw [if_neg c, if_neg c])
          have B4 := Lib.hid (BL.out.setCell (p := ⟨B, p j, none⟩) (by simp) (.int .i64 ((outs (lows a l) one p j).getD (p j) 0 + one)))
          have C4 : Hid (∀ t, t < k → (wr.setCell ⟨B, p j, none⟩ (.int .i64 ((outs (lows a l) one p j).getD (p j) 0 + one))).cell? ⟨pb, t, none⟩ = some (.int .i64 (p t : Int))) := fun t ht => by
            rw [World.cell?_setCell_other _ _ _ _ (by intro e'; simp only [Addr.mk.injEq] at e'; exact hpB e'.1)]
            exact HCP.out t ht
          obtain ⟨P, hP⟩ : ∃ P, P = p j := ⟨_, rfl⟩
          obtain ⟨X, hX⟩ : ∃ X, X = (outs (lows a l) one p j).getD (p j) 0 := ⟨_, rfl⟩
          rw [← hX] at hpb c1 R4 B4 C4
          rw [← hP] at hcj hpj c1 f1 R4 B4 C4
          obtain ⟨x, hx⟩ : ∃ x, x = one * ((M - j : Nat) : Int) := ⟨_, rfl⟩
          obtain ⟨x', hx'⟩ : ∃ x, x = one * ((M - (j + 1) : Nat) : Int) := ⟨_, rfl⟩
          rw [← hx] at hla hst hnz ⊢
          rw [← hx'] at hst hla2
          have hz : (x == 0) = false := by rw [beq_eq_false_iff_ne]; exact hnz
          obtain ⟨⟨x1, x2⟩, -, -⟩ := hla
          obtain ⟨⟨x3, x4⟩, -, -⟩ := hla2
          obtain ⟨⟨x5, x6⟩, ⟨x7, x8⟩⟩ := hpb
          have HX' := Lib.hid hx'
          clear hx hx' hX hP R3 HCP BL hnz
          have hPz : (P : Int) < (k : Int) := by omega
          go_wp2
          go_roundg (M - (j + 1))
          case measure => omega
          case rel => exact ⟨j + 1, by rw [← HX'.out], by first | rfl | go_num, hjl, Nat.le_refl _, R4, C4, B4⟩
end Go.Proofs.Yticcpcejdndplaa
