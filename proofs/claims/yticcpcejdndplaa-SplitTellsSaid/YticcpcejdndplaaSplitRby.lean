
/- The walk of the document's By: why there are no parts, or the parts, in the order of rests that is given. -/
import Derived.Test.YticcpcejdndplaaSplitBest
import Derived.Test.YticcpcejdndplaaTwoRows
import Derived.Laws.OwnMore
namespace Go.Proofs.Yticcpcejdndplaa
open Go.RowKit

set_option maxHeartbeats 800000 in
theorem rby_bad (a0 : Int) (a : Option Addr) (n c : Nat) (l : List Int) (w : World) (h : RowIs .i64 w a n l) (hz : ∀ x ∈ l, In64 x) (he : tgE l ≠ 0) :
    Calls Try.prog 11 #[.int .i64 a0, .slice a n c] w fun e w' => e = .returned (.tuple #[.slice none 0 0, .int .i64 (tgE l)]) ∧ w = w' := by
  have hm := h.max
  have hlen := h.len
  unfold maxLen at hm
  by_cases hbig : 100 < n
  · have e1 : tgE l = 4 := by unfold tgE; rw [if_pos (by omega)]
    rw [e1]
    have hbz : (100 : Int) < (n : Int) := by omega
    clear e1 h hlen hz
    go_enter Try.func11, Try.ntmps11
    go_wp2
    go_ret2
    exact ⟨rfl, rfl⟩
  · have hbz : ¬ (100 : Int) < (n : Int) := by omega
    have HL := Lib.hid hlen
    have H := Lib.hid h
    have HZ := Lib.hid hz
    have SUM := Lib.hid (rsum_any a n c l w h hz)
    obtain ⟨E, hE⟩ : ∃ E, E = tgE l := ⟨_, rfl⟩
    rw [← hE] at he ⊢
    have HE := Lib.hid hE
    have HE0 := Lib.hid he
    clear h hz hlen hE he
    go_enter Try.func11, Try.ntmps11
    go_wp2
    go_loop [6] (fun i => ∃ k : Nat, k ≤ n ∧ i = .int .i64 k ∧ Hid (∀ j, j < k → 0 ≤ l.getD j 0)) (fun i => n - (intOf i).toNat)
    case atStart => exact ⟨0, Nat.zero_le _, rfl, fun j hj => absurd hj (Nat.not_lt_zero _)⟩
    case round =>
      obtain ⟨k, hk, rfl, HP⟩ := hrel
      by_cases hlt : k < n
      · obtain ⟨b, o, rfl, hc⟩ := H.out.cell k hlt
        generalize hy : l.getD k 0 = y at *
        have HY := Lib.hid hy
        clear hy
        by_cases hneg : y < 0
        · go_wp2
          go_ret2
          have hany : (l.any fun x => decide (x < 0)) = true := List.any_eq_true.2 ⟨y, by rw [← HY.out, getD_at l k (by rw [HL.out]; exact hlt)]; exact List.getElem_mem _, by simp [hneg]⟩
          have e1 : tgE l = 1 := by unfold tgE; rw [if_neg (by rw [HL.out]; exact hbig), if_pos hany]
          rw [HE.out, e1]
          exact ⟨rfl, rfl⟩
        · have hp : ¬ (y < 0) := hneg
          go_wp2
          go_round
          case rel => exact ⟨k + 1, by omega, by go_num, fun j hj => by
            by_cases cj : j = k
            · subst cj; rw [HY.out]; omega
            · exact HP.out j (by omega)⟩
          case measure => simp [intOf]; omega
      · have hany : (l.any fun x => decide (x < 0)) = false := by
          rw [List.any_eq_false]
          intro x hx
          obtain ⟨j, hj, rfl⟩ := List.getElem_of_mem hx
          have := HP.out j (by rw [HL.out] at hj; omega)
          rw [getD_at l j hj] at this
          simp; omega
        have HANY := Lib.hid hany
        clear hany
        have hE2 : E = if (sumFrom 0 l).2 ≠ 0 then (sumFrom 0 l).2 else if (sumFrom 0 l).1 = 0 then 3 else 0 := by
          rw [HE.out]; unfold tgE; rw [if_neg (by rw [HL.out]; exact hbig), HANY.out]; simp
        have SUM2 := SUM.out
        have herr := sumFrom_err l 0
        obtain ⟨sv, hsv⟩ : ∃ sv, sv = (sumFrom 0 l).1 := ⟨_, rfl⟩
        obtain ⟨se, hse⟩ : ∃ se, se = (sumFrom 0 l).2 := ⟨_, rfl⟩
        rw [← hsv, ← hse] at hE2 SUM2 herr
        have S3 := Lib.hid SUM2
        clear SUM SUM2 hsv hse
        rcases herr with h2 | ⟨h2, h3⟩
        · subst h2
          by_cases h4 : sv = 0
          · subst h4
            have : E = 3 := by rw [hE2]; simp
            subst this
            clear hE2
            go_wp2_with fail
            refine S3.out.mono ?_
            rintro e w1 ⟨rfl, rfl⟩
            go_wp2
            go_ret2
            exact ⟨rfl, rfl⟩
          · have : E = 0 := by rw [hE2]; simp [h4]
            exact absurd this HE0.out
        · subst h2
          have : E = 2 := by rw [hE2]; simp
          subst this
          clear hE2
          go_wp2_with fail
          refine S3.out.mono ?_
          rintro e w1 ⟨rfl, rfl⟩
          go_wp2
          go_ret2
          exact ⟨rfl, rfl⟩

theorem sum_of_ok {l : List Int} (h : tgE l = 0) : sumFrom 0 l = (tgV l, 0) := by
  have hv : tgV l = (sumFrom 0 l).1 := by unfold tgV; rw [if_pos h]
  have he : (sumFrom 0 l).2 = 0 := by
    unfold tgE at h
    split at h
    · omega
    · split at h
      · omega
      · split at h
        · rename_i h2; exact absurd h h2
        · rename_i h2; simpa using h2
  exact Prod.ext hv.symm he
/-- Where one has more, no weight is all of them. -/
theorem weights_less {a : Int} {l : List Int} (h : tgE l = 0) (hm : 0 < moreN a (tgV l) l) : ∀ x ∈ l, 0 ≤ x ∧ x < tgV l := fun x hx => by
  obtain ⟨h1, h2, h3, h4, h5⟩ := tg_ok h
  refine ⟨h2 x hx, ?_⟩
  rcases Int.lt_or_le x (tgV l) with c | c
  · exact c
  · exfalso
    have hle := le_sum h2 hx
    have he : x = tgV l := by omega
    have hq := qN_sum (a := a) (s := tgV l) hx
    have : qN a x (tgV l) = a.natAbs := by
      rw [he]; unfold qN pSize
      exact Nat.mul_div_cancel _ (by omega)
    unfold moreN at hm
    omega
theorem OwnI.set {w : World} {B : Nat} {e : TypeId} {g n cap : Nat} {l : List Int} (h : OwnI .i64 w B e (.slice (some ⟨g, 0, none⟩) n cap) l) (hn : l.length = n) (j : Nat) (x : Int) : OwnI .i64 (w.setCell ⟨g, j, none⟩ (.int .i64 x)) B e (.slice (some ⟨g, 0, none⟩) n cap) (l.set j x) := by
  subst hn
  unfold OwnI at h ⊢
  rw [List.length_set, List.map_set]
  exact (World.ownsRow.stored h j (.int .i64 x)).1
theorem OwnI.at {w : World} {B : Nat} {e : TypeId} {g n cap : Nat} {l : List Int} (h : OwnI .i64 w B e (.slice (some ⟨g, 0, none⟩) n cap) l) (hn : l.length = n) {j : Nat} (hj : j < n) : w.cell? ⟨g, j, none⟩ = some (.int .i64 (l.getD j 0)) ∧ w.frozen? ⟨g, j, none⟩ = false := by
  subst hn
  refine ⟨?_, World.ownsRow.frozenAt h j⟩
  rw [World.ownsRow.cellAt h j (by omega), getD_map .i64 l j hj]
/-- A row of the call's own that is not empty lies in a block of its own. -/
theorem OwnI.form {w : World} {B : Nat} {e : TypeId} {v : Value} {l : List Int} (h : OwnI .i64 w B e v l) (hl : 0 < l.length) : ∃ g cap, v = .slice (some ⟨g, 0, none⟩) l.length cap ∧ B ≤ g ∧ g < w.heap.size := by
  rcases h.2 with ⟨_, h2⟩ | ⟨g, cap, cur, rfl, hb, hg, _⟩
  · omega
  · exact ⟨g, cap, rfl, hb, (Array.getElem?_eq_some_iff.1 hg).1⟩
/-- What the document's By leaves where there are parts. -/
def RbyOk (a : Int) (l : List Int) (n : Nat) (p : Nat → Nat) (w : World) (e : Ending) (w' : World) : Prop :=
  ∃ g cap, e = .returned (.tuple #[.slice (some ⟨g, 0, none⟩) n cap, .int .i64 0]) ∧ RowIs .i64 w' (some ⟨g, 0, none⟩) n (partsOf a l p) ∧ RowKit.Below w.heap.size w w'
theorem infoI64' : (Try.prog.info? 2).map (fun i => (i.zero, i.size, i.bytes)) = some (some (.int .i64 0), 1, 8) := by kernel_rfl

set_option maxRecDepth 100000 in
set_option maxHeartbeats 3200000 in
theorem rby_ok (a : Int) (ad : Option Addr) (n c : Nat) (l : List Int) (p : Nat → Nat) (w : World) (ha : In64 a) (h : RowIs .i64 w ad n l) (hz : ∀ x ∈ l, In64 x) (he : tgE l = 0) (hF : Firsts (rests a l) n p) :
    Calls Try.prog 11 #[.int .i64 a, .slice ad n c] w (RbyOk a l n p w) := by
  obtain ⟨i0, hi, hz0, hz1, hz2⟩ := info_parts infoI64'
  obtain ⟨t1, t2, t3, t4, t5⟩ := tg_ok he
  have hlen := h.len
  have hn : n ≤ 100 := by omega
  have hn0 : 0 < n := by
    rcases l with _ | ⟨x, l⟩
    · simp at t3; omega
    · simp at hlen; omega
  have SUM := rsum_any ad n c l w h hz
  rw [sum_of_ok he] at SUM
  obtain ⟨s, hs⟩ : ∃ s, s = tgV l := ⟨_, rfl⟩
  rw [← hs] at SUM t3 t4 t5
  have HSUM := Lib.hid SUM
  have HS := Lib.hid hs
  have HL := Lib.hid hlen
  have H := Lib.hid h
  have T2 := Lib.hid t2
  have T3 := Lib.hid t3
  have T5 := Lib.hid t5
  have HA := Lib.hid ha
  have HE := Lib.hid he
  have HF := Lib.hid hF
  have HI := Lib.hid (And.intro hi (And.intro hz0 (And.intro hz1 hz2)))
  have hs0 : (s == 0) = false := by rw [beq_eq_false_iff_ne]; omega
  obtain ⟨a1, a2⟩ := ha
  obtain ⟨s1, s2⟩ := t5
  have hbz : ¬ (100 : Int) < (n : Int) := by omega
  clear SUM hs h hz he t1 t2 t3 hlen hF hi hz0 hz1 hz2
  go_enter Try.func11, Try.ntmps11
  go_wp2
  go_loop [6] (fun i => ∃ k : Nat, k ≤ n ∧ i = .int .i64 k) (fun i => n - (intOf i).toNat)
  case atStart => exact ⟨0, Nat.zero_le _, rfl⟩
  case round =>
    obtain ⟨k, hk, rfl⟩ := hrel
    by_cases hlt : k < n
    · obtain ⟨b, o, rfl, hc⟩ := H.out.cell k hlt
      have hx0 := T2.out _ (getD_mem (show k < l.length by rw [HL.out]; exact hlt))
      generalize l.getD k 0 = y at *
      have hp : ¬ (y < 0) := by omega
      go_wp2
      go_round
      case rel => exact ⟨k + 1, by omega, by go_num⟩
      case measure => simp [intOf]; omega
    · have hltz : ¬ (k : Int) < (n : Int) := by omega
      go_wp2_with fail
      refine HSUM.out.mono ?_
      rintro e w1 ⟨rfl, rfl⟩
      clear HSUM
      go_wp2
      clear hltz hk hlt
      go_loopg [9, 10, 11] n (fun kx v9 v10 v11 wr => ∃ k : Nat, v10 = .int .i64 (leftV a s l k) ∧ v11 = .int .i64 (k : Int) ∧ k ≤ n ∧ n - k ≤ kx ∧ Hid (OwnI .i64 wr w.heap.size 2 v9 ((lows a l).take k)) ∧ Hid (RowKit.Below w.heap.size w wr))
      case atStart => exact ⟨0, by rw [leftV_zero], rfl, Nat.zero_le _, by omega, Lib.hid (OwnI.nil _ _ _ _), Lib.hid (Below.refl _ _)⟩
      case round =>
        obtain ⟨k, rfl, rfl, hkn, hkx, OW, BL⟩ := hrel
        by_cases hlt : k < n
        · obtain ⟨b, o, rfl, hc0⟩ := H.out.cell k hlt
          have hc : wr.cell? ⟨b, o + k, none⟩ = some (.int .i64 (l.getD k 0)) := (BL.out.cell (World.block_lt_of_cell? w _ hc0)).trans hc0
          have hkl : k < l.length := by rw [HL.out]; exact hlt
          have hx0 := T2.out _ (getD_mem hkl)
          have hxs := le_sum T2.out (getD_mem hkl)
          rw [T3.out] at hxs
          have HLOW := Lib.hid (fun W => low_any a (l.getD k 0) s W HA.out hx0 hxs t4 T5.out)
          have hst := leftV_step a s l k hkl
          have hlb := leftV_bd (a := a) T2.out T3.out t4 k HA.out
          have hlb2 := leftV_bd (a := a) T2.out T3.out t4 (k + 1) HA.out
          have hlw := lowV_bd (a := a) hx0 hxs t4 HA.out
          have hsn := take_snoc (lows a l) k (by rw [lows_len]; exact hkl)
          have hlk : (lows a l).getD k 0 = lowV a s (l.getD k 0) := by unfold lows; rw [getD_mapI _ _ _ hkl, HS.out]
          rw [hlk] at hsn
          have htk : ((lows a l).take k).length = k := by rw [List.length_take, lows_len, HL.out]; omega
          obtain ⟨x, hx⟩ : ∃ x, x = l.getD k 0 := ⟨_, rfl⟩
          obtain ⟨y, hy⟩ : ∃ y, y = lowV a s x := ⟨_, rfl⟩
          obtain ⟨L0, hL0⟩ : ∃ z, z = leftV a s l k := ⟨_, rfl⟩
          obtain ⟨L1, hL1⟩ : ∃ z, z = leftV a s l (k + 1) := ⟨_, rfl⟩
          rw [← hx] at hc HLOW hst hlw hsn
          rw [← hy] at hst HLOW hlw hsn
          rw [← hL0] at hst hlb ⊢
          rw [← hL1] at hst hlb2
          unfold In64 at hlb hlb2 hlw
          obtain ⟨lb1, lb2⟩ := hlb
          obtain ⟨lb3, lb4⟩ := hlb2
          obtain ⟨lw1, lw2⟩ := hlw
          have HL1 := Lib.hid hL1
          have HSN := Lib.hid hsn
          have HTK := Lib.hid htk
          have hst2 : L0 - y = L1 := hst.symm
          have hltz : (k : Int) < (n : Int) := by omega
          clear hx hy hL0 hL1 hst hc0 hkl hx0 hxs hsn hlk htk
          go_wp2_with fail
          refine (HLOW.out _).mono ?_
          rintro e w3 ⟨rfl, hb3⟩
          have OW2 := Lib.hid (OW.out.keepB hb3)
          have BL2 := Lib.hid (BL.out.trans (hb3.mono BL.out.size))
          clear hb3 hc OW BL HLOW
          go_wp2_with (at_builtin; refine wpList_append_rowV .i64 rfl _ _ 22 rfl w.heap.size 2 i0 (.int .i64 0) 8 Try.underlying22 HI.out.1 HI.out.2.1 HI.out.2.2.1 HI.out.2.2.2 rfl _ (OW2.out.alloc _) [y] (rowV_one _ _ _ _) (by rw [HTK.out]; unfold maxLen; simp; omega) (by rw [HTK.out]; simp; omega) (Nat.le_trans BL2.out.size (by simp)) ?_)
          intro v' w4 hown' hbel
          rw [HSN.out] at hown'
          have hl1 : ((lows a l).take (k + 1)).length = k + 1 := by rw [List.length_take, lows_len, HL.out]; omega
          obtain ⟨g, cap, rfl, -, -⟩ := hown'.form (by omega)
          rw [hl1] at hown' ⊢
          have hcy := (hown'.at hl1 (j := k) (by omega)).1
          have hgk : ((lows a l).take (k + 1)).getD k 0 = y := by
            rw [← HSN.out]
            unfold List.getD
            rw [List.getElem?_append_right (by rw [HTK.out]; exact Nat.le_refl _), HTK.out, Nat.sub_self]
            rfl
          rw [hgk] at hcy
          have OW3 := Lib.hid hown'
          have BL3 := Lib.hid ((BL2.out.alloc BL2.out.size _).trans hbel)
          clear hown' hbel hl1 hgk OW2 BL2
          go_wp2
          go_roundg (n - (k + 1))
          case measure => omega
          case rel => exact ⟨k + 1, by rw [← HL1.out], by first | rfl | go_num, by omega, Nat.le_refl _, OW3, BL3⟩
        · have hltz : ¬ (k : Int) < (n : Int) := by omega
          obtain rfl : k = n := by omega
          have hle := more_left (a := a) T2.out T3.out t4
          rw [HL.out] at hle
          have hml := more_lt (a := a) T2.out T3.out t4
          rw [HL.out] at hml
          have hmA : moreN a s l ≤ a.natAbs := by unfold moreN; omega
          obtain ⟨M, hM⟩ : ∃ M, M = moreN a s l := ⟨_, rfl⟩
          rw [← hM] at hle hml hmA
          rw [hle]
          have hall : (lows a l).take k = lows a l := List.take_of_length_le (by rw [lows_len, HL.out]; exact Nat.le_refl _)
          have hll : (lows a l).length = k := by rw [lows_len, HL.out]
          have hown := OW.out
          rw [hall] at hown
          obtain ⟨gp, cp, rfl, hgp1, hgp2⟩ := hown.form (by rw [hll]; exact hn0)
          rw [hll] at hown ⊢
          have PA := Lib.hid (rowIs_of_cells (w := wr) (b := gp) hll (by unfold maxLen; omega) (fun j hj => (hown.at hll hj).1))
          have HM := Lib.hid hM
          have HLL := Lib.hid hll
          have h64 := left_at (a := a) (k := 0) (Nat.zero_le M) hmA HA.out
          rw [Nat.sub_zero] at h64
          have hmk := run_make_row' (P := Try.prog) 54 4 (.bool false) 1 (by kernel_rfl) (by kernel_rfl) rfl .i64 .i64 k (by omega) (by omega)
          clear hM hall hll hown OW hle hgp1
          have hemp : OwnI .i64 ((wr.alloc (.cells (madeCells #[.bool false] k) 4)).alloc (.cells #[] 2)) (wr.heap.size + 1) 2 (.slice (some ⟨wr.heap.size + 1, 0, none⟩) 0 0) [] := by
            have := World.ownsRow_lit (base := wr.heap.size + 1) (e := 2) (size := 1) (wr.alloc (.cells (madeCells #[.bool false] k) 4)) #[] 0 (by simp) (by unfold maxLen; omega) rfl
            rw [show (wr.alloc (.cells (madeCells #[.bool false] k) 4)).heap.size = wr.heap.size + 1 by simp] at this
            exact this
          have hkb : Below wr.heap.size wr ((wr.alloc (.cells (madeCells #[.bool false] k) 4)).alloc (.cells #[] 2)) := ((Below.refl _ _).alloc (Nat.le_refl _) _).alloc (by simp) _
          have hpr : RowV .i64 ((wr.alloc (.cells (madeCells #[.bool false] k) 4)).alloc (.cells #[] 2)) (.slice (some ⟨gp, 0, none⟩) k cp) (lows a l) := by
            have hk' := PA.out.keep hkb (Nat.le_refl _)
            refine .inr ⟨gp, 0, cp, by rw [HLL.out], by rw [HLL.out]; unfold maxLen; omega, fun j hj => ?_⟩
            obtain ⟨b, o, e, hcc⟩ := hk'.cell j (by rw [← HLL.out]; exact hj)
            injection e with e
            injection e with e1 e2
            subst e1 e2
            exact hcc
          have HEMP := Lib.hid hemp
          have HPR := Lib.hid hpr
          have hrow0 := (World.rowIs_made wr (.bool false) k 4).alloc (.cells #[] 2)
          have R0 := Lib.hid hrow0
          have KB := Lib.hid hkb
          clear hemp hkb hpr hrow0
          go_wp2_with (at_builtin; refine wpList_append_rowV .i64 rfl _ _ 22 rfl (wr.heap.size + 1) 2 i0 (.int .i64 0) 8 Try.underlying22 HI.out.1 HI.out.2.1 HI.out.2.2.1 HI.out.2.2.2 rfl _ HEMP.out _ HPR.out (by rw [HLL.out]; unfold maxLen; simp; omega) (by rw [HLL.out]; simp; omega) (by simp) ?_)
          intro v13 w5 hown5 hbel5
          obtain ⟨g, cap, rfl, hg1, hg2⟩ := hown5.form (by rw [HLL.out]; exact hn0)
          rw [HLL.out] at hown5 ⊢
          have OW5 := Lib.hid hown5
          have R5 := Lib.hid (R0.out.of_block (hbel5.block wr.heap.size (by omega)))
          have B5 := Lib.hid (KB.out.trans (hbel5.mono (by omega)))
          obtain ⟨tb, htb⟩ : ∃ tb, tb = wr.heap.size := ⟨_, rfl⟩
          rw [← htb] at R5 B5 OW5 hg1 ⊢
          have HTB := Lib.hid htb
          have hBw := BL.out.size
          rw [← htb] at hBw
          have HBW := Lib.hid hBw
          obtain ⟨one, hone⟩ : ∃ o, o = cmpI a 0 := ⟨_, rfl⟩
          have HO := Lib.hid hone
          rw [← hone]
          have hob : -1 ≤ one ∧ one ≤ 1 := by rw [hone]; rcases sgn_cases a with ⟨h2, h3⟩ | ⟨h2, h3⟩ | ⟨h2, h3⟩ <;> rw [h3] <;> omega
          clear hown5 hbel5 HEMP HPR R0 KB htb hBw hone hmk h64
          go_wp2
          go_loopg [10] M (fun kx v10 wx => ∃ j : Nat, v10 = .int .i64 (one * ((M - j : Nat) : Int)) ∧ j ≤ M ∧ M - j ≤ kx ∧ Hid (OwnI .i64 wx (tb + 1) 2 (.slice (some ⟨g, 0, none⟩) k cap) (outs (lows a l) one p j)) ∧
            Hid (wx.rowIs tb 4 k (fun i => .bool (among p i j))) ∧ Hid (RowKit.Below tb wr wx))
          case atStart => exact ⟨0, by rw [Nat.sub_zero], Nat.zero_le _, by omega, OW5, R5, B5⟩
          case round =>
            clear OW5 R5 B5
            obtain ⟨j, rfl, hjM, hjx, OW, R, BQ⟩ := hrel
            have hla := left_at hjM hmA HA.out
            rw [← HO.out] at hla
            have BW := Lib.hid (BL.out.trans (BQ.out.mono HBW.out))
            have hol : (outs (lows a l) one p j).length = k := by rw [outs_len, HLL.out]
            have HOL := Lib.hid hol
            clear hol
            by_cases hend : j = M
            · have hz : (one * ((M - j : Nat) : Int) != 0) = false := by rw [bne_eq_false_iff_eq, hend, Nat.sub_self]; simp
              obtain ⟨x, hx⟩ : ∃ x, x = one * ((M - j : Nat) : Int) := ⟨_, rfl⟩
              rw [← hx] at hz hla ⊢
              obtain ⟨⟨x1, x2⟩, -, -⟩ := hla
              have HEND := Lib.hid hend
              clear hx hend
              go_wp2
              go_ret2
              refine ⟨g, cap, rfl, ?_, BW.out⟩
              have he : partsOf a l p = outs (lows a l) one p j := by unfold partsOf; rw [← HS.out, ← HO.out, ← HM.out, HEND.out]
              rw [he]
              exact rowIs_of_cells HOL.out (by unfold maxLen; omega) (fun i hi => (OW.out.at HOL.out hi).1)
            · have hjl : j < M := by omega
              have hjk : j < k := by omega
              have ha0 : a ≠ 0 := fun e => by rw [e] at hmA; simp at hmA; omega
              have hnz := hla.2.1 hjl ha0
              have hst := hla.2.2 hjl
              have hpb := part_bd (p := p) HE.out HA.out (by rw [HL.out]; exact HF.out) (k := j) (by rw [← HS.out, ← HM.out]; exact hjl)
              rw [← HO.out] at hpb
              have hla2 := (left_at (k := j + 1) hjl hmA HA.out).1
              rw [← HO.out] at hla2
              have hPk := HF.out.1 j hjk
              have hwl := weights_less (a := a) HE.out (by rw [← HS.out, ← HM.out]; omega)
              rw [← HS.out] at hwl
              have BEST := Lib.hid (best_any a s ad k c l (some ⟨gp, 0, none⟩) cp tb k (fun i => among p i j) _ HA.out T5.out t4 HS.out (by omega) (H.out.keep BW.out (Nat.le_refl _)) hwl (PA.out.keep BQ.out (by rw [HTB.out]; exact Nat.le_refl _)) (fun i hi => R.out.cell hi))
              obtain ⟨P, hP⟩ : ∃ P, P = p j := ⟨_, rfl⟩
              obtain ⟨X, hX⟩ : ∃ X, X = (outs (lows a l) one p j).getD P 0 := ⟨_, rfl⟩
              obtain ⟨X', hX'⟩ : ∃ X', X' = X + one := ⟨_, rfl⟩
              have hset : outs (lows a l) one p (j + 1) = (outs (lows a l) one p j).set P X' := by rw [hX', hX, hP]; rfl
              rw [← hP, ← hX] at hpb
              rw [← hX'] at hpb
              rw [← hP] at hPk
              obtain ⟨x, hx⟩ : ∃ x, x = one * ((M - j : Nat) : Int) := ⟨_, rfl⟩
              obtain ⟨x', hx'⟩ : ∃ x, x = one * ((M - (j + 1) : Nat) : Int) := ⟨_, rfl⟩
              rw [← hx] at hnz hst hla ⊢
              rw [← hx'] at hst hla2
              have HSET := Lib.hid hset
              have HP := Lib.hid hP
              have HXX := Lib.hid hX
              have HX' := Lib.hid hX'
              have HST := Lib.hid hst
              have HLX := Lib.hid hx'
              unfold In64 at hpb hla2
              obtain ⟨⟨x1, x2⟩, -, -⟩ := hla
              obtain ⟨⟨y1, y2⟩, y3, y4⟩ := hpb
              obtain ⟨x3, x4⟩ := hla2
              have hzt : (x != 0) = true := by rw [bne_iff_ne]; exact hnz
              have hPz : (P : Int) < (k : Int) := by omega
              have hsg : (one = 1 ∧ 0 < x) ∨ (one = -1 ∧ ¬ 0 < x) := by
                rw [hx]
                rw [HO.out]
                rcases sgn_cases a with ⟨c2, c3⟩ | ⟨c2, c3⟩ | ⟨c2, c3⟩
                · right; rw [c3]; exact ⟨rfl, by omega⟩
                · exact absurd c2 ha0
                · left; rw [c3]; exact ⟨rfl, by omega⟩
              clear hset hP hX hX' hst hx hx' hnz hwl ha0 hend
              rcases hsg with ⟨one1, c0⟩ | ⟨one1, c0⟩
              · have hbx : 0 < x := by omega
                have hxx : x - 1 = x' := by rw [← HST.out, one1]
                have hXX : X + 1 = X' := by rw [HX'.out, one1]
                clear c0 one1
                go_wp2_with fail
                refine BEST.out.mono ?_
                rintro e w6 ⟨⟨v, rfl, hbest⟩, hb6⟩
                have hv := BestTo.done HF.out hjk (fun _ => rfl) hbest
                rw [← HP.out] at hv
                subst hv
                have OW6 := Lib.hid (OW.out.keepB hb6)
                have R6 := Lib.hid (R.out.of_block (hb6.block tb R.out.lt))
                have BQ6 := Lib.hid (BQ.out.trans (hb6.mono (Nat.le_of_lt R.out.lt)))
                clear hbest hb6 OW R BQ BEST
                have k1 := R6.out.cell hPk
                have k2 := R6.out.frozen P
                have OW7 : Hid (OwnI .i64 (w6.setCell ⟨tb, P, none⟩ (.bool true)) (tb + 1) 2 (.slice (some ⟨g, 0, none⟩) k cap) (outs (lows a l) one p j)) := Lib.hid (ownsRow_setCell_below OW6.out (by simp) _)
                have R7 := Lib.hid ((R6.out.set P (.bool true)).congr (g := fun i => .bool (among p i (j + 1))) fun i hi => by
                  show (if i = P then Value.bool true else .bool (among p i j)) = .bool (p j == i || among p i j)
                  by_cases cc : i = P
                  · rw [if_pos cc, cc, HP.out]; simp
                  · rw [if_neg cc]
                    have : (p j == i) = false := by rw [beq_eq_false_iff_ne, ← HP.out]; exact fun e => cc e.symm
                    rw [this]; rfl)
                have BQ7 := Lib.hid (BQ6.out.setCell (p := ⟨tb, P, none⟩) (by simp) (.bool true))
                have hat := OW7.out.at HOL.out hPk
                rw [← HXX.out] at hat
                obtain ⟨k3, k4⟩ := hat
                have OW8 := Lib.hid (OW7.out.set HOL.out P X')
                have R8 := Lib.hid (R7.out.setOther (a := ⟨g, P, none⟩) (by simp; omega) (.int .i64 X'))
                have BQ8 := Lib.hid (BQ7.out.setCell (p := ⟨g, P, none⟩) (by simp; omega) (.int .i64 X'))
                clear OW6 R6 BQ6 OW7 R7 BQ7
                go_wp2
                go_roundg (M - (j + 1))
                case measure => omega
                case rel => exact ⟨j + 1, by rw [← HLX.out], by omega, Nat.le_refl _, Lib.hid (by rw [HSET.out]; exact OW8.out), R8, BQ8⟩
              · have hbx : ¬ 0 < x := by omega
                have hxx : x + 1 = x' := by rw [← HST.out, one1]; omega
                have hXX : X - 1 = X' := by rw [HX'.out, one1]; omega
                clear c0 one1
                go_wp2_with fail
                refine BEST.out.mono ?_
                rintro e w6 ⟨⟨v, rfl, hbest⟩, hb6⟩
                have hv := BestTo.done HF.out hjk (fun _ => rfl) hbest
                rw [← HP.out] at hv
                subst hv
                have OW6 := Lib.hid (OW.out.keepB hb6)
                have R6 := Lib.hid (R.out.of_block (hb6.block tb R.out.lt))
                have BQ6 := Lib.hid (BQ.out.trans (hb6.mono (Nat.le_of_lt R.out.lt)))
                clear hbest hb6 OW R BQ BEST
                have k1 := R6.out.cell hPk
                have k2 := R6.out.frozen P
                have OW7 : Hid (OwnI .i64 (w6.setCell ⟨tb, P, none⟩ (.bool true)) (tb + 1) 2 (.slice (some ⟨g, 0, none⟩) k cap) (outs (lows a l) one p j)) := Lib.hid (ownsRow_setCell_below OW6.out (by simp) _)
                have R7 := Lib.hid ((R6.out.set P (.bool true)).congr (g := fun i => .bool (among p i (j + 1))) fun i hi => by
                  show (if i = P then Value.bool true else .bool (among p i j)) = .bool (p j == i || among p i j)
                  by_cases cc : i = P
                  · rw [if_pos cc, cc, HP.out]; simp
                  · rw [if_neg cc]
                    have : (p j == i) = false := by rw [beq_eq_false_iff_ne, ← HP.out]; exact fun e => cc e.symm
                    rw [this]; rfl)
                have BQ7 := Lib.hid (BQ6.out.setCell (p := ⟨tb, P, none⟩) (by simp) (.bool true))
                have hat := OW7.out.at HOL.out hPk
                rw [← HXX.out] at hat
                obtain ⟨k3, k4⟩ := hat
                have OW8 := Lib.hid (OW7.out.set HOL.out P X')
                have R8 := Lib.hid (R7.out.setOther (a := ⟨g, P, none⟩) (by simp; omega) (.int .i64 X'))
                have BQ8 := Lib.hid (BQ7.out.setCell (p := ⟨g, P, none⟩) (by simp; omega) (.int .i64 X'))
                clear OW6 R6 BQ6 OW7 R7 BQ7
                go_wp2
                go_roundg (M - (j + 1))
                case measure => omega
                case rel => exact ⟨j + 1, by rw [← HLX.out], by omega, Nat.le_refl _, Lib.hid (by rw [HSET.out]; exact OW8.out), R8, BQ8⟩
end Go.Proofs.Yticcpcejdndplaa
