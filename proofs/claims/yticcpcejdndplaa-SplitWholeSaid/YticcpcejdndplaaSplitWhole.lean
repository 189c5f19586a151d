
/- The walk of SplitWhole: for any amount and any weights it returns true. -/
import Derived.Test.YticcpcejdndplaaSplitFacts
import Derived.Test.YticcpcejdndplaaRefCmp
namespace Go.Proofs.Yticcpcejdndplaa
open Go.RowKit

theorem moreAt_le (a : Int) (l : List Int) (p : Nat → Nat) (i : Nat) : moreAt a l p i = 0 ∨ moreAt a l p i = 1 := by unfold moreAt; split <;> omega
section
variable {a : Int} {l : List Int} {p : Nat → Nat}
/-- No part is as far as one from its fraction. -/
theorem part_near (he : tgE l = 0) (hp : Firsts (rests a l) l.length p) {i : Nat} (hi : i < l.length) :
    ((partsOf a l p).getD i 0 - 1) * tgV l < a * l.getD i 0 ∧ a * l.getD i 0 < ((partsOf a l p).getD i 0 + 1) * tgV l := by
  obtain ⟨h1, h2, h3, h4, h5⟩ := tg_ok he
  have hy0 := h2 _ (getD_mem hi)
  have hup := up_rest he hp hi
  have hm := moreAt_le a l p i
  rw [part_eq he hp hi]
  have hr := rN_lt (a := a) (w := l.getD i 0) h4
  have hq := qr_eq a (l.getD i 0) (tgV l)
  obtain ⟨y, hy⟩ : ∃ y, y = l.getD i 0 := ⟨_, rfl⟩
  obtain ⟨s, hs⟩ : ∃ s, s = tgV l := ⟨_, rfl⟩
  obtain ⟨u, hu⟩ : ∃ u, u = moreAt a l p i := ⟨_, rfl⟩
  rw [← hy] at hy0 hup hr hq ⊢
  rw [← hs] at hup hr hq h4 ⊢
  rw [← hu] at hup hm ⊢
  clear hy hs hu h1 h2 h3 h5 hp he hi
  obtain ⟨q, hqq⟩ : ∃ q, q = qN a y s := ⟨_, rfl⟩
  obtain ⟨r, hrr⟩ : ∃ r, r = rN a y s := ⟨_, rfl⟩
  rw [← hqq] at hq ⊢
  rw [← hrr] at hq hr hup
  clear hqq hrr
  have hq' : (q : Int) * s + r = (a.natAbs : Int) * y := by
    have : ((q * s.natAbs + r : Nat) : Int) = ((a.natAbs * y.natAbs : Nat) : Int) := by rw [hq]
    simp only [Int.natCast_add, Int.natCast_mul] at this
    rw [show ((s.natAbs : Nat) : Int) = s by omega, show ((y.natAbs : Nat) : Int) = y by omega] at this
    exact this
  have hr' : (r : Int) < s := by omega
  have hay : a * y = cmpI a 0 * ((q : Int) * s + r) := by
    rw [hq', ← Int.mul_assoc, sgn_abs]
  rw [hay]
  have hus : u = 0 ∨ (u = 1 ∧ 0 < r) := by
    rcases hm with h | h
    · exact .inl h
    · exact .inr ⟨h, hup h⟩
  clear hq hq' hay hup hm hr hy0
  obtain ⟨Q, hQ⟩ : ∃ Q, Q = (q : Int) * s := ⟨_, rfl⟩
  have e : ((q + u : Nat) : Int) * s = Q + (u : Int) * s := by rw [Int.natCast_add, Int.add_mul, hQ]
  rw [← hQ]
  have e1 : (u : Int) * s = 0 ∨ ((u : Int) * s = s ∧ 0 < r) := by
    rcases hus with h | ⟨h, h'⟩
    · left; rw [h]; simp
    · right; rw [h]; exact ⟨by simp, h'⟩
  rcases sgn_cases a with ⟨h2, h3⟩ | ⟨h2, h3⟩ | ⟨h2, h3⟩
  · rw [h3, Int.sub_mul, Int.add_mul, Int.mul_assoc, e]
    omega
  · rw [h3, Int.zero_mul, Int.zero_mul]
    omega
  · rw [h3, Int.one_mul, Int.one_mul, Int.sub_mul, Int.add_mul, e]
    omega
theorem part_signs (he : tgE l = 0) (hp : Firsts (rests a l) l.length p) {i : Nat} (hi : i < l.length) :
    (0 < (partsOf a l p).getD i 0 → 0 < a ∧ l.getD i 0 ≠ 0) ∧ ((partsOf a l p).getD i 0 < 0 → a < 0 ∧ l.getD i 0 ≠ 0) := by
  have hup := up_rest he hp hi
  have hm := moreAt_le a l p i
  rw [part_eq he hp hi]
  have hz : l.getD i 0 = 0 → qN a (l.getD i 0) (tgV l) = 0 ∧ rN a (l.getD i 0) (tgV l) = 0 := fun e => by
    rw [e]; unfold qN rN pSize; simp
  obtain ⟨u, hu⟩ : ∃ u, u = moreAt a l p i := ⟨_, rfl⟩
  rw [← hu] at hup hm ⊢
  have hz2 : l.getD i 0 = 0 → ((qN a (l.getD i 0) (tgV l) + u : Nat) : Int) = 0 := fun e => by
    obtain ⟨z1, z2⟩ := hz e
    rcases hm with h | h
    · omega
    · have := hup h; omega
  generalize ((qN a (l.getD i 0) (tgV l) + u : Nat)) = N at *
  rcases sgn_cases a with ⟨h2, h3⟩ | ⟨h2, h3⟩ | ⟨h2, h3⟩ <;> rw [h3]
  · exact ⟨fun h => by omega, fun h => ⟨h2, fun e => by have := hz2 e; omega⟩⟩
  · exact ⟨fun h => by omega, fun h => by omega⟩
  · exact ⟨fun h => ⟨h2, fun e => by have := hz2 e; omega⟩, fun h => by omega⟩
theorem neg_sum (l : List Int) : (l.map (fun x => -x)).sum = -l.sum := by
  induction l with
  | nil => rfl
  | cons x l ih => simp only [List.map_cons, List.sum_cons, ih]; omega
/-- What the first parts are together is between 0 and the amount. -/
theorem part_sums (he : tgE l = 0) (ha : In64 a) (hp : Firsts (rests a l) l.length p) (k : Nat) : In64 ((partsOf a l p).take k).sum := by
  have hs := parts_sum he hp
  have hmem : ∀ x ∈ partsOf a l p, (0 < x → 0 < a) ∧ (x < 0 → a < 0) := fun x hx => by
    obtain ⟨i, hi, rfl⟩ := List.getElem_of_mem hx
    rw [parts_len] at hi
    have := part_signs he hp hi
    rw [getD_at _ _ (by rw [parts_len]; exact hi)] at this
    exact ⟨fun h => (this.1 h).1, fun h => (this.2 h).1⟩
  generalize partsOf a l p = L at *
  unfold In64 at *
  rcases Int.lt_or_le a 0 with c | c
  · have h1 := take_sum (l := L.map (fun x => -x)) (fun x hx => by obtain ⟨y, hy, rfl⟩ := List.mem_map.1 hx; have := hmem y hy; omega) k
    have h2 := sum_nonneg (l := (L.map (fun x => -x)).take k) (fun x hx => by obtain ⟨y, hy, rfl⟩ := List.mem_map.1 (List.mem_of_mem_take hx); have := hmem y hy; omega)
    rw [← List.map_take, neg_sum] at h1 h2
    rw [neg_sum] at h1
    omega
  · have h1 := take_sum (l := L) (fun x hx => by have := hmem x hx; omega) k
    have h2 := sum_nonneg (l := L.take k) (fun x hx => by have := hmem x (List.mem_of_mem_take hx); omega)
    omega
end
theorem take_sum_step (l : List Int) (k : Nat) (hk : k < l.length) : (l.take (k + 1)).sum = (l.take k).sum + l.getD k 0 := by
  rw [← take_snoc l k hk, List.sum_append]; simp

set_option maxRecDepth 100000 in
set_option maxHeartbeats 3200000 in
theorem whole_core (a : Int) (ad : Option Addr) (n c : Nat) (l : List Int) (w : World) (ha : In64 a) (h : RowIs .i64 w ad n l) (hz : ∀ x ∈ l, In64 x) (hn : n ≤ 200) (he : tgE l = 0) :
    Calls Try.prog 4 #[.int .i64 a, .slice ad n c] w fun e w' => e = .returned (.bool true) ∧ RowKit.Below w.heap.size w w' := by
  have HA := Lib.hid ha
  have HR := Lib.hid h
  have HZ := Lib.hid hz
  have HE := Lib.hid he
  have HN := Lib.hid h.len
  obtain ⟨t1, t2, t3, t4, t5⟩ := tg_ok he
  have T2 := Lib.hid t2
  have T3 := Lib.hid t3
  have T5 := Lib.hid t5
  have HT : Hid (∀ k, In64 (l.take k).sum) := fun k => by
    have h1 := take_sum t2 k
    have h2 := sum_nonneg (l := l.take k) fun x hx => t2 x (List.mem_of_mem_take hx)
    unfold In64 at *
    omega
  obtain ⟨a1, a2⟩ := ha
  clear h hz he t1 t2 t3 t4 t5
  have hd1 : decide ((200 : Int) < (n : Int)) = false := by simp; omega
  go_enter Try.func4, Try.ntmps4
  go_wp2_with fail
  refine (alive_any _).mono ?_
  rintro e w1 ⟨rfl, hb1⟩
  have HB1 := Lib.hid hb1
  have HR1 := Lib.hid (HR.out.keep hb1 (Nat.le_refl _))
  clear hb1 HR
  go_wp2_with fail
  refine (by_ok a ad n c l w1 HA.out HR1.out HZ.out HE.out).mono ?_
  rintro e w2 ⟨pb, p, rfl, hpb, hF, hc, hb2⟩
  have HF := Lib.hid hF
  have hnm : n ≤ maxLen := by unfold maxLen; omega
  have HL2 := Lib.hid (rowIs_of_cells (l := partsOf a l p) (by rw [parts_len, HN.out]) hnm hc)
  have HR2 := Lib.hid (HR1.out.keep hb2 (Nat.le_refl _))
  have HB2 := Lib.hid (HB1.out.trans (hb2.mono HB1.out.size))
  have HP1 := Lib.hid (fun (i : Nat) (hi : i < n) => part_in (i := i) HE.out HA.out (by rw [HN.out]; exact hF) (by rw [HN.out]; exact hi))
  have HP2 := Lib.hid (fun (i : Nat) (hi : i < n) => part_near (i := i) HE.out (by rw [HN.out]; exact hF) (by rw [HN.out]; exact hi))
  have HP3 := Lib.hid (fun (i : Nat) (hi : i < n) => part_signs (i := i) HE.out (by rw [HN.out]; exact hF) (by rw [HN.out]; exact hi))
  have HP4 := Lib.hid (fun (k : Nat) => part_sums HE.out HA.out (by rw [HN.out]; exact hF) k)
  have HP5 := Lib.hid (parts_sum HE.out (by rw [HN.out]; exact hF))
  have HP6 : Hid ((partsOf a l p).length = n) := Lib.hid (by rw [parts_len, HN.out])
  obtain ⟨L, hL⟩ : ∃ L, L = partsOf a l p := ⟨_, rfl⟩
  obtain ⟨s, hs⟩ : ∃ s, s = tgV l := ⟨_, rfl⟩
  rw [← hL] at HL2 HP1 HP2 HP3 HP4 HP5 HP6
  rw [← hs] at HP2 T3 T5
  clear hF hc hb2 hpb HR1 HB1 HF hnm hL hs HE
  go_wp2
  go_loopg [7, 31] n (fun kx v7 v31 wr => ∃ k : Nat, v7 = .int .i64 (l.take k).sum ∧ v31 = .int .i64 (k : Int) ∧ k ≤ n ∧ n - k ≤ kx ∧ Hid (wr = w2))
  case atStart => exact ⟨0, by simp, rfl, Nat.zero_le _, by omega, rfl⟩
  case round =>
    obtain ⟨k, rfl, rfl, hkn, hkx, HW⟩ := hrel
    have hw := HW.out
    subst hw
    clear HW
    by_cases hlt : k < n
    · obtain ⟨b, o, rfl, hc⟩ := HR2.out.cell k hlt
      have hst := take_sum_step l k (by rw [HN.out]; exact hlt)
      have hb1 := HT.out k
      have hb2 := HT.out (k + 1)
      obtain ⟨x, hx⟩ : ∃ x, x = l.getD k 0 := ⟨_, rfl⟩
      obtain ⟨s0, hs0⟩ : ∃ x, x = (l.take k).sum := ⟨_, rfl⟩
      obtain ⟨s1, hs1⟩ : ∃ x, x = (l.take (k + 1)).sum := ⟨_, rfl⟩
      rw [← hx] at hc hst
      rw [← hs0] at hst hb1 ⊢
      rw [← hs1] at hst hb2
      have HS1 := Lib.hid hs1
      have hst2 : s0 + x = s1 := hst.symm
      obtain ⟨b3, b4⟩ := hb1
      obtain ⟨b5, b6⟩ := hb2
      have hltz : (k : Int) < (n : Int) := by omega
      clear hx hs0 hs1 hst
      go_wp2
      go_roundg (n - (k + 1))
      case measure => omega
      case rel => exact ⟨k + 1, by rw [← HS1.out], by first | rfl | go_num, by omega, Nat.le_refl _, rfl⟩
    · have hltz : ¬ (k : Int) < (n : Int) := by omega
      obtain rfl : k = n := by omega
      have hsum : (l.take k).sum = s := by rw [List.take_of_length_le (by rw [HN.out]; omega), T3.out]
      rw [hsum]
      have hkk : ((k : Int) != (k : Int)) = false := by simp
      clear hsum
      go_wp2
      rename World => wa
      go_loopg [8, 46] k (fun kx v8 v46 wr => ∃ i : Nat, v8 = .int .i64 (L.take i).sum ∧ v46 = .int .i64 (i : Int) ∧ i ≤ k ∧ k - i ≤ kx ∧ Hid (RowIs .i64 wr ad k l) ∧ Hid (RowIs .i64 wr (some ⟨pb, 0, none⟩) k L) ∧ Hid (RowKit.Below w.heap.size w wr))
      case atStart => exact ⟨0, by simp, rfl, Nat.zero_le _, by omega, HR2, HL2, HB2⟩
      case round =>
        clear HR2 HL2 HB2
        obtain ⟨i, rfl, rfl, hik, hkx, HR2, HL2, HB2⟩ := hrel
        by_cases hlt : i < k
        · have hltz2 : (i : Int) < (k : Int) := by omega
          obtain ⟨b, o, rfl, hc1⟩ := HR2.out.cell i hlt
          obtain ⟨gp, op, hgp, hc2⟩ := HL2.out.cell i hlt
          injection hgp with hgp
          injection hgp with e1 e2
          subst e1 e2
          rw [Nat.zero_add] at hc2
          have hst := take_sum_step L i (by rw [HP6.out]; exact hlt)
          have hb1 := HP4.out i
          have hb2 := HP4.out (i + 1)
          have hx1 := HP1.out i hlt
          have hx2 := HP2.out i hlt
          have hx3 := HP3.out i hlt
          have hy1 : In64 (l.getD i 0) := HZ.out _ (getD_mem (by rw [HN.out]; exact hlt))
          obtain ⟨x, hx⟩ : ∃ x, x = L.getD i 0 := ⟨_, rfl⟩
          obtain ⟨y, hy⟩ : ∃ y, y = l.getD i 0 := ⟨_, rfl⟩
          obtain ⟨s0, hs0⟩ : ∃ x, x = (L.take i).sum := ⟨_, rfl⟩
          obtain ⟨s1, hs1⟩ : ∃ x, x = (L.take (i + 1)).sum := ⟨_, rfl⟩
          rw [← hx] at hc2 hst hx1 hx2 hx3
          rw [← hy] at hc1 hx2 hx3 hy1
          rw [← hs0] at hst hb1 ⊢
          rw [← hs1] at hst hb2
          have HS1 := Lib.hid hs1
          have HY := Lib.hid hy.symm
          have IY := Lib.hid hy1
          have hst2 : s0 + x = s1 := hst.symm
          obtain ⟨b3, b4⟩ := hb1
          obtain ⟨b5, b6⟩ := hb2
          have c1 : cmpV (x - 1) s a y = -1 := by unfold cmpV; rw [if_pos hx2.1]
          have c2 : cmpV (x + 1) s a y = 1 := by unfold cmpV; rw [if_neg (by omega), if_pos hx2.2]
          have C1 := Lib.hid c1
          have C2 := Lib.hid c2
          unfold In64 at hx1
          obtain ⟨x1, x2⟩ := hx1
          clear hx hs0 hs1 hst hy hy1 c1 c2 hx2
          rcases Int.lt_trichotomy x 0 with g | g | g
          · obtain ⟨g1, g2⟩ := hx3.2 g
            have d1 : decide (0 < x) = false := by simp; omega
            have d2 : decide (0 < a) = false := by simp; omega
            have d3 : (y == 0) = false := by simpa using g2
            clear hx3 g1 g2
            by_cases g3 : -4611686018427387904 < x
            · have d4 : x < 4611686018427387904 := by omega
              have I1 : Hid (In64 (x - 1)) := Lib.hid ⟨by omega, by omega⟩
              have I2 : Hid (In64 (x + 1)) := Lib.hid ⟨by omega, by omega⟩
              have d5 : -9223372036854775808 ≤ x - 1 ∧ x - 1 ≤ 9223372036854775807 := by omega
              have d6 : -9223372036854775808 ≤ x + 1 ∧ x + 1 ≤ 9223372036854775807 := by omega
              go_wp2_with fail
              refine (rcmp_any (x - 1) s a y _ I1.out T5.out HA.out IY.out).mono ?_
              rintro e w3 ⟨rfl, hb3⟩
              rw [C1.out]
              have HR3 := Lib.hid (HR2.out.keep hb3 (Nat.le_refl _))
              have HL3 := Lib.hid (HL2.out.keep hb3 (Nat.le_refl _))
              have HB3 := Lib.hid (HB2.out.trans (hb3.mono HB2.out.size))
              obtain ⟨b', o', hab, hc3⟩ := HR3.out.cell i hlt
              injection hab with hab
              injection hab with e1 e2
              subst e1 e2
              rw [HY.out] at hc3
              clear hb3 hc1 hc2 HR2 HL2 HB2
              go_wp2_with fail
              refine (rcmp_any (x + 1) s a y _ I2.out T5.out HA.out IY.out).mono ?_
              rintro e w4 ⟨rfl, hb4⟩
              rw [C2.out]
              have HR4 := Lib.hid (HR3.out.keep hb4 (Nat.le_refl _))
              have HL4 := Lib.hid (HL3.out.keep hb4 (Nat.le_refl _))
              have HB4 := Lib.hid (HB3.out.trans (hb4.mono HB3.out.size))
              clear hb4 hc3 HR3 HL3 HB3
              go_wp2
              go_roundg (k - (i + 1))
              case measure => omega
              case rel => exact ⟨i + 1, by rw [← HS1.out], by first | rfl | go_num, by omega, Nat.le_refl _, HR4, HL4, HB4⟩
            · have d4 : decide (-4611686018427387904 < x) = false := by simp; omega
              clear g3
              go_wp2
              go_roundg (k - (i + 1))
              case measure => omega
              case rel => exact ⟨i + 1, by rw [← HS1.out], by first | rfl | go_num, by omega, Nat.le_refl _, HR2, HL2, HB2⟩
          · have d1 : decide (0 < x) = false := by simp; omega
            have d2 : decide (x < 0) = false := by simp; omega
            have d3 : (x != 0) = false := by simpa using g
            have d4 : -4611686018427387904 < x := by omega
            have d4' : x < 4611686018427387904 := by omega
            have I1 : Hid (In64 (x - 1)) := Lib.hid ⟨by omega, by omega⟩
            have I2 : Hid (In64 (x + 1)) := Lib.hid ⟨by omega, by omega⟩
            have d5 : -9223372036854775808 ≤ x - 1 ∧ x - 1 ≤ 9223372036854775807 := by omega
            have d6 : -9223372036854775808 ≤ x + 1 ∧ x + 1 ≤ 9223372036854775807 := by omega
            clear hx3 g
            by_cases g3 : y = 0
            · have d7 : (y == 0) = true := by simpa using g3
              clear g3
              go_wp2_with fail
              refine (rcmp_any (x - 1) s a y _ I1.out T5.out HA.out IY.out).mono ?_
              rintro e w3 ⟨rfl, hb3⟩
              rw [C1.out]
              have HR3 := Lib.hid (HR2.out.keep hb3 (Nat.le_refl _))
              have HL3 := Lib.hid (HL2.out.keep hb3 (Nat.le_refl _))
              have HB3 := Lib.hid (HB2.out.trans (hb3.mono HB2.out.size))
              obtain ⟨b', o', hab, hc3⟩ := HR3.out.cell i hlt
              injection hab with hab
              injection hab with e1 e2
              subst e1 e2
              rw [HY.out] at hc3
              clear hb3 hc1 hc2 HR2 HL2 HB2
              go_wp2_with fail
              refine (rcmp_any (x + 1) s a y _ I2.out T5.out HA.out IY.out).mono ?_
              rintro e w4 ⟨rfl, hb4⟩
              rw [C2.out]
              have HR4 := Lib.hid (HR3.out.keep hb4 (Nat.le_refl _))
              have HL4 := Lib.hid (HL3.out.keep hb4 (Nat.le_refl _))
              have HB4 := Lib.hid (HB3.out.trans (hb4.mono HB3.out.size))
              clear hb4 hc3 HR3 HL3 HB3
              go_wp2
              go_roundg (k - (i + 1))
              case measure => omega
              case rel => exact ⟨i + 1, by rw [← HS1.out], by first | rfl | go_num, by omega, Nat.le_refl _, HR4, HL4, HB4⟩
            · have d7 : (y == 0) = false := by simpa using g3
              clear g3
              go_wp2_with fail
              refine (rcmp_any (x - 1) s a y _ I1.out T5.out HA.out IY.out).mono ?_
              rintro e w3 ⟨rfl, hb3⟩
              rw [C1.out]
              have HR3 := Lib.hid (HR2.out.keep hb3 (Nat.le_refl _))
              have HL3 := Lib.hid (HL2.out.keep hb3 (Nat.le_refl _))
              have HB3 := Lib.hid (HB2.out.trans (hb3.mono HB2.out.size))
              obtain ⟨b', o', hab, hc3⟩ := HR3.out.cell i hlt
              injection hab with hab
              injection hab with e1 e2
              subst e1 e2
              rw [HY.out] at hc3
              clear hb3 hc1 hc2 HR2 HL2 HB2
              go_wp2_with fail
              refine (rcmp_any (x + 1) s a y _ I2.out T5.out HA.out IY.out).mono ?_
              rintro e w4 ⟨rfl, hb4⟩
              rw [C2.out]
              have HR4 := Lib.hid (HR3.out.keep hb4 (Nat.le_refl _))
              have HL4 := Lib.hid (HL3.out.keep hb4 (Nat.le_refl _))
              have HB4 := Lib.hid (HB3.out.trans (hb4.mono HB3.out.size))
              clear hb4 hc3 HR3 HL3 HB3
              go_wp2
              go_roundg (k - (i + 1))
              case measure => omega
              case rel => exact ⟨i + 1, by rw [← HS1.out], by first | rfl | go_num, by omega, Nat.le_refl _, HR4, HL4, HB4⟩
          · obtain ⟨g1, g2⟩ := hx3.1 g
            have d1 : decide (a < 0) = false := by simp; omega
            have d2 : decide (x < 0) = false := by simp; omega
            have d3 : (y == 0) = false := by simpa using g2
            have d8 : -4611686018427387904 < x := by omega
            clear hx3 g1 g2
            by_cases g3 : x < 4611686018427387904
            · have I1 : Hid (In64 (x - 1)) := Lib.hid ⟨by omega, by omega⟩
              have I2 : Hid (In64 (x + 1)) := Lib.hid ⟨by omega, by omega⟩
              have d5 : -9223372036854775808 ≤ x - 1 ∧ x - 1 ≤ 9223372036854775807 := by omega
              have d6 : -9223372036854775808 ≤ x + 1 ∧ x + 1 ≤ 9223372036854775807 := by omega
              go_wp2_with fail
              refine (rcmp_any (x - 1) s a y _ I1.out T5.out HA.out IY.out).mono ?_
              rintro e w3 ⟨rfl, hb3⟩
              rw [C1.out]
              have HR3 := Lib.hid (HR2.out.keep hb3 (Nat.le_refl _))
              have HL3 := Lib.hid (HL2.out.keep hb3 (Nat.le_refl _))
              have HB3 := Lib.hid (HB2.out.trans (hb3.mono HB2.out.size))
              obtain ⟨b', o', hab, hc3⟩ := HR3.out.cell i hlt
              injection hab with hab
              injection hab with e1 e2
              subst e1 e2
              rw [HY.out] at hc3
              clear hb3 hc1 hc2 HR2 HL2 HB2
              go_wp2_with fail
              refine (rcmp_any (x + 1) s a y _ I2.out T5.out HA.out IY.out).mono ?_
              rintro e w4 ⟨rfl, hb4⟩
              rw [C2.out]
              have HR4 := Lib.hid (HR3.out.keep hb4 (Nat.le_refl _))
              have HL4 := Lib.hid (HL3.out.keep hb4 (Nat.le_refl _))
              have HB4 := Lib.hid (HB3.out.trans (hb4.mono HB3.out.size))
              clear hb4 hc3 HR3 HL3 HB3
              go_wp2
              go_roundg (k - (i + 1))
              case measure => omega
              case rel => exact ⟨i + 1, by rw [← HS1.out], by first | rfl | go_num, by omega, Nat.le_refl _, HR4, HL4, HB4⟩
            · have d4 : decide (x < 4611686018427387904) = false := by simp; omega
              clear g3
              go_wp2
              go_roundg (k - (i + 1))
              case measure => omega
              case rel => exact ⟨i + 1, by rw [← HS1.out], by first | rfl | go_num, by omega, Nat.le_refl _, HR2, HL2, HB2⟩
        · have hltz2 : ¬ (i : Int) < (k : Int) := by omega
          obtain rfl : i = k := by omega
          have hsum : (L.take i).sum = a := by rw [List.take_of_length_le (by rw [HP6.out]; omega), HP5.out]
          rw [hsum]
          have haa : (a == a) = true := by simp
          go_wp2
          go_ret
          exact ⟨rfl, HB2.out⟩

set_option maxHeartbeats 400000 in
theorem whole_bad (a : Int) (ad : Option Addr) (n c : Nat) (l : List Int) (w : World) (h : RowIs .i64 w ad n l) (hz : ∀ x ∈ l, In64 x) (hn : n ≤ 200) (he : tgE l ≠ 0) :
    Calls Try.prog 4 #[.int .i64 a, .slice ad n c] w fun e w' => e = .returned (.bool true) ∧ RowKit.Below w.heap.size w w' := by
  have HR := Lib.hid h
  have HZ := Lib.hid hz
  have HE := Lib.hid he
  clear h hz he
  have hd1 : decide ((200 : Int) < (n : Int)) = false := by simp; omega
  go_enter Try.func4, Try.ntmps4
  go_wp2_with fail
  refine (alive_any _).mono ?_
  rintro e w1 ⟨rfl, hb1⟩
  have HB1 := Lib.hid hb1
  have HR1 := Lib.hid (HR.out.keep hb1 (Nat.le_refl _))
  clear hb1 HR
  go_wp2_with fail
  refine (by_bad a ad n c l w1 HR1.out HZ.out HE.out).mono ?_
  rintro e w2 ⟨rfl, rfl⟩
  have hne : (tgE l != 0) = true := by rw [bne_iff_ne]; exact HE.out
  generalize tgE l = E at hne ⊢
  clear HE
  go_wp2
  go_ret
  exact ⟨rfl, HB1.out⟩

set_option maxHeartbeats 400000 in
theorem whole_long (a : Int) (ad : Option Addr) (n c : Nat) (w : World) (hn : 200 < n) (hm : n ≤ maxLen) :
    Calls Try.prog 4 #[.int .i64 a, .slice ad n c] w fun e w' => e = .returned (.bool true) ∧ RowKit.Below w.heap.size w w' := by
  unfold maxLen at hm
  go_enter Try.func4, Try.ntmps4
  go_wp2_with fail
  refine (alive_any _).mono ?_
  rintro e w1 ⟨rfl, hb1⟩
  have HB1 := Lib.hid hb1
  clear hb1
  go_wp2
  go_ret
  exact ⟨rfl, HB1.out⟩

theorem splitWhole_walk (a : Int) (ad : Option Addr) (n c : Nat) (l : List Int) (w : World) (ha : In64 a) (h : RowIs .i64 w ad n l) (hz : ∀ x ∈ l, In64 x) :
    Calls Try.prog 4 #[.int .i64 a, .slice ad n c] w fun e w' => e = .returned (.bool true) ∧ RowKit.Below w.heap.size w w' := by
  by_cases hn : 200 < n
  · exact whole_long a ad n c w hn h.max
  · by_cases he : tgE l = 0
    · exact whole_core a ad n c l w ha h hz (by omega) he
    · exact whole_bad a ad n c l w h hz (by omega) he
end Go.Proofs.Yticcpcejdndplaa
