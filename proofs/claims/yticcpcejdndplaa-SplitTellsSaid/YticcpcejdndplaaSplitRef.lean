
/- The walks of the document's low, further, best and Share: the part rounded towards 0, whose rest is greater, the greatest rest that is not taken yet, a share and what is left. -/
import Derived.Test.YticcpcejdndplaaSplitFacts
import Derived.Test.YticcpcejdndplaaRefCmp
import Derived.Test.YticcpcejdndplaaRefCalls
import Derived.Test.YticcpcejdndplaaPast
namespace Go.Proofs.Yticcpcejdndplaa
open Go.RowKit

/-- The product of an amount by a weight: its sign, and part and rest. -/
theorem prod_parts {a y s : Int} (hy : 0 ≤ y) (hs : 0 < s) : a * y = cmpI a 0 * ((qN a y s : Int) * s + rN a y s) := by
  have hq := qr_eq a y s
  have : ((qN a y s * s.natAbs + rN a y s : Nat) : Int) = ((a.natAbs * y.natAbs : Nat) : Int) := by rw [hq]
  simp only [Int.natCast_add, Int.natCast_mul] at this
  rw [show ((s.natAbs : Nat) : Int) = s by omega, show ((y.natAbs : Nat) : Int) = y by omega] at this
  rw [this, ← Int.mul_assoc, sgn_abs]
/-- How what is rounded stands to the product. -/
theorem low_cmp {a y s : Int} (hy : 0 ≤ y) (hys : y ≤ s) (hs : 0 < s) (ha : In64 a) : (0 < a → (0 < cmpV (mdV a y s) s a y ↔ upN a y s = 1)) ∧ (a < 0 → (cmpV (mdV a y s) s a y < 0 ↔ upN a y s = 1)) := by
  obtain ⟨hv, -⟩ := md_low hy hys hs ha
  have hr := rN_lt (a := a) (w := y) hs
  have hp := prod_parts (a := a) hy hs
  have hr' : (rN a y s : Int) < s := by omega
  have hu : upN a y s = 0 ∨ upN a y s = 1 := by unfold upN; split <;> omega
  unfold cmpV
  rw [hv, hp]
  have e : ((qN a y s + upN a y s : Nat) : Int) * s = (qN a y s : Int) * s + (upN a y s : Int) * s := by rw [Int.natCast_add, Int.add_mul]
  have e1 : (upN a y s = 0 ∧ (upN a y s : Int) * s = 0) ∨ (upN a y s = 1 ∧ (upN a y s : Int) * s = s) := by
    rcases hu with h | h
    · left; exact ⟨h, by rw [h]; simp⟩
    · right; exact ⟨h, by rw [h]; simp⟩
  generalize (qN a y s : Int) * s = Q at *
  generalize (upN a y s : Int) * s = U at *
  refine ⟨fun h => ?_, fun h => ?_⟩
  · rw [show cmpI a 0 = 1 by unfold cmpI; rw [if_neg (by omega), if_pos h], Int.one_mul, Int.one_mul, e]
    (repeat' split) <;> omega
  · rw [show cmpI a 0 = -1 by unfold cmpI; rw [if_pos h], Int.mul_assoc, e]
    (repeat' split) <;> omega

set_option maxHeartbeats 800000 in
theorem low_any (a b s : Int) (w : World) (ha : In64 a) (hb : 0 ≤ b) (hbs : b ≤ s) (h0 : 0 < s) (hs : In64 s) :
    Calls Try.prog 21 #[.int .i64 a, .int .i64 b, .int .i64 s] w fun e w' => e = .returned (.int .i64 (lowV a s b)) ∧ RowKit.Below w.heap.size w w' := by
  have hb64 : In64 b := by unfold In64 at *; omega
  obtain ⟨hv, he⟩ := md_low hb hbs h0 ha
  have hlb := lowV_bd hb hbs h0 ha
  have hup := qN_up_le (a := a) hb hbs h0
  have hlc := low_cmp hb hbs h0 ha
  have HMD := Lib.hid (fun W => rmulDiv_any a b s W ha hb64 hs)
  have hNb : In64 (mdV a b s) := by
    rw [hv]
    unfold In64 at *
    rcases sgn_cases a with ⟨h2, h3⟩ | ⟨h2, h3⟩ | ⟨h2, h3⟩ <;> rw [h3] <;> omega
  have HCM := Lib.hid (fun W => rcmp_any (mdV a b s) s a b W hNb hs ha hb64)
  have hu : upN a b s = 0 ∨ upN a b s = 1 := by unfold upN; split <;> omega
  have hl : lowV a s b = mdV a b s - cmpI a 0 * (upN a b s : Int) := by
    rw [hv]; unfold lowV; rw [Int.natCast_add, Int.mul_add]; omega
  obtain ⟨N, hN⟩ : ∃ N, N = mdV a b s := ⟨_, rfl⟩
  obtain ⟨k, hk⟩ : ∃ k, k = cmpV (mdV a b s) s a b := ⟨_, rfl⟩
  obtain ⟨V, hV⟩ : ∃ V, V = lowV a s b := ⟨_, rfl⟩
  rw [← hk] at HCM hlc
  rw [← hN] at HMD HCM hNb hl
  rw [← hV] at hl hlb ⊢
  unfold In64 at hNb hlb
  obtain ⟨n1, n2⟩ := hNb
  obtain ⟨v1, v2⟩ := hlb
  have HH := Lib.hid (And.intro hN (And.intro hk hV))
  clear hN hk hV hv he hup
  rcases sgn_cases a with ⟨g2, g3⟩ | ⟨g2, g3⟩ | ⟨g2, g3⟩
  · rw [g3] at hl
    have d1 : decide (0 < a) = false := by simp; omega
    rcases hu with hu | hu
    · have d2 : decide (k < 0) = false := by rw [decide_eq_false_iff_not]; exact fun h => by have := (hlc.2 g2).1 h; omega
      have hVN : V = N := by rw [hl, hu]; simp
      rw [hVN]
      clear hl hlc hu g3 hVN HH v1 v2
      go_enter Try.func21, Try.ntmps21
      go_wp2_with fail
      refine (HMD.out _).mono ?_
      rintro e w1 ⟨rfl, hb1⟩
      have B1 := Lib.hid hb1
      clear hb1
      go_wp2_with fail
      refine (HCM.out _).mono ?_
      rintro e w2 ⟨rfl, hb2⟩
      have B2 := Lib.hid (B1.out.trans (hb2.mono B1.out.size))
      clear hb2 B1
      go_wp2
      go_ret
      exact ⟨rfl, B2.out⟩
    · have d2 : k < 0 := (hlc.2 g2).2 hu
      have hVN : N + 1 = V := by rw [hl, hu]; simp
      clear hl hlc hu g3 HH
      go_enter Try.func21, Try.ntmps21
      go_wp2_with fail
      refine (HMD.out _).mono ?_
      rintro e w1 ⟨rfl, hb1⟩
      have B1 := Lib.hid hb1
      clear hb1
      go_wp2_with fail
      refine (HCM.out _).mono ?_
      rintro e w2 ⟨rfl, hb2⟩
      have B2 := Lib.hid (B1.out.trans (hb2.mono B1.out.size))
      clear hb2 B1
      go_wp2
      go_ret
      exact ⟨rfl, B2.out⟩
  · rw [g3] at hl
    have d1 : decide (0 < a) = false := by simp; omega
    have d2 : decide (a < 0) = false := by simp; omega
    have hVN : V = N := by rw [hl]; simp
    rw [hVN]
    clear hl hlc hu g3 hVN HH v1 v2 g2
    go_enter Try.func21, Try.ntmps21
    go_wp2_with fail
    refine (HMD.out _).mono ?_
    rintro e w1 ⟨rfl, hb1⟩
    have B1 := Lib.hid hb1
    clear hb1
    go_wp2_with fail
    refine (HCM.out _).mono ?_
    rintro e w2 ⟨rfl, hb2⟩
    have B2 := Lib.hid (B1.out.trans (hb2.mono B1.out.size))
    clear hb2 B1
    go_wp2
    go_ret
    exact ⟨rfl, B2.out⟩
  · rw [g3] at hl
    have d1 : decide (a < 0) = false := by simp; omega
    rcases hu with hu | hu
    · have d2 : decide (0 < k) = false := by rw [decide_eq_false_iff_not]; exact fun h => by have := (hlc.1 g2).1 h; omega
      have hVN : V = N := by rw [hl, hu]; simp
      rw [hVN]
      clear hl hlc hu g3 hVN HH v1 v2
      go_enter Try.func21, Try.ntmps21
      go_wp2_with fail
      refine (HMD.out _).mono ?_
      rintro e w1 ⟨rfl, hb1⟩
      have B1 := Lib.hid hb1
      clear hb1
      go_wp2_with fail
      refine (HCM.out _).mono ?_
      rintro e w2 ⟨rfl, hb2⟩
      have B2 := Lib.hid (B1.out.trans (hb2.mono B1.out.size))
      clear hb2 B1
      go_wp2
      go_ret
      exact ⟨rfl, B2.out⟩
    · have d2 : 0 < k := (hlc.1 g2).2 hu
      have hVN : N - 1 = V := by rw [hl, hu]; simp
      clear hl hlc hu g3 HH
      go_enter Try.func21, Try.ntmps21
      go_wp2_with fail
      refine (HMD.out _).mono ?_
      rintro e w1 ⟨rfl, hb1⟩
      have B1 := Lib.hid hb1
      clear hb1
      go_wp2_with fail
      refine (HCM.out _).mono ?_
      rintro e w2 ⟨rfl, hb2⟩
      have B2 := Lib.hid (B1.out.trans (hb2.mono B1.out.size))
      clear hb2 B1
      go_wp2
      go_ret
      exact ⟨rfl, B2.out⟩

/-- A part of less than all is less than all. -/
theorem qN_lt {a w s : Int} (hw : 0 ≤ w) (hws : w < s) (hs : 0 < s) : qN a w s < a.natAbs ∨ (a = 0 ∧ qN a w s = 0) := by
  by_cases h0 : a = 0
  · right; subst h0; exact ⟨rfl, by unfold qN pSize; simp⟩
  · left
    have h1 := qr_eq a w s
    have h2 : a.natAbs * w.natAbs < a.natAbs * s.natAbs := Nat.mul_lt_mul_of_pos_left (by omega) (by omega)
    have h3 : qN a w s * s.natAbs < a.natAbs * s.natAbs := by omega
    exact Nat.lt_of_mul_lt_mul_right h3
/-- How two rests stand. -/
theorem rest_cmp {a s u v : Int} (hu : 0 ≤ u) (hv : 0 ≤ v) (hs : 0 < s) : cmpV a (u - v) (lowV a s u - lowV a s v) s = cmpI a 0 * cmpI (rstV a s u) (rstV a s v) := by
  have e1 := prod_parts (a := a) hu hs
  have e2 := prod_parts (a := a) hv hs
  have e3 : lowV a s u * s = cmpI a 0 * ((qN a u s : Int) * s) := by unfold lowV; rw [Int.mul_assoc]
  have e4 : lowV a s v * s = cmpI a 0 * ((qN a v s : Int) * s) := by unfold lowV; rw [Int.mul_assoc]
  unfold cmpV
  rw [Int.mul_sub, Int.sub_mul, e1, e2, e3, e4]
  unfold rstV
  generalize (qN a u s : Int) * s = Q at *
  generalize (qN a v s : Int) * s = Q' at *
  generalize (rN a u s : Int) = r
  generalize (rN a v s : Int) = r'
  rcases sgn_cases a with ⟨g2, g3⟩ | ⟨g2, g3⟩ | ⟨g2, g3⟩ <;> rw [g3] <;> unfold cmpI <;> (repeat' split) <;> omega

set_option maxHeartbeats 800000 in
theorem further_any (a s u v : Int) (w : World) (ha : In64 a) (hs : In64 s) (h0 : 0 < s) (hu : 0 ≤ u) (hus : u < s) (hv : 0 ≤ v) (hvs : v < s) :
    Calls Try.prog 33 #[.int .i64 a, .int .i64 s, .int .i64 u, .int .i64 (lowV a s u), .int .i64 v, .int .i64 (lowV a s v)] w fun e w' => e = .returned (.bool (decide (rstV a s v < rstV a s u))) ∧ RowKit.Below w.heap.size w w' := by
  have h1 := qN_lt (a := a) hu hus h0
  have h2 := qN_lt (a := a) hv hvs h0
  have hb1 : In64 (u - v) := by unfold In64 at *; omega
  have hb2 : In64 (lowV a s u - lowV a s v) := by
    unfold lowV
    unfold In64 at *
    rcases sgn_cases a with ⟨g2, g3⟩ | ⟨g2, g3⟩ | ⟨g2, g3⟩ <;> rw [g3] <;> omega
  have hl1 := lowV_bd hu (Int.le_of_lt hus) h0 ha
  have hl2 := lowV_bd hv (Int.le_of_lt hvs) h0 ha
  have hrc := rest_cmp (a := a) hu hv h0
  have HC := Lib.hid (fun W => rcmp_any a (u - v) (lowV a s u - lowV a s v) s W ha hb1 hb2 hs)
  have hz : a = 0 → rstV a s u = 0 ∧ rstV a s v = 0 := fun e => by
    subst e; unfold rstV rN pSize; simp
  obtain ⟨m, hm⟩ : ∃ m, m = lowV a s u := ⟨_, rfl⟩
  obtain ⟨n, hn⟩ : ∃ m, m = lowV a s v := ⟨_, rfl⟩
  obtain ⟨x, hx⟩ : ∃ m, m = rstV a s u := ⟨_, rfl⟩
  obtain ⟨y, hy⟩ : ∃ m, m = rstV a s v := ⟨_, rfl⟩
  rw [← hx, ← hy] at hz hrc
  rw [← hx, ← hy]
  rw [← hm, ← hn] at hrc HC hb2 ⊢
  rw [← hm] at hl1
  rw [← hn] at hl2
  rw [hrc] at HC
  unfold In64 at hb1 hb2 hl1 hl2
  obtain ⟨p1, p2⟩ := hb1
  obtain ⟨p3, p4⟩ := hb2
  have hk : cmpI x y = -1 ∨ cmpI x y = 0 ∨ cmpI x y = 1 := by unfold cmpI; (repeat' split) <;> omega
  have hdec : decide (y < x) = decide (cmpI x y = 1) := by
    unfold cmpI
    by_cases c : y < x
    · rw [if_neg (by omega), if_pos c]; simp [c]
    · rw [if_neg c]; split <;> simp [c]
  rw [hdec]
  obtain ⟨K, hK⟩ : ∃ K, K = cmpI x y := ⟨_, rfl⟩
  rw [← hK] at hk HC ⊢
  have hz' : a = 0 → K = 0 := fun e => by
    obtain ⟨z1, z2⟩ := hz e
    rw [hK, z1, z2]; rfl
  obtain ⟨D, hD⟩ : ∃ D, D = decide (K = 1) := ⟨_, rfl⟩
  rw [← hD]
  have HD := Lib.hid hD
  clear hm hn hx hy hz hrc hdec hK h1 h2 hD
  by_cases hneg : a < 0
  · rw [show cmpI a 0 = -1 by unfold cmpI; rw [if_pos hneg]] at HC
    go_enter Try.func33, Try.ntmps33
    go_wp2_with fail
    refine (HC.out _).mono ?_
    rintro e w1 ⟨rfl, hb1⟩
    have B1 := Lib.hid hb1
    clear hb1
    have hkk : -1 * K = -1 ∨ -1 * K = 0 ∨ -1 * K = 1 := by omega
    have hd : D = decide (0 < -(-1 * K)) := by
      rw [HD.out]
      rcases hk with h | h | h <;> rw [h] <;> rfl
    generalize -1 * K = J at hkk hd ⊢
    have HD2 := Lib.hid hd
    clear hd hk hz' HC
    go_wp2
    go_ret
    exact ⟨ret_bool (by rw [HD2.out]; first | rfl | simp), B1.out⟩
  · have e1 : cmpI a 0 * K = K := by
      rcases Int.lt_trichotomy a 0 with h | h | h
      · omega
      · rw [hz' h]; simp
      · rw [show cmpI a 0 = 1 by unfold cmpI; rw [if_neg (by omega), if_pos h], Int.one_mul]
    rw [e1] at HC
    have hnz : ¬ a < 0 := hneg
    go_enter Try.func33, Try.ntmps33
    go_wp2_with fail
    refine (HC.out _).mono ?_
    rintro e w1 ⟨rfl, hb1⟩
    have B1 := Lib.hid hb1
    clear hb1
    have hd : D = decide (0 < K) := by
      rw [HD.out]
      rcases hk with h | h | h <;> rw [h] <;> rfl
    have HD2 := Lib.hid hd
    clear hd hz' HC e1
    go_wp2
    go_ret
    exact ⟨ret_bool HD2.out.symm, B1.out⟩

set_option maxHeartbeats 800000 in
theorem rshare_bad (a p : Int) (w : World) (h : shBad p = true) :
    Calls Try.prog 13 #[.int .i64 a, .int .i64 p] w fun e w' => e = .returned (.tuple #[.int .i64 0, .int .i64 0, .int .i64 1]) ∧ w = w' := by
  unfold shBad at h
  simp at h
  by_cases h1 : p < 0
  · clear h
    go_enter Try.func13, Try.ntmps13
    go_wp2
    go_ret3
    exact ⟨rfl, rfl⟩
  · have h2 : 10000 < p := by omega
    clear h
    go_enter Try.func13, Try.ntmps13
    go_wp2
    go_ret3
    exact ⟨rfl, rfl⟩
set_option maxHeartbeats 800000 in
theorem rshare_ok (a p : Int) (w : World) (ha : In64 a) (h : shBad p = false) :
    Calls Try.prog 13 #[.int .i64 a, .int .i64 p] w fun e w' => e = .returned (.tuple #[.int .i64 (mdV a p 10000), .int .i64 (a - mdV a p 10000), .int .i64 0]) ∧ RowKit.Below w.heap.size w w' := by
  obtain ⟨b1, b2⟩ := share_md ha h
  unfold shBad at h
  simp at h
  obtain ⟨h1, h2⟩ := h
  have HM := Lib.hid (fun W => rmulDiv_any a p 10000 W ha ⟨by omega, by omega⟩ ⟨by omega, by omega⟩)
  obtain ⟨V, hV⟩ : ∃ V, mdV a p 10000 = V := ⟨_, rfl⟩
  rw [hV] at b1 b2 ⊢
  have HV := Lib.hid hV
  obtain ⟨b11, b12⟩ := b1
  obtain ⟨b21, b22⟩ := b2
  obtain ⟨a1, a2⟩ := ha
  have n1 : ¬ p < 0 := by omega
  have n2 : ¬ 10000 < p := by omega
  clear hV
  go_enter Try.func13, Try.ntmps13
  go_wp2_with fail
  refine (HM.out _).mono ?_
  rintro e w1 ⟨rfl, hb1⟩
  have HB1 := Lib.hid hb1
  clear hb1
  rw [HV.out]
  go_wp2
  go_ret3
  exact ⟨rfl, HB1.out⟩
end Go.Proofs.Yticcpcejdndplaa
