
/- The walks of split.cut, split.together and split.Share: a part rounded towards 0 and its rest; the sum of weights, or why there is none; a share and what is left. -/
import Derived.Test.YticcpcejdndplaaSplitSort
import Derived.Test.YticcpcejdndplaaWideCalls
import Derived.Test.YticcpcejdndplaaCentSum
import Derived.OwnWalk
namespace Go.Proofs.Yticcpcejdndplaa
open Go.RowKit

theorem wrap_part {x y o t : Int} (h : (x - y) * o = t) (ht : -9223372036854775808 ≤ t ∧ t ≤ 9223372036854775807) : wrap64 (wrap64 (wrap64 x - wrap64 y) * o) = t := by
  have e : ∀ z : Int, ∃ k : Int, wrap64 z = z + k * 18446744073709551616 := fun z => ⟨-((z + 9223372036854775808) / 18446744073709551616), by unfold wrap64; omega⟩
  have e2 : ∀ z k : Int, wrap64 (z + k * 18446744073709551616) = wrap64 z := fun z k => by unfold wrap64; omega
  obtain ⟨k1, h1⟩ := e x
  obtain ⟨k2, h2⟩ := e y
  have h3 : wrap64 x - wrap64 y = (x - y) + (k1 - k2) * 18446744073709551616 := by rw [h1, h2, Int.sub_mul]; omega
  rw [h3, e2]
  obtain ⟨k3, h4⟩ := e (x - y)
  rw [h4, Int.add_mul, h, Int.mul_right_comm, e2]
  unfold wrap64
  omega

set_option maxHeartbeats 800000 in
theorem cut_any (a b s : Int) (w : World) (ha : In64 a) (hb : 0 ≤ b) (hbs : b ≤ s) (h0 : 0 < s) (hs : In64 s) :
    Calls Try.prog 17 #[.int .i64 a, .int .i64 b, .int .i64 s] w fun e w' => e = .returned (.tuple #[.int .i64 (lowV a s b), .int .i64 (rstV a s b)]) ∧ RowKit.Below w.heap.size w w' := by
  have hb64 : In64 b := by unfold In64 at *; omega
  obtain ⟨hv, he⟩ := md_low hb hbs h0 ha
  have hlb := lowV_bd hb hbs h0 ha
  have hMD := fun W => mulDiv_any a b s W ha hb64 hs
  have hup := qN_up_le (a := a) hb hbs h0
  have hrl := rN_lt (a := a) (w := b) h0
  have hqr := qr_eq a b s
  obtain ⟨P, hP⟩ : ∃ P, P = mdV a b s := ⟨_, rfl⟩
  obtain ⟨E, hE⟩ : ∃ E, E = mdE a b s := ⟨_, rfl⟩
  obtain ⟨o, ho⟩ : ∃ o, o = cmpI a 0 := ⟨_, rfl⟩
  have hSG := fun W => sign_any a W
  rw [← ho] at hSG
  rw [← hP, ← hE] at hMD
  rw [← hP, ← ho] at hv
  have hob : -1 ≤ o ∧ o ≤ 1 := by rw [ho]; rcases sgn_cases a with ⟨h2, h3⟩ | ⟨h2, h3⟩ | ⟨h2, h3⟩ <;> rw [h3] <;> omega
  have hab : a = o * (a.natAbs : Int) := by rw [ho]; exact (sgn_abs a).symm
  have hoo : o * o * (rN a b s : Int) = rN a b s ∧ o * o * ((upN a b s : Int) * s) = (upN a b s : Int) * s := by
    rcases sgn_cases a with ⟨h2, h3⟩ | ⟨h2, h3⟩ | ⟨h2, h3⟩
    · rw [ho, h3]; simp
    · have hz : pSize a b = 0 := by unfold pSize; rw [h2]; simp
      have hr : rN a b s = 0 := by unfold rN; rw [hz, Nat.zero_mod]
      have hu : upN a b s = 0 := by unfold upN; rw [hr, if_neg (by omega)]
      rw [hr, hu]; simp
    · rw [ho, h3]; simp
  have hrest : (a * b - P * s) * o = (rN a b s : Int) - (upN a b s : Int) * s := by
    have e1 : ((qN a b s * s.natAbs + rN a b s : Nat) : Int) = ((a.natAbs * b.natAbs : Nat) : Int) := by rw [hqr]
    simp only [Int.natCast_add, Int.natCast_mul] at e1
    rw [show ((s.natAbs : Nat) : Int) = s by omega, show ((b.natAbs : Nat) : Int) = b by omega] at e1
    have e2 : a * b = o * ((a.natAbs : Int) * b) := by
      calc a * b = (o * (a.natAbs : Int)) * b := by rw [← hab]
        _ = o * ((a.natAbs : Int) * b) := by rw [Int.mul_assoc]
    have e3 : P * s = o * ((qN a b s : Int) * s + (upN a b s : Int) * s) := by
      rw [hv, Int.natCast_add, Int.mul_assoc, Int.add_mul]
    rw [e2, e3, ← e1, ← Int.mul_sub, Int.mul_comm, ← Int.mul_assoc]
    rw [show (qN a b s : Int) * s + (rN a b s : Int) - ((qN a b s : Int) * s + (upN a b s : Int) * s) = (rN a b s : Int) - (upN a b s : Int) * s by omega, Int.mul_sub, hoo.1, hoo.2]
  unfold In64 at ha hs hlb
  have hPb : -9223372036854775808 ≤ P ∧ P ≤ 9223372036854775807 := by
    rw [hv, ho]
    rcases sgn_cases a with ⟨h2, h3⟩ | ⟨h2, h3⟩ | ⟨h2, h3⟩ <;> rw [h3] <;> omega
  have hlow : lowV a s b = o * (qN a b s : Int) := by rw [ho]; rfl
  have hrst : rstV a s b = (rN a b s : Int) := rfl
  obtain ⟨lv, hlv⟩ : ∃ x, x = lowV a s b := ⟨_, rfl⟩
  obtain ⟨rv, hrv⟩ : ∃ x, x = rstV a s b := ⟨_, rfl⟩
  rw [← hlv] at hlow hlb
  rw [← hrv] at hrst
  rw [← hlv, ← hrv]
  obtain ⟨a1, a2⟩ := ha
  obtain ⟨o1, o2⟩ := hob
  obtain ⟨P1, P2⟩ := hPb
  have HMD := Lib.hid hMD
  have HSG := Lib.hid hSG
  clear hMD hSG hP hE ho he hab hoo hup
  by_cases hu : s.natAbs ≤ 2 * rN a b s
  · have eu : upN a b s = 1 := by unfold upN; rw [if_pos hu]
    rw [eu] at hv hrest
    have hw := wrap_part hrest (by omega)
    have hneg : (rN a b s : Int) - ((1 : Nat) : Int) * s < 0 := by omega
    obtain ⟨t, ht⟩ : ∃ t, t = (rN a b s : Int) - ((1 : Nat) : Int) * s := ⟨_, rfl⟩
    rw [← ht] at hw hneg
    have h1 : P - o = lv := by rw [hv, hlow, Int.natCast_add, Int.mul_add]; omega
    have h2 : t + s = rv := by omega
    obtain ⟨h3, h4⟩ := hlb
    have h5 : 0 ≤ rv := by omega
    have h6 : rv < s := by omega
    have h7 : -9223372036854775808 ≤ t := by omega
    obtain ⟨s1, s2⟩ := hs
    clear hv hrest hu eu ht hlow hrst hlv hrv hrl hqr
    have HW := Lib.hid hw
    have H1 := Lib.hid h1
    have H2 := Lib.hid h2
    clear hw h1 h2
    go_enter Try.func17, Try.ntmps17
    go_wp2_with fail
    refine (HMD.out _).mono ?_
    rintro e w1 ⟨rfl, hb1⟩
    have HB1 := Lib.hid hb1
    clear hb1
    go_wp2_with fail
    refine (HSG.out _).mono ?_
    rintro e w2 ⟨rfl, rfl⟩
    have hw := HW.out
    have h1 := H1.out
    have h2 := H2.out
    go_wp2
    go_ret2
    exact ⟨rfl, HB1.out⟩
  · have eu : upN a b s = 0 := by unfold upN; rw [if_neg hu]
    rw [eu] at hv hrest
    have hw := wrap_part (t := rv) (hrest.trans (by rw [hrst]; simp)) (by omega)
    have h1 : P = lv := by rw [hv, hlow, Nat.add_zero]
    subst h1
    have h5 : 0 ≤ rv := by omega
    have h6 : ¬ rv < 0 := by omega
    obtain ⟨s1, s2⟩ := hs
    clear hv hrest hu eu hlow hrst hlv hrv hrl hqr
    have HW := Lib.hid hw
    clear hw
    go_enter Try.func17, Try.ntmps17
    go_wp2_with fail
    refine (HMD.out _).mono ?_
    rintro e w1 ⟨rfl, hb1⟩
    have HB1 := Lib.hid hb1
    clear hb1
    go_wp2_with fail
    refine (HSG.out _).mono ?_
    rintro e w2 ⟨rfl, rfl⟩
    have hw := HW.out
    go_wp2
    go_ret2
    exact ⟨by rw [← HW.out]; rfl, HB1.out⟩

/-- The sum of weights by which an amount can be split, and why there is none. -/
def tgE (l : List Int) : Int := if 100 < l.length then 4 else if (l.any fun x => decide (x < 0)) = true then 1 else if (sumFrom 0 l).2 ≠ 0 then (sumFrom 0 l).2 else if (sumFrom 0 l).1 = 0 then 3 else 0
def tgV (l : List Int) : Int := if tgE l = 0 then (sumFrom 0 l).1 else 0
theorem sumFrom_err (l : List Int) : ∀ n, (sumFrom n l).2 = 0 ∨ ((sumFrom n l).2 = 2 ∧ (sumFrom n l).1 = 0) := by
  induction l with
  | nil => intro n; exact .inl rfl
  | cons x l ih =>
    intro n
    cases hf : fit (n + x) with
    | true => rw [sumFrom_yes _ hf]; exact ih _
    | false => rw [sumFrom_no _ hf]; exact .inr ⟨rfl, rfl⟩
theorem sumFrom_sum (l : List Int) : ∀ n, (sumFrom n l).2 = 0 → (sumFrom n l).1 = n + l.sum := by
  induction l with
  | nil => intro n _; simp [sumFrom]
  | cons x l ih =>
    intro n h
    cases hf : fit (n + x) with
    | true => rw [sumFrom_yes _ hf] at h ⊢; rw [ih _ h]; simp; omega
    | false => rw [sumFrom_no _ hf] at h; simp at h
/-- Where there is a sum: what weights are. -/
theorem tg_ok {l : List Int} (h : tgE l = 0) : l.length ≤ 100 ∧ (∀ x ∈ l, 0 ≤ x) ∧ l.sum = tgV l ∧ 0 < tgV l ∧ In64 (tgV l) := by
  have hv : tgV l = (sumFrom 0 l).1 := by unfold tgV; rw [if_pos h]
  have hfit : In64 (sumFrom 0 l).1 := in64_of_fit (fit_sumFrom l 0 (by decide))
  rw [hv]
  unfold tgE at h
  split at h
  · omega
  · split at h
    · omega
    · split at h
      · rename_i h2; exact absurd h h2
      · split at h
        · omega
        · rename_i h1 h2 h3 h4
          have hn : ∀ x ∈ l, 0 ≤ x := fun x hx => by
            rcases Int.lt_or_le x 0 with c | c
            · exact absurd (List.any_eq_true.2 ⟨x, hx, by simp [c]⟩) h2
            · exact c
          have hs := sumFrom_sum l 0 (by simpa using h3)
          have h0 := sum_nonneg hn
          exact ⟨by omega, hn, by omega, by omega, hfit⟩

set_option maxHeartbeats 800000 in
theorem together_any (a : Option Addr) (n c : Nat) (l : List Int) (w : World) (h : RowIs .i64 w a n l) (hz : ∀ x ∈ l, In64 x) :
    Calls Try.prog 16 #[.slice a n c] w fun e w' => e = .returned (.tuple #[.int .i64 (tgV l), .int .i64 (tgE l)]) ∧ w = w' := by
  have hm := h.max
  have hlen := h.len
  unfold maxLen at hm
  by_cases hbig : 100 < n
  · have e1 : tgE l = 4 := by unfold tgE; rw [if_pos (by omega)]
    have e2 : tgV l = 0 := by unfold tgV; rw [e1]; rfl
    rw [e1, e2]
    have hbz : (100 : Int) < (n : Int) := by omega
    clear e1 e2 h hlen hz
    go_enter Try.func16, Try.ntmps16
    go_wp2
    go_ret2
    exact ⟨rfl, rfl⟩
  · have hbz : ¬ (100 : Int) < (n : Int) := by omega
    have HL := Lib.hid hlen
    have H := Lib.hid h
    have HZ := Lib.hid hz
    have SUM := Lib.hid (sum_any a n c l w h hz)
    obtain ⟨V, hV⟩ : ∃ V, V = tgV l := ⟨_, rfl⟩
    obtain ⟨E, hE⟩ : ∃ E, E = tgE l := ⟨_, rfl⟩
    rw [← hV, ← hE]
    have HV := Lib.hid hV
    have HE := Lib.hid hE
    clear h hz hlen hV hE
    go_enter Try.func16, Try.ntmps16
    go_wp2
    go_loop [13] (fun i => ∃ k : Nat, k ≤ n ∧ i = .int .i64 k ∧ Hid (∀ j, j < k → 0 ≤ l.getD j 0)) (fun i => n - (intOf i).toNat)
    case atStart => exact ⟨0, Nat.zero_le _, rfl, fun j hj => absurd hj (Nat.not_lt_zero _)⟩
    case round =>
      obtain ⟨k, hk, rfl, HP⟩ := hrel
      by_cases hlt : k < n
      · obtain ⟨b, o, rfl, hc⟩ := H.out.cell k hlt
        generalize hy : l.getD k 0 = y at *
        have HY := Lib.hid hy
        clear hy
        by_cases hneg : y < 0
        · go_wp2
          go_ret2
          have hany : (l.any fun x => decide (x < 0)) = true := List.any_eq_true.2 ⟨y, by rw [← HY.out, getD_at l k (by rw [HL.out]; exact hlt)]; exact List.getElem_mem _, by simp [hneg]⟩
          have e1 : tgE l = 1 := by unfold tgE; rw [if_neg (by rw [HL.out]; exact hbig), if_pos hany]
          have e2 : tgV l = 0 := by unfold tgV; rw [e1]; rfl
          rw [HV.out, HE.out, e1, e2]
          exact ⟨rfl, rfl⟩
        · have hp : ¬ (y < 0) := hneg
          go_wp2
          go_round
          case rel => exact ⟨k + 1, by omega, by go_num, fun j hj => by
            by_cases cj : j = k
            · subst cj; rw [HY.out]; omega
            · exact HP.out j (by omega)⟩
          case measure => simp [intOf]; omega
      · have hany : (l.any fun x => decide (x < 0)) = false := by
          rw [List.any_eq_false]
          intro x hx
          obtain ⟨j, hj, rfl⟩ := List.getElem_of_mem hx
          have := HP.out j (by rw [HL.out] at hj; omega)
          rw [getD_at l j hj] at this
          simp; omega
        have HANY := Lib.hid hany
        clear hany
        have hE2 : E = if (sumFrom 0 l).2 ≠ 0 then (sumFrom 0 l).2 else if (sumFrom 0 l).1 = 0 then 3 else 0 := by
          rw [HE.out]; unfold tgE; rw [if_neg (by rw [HL.out]; exact hbig), HANY.out]; simp
        have hV2 : V = if E = 0 then (sumFrom 0 l).1 else 0 := by rw [HV.out, HE.out]; rfl
        have SUM2 := SUM.out
        have hsb := in64_of_fit (fit_sumFrom l 0 (by decide))
        have herr := sumFrom_err l 0
        obtain ⟨sv, hsv⟩ : ∃ sv, sv = (sumFrom 0 l).1 := ⟨_, rfl⟩
        obtain ⟨se, hse⟩ : ∃ se, se = (sumFrom 0 l).2 := ⟨_, rfl⟩
        rw [← hsv] at hsb
        rw [← hsv, ← hse] at hE2 SUM2 herr
        rw [← hsv] at hV2
        have S3 := Lib.hid SUM2
        obtain ⟨sb1, sb2⟩ := hsb
        clear SUM SUM2 hsv hse
        rcases herr with h2 | ⟨h2, h3⟩
        · subst h2
          by_cases h4 : sv = 0
          · subst h4
            have : E = 3 := by rw [hE2]; simp
            subst this
            have : V = 0 := by rw [hV2]; rfl
            subst this
            clear hE2 hV2
            go_wp2_with fail
            refine S3.out.mono ?_
            rintro e w1 ⟨rfl, rfl⟩
            go_wp2
            go_ret2
            exact ⟨rfl, rfl⟩
          · have : E = 0 := by rw [hE2]; simp [h4]
            subst this
            have : V = sv := by rw [hV2]; rfl
            subst this
            have h5 : (V == 0) = false := by rw [beq_eq_false_iff_ne]; exact h4
            clear hE2 hV2
            go_wp2_with fail
            refine S3.out.mono ?_
            rintro e w1 ⟨rfl, rfl⟩
            go_wp2
            go_ret2
            exact ⟨rfl, rfl⟩
        · subst h2
          have : E = 2 := by rw [hE2]; simp
          subst this
          have : V = 0 := by rw [hV2]; rfl
          subst this
          clear hE2 hV2
          go_wp2_with fail
          refine S3.out.mono ?_
          rintro e w1 ⟨rfl, rfl⟩
          go_wp2
          go_ret2
          exact ⟨rfl, rfl⟩
/-- A share, what is left of it, and the error. -/
def shBad (p : Int) : Bool := decide (p < 0) || decide (10000 < p)
theorem share_md {a p : Int} (ha : In64 a) (h : shBad p = false) : In64 (mdV a p 10000) ∧ In64 (a - mdV a p 10000) := by
  unfold shBad at h
  simp at h
  obtain ⟨hv, -⟩ := md_low (a := a) (w := p) (s := 10000) h.1 h.2 (by omega) ha
  have hu := qN_up_le (a := a) (w := p) (s := 10000) h.1 h.2 (by omega)
  rw [hv]
  unfold In64 at *
  rcases sgn_cases a with ⟨h2, h3⟩ | ⟨h2, h3⟩ | ⟨h2, h3⟩ <;> rw [h3] <;> omega

set_option maxHeartbeats 800000 in
theorem share_bad (a p : Int) (w : World) (h : shBad p = true) :
    Calls Try.prog 12 #[.int .i64 a, .int .i64 p] w fun e w' => e = .returned (.tuple #[.int .i64 0, .int .i64 0, .int .i64 1]) ∧ w = w' := by
  unfold shBad at h
  simp at h
  by_cases h1 : p < 0
  · clear h
    go_enter Try.func12, Try.ntmps12
    go_wp2
    go_ret3
    exact ⟨rfl, rfl⟩
  · have h2 : 10000 < p := by omega
    clear h
    go_enter Try.func12, Try.ntmps12
    go_wp2
    go_ret3
    exact ⟨rfl, rfl⟩
set_option maxHeartbeats 800000 in
theorem share_ok (a p : Int) (w : World) (ha : In64 a) (h : shBad p = false) :
    Calls Try.prog 12 #[.int .i64 a, .int .i64 p] w fun e w' => e = .returned (.tuple #[.int .i64 (mdV a p 10000), .int .i64 (a - mdV a p 10000), .int .i64 0]) ∧ RowKit.Below w.heap.size w w' := by
  obtain ⟨b1, b2⟩ := share_md ha h
  unfold shBad at h
  simp at h
  obtain ⟨h1, h2⟩ := h
  have HM := Lib.hid (fun W => mulDiv_any a p 10000 W ha ⟨by omega, by omega⟩ ⟨by omega, by omega⟩)
  obtain ⟨V, hV⟩ : ∃ V, mdV a p 10000 = V := ⟨_, rfl⟩
  rw [hV] at b1 b2 ⊢
  have HV := Lib.hid hV
  obtain ⟨b11, b12⟩ := b1
  obtain ⟨b21, b22⟩ := b2
  obtain ⟨a1, a2⟩ := ha
  have n1 : ¬ p < 0 := by omega
  have n2 : ¬ 10000 < p := by omega
  clear hV
  go_enter Try.func12, Try.ntmps12
  go_wp2_with fail
  refine (HM.out _).mono ?_
  rintro e w1 ⟨rfl, hb1⟩
  have HB1 := Lib.hid hb1
  clear hb1
  rw [HV.out]
  go_wp2
  go_ret3
  exact ⟨rfl, HB1.out⟩
end Go.Proofs.Yticcpcejdndplaa
