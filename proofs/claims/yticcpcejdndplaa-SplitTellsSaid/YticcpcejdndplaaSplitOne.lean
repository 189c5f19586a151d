
/- The walk of SplitOne: for any amount, any place and any number of weights it returns true. -/
import Derived.Test.YticcpcejdndplaaSplitAlive
namespace Go.Proofs.Yticcpcejdndplaa
open Go.RowKit

/-- One weight of 3 among weights of nothing. -/
def oneAt (n t : Nat) : List Int := (List.replicate n 0).set t 3
theorem oneAt_len (n t : Nat) : (oneAt n t).length = n := by simp [oneAt]
theorem oneAt_get {n t i : Nat} (ht : t < n) (hi : i < n) : (oneAt n t).getD i 0 = if i = t then 3 else 0 := by
  unfold oneAt
  rw [getD_set _ _ _ _ (by simpa using ht)]
  by_cases c : i = t
  · rw [if_pos c, if_pos c]
  · rw [if_neg c, if_neg c]; simp [List.getD, hi]
theorem oneAt_sum {n t : Nat} (ht : t < n) : (oneAt n t).sum = 3 := by
  unfold oneAt
  rw [sum_set _ _ _ (by simpa using ht)]
  simp [List.getD, ht]
theorem oneAt_mem {n t : Nat} {x : Int} (hx : x ∈ oneAt n t) : x = 3 ∨ x = 0 := by
  unfold oneAt at hx
  rcases List.mem_or_eq_of_mem_set hx with h | h
  · exact .inr (List.eq_of_mem_replicate h)
  · exact .inl h
theorem sumFrom_ok (l : List Int) : ∀ n, (∀ x ∈ l, 0 ≤ x) → 0 ≤ n → n + l.sum ≤ 9223372036854775807 → sumFrom n l = (n + l.sum, 0) := by
  induction l with
  | nil => intro n _ _ _; simp [sumFrom]
  | cons x l ih =>
    intro n hl h0 h
    have hx := hl x (List.mem_cons_self ..)
    have hs := sum_nonneg fun y hy => hl y (List.mem_cons_of_mem _ hy)
    simp only [List.sum_cons] at h
    rw [sumFrom_yes _ ((fit_iff _).2 ⟨by omega, by omega⟩), ih (n + x) (fun y hy => hl y (List.mem_cons_of_mem _ hy)) (by omega) (by omega)]
    simp; omega
/-- Weights that are not below 0, whose sum fits and is not 0, have a sum. -/
theorem tg_fine {l : List Int} (h1 : l.length ≤ 100) (h2 : ∀ x ∈ l, 0 ≤ x) (h3 : 0 < l.sum) (h4 : l.sum ≤ 9223372036854775807) : tgE l = 0 ∧ tgV l = l.sum := by
  have e := sumFrom_ok l 0 h2 (by omega) (by omega)
  have ha : (l.any fun x => decide (x < 0)) = false := by
    rw [List.any_eq_false]
    intro x hx
    have := h2 x hx
    simp; omega
  have hE : tgE l = 0 := by
    unfold tgE
    rw [if_neg (by omega), ha, e]
    simp; omega
  refine ⟨hE, ?_⟩
  unfold tgV
  rw [if_pos hE, e]
  simp
/-- That one has all. -/
theorem one_parts {a : Int} {n t : Nat} {p : Nat → Nat} (ht : t < n) (hn : n ≤ 100) : ∀ i, i < n → (partsOf a (oneAt n t) p).getD i 0 = if i = t then a else 0 := by
  have hs := oneAt_sum ht
  obtain ⟨hE, hV⟩ := tg_fine (l := oneAt n t) (by rw [oneAt_len]; exact hn) (fun x hx => by rcases oneAt_mem hx with h | h <;> omega) (by omega) (by omega)
  rw [hs] at hV
  have hq3 : qN a 3 3 = a.natAbs := by
    unfold qN pSize
    exact Nat.mul_div_cancel _ (by decide)
  have hq0 : qN a 0 3 = 0 := by unfold qN pSize; simp
  have hm : moreN a 3 (oneAt n t) = 0 := by
    have h1 : qN a 3 3 ≤ qSum a 3 (oneAt n t) := qN_sum (by
      have := oneAt_get (i := t) ht ht
      rw [if_pos rfl] at this
      rw [← this]; exact getD_mem (by rw [oneAt_len]; exact ht))
    unfold moreN
    omega
  intro i hi
  unfold partsOf
  rw [hV, hm]
  show (lows a (oneAt n t)).getD i 0 = _
  unfold lows
  rw [getD_mapI _ _ _ (by rw [oneAt_len]; exact hi), hV, oneAt_get ht hi]
  by_cases c : i = t
  · rw [if_pos c, if_pos c]; unfold lowV; rw [hq3]; exact sgn_abs a
  · rw [if_neg c, if_neg c]; unfold lowV; rw [hq0]; simp

set_option maxHeartbeats 1600000 in
theorem splitOne_walk (a t n : Int) (w : World) (ha : In64 a) (ht : InU8 t) (hn : InU8 n) :
    Calls Try.prog 8 #[.int .i64 a, .int .u8 t, .int .u8 n] w fun e w' => e = .returned (.bool true) ∧ RowKit.Below w.heap.size w w' := by
  obtain ⟨t1, t2⟩ := ht
  obtain ⟨n1, n2⟩ := hn
  obtain ⟨k, hk⟩ : ∃ k : Nat, (k : Int) = n % 50 + 1 := ⟨(n % 50 + 1).toNat, by omega⟩
  have k1 : 0 < k := by omega
  have k2 : k ≤ 50 := by omega
  obtain ⟨at', hat⟩ : ∃ at' : Nat, (at' : Int) = t % (k : Int) := ⟨(t % (k : Int)).toNat, by have := Int.emod_nonneg t (show (k : Int) ≠ 0 by omega); omega⟩
  have hatk : at' < k := by have := Int.emod_lt_of_pos t (show (0 : Int) < k by omega); omega
  have hmk := run_make_row' (P := Try.prog) 22 2 (.int .i64 0) 8 (by kernel_rfl) (by kernel_rfl) rfl .i64 .i64 k (by omega) (by omega)
  have HA := Lib.hid ha
  have HK := Lib.hid hk
  have HAT := Lib.hid hat
  clear hk hat
  go_enter Try.func8, Try.ntmps8
  go_wp2_with fail
  refine (alive_any _).mono ?_
  rintro e w1 ⟨rfl, hb1⟩
  have B1 := Lib.hid hb1
  clear hb1
  have ek : n % 50 + 1 = (k : Int) := HK.out.symm
  have et : t % (k : Int) = (at' : Int) := HAT.out.symm
  have hmc : (madeCells #[Value.int .i64 0] k)[at']? = some (.int .i64 0) := by simp [madeCells, hatk, Nat.mod_one]
  go_wp2_with fail
  have hcs : ((madeCells #[Value.int .i64 0] k).setIfInBounds at' (Value.int .i64 3)).size = k := by simp [size_madeCells]
  have hrow := World.rowIs_alloc w1 ((madeCells #[Value.int .i64 0] k).setIfInBounds at' (Value.int .i64 3)) 2 (fun i => if i = at' then .int .i64 3 else .int .i64 0) (fun i hi => by
    rw [hcs] at hi
    rw [Array.getElem?_setIfInBounds]
    by_cases c : at' = i
    · rw [if_pos c, if_pos c.symm, if_pos (by rw [size_madeCells]; omega)]
    · rw [if_neg c, if_neg (fun e => c e.symm)]
      simp [madeCells, hi, Nat.mod_one])
  rw [hcs] at hrow
  have hbel : RowKit.Below w1.heap.size w1 (w1.alloc (.cells ((madeCells #[Value.int .i64 0] k).setIfInBounds at' (Value.int .i64 3)) 2)) := (Below.refl _ _).alloc (Nat.le_refl _) _
  generalize w1.alloc (.cells ((madeCells #[Value.int .i64 0] k).setIfInBounds at' (Value.int .i64 3)) 2) = w2 at hrow hbel ⊢
  clear hcs hmc
  have B2 := Lib.hid (B1.out.trans (hbel.mono B1.out.size))
  have hR : RowIs .i64 w2 (some ⟨w1.heap.size, 0, none⟩) k (oneAt k at') := rowIs_of_cells (oneAt_len _ _) (by unfold maxLen; omega) (fun i hi => by
    rw [hrow.cell hi, oneAt_get hatk hi]
    by_cases c : i = at'
    · rw [if_pos c, if_pos c]
    · rw [if_neg c, if_neg c])
  obtain ⟨hE, hV⟩ := tg_fine (l := oneAt k at') (by rw [oneAt_len]; omega) (fun x hx => by rcases oneAt_mem hx with h | h <;> omega) (by rw [oneAt_sum hatk]; omega) (by rw [oneAt_sum hatk]; omega)
  refine (by_ok a _ k k (oneAt k at') w2 HA.out hR (fun x hx => by rcases oneAt_mem hx with h | h <;> exact ⟨by omega, by omega⟩) hE).mono ?_
  rintro e w3 ⟨pb, p, rfl, hpb, hF, hc, hb3⟩
  have HC : Hid (∀ i, i < k → w3.cell? ⟨pb, i, none⟩ = some (.int .i64 (if i = at' then a else 0))) := fun i hi => by rw [hc i hi, one_parts hatk (by omega) i hi]
  have B3 := Lib.hid (B2.out.trans (hb3.mono B2.out.size))
  have hkk : ((k : Int) != (k : Int)) = false := by simp
  clear hF hc hb3 hpb hE hV hR hrow hbel hmk B2
  go_wp2
  go_loopg [43] k (fun kx vi wr => ∃ i : Nat, vi = .int .i64 (i : Int) ∧ i ≤ k ∧ k - i ≤ kx ∧ Hid (wr = w3))
  case atStart => exact ⟨0, rfl, Nat.zero_le _, by omega, rfl⟩
  case round =>
    obtain ⟨i, rfl, hik, hkx, HW⟩ := hrel
    have hw := HW.out
    subst hw
    by_cases hlt : i < k
    · have hltz : (i : Int) < (k : Int) := by omega
      have hci := HC.out i hlt
      by_cases c : i = at'
      · rw [if_pos c] at hci
        have s1 : ((i : Int) == (at' : Int)) = true := by rw [beq_iff_eq]; omega
        have s2 : ((i : Int) != (at' : Int)) = false := by rw [bne_eq_false_iff_eq]; omega
        have s3 : (a != a) = false := by simp
        clear c
        go_wp2
        go_roundg (k - (i + 1))
        case measure => omega
        case rel => exact ⟨i + 1, by first | rfl | go_num, by omega, Nat.le_refl _, rfl⟩
      · rw [if_neg c] at hci
        have s1 : ((i : Int) == (at' : Int)) = false := by rw [beq_eq_false_iff_ne]; omega
        have s2 : ((i : Int) != (at' : Int)) = true := by rw [bne_iff_ne]; omega
        clear c
        go_wp2
        go_roundg (k - (i + 1))
        case measure => omega
        case rel => exact ⟨i + 1, by first | rfl | go_num, by omega, Nat.le_refl _, rfl⟩
    · have hltz : ¬ (i : Int) < (k : Int) := by omega
      go_wp2
      go_ret
      exact ⟨rfl, B3.out⟩
end Go.Proofs.Yticcpcejdndplaa
