/- The walk of the law CentPrints: for any two amounts of 64 bits it returns true, and memory that was there stays. -/
import Derived.Test.YthakilmimcgbiaaDoorCentAlive
import Derived.Test.YthakilmimcgbiaaDoorCentRefPrint
namespace Go.Proofs.YthakilmimcgbiaaDoor
open Go.RowKit

/-- So many digits are counted, and m is what is left of u. -/
def Counted (u m k : Nat) : Prop := (k = 0 ∧ m = u) ∨ (0 < k ∧ k + (if m = 0 then 0 else Lib.nDigits m) = Lib.nDigits u)
theorem Counted.le {u m k : Nat} (h : Counted u m k) : k ≤ Lib.nDigits u := by
  rcases h with ⟨h, _⟩ | ⟨_, h⟩ <;> omega
theorem Counted.stop {u k : Nat} (h : Counted u 0 k) (hk : k ≠ 0) : Lib.nDigits u = k := by
  rcases h with ⟨h, _⟩ | ⟨_, h⟩
  · exact absurd h hk
  · rw [if_pos rfl] at h; omega
theorem Counted.step0 {u : Nat} (h : Counted u 0 0) : Counted u 0 1 := by
  rcases h with ⟨_, h⟩ | ⟨h, _⟩
  · subst h; exact .inr ⟨by omega, by rw [if_pos rfl, Lib.nDigits_small (by omega)]⟩
  · omega
theorem Counted.step {u m k : Nat} (h : Counted u m k) (hm : m ≠ 0) : Counted u (m / 10) (k + 1) := by
  have e : k + Lib.nDigits m = Lib.nDigits u := by
    rcases h with ⟨rfl, rfl⟩ | ⟨_, h⟩
    · omega
    · rwa [if_neg hm] at h
  refine .inr ⟨by omega, ?_⟩
  by_cases h10 : m < 10
  · rw [if_pos (by omega), ← e, Lib.nDigits_small h10]
  · rw [if_neg (by omega), ← e, Lib.nDigits_big h10]; omega

set_option maxHeartbeats 1000000 in
theorem prints_pos (u : Nat) (b : Int) (sa sb : List UInt8) (w : World) (hu : u ≤ 9223372036854775807) (hb : In64 b) (hsa : Lib.itoa ((u : Int)) = sa) (hsb : Lib.itoa b = sb) (hne : sa ≠ []) (hlen : sa.length = Lib.nDigits u) (hL : Laid w)
    (heq : (sa == sb) = (((u : Int)) == b)) :
    Calls Tryd.prog 8 #[.int .i64 ((u : Int)), .int .i64 b] w fun e w' => e = .returned (.bool true) ∧ Below w.heap.size w w' := by
  have h20 : Lib.nDigits u ≤ 20 := Lib.nDigits_le20 u (by omega)
  have HL := Lib.hid hL
  have HB := Lib.hid hb
  have HSA := Lib.hid hsa
  have HSB := Lib.hid hsb
  have HLEN := Lib.hid hlen
  have HA : Hid (In64 ((u : Int))) := Lib.hid ⟨by omega, by omega⟩
  have hemp : (sa == []) = false := by rw [beq_eq_false_iff_ne]; exact hne
  have hemp2 : sa.isEmpty = false := by cases sa with | nil => exact absurd rfl hne | cons => rfl
  clear hL hb hsa hsb hlen
  cases hab : (((u : Int)) == b) with
  | true =>
    rw [hab] at heq
    have hsab : sa = sb := by simpa using heq
    have hab' : ((u : Int)) = b := by simpa using hab
    subst hsab
    subst hab'
    clear heq hab
    go_enter Tryd.func8, Tryd.ntmps8
    go_wp2_with fail
    refine (alive_any _ HL.out).mono ?_
    rintro e w1 ⟨rfl, hb1⟩
    have HB1 := Lib.hid hb1
    have HL1 := Lib.hid (HL.out.below hb1)
    clear hb1
    go_wp2_with fail
    refine (print_any _ _ HA.out HL1.out).mono ?_
    rintro e w2 ⟨rfl, hb2⟩
    have HB2 := Lib.hid (HB1.out.trans (hb2.mono HB1.out.size))
    have HL2 := Lib.hid (HL1.out.below hb2)
    clear hb2
    rw [HSA.out]
    go_wp2_with fail
    refine (print_any _ _ HB.out HL2.out).mono ?_
    rintro e w3 ⟨rfl, hb3⟩
    have HB3 := Lib.hid (HB2.out.trans (hb3.mono HB2.out.size))
    clear hb3
    rw [HSB.out]
    go_wp2
    go_loop [7, 8] (fun d n => ∃ m k : Nat, n = .int .i64 ((m : Int)) ∧ d = .int .i64 (k : Int) ∧ m ≤ u ∧ Counted u m k) (fun d n => 2 * (intOf n).natAbs + (1 - (intOf d).toNat))
    case atStart => exact ⟨u, 0, rfl, rfl, Nat.le_refl _, .inl ⟨rfl, rfl⟩⟩
    case round =>
      obtain ⟨m, k, rfl, rfl, hm, hcnt⟩ := hrel
      have hk := hcnt.le
      have HC := Lib.hid hcnt
      clear hcnt
      by_cases hm0 : m = 0
      · subst hm0
        by_cases hk0 : k = 0
        · subst hk0
          go_wp2
          go_round
          case rel => exact ⟨0, 1, by go_num, by go_num, by omega, HC.out.step0⟩
          case measure => simp [intOf]
        · have hk1 : ((k : Int) == 0) = false := by rw [beq_eq_false_iff_ne]; omega
          have hfin : sa.length = k := by rw [HLEN.out, HC.out.stop hk0]
          clear hk0
          go_wp2
          all_goals
            go_ret
            refine ⟨ret_bool ?_, HB3.out⟩
            simp
      · have hm1 : (((m : Int)) != 0) = true := by rw [bne_iff_ne]; omega
        go_wp2
        go_round
        case rel => exact ⟨m / 10, k + 1, by go_num, by go_num, by omega, HC.out.step hm0⟩
        case measure => simp [intOf]; omega
  | false =>
    rw [hab] at heq
    go_enter Tryd.func8, Tryd.ntmps8
    go_wp2_with fail
    refine (alive_any _ HL.out).mono ?_
    rintro e w1 ⟨rfl, hb1⟩
    have HB1 := Lib.hid hb1
    have HL1 := Lib.hid (HL.out.below hb1)
    clear hb1
    go_wp2_with fail
    refine (print_any _ _ HA.out HL1.out).mono ?_
    rintro e w2 ⟨rfl, hb2⟩
    have HB2 := Lib.hid (HB1.out.trans (hb2.mono HB1.out.size))
    have HL2 := Lib.hid (HL1.out.below hb2)
    clear hb2
    rw [HSA.out]
    go_wp2_with fail
    refine (print_any _ _ HB.out HL2.out).mono ?_
    rintro e w3 ⟨rfl, hb3⟩
    have HB3 := Lib.hid (HB2.out.trans (hb3.mono HB2.out.size))
    clear hb3
    rw [HSB.out]
    go_wp2
    go_loop [7, 8] (fun d n => ∃ m k : Nat, n = .int .i64 ((m : Int)) ∧ d = .int .i64 (k : Int) ∧ m ≤ u ∧ Counted u m k) (fun d n => 2 * (intOf n).natAbs + (1 - (intOf d).toNat))
    case atStart => exact ⟨u, 0, rfl, rfl, Nat.le_refl _, .inl ⟨rfl, rfl⟩⟩
    case round =>
      obtain ⟨m, k, rfl, rfl, hm, hcnt⟩ := hrel
      have hk := hcnt.le
      have HC := Lib.hid hcnt
      clear hcnt
      by_cases hm0 : m = 0
      · subst hm0
        by_cases hk0 : k = 0
        · subst hk0
          go_wp2
          go_round
          case rel => exact ⟨0, 1, by go_num, by go_num, by omega, HC.out.step0⟩
          case measure => simp [intOf]
        · have hk1 : ((k : Int) == 0) = false := by rw [beq_eq_false_iff_ne]; omega
          have hfin : sa.length = k := by rw [HLEN.out, HC.out.stop hk0]
          clear hk0
          go_wp2
          all_goals
            go_ret
            refine ⟨ret_bool ?_, HB3.out⟩
            simp
      · have hm1 : (((m : Int)) != 0) = true := by rw [bne_iff_ne]; omega
        go_wp2
        go_round
        case rel => exact ⟨m / 10, k + 1, by go_num, by go_num, by omega, HC.out.step hm0⟩
        case measure => simp [intOf]; omega

set_option maxHeartbeats 1000000 in
theorem prints_neg (u : Nat) (b : Int) (sa sb : List UInt8) (w : World) (hu : 0 < u ∧ u ≤ 9223372036854775808) (hb : In64 b) (hsa : Lib.itoa (-(u : Int)) = sa) (hsb : Lib.itoa b = sb) (hne : sa ≠ []) (hlen : sa.length = Lib.nDigits u + 1) (hL : Laid w)
    (heq : (sa == sb) = ((-(u : Int)) == b)) :
    Calls Tryd.prog 8 #[.int .i64 (-(u : Int)), .int .i64 b] w fun e w' => e = .returned (.bool true) ∧ Below w.heap.size w w' := by
  have h20 : Lib.nDigits u ≤ 20 := Lib.nDigits_le20 u (by omega)
  have HL := Lib.hid hL
  have HB := Lib.hid hb
  have HSA := Lib.hid hsa
  have HSB := Lib.hid hsb
  have HLEN := Lib.hid hlen
  have HA : Hid (In64 (-(u : Int))) := Lib.hid ⟨by omega, by omega⟩
  have hemp : (sa == []) = false := by rw [beq_eq_false_iff_ne]; exact hne
  have hemp2 : sa.isEmpty = false := by cases sa with | nil => exact absurd rfl hne | cons => rfl
  clear hL hb hsa hsb hlen
  cases hab : ((-(u : Int)) == b) with
  | true =>
    rw [hab] at heq
    have hsab : sa = sb := by simpa using heq
    have hab' : (-(u : Int)) = b := by simpa using hab
    subst hsab
    subst hab'
    clear heq hab
    go_enter Tryd.func8, Tryd.ntmps8
    go_wp2_with fail
    refine (alive_any _ HL.out).mono ?_
    rintro e w1 ⟨rfl, hb1⟩
    have HB1 := Lib.hid hb1
    have HL1 := Lib.hid (HL.out.below hb1)
    clear hb1
    go_wp2_with fail
    refine (print_any _ _ HA.out HL1.out).mono ?_
    rintro e w2 ⟨rfl, hb2⟩
    have HB2 := Lib.hid (HB1.out.trans (hb2.mono HB1.out.size))
    have HL2 := Lib.hid (HL1.out.below hb2)
    clear hb2
    rw [HSA.out]
    go_wp2_with fail
    refine (print_any _ _ HB.out HL2.out).mono ?_
    rintro e w3 ⟨rfl, hb3⟩
    have HB3 := Lib.hid (HB2.out.trans (hb3.mono HB2.out.size))
    clear hb3
    rw [HSB.out]
    go_wp2
    go_loop [7, 8] (fun d n => ∃ m k : Nat, n = .int .i64 (-(m : Int)) ∧ d = .int .i64 (k : Int) ∧ m ≤ u ∧ Counted u m k) (fun d n => 2 * (intOf n).natAbs + (1 - (intOf d).toNat))
    case atStart => exact ⟨u, 0, rfl, rfl, Nat.le_refl _, .inl ⟨rfl, rfl⟩⟩
    case round =>
      obtain ⟨m, k, rfl, rfl, hm, hcnt⟩ := hrel
      have hk := hcnt.le
      have HC := Lib.hid hcnt
      clear hcnt
      by_cases hm0 : m = 0
      · subst hm0
        by_cases hk0 : k = 0
        · subst hk0
          go_wp2
          go_round
          case rel => exact ⟨0, 1, by go_num, by go_num, by omega, HC.out.step0⟩
          case measure => simp [intOf]
        · have hk1 : ((k : Int) == 0) = false := by rw [beq_eq_false_iff_ne]; omega
          have hfin : sa.length = k + 1 := by rw [HLEN.out, HC.out.stop hk0]
          clear hk0
          go_wp2
          all_goals
            go_ret
            refine ⟨ret_bool ?_, HB3.out⟩
            simp
      · have hm1 : ((-(m : Int)) != 0) = true := by rw [bne_iff_ne]; omega
        go_wp2
        go_round
        case rel => exact ⟨m / 10, k + 1, by go_num, by go_num, by omega, HC.out.step hm0⟩
        case measure => simp [intOf]; omega
  | false =>
    rw [hab] at heq
    go_enter Tryd.func8, Tryd.ntmps8
    go_wp2_with fail
    refine (alive_any _ HL.out).mono ?_
    rintro e w1 ⟨rfl, hb1⟩
    have HB1 := Lib.hid hb1
    have HL1 := Lib.hid (HL.out.below hb1)
    clear hb1
    go_wp2_with fail
    refine (print_any _ _ HA.out HL1.out).mono ?_
    rintro e w2 ⟨rfl, hb2⟩
    have HB2 := Lib.hid (HB1.out.trans (hb2.mono HB1.out.size))
    have HL2 := Lib.hid (HL1.out.below hb2)
    clear hb2
    rw [HSA.out]
    go_wp2_with fail
    refine (print_any _ _ HB.out HL2.out).mono ?_
    rintro e w3 ⟨rfl, hb3⟩
    have HB3 := Lib.hid (HB2.out.trans (hb3.mono HB2.out.size))
    clear hb3
    rw [HSB.out]
    go_wp2
    go_loop [7, 8] (fun d n => ∃ m k : Nat, n = .int .i64 (-(m : Int)) ∧ d = .int .i64 (k : Int) ∧ m ≤ u ∧ Counted u m k) (fun d n => 2 * (intOf n).natAbs + (1 - (intOf d).toNat))
    case atStart => exact ⟨u, 0, rfl, rfl, Nat.le_refl _, .inl ⟨rfl, rfl⟩⟩
    case round =>
      obtain ⟨m, k, rfl, rfl, hm, hcnt⟩ := hrel
      have hk := hcnt.le
      have HC := Lib.hid hcnt
      clear hcnt
      by_cases hm0 : m = 0
      · subst hm0
        by_cases hk0 : k = 0
        · subst hk0
          go_wp2
          go_round
          case rel => exact ⟨0, 1, by go_num, by go_num, by omega, HC.out.step0⟩
          case measure => simp [intOf]
        · have hk1 : ((k : Int) == 0) = false := by rw [beq_eq_false_iff_ne]; omega
          have hfin : sa.length = k + 1 := by rw [HLEN.out, HC.out.stop hk0]
          clear hk0
          go_wp2
          all_goals
            go_ret
            refine ⟨ret_bool ?_, HB3.out⟩
            simp
      · have hm1 : ((-(m : Int)) != 0) = true := by rw [bne_iff_ne]; omega
        go_wp2
        go_round
        case rel => exact ⟨m / 10, k + 1, by go_num, by go_num, by omega, HC.out.step hm0⟩
        case measure => simp [intOf]; omega

theorem centPrints_walk (a b : Int) (w : World) (ha : In64 a) (hb : In64 b) (hL : Laid w) :
    Calls Tryd.prog 8 #[.int .i64 a, .int .i64 b] w fun e w' => e = .returned (.bool true) ∧ Below w.heap.size w w' := by
  have heq : (Lib.itoa a == Lib.itoa b) = (a == b) := by
    rw [Bool.eq_iff_iff, beq_iff_eq, beq_iff_eq]
    exact ⟨itoa_inj, fun h => by rw [h]⟩
  have hne := itoa_ne_nil a
  have hlen := itoa_length a
  obtain ⟨a1, a2⟩ := ha
  by_cases h : a < 0
  · rw [if_pos h] at hlen
    have e : a = -((a.natAbs : Nat) : Int) := by omega
    generalize a.natAbs = u at *
    subst e
    exact prints_neg u b _ _ w ⟨by omega, by omega⟩ hb rfl rfl hne hlen hL heq
  · rw [if_neg h] at hlen
    have e : a = ((a.natAbs : Nat) : Int) := by omega
    generalize a.natAbs = u at *
    subst e
    exact prints_pos u b _ _ w (by omega) hb rfl rfl hne hlen hL heq
end Go.Proofs.YthakilmimcgbiaaDoor
