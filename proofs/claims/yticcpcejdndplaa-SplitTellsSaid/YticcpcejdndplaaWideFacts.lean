
/- What the statements of layer 2 say, as plain arithmetic over the rounded quotient, the whole quotient, the order of products and the greatest divisor; no program in it. -/
import Derived.Test.YticcpcejdndplaaWidePlain
namespace Go.Proofs.Yticcpcejdndplaa

/-- The rounded quotient with its sign. -/
def qQ (a b c : Int) : Int := sgnd (qNeg a b c) (qSize a b c)
theorem mdV_eq {a b c : Int} (h0 : c ≠ 0) : mdV a b c = if fit (qQ a b c) = true then qQ a b c else 0 := if_neg h0
theorem mdE_eq {a b c : Int} (h0 : c ≠ 0) : mdE a b c = if fit (qQ a b c) = true then 0 else 2 := if_neg h0
theorem mdV_fit (a b c : Int) : fit (mdV a b c) = true := by
  unfold mdV; split
  · decide
  · exact narV_fit _ _
theorem exV_fit (a b c : Int) : fit (exV a b c) = true := by
  unfold exV; split
  · decide
  · split
    · exact narV_fit _ _
    · decide

theorem sgnd_mul {a b c : Int} (n : Nat) : sgnd (qNeg a b c) n * c = sgnd (pNeg a b) (n * c.natAbs) := by
  unfold qNeg
  have hn : ((n * c.natAbs : Nat) : Int) = (n : Int) * (c.natAbs : Int) := Int.natCast_mul _ _
  by_cases h : c < 0
  · have e : (c.natAbs : Int) = -c := by omega
    rw [decide_eq_true h]
    cases pNeg a b with
    | false => show -(n : Int) * c = ((n * c.natAbs : Nat) : Int); rw [hn, e, Int.neg_mul, Int.mul_neg]
    | true => show (n : Int) * c = -((n * c.natAbs : Nat) : Int); rw [hn, e, Int.mul_neg, Int.neg_neg]
  · have e : (c.natAbs : Int) = c := by omega
    rw [decide_eq_false h]
    cases pNeg a b with
    | false => show (n : Int) * c = ((n * c.natAbs : Nat) : Int); rw [hn, e]
    | true => show -(n : Int) * c = -((n * c.natAbs : Nat) : Int); rw [hn, e, Int.neg_mul]
theorem whole_of {a b c x : Int} (h0 : c ≠ 0) (h : a * b = x * c) : pSize a b % c.natAbs = 0 ∧ pSize a b / c.natAbs = x.natAbs ∧ qSize a b c = x.natAbs := by
  have hc : 0 < c.natAbs := by omega
  have e : pSize a b = x.natAbs * c.natAbs := by
    unfold pSize; rw [← Int.natAbs_mul, h, Int.natAbs_mul]
  have h1 : pSize a b % c.natAbs = 0 := by rw [e, Nat.mul_mod_left]
  have h2 : pSize a b / c.natAbs = x.natAbs := by rw [e, Nat.mul_div_cancel _ hc]
  refine ⟨h1, h2, ?_⟩
  unfold qSize
  rw [h1, h2, if_neg (by omega), Nat.add_zero]
theorem eq_of_mul {x y c : Int} (h0 : c ≠ 0) (h : x * c = y * c) : x = y := Int.eq_of_mul_eq_mul_right h0 h
theorem qQ_exact {a b c x : Int} (h0 : c ≠ 0) (h : a * b = x * c) : qQ a b c = x := by
  obtain ⟨_, _, h3⟩ := whole_of h0 h
  unfold qQ
  rw [h3]
  refine eq_of_mul h0 ?_
  rw [sgnd_mul _, ← h, prod_eq a b]
  have e : pSize a b = x.natAbs * c.natAbs := by
    unfold pSize; rw [← Int.natAbs_mul, h, Int.natAbs_mul]
  rw [e]
theorem md_exact {a b c x : Int} (h0 : c ≠ 0) (h : a * b = x * c) (hx : fit x = true) : mdV a b c = x ∧ mdE a b c = 0 := by
  rw [mdV_eq h0, mdE_eq h0, qQ_exact h0 h, if_pos hx, if_pos hx]; exact ⟨rfl, rfl⟩
theorem md_exact_over {a b c x : Int} (h0 : c ≠ 0) (h : a * b = x * c) (hx : fit x = false) : mdV a b c = 0 ∧ mdE a b c = 2 := by
  rw [mdV_eq h0, mdE_eq h0, qQ_exact h0 h, if_neg (by simp [hx]), if_neg (by simp [hx])]; exact ⟨rfl, rfl⟩

/-! WideOnes -/
theorem ones_one {a : Int} (ha : fit a = true) : mdV a 1 1 = a ∧ mdE a 1 1 = 0 := md_exact (by decide) rfl ha
theorem ones_zero (b : Int) : mdE b 0 0 = 3 := rfl
theorem ones_self {a b : Int} (ha : a ≠ 0) (hb : fit b = true) : mdV b a a = b ∧ mdE b a a = 0 := md_exact ha rfl hb
theorem ones_neg {a : Int} (ha : fit (-a) = true) : mdV a 1 (-1) = -a ∧ mdE a 1 (-1) = 0 := md_exact (by decide) (by omega) ha
theorem ones_least : mdE (-9223372036854775808) 1 (-1) = 2 := by decide

/-! WideSigns -/
theorem pSize_comm (a b : Int) : pSize a b = pSize b a := Nat.mul_comm _ _
theorem pNeg_comm (a b : Int) : pNeg a b = pNeg b a := by unfold pNeg; rw [Int.mul_comm]
theorem md_comm (a b c : Int) : mdV b a c = mdV a b c ∧ mdE b a c = mdE a b c := by
  unfold mdV mdE qNeg qSize
  rw [pSize_comm b a, pNeg_comm b a]
  exact ⟨rfl, rfl⟩
theorem sgnd_not (s : Bool) (n : Nat) : sgnd (!s) n = -sgnd s n := by cases s <;> simp [sgnd]
theorem sgnd_zero (s : Bool) : sgnd s 0 = 0 := by cases s <;> simp [sgnd]
theorem pNeg_neg {a b : Int} (h : pSize a b ≠ 0) : pNeg (-a) b = !pNeg a b := by
  unfold pNeg
  have h1 : a * b ≠ 0 := fun h' => h (by unfold pSize; rw [← Int.natAbs_mul, h']; rfl)
  rw [Int.neg_mul]
  by_cases h2 : a * b < 0
  · rw [decide_eq_true h2, decide_eq_false (by omega)]; rfl
  · rw [decide_eq_false h2, decide_eq_true (by omega)]; rfl
theorem qQ_neg_a {a b c : Int} (h0 : c ≠ 0) : qQ (-a) b c = -qQ a b c := by
  have e : pSize (-a) b = pSize a b := by unfold pSize; rw [Int.natAbs_neg]
  have e2 : qSize (-a) b c = qSize a b c := by unfold qSize; rw [e]
  unfold qQ
  rw [e2]
  by_cases h : pSize a b = 0
  · have h3 : qSize a b c = 0 := by
      unfold qSize; rw [h, Nat.zero_mod, Nat.zero_div, if_neg (by omega)]
    rw [h3, sgnd_zero, sgnd_zero]; rfl
  · unfold qNeg
    rw [pNeg_neg h, ← sgnd_not]
    congr 1
    cases pNeg a b <;> cases decide (c < 0) <;> rfl
theorem qQ_comm (a b c : Int) : qQ b a c = qQ a b c := by
  unfold qQ qNeg qSize; rw [pSize_comm b a, pNeg_comm b a]
theorem qQ_neg_b {a b c : Int} (h0 : c ≠ 0) : qQ a (-b) c = -qQ a b c := by
  rw [← qQ_comm, qQ_neg_a h0, qQ_comm]
theorem qQ_neg_c {a b c : Int} (h0 : c ≠ 0) : qQ a b (-c) = -qQ a b c := by
  have e2 : qSize a b (-c) = qSize a b c := by unfold qSize; rw [Int.natAbs_neg]
  unfold qQ
  rw [e2, ← sgnd_not]
  congr 1
  unfold qNeg
  by_cases h : c < 0
  · rw [decide_eq_true h, decide_eq_false (by omega)]; cases pNeg a b <;> rfl
  · rw [decide_eq_false h, decide_eq_true (by omega)]; cases pNeg a b <;> rfl
/-- What a rounded quotient and its other sign are told as. -/
theorem signs_cases (q : Int) :
    ∃ X E Z G : Int, (if fit q = true then q else 0) = X ∧ (if fit q = true then 0 else 2) = E ∧ (if fit (-q) = true then -q else 0) = Z ∧ (if fit (-q) = true then 0 else 2) = G ∧
      ((E = 0 ∧ G = 0 ∧ Z = -X ∧ -9223372036854775807 ≤ X ∧ X ≤ 9223372036854775807) ∨ (E = 2 ∧ G = 2 ∧ X = 0 ∧ Z = 0) ∨ (E = 0 ∧ G = 2 ∧ X = -9223372036854775808 ∧ Z = 0) ∨ (E = 2 ∧ G = 0 ∧ X = 0 ∧ Z = -9223372036854775808)) := by
  refine ⟨_, _, _, _, rfl, rfl, rfl, rfl, ?_⟩
  cases h1 : fit q <;> cases h2 : fit (-q) <;> simp only [Bool.false_eq_true, if_true, if_false]
  · exact .inr (.inl ⟨trivial, trivial, trivial, trivial⟩)
  · refine .inr (.inr (.inr ⟨trivial, trivial, trivial, ?_⟩))
    rw [fit_no] at h1; rw [fit_iff] at h2; omega
  · refine .inr (.inr (.inl ⟨trivial, trivial, ?_, trivial⟩))
    rw [fit_iff] at h1; rw [fit_no] at h2; omega
  · refine .inl ⟨trivial, trivial, trivial, ?_⟩
    rw [fit_iff] at h1 h2; omega
theorem signs_all {a b c : Int} (h0 : c ≠ 0) :
    ∃ X E Z G : Int, (mdV a b c = X ∧ mdE a b c = E) ∧ (mdV b a c = X ∧ mdE b a c = E) ∧ (mdV (-a) b c = Z ∧ mdE (-a) b c = G) ∧ (mdV a (-b) c = Z ∧ mdE a (-b) c = G) ∧ (mdV a b (-c) = Z ∧ mdE a b (-c) = G) ∧
      ((E = 0 ∧ G = 0 ∧ Z = -X ∧ -9223372036854775807 ≤ X ∧ X ≤ 9223372036854775807) ∨ (E = 2 ∧ G = 2 ∧ X = 0 ∧ Z = 0) ∨ (E = 0 ∧ G = 2 ∧ X = -9223372036854775808 ∧ Z = 0) ∨ (E = 2 ∧ G = 0 ∧ X = 0 ∧ Z = -9223372036854775808)) := by
  obtain ⟨X, E, Z, G, h1, h2, h3, h4, h5⟩ := signs_cases (qQ a b c)
  have h0' : -c ≠ 0 := by omega
  refine ⟨X, E, Z, G, ⟨?_, ?_⟩, ⟨?_, ?_⟩, ⟨?_, ?_⟩, ⟨?_, ?_⟩, ⟨?_, ?_⟩, h5⟩
  · rw [mdV_eq h0]; exact h1
  · rw [mdE_eq h0]; exact h2
  · rw [mdV_eq h0, qQ_comm]; exact h1
  · rw [mdE_eq h0, qQ_comm]; exact h2
  · rw [mdV_eq h0, qQ_neg_a h0]; exact h3
  · rw [mdE_eq h0, qQ_neg_a h0]; exact h4
  · rw [mdV_eq h0, qQ_neg_b h0]; exact h3
  · rw [mdE_eq h0, qQ_neg_b h0]; exact h4
  · rw [mdV_eq h0', qQ_neg_c h0]; exact h3
  · rw [mdE_eq h0', qQ_neg_c h0]; exact h4
theorem in64_neg {a : Int} (h : In64 a) (h' : a ≠ -9223372036854775808) : In64 (-a) := by unfold In64 at *; omega

/-! WideNear -/
theorem near_size {N C q : Nat} (hC : 0 < C) (hq : q = N / C + if C ≤ 2 * (N % C) then 1 else 0) : (N ≤ q * C ∧ 2 * (q * C - N) ≤ C) ∨ (q * C < N ∧ 2 * (N - q * C) < C) := by
  have h1 := Nat.div_add_mod' N C
  have h2 := Nat.mod_lt N hC
  by_cases h : C ≤ 2 * (N % C)
  · rw [if_pos h] at hq
    left
    rw [hq, Nat.add_mul, Nat.one_mul]; omega
  · rw [if_neg h, Nat.add_zero] at hq
    rw [hq]
    by_cases h3 : N % C = 0
    · left; omega
    · right; omega
/-- The rounded quotient, times what it is by, is no farther than half of that from the product; where it is just half, it is farther from 0. -/
theorem near_fact {a b c : Int} (h0 : c ≠ 0) :
    2 * (a * b - qQ a b c * c).natAbs ≤ c.natAbs ∧ (2 * (a * b - qQ a b c * c).natAbs < c.natAbs ∨ (0 ≤ a * b ∧ a * b < qQ a b c * c) ∨ (a * b < 0 ∧ qQ a b c * c < a * b)) := by
  have hC : 0 < c.natAbs := by omega
  have h1 := near_size (N := pSize a b) hC (q := qSize a b c) rfl
  have e1 : qQ a b c * c = sgnd (pNeg a b) (qSize a b c * c.natAbs) := sgnd_mul _
  have e2 := prod_eq a b
  have e3 : a * b < 0 ↔ pNeg a b = true := by unfold pNeg; simp
  rw [e1]
  generalize qSize a b c * c.natAbs = m at *
  cases hs : pNeg a b with
  | false =>
    rw [hs] at e2 e3
    have f1 : a * b = (pSize a b : Int) := e2
    have f2 : sgnd false m = (m : Int) := rfl
    rw [f2, f1]
    omega
  | true =>
    rw [hs] at e2 e3
    have f1 : a * b = -(pSize a b : Int) := e2
    have f2 : sgnd true m = -(m : Int) := rfl
    have f3 : a * b < 0 := e3.2 rfl
    rw [f2, f1]
    omega
theorem near_bd {a b c : Int} (hp : (a * b).natAbs ≤ 4611686018427387904) : fit (qQ a b c) = true := by
  have h1 : qSize a b c ≤ pSize a b + 1 := by
    have := Nat.div_le_self (pSize a b) c.natAbs
    unfold qSize; split <;> omega
  have h2 : pSize a b = (a * b).natAbs := (Int.natAbs_mul a b).symm
  rw [fit_iff]
  unfold qQ
  cases qNeg a b c with
  | false => show -9223372036854775808 ≤ ((qSize a b c : Nat) : Int) ∧ ((qSize a b c : Nat) : Int) ≤ 9223372036854775807; omega
  | true => show -9223372036854775808 ≤ -((qSize a b c : Nat) : Int) ∧ -((qSize a b c : Nat) : Int) ≤ 9223372036854775807; omega
/-! WideGcd -/
theorem gcd_facts {a b : Int} {G : Nat} (hG : Nat.gcd a.natAbs b.natAbs = G) (h0 : 0 < G) :
    a.tmod G = 0 ∧ b.tmod G = 0 ∧ Nat.gcd (a.tdiv G).natAbs (b.tdiv G).natAbs = 1 := by
  have d1 : G ∣ a.natAbs := hG ▸ Nat.gcd_dvd_left _ _
  have d2 : G ∣ b.natAbs := hG ▸ Nat.gcd_dvd_right _ _
  refine ⟨Int.tmod_eq_zero_of_dvd (Int.ofNat_dvd_left.2 d1), Int.tmod_eq_zero_of_dvd (Int.ofNat_dvd_left.2 d2), ?_⟩
  have t1 : (a.tdiv G).natAbs = a.natAbs / G := Int.natAbs_tdiv a G
  have t2 : (b.tdiv G).natAbs = b.natAbs / G := Int.natAbs_tdiv b G
  rw [t1, t2, Nat.gcd_div d1 d2, hG, Nat.div_self h0]
theorem gcd_small {a b : Int} {G : Nat} (hG : Nat.gcd a.natAbs b.natAbs = G) (h0 : 0 < G) (ha : In64 a) (hb : In64 b) (ha' : a ≠ -9223372036854775808) (hb' : b ≠ -9223372036854775808) : G ≤ 9223372036854775807 := by
  unfold In64 at ha hb
  by_cases h : a = 0
  · have : 0 < b.natAbs := by
      rcases Nat.eq_zero_or_pos b.natAbs with h' | h'
      · rw [h', h] at hG; simp at hG; omega
      · exact h'
    have := Nat.le_of_dvd this (hG ▸ Nat.gcd_dvd_right a.natAbs b.natAbs : G ∣ b.natAbs)
    omega
  · have := Nat.le_of_dvd (by omega) (hG ▸ Nat.gcd_dvd_left a.natAbs b.natAbs : G ∣ a.natAbs)
    omega
theorem quot_in {a : Int} (G : Nat) (ha : In64 a) (ha' : a ≠ -9223372036854775808) : In64 (a.tdiv G) := by
  have h : (a.tdiv G).natAbs = a.natAbs / G := Int.natAbs_tdiv a G
  have h2 := Nat.div_le_self a.natAbs G
  unfold In64 at *
  omega
theorem gcd_zero {a b : Int} (h : Nat.gcd a.natAbs b.natAbs = 0) : a = 0 ∧ b = 0 := by
  obtain ⟨h1, h2⟩ := Nat.gcd_eq_zero_iff.1 h
  omega

/-! WideExact -/
theorem cmpV_zero {a b c d : Int} : cmpV a b c d = 0 ↔ a * b = c * d := by
  unfold cmpV
  by_cases h1 : a * b < c * d
  · rw [if_pos h1]; constructor <;> intro h <;> omega
  · rw [if_neg h1]
    by_cases h2 : c * d < a * b
    · rw [if_pos h2]; constructor <;> intro h <;> omega
    · rw [if_neg h2]; constructor <;> intro h <;> omega
theorem ex_cases (a b c : Int) :
    (exB a b c = true ∧ exE a b c = 0 ∧ mdE a b c = 0 ∧ exV a b c = mdV a b c ∧ cmpV (mdV a b c) c a b = 0) ∨
    (exB a b c = false ∧ exE a b c ≠ 0 ∧ mdE a b c = exE a b c ∧ exV a b c = 0) ∨
    (exB a b c = false ∧ exE a b c = 0 ∧ exV a b c = 0 ∧ mdE a b c ≠ 0) ∨
    (exB a b c = false ∧ exE a b c = 0 ∧ exV a b c = 0 ∧ mdE a b c = 0 ∧ cmpV (mdV a b c) c a b ≠ 0) := by
  by_cases h0 : c = 0
  · subst h0
    exact .inr (.inl ⟨rfl, (by decide : (3 : Int) ≠ 0), rfl, rfl⟩)
  · have e1 : exB a b c = _ := if_neg h0
    have e2 : exE a b c = _ := if_neg h0
    have e3 : exV a b c = _ := if_neg h0
    rw [e1, e2, e3, mdE_eq h0, mdV_eq h0]
    cases hw : wholeQ a b c with
    | true =>
      have hr : pSize a b % c.natAbs = 0 := by unfold wholeQ at hw; simpa using hw
      have hq : qSize a b c = pSize a b / c.natAbs := by unfold qSize; rw [hr, if_neg (by omega), Nat.add_zero]
      have hQ : qQ a b c = sgnd (qNeg a b c) (pSize a b / c.natAbs) := by unfold qQ; rw [hq]
      simp only [if_true]
      rw [← hQ]
      unfold narE narV
      rw [← hQ]
      cases hf : fit (qQ a b c) with
      | true =>
        refine .inl ⟨rfl, rfl, rfl, rfl, ?_⟩
        rw [if_pos rfl, cmpV_zero, hQ, sgnd_mul, prod_eq a b]
        have := Nat.div_add_mod' (pSize a b) c.natAbs
        rw [hr, Nat.add_zero] at this
        rw [this]
      | false => exact .inr (.inl ⟨rfl, by decide, rfl, rfl⟩)
    | false =>
      simp only [Bool.false_eq_true, if_false]
      cases hf : fit (qQ a b c) with
      | true =>
        refine .inr (.inr (.inr ⟨trivial, trivial, trivial, rfl, ?_⟩))
        simp only [if_true]
        rw [Ne, cmpV_zero]
        intro h
        have := (whole_of h0 h.symm).1
        unfold wholeQ at hw
        rw [this] at hw
        cases hw
      | false => exact .inr (.inr (.inl ⟨trivial, trivial, trivial, by decide⟩))

/-! WideOrder -/
theorem order_back (a b c d : Int) : cmpV a b c d = -cmpV c d a b := by
  unfold cmpV
  rcases Int.lt_trichotomy (a * b) (c * d) with h | h | h
  · rw [if_pos h, if_neg (by omega), if_pos h]
  · rw [h]; simp
  · rw [if_neg (by omega), if_pos h, if_pos h]; rfl
theorem order_same (a b : Int) : cmpV a b b a = 0 := cmpV_zero.2 (Int.mul_comm _ _)
theorem order_turn (a b c d : Int) : cmpV b a d c = cmpV a b c d := by
  unfold cmpV; rw [Int.mul_comm b a, Int.mul_comm d c]
theorem order_more {a b c d : Int} (hc : 0 ≤ c) : cmpV a b c (d + 1) ≤ cmpV a b c d := by
  have e : c * (d + 1) = c * d + c := by rw [Int.mul_add, Int.mul_one]
  unfold cmpV
  rw [e]
  split
  · split
    · omega
    · split <;> omega
  · split
    · rw [if_neg (by omega), if_pos (by omega)]; omega
    · rw [if_neg (by omega)]; split <;> omega
theorem cmpV_bd (a b c d : Int) : -1 ≤ cmpV a b c d ∧ cmpV a b c d ≤ 1 := by
  unfold cmpV; split
  · omega
  · split <;> omega

theorem prod32 {a b : Int} (a1 : -2147483648 ≤ a) (a2 : a ≤ 2147483647) (b1 : -2147483648 ≤ b) (b2 : b ≤ 2147483647) : (a * b).natAbs ≤ 4611686018427387904 := by
  rw [Int.natAbs_mul]
  exact Nat.mul_le_mul (show a.natAbs ≤ 2147483648 by omega) (show b.natAbs ≤ 2147483648 by omega)
end Go.Proofs.Yticcpcejdndplaa
