/- What the statements of layer 2 say, as plain arithmetic over the rounded quotient, the whole quotient, the order of products and the greatest divisor; no program in it. -/
import Derived.Test.YtpcmaakpkemmbaaWidePlain
namespace Go.Proofs.Ytpcmaakpkemmbaa

/-- The rounded quotient with its sign. -/
def qQ (a b c : Int) : Int := sgnd (qNeg a b c) (qSize a b c)
theorem mdV_eq {a b c : Int} (h0 : c ≠ 0) : mdV a b c = if fit (qQ a b c) = true then qQ a b c else 0 := if_neg h0
theorem mdE_eq {a b c : Int} (h0 : c ≠ 0) : mdE a b c = if fit (qQ a b c) = true then 0 else 2 := if_neg h0
theorem mdV_fit (a b c : Int) : fit (mdV a b c) = true := by
  unfold mdV; split
  · decide
  · exact narV_fit _ _
theorem exV_fit (a b c : Int) : fit (exV a b c) = true := by
  unfold exV; split
  · decide
  · split
    · exact narV_fit _ _
    · decide

theorem sgnd_mul {a b c : Int} (n : Nat) : sgnd (qNeg a b c) n * c = sgnd (pNeg a b) (n * c.natAbs) := by
  unfold qNeg
  have hn : ((n * c.natAbs : Nat) : Int) = (n : Int) * (c.natAbs : Int) := Int.natCast_mul _ _
  by_cases h : c < 0
  · have e : (c.natAbs : Int) = -c := by omega
    rw [decide_eq_true h]
    cases pNeg a b with
    | false => show -(n : Int) * c = ((n * c.natAbs : Nat) : Int); rw [hn, e, Int.neg_mul, Int.mul_neg]
    | true => show (n : Int) * c = -((n * c.natAbs : Nat) : Int); rw [hn, e, Int.mul_neg, Int.neg_neg]
  · have e : (c.natAbs : Int) = c := by omega
    rw [decide_eq_false h]
    cases pNeg a b with
    | false => show (n : Int) * c = ((n * c.natAbs : Nat) : Int); rw [hn, e]
    | true => show -(n : Int) * c = -((n * c.natAbs : Nat) : Int); rw [hn, e, Int.neg_mul]
theorem whole_of {a b c x : Int} (h0 : c ≠ 0) (h : a * b = x * c) : pSize a b % c.natAbs = 0 ∧ pSize a b / c.natAbs = x.natAbs ∧ qSize a b c = x.natAbs := by
  have hc : 0 < c.natAbs := by omega
  have e : pSize a b = x.natAbs * c.natAbs := by
    unfold pSize; rw [← Int.natAbs_mul, h, Int.natAbs_mul]
  have h1 : pSize a b % c.natAbs = 0 := by rw [e, Nat.mul_mod_left]
  have h2 : pSize a b / c.natAbs = x.natAbs := by rw [e, Nat.mul_div_cancel _ hc]
  refine ⟨h1, h2, ?_⟩
  unfold qSize
  rw [h1, h2, if_neg (by omega), Nat.add_zero]
theorem eq_of_mul {x y c : Int} (h0 : c ≠ 0) (h : x * c = y * c) : x = y := Int.eq_of_mul_eq_mul_right h0 h
theorem qQ_exact {a b c x : Int} (h0 : c ≠ 0) (h : a * b = x * c) : qQ a b c = x := by
  obtain ⟨_, _, h3⟩ := whole_of h0 h
  unfold qQ
  rw [h3]
  refine eq_of_mul h0 ?_
  rw [sgnd_mul _, ← h, prod_eq a b]
  have e : pSize a b = x.natAbs * c.natAbs := by
    unfold pSize; rw [← Int.natAbs_mul, h, Int.natAbs_mul]
  rw [e]
theorem md_exact {a b c x : Int} (h0 : c ≠ 0) (h : a * b = x * c) (hx : fit x = true) : mdV a b c = x ∧ mdE a b c = 0 := by
  rw [mdV_eq h0, mdE_eq h0, qQ_exact h0 h, if_pos hx, if_pos hx]; exact ⟨rfl, rfl⟩
theorem md_exact_over {a b c x : Int} (h0 : c ≠ 0) (h : a * b = x * c) (hx : fit x = false) : mdV a b c = 0 ∧ mdE a b c = 2 := by
  rw [mdV_eq h0, mdE_eq h0, qQ_exact h0 h, if_neg (by simp [hx]), if_neg (by simp [hx])]; exact ⟨rfl, rfl⟩

/-! WideOnes -/
theorem ones_one {a : Int} (ha : fit a = true) : mdV a 1 1 = a ∧ mdE a 1 1 = 0 := md_exact (by decide) rfl ha
theorem ones_zero (b : Int) : mdE b 0 0 = 3 := rfl
theorem ones_self {a b : Int} (ha : a ≠ 0) (hb : fit b = true) : mdV b a a = b ∧ mdE b a a = 0 := md_exact ha rfl hb
theorem ones_neg {a : Int} (ha : fit (-a) = true) : mdV a 1 (-1) = -a ∧ mdE a 1 (-1) = 0 := md_exact (by decide) (by omega) ha
theorem ones_least : mdE (-9223372036854775808) 1 (-1) = 2 := by decide

/-! WideSigns -/
theorem pSize_comm (a b : Int) : pSize a b = pSize b a := Nat.mul_comm _ _
theorem pNeg_comm (a b : Int) : pNeg a b = pNeg b a := by unfold pNeg; rw [Int.mul_comm]
theorem md_comm (a b c : Int) : mdV b a c = mdV a b c ∧ mdE b a c = mdE a b c := by
  unfold mdV mdE qNeg qSize
  rw [pSize_comm b a, pNeg_comm b a]
  exact ⟨rfl, rfl⟩
theorem sgnd_not (s : Bool) (n : Nat) : sgnd (!s) n = -sgnd s n := by cases s <;> simp [sgnd]
theorem sgnd_zero (s : Bool) : sgnd s 0 = 0 := by cases s <;> simp [sgnd]
theorem pNeg_neg {a b : Int} (h : pSize a b ≠ 0) : pNeg (-a) b = !pNeg a b := by
  unfold pNeg
  have h1 : a * b ≠ 0 := fun h' => h (by unfold pSize; rw [← Int.natAbs_mul, h']; rfl)
  rw [Int.neg_mul]
  by_cases h2 : a * b < 0
  · rw [decide_eq_true h2, decide_eq_false (by omega)]; rfl
  · rw [decide_eq_false h2, decide_eq_true (by omega)]; rfl
theorem qQ_neg_a {a b c : Int} (h0 : c ≠ 0) : qQ (-a) b c = -qQ a b c := by
  have e : pSize (-a) b = pSize a b := by unfold pSize; rw [Int.natAbs_neg]
  have e2 : qSize (-a) b c = qSize a b c := by unfold qSize; rw [e]
  unfold qQ
  rw [e2]
  by_cases h : pSize a b = 0
  · have h3 : qSize a b c = 0 := by
      unfold qSize; rw [h, Nat.zero_mod, Nat.zero_div, if_neg (by omega)]
    rw [h3, sgnd_zero, sgnd_zero]; rfl
  · unfold qNeg
    rw [pNeg_neg h, ← sgnd_not]
    congr 1
    cases pNeg a b <;> cases decide (c < 0) <;> rfl
theorem qQ_comm (a b c : Int) : qQ b a c = qQ a b c := by
  unfold qQ qNeg qSize; rw [pSize_comm b a, pNeg_comm b a]
theorem qQ_neg_b {a b c : Int} (h0 : c ≠ 0) : qQ a (-b) c = -qQ a b c := by
  rw [← qQ_comm, qQ_neg_a h0, qQ_comm]
theorem qQ_neg_c {a b c : Int} (h0 : c ≠ 0) : qQ a b (-c) = -qQ a b c := by
  have e2 : qSize a b (-c) = qSize a b c := by unfold qSize; rw [Int.natAbs_neg]
  unfold qQ
  rw [e2, ← sgnd_not]
  congr 1
  unfold qNeg
  by_cases h : c < 0
  · rw [decide_eq_true h, decide_eq_false (by omega)]; cases pNeg a b <;> rfl
  · rw [decide_eq_false h, decide_eq_true (by omega)]; cases pNeg a b <;> rfl
/-- What WideSigns asks of one of three. -/
def signsOk (x e z g : Int) : Bool := !((e == 0 && g == 0 && z != -x) || ((e == 0) != (g == 0) && x != -9223372036854775808 && z != -9223372036854775808))
theorem signs_ok {a b c a' b' c' : Int} (h0 : c ≠ 0) (h0' : c' ≠ 0) (h : qQ a' b' c' = -qQ a b c) : signsOk (mdV a b c) (mdE a b c) (mdV a' b' c') (mdE a' b' c') = true := by
  rw [mdV_eq h0, mdE_eq h0, mdV_eq h0', mdE_eq h0', h]
  generalize qQ a b c = q
  cases h1 : fit q <;> cases h2 : fit (-q) <;> simp only [Bool.false_eq_true, if_true, if_false]
  · decide
  · have : -q = -9223372036854775808 := by
      rw [fit_no] at h1; rw [fit_iff] at h2; omega
    rw [this]; decide
  · have : q = -9223372036854775808 := by
      rw [fit_iff] at h1; rw [fit_no] at h2; omega
    rw [this]; decide
  · simp [signsOk]
theorem in64_neg {a : Int} (h : In64 a) (h' : a ≠ -9223372036854775808) : In64 (-a) := by unfold In64 at *; omega
end Go.Proofs.Ytpcmaakpkemmbaa
