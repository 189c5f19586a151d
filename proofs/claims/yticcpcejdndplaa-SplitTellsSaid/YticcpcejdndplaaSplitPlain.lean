
/- Plain arithmetic for layer 4 (split), with no program in it: parts rounded towards 0 and their rests, what is left, the order of rests, and who has one more. -/
import Derived.Test.YticcpcejdndplaaWidePlain
namespace Go.Proofs.Yticcpcejdndplaa

/-- A part without its sign, and its rest: a times w by s. -/
def qN (a w s : Int) : Nat := pSize a w / s.natAbs
def rN (a w s : Int) : Nat := pSize a w % s.natAbs
def lowV (a s w : Int) : Int := cmpI a 0 * (qN a w s : Int)
def rstV (a s w : Int) : Int := (rN a w s : Int)

theorem sgn_abs (a : Int) : cmpI a 0 * (a.natAbs : Int) = a := by unfold cmpI; (repeat' split) <;> omega
theorem sgn_cases (a : Int) : (a < 0 ∧ cmpI a 0 = -1) ∨ (a = 0 ∧ cmpI a 0 = 0) ∨ (0 < a ∧ cmpI a 0 = 1) := by unfold cmpI; (repeat' split) <;> omega
theorem qr_eq (a w s : Int) : qN a w s * s.natAbs + rN a w s = a.natAbs * w.natAbs := by unfold qN rN pSize; exact Nat.div_add_mod' _ _
theorem rN_lt {a w s : Int} (hs : 0 < s) : rN a w s < s.natAbs := Nat.mod_lt _ (by omega)
theorem qN_le {a w s : Int} (hw : 0 ≤ w) (hws : w ≤ s) (hs : 0 < s) : qN a w s ≤ a.natAbs := by
  unfold qN pSize
  refine Nat.div_le_of_le_mul ?_
  rw [Nat.mul_comm]
  exact Nat.mul_le_mul_right _ (by omega)
/-- Is it rounded away from 0? -/
def upN (a w s : Int) : Nat := if s.natAbs ≤ 2 * rN a w s then 1 else 0
theorem qN_up_le {a w s : Int} (hw : 0 ≤ w) (hws : w ≤ s) (hs : 0 < s) : qN a w s + upN a w s ≤ a.natAbs := by
  have h1 := qN_le (a := a) hw hws hs
  have h2 := qr_eq a w s
  unfold upN
  split
  · rename_i h
    rcases Nat.lt_or_ge (qN a w s) a.natAbs with h3 | h3
    · omega
    · exfalso
      have e : qN a w s = a.natAbs := by omega
      have h4 : a.natAbs * w.natAbs ≤ a.natAbs * s.natAbs := Nat.mul_le_mul_left _ (by omega)
      rw [e] at h2
      omega
  · omega
theorem md_low {a w s : Int} (hw : 0 ≤ w) (hws : w ≤ s) (hs : 0 < s) (ha : In64 a) : mdV a w s = cmpI a 0 * ((qN a w s + upN a w s : Nat) : Int) ∧ mdE a w s = 0 := by
  have h1 := qN_up_le (a := a) hw hws hs
  have e1 : qSize a w s = qN a w s + upN a w s := rfl
  have hs0 : ¬ s = 0 := by omega
  unfold mdV mdE
  rw [if_neg hs0, if_neg hs0, e1]
  obtain ⟨n, hn⟩ : ∃ n, qN a w s + upN a w s = n := ⟨_, rfl⟩
  have hz : a * w = 0 → n = 0 := fun h => by
    have hp : pSize a w = 0 := by unfold pSize; rw [← Int.natAbs_mul, h]; rfl
    have hq : qN a w s = 0 := by unfold qN; rw [hp, Nat.zero_div]
    have hr : rN a w s = 0 := by unfold rN; rw [hp, Nat.zero_mod]
    have hu : upN a w s = 0 := by unfold upN; rw [hr, if_neg (by omega)]
    omega
  rw [hn] at h1 ⊢
  have hsg : sgnd (qNeg a w s) n = cmpI a 0 * (n : Int) := by
    have hsn : decide (s < 0) = false := decide_eq_false (by omega)
    unfold qNeg pNeg sgnd
    rw [hsn]
    rcases sgn_cases a with ⟨h2, h3⟩ | ⟨h2, h3⟩ | ⟨h2, h3⟩
    · rw [h3]
      by_cases hw0 : w = 0
      · rw [hz (by rw [hw0, Int.mul_zero])]; simp
      · have : a * w < 0 := Int.mul_neg_of_neg_of_pos h2 (by omega)
        simp [this]
    · rw [hz (by rw [h2, Int.zero_mul])]; simp
    · rw [h3]
      have : ¬ a * w < 0 := by have := Int.mul_nonneg (Int.le_of_lt h2) hw; omega
      simp [this]
  have hf : fit (cmpI a 0 * (n : Int)) = true := by
    rw [fit_iff]
    unfold In64 at ha
    rcases sgn_cases a with ⟨h2, h3⟩ | ⟨h2, h3⟩ | ⟨h2, h3⟩ <;> rw [h3] <;> omega
  unfold narV narE
  rw [hsg, if_pos hf, if_pos hf]
  exact ⟨rfl, rfl⟩
theorem lowV_bd {a w s : Int} (hw : 0 ≤ w) (hws : w ≤ s) (hs : 0 < s) (ha : In64 a) : In64 (lowV a s w) := by
  have h1 := qN_le (a := a) hw hws hs
  unfold In64 at *
  unfold lowV
  rcases sgn_cases a with ⟨h2, h3⟩ | ⟨h2, h3⟩ | ⟨h2, h3⟩ <;> rw [h3] <;> omega

/-! ### All of them -/
def qSum (a s : Int) (l : List Int) : Nat := (l.map fun w => qN a w s).sum
def rSum (a s : Int) (l : List Int) : Nat := (l.map fun w => rN a w s).sum
theorem qr_sum (a s : Int) (l : List Int) (hl : ∀ x ∈ l, 0 ≤ x) : (qSum a s l : Int) * s.natAbs + rSum a s l = a.natAbs * l.sum := by
  induction l with
  | nil => simp [qSum, rSum]
  | cons x l ih =>
    have h := ih fun y hy => hl y (List.mem_cons_of_mem _ hy)
    have hx := hl x (List.mem_cons_self ..)
    have e := qr_eq a x s
    have e' : (qN a x s : Int) * s.natAbs + rN a x s = a.natAbs * x := by
      have : ((qN a x s * s.natAbs + rN a x s : Nat) : Int) = ((a.natAbs * x.natAbs : Nat) : Int) := by rw [e]
      simp only [Int.natCast_add, Int.natCast_mul] at this
      rw [this, show ((x.natAbs : Nat) : Int) = x by omega]
    simp only [qSum, rSum, List.map_cons, List.sum_cons] at h ⊢
    simp only [Int.natCast_add, Int.add_mul, Int.mul_add]
    omega
theorem low_sum (a s : Int) (l : List Int) : (l.map (lowV a s)).sum = cmpI a 0 * (qSum a s l : Int) := by
  induction l with
  | nil => simp [qSum]
  | cons x l ih =>
    simp only [List.map_cons, List.sum_cons, ih]
    unfold lowV qSum
    simp only [List.map_cons, List.sum_cons, Int.natCast_add, Int.mul_add]
theorem sum_nonneg {l : List Int} (hl : ∀ x ∈ l, 0 ≤ x) : 0 ≤ l.sum := by
  induction l with
  | nil => simp
  | cons x l ih =>
    have h := ih fun y hy => hl y (List.mem_cons_of_mem _ hy)
    have hx := hl x (List.mem_cons_self ..)
    simp; omega
theorem le_sum {l : List Int} (hl : ∀ x ∈ l, 0 ≤ x) {x : Int} (hx : x ∈ l) : x ≤ l.sum := by
  induction l with
  | nil => cases hx
  | cons y l ih =>
    have h0 := sum_nonneg fun z hz => hl z (List.mem_cons_of_mem _ hz)
    have hy := hl y (List.mem_cons_self ..)
    rcases List.mem_cons.1 hx with rfl | hx
    · simp; omega
    · have := ih (fun z hz => hl z (List.mem_cons_of_mem _ hz)) hx
      simp; omega
theorem take_sum {l : List Int} (hl : ∀ x ∈ l, 0 ≤ x) (k : Nat) : (l.take k).sum ≤ l.sum := by
  have h := List.sum_append (l₁ := l.take k) (l₂ := l.drop k)
  rw [List.take_append_drop] at h
  have := sum_nonneg (l := l.drop k) fun x hx => hl x (List.mem_of_mem_drop hx)
  omega
theorem qSum_le {a s : Int} {l : List Int} (hl : ∀ x ∈ l, 0 ≤ x) (hs : l.sum = s) (h0 : 0 < s) (k : Nat) : qSum a s (l.take k) ≤ a.natAbs := by
  have h := qr_sum a s (l.take k) fun x hx => hl x (List.mem_of_mem_take hx)
  have h1 := take_sum hl k
  have h2 : (a.natAbs : Int) * (l.take k).sum ≤ a.natAbs * s := Int.mul_le_mul_of_nonneg_left (by omega) (by omega)
  rw [show ((s.natAbs : Nat) : Int) = s by omega] at h
  have h3 : (qSum a s (l.take k) : Int) * s ≤ a.natAbs * s := by omega
  have := Int.le_of_mul_le_mul_right h3 h0
  omega
/-- What is left behind the first k parts. -/
def leftV (a s : Int) (l : List Int) (k : Nat) : Int := a - ((l.take k).map (lowV a s)).sum
theorem leftV_eq {a s : Int} {l : List Int} (hl : ∀ x ∈ l, 0 ≤ x) (hs : l.sum = s) (h0 : 0 < s) (k : Nat) : leftV a s l k = cmpI a 0 * ((a.natAbs - qSum a s (l.take k) : Nat) : Int) := by
  have h := qSum_le (a := a) hl hs h0 k
  unfold leftV
  rw [low_sum]
  rcases sgn_cases a with ⟨h2, h3⟩ | ⟨h2, h3⟩ | ⟨h2, h3⟩ <;> rw [h3] <;> omega
theorem leftV_bd {a s : Int} {l : List Int} (hl : ∀ x ∈ l, 0 ≤ x) (hs : l.sum = s) (h0 : 0 < s) (k : Nat) (ha : In64 a) : In64 (leftV a s l k) := by
  rw [leftV_eq hl hs h0]
  unfold In64 at *
  rcases sgn_cases a with ⟨h2, h3⟩ | ⟨h2, h3⟩ | ⟨h2, h3⟩ <;> rw [h3] <;> omega
theorem leftV_zero (a s : Int) (l : List Int) : leftV a s l 0 = a := by simp [leftV]
theorem leftV_step (a s : Int) (l : List Int) (k : Nat) (hk : k < l.length) : leftV a s l (k + 1) = leftV a s l k - lowV a s (l.getD k 0) := by
  unfold leftV
  rw [List.take_succ_eq_append_getElem hk, List.map_append, List.sum_append]
  simp [List.getD, hk]
  omega
/-- How many parts have one more. -/
def moreN (a s : Int) (l : List Int) : Nat := a.natAbs - qSum a s l
theorem more_left {a s : Int} {l : List Int} (hl : ∀ x ∈ l, 0 ≤ x) (hs : l.sum = s) (h0 : 0 < s) : leftV a s l l.length = cmpI a 0 * (moreN a s l : Int) := by
  rw [leftV_eq hl hs h0, List.take_length]; rfl
theorem more_rests {a s : Int} {l : List Int} (hl : ∀ x ∈ l, 0 ≤ x) (hs : l.sum = s) (h0 : 0 < s) : (moreN a s l : Int) * s = rSum a s l := by
  have h := qr_sum a s l hl
  have h1 := qSum_le (a := a) hl hs h0 l.length
  rw [List.take_length] at h1
  unfold moreN
  rw [show ((s.natAbs : Nat) : Int) = s by omega, hs] at h
  rw [show ((a.natAbs - qSum a s l : Nat) : Int) = (a.natAbs : Int) - qSum a s l by omega, Int.sub_mul]
  omega
theorem rSum_le (a s : Int) (h0 : 0 < s) (l : List Int) : (rSum a s l : Int) + l.length ≤ l.length * s := by
  induction l with
  | nil => simp [rSum]
  | cons x l ih =>
    have := rN_lt (a := a) (w := x) h0
    simp only [rSum, List.map_cons, List.sum_cons, List.length_cons] at ih ⊢
    simp only [Int.natCast_add, Int.add_mul]
    omega
theorem more_lt {a s : Int} {l : List Int} (hl : ∀ x ∈ l, 0 ≤ x) (hs : l.sum = s) (h0 : 0 < s) : moreN a s l < l.length := by
  have h := more_rests (a := a) hl hs h0
  have h1 := rSum_le a s h0 l
  have hp : 0 < l.length := by
    rcases l with _ | ⟨x, l⟩
    · simp at hs; omega
    · simp
  have h2 : (moreN a s l : Int) * s < l.length * s := by omega
  have := Int.lt_of_mul_lt_mul_right h2 (by omega)
  omega
end Go.Proofs.Yticcpcejdndplaa
