
/- The order of rests, with no program in it: the greatest one first, of the same ones the first; there is one such order; who has one more, and that these have a rest. -/
import Derived.Test.YticcpcejdndplaaSplitPlain
namespace Go.Proofs.Yticcpcejdndplaa

/-- The i-th rest comes ahead of the j-th. -/
def before (rs : List Int) (i j : Nat) : Prop := rs.getD j 0 < rs.getD i 0 ∨ (rs.getD i 0 = rs.getD j 0 ∧ i < j)
/-- All n places in that order. -/
def Firsts (rs : List Int) (n : Nat) (p : Nat → Nat) : Prop := (∀ k, k < n → p k < n) ∧ ∀ i j, i < j → j < n → before rs (p i) (p j)
theorem before_trans (rs : List Int) (i j k : Nat) (h : before rs i j) (h' : before rs j k) : before rs i k := by unfold before at *; omega

theorem before_not (rs : List Int) (i j : Nat) (h : before rs i j) (h' : before rs j i) : False := by unfold before at *; omega
theorem before_ne (rs : List Int) (i : Nat) (h : before rs i i) : False := before_not rs i i h h

theorem onto : ∀ (n : Nat) (p : Nat → Nat), (∀ k, k < n → p k < n) → (∀ i j, i < j → j < n → p i ≠ p j) → ∀ i, i < n → ∃ k, k < n ∧ p k = i := by
  intro n
  induction n with
  | zero => intro p _ _ i hi; omega
  | succ n ih =>
    intro p hp hi i hin
    have hc := hp n (by omega)
    have hinj : ∀ k, k < n → p k ≠ p n := fun k hk => hi k n hk (by omega)
    have h := ih (fun k => if p k = n then p n else p k) (fun k hk => by
      show (if p k = n then p n else p k) < n
      have h1 := hp k (by omega)
      have h2 := hinj k hk
      split <;> omega) (fun k l hkl hl => by
      show (if p k = n then p n else p k) ≠ (if p l = n then p n else p l)
      have h1 := hi k l hkl (by omega)
      have h2 := hinj k (by omega)
      have h3 := hinj l hl
      (repeat' split) <;> omega)
    by_cases c1 : p n = i
    · exact ⟨n, by omega, c1⟩
    · by_cases c2 : i < n
      · obtain ⟨k, hk, e⟩ := h i c2
        have e' : (if p k = n then p n else p k) = i := e
        split at e'
        · omega
        · exact ⟨k, by omega, e'⟩
      · obtain rfl : i = n := by omega
        obtain ⟨k, hk, e⟩ := h (p i) (by omega)
        have e' : (if p k = i then p i else p k) = p i := e
        split at e'
        · exact ⟨k, by omega, by assumption⟩
        · exact absurd e' (hinj k hk)
theorem Firsts.inj {rs : List Int} {n : Nat} {p : Nat → Nat} (h : Firsts rs n p) : ∀ i j, i < j → j < n → p i ≠ p j := fun i j h1 h2 e => by
  have := h.2 i j h1 h2
  rw [e] at this
  exact before_ne _ _ this
theorem Firsts.inj' {rs : List Int} {n : Nat} {p : Nat → Nat} (h : Firsts rs n p) {i j : Nat} (hi : i < n) (hj : j < n) (e : p i = p j) : i = j := by
  rcases Nat.lt_trichotomy i j with c | c | c
  · exact absurd e (h.inj i j c hj)
  · exact c
  · exact absurd e.symm (h.inj j i c hi)
theorem Firsts.onto {rs : List Int} {n : Nat} {p : Nat → Nat} (h : Firsts rs n p) {i : Nat} (hi : i < n) : ∃ k, k < n ∧ p k = i := Go.Proofs.Yticcpcejdndplaa.onto n p h.1 h.inj i hi
/-- There is one order alone, of rests that stand alike. -/
theorem Firsts.one {rs rs' : List Int} {n : Nat} {p p' : Nat → Nat} (h : Firsts rs n p) (h' : Firsts rs' n p') (hb : ∀ i j, i < n → j < n → (before rs i j ↔ before rs' i j)) : ∀ k, k < n → p k = p' k := by
  intro k
  induction k using Nat.strongRecOn with
  | _ k ih =>
    intro hk
    obtain ⟨m, hm, e⟩ := h.onto (h'.1 k hk)
    obtain ⟨m', hm', e'⟩ := h'.onto (h.1 k hk)
    have c1 : ¬ m < k := fun c => by
      have := ih m c hm
      rw [e] at this
      have := h'.inj' hk hm this
      omega
    have c2 : ¬ m' < k := fun c => by
      have := ih m' c hm'
      rw [e'] at this
      have := h.inj' hm' hk this
      omega
    by_cases c3 : m = k
    · subst c3; exact e
    · by_cases c4 : m' = k
      · subst c4; exact e'.symm
      · have x1 := h.2 k m (by omega) hm
        have x2 := h'.2 k m' (by omega) hm'
        rw [e] at x1
        rw [e'] at x2
        exact (before_not _ _ _ x1 ((hb _ _ (h'.1 k hk) (h.1 k hk)).2 x2)).elim

/-! ### Who has one more -/
/-- Behind k rounds: those at the first k places have one more. -/
def outs (base : List Int) (one : Int) (p : Nat → Nat) : Nat → List Int
  | 0 => base
  | k + 1 => (outs base one p k).set (p k) ((outs base one p k).getD (p k) 0 + one)
theorem outs_len (base : List Int) (one : Int) (p : Nat → Nat) (k : Nat) : (outs base one p k).length = base.length := by
  induction k with
  | zero => rfl
  | succ k ih => simp [outs, ih]
theorem getD_set (l : List Int) (i j : Nat) (x : Int) (hi : i < l.length) : (l.set i x).getD j 0 = if j = i then x else l.getD j 0 := by
  by_cases h : j = i
  · subst h; simp [List.getD, hi]
  · simp [List.getD, h, Ne.symm h]
theorem sum_set (l : List Int) (i : Nat) (x : Int) (hi : i < l.length) : (l.set i x).sum = l.sum - l.getD i 0 + x := by
  induction l generalizing i with
  | nil => simp at hi
  | cons y l ih =>
    cases i with
    | zero => simp; omega
    | succ i =>
      have := ih i (by simpa using hi)
      simp only [List.set_cons_succ, List.sum_cons, this, List.getD_cons_succ]
      omega
theorem outs_sum {base : List Int} {one : Int} {rs : List Int} {p : Nat → Nat} (h : Firsts rs base.length p) (k : Nat) (hk : k ≤ base.length) : (outs base one p k).sum = base.sum + k * one := by
  induction k with
  | zero => simp [outs]
  | succ k ih =>
    have hp := h.1 k (by omega)
    rw [outs, sum_set _ _ _ (by rw [outs_len]; exact hp), ih (by omega), Int.natCast_add, Int.add_mul]
    omega
/-- Is the i-th one among the first k? -/
def among (p : Nat → Nat) (i : Nat) : Nat → Bool
  | 0 => false
  | k + 1 => p k == i || among p i k
theorem among_iff (p : Nat → Nat) (i k : Nat) : among p i k = true ↔ ∃ j, j < k ∧ p j = i := by
  induction k with
  | zero => simp [among]
  | succ k ih =>
    simp only [among, Bool.or_eq_true, beq_iff_eq, ih]
    constructor
    · rintro (h | ⟨j, h1, h2⟩)
      · exact ⟨k, by omega, h⟩
      · exact ⟨j, by omega, h2⟩
    · rintro ⟨j, h1, h2⟩
      by_cases c : j = k
      · subst c; exact .inl h2
      · exact .inr ⟨j, by omega, h2⟩
theorem outs_at {base : List Int} {one : Int} {rs : List Int} {p : Nat → Nat} (h : Firsts rs base.length p) (k : Nat) (hk : k ≤ base.length) (i : Nat) : (outs base one p k).getD i 0 = base.getD i 0 + if among p i k = true then one else 0 := by
  induction k with
  | zero => simp [outs, among]
  | succ k ih =>
    have hp := h.1 k (by omega)
    have hi := ih (by omega)
    rw [outs, getD_set _ _ _ _ (by rw [outs_len]; exact hp)]
    by_cases c : i = p k
    · subst c
      have : among p (p k) k = false := by
        cases hc : among p (p k) k with
        | false => rfl
        | true =>
          obtain ⟨j, j1, j2⟩ := (among_iff _ _ _).1 hc
          exact absurd j2 (h.inj j k j1 (by omega))
      rw [if_pos rfl, hi, this]
      simp [among]
    · rw [if_neg c, hi]
      have : (p k == i) = false := by rw [beq_eq_false_iff_ne]; omega
      simp [among, this]
/-- The rests without those of the first k. -/
def lessRs (rs : List Int) (p : Nat → Nat) : Nat → List Int
  | 0 => rs
  | k + 1 => (lessRs rs p k).set (p k) 0
theorem lessRs_len (rs : List Int) (p : Nat → Nat) (k : Nat) : (lessRs rs p k).length = rs.length := by
  induction k with
  | zero => rfl
  | succ k ih => simp [lessRs, ih]
theorem lessRs_at {rs : List Int} {p : Nat → Nat} (h : Firsts rs rs.length p) (k : Nat) (hk : k ≤ rs.length) (i : Nat) : (lessRs rs p k).getD i 0 = if among p i k = true then 0 else rs.getD i 0 := by
  induction k with
  | zero => simp [lessRs, among]
  | succ k ih =>
    have hp := h.1 k (by omega)
    rw [lessRs, getD_set _ _ _ _ (by rw [lessRs_len]; exact hp)]
    by_cases c : i = p k
    · subst c; rw [if_pos rfl]; simp [among]
    · have : (p k == i) = false := by rw [beq_eq_false_iff_ne]; omega
      rw [if_neg c, ih (by omega)]
      simp [among, this]
theorem sum_zero (l : List Int) (h : ∀ i, i < l.length → l.getD i 0 = 0) : l.sum = 0 := by
  induction l with
  | nil => rfl
  | cons x l ih =>
    have h0 := h 0 (by simp)
    have := ih fun i hi => by have := h (i + 1) (by simpa using hi); simpa using this
    simp at h0
    simp [h0, this]
theorem lessRs_sum {rs : List Int} {p : Nat → Nat} {m : Int} (h : Firsts rs rs.length p) (hm : ∀ i, i < rs.length → rs.getD i 0 ≤ m) (k : Nat) (hk : k ≤ rs.length) : rs.sum ≤ (lessRs rs p k).sum + k * m := by
  induction k with
  | zero => simp [lessRs]
  | succ k ih =>
    have hp := h.1 k (by omega)
    have h1 := ih (by omega)
    have h2 : (lessRs rs p k).getD (p k) 0 ≤ m := by
      rw [lessRs_at h k (by omega)]
      have : among p (p k) k = false := by
        cases hc : among p (p k) k with
        | false => rfl
        | true =>
          obtain ⟨j, j1, j2⟩ := (among_iff _ _ _).1 hc
          exact absurd j2 (h.inj j k j1 (by omega))
      rw [this]
      simpa using hm (p k) hp
    rw [lessRs, sum_set _ _ _ (by rw [lessRs_len]; exact hp), Int.natCast_add, Int.add_mul]
    omega
/-- Those of the first have a rest, as long as all rests need that many. -/
theorem first_rest {rs : List Int} {p : Nat → Nat} {s : Int} {L k : Nat} (h : Firsts rs rs.length p) (h0 : 0 < s) (hr : ∀ i, i < rs.length → 0 ≤ rs.getD i 0 ∧ rs.getD i 0 < s) (hs : (L : Int) * s = rs.sum) (hk : k < L) (hkn : k < rs.length) : 0 < rs.getD (p k) 0 := by
  rcases Int.lt_or_le 0 (rs.getD (p k) 0) with c | c
  · exact c
  · exfalso
    have h1 := lessRs_sum h (m := s - 1) (fun i hi => by have := hr i hi; omega) k (by omega)
    have h2 : (lessRs rs p k).sum = 0 := sum_zero _ fun i hi => by
      rw [lessRs_len] at hi
      rw [lessRs_at h k (by omega)]
      split
      · rfl
      · rename_i hc
        obtain ⟨m, hm, e⟩ := h.onto hi
        have hmk : ¬ m < k := fun c => hc ((among_iff _ _ _).2 ⟨m, c, e⟩)
        have hi0 := hr i hi
        by_cases c1 : m = k
        · subst c1; rw [e] at c; omega
        · have := h.2 k m (by omega) hm
          rw [e] at this
          unfold before at this
          omega
    have h3 : (k : Int) * (s - 1) ≤ k * s := Int.mul_le_mul_of_nonneg_left (by omega) (by omega)
    have h4 : ((k + 1 : Nat) : Int) * s ≤ L * s := Int.mul_le_mul_of_nonneg_right (by omega) (by omega)
    rw [Int.natCast_add, Int.add_mul] at h4
    omega
end Go.Proofs.Yticcpcejdndplaa
