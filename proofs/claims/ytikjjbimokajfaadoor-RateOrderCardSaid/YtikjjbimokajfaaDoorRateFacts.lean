/- What the statements of layer 3 say, as plain arithmetic: rates stand as amounts at them do; chains of shares and of their parts; no program in it. -/
import Derived.Test.YtikjjbimokajfaaDoorRatePlain
namespace Go.Proofs.YtikjjbimokajfaaDoor

/-! ### Amounts at rates -/
theorem round_mono {M N C D p q : Nat} (hC : 0 < C) (hD : 0 < D) (hp : p = M / C + if C ≤ 2 * (M % C) then 1 else 0) (hq : q = N / D + if D ≤ 2 * (N % D) then 1 else 0) (h : M * D ≤ N * C) : p ≤ q := by
  have h1 := near_size hC hp
  have h2 := near_size hD hq
  have a1 : 2 * (p * C) ≤ 2 * M + C := by rcases h1 with h1 | h1 <;> omega
  have a2 : 2 * N < 2 * (q * D) + D := by rcases h2 with h2 | h2 <;> omega
  refine Nat.le_of_not_lt fun hlt => ?_
  have b1 : (2 * (p * C)) * D ≤ (2 * M + C) * D := Nat.mul_le_mul_right _ a1
  have b2 : (2 * N) * C < (2 * (q * D) + D) * C := Nat.mul_lt_mul_of_pos_right a2 hC
  have b3 : (q + 1) * (C * D) ≤ p * (C * D) := Nat.mul_le_mul_right _ hlt
  have e1 : (2 * (p * C)) * D = 2 * (p * (C * D)) := by rw [Nat.mul_assoc, Nat.mul_assoc]
  have e2 : (2 * M + C) * D = 2 * (M * D) + C * D := by rw [Nat.add_mul, Nat.mul_assoc]
  have e3 : (2 * N) * C = 2 * (N * C) := Nat.mul_assoc ..
  have e4 : (2 * (q * D) + D) * C = 2 * (q * (C * D)) + C * D := by rw [Nat.add_mul, Nat.mul_assoc, Nat.mul_assoc, Nat.mul_comm D C]
  have e5 : (q + 1) * (C * D) = q * (C * D) + C * D := by rw [Nat.add_mul, Nat.one_mul]
  rw [e1, e2] at b1
  rw [e3, e4] at b2
  rw [e5] at b3
  generalize p * (C * D) = P at *
  generalize q * (C * D) = Q at *
  generalize C * D = X at *
  generalize M * D = Y at *
  generalize N * C = Z at *
  omega
theorem qSize_mono {n xn xd yn yd : Int} (hxd : 1 ≤ xd) (hyd : 1 ≤ yd) (hxn : 1 ≤ xn) (h : xn * yd ≤ yn * xd) : qSize n xn xd ≤ qSize n yn yd := by
  refine round_mono (C := xd.natAbs) (D := yd.natAbs) (by omega) (by omega) rfl rfl ?_
  unfold pSize
  rw [Nat.mul_assoc, Nat.mul_assoc]
  refine Nat.mul_le_mul_left _ ?_
  rw [← Int.natAbs_mul, ← Int.natAbs_mul]
  have h1 : 0 ≤ xn * yd := Int.mul_nonneg (by omega) (by omega)
  omega
theorem qQ_pos {n b c : Int} (hb : 1 ≤ b) (hc : 1 ≤ c) (hn : 0 ≤ n) : qQ n b c = qSize n b c := by
  unfold qQ qNeg
  have h1 : pNeg n b = false := pNeg_false (by omega)
  have h2 : decide (c < 0) = false := by simp; omega
  rw [h1, h2]
  rfl
theorem qQ_minus {n b c : Int} (hb : 1 ≤ b) (hc : 1 ≤ c) (hn : n < 0) : qQ n b c = -(qSize n b c : Int) := by
  unfold qQ qNeg
  have h1 : pNeg n b = true := pNeg_true.2 (by omega)
  have h2 : decide (c < 0) = false := by simp; omega
  rw [h1, h2]
  rfl
theorem ap_small {n b c : Int} (n1 : -2147483648 ≤ n) (n2 : n ≤ 2147483647) (h : rightB b c = true) : apE b c n = 0 ∧ apV b c n = qQ n b c ∧ fit (qQ n b c) = true := by
  obtain ⟨⟨b1, b2⟩, ⟨c1, c2⟩, _⟩ := (rightB_iff b c).1 h
  have hp : (n * b).natAbs ≤ 4611686018427387904 := by
    rw [Int.natAbs_mul]
    have := Nat.mul_le_mul (show n.natAbs ≤ 2147483648 by omega) (show b.natAbs ≤ 1000000000 by omega)
    omega
  have hf := near_bd (c := c) hp
  unfold apE apV
  rw [if_pos h, if_pos h, mdE_eq (by omega), mdV_eq (by omega), if_pos hf, if_pos hf]
  exact ⟨rfl, rfl, hf⟩
theorem coprime_same {a b c d : Nat} (ha : 0 < a) (hc : 0 < c) (h1 : Nat.gcd a b = 1) (h2 : Nat.gcd c d = 1) (h : a * d = c * b) : a = c ∧ b = d := by
  have x1 : a ∣ c := Nat.Coprime.dvd_of_dvd_mul_right (show Nat.Coprime a b from h1) ⟨d, by rw [← h]⟩
  have x2 : c ∣ a := Nat.Coprime.dvd_of_dvd_mul_right (show Nat.Coprime c d from h2) ⟨b, by rw [h]⟩
  have e := Nat.dvd_antisymm x1 x2
  subst e
  exact ⟨rfl, (Nat.eq_of_mul_eq_mul_left ha h).symm⟩
theorem cmp_same {xn xd yn yd : Int} (hx : rightB xn xd = true) (hy : rightB yn yd = true) : cmpV xn yd yn xd = 0 ↔ xn = yn ∧ xd = yd := by
  obtain ⟨⟨a1, a2⟩, ⟨b1, b2⟩, g1⟩ := (rightB_iff _ _).1 hx
  obtain ⟨⟨c1, c2⟩, ⟨d1, d2⟩, g2⟩ := (rightB_iff _ _).1 hy
  rw [cmpV_zero]
  constructor
  · intro h
    have h' : xn.natAbs * yd.natAbs = yn.natAbs * xd.natAbs := by rw [← Int.natAbs_mul, ← Int.natAbs_mul, h]
    obtain ⟨e1, e2⟩ := coprime_same (by omega) (by omega) g1 g2 h'
    omega
  · rintro ⟨rfl, rfl⟩; rfl
/-- How amounts at two rates stand: as the rates do, the amount without its sign. -/
theorem ap_order {n xn xd yn yd : Int} (hx : rightB xn xd = true) (hy : rightB yn yd = true) :
    (cmpV xn yd yn xd < 0 → qSize n xn xd ≤ qSize n yn yd) ∧ (0 < cmpV xn yd yn xd → qSize n yn yd ≤ qSize n xn xd) ∧ (cmpV xn yd yn xd = 0 → qSize n xn xd = qSize n yn yd) := by
  obtain ⟨⟨a1, a2⟩, ⟨b1, b2⟩, g1⟩ := (rightB_iff _ _).1 hx
  obtain ⟨⟨c1, c2⟩, ⟨d1, d2⟩, g2⟩ := (rightB_iff _ _).1 hy
  refine ⟨fun h => ?_, fun h => ?_, fun h => ?_⟩
  · refine qSize_mono b1 d1 a1 ?_
    unfold cmpV at h
    split at h
    · omega
    · split at h <;> omega
  · refine qSize_mono d1 b1 c1 ?_
    unfold cmpV at h
    split at h
    · omega
    · split at h <;> omega
  · obtain ⟨rfl, rfl⟩ := (cmp_same hx hy).1 h
    rfl
theorem right_one {k : Int} (h1 : 1 ≤ k) (h2 : k ≤ 1000000000) : rightB k 1 = true := by
  rw [rightB_iff]; exact ⟨⟨h1, h2⟩, by omega, Nat.gcd_one_right _⟩
theorem ap_one {a : Int} (h : fit a = true) : apV 1 1 a = a ∧ apE 1 1 a = 0 := by
  obtain ⟨e1, e2⟩ := ones_one h
  unfold apV apE
  rw [if_pos (by decide), if_pos (by decide)]
  exact ⟨e1, e2⟩
theorem ap_whole {a k : Int} (h1 : 1 ≤ k) (h2 : k ≤ 1000000000) (h : fit (a * k) = true) : apV k 1 a = a * k ∧ apE k 1 a = 0 := by
  have e := md_exact (a := a) (b := k) (c := 1) (x := a * k) (by decide) (by omega) h
  unfold apV apE
  rw [if_pos (right_one h1 h2), if_pos (right_one h1 h2)]
  exact e
theorem rem_bd (a : Int) : -1000002 ≤ a.tmod 1000003 ∧ a.tmod 1000003 ≤ 1000002 := by
  have h1 := Int.tmod_lt_of_pos a (show (0 : Int) < 1000003 by decide)
  have h2 := Int.lt_tmod_of_pos a (show (0 : Int) < 1000003 by decide)
  omega

/-! ### Chains -/
theorem shareB_iff (x : Int) : shareB x = true ↔ 0 ≤ x ∧ x ≤ 10000 := by simp [shareB]
theorem shareB_no (x : Int) : shareB x = false ↔ x < 0 ∨ 10000 < x := by rw [← Bool.not_eq_true, shareB_iff]; omega
theorem sharesB_cons (a : Int) (r : List Int) : sharesB (a :: r) = (shareB a && sharesB r) := rfl
theorem sharesB_append (l r : List Int) : sharesB (l ++ r) = (sharesB l && sharesB r) := by simp [sharesB]
theorem chFrom_yes {n a : Int} (r : List Int) (h : n * a % 10000 = 0) : chFrom n (a :: r) = chFrom (n * a / 10000) r := by simp [chFrom, h]
theorem chFrom_no {n a : Int} (r : List Int) (h : n * a % 10000 ≠ 0) : chFrom n (a :: r) = (0, 12) := by simp [chFrom, h]
theorem prod_bd {n a : Int} (hn : 0 ≤ n ∧ n ≤ 10000) (ha : 0 ≤ a ∧ a ≤ 10000) : 0 ≤ n * a ∧ n * a ≤ 100000000 ∧ n * a ≤ 10000 * a ∧ n * a ≤ 10000 * n := by
  refine ⟨Int.mul_nonneg hn.1 ha.1, ?_, ?_, ?_⟩
  · have := Int.mul_le_mul hn.2 ha.2 ha.1 (by omega); omega
  · exact Int.mul_le_mul_of_nonneg_right hn.2 ha.1
  · rw [Int.mul_comm]; exact Int.mul_le_mul_of_nonneg_right ha.2 hn.1
theorem chFrom_bd (l : List Int) : ∀ n : Int, (0 ≤ n ∧ n ≤ 10000) → sharesB l = true → 0 ≤ (chFrom n l).1 ∧ (chFrom n l).1 ≤ n ∧ ((chFrom n l).2 = 0 ∨ chFrom n l = (0, 12)) := by
  induction l with
  | nil => intro n hn _; exact ⟨hn.1, Int.le_refl _, .inl rfl⟩
  | cons a r ih =>
    intro n hn hs
    rw [sharesB_cons, Bool.and_eq_true, shareB_iff] at hs
    obtain ⟨p1, p2, p3, p4⟩ := prod_bd hn hs.1
    by_cases h : n * a % 10000 = 0
    · rw [chFrom_yes r h]
      obtain ⟨i1, i2, i3⟩ := ih (n * a / 10000) ⟨by omega, by omega⟩ hs.2
      exact ⟨i1, by omega, i3⟩
    · rw [chFrom_no r h]; exact ⟨by decide, hn.1, .inr rfl⟩
theorem chFrom_least (l : List Int) : ∀ n : Int, (0 ≤ n ∧ n ≤ 10000) → sharesB l = true → (chFrom n l).2 = 0 → ∀ p ∈ l, (chFrom n l).1 ≤ p := by
  induction l with
  | nil => intro n _ _ _ p hp; cases hp
  | cons a r ih =>
    intro n hn hs h0 p hp
    rw [sharesB_cons, Bool.and_eq_true, shareB_iff] at hs
    obtain ⟨p1, p2, p3, p4⟩ := prod_bd hn hs.1
    by_cases h : n * a % 10000 = 0
    · rw [chFrom_yes r h] at h0 ⊢
      have hm : 0 ≤ n * a / 10000 ∧ n * a / 10000 ≤ 10000 := ⟨by omega, by omega⟩
      rcases List.mem_cons.1 hp with rfl | hp
      · have := (chFrom_bd r _ hm hs.2).2.1
        omega
      · exact ih _ hm hs.2 h0 p hp
    · rw [chFrom_no r h] at h0; cases h0
theorem chFrom_append (l r : List Int) : ∀ n : Int, chFrom n (l ++ r) = if (chFrom n l).2 = 0 then chFrom (chFrom n l).1 r else chFrom n l := by
  induction l with
  | nil => intro n; simp [chFrom]
  | cons a t ih =>
    intro n
    rw [List.cons_append]
    by_cases h : n * a % 10000 = 0
    · rw [chFrom_yes _ h, chFrom_yes _ h]; exact ih _
    · rw [chFrom_no _ h, chFrom_no _ h, if_neg (by decide)]
theorem chFrom_whole (r : List Int) (n : Int) : chFrom n (10000 :: r) = chFrom n r := by
  rw [chFrom_yes r (by omega), show n * 10000 / 10000 = n by omega]
theorem chain_whole (l r : List Int) : chain (l ++ 10000 :: r) = chain (l ++ r) := by
  unfold chain
  rw [sharesB_append, sharesB_append, sharesB_cons, show shareB 10000 = true from by decide, Bool.true_and, chFrom_append, chFrom_append, chFrom_whole]
def prodL : List Int → Int
  | [] => 1
  | a :: r => a * prodL r
theorem chFrom_prod (l : List Int) : ∀ n : Int, (chFrom n l).2 = 0 → (chFrom n l).1 * 10000 ^ l.length = n * prodL l := by
  induction l with
  | nil => intro n _; simp [chFrom, prodL]
  | cons a r ih =>
    intro n h0
    by_cases h : n * a % 10000 = 0
    · rw [chFrom_yes r h] at h0 ⊢
      have hi := ih _ h0
      have hd : n * a / 10000 * 10000 = n * a := by omega
      rw [List.length_cons, Int.pow_succ, ← Int.mul_assoc, hi]
      show n * a / 10000 * prodL r * 10000 = n * (a * prodL r)
      rw [Int.mul_right_comm, hd, Int.mul_assoc]
    · rw [chFrom_no r h] at h0; cases h0
theorem pow_pos (k : Nat) : (0 : Int) < 10000 ^ k := by
  induction k with
  | zero => decide
  | succ k ih => rw [Int.pow_succ]; omega
/-- All that a chain of two parts asks. -/
theorem chain_parts (l r : List Int) (h0 : (chain (l ++ r)).2 = 0) :
    (chain l).2 = 0 ∧ ((chain r).2 = 0 ∨ (chain r).2 = 12) ∧ ((chain r).2 = 0 → chain [(chain l).1, (chain r).1] = ((chain (l ++ r)).1, 0)) ∧ (∀ p ∈ l ++ r, (chain (l ++ r)).1 ≤ p) := by
  unfold chain at h0
  by_cases hs : sharesB (l ++ r) = true
  · rw [if_pos hs] at h0
    have hs' := hs
    rw [sharesB_append, Bool.and_eq_true] at hs'
    obtain ⟨hl, hr⟩ := hs'
    have el : chain l = chFrom 10000 l := if_pos hl
    have er : chain r = chFrom 10000 r := if_pos hr
    have elr : chain (l ++ r) = chFrom 10000 (l ++ r) := if_pos hs
    have hleast := chFrom_least (l ++ r) 10000 (by omega) hs h0
    have bl := chFrom_bd l 10000 (by omega) hl
    have br := chFrom_bd r 10000 (by omega) hr
    have hap := chFrom_append l r 10000
    have hl0 : (chFrom 10000 l).2 = 0 := by
      by_cases h : (chFrom 10000 l).2 = 0
      · exact h
      · rw [hap, if_neg h] at h0; exact h0
    rw [if_pos hl0] at hap
    rw [el, er, elr]
    refine ⟨hl0, ?_, fun hr0 => ?_, hleast⟩
    · rcases br.2.2 with h | h
      · exact .inl h
      · exact .inr (by rw [h])
    · have p1 := chFrom_prod r 10000 hr0
      have p2 := chFrom_prod r (chFrom 10000 l).1 (by rw [← hap]; exact h0)
      rw [hap]
      generalize hA : (chFrom 10000 l).1 = A at *
      generalize hB : (chFrom 10000 r).1 = B at *
      generalize hV : (chFrom A r).1 = V at *
      have key : A * B = V * 10000 := by
        have hp := pow_pos r.length
        refine Int.eq_of_mul_eq_mul_right (Int.ne_of_gt hp) ?_
        rw [Int.mul_assoc, p1, Int.mul_right_comm, p2, ← Int.mul_assoc, Int.mul_right_comm]
      have sA : shareB A = true := (shareB_iff A).2 ⟨bl.1, bl.2.1⟩
      have sB : shareB B = true := (shareB_iff B).2 ⟨br.1, br.2.1⟩
      unfold chain
      rw [if_pos (by rw [sharesB_cons, sharesB_cons, sA, sB]; rfl), chFrom_yes _ (by omega), show 10000 * A / 10000 = A by omega, chFrom_yes _ (by rw [key]; omega), key, show V * 10000 / 10000 = V by omega]
      rfl
  · rw [if_neg hs] at h0; cases h0
theorem chain_error (l : List Int) (h : (chain l).2 ≠ 0) : (chain l).1 = 0 := by
  unfold chain at h ⊢
  by_cases hs : sharesB l = true
  · rw [if_pos hs] at h ⊢
    rcases (chFrom_bd l 10000 (by omega) hs).2.2 with h1 | h1
    · exact absurd h1 h
    · rw [h1]
  · rw [if_neg hs]
theorem chain_in (l : List Int) : 0 ≤ (chain l).1 ∧ (chain l).1 ≤ 10000 := by
  unfold chain
  by_cases hs : sharesB l = true
  · rw [if_pos hs]
    have := chFrom_bd l 10000 (by omega) hs
    exact ⟨this.1, this.2.1⟩
  · rw [if_neg hs]; decide
theorem chain_halves {k : Nat} (h : k < 20) : chain (List.replicate k 5000) = if 4 < k then (0, 12) else (((10000 / 2 ^ k : Nat) : Int), 0) := by
  have : ∀ k, k < 20 → chain (List.replicate k 5000) = if 4 < k then (0, 12) else (((10000 / 2 ^ k : Nat) : Int), 0) := by decide
  exact this k h
end Go.Proofs.YtikjjbimokajfaaDoor
