/- Plain facts for layer 3 (rate), with no program in it: which pairs are rates, the rate of two numbers, the texts of rates, amounts at rates, chains of shares. -/
import Derived.Test.YtikjjbimokajfaaDoorWideFacts
import Derived.Test.YtikjjbimokajfaaDoorCentNum
namespace Go.Proofs.YtikjjbimokajfaaDoor
open Go.Lib (itoa decDigits)

/-- The greatest number that divides both. -/
def gcdI (n d : Int) : Int := ((Nat.gcd n.natAbs d.natAbs : Nat) : Int)
/-- Is a number 1 to 10^9? -/
def bndB (n : Int) : Bool := decide (1 ≤ n) && decide (n ≤ 1000000000)
def rightB (n d : Int) : Bool := bndB n && bndB d && (Nat.gcd n.natAbs d.natAbs == 1)
theorem bndB_iff (n : Int) : bndB n = true ↔ 1 ≤ n ∧ n ≤ 1000000000 := by simp [bndB]
theorem bndB_no (n : Int) : bndB n = false ↔ n < 1 ∨ 1000000000 < n := by rw [← Bool.not_eq_true, bndB_iff]; omega
theorem rightB_iff (n d : Int) : rightB n d = true ↔ (1 ≤ n ∧ n ≤ 1000000000) ∧ (1 ≤ d ∧ d ≤ 1000000000) ∧ Nat.gcd n.natAbs d.natAbs = 1 := by
  unfold rightB
  rw [Bool.and_eq_true, Bool.and_eq_true, bndB_iff, bndB_iff, beq_iff_eq, and_assoc]
/-- The rate of two numbers, or why there is none. -/
def mkE (n d : Int) : Int := if n < 1 ∨ d < 1 then 1 else if 1000000000 < n / gcdI n d ∨ 1000000000 < d / gcdI n d then 4 else 0
def mkN (n d : Int) : Int := if mkE n d = 0 then n / gcdI n d else 0
def mkD (n d : Int) : Int := if mkE n d = 0 then d / gcdI n d else 0
def apV (n d a : Int) : Int := if rightB n d = true then mdV a n d else 0
def apE (n d a : Int) : Int := if rightB n d = true then mdE a n d else 1
def shareB (x : Int) : Bool := decide (0 ≤ x) && decide (x ≤ 10000)
def sharesB (l : List Int) : Bool := l.all shareB
def chFrom (n : Int) : List Int → Int × Int
  | [] => (n, 0)
  | a :: r => if n * a % 10000 = 0 then chFrom (n * a / 10000) r else (0, 12)
def chain (l : List Int) : Int × Int := if sharesB l = true then chFrom 10000 l else (0, 1)
/-- What is ahead of the first slash of a text, and what is behind it. -/
def ahead : List UInt8 → List UInt8
  | [] => []
  | c :: r => if c = 47 then [] else c :: ahead r
def behind : List UInt8 → List UInt8
  | [] => [49]
  | c :: r => if c = 47 then r else behind r
def prsE (l : List UInt8) : Int :=
  if parseE (ahead l) = 5 ∨ parseE (behind l) = 5 then 5 else if parseE (ahead l) ≠ 0 ∨ parseE (behind l) ≠ 0 then 4 else mkE (parseV (ahead l)) (parseV (behind l))
def prsN (l : List UInt8) : Int := if prsE l = 0 then mkN (parseV (ahead l)) (parseV (behind l)) else 0
def prsD (l : List UInt8) : Int := if prsE l = 0 then mkD (parseV (ahead l)) (parseV (behind l)) else 0
def prt (n d : Int) : List UInt8 := if rightB n d = true then (if d = 1 then itoa n else itoa n ++ 47 :: itoa d) else []

/-! ### Rates of two numbers -/
theorem gcdI_pos {n d : Int} (h : 1 ≤ n) : 1 ≤ gcdI n d := by
  have : 0 < Nat.gcd n.natAbs d.natAbs := Nat.gcd_pos_of_pos_left _ (by omega)
  unfold gcdI; omega
theorem gcdI_le {n d : Int} (h : 1 ≤ n) : gcdI n d ≤ n := by
  have := Nat.gcd_le_left d.natAbs (show 0 < n.natAbs by omega)
  unfold gcdI; omega
theorem gcdI_dvd {n d : Int} (hn : 1 ≤ n) (hd : 1 ≤ d) : ∃ x y : Int, n = gcdI n d * x ∧ d = gcdI n d * y ∧ 1 ≤ x ∧ 1 ≤ y ∧ n / gcdI n d = x ∧ d / gcdI n d = y ∧ Nat.gcd x.natAbs y.natAbs = 1 := by
  have hg := gcdI_pos (d := d) hn
  obtain ⟨x, hx⟩ := Nat.gcd_dvd_left n.natAbs d.natAbs
  obtain ⟨y, hy⟩ := Nat.gcd_dvd_right n.natAbs d.natAbs
  have ex : n = gcdI n d * (x : Int) := by
    have : ((n.natAbs : Nat) : Int) = ((n.natAbs.gcd d.natAbs * x : Nat) : Int) := congrArg _ hx
    rw [Int.natCast_mul] at this
    unfold gcdI; omega
  have ey : d = gcdI n d * (y : Int) := by
    have : ((d.natAbs : Nat) : Int) = ((n.natAbs.gcd d.natAbs * y : Nat) : Int) := congrArg _ hy
    rw [Int.natCast_mul] at this
    unfold gcdI; omega
  refine ⟨x, y, ex, ey, ?_, ?_, ?_, ?_, ?_⟩
  · rcases Nat.eq_zero_or_pos x with h | h
    · subst h; simp at ex; omega
    · omega
  · rcases Nat.eq_zero_or_pos y with h | h
    · subst h; simp at ey; omega
    · omega
  · exact Int.ediv_eq_of_eq_mul_right (by omega) ex
  · exact Int.ediv_eq_of_eq_mul_right (by omega) ey
  · have hp : 0 < n.natAbs.gcd d.natAbs := by unfold gcdI at hg; omega
    have e : n.natAbs.gcd d.natAbs * Nat.gcd x y = n.natAbs.gcd d.natAbs * 1 := by
      rw [← Nat.gcd_mul_left, ← hx, ← hy, Nat.mul_one]
    simpa using Nat.eq_of_mul_eq_mul_left hp e
theorem mkE_arg {n d : Int} (h : n < 1 ∨ d < 1) : mkE n d = 1 := if_pos h
theorem mkE_big {n d : Int} (h : ¬ (n < 1 ∨ d < 1)) (h2 : 1000000000 < n / gcdI n d ∨ 1000000000 < d / gcdI n d) : mkE n d = 4 := by
  unfold mkE; rw [if_neg h, if_pos h2]
theorem mkE_ok {n d : Int} (h : ¬ (n < 1 ∨ d < 1)) (h2 : ¬ (1000000000 < n / gcdI n d ∨ 1000000000 < d / gcdI n d)) : mkE n d = 0 := by
  unfold mkE; rw [if_neg h, if_neg h2]
theorem mk_none {n d : Int} (h : mkE n d ≠ 0) : mkN n d = 0 ∧ mkD n d = 0 := ⟨if_neg h, if_neg h⟩
theorem mk_some {n d : Int} (h : mkE n d = 0) : mkN n d = n / gcdI n d ∧ mkD n d = d / gcdI n d := ⟨if_pos h, if_pos h⟩
theorem mk_inv {n d : Int} (h : mkE n d = 0) : 1 ≤ n ∧ 1 ≤ d ∧ n / gcdI n d ≤ 1000000000 ∧ d / gcdI n d ≤ 1000000000 := by
  unfold mkE at h
  split at h
  · cases h
  · split at h
    · cases h
    · omega
theorem mk_right {n d : Int} (h : mkE n d = 0) : rightB (mkN n d) (mkD n d) = true := by
  obtain ⟨h1, h2, h3, h4⟩ := mk_inv h
  obtain ⟨x, y, _, _, x1, y1, ex, ey, hg⟩ := gcdI_dvd h1 h2
  obtain ⟨e1, e2⟩ := mk_some h
  rw [rightB_iff, e1, e2]
  rw [ex] at h3 ⊢
  rw [ey] at h4 ⊢
  exact ⟨⟨x1, h3⟩, ⟨y1, h4⟩, hg⟩
theorem mk_times {n d k : Int} (h : rightB n d = true) (hk : 1 ≤ k) : mkE (n * k) (d * k) = 0 ∧ mkN (n * k) (d * k) = n ∧ mkD (n * k) (d * k) = d := by
  obtain ⟨⟨n1, n2⟩, ⟨d1, d2⟩, hg⟩ := (rightB_iff n d).1 h
  have e : gcdI (n * k) (d * k) = k := by
    unfold gcdI
    rw [Int.natAbs_mul, Int.natAbs_mul, Nat.gcd_mul_right, hg]
    omega
  have en : n * k / gcdI (n * k) (d * k) = n := by rw [e]; exact Int.mul_ediv_cancel _ (by omega)
  have ed : d * k / gcdI (n * k) (d * k) = d := by rw [e]; exact Int.mul_ediv_cancel _ (by omega)
  have hn : 1 ≤ n * k := by have := Int.mul_le_mul n1 hk (by omega) (by omega); omega
  have hd : 1 ≤ d * k := by have := Int.mul_le_mul d1 hk (by omega) (by omega); omega
  have h0 : mkE (n * k) (d * k) = 0 := mkE_ok (by omega) (by rw [en, ed]; omega)
  obtain ⟨e1, e2⟩ := mk_some h0
  exact ⟨h0, by rw [e1, en], by rw [e2, ed]⟩
theorem mk_self {n d : Int} (h : rightB n d = true) : mkE n d = 0 ∧ mkN n d = n ∧ mkD n d = d := by
  have := mk_times h (Int.le_refl 1)
  simpa using this
theorem mk_not_right {n d : Int} (h : mkE n d ≠ 0) : rightB n d = false := by
  rw [← Bool.not_eq_true]
  exact fun h' => h (mk_self h').1
theorem mkN_in (n d : Int) : In64 (mkN n d) ∧ In64 (mkD n d) := by
  by_cases h : mkE n d = 0
  · obtain ⟨⟨a, b⟩, ⟨c, d⟩, _⟩ := (rightB_iff _ _).1 (mk_right h)
    unfold In64; omega
  · obtain ⟨e1, e2⟩ := mk_none h
    rw [e1, e2]; unfold In64; omega

/-! ### Texts of rates -/
theorem ahead_slash (l r : List UInt8) (h : ∀ c ∈ l, c ≠ 47) : ahead (l ++ 47 :: r) = l ∧ behind (l ++ 47 :: r) = r := by
  induction l with
  | nil => exact ⟨by simp [ahead], by simp [behind]⟩
  | cons c t ih =>
    obtain ⟨h1, h2⟩ := ih fun x hx => h x (List.mem_cons_of_mem _ hx)
    have hc : c ≠ 47 := h c (List.mem_cons_self ..)
    exact ⟨by simp [ahead, hc, h1], by simp [behind, hc, h2]⟩
theorem ahead_none (l : List UInt8) (h : ∀ c ∈ l, c ≠ 47) : ahead l = l ∧ behind l = [49] := by
  induction l with
  | nil => exact ⟨rfl, rfl⟩
  | cons c t ih =>
    obtain ⟨h1, h2⟩ := ih fun x hx => h x (List.mem_cons_of_mem _ hx)
    have hc : c ≠ 47 := h c (List.mem_cons_self ..)
    exact ⟨by simp [ahead, hc, h1], by simp [behind, hc, h2]⟩
theorem ahead_length (l : List UInt8) : (ahead l).length ≤ l.length := by
  induction l with
  | nil => exact Nat.le_refl _
  | cons c t ih => unfold ahead; split <;> simp <;> omega
theorem behind_length (l : List UInt8) : (behind l).length ≤ l.length + 1 := by
  induction l with
  | nil => exact Nat.le_refl _
  | cons c t ih => unfold behind; split <;> simp <;> omega
theorem itoa_no_slash {n : Int} (h : 0 ≤ n) : ∀ c ∈ itoa n, c ≠ 47 := by
  intro c hc
  have e : itoa n = decDigits n.toNat := by unfold Lib.itoa; rw [if_neg (by omega)]
  rw [e] at hc
  have hd := List.all_eq_true.1 (digs_dec n.toNat) c hc
  rw [dig_iff] at hd
  intro h47
  rw [h47] at hd
  exact absurd hd.1 (by decide)
theorem prs_of {l : List UInt8} {n d : Int} (h1 : parseV (ahead l) = n) (h2 : parseE (ahead l) = 0) (h3 : parseV (behind l) = d) (h4 : parseE (behind l) = 0) : prsE l = mkE n d ∧ prsN l = mkN n d ∧ prsD l = mkD n d := by
  have e : prsE l = mkE n d := by unfold prsE; rw [if_neg (by rw [h2, h4]; decide), if_neg (by rw [h2, h4]; decide), h1, h3]
  refine ⟨e, ?_, ?_⟩
  · unfold prsN; rw [e, h1, h3]; split
    · rfl
    · exact (mk_none (by assumption)).1.symm
  · unfold prsD; rw [e, h1, h3]; split
    · rfl
    · exact (mk_none (by assumption)).2.symm
theorem prs_prt {n d : Int} (h : rightB n d = true) : prsE (prt n d) = 0 ∧ prsN (prt n d) = n ∧ prsD (prt n d) = d := by
  obtain ⟨⟨n1, n2⟩, ⟨d1, d2⟩, hg⟩ := (rightB_iff n d).1 h
  obtain ⟨pn, pe⟩ := parse_itoa (n := n) ((fit_iff _).2 (by omega))
  obtain ⟨qn, qe⟩ := parse_itoa (n := d) ((fit_iff _).2 (by omega))
  obtain ⟨m1, m2, m3⟩ := mk_self h
  have key : prsE (prt n d) = mkE n d ∧ prsN (prt n d) = mkN n d ∧ prsD (prt n d) = mkD n d := by
    unfold prt
    rw [if_pos h]
    by_cases h1 : d = 1
    · subst h1
      rw [if_pos rfl]
      obtain ⟨e1, e2⟩ := ahead_none _ (itoa_no_slash (n := n) (by omega))
      exact prs_of (by rw [e1, pn]) (by rw [e1, pe]) (by rw [e2]; decide) (by rw [e2]; decide)
    · rw [if_neg h1]
      obtain ⟨e1, e2⟩ := ahead_slash _ (itoa d) (itoa_no_slash (n := n) (by omega))
      exact prs_of (by rw [e1, pn]) (by rw [e1, pe]) (by rw [e2, qn]) (by rw [e2, qe])
  rw [m1, m2, m3] at key
  exact key
end Go.Proofs.YtikjjbimokajfaaDoor
