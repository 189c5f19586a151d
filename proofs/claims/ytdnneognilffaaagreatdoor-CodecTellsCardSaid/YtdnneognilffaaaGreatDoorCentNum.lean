
/- Plain facts on decimal texts, with no program in it: which texts are whole numbers, what number they are, and that numbers and texts come back from one another. -/
import Derived.Test.YtdnneognilffaaaGreatDoorCentPlain
import Derived.Lib.ItoaNum
import Derived.Lib.ParseIntBTie
namespace Go.Proofs.YtdnneognilffaaaGreatDoor
open Go.Lib (decDigits itoa nDigits parseIntB parseUintB parseMag parseUint10)

/-- Is a byte a decimal digit? -/
def dig (c : UInt8) : Bool := decide (48 ≤ c.toNat) && decide (c.toNat ≤ 57)
def digs (l : List UInt8) : Bool := l.all dig
/-- Digits, one at least, the first of them not 0. -/
def plainNum : List UInt8 → Bool
  | [] => false
  | c :: r => (c != 48) && digs (c :: r)
/-- Is a text that of a whole number? -/
def whole (l : List UInt8) : Bool :=
  match l with
  | 45 :: r => plainNum r
  | l => (l == [48]) || plainNum l
/-- The number that digits are, behind n. -/
def num (n : Nat) (l : List UInt8) : Nat := l.foldl (fun a c => a * 10 + (c.toNat - 48)) n
def val (l : List UInt8) : Int :=
  match l with
  | 45 :: r => -((num 0 r : Nat) : Int)
  | l => ((num 0 l : Nat) : Int)
def parseV (l : List UInt8) : Int := if whole l = true then (if fit (val l) = true then val l else 0) else 0
def parseE (l : List UInt8) : Int := if whole l = true then (if fit (val l) = true then 0 else 2) else 5

theorem num_snoc (n : Nat) (l : List UInt8) (c : UInt8) : num n (l ++ [c]) = num n l * 10 + (c.toNat - 48) := by simp [num]
theorem num_cons (n : Nat) (l : List UInt8) (c : UInt8) : num n (c :: l) = num (n * 10 + (c.toNat - 48)) l := by simp only [num, List.foldl_cons]
theorem num_ge (l : List UInt8) : ∀ n, n ≤ num n l := by
  induction l with
  | nil => intro n; exact Nat.le_refl _
  | cons c r ih => intro n; rw [num_cons]; exact Nat.le_trans (by omega) (ih _)
theorem digs_snoc (l : List UInt8) (c : UInt8) : digs (l ++ [c]) = (digs l && dig c) := by simp [digs]
theorem dig_iff (c : UInt8) : dig c = true ↔ 48 ≤ c.toNat ∧ c.toNat ≤ 57 := by simp [dig]
theorem digs_cons (l : List UInt8) (c : UInt8) : digs (c :: l) = (dig c && digs l) := by simp [digs]

/-- How a text of digits is taken: its number, or it is too big for 64 bits. -/
theorem parse_digs (l : List UInt8) : ∀ n, n < 18446744073709551616 → digs l = true → parseUint10 n l = if num n l < 18446744073709551616 then .ok (num n l) else .range := by
  induction l with
  | nil => intro n hn _; simp [parseUint10, num, hn]
  | cons c r ih =>
    intro n hn hd
    rw [digs_cons, Bool.and_eq_true] at hd
    obtain ⟨hc, hr⟩ := hd
    rw [dig_iff] at hc
    have hg := num_ge r (n * 10 + (c.toNat - 48))
    rw [num_cons]
    simp only [parseUint10, if_pos hc]
    by_cases h1 : 1844674407370955162 ≤ n
    · rw [if_pos h1, if_neg (by omega)]
    · rw [if_neg h1]
      by_cases h2 : 18446744073709551616 ≤ n * 10 + (c.toNat - 48)
      · rw [if_pos h2, if_neg (by omega)]
      · rw [if_neg h2, ih _ (by omega) hr]

theorem plainNum_cons {l : List UInt8} (h : plainNum l = true) : ∃ c r, l = c :: r ∧ c ≠ 48 ∧ digs (c :: r) = true := by
  cases l with
  | nil => cases h
  | cons c r =>
    simp only [plainNum, Bool.and_eq_true, bne_iff_ne, ne_eq] at h
    exact ⟨c, r, rfl, h.1, h.2⟩
theorem whole_minus (r : List UInt8) : whole (45 :: r) = plainNum r := rfl
theorem whole_other {c : UInt8} (r : List UInt8) (h : c ≠ 45) : whole (c :: r) = ((c :: r == [48]) || plainNum (c :: r)) := by
  unfold whole; split
  · rename_i e; injection e with e _; exact absurd e h
  · rfl
theorem val_minus (r : List UInt8) : val (45 :: r) = -((num 0 r : Nat) : Int) := rfl
theorem val_other {c : UInt8} (r : List UInt8) (h : c ≠ 45) : val (c :: r) = ((num 0 (c :: r) : Nat) : Int) := by
  unfold val; split
  · rename_i e; injection e with e _; exact absurd e h
  · rfl
theorem toNat_ne {c d : UInt8} (h : c ≠ d) : c.toNat ≠ d.toNat := fun e => h (UInt8.toNat_inj.1 e)
/-- A whole number's text without a sign: its digits, and it does not begin with a sign. -/
theorem whole_digs {c : UInt8} {r : List UInt8} (h : c ≠ 45) (hw : whole (c :: r) = true) : digs (c :: r) = true := by
  rw [whole_other r h, Bool.or_eq_true] at hw
  rcases hw with hw | hw
  · have e : c :: r = [48] := by simpa using hw
    rw [e]; decide
  · obtain ⟨c', r', e, _, hd⟩ := plainNum_cons hw
    rw [e]; exact hd

/-- The library's ParseInt at a whole number's text. -/
theorem parseInt_whole {l : List UInt8} (h : whole l = true) : parseIntB 64 l = if fit (val l) = true then .ok (val l) else .range := by
  cases l with
  | nil => cases h
  | cons c r =>
    by_cases h45 : c = 45
    · subst h45
      rw [whole_minus] at h
      obtain ⟨c', r', rfl, _, hd⟩ := plainNum_cons h
      rw [Lib.parseIntB_minus, val_minus, Lib.parseUintB_64]
      simp only [parseMag]
      rw [if_neg (by simp), parse_digs _ 0 (by omega) hd]
      generalize num 0 (c' :: r') = u
      have e63 : (2 : Nat) ^ (64 - 1) = 9223372036854775808 := by decide
      rw [e63]
      by_cases hu : u < 18446744073709551616
      · rw [if_pos hu]
        simp only [Lib.signedC]
        by_cases h2 : 9223372036854775808 < u
        · rw [if_pos h2, if_neg (by rw [fit_iff]; omega)]
        · rw [if_neg h2, if_pos (by rw [fit_iff]; omega)]
      · rw [if_neg hu]
        simp only [Lib.signedC]
        rw [if_neg (by rw [fit_iff]; omega)]
    · have hd := whole_digs h45 h
      have hc : 48 ≤ c.toNat ∧ c.toNat ≤ 57 := by
        rw [digs_cons, Bool.and_eq_true, dig_iff] at hd; exact hd.1
      rw [Lib.parseIntB_plain 64 c r (by omega) (by omega), val_other r h45, Lib.parseUintB_64]
      simp only [parseMag]
      rw [if_neg (by simp), parse_digs _ 0 (by omega) hd]
      generalize num 0 (c :: r) = u
      have e63 : (2 : Nat) ^ (64 - 1) = 9223372036854775808 := by decide
      rw [e63]
      by_cases hu : u < 18446744073709551616
      · rw [if_pos hu]
        simp only [Lib.signlessC]
        by_cases h2 : 9223372036854775808 ≤ u
        · rw [if_pos h2, if_neg (by rw [fit_iff]; omega)]
        · rw [if_neg h2, if_pos (by rw [fit_iff]; omega)]
      · rw [if_neg hu]
        simp only [Lib.signlessC]
        rw [if_neg (by rw [fit_iff]; omega)]

/-! ### Texts of numbers -/
theorem ofNat_toNat {n : Nat} (h : n < 10) : (UInt8.ofNat (48 + n)).toNat = 48 + n := by
  rw [UInt8.toNat_ofNat']; omega
theorem dec_small {u : Nat} (h : u < 10) : decDigits u = [UInt8.ofNat (48 + u)] := by rw [decDigits, dif_pos h]
theorem dec_big {u : Nat} (h : ¬ u < 10) : decDigits u = decDigits (u / 10) ++ [UInt8.ofNat (48 + u % 10)] := by rw [decDigits, dif_neg h]
theorem digs_dec (u : Nat) : digs (decDigits u) = true := by
  induction u using Nat.strongRecOn with
  | _ u ih =>
    by_cases h : u < 10
    · rw [dec_small h]; simp [digs, dig_iff]; omega
    · rw [dec_big h, digs_snoc, ih (u / 10) (by omega), Bool.true_and, dig_iff, ofNat_toNat (by omega)]; omega
theorem num_dec (u : Nat) : num 0 (decDigits u) = u := by
  induction u using Nat.strongRecOn with
  | _ u ih =>
    by_cases h : u < 10
    · rw [dec_small h, show num 0 [UInt8.ofNat (48 + u)] = (UInt8.ofNat (48 + u)).toNat - 48 by simp [num], ofNat_toNat h]; omega
    · rw [dec_big h, num_snoc, ih (u / 10) (by omega), ofNat_toNat (by omega)]; omega
theorem plain_dec {u : Nat} (h0 : 0 < u) : plainNum (decDigits u) = true := by
  have hd := digs_dec u
  have hh : ∃ c r, decDigits u = c :: r ∧ c ≠ 48 := by
    clear hd
    induction u using Nat.strongRecOn with
    | _ u ih =>
      by_cases h : u < 10
      · rw [dec_small h]
        refine ⟨_, _, rfl, fun e => ?_⟩
        have := congrArg UInt8.toNat e
        rw [ofNat_toNat h] at this
        have e48 : (48 : UInt8).toNat = 48 := rfl
        omega
      · obtain ⟨c, r, e, hc⟩ := ih (u / 10) (by omega) (by omega)
        rw [dec_big h, e]
        exact ⟨c, _, rfl, hc⟩
  obtain ⟨c, r, e, hc⟩ := hh
  rw [e] at hd ⊢
  simp [plainNum, hc, hd]
theorem dec_zero : decDigits 0 = [48] := by rw [dec_small (by omega)]; rfl

theorem plain_head {l : List UInt8} (h : plainNum l = true) : ∃ c r, l = c :: r ∧ c ≠ 45 := by
  obtain ⟨c, r, e, _, hd⟩ := plainNum_cons h
  refine ⟨c, r, e, fun h45 => ?_⟩
  subst h45
  rw [digs_cons, Bool.and_eq_true] at hd
  exact absurd hd.1 (by decide)
theorem whole_plain {l : List UInt8} (h : plainNum l = true) : whole l = true ∧ val l = ((num 0 l : Nat) : Int) := by
  obtain ⟨c, r, rfl, hc⟩ := plain_head h
  rw [whole_other r hc, val_other r hc, h]
  simp

/-- A number's text is that of a whole number, and just this one. -/
theorem whole_itoa (n : Int) : whole (itoa n) = true ∧ val (itoa n) = n := by
  unfold itoa
  split
  · rename_i h
    rw [whole_minus, val_minus, num_dec]
    exact ⟨plain_dec (by omega), by omega⟩
  · rename_i h
    by_cases h0 : n = 0
    · subst h0; exact ⟨by rw [show (0 : Int).toNat = 0 from rfl, dec_zero]; decide, by rw [show (0 : Int).toNat = 0 from rfl, dec_zero]; decide⟩
    · obtain ⟨h1, h2⟩ := whole_plain (plain_dec (u := n.toNat) (by omega))
      rw [h1, h2, num_dec]
      exact ⟨rfl, by omega⟩

theorem num_pos {c : UInt8} (r : List UInt8) (h : c ≠ 48) (hd : digs (c :: r) = true) : 0 < num 0 (c :: r) := by
  rw [digs_cons, Bool.and_eq_true, dig_iff] at hd
  have := num_ge r (0 * 10 + (c.toNat - 48))
  rw [num_cons]
  have hne := toNat_ne h
  have e48 : (48 : UInt8).toNat = 48 := rfl
  omega
theorem ofNat_sub {c : UInt8} (h : dig c = true) : UInt8.ofNat (48 + (c.toNat - 48)) = c := by
  rw [dig_iff] at h
  apply UInt8.toNat_inj.1
  rw [ofNat_toNat (by omega)]
  omega
/-- Digits that do not begin with 0 are the text of their number. -/
theorem dec_num : ∀ (k : Nat) (l : List UInt8), l.length = k → plainNum l = true → decDigits (num 0 l) = l := by
  intro k
  induction k with
  | zero => intro l hl h; have : l = [] := List.eq_nil_of_length_eq_zero hl; subst this; cases h
  | succ k ih =>
    intro l hl h
    have hne : l ≠ [] := by intro e; subst e; simp at hl
    obtain ⟨l', c, rfl⟩ : ∃ l' c, l = l' ++ [c] := ⟨l.dropLast, l.getLast hne, (List.dropLast_concat_getLast hne).symm⟩
    obtain ⟨c0, r0, e0, hc0, hd0⟩ := plainNum_cons h
    rw [← e0, digs_snoc, Bool.and_eq_true] at hd0
    obtain ⟨hdl, hdc⟩ := hd0
    have hcr := (dig_iff c).1 hdc
    cases l' with
    | nil =>
      simp only [List.nil_append]
      have e1 : num 0 [c] = c.toNat - 48 := by simp [num]
      rw [e1, dec_small (by omega), ofNat_sub hdc]
    | cons a r =>
      have ea : a = c0 := by simp at e0; exact e0.1
      subst ea
      have hp : plainNum (a :: r) = true := by simp [plainNum, hc0, hdl]
      have hpos := num_pos r hc0 hdl
      rw [num_snoc]
      generalize hu : num 0 (a :: r) = u at *
      rw [dec_big (by omega), show (u * 10 + (c.toNat - 48)) / 10 = u by omega, show (u * 10 + (c.toNat - 48)) % 10 = c.toNat - 48 by omega, ofNat_sub hdc, ← hu, ih (a :: r) (by simpa using hl) hp]
/-- A whole number's text is the text of its number. -/
theorem itoa_val {l : List UInt8} (h : whole l = true) : itoa (val l) = l := by
  cases l with
  | nil => cases h
  | cons c r =>
    by_cases h45 : c = 45
    · subst h45
      rw [whole_minus] at h
      obtain ⟨c', r', e, hc, hd⟩ := plainNum_cons h
      have hpos := num_pos r' hc hd
      rw [← e] at hpos
      rw [val_minus, itoa, if_pos (by omega), show (-((num 0 r : Nat) : Int)).natAbs = num 0 r by omega, dec_num _ r rfl h]
    · rw [val_other r h45, itoa, if_neg (by omega), Int.toNat_natCast]
      rw [whole_other r h45, Bool.or_eq_true] at h
      rcases h with h | h
      · have e : c :: r = [48] := by simpa using h
        rw [e]; exact dec_zero
      · exact dec_num _ _ rfl h

theorem fit_parseV (l : List UInt8) : fit (parseV l) = true := by
  unfold parseV; split
  · split
    · assumption
    · decide
  · decide
theorem parse_itoa {n : Int} (h : fit n = true) : parseV (itoa n) = n ∧ parseE (itoa n) = 0 := by
  obtain ⟨h1, h2⟩ := whole_itoa n
  simp [parseV, parseE, h1, h2, h]
theorem itoa_parse {l : List UInt8} (h : parseE l = 0) : itoa (parseV l) = l := by
  unfold parseE at h
  split at h
  · rename_i hw
    split at h
    · rename_i hf
      simp only [parseV, if_pos hw, if_pos hf]
      exact itoa_val hw
    · cases h
  · cases h
theorem itoa_inj {a b : Int} (h : itoa a = itoa b) : a = b := by
  rw [← (whole_itoa a).2, h, (whole_itoa b).2]
theorem itoa_ne_nil (a : Int) : itoa a ≠ [] := by
  intro h
  have := (whole_itoa a).1
  rw [h] at this
  cases this
theorem nDigits_small' {u : Nat} (h : u < 10) : nDigits u = 1 := Lib.nDigits_small h
theorem itoa_length (a : Int) : (itoa a).length = nDigits a.natAbs + (if a < 0 then 1 else 0) := by
  unfold itoa
  split
  · simp [Lib.decDigits_length]
  · rw [Lib.decDigits_length, show a.toNat = a.natAbs by omega]; rfl
end Go.Proofs.YtdnneognilffaaaGreatDoor
