
/- The plain facts of charts: the account of a code, the place of one, an account more, codes that rise. No program in it. -/
import Derived.Test.YtkacidoflmbjkaaDoorChartPlain
namespace Go.Proofs.YtkacidoflmbjkaaDoor
open Go.RowKit

def gtS (x y : ByteArray) : Bool := !(ltS x y || x.toList == y.toList)
theorem gtS_iff (x y : ByteArray) : gtS x y = true ↔ ltS y x = true := by
  unfold gtS
  constructor
  · intro h
    simp only [Bool.not_eq_true', Bool.or_eq_false_iff] at h
    exact ltS_total h.1 (fun e => by subst e; simp at h)
  · intro h
    rw [ltS_asymm h]
    have : (x.toList == y.toList) = false := by
      cases e : x.toList == y.toList with
      | false => rfl
      | true =>
        have := toList_inj (eq_of_beq e)
        subst this
        rw [ltS_irr] at h; cases h
    rw [this]; rfl
theorem gtS_no {x y : ByteArray} (h : gtS x y = false) (hne : x ≠ y) : ltS x y = true := by
  cases h' : ltS x y with
  | true => rfl
  | false => rw [(gtS_iff x y).2 (ltS_total h' hne)] at h; cases h
/-- The account of a code. -/
def findL : List Acct → ByteArray → Option Acct
  | [], _ => none
  | a :: L, c => if a.code = c then some a else findL L c
/-- How many stand ahead of where a code belongs. -/
def belowL : List Acct → ByteArray → Nat
  | [], _ => 0
  | a :: L, c => if gtS a.code c = true then 0 else belowL L c + 1
def insL : List Acct → Acct → List Acct
  | [], x => [x]
  | a :: L, x => if gtS a.code x.code = true then x :: a :: L else a :: insL L x
def addE (L : List Acct) (a : Acct) : Int := if rightA a = false then 1 else if (findL L a.code).isSome = true then 7 else if 60 ≤ L.length then 4 else 0
def addV (L : List Acct) (a : Acct) : List Acct := if addE L a = 0 then insL L a else L
def riseL : List Acct → Bool
  | a :: b :: L => ltS a.code b.code && riseL (b :: L)
  | _ => true
theorem belowL_le (L : List Acct) (c : ByteArray) : belowL L c ≤ L.length := by
  induction L with
  | nil => exact Nat.le_refl _
  | cons a L ih => simp only [belowL]; split <;> simp; omega
theorem insL_eq (L : List Acct) (x : Acct) : insL L x = L.take (belowL L x.code) ++ x :: L.drop (belowL L x.code) := by
  induction L with
  | nil => rfl
  | cons a L ih =>
    simp only [insL, belowL]
    split
    · rfl
    · rw [ih]; simp
theorem insL_length (L : List Acct) (x : Acct) : (insL L x).length = L.length + 1 := by
  induction L with
  | nil => rfl
  | cons a L ih => simp only [insL]; split <;> simp [ih]
theorem addE_zero {L : List Acct} {a : Acct} (h : addE L a = 0) : rightA a = true ∧ findL L a.code = none ∧ L.length < 60 := by
  unfold addE at h
  cases hr : rightA a with
  | false => rw [hr] at h; simp at h
  | true =>
    rw [hr] at h
    simp only [Bool.true_eq_false, if_false] at h
    cases hf : findL L a.code with
    | some x => rw [hf] at h; simp at h
    | none =>
      rw [hf] at h
      simp only [Option.isSome_none, Bool.false_eq_true, if_false] at h
      refine ⟨rfl, rfl, ?_⟩
      split at h
      · simp at h
      · omega
theorem find_mem {L : List Acct} {c : ByteArray} {x : Acct} (h : findL L c = some x) : x.code = c ∧ x ∈ L := by
  induction L with
  | nil => cases h
  | cons a L ih =>
    simp only [findL] at h
    split at h
    · cases h; exact ⟨by assumption, List.mem_cons_self⟩
    · exact ⟨(ih h).1, List.mem_cons_of_mem _ (ih h).2⟩
theorem find_ins (L : List Acct) (x : Acct) (c : ByteArray) (h : findL L x.code = none) : findL (insL L x) c = if x.code = c then some x else findL L c := by
  induction L with
  | nil => simp [insL, findL]
  | cons a L ih =>
    simp only [findL] at h
    split at h
    · cases h
    · rename_i hne
      simp only [insL]
      split
      · simp [findL]
      · simp only [findL]
        rw [ih h]
        by_cases h1 : a.code = c
        · have : x.code ≠ c := fun e => hne (by rw [h1, e])
          simp [h1, this]
        · simp [h1]
theorem rise_tail {a : Acct} {L : List Acct} (h : riseL (a :: L) = true) : riseL L = true := by
  cases L with
  | nil => rfl
  | cons b L => simp only [riseL, Bool.and_eq_true] at h; exact h.2
theorem rise_ins (L : List Acct) (x : Acct) (hr : riseL L = true) (h : findL L x.code = none) : riseL (insL L x) = true := by
  induction L with
  | nil => rfl
  | cons a L ih =>
    simp only [findL] at h
    split at h
    · cases h
    · rename_i hne
      simp only [insL]
      split
      · rename_i hg
        simp only [riseL, Bool.and_eq_true]
        exact ⟨(gtS_iff _ _).1 hg, hr⟩
      · rename_i hg
        have hlt : ltS a.code x.code = true := gtS_no (by simpa using hg) hne
        have ih' := ih (rise_tail hr) h
        cases L with
        | nil => simp [insL, riseL, hlt]
        | cons b L =>
          simp only [insL] at ih' ⊢
          split
          · rename_i hg2
            rw [if_pos hg2] at ih'
            simp only [riseL, Bool.and_eq_true] at ih' ⊢
            exact ⟨hlt, ih'⟩
          · rename_i hg2
            rw [if_neg hg2] at ih'
            simp only [riseL, Bool.and_eq_true] at hr
            cases hL : insL L x with
            | nil => simp [riseL, hr.1]
            | cons c M =>
              rw [hL] at ih'
              simp only [riseL, Bool.and_eq_true] at ih' ⊢
              exact ⟨hr.1, ih'⟩
theorem rise_of {L : List Acct} (h : ∀ (i : Nat) (a b : Acct), L[i]? = some a → L[i + 1]? = some b → ltS a.code b.code = true) : riseL L = true := by
  induction L with
  | nil => rfl
  | cons x L ih =>
    cases L with
    | nil => rfl
    | cons y L =>
      simp only [riseL, Bool.and_eq_true]
      exact ⟨h 0 x y rfl rfl, ih fun i a b ha hb => h (i + 1) a b (by simpa using ha) (by simpa using hb)⟩
theorem rise_no {L : List Acct} {i : Nat} {a b : Acct} (ha : L[i]? = some a) (hb : L[i + 1]? = some b) (h : ltS a.code b.code = false) : riseL L = false := by
  induction L generalizing i with
  | nil => simp at ha
  | cons x L ih =>
    cases i with
    | zero =>
      cases L with
      | nil => simp at hb
      | cons y L =>
        simp at ha hb
        subst ha hb
        simp [riseL, h]
    | succ i =>
      have := ih (i := i) (by simpa using ha) (by simpa using hb)
      cases L with
      | nil => simp at ha
      | cons y L => simp [riseL, this]
/-- What the loop of Find leaves open. -/
theorem find_at {L : List Acct} {c : ByteArray} {i : Nat} {x : Acct} (hb : ∀ (j : Nat) (y : Acct), j < i → L[j]? = some y → y.code ≠ c) (hx : L[i]? = some x) (h : x.code = c) : findL L c = some x := by
  induction L generalizing i with
  | nil => simp at hx
  | cons a L ih =>
    cases i with
    | zero => simp at hx; subst hx; simp [findL, h]
    | succ i =>
      have h0 := hb 0 a (by omega) rfl
      simp only [findL, if_neg h0]
      exact ih (i := i) (fun j y hj hy => hb (j + 1) y (by omega) (by simpa using hy)) (by simpa using hx)
theorem find_none {L : List Acct} {c : ByteArray} (h : ∀ (j : Nat) (y : Acct), L[j]? = some y → y.code ≠ c) : findL L c = none := by
  induction L with
  | nil => rfl
  | cons a L ih =>
    simp only [findL, if_neg (h 0 a rfl)]
    exact ih fun j y hy => h (j + 1) y (by simpa using hy)
theorem below_at {L : List Acct} {c : ByteArray} {i : Nat} {x : Acct} (hb : ∀ (j : Nat) (y : Acct), j < i → L[j]? = some y → gtS y.code c = false) (hx : L[i]? = some x) (h : gtS x.code c = true) : belowL L c = i := by
  induction L generalizing i with
  | nil => simp at hx
  | cons a L ih =>
    cases i with
    | zero => simp at hx; subst hx; simp [belowL, h]
    | succ i =>
      have h0 := hb 0 a (by omega) rfl
      simp only [belowL, h0, Bool.false_eq_true, if_false]
      rw [ih (i := i) (fun j y hj hy => hb (j + 1) y (by omega) (by simpa using hy)) (by simpa using hx)]
theorem below_none {L : List Acct} {c : ByteArray} (h : ∀ (j : Nat) (y : Acct), L[j]? = some y → gtS y.code c = false) : belowL L c = L.length := by
  induction L with
  | nil => rfl
  | cons a L ih =>
    simp only [belowL, h 0 a rfl, Bool.false_eq_true, if_false]
    rw [ih fun j y hy => h (j + 1) y (by simpa using hy)]
    rfl
end Go.Proofs.YtkacidoflmbjkaaDoor
