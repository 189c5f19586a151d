/- ChartPlain; ChartLists; SortedG; Sorted: texts put together (each begins with what it is). -/
import Derived.Test.YticdmlijacnjbaaGreatDoorM01
import Derived.Lib.SlicesS
/- The plain facts of layer chart: accounts, which may be, their words, the account of words, charts. No program in it. -/
namespace Go.Proofs.YticdmlijacnjbaaGreatDoor
open Go.RowKit

structure Acct where
  code : ByteArray
  cls : Int
  cash : Bool
  both : Bool
  fixed : ByteArray
  worn : Bool
theorem Acct.ext' {a b : Acct} (h0 : a.code = b.code) (h1 : a.cls = b.cls) (h2 : a.cash = b.cash) (h3 : a.both = b.both) (h4 : a.fixed = b.fixed) (h5 : a.worn = b.worn) : a = b := by
  cases a; cases b; simp_all
instance : DecidableEq Acct := fun a b =>
  if h : a.code = b.code ∧ a.cls = b.cls ∧ a.cash = b.cash ∧ a.both = b.both ∧ a.fixed = b.fixed ∧ a.worn = b.worn then isTrue (Acct.ext' h.1 h.2.1 h.2.2.1 h.2.2.2.1 h.2.2.2.2.1 h.2.2.2.2.2)
  else isFalse fun e => h (by subst e; exact ⟨rfl, rfl, rfl, rfl, rfl, rfl⟩)
/-- The six cells of an account. -/
def Acct.cells (a : Acct) : List Value := [.string a.code, .int .i64 a.cls, .bool a.cash, .bool a.both, .string a.fixed, .bool a.worn]
def zeroA : Acct := ⟨⟨#[]⟩, 0, false, false, ⟨#[]⟩, false⟩

def nmB (s : ByteArray) : Bool := nameL s.data.toList
theorem nmB_empty : nmB ⟨#[]⟩ = false := by decide
/-- Is a text not the empty one? -/
def neB (s : ByteArray) : Bool := !s.toList.isEmpty
theorem neB_empty : neB ⟨#[]⟩ = false := by unfold neB; rw [ByteArray.toList_eq]; rfl
theorem neB_iff (s : ByteArray) : neB s = true ↔ s ≠ ⟨#[]⟩ := by
  unfold neB
  constructor
  · intro h e; subst e; rw [ByteArray.toList_eq] at h; cases h
  · intro h
    cases hs : s.toList.isEmpty with
    | false => rfl
    | true =>
      refine absurd ?_ h
      obtain ⟨⟨l⟩⟩ := s
      rw [ByteArray.toList_eq] at hs
      simp at hs
      subst hs
      rfl
def marksA (a : Acct) : Bool :=
  if (neB a.fixed && !nmB a.fixed) = true then false
  else if (a.worn && !neB a.fixed) = true then false
  else if (a.cash && neB a.fixed) = true then false
  else if (a.cash && a.both) = true then false
  else if (neB a.fixed && a.both) = true then false
  else if (a.cash || neB a.fixed) = true then (a.cls == 0)
  else if a.both = true then (a.cls != 2)
  else true
def rightA (a : Acct) : Bool := nmB a.code && decide (0 ≤ a.cls) && decide (a.cls < 3) && marksA a

def tAccount : ByteArray := ⟨#[97, 99, 99, 111, 117, 110, 116]⟩
def tAsset : ByteArray := ⟨#[97, 115, 115, 101, 116]⟩
def tLiability : ByteArray := ⟨#[108, 105, 97, 98, 105, 108, 105, 116, 121]⟩
def tEquity : ByteArray := ⟨#[101, 113, 117, 105, 116, 121]⟩
def tCash : ByteArray := ⟨#[99, 97, 115, 104]⟩
def tMutual : ByteArray := ⟨#[109, 117, 116, 117, 97, 108]⟩
def tWorn : ByteArray := ⟨#[119, 111, 114, 110]⟩
def tFixed : ByteArray := ⟨#[102, 105, 120, 101, 100]⟩
/-- The word of a class. -/
def clsW (n : Int) : ByteArray := if n = 0 then tAsset else if n = 1 then tLiability else tEquity
/-- The words of the marks. -/
def markW (a : Acct) : List ByteArray := if a.cash = true then [tCash] else if a.both = true then [tMutual] else if a.worn = true then [tWorn, a.fixed] else if neB a.fixed = true then [tFixed, a.fixed] else []
def wordsA (a : Acct) : List ByteArray := if rightA a = true then tAccount :: a.code :: clsW a.cls :: markW a else []
/-- The class of a word. -/
def clsOf (s : ByteArray) : Int := if s = tAsset then 0 else if s = tLiability then 1 else if s = tEquity then 2 else -1
def markedA (a : Acct) : List ByteArray → Acct
  | [x] => { a with cash := decide (x = tCash), both := decide (x = tMutual) }
  | [x, y] => { a with fixed := y, worn := decide (x = tWorn) }
  | _ => a
def candA (ws : List ByteArray) : Acct := markedA ⟨ws.getD 1 ⟨#[]⟩, clsOf (ws.getD 2 ⟨#[]⟩), false, false, ⟨#[]⟩, false⟩ (ws.drop 3)
def parseA (ws : List ByteArray) : Acct × Int := if ws.length < 3 then (zeroA, 5) else if wordsA (candA ws) = ws then (candA ws, 0) else (zeroA, 5)

theorem right_parts {a : Acct} (h : rightA a = true) : nmB a.code = true ∧ (a.cls = 0 ∨ a.cls = 1 ∨ a.cls = 2) ∧ marksA a = true := by
  unfold rightA at h
  simp only [Bool.and_eq_true, decide_eq_true_eq] at h
  obtain ⟨⟨⟨h1, h2⟩, h3⟩, h4⟩ := h
  exact ⟨h1, by omega, h4⟩
/-- The marks that may be: none; cash; both; fixed; worn. -/
theorem marks_ways {a : Acct} (h : marksA a = true) :
    (a.cash = false ∧ a.both = false ∧ a.fixed = ⟨#[]⟩ ∧ a.worn = false) ∨
    (a.cash = true ∧ a.both = false ∧ a.fixed = ⟨#[]⟩ ∧ a.worn = false ∧ a.cls = 0) ∨
    (a.cash = false ∧ a.both = true ∧ a.fixed = ⟨#[]⟩ ∧ a.worn = false ∧ a.cls ≠ 2) ∨
    (a.cash = false ∧ a.both = false ∧ nmB a.fixed = true ∧ neB a.fixed = true ∧ a.worn = false ∧ a.cls = 0) ∨
    (a.cash = false ∧ a.both = false ∧ nmB a.fixed = true ∧ neB a.fixed = true ∧ a.worn = true ∧ a.cls = 0) := by
  obtain ⟨co, cl, ca, mu, fi, wo⟩ := a
  unfold marksA at h
  simp only at h ⊢
  by_cases hf : fi = ⟨#[]⟩
  · subst hf
    rw [neB_empty] at h ⊢
    cases ca <;> cases mu <;> cases wo <;> simp_all
  · have hn := (neB_iff fi).2 hf
    rw [hn] at h ⊢
    cases hm : nmB fi <;> cases ca <;> cases mu <;> cases wo <;> simp_all
theorem clsOf_clsW {n : Int} (h : n = 0 ∨ n = 1 ∨ n = 2) : clsOf (clsW n) = n := by
  rcases h with rfl | rfl | rfl <;> decide
theorem parse_words {a : Acct} (h : rightA a = true) : parseA (wordsA a) = (a, 0) := by
  obtain ⟨h1, h2, h3⟩ := right_parts h
  have hw : wordsA a = tAccount :: a.code :: clsW a.cls :: markW a := by unfold wordsA; rw [if_pos h]
  have hc : candA (wordsA a) = a := by
    rw [hw]
    unfold candA
    simp only [List.getD_cons_succ, List.getD_cons_zero, List.drop_succ_cons, List.drop_zero]
    rw [clsOf_clsW h2]
    have t1 : decide (tCash = tMutual) = false := by decide
    have t2 : decide (tMutual = tCash) = false := by decide
    have t3 : decide (tFixed = tWorn) = false := by decide
    rcases marks_ways h3 with ⟨e1, e2, e3, e4⟩ | ⟨e1, e2, e3, e4, e5⟩ | ⟨e1, e2, e3, e4, e5⟩ | ⟨e1, e2, e3, e6, e4, e5⟩ | ⟨e1, e2, e3, e6, e4, e5⟩ <;>
      obtain ⟨co, cl, ca, mu, fi, wo⟩ := a <;> simp only at e1 e2 e3 e4 ⊢ <;> subst e1 e2 e4
    · subst e3; simp [markW, markedA, neB_empty]
    · subst e3; simp [markW, markedA, t1]
    · subst e3; simp [markW, markedA, t2]
    · simp only at e6; simp [markW, markedA, e6, t3]
    · simp [markW, markedA]
  unfold parseA
  rw [hc, if_neg (by rw [hw]; simp), if_pos rfl]
theorem words_inj {a b : Acct} (ha : rightA a = true) (hb : rightA b = true) (h : wordsA a = wordsA b) : a = b := by
  have h1 := parse_words ha
  rw [h, parse_words hb] at h1
  exact (Prod.mk.inj h1).1.symm
theorem words_ne {a : Acct} (h : rightA a = true) : 3 ≤ (wordsA a).length := by
  unfold wordsA; rw [if_pos h]; simp
theorem words_nil {a : Acct} (h : rightA a = false) : wordsA a = [] := by unfold wordsA; rw [h]; rfl
theorem parse_ok {ws : List ByteArray} (h : (parseA ws).2 = 0) : wordsA (parseA ws).1 = ws ∧ rightA (parseA ws).1 = true := by
  unfold parseA at h ⊢
  by_cases h3 : ws.length < 3
  · rw [if_pos h3] at h; simp at h
  · rw [if_neg h3] at h ⊢
    by_cases hw : wordsA (candA ws) = ws
    · rw [if_pos hw]
      refine ⟨hw, ?_⟩
      cases hr : rightA (candA ws) with
      | true => rfl
      | false =>
        rw [words_nil hr] at hw
        subst hw
        simp at h3
    · rw [if_neg hw] at h; simp at h
theorem parse_err (ws : List ByteArray) : parseA ws = (zeroA, 5) ∨ (wordsA (parseA ws).1 = ws ∧ rightA (parseA ws).1 = true ∧ (parseA ws).2 = 0) := by
  by_cases h : (parseA ws).2 = 0
  · exact .inr ⟨(parse_ok h).1, (parse_ok h).2, h⟩
  · left
    unfold parseA at h ⊢
    split
    · rfl
    · split
      · rename_i h1 h2; rw [if_neg h1, if_pos h2] at h; exact absurd rfl h
      · rfl
theorem parse_of {a : Acct} {ws : List ByteArray} (hr : rightA a = true) (h : wordsA a = ws) : parseA ws = (a, 0) := by rw [← h]; exact parse_words hr

/-! ### Charts -/
def ltS (x y : ByteArray) : Bool := Op.bytesLess x.toList y.toList
theorem less_iff : ∀ (x y : List UInt8), Op.bytesLess x y = true ↔ x < y
  | [], [] => by simp [Op.bytesLess]
  | [], _ :: _ => by simp [Op.bytesLess]
  | _ :: _, [] => by simp [Op.bytesLess]
  | a :: x, b :: y => by
    have ih := less_iff x y
    rw [List.cons_lt_cons_iff]
    unfold Op.bytesLess
    by_cases h : a = b
    · subst h; simp [ih]
    · simp [h]
theorem ltS_iff (x y : ByteArray) : ltS x y = true ↔ x.toList < y.toList := by unfold ltS; exact less_iff _ _
theorem toList_inj {x y : ByteArray} (h : x.toList = y.toList) : x = y := by
  rw [ByteArray.toList_eq, ByteArray.toList_eq] at h
  obtain ⟨⟨a⟩⟩ := x; obtain ⟨⟨b⟩⟩ := y
  simp at h; rw [h]
theorem ltS_trans {x y z : ByteArray} (h1 : ltS x y = true) (h2 : ltS y z = true) : ltS x z = true := by
  rw [ltS_iff] at *; exact List.lt_trans h1 h2
theorem ltS_irr (x : ByteArray) : ltS x x = false := by
  cases h : ltS x x with
  | false => rfl
  | true => rw [ltS_iff] at h; exact absurd h (List.lt_irrefl _)
theorem ltS_asymm {x y : ByteArray} (h : ltS x y = true) : ltS y x = false := by
  cases h' : ltS y x with
  | false => rfl
  | true => rw [← ltS_irr x]; exact (ltS_trans h h').symm
theorem less_total : ∀ (x y : List UInt8), Op.bytesLess x y = false → x ≠ y → Op.bytesLess y x = true
  | [], [], _, h => absurd rfl h
  | [], _ :: _, h, _ => by simp [Op.bytesLess] at h
  | _ :: _, [], _, _ => by simp [Op.bytesLess]
  | a :: x, b :: y, h, hne => by
    unfold Op.bytesLess at h ⊢
    simp only [Bool.or_eq_false_iff, decide_eq_false_iff_not, Bool.and_eq_false_iff, beq_eq_false_iff_ne, Bool.or_eq_true, decide_eq_true_eq, Bool.and_eq_true, beq_iff_eq] at h ⊢
    by_cases hab : a = b
    · subst hab
      refine .inr ⟨rfl, less_total x y ?_ (fun e => hne (by rw [e]))⟩
      rcases h.2 with h' | h'
      · exact absurd rfl h'
      · exact h'
    · left
      rw [UInt8.lt_iff_toNat_lt] at h ⊢
      have : a.toNat ≠ b.toNat := fun e => hab (UInt8.toNat_inj.1 e)
      omega
theorem ltS_total {x y : ByteArray} (h : ltS x y = false) (hne : x ≠ y) : ltS y x = true := less_total _ _ h (fun e => hne (toList_inj e))
end Go.Proofs.YticdmlijacnjbaaGreatDoor
/- The plain facts of charts: the account of a code, the place of one, an account more, codes that rise. No program in it. -/
namespace Go.Proofs.YticdmlijacnjbaaGreatDoor
open Go.RowKit

def gtS (x y : ByteArray) : Bool := !(ltS x y || x.toList == y.toList)
theorem gtS_iff (x y : ByteArray) : gtS x y = true ↔ ltS y x = true := by
  unfold gtS
  constructor
  · intro h
    simp only [Bool.not_eq_true', Bool.or_eq_false_iff] at h
    exact ltS_total h.1 (fun e => by subst e; simp at h)
  · intro h
    rw [ltS_asymm h]
    have : (x.toList == y.toList) = false := by
      cases e : x.toList == y.toList with
      | false => rfl
      | true =>
        have := toList_inj (eq_of_beq e)
        subst this
        rw [ltS_irr] at h; cases h
    rw [this]; rfl
theorem gtS_no {x y : ByteArray} (h : gtS x y = false) (hne : x ≠ y) : ltS x y = true := by
  cases h' : ltS x y with
  | true => rfl
  | false => rw [(gtS_iff x y).2 (ltS_total h' hne)] at h; cases h
/-- The account of a code. -/
def findL : List Acct → ByteArray → Option Acct
  | [], _ => none
  | a :: L, c => if a.code = c then some a else findL L c
/-- How many stand ahead of where a code belongs. -/
def belowL : List Acct → ByteArray → Nat
  | [], _ => 0
  | a :: L, c => if gtS a.code c = true then 0 else belowL L c + 1
def insL : List Acct → Acct → List Acct
  | [], x => [x]
  | a :: L, x => if gtS a.code x.code = true then x :: a :: L else a :: insL L x
def addE (L : List Acct) (a : Acct) : Int := if rightA a = false then 1 else if (findL L a.code).isSome = true then 7 else if 60 ≤ L.length then 4 else 0
def addV (L : List Acct) (a : Acct) : List Acct := if addE L a = 0 then insL L a else L
def riseL : List Acct → Bool
  | a :: b :: L => ltS a.code b.code && riseL (b :: L)
  | _ => true
theorem belowL_le (L : List Acct) (c : ByteArray) : belowL L c ≤ L.length := by
  induction L with
  | nil => exact Nat.le_refl _
  | cons a L ih => simp only [belowL]; split <;> simp; omega
theorem insL_eq (L : List Acct) (x : Acct) : insL L x = L.take (belowL L x.code) ++ x :: L.drop (belowL L x.code) := by
  induction L with
  | nil => rfl
  | cons a L ih =>
    simp only [insL, belowL]
    split
    · rfl
    · rw [ih]; simp
theorem insL_length (L : List Acct) (x : Acct) : (insL L x).length = L.length + 1 := by
  induction L with
  | nil => rfl
  | cons a L ih => simp only [insL]; split <;> simp [ih]
theorem addE_zero {L : List Acct} {a : Acct} (h : addE L a = 0) : rightA a = true ∧ findL L a.code = none ∧ L.length < 60 := by
  unfold addE at h
  cases hr : rightA a with
  | false => rw [hr] at h; simp at h
  | true =>
    rw [hr] at h
    simp only [Bool.true_eq_false, if_false] at h
    cases hf : findL L a.code with
    | some x => rw [hf] at h; simp at h
    | none =>
      rw [hf] at h
      simp only [Option.isSome_none, Bool.false_eq_true, if_false] at h
      refine ⟨rfl, rfl, ?_⟩
      split at h
      · simp at h
      · omega
theorem find_mem {L : List Acct} {c : ByteArray} {x : Acct} (h : findL L c = some x) : x.code = c ∧ x ∈ L := by
  induction L with
  | nil => cases h
  | cons a L ih =>
    simp only [findL] at h
    split at h
    · cases h; exact ⟨by assumption, List.mem_cons_self⟩
    · exact ⟨(ih h).1, List.mem_cons_of_mem _ (ih h).2⟩
theorem find_ins (L : List Acct) (x : Acct) (c : ByteArray) (h : findL L x.code = none) : findL (insL L x) c = if x.code = c then some x else findL L c := by
  induction L with
  | nil => simp [insL, findL]
  | cons a L ih =>
    simp only [findL] at h
    split at h
    · cases h
    · rename_i hne
      simp only [insL]
      split
      · simp [findL]
      · simp only [findL]
        rw [ih h]
        by_cases h1 : a.code = c
        · have : x.code ≠ c := fun e => hne (by rw [h1, e])
          simp [h1, this]
        · simp [h1]
theorem rise_tail {a : Acct} {L : List Acct} (h : riseL (a :: L) = true) : riseL L = true := by
  cases L with
  | nil => rfl
  | cons b L => simp only [riseL, Bool.and_eq_true] at h; exact h.2
theorem rise_ins (L : List Acct) (x : Acct) (hr : riseL L = true) (h : findL L x.code = none) : riseL (insL L x) = true := by
  induction L with
  | nil => rfl
  | cons a L ih =>
    simp only [findL] at h
    split at h
    · cases h
    · rename_i hne
      simp only [insL]
      split
      · rename_i hg
        simp only [riseL, Bool.and_eq_true]
        exact ⟨(gtS_iff _ _).1 hg, hr⟩
      · rename_i hg
        have hlt : ltS a.code x.code = true := gtS_no (by simpa using hg) hne
        have ih' := ih (rise_tail hr) h
        cases L with
        | nil => simp [insL, riseL, hlt]
        | cons b L =>
          simp only [insL] at ih' ⊢
          split
          · rename_i hg2
            rw [if_pos hg2] at ih'
            simp only [riseL, Bool.and_eq_true] at ih' ⊢
            exact ⟨hlt, ih'⟩
          · rename_i hg2
            rw [if_neg hg2] at ih'
            simp only [riseL, Bool.and_eq_true] at hr
            cases hL : insL L x with
            | nil => simp [riseL, hr.1]
            | cons c M =>
              rw [hL] at ih'
              simp only [riseL, Bool.and_eq_true] at ih' ⊢
              exact ⟨hr.1, ih'⟩
theorem rise_of {L : List Acct} (h : ∀ (i : Nat) (a b : Acct), L[i]? = some a → L[i + 1]? = some b → ltS a.code b.code = true) : riseL L = true := by
  induction L with
  | nil => rfl
  | cons x L ih =>
    cases L with
    | nil => rfl
    | cons y L =>
      simp only [riseL, Bool.and_eq_true]
      exact ⟨h 0 x y rfl rfl, ih fun i a b ha hb => h (i + 1) a b (by simpa using ha) (by simpa using hb)⟩
theorem rise_no {L : List Acct} {i : Nat} {a b : Acct} (ha : L[i]? = some a) (hb : L[i + 1]? = some b) (h : ltS a.code b.code = false) : riseL L = false := by
  induction L generalizing i with
  | nil => simp at ha
  | cons x L ih =>
    cases i with
    | zero =>
      cases L with
      | nil => simp at hb
      | cons y L =>
        simp at ha hb
        subst ha hb
        simp [riseL, h]
    | succ i =>
      have := ih (i := i) (by simpa using ha) (by simpa using hb)
      cases L with
      | nil => simp at ha
      | cons y L => simp [riseL, this]
/-- What the loop of Find leaves open. -/
theorem find_at {L : List Acct} {c : ByteArray} {i : Nat} {x : Acct} (hb : ∀ (j : Nat) (y : Acct), j < i → L[j]? = some y → y.code ≠ c) (hx : L[i]? = some x) (h : x.code = c) : findL L c = some x := by
  induction L generalizing i with
  | nil => simp at hx
  | cons a L ih =>
    cases i with
    | zero => simp at hx; subst hx; simp [findL, h]
    | succ i =>
      have h0 := hb 0 a (by omega) rfl
      simp only [findL, if_neg h0]
      exact ih (i := i) (fun j y hj hy => hb (j + 1) y (by omega) (by simpa using hy)) (by simpa using hx)
theorem find_none {L : List Acct} {c : ByteArray} (h : ∀ (j : Nat) (y : Acct), L[j]? = some y → y.code ≠ c) : findL L c = none := by
  induction L with
  | nil => rfl
  | cons a L ih =>
    simp only [findL, if_neg (h 0 a rfl)]
    exact ih fun j y hy => h (j + 1) y (by simpa using hy)
theorem below_at {L : List Acct} {c : ByteArray} {i : Nat} {x : Acct} (hb : ∀ (j : Nat) (y : Acct), j < i → L[j]? = some y → gtS y.code c = false) (hx : L[i]? = some x) (h : gtS x.code c = true) : belowL L c = i := by
  induction L generalizing i with
  | nil => simp at hx
  | cons a L ih =>
    cases i with
    | zero => simp at hx; subst hx; simp [belowL, h]
    | succ i =>
      have h0 := hb 0 a (by omega) rfl
      simp only [belowL, h0, Bool.false_eq_true, if_false]
      rw [ih (i := i) (fun j y hj hy => hb (j + 1) y (by omega) (by simpa using hy)) (by simpa using hx)]
theorem below_none {L : List Acct} {c : ByteArray} (h : ∀ (j : Nat) (y : Acct), L[j]? = some y → gtS y.code c = false) : belowL L c = L.length := by
  induction L with
  | nil => rfl
  | cons a L ih =>
    simp only [belowL, h 0 a rfl, Bool.false_eq_true, if_false]
    rw [ih fun j y hy => h (j + 1) y (by simpa using hy)]
    rfl
end Go.Proofs.YticdmlijacnjbaaGreatDoor
/- Lists by rising keys of any kind that has an order: the place of a key, the element of one, an element more; a list by rising keys is told by what it holds. No program in it. -/
namespace Go.Proofs.YticdmlijacnjbaaGreatDoor.G
open Go.RowKit
/-- Keys that stand in one order. -/
class KeyO (κ : Type) where
  lt : κ → κ → Bool
  trans : ∀ {x y z : κ}, lt x y = true → lt y z = true → lt x z = true
  irr : ∀ x : κ, lt x x = false
  total : ∀ {x y : κ}, lt x y = false → x ≠ y → lt y x = true
instance : KeyO ByteArray := ⟨ltS, ltS_trans, ltS_irr, ltS_total⟩
/-- Two texts, by the first ones, and by the second ones if these are the same. -/
def ltP (x y : ByteArray × ByteArray) : Bool := ltS x.1 y.1 || (decide (x.1 = y.1) && ltS x.2 y.2)
theorem ltP_iff (x y : ByteArray × ByteArray) : ltP x y = true ↔ ltS x.1 y.1 = true ∨ (x.1 = y.1 ∧ ltS x.2 y.2 = true) := by simp [ltP]
instance : KeyO (ByteArray × ByteArray) where
  lt := ltP
  trans := by
    intro x y z h1 h2
    rw [ltP_iff] at *
    rcases h1 with h1 | ⟨e1, h1⟩ <;> rcases h2 with h2 | ⟨e2, h2⟩
    · exact .inl (ltS_trans h1 h2)
    · exact .inl (by rw [← e2]; exact h1)
    · exact .inl (by rw [e1]; exact h2)
    · exact .inr ⟨e1.trans e2, ltS_trans h1 h2⟩
  irr := by intro x; simp [ltP, ltS_irr]
  total := by
    intro x y h hne
    rw [ltP_iff]
    simp only [ltP, Bool.or_eq_false_iff, Bool.and_eq_false_iff, decide_eq_false_iff_not] at h
    by_cases e : x.1 = y.1
    · refine .inr ⟨e.symm, ltS_total ?_ (fun e2 => hne (Prod.ext e e2))⟩
      rcases h.2 with h2 | h2
      · exact absurd e h2
      · exact h2
    · exact .inl (ltS_total h.1 e)
section
variable {α κ : Type} [KeyO κ] (key : α → κ)
/-- How many stand ahead of a key. -/
def placeK : List α → κ → Nat
  | [], _ => 0
  | a :: L, c => if KeyO.lt (key a) c = true then placeK L c + 1 else 0
def insK (L : List α) (x : α) : List α := L.take (placeK key L (key x)) ++ x :: L.drop (placeK key L (key x))
def riseK : List α → Bool
  | a :: b :: L => KeyO.lt (key a) (key b) && riseK (b :: L)
  | _ => true
variable {key}
theorem placeK_le (L : List α) (c : κ) : placeK key L c ≤ L.length := by
  induction L with
  | nil => exact Nat.le_refl _
  | cons a L ih => simp only [placeK]; split <;> simp; omega
theorem insK_length (L : List α) (x : α) : (insK key L x).length = L.length + 1 := by
  have := placeK_le (key := key) L (key x)
  simp [insK]; omega
theorem insK_cons (a x : α) (L : List α) : insK key (a :: L) x = if KeyO.lt (key a) (key x) = true then a :: insK key L x else x :: a :: L := by
  unfold insK
  simp only [placeK]
  split <;> simp
theorem mem_ins {L : List α} {x y : α} : y ∈ insK key L x ↔ y = x ∨ y ∈ L := by
  unfold insK
  rw [List.mem_append, List.mem_cons]
  constructor
  · rintro (h | h | h)
    · exact .inr (List.mem_of_mem_take h)
    · exact .inl h
    · exact .inr (List.mem_of_mem_drop h)
  · rintro (h | h)
    · exact .inr (.inl h)
    · rw [← List.take_append_drop (placeK key L (key x)) L, List.mem_append] at h
      rcases h with h | h
      · exact .inl h
      · exact .inr (.inr h)
theorem filter_ins_no {p : α → Bool} (L : List α) {x : α} (h : p x = false) : (insK key L x).filter p = L.filter p := by
  unfold insK
  rw [List.filter_append, List.filter_cons, h]
  simp only [Bool.false_eq_true, if_false]
  rw [← List.filter_append, List.take_append_drop]
theorem filter_ins_length {p : α → Bool} (L : List α) {x : α} (h : p x = true) : ((insK key L x).filter p).length = (L.filter p).length + 1 := by
  have e : (L.filter p).length = ((L.take (placeK key L (key x))).filter p).length + ((L.drop (placeK key L (key x))).filter p).length := by
    rw [← List.length_append, ← List.filter_append, List.take_append_drop]
  unfold insK
  rw [List.filter_append, List.filter_cons, h]
  simp only [if_true, List.length_append, List.length_cons]
  omega
theorem riseK_tail {a : α} {L : List α} (h : riseK key (a :: L) = true) : riseK key L = true := by
  cases L with
  | nil => rfl
  | cons b L => simp only [riseK, Bool.and_eq_true] at h; exact h.2
theorem riseK_head {a : α} {L : List α} (h : riseK key (a :: L) = true) : ∀ y ∈ L, KeyO.lt (key a) (key y) = true := by
  induction L generalizing a with
  | nil => intro y hy; cases hy
  | cons b L ih =>
    simp only [riseK, Bool.and_eq_true] at h
    intro y hy
    rcases List.mem_cons.1 hy with rfl | hy
    · exact h.1
    · exact KeyO.trans h.1 (ih h.2 y hy)
theorem riseK_cons {a : α} {L : List α} (h1 : ∀ y ∈ L, KeyO.lt (key a) (key y) = true) (h2 : riseK key L = true) : riseK key (a :: L) = true := by
  cases L with
  | nil => rfl
  | cons b L => simp only [riseK, Bool.and_eq_true]; exact ⟨h1 b List.mem_cons_self, h2⟩
theorem riseK_of {L : List α} (h : ∀ (i : Nat) (a b : α), L[i]? = some a → L[i + 1]? = some b → KeyO.lt (key a) (key b) = true) : riseK key L = true := by
  induction L with
  | nil => rfl
  | cons x L ih =>
    cases L with
    | nil => rfl
    | cons y L =>
      simp only [riseK, Bool.and_eq_true]
      exact ⟨h 0 x y rfl rfl, ih fun i a b ha hb => h (i + 1) a b (by simpa using ha) (by simpa using hb)⟩
theorem riseK_at {L : List α} (h : riseK key L = true) {i j : Nat} {x y : α} (hij : i < j) (hx : L[i]? = some x) (hy : L[j]? = some y) : KeyO.lt (key x) (key y) = true := by
  induction L generalizing i j with
  | nil => simp at hx
  | cons a L ih =>
    cases j with
    | zero => omega
    | succ j =>
      cases i with
      | zero =>
        simp at hx hy
        subst hx
        exact riseK_head h y (List.mem_of_getElem? hy)
      | succ i =>
        simp at hx hy
        exact ih (riseK_tail h) (by omega) hx hy
theorem riseK_no {L : List α} {i : Nat} {a b : α} (ha : L[i]? = some a) (hb : L[i + 1]? = some b) (h : KeyO.lt (key a) (key b) = false) : riseK key L = false := by
  cases hr : riseK key L with
  | false => rfl
  | true => rw [riseK_at hr (Nat.lt_succ_self i) ha hb] at h; cases h
theorem riseK_uniq {L : List α} (h : riseK key L = true) {x y : α} (hx : x ∈ L) (hy : y ∈ L) (e : key x = key y) : x = y := by
  obtain ⟨i, hi, hix⟩ := List.getElem_of_mem hx
  obtain ⟨j, hj, hjy⟩ := List.getElem_of_mem hy
  have h1 : L[i]? = some x := by rw [List.getElem?_eq_getElem hi, hix]
  have h2 : L[j]? = some y := by rw [List.getElem?_eq_getElem hj, hjy]
  rcases Nat.lt_trichotomy i j with hl | hl | hl
  · have := riseK_at h hl h1 h2; rw [e, KeyO.irr] at this; cases this
  · subst hl; rw [h1] at h2; exact Option.some.inj h2
  · have := riseK_at h hl h2 h1; rw [e, KeyO.irr] at this; cases this
/-- What stands ahead of a place is below, what stands there is not: it is the place. -/
theorem placeK_at {L : List α} {c : κ} {i : Nat} (hi : i ≤ L.length) (hb : ∀ (j : Nat) (y : α), j < i → L[j]? = some y → KeyO.lt (key y) c = true) (hx : ∀ y, L[i]? = some y → KeyO.lt (key y) c = false) : placeK key L c = i := by
  induction L generalizing i with
  | nil => simp at hi; subst hi; rfl
  | cons a L ih =>
    cases i with
    | zero => simp only [placeK, hx a rfl, Bool.false_eq_true, if_false]
    | succ i =>
      simp only [placeK, hb 0 a (by omega) rfl, if_true]
      rw [ih (i := i) (by simpa using hi) (fun j y hj hy => hb (j + 1) y (by omega) (by simpa using hy)) (fun y hy => hx y (by simpa using hy))]
theorem placeK_below {L : List α} {c : κ} : ∀ (j : Nat) (y : α), j < placeK key L c → L[j]? = some y → KeyO.lt (key y) c = true := by
  induction L with
  | nil => intro j y _ h; simp at h
  | cons a L ih =>
    intro j y hj hy
    simp only [placeK] at hj
    split at hj
    · cases j with
      | zero => simp at hy; subst hy; assumption
      | succ j => exact ih j y (by omega) (by simpa using hy)
    · omega
theorem placeK_there {L : List α} {c : κ} {y : α} (h : L[placeK key L c]? = some y) : KeyO.lt (key y) c = false := by
  induction L with
  | nil => simp at h
  | cons a L ih =>
    simp only [placeK] at h
    split at h
    · exact ih (by simpa using h)
    · simp at h; subst h; simp_all
theorem ins_perm (L : List α) (x : α) : (insK key L x).Perm (x :: L) := by
  unfold insK
  refine (List.perm_middle).trans ?_
  rw [List.take_append_drop]
/-- A list by rising keys is told by what it holds. -/
theorem rise_perm {L M : List α} (hL : riseK key L = true) (hM : riseK key M = true) (h : L.Perm M) : L = M := by
  induction L generalizing M with
  | nil => exact (List.nil_perm.1 h).symm
  | cons a L ih =>
    cases M with
    | nil => exact absurd (List.perm_nil.1 h) (by simp)
    | cons b M =>
      have hab : a = b := by
        rcases List.mem_cons.1 (h.mem_iff.1 (List.mem_cons_self (a := a) (l := L))) with e | h1
        · exact e
        · rcases List.mem_cons.1 (h.mem_iff.2 (List.mem_cons_self (a := b) (l := M))) with e | h2
          · exact e.symm
          · have h3 := KeyO.trans (riseK_head hL b h2) (riseK_head hM a h1)
            rw [KeyO.irr] at h3; cases h3
      subst hab
      rw [ih (riseK_tail hL) (riseK_tail hM) ((List.perm_cons a).1 h)]
theorem rise_nodup {L : List α} (h : riseK key L = true) : (L.map key).Nodup := by
  induction L with
  | nil => exact List.nodup_nil
  | cons a L ih =>
    rw [List.map_cons, List.nodup_cons]
    refine ⟨fun hm => ?_, ih (riseK_tail h)⟩
    obtain ⟨y, hy, e⟩ := List.mem_map.1 hm
    have := riseK_head h y hy
    rw [e, KeyO.irr] at this; cases this
/-- An element more, put ahead of the first one whose key is above. -/
def insR (key : α → κ) : List α → α → List α
  | [], x => [x]
  | a :: L, x => if KeyO.lt (key x) (key a) = true then x :: a :: L else a :: insR key L x
end
section
variable {α κ : Type} [DecidableEq κ] (key : α → κ)
/-- The first element of a key. -/
def findK : List α → κ → Option α
  | [], _ => none
  | a :: L, c => if key a = c then some a else findK L c
variable {key}
theorem findK_mem {L : List α} {c : κ} {x : α} (h : findK key L c = some x) : key x = c ∧ x ∈ L := by
  induction L with
  | nil => cases h
  | cons a L ih =>
    simp only [findK] at h
    split at h
    · cases h; exact ⟨by assumption, List.mem_cons_self⟩
    · exact ⟨(ih h).1, List.mem_cons_of_mem _ (ih h).2⟩
theorem findK_no {L : List α} {c : κ} (h : findK key L c = none) : ∀ x ∈ L, key x ≠ c := by
  induction L with
  | nil => intro x hx; cases hx
  | cons a L ih =>
    simp only [findK] at h
    split at h
    · cases h
    · intro x hx
      rcases List.mem_cons.1 hx with rfl | hx
      · assumption
      · exact ih h x hx
theorem findK_none {L : List α} {c : κ} (h : ∀ x ∈ L, key x ≠ c) : findK key L c = none := by
  cases hf : findK key L c with
  | none => rfl
  | some x => exact absurd (findK_mem hf).1 (h x (findK_mem hf).2)
end
section
variable {α κ : Type} [DecidableEq κ] [KeyO κ] {key : α → κ}
theorem findK_ins (L : List α) (x : α) (c : κ) (h : findK key L (key x) = none) : findK key (insK key L x) c = if key x = c then some x else findK key L c := by
  induction L with
  | nil => simp [insK, placeK, findK]
  | cons a L ih =>
    simp only [findK] at h
    split at h
    · cases h
    · rename_i hne
      rw [insK_cons]
      split
      · simp only [findK]
        rw [ih h]
        by_cases h1 : key a = c
        · have : key x ≠ c := fun e => hne (by rw [h1, e])
          simp [h1, this]
        · simp [h1]
      · simp [findK]
theorem riseK_ins (L : List α) (x : α) (hr : riseK key L = true) (h : findK key L (key x) = none) : riseK key (insK key L x) = true := by
  induction L with
  | nil => rfl
  | cons a L ih =>
    have hne : key a ≠ key x := findK_no h a List.mem_cons_self
    rw [insK_cons]
    split
    · rename_i hg
      refine riseK_cons (fun y hy => ?_) (ih (riseK_tail hr) (findK_none fun y hy => findK_no h y (List.mem_cons_of_mem _ hy)))
      rcases mem_ins.1 hy with rfl | hy
      · exact hg
      · exact riseK_head hr y hy
    · rename_i hg
      have hlt : KeyO.lt (key x) (key a) = true := KeyO.total (by simpa using hg) hne
      simp only [riseK, Bool.and_eq_true]
      exact ⟨hlt, hr⟩
theorem findK_of_mem {L : List α} (h : riseK key L = true) {x : α} (hx : x ∈ L) : findK key L (key x) = some x := by
  cases hf : findK key L (key x) with
  | none => exact absurd rfl (findK_no hf x hx)
  | some y => rw [riseK_uniq h (findK_mem hf).2 hx (findK_mem hf).1]
/-- Is the element of a key at its place? -/
def isK (key : α → κ) (L : List α) (c : κ) : Bool := match L[placeK key L c]? with
  | some x => decide (key x = c)
  | none => false
theorem isK_find {L : List α} (h : riseK key L = true) (c : κ) : isK key L c = (findK key L c).isSome ∧ (isK key L c = true → L[placeK key L c]? = findK key L c) := by
  unfold isK
  cases hp : L[placeK key L c]? with
  | none =>
    have hlen : L.length ≤ placeK key L c := List.getElem?_eq_none_iff.1 hp
    have hf : findK key L c = none := findK_none fun x hx e => by
      obtain ⟨i, hi, hix⟩ := List.getElem_of_mem hx
      have := placeK_below (key := key) (L := L) (c := c) i x (by omega) (by rw [List.getElem?_eq_getElem hi, hix])
      rw [e, KeyO.irr] at this; cases this
    rw [hf]; exact ⟨rfl, fun h => by cases h⟩
  | some x =>
    simp only
    by_cases e : key x = c
    · have hm := List.mem_of_getElem? hp
      have hf := findK_of_mem h hm
      rw [e] at hf
      rw [hf]; exact ⟨by simp [e], fun _ => rfl⟩
    · have hf : findK key L c = none := findK_none fun y hy ey => by
        obtain ⟨i, hi, hiy⟩ := List.getElem_of_mem hy
        have h1 : L[i]? = some y := by rw [List.getElem?_eq_getElem hi, hiy]
        rcases Nat.lt_trichotomy i (placeK key L c) with hl | hl | hl
        · have := placeK_below (key := key) (L := L) (c := c) i y hl h1; rw [ey, KeyO.irr] at this; cases this
        · rw [hl, hp] at h1; cases h1; exact e ey
        · have h2 := riseK_at h hl hp h1
          rw [ey, placeK_there hp] at h2; cases h2
      rw [hf]; exact ⟨by simp [e], fun h => by simp [e] at h⟩
theorem insR_eq {L : List α} {x : α} (hr : riseK key L = true) (h : findK key L (key x) = none) : insR key L x = insK key L x := by
  induction L with
  | nil => rfl
  | cons a L ih =>
    have hne : key a ≠ key x := findK_no h a List.mem_cons_self
    rw [insK_cons]
    simp only [insR]
    by_cases hl : KeyO.lt (key x) (key a) = true
    · have : KeyO.lt (key a) (key x) = false := by
        cases h2 : KeyO.lt (key a) (key x) with
        | false => rfl
        | true => have := KeyO.trans hl h2; rw [KeyO.irr] at this; cases this
      rw [if_pos hl, if_neg (by rw [this]; simp)]
    · have h2 := KeyO.total (by simpa using hl) (fun e => hne e.symm)
      rw [if_neg hl, if_pos h2, ih (riseK_tail hr) (findK_none fun y hy => findK_no h y (List.mem_cons_of_mem _ hy))]

end
end Go.Proofs.YticdmlijacnjbaaGreatDoor.G
/- Lists by rising keys (texts), over any elements: the place of a key, the element of one, an element more. No program in it. -/
namespace Go.Proofs.YticdmlijacnjbaaGreatDoor
open Go.RowKit
section
variable {α : Type} (key : α → ByteArray)
/-- The first element of a key. -/
def findK : List α → ByteArray → Option α
  | [], _ => none
  | a :: L, c => if key a = c then some a else findK L c
/-- How many stand ahead of a key. -/
def placeK : List α → ByteArray → Nat
  | [], _ => 0
  | a :: L, c => if ltS (key a) c = true then placeK L c + 1 else 0
def insK (L : List α) (x : α) : List α := L.take (placeK key L (key x)) ++ x :: L.drop (placeK key L (key x))
def riseK : List α → Bool
  | a :: b :: L => ltS (key a) (key b) && riseK (b :: L)
  | _ => true
variable {key}
theorem placeK_le (L : List α) (c : ByteArray) : placeK key L c ≤ L.length := by
  induction L with
  | nil => exact Nat.le_refl _
  | cons a L ih => simp only [placeK]; split <;> simp; omega
theorem insK_length (L : List α) (x : α) : (insK key L x).length = L.length + 1 := by
  have := placeK_le (key := key) L (key x)
  simp [insK]; omega
theorem insK_cons (a x : α) (L : List α) : insK key (a :: L) x = if ltS (key a) (key x) = true then a :: insK key L x else x :: a :: L := by
  unfold insK
  simp only [placeK]
  split <;> simp
theorem mem_ins {L : List α} {x y : α} : y ∈ insK key L x ↔ y = x ∨ y ∈ L := by
  unfold insK
  rw [List.mem_append, List.mem_cons]
  constructor
  · rintro (h | h | h)
    · exact .inr (List.mem_of_mem_take h)
    · exact .inl h
    · exact .inr (List.mem_of_mem_drop h)
  · rintro (h | h)
    · exact .inr (.inl h)
    · rw [← List.take_append_drop (placeK key L (key x)) L, List.mem_append] at h
      rcases h with h | h
      · exact .inl h
      · exact .inr (.inr h)
theorem filter_ins_no {p : α → Bool} (L : List α) {x : α} (h : p x = false) : (insK key L x).filter p = L.filter p := by
  unfold insK
  rw [List.filter_append, List.filter_cons, h]
  simp only [Bool.false_eq_true, if_false]
  rw [← List.filter_append, List.take_append_drop]
theorem filter_ins_length {p : α → Bool} (L : List α) {x : α} (h : p x = true) : ((insK key L x).filter p).length = (L.filter p).length + 1 := by
  have e : (L.filter p).length = ((L.take (placeK key L (key x))).filter p).length + ((L.drop (placeK key L (key x))).filter p).length := by
    rw [← List.length_append, ← List.filter_append, List.take_append_drop]
  unfold insK
  rw [List.filter_append, List.filter_cons, h]
  simp only [if_true, List.length_append, List.length_cons]
  omega
theorem findK_mem {L : List α} {c : ByteArray} {x : α} (h : findK key L c = some x) : key x = c ∧ x ∈ L := by
  induction L with
  | nil => cases h
  | cons a L ih =>
    simp only [findK] at h
    split at h
    · cases h; exact ⟨by assumption, List.mem_cons_self⟩
    · exact ⟨(ih h).1, List.mem_cons_of_mem _ (ih h).2⟩
theorem findK_no {L : List α} {c : ByteArray} (h : findK key L c = none) : ∀ x ∈ L, key x ≠ c := by
  induction L with
  | nil => intro x hx; cases hx
  | cons a L ih =>
    simp only [findK] at h
    split at h
    · cases h
    · intro x hx
      rcases List.mem_cons.1 hx with rfl | hx
      · assumption
      · exact ih h x hx
theorem findK_none {L : List α} {c : ByteArray} (h : ∀ x ∈ L, key x ≠ c) : findK key L c = none := by
  cases hf : findK key L c with
  | none => rfl
  | some x => exact absurd (findK_mem hf).1 (h x (findK_mem hf).2)
theorem findK_ins (L : List α) (x : α) (c : ByteArray) (h : findK key L (key x) = none) : findK key (insK key L x) c = if key x = c then some x else findK key L c := by
  induction L with
  | nil => simp [insK, placeK, findK]
  | cons a L ih =>
    simp only [findK] at h
    split at h
    · cases h
    · rename_i hne
      rw [insK_cons]
      split
      · simp only [findK]
        rw [ih h]
        by_cases h1 : key a = c
        · have : key x ≠ c := fun e => hne (by rw [h1, e])
          simp [h1, this]
        · simp [h1]
      · simp [findK]
theorem riseK_tail {a : α} {L : List α} (h : riseK key (a :: L) = true) : riseK key L = true := by
  cases L with
  | nil => rfl
  | cons b L => simp only [riseK, Bool.and_eq_true] at h; exact h.2
theorem riseK_head {a : α} {L : List α} (h : riseK key (a :: L) = true) : ∀ y ∈ L, ltS (key a) (key y) = true := by
  induction L generalizing a with
  | nil => intro y hy; cases hy
  | cons b L ih =>
    simp only [riseK, Bool.and_eq_true] at h
    intro y hy
    rcases List.mem_cons.1 hy with rfl | hy
    · exact h.1
    · exact ltS_trans h.1 (ih h.2 y hy)
theorem riseK_cons {a : α} {L : List α} (h1 : ∀ y ∈ L, ltS (key a) (key y) = true) (h2 : riseK key L = true) : riseK key (a :: L) = true := by
  cases L with
  | nil => rfl
  | cons b L => simp only [riseK, Bool.and_eq_true]; exact ⟨h1 b List.mem_cons_self, h2⟩
theorem riseK_ins (L : List α) (x : α) (hr : riseK key L = true) (h : findK key L (key x) = none) : riseK key (insK key L x) = true := by
  induction L with
  | nil => rfl
  | cons a L ih =>
    have hne : key a ≠ key x := findK_no h a List.mem_cons_self
    rw [insK_cons]
    split
    · rename_i hg
      refine riseK_cons (fun y hy => ?_) (ih (riseK_tail hr) (findK_none fun y hy => findK_no h y (List.mem_cons_of_mem _ hy)))
      rcases mem_ins.1 hy with rfl | hy
      · exact hg
      · exact riseK_head hr y hy
    · rename_i hg
      have hlt : ltS (key x) (key a) = true := ltS_total (by simpa using hg) hne
      simp only [riseK, Bool.and_eq_true]
      exact ⟨hlt, hr⟩
theorem riseK_of {L : List α} (h : ∀ (i : Nat) (a b : α), L[i]? = some a → L[i + 1]? = some b → ltS (key a) (key b) = true) : riseK key L = true := by
  induction L with
  | nil => rfl
  | cons x L ih =>
    cases L with
    | nil => rfl
    | cons y L =>
      simp only [riseK, Bool.and_eq_true]
      exact ⟨h 0 x y rfl rfl, ih fun i a b ha hb => h (i + 1) a b (by simpa using ha) (by simpa using hb)⟩
theorem riseK_at {L : List α} (h : riseK key L = true) {i j : Nat} {x y : α} (hij : i < j) (hx : L[i]? = some x) (hy : L[j]? = some y) : ltS (key x) (key y) = true := by
  induction L generalizing i j with
  | nil => simp at hx
  | cons a L ih =>
    cases j with
    | zero => omega
    | succ j =>
      cases i with
      | zero =>
        simp at hx hy
        subst hx
        exact riseK_head h y (List.mem_of_getElem? hy)
      | succ i =>
        simp at hx hy
        exact ih (riseK_tail h) (by omega) hx hy
theorem riseK_no {L : List α} {i : Nat} {a b : α} (ha : L[i]? = some a) (hb : L[i + 1]? = some b) (h : ltS (key a) (key b) = false) : riseK key L = false := by
  cases hr : riseK key L with
  | false => rfl
  | true => rw [riseK_at hr (Nat.lt_succ_self i) ha hb] at h; cases h
theorem riseK_uniq {L : List α} (h : riseK key L = true) {x y : α} (hx : x ∈ L) (hy : y ∈ L) (e : key x = key y) : x = y := by
  obtain ⟨i, hi, hix⟩ := List.getElem_of_mem hx
  obtain ⟨j, hj, hjy⟩ := List.getElem_of_mem hy
  have h1 : L[i]? = some x := by rw [List.getElem?_eq_getElem hi, hix]
  have h2 : L[j]? = some y := by rw [List.getElem?_eq_getElem hj, hjy]
  rcases Nat.lt_trichotomy i j with hl | hl | hl
  · have := riseK_at h hl h1 h2; rw [e, ltS_irr] at this; cases this
  · subst hl; rw [h1] at h2; exact Option.some.inj h2
  · have := riseK_at h hl h2 h1; rw [e, ltS_irr] at this; cases this
theorem findK_of_mem {L : List α} (h : riseK key L = true) {x : α} (hx : x ∈ L) : findK key L (key x) = some x := by
  cases hf : findK key L (key x) with
  | none => exact absurd rfl (findK_no hf x hx)
  | some y => rw [riseK_uniq h (findK_mem hf).2 hx (findK_mem hf).1]
/-- What stands ahead of a place is below, what stands there is not: it is the place. -/
theorem placeK_at {L : List α} {c : ByteArray} {i : Nat} (hi : i ≤ L.length) (hb : ∀ (j : Nat) (y : α), j < i → L[j]? = some y → ltS (key y) c = true) (hx : ∀ y, L[i]? = some y → ltS (key y) c = false) : placeK key L c = i := by
  induction L generalizing i with
  | nil => simp at hi; subst hi; rfl
  | cons a L ih =>
    cases i with
    | zero => simp only [placeK, hx a rfl, Bool.false_eq_true, if_false]
    | succ i =>
      simp only [placeK, hb 0 a (by omega) rfl, if_true]
      rw [ih (i := i) (by simpa using hi) (fun j y hj hy => hb (j + 1) y (by omega) (by simpa using hy)) (fun y hy => hx y (by simpa using hy))]
theorem placeK_below {L : List α} {c : ByteArray} : ∀ (j : Nat) (y : α), j < placeK key L c → L[j]? = some y → ltS (key y) c = true := by
  induction L with
  | nil => intro j y _ h; simp at h
  | cons a L ih =>
    intro j y hj hy
    simp only [placeK] at hj
    split at hj
    · cases j with
      | zero => simp at hy; subst hy; assumption
      | succ j => exact ih j y (by omega) (by simpa using hy)
    · omega
theorem placeK_there {L : List α} {c : ByteArray} {y : α} (h : L[placeK key L c]? = some y) : ltS (key y) c = false := by
  induction L with
  | nil => simp at h
  | cons a L ih =>
    simp only [placeK] at h
    split at h
    · exact ih (by simpa using h)
    · simp at h; subst h; simp_all
/-- Is the element of a key at its place? -/
def isK (key : α → ByteArray) (L : List α) (c : ByteArray) : Bool := match L[placeK key L c]? with
  | some x => decide (key x = c)
  | none => false
theorem isK_find {L : List α} (h : riseK key L = true) (c : ByteArray) : isK key L c = (findK key L c).isSome ∧ (isK key L c = true → L[placeK key L c]? = findK key L c) := by
  unfold isK
  cases hp : L[placeK key L c]? with
  | none =>
    have hlen : L.length ≤ placeK key L c := List.getElem?_eq_none_iff.1 hp
    have hf : findK key L c = none := findK_none fun x hx e => by
      obtain ⟨i, hi, hix⟩ := List.getElem_of_mem hx
      have := placeK_below (key := key) (L := L) (c := c) i x (by omega) (by rw [List.getElem?_eq_getElem hi, hix])
      rw [e, ltS_irr] at this; cases this
    rw [hf]; exact ⟨rfl, fun h => by cases h⟩
  | some x =>
    simp only
    by_cases e : key x = c
    · have hm := List.mem_of_getElem? hp
      have hf := findK_of_mem h hm
      rw [e] at hf
      rw [hf]; exact ⟨by simp [e], fun _ => rfl⟩
    · have hf : findK key L c = none := findK_none fun y hy ey => by
        obtain ⟨i, hi, hiy⟩ := List.getElem_of_mem hy
        have h1 : L[i]? = some y := by rw [List.getElem?_eq_getElem hi, hiy]
        rcases Nat.lt_trichotomy i (placeK key L c) with hl | hl | hl
        · have := placeK_below (key := key) (L := L) (c := c) i y hl h1; rw [ey, ltS_irr] at this; cases this
        · rw [hl, hp] at h1; cases h1; exact e ey
        · have h2 := riseK_at h hl hp h1
          rw [ey, placeK_there hp] at h2; cases h2
      rw [hf]; exact ⟨by simp [e], fun h => by simp [e] at h⟩
end
end Go.Proofs.YticdmlijacnjbaaGreatDoor
