
/- The plain facts of layer chart: accounts, which may be, their words, the account of words, charts. No program in it. -/
import Derived.Test.YtkacidoflmbjkaaDoorLexBytes
import Derived.Lib.SlicesS
namespace Go.Proofs.YtkacidoflmbjkaaDoor
open Go.RowKit

structure Acct where
  code : ByteArray
  cls : Int
  cash : Bool
  both : Bool
  fixed : ByteArray
  worn : Bool
theorem Acct.ext' {a b : Acct} (h0 : a.code = b.code) (h1 : a.cls = b.cls) (h2 : a.cash = b.cash) (h3 : a.both = b.both) (h4 : a.fixed = b.fixed) (h5 : a.worn = b.worn) : a = b := by
  cases a; cases b; simp_all
instance : DecidableEq Acct := fun a b =>
  if h : a.code = b.code ∧ a.cls = b.cls ∧ a.cash = b.cash ∧ a.both = b.both ∧ a.fixed = b.fixed ∧ a.worn = b.worn then isTrue (Acct.ext' h.1 h.2.1 h.2.2.1 h.2.2.2.1 h.2.2.2.2.1 h.2.2.2.2.2)
  else isFalse fun e => h (by subst e; exact ⟨rfl, rfl, rfl, rfl, rfl, rfl⟩)
/-- The six cells of an account. -/
def Acct.cells (a : Acct) : List Value := [.string a.code, .int .i64 a.cls, .bool a.cash, .bool a.both, .string a.fixed, .bool a.worn]
def zeroA : Acct := ⟨⟨#[]⟩, 0, false, false, ⟨#[]⟩, false⟩

def nmB (s : ByteArray) : Bool := nameL s.data.toList
theorem nmB_empty : nmB ⟨#[]⟩ = false := by decide
/-- Is a text not the empty one? -/
def neB (s : ByteArray) : Bool := !s.toList.isEmpty
theorem neB_empty : neB ⟨#[]⟩ = false := by unfold neB; rw [ByteArray.toList_eq]; rfl
theorem neB_iff (s : ByteArray) : neB s = true ↔ s ≠ ⟨#[]⟩ := by
  unfold neB
  constructor
  · intro h e; subst e; rw [ByteArray.toList_eq] at h; cases h
  · intro h
    cases hs : s.toList.isEmpty with
    | false => rfl
    | true =>
      refine absurd ?_ h
      obtain ⟨⟨l⟩⟩ := s
      rw [ByteArray.toList_eq] at hs
      simp at hs
      subst hs
      rfl
def marksA (a : Acct) : Bool :=
  if (neB a.fixed && !nmB a.fixed) = true then false
  else if (a.worn && !neB a.fixed) = true then false
  else if (a.cash && neB a.fixed) = true then false
  else if (a.cash && a.both) = true then false
  else if (neB a.fixed && a.both) = true then false
  else if (a.cash || neB a.fixed) = true then (a.cls == 0)
  else if a.both = true then (a.cls != 2)
  else true
def rightA (a : Acct) : Bool := nmB a.code && decide (0 ≤ a.cls) && decide (a.cls < 3) && marksA a

def tAccount : ByteArray := ⟨#[97, 99, 99, 111, 117, 110, 116]⟩
def tAsset : ByteArray := ⟨#[97, 115, 115, 101, 116]⟩
def tLiability : ByteArray := ⟨#[108, 105, 97, 98, 105, 108, 105, 116, 121]⟩
def tEquity : ByteArray := ⟨#[101, 113, 117, 105, 116, 121]⟩
def tCash : ByteArray := ⟨#[99, 97, 115, 104]⟩
def tMutual : ByteArray := ⟨#[109, 117, 116, 117, 97, 108]⟩
def tWorn : ByteArray := ⟨#[119, 111, 114, 110]⟩
def tFixed : ByteArray := ⟨#[102, 105, 120, 101, 100]⟩
/-- The word of a class. -/
def clsW (n : Int) : ByteArray := if n = 0 then tAsset else if n = 1 then tLiability else tEquity
/-- The words of the marks. -/
def markW (a : Acct) : List ByteArray := if a.cash = true then [tCash] else if a.both = true then [tMutual] else if a.worn = true then [tWorn, a.fixed] else if neB a.fixed = true then [tFixed, a.fixed] else []
def wordsA (a : Acct) : List ByteArray := if rightA a = true then tAccount :: a.code :: clsW a.cls :: markW a else []
/-- The class of a word. -/
def clsOf (s : ByteArray) : Int := if s = tAsset then 0 else if s = tLiability then 1 else if s = tEquity then 2 else -1
def markedA (a : Acct) : List ByteArray → Acct
  | [x] => { a with cash := decide (x = tCash), both := decide (x = tMutual) }
  | [x, y] => { a with fixed := y, worn := decide (x = tWorn) }
  | _ => a
def candA (ws : List ByteArray) : Acct := markedA ⟨ws.getD 1 ⟨#[]⟩, clsOf (ws.getD 2 ⟨#[]⟩), false, false, ⟨#[]⟩, false⟩ (ws.drop 3)
def parseA (ws : List ByteArray) : Acct × Int := if ws.length < 3 then (zeroA, 5) else if wordsA (candA ws) = ws then (candA ws, 0) else (zeroA, 5)

theorem right_parts {a : Acct} (h : rightA a = true) : nmB a.code = true ∧ (a.cls = 0 ∨ a.cls = 1 ∨ a.cls = 2) ∧ marksA a = true := by
  unfold rightA at h
  simp only [Bool.and_eq_true, decide_eq_true_eq] at h
  obtain ⟨⟨⟨h1, h2⟩, h3⟩, h4⟩ := h
  exact ⟨h1, by omega, h4⟩
/-- The marks that may be: none; cash; both; fixed; worn. -/
theorem marks_ways {a : Acct} (h : marksA a = true) :
    (a.cash = false ∧ a.both = false ∧ a.fixed = ⟨#[]⟩ ∧ a.worn = false) ∨
    (a.cash = true ∧ a.both = false ∧ a.fixed = ⟨#[]⟩ ∧ a.worn = false ∧ a.cls = 0) ∨
    (a.cash = false ∧ a.both = true ∧ a.fixed = ⟨#[]⟩ ∧ a.worn = false ∧ a.cls ≠ 2) ∨
    (a.cash = false ∧ a.both = false ∧ nmB a.fixed = true ∧ neB a.fixed = true ∧ a.worn = false ∧ a.cls = 0) ∨
    (a.cash = false ∧ a.both = false ∧ nmB a.fixed = true ∧ neB a.fixed = true ∧ a.worn = true ∧ a.cls = 0) := by
  obtain ⟨co, cl, ca, mu, fi, wo⟩ := a
  unfold marksA at h
  simp only at h ⊢
  by_cases hf : fi = ⟨#[]⟩
  · subst hf
    rw [neB_empty] at h ⊢
    cases ca <;> cases mu <;> cases wo <;> simp_all
  · have hn := (neB_iff fi).2 hf
    rw [hn] at h ⊢
    cases hm : nmB fi <;> cases ca <;> cases mu <;> cases wo <;> simp_all
theorem clsOf_clsW {n : Int} (h : n = 0 ∨ n = 1 ∨ n = 2) : clsOf (clsW n) = n := by
  rcases h with rfl | rfl | rfl <;> decide
theorem parse_words {a : Acct} (h : rightA a = true) : parseA (wordsA a) = (a, 0) := by
  obtain ⟨h1, h2, h3⟩ := right_parts h
  have hw : wordsA a = tAccount :: a.code :: clsW a.cls :: markW a := by unfold wordsA; rw [if_pos h]
  have hc : candA (wordsA a) = a := by
    rw [hw]
    unfold candA
    simp only [List.getD_cons_succ, List.getD_cons_zero, List.drop_succ_cons, List.drop_zero]
    rw [clsOf_clsW h2]
    have t1 : decide (tCash = tMutual) = false := by decide
    have t2 : decide (tMutual = tCash) = false := by decide
    have t3 : decide (tFixed = tWorn) = false := by decide
    rcases marks_ways h3 with ⟨e1, e2, e3, e4⟩ | ⟨e1, e2, e3, e4, e5⟩ | ⟨e1, e2, e3, e4, e5⟩ | ⟨e1, e2, e3, e6, e4, e5⟩ | ⟨e1, e2, e3, e6, e4, e5⟩ <;>
      obtain ⟨co, cl, ca, mu, fi, wo⟩ := a <;> simp only at e1 e2 e3 e4 ⊢ <;> subst e1 e2 e4
    · subst e3; simp [markW, markedA, neB_empty]
    · subst e3; simp [markW, markedA, t1]
    · subst e3; simp [markW, markedA, t2]
    · simp only at e6; simp [markW, markedA, e6, t3]
    · simp [markW, markedA]
  unfold parseA
  rw [hc, if_neg (by rw [hw]; simp), if_pos rfl]
theorem words_inj {a b : Acct} (ha : rightA a = true) (hb : rightA b = true) (h : wordsA a = wordsA b) : a = b := by
  have h1 := parse_words ha
  rw [h, parse_words hb] at h1
  exact (Prod.mk.inj h1).1.symm
theorem words_ne {a : Acct} (h : rightA a = true) : 3 ≤ (wordsA a).length := by
  unfold wordsA; rw [if_pos h]; simp
theorem words_nil {a : Acct} (h : rightA a = false) : wordsA a = [] := by unfold wordsA; rw [h]; rfl
theorem parse_ok {ws : List ByteArray} (h : (parseA ws).2 = 0) : wordsA (parseA ws).1 = ws ∧ rightA (parseA ws).1 = true := by
  unfold parseA at h ⊢
  by_cases h3 : ws.length < 3
  · rw [if_pos h3] at h; simp at h
  · rw [if_neg h3] at h ⊢
    by_cases hw : wordsA (candA ws) = ws
    · rw [if_pos hw]
      refine ⟨hw, ?_⟩
      cases hr : rightA (candA ws) with
      | true => rfl
      | false =>
        rw [words_nil hr] at hw
        subst hw
        simp at h3
    · rw [if_neg hw] at h; simp at h
theorem parse_err (ws : List ByteArray) : parseA ws = (zeroA, 5) ∨ (wordsA (parseA ws).1 = ws ∧ rightA (parseA ws).1 = true ∧ (parseA ws).2 = 0) := by
  by_cases h : (parseA ws).2 = 0
  · exact .inr ⟨(parse_ok h).1, (parse_ok h).2, h⟩
  · left
    unfold parseA at h ⊢
    split
    · rfl
    · split
      · rename_i h1 h2; rw [if_neg h1, if_pos h2] at h; exact absurd rfl h
      · rfl
theorem parse_of {a : Acct} {ws : List ByteArray} (hr : rightA a = true) (h : wordsA a = ws) : parseA ws = (a, 0) := by rw [← h]; exact parse_words hr

/-! ### Charts -/
def ltS (x y : ByteArray) : Bool := Op.bytesLess x.toList y.toList
theorem less_iff : ∀ (x y : List UInt8), Op.bytesLess x y = true ↔ x < y
  | [], [] => by simp [Op.bytesLess]
  | [], _ :: _ => by simp [Op.bytesLess]
  | _ :: _, [] => by simp [Op.bytesLess]
  | a :: x, b :: y => by
    have ih := less_iff x y
    rw [List.cons_lt_cons_iff]
    unfold Op.bytesLess
    by_cases h : a = b
    · subst h; simp [ih]
    · simp [h]
theorem ltS_iff (x y : ByteArray) : ltS x y = true ↔ x.toList < y.toList := by unfold ltS; exact less_iff _ _
theorem toList_inj {x y : ByteArray} (h : x.toList = y.toList) : x = y := by
  rw [ByteArray.toList_eq, ByteArray.toList_eq] at h
  obtain ⟨⟨a⟩⟩ := x; obtain ⟨⟨b⟩⟩ := y
  simp at h; rw [h]
theorem ltS_trans {x y z : ByteArray} (h1 : ltS x y = true) (h2 : ltS y z = true) : ltS x z = true := by
  rw [ltS_iff] at *; exact List.lt_trans h1 h2
theorem ltS_irr (x : ByteArray) : ltS x x = false := by
  cases h : ltS x x with
  | false => rfl
  | true => rw [ltS_iff] at h; exact absurd h (List.lt_irrefl _)
theorem ltS_asymm {x y : ByteArray} (h : ltS x y = true) : ltS y x = false := by
  cases h' : ltS y x with
  | false => rfl
  | true => rw [← ltS_irr x]; exact (ltS_trans h h').symm
theorem less_total : ∀ (x y : List UInt8), Op.bytesLess x y = false → x ≠ y → Op.bytesLess y x = true
  | [], [], _, h => absurd rfl h
  | [], _ :: _, h, _ => by simp [Op.bytesLess] at h
  | _ :: _, [], _, _ => by simp [Op.bytesLess]
  | a :: x, b :: y, h, hne => by
    unfold Op.bytesLess at h ⊢
    simp only [Bool.or_eq_false_iff, decide_eq_false_iff_not, Bool.and_eq_false_iff, beq_eq_false_iff_ne, Bool.or_eq_true, decide_eq_true_eq, Bool.and_eq_true, beq_iff_eq] at h ⊢
    by_cases hab : a = b
    · subst hab
      refine .inr ⟨rfl, less_total x y ?_ (fun e => hne (by rw [e]))⟩
      rcases h.2 with h' | h'
      · exact absurd rfl h'
      · exact h'
    · left
      rw [UInt8.lt_iff_toNat_lt] at h ⊢
      have : a.toNat ≠ b.toNat := fun e => hab (UInt8.toNat_inj.1 e)
      omega
theorem ltS_total {x y : ByteArray} (h : ltS x y = false) (hne : x ≠ y) : ltS y x = true := less_total _ _ h (fun e => hne (toList_inj e))
end Go.Proofs.YtkacidoflmbjkaaDoor
