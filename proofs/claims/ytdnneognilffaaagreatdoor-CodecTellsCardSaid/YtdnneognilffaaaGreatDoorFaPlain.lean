
/- Keys of facts, and how they stand: by four texts and a number; facts, the keys of a list, the amounts of each, and what a list of groups comes to. No program in it. -/
import Derived.Test.YtdnneognilffaaaGreatDoorCentPlain
import Derived.Lib.Bytealg
namespace Go.Proofs.YtdnneognilffaaaGreatDoor.Fa

/-! ### How two stand -/
/-- A comparison: 0 for the same alone, the other way round the other way, and it goes on. -/
structure IsCmp {α : Type} (c : α → α → Int) : Prop where
  eq0 : ∀ x y, c x y = 0 ↔ x = y
  neg : ∀ x y, c y x = -c x y
  trans : ∀ {x y z}, c x y < 0 → c y z < 0 → c x z < 0
/-- The second where the first is 0. -/
def orI (x y : Int) : Int := if x = 0 then y else x
theorem orI_lt {x y : Int} : orI x y < 0 ↔ x < 0 ∨ (x = 0 ∧ y < 0) := by unfold orI; split <;> omega
theorem orI_zero {x y : Int} : orI x y = 0 ↔ x = 0 ∧ y = 0 := by unfold orI; split <;> omega
theorem orI_neg (x y : Int) : orI (-x) (-y) = -orI x y := by unfold orI; (repeat' split) <;> omega
theorem IsCmp.pair {α β : Type} {c : α → α → Int} {d : β → β → Int} (hc : IsCmp c) (hd : IsCmp d) : IsCmp (fun x y : α × β => orI (c x.1 y.1) (d x.2 y.2)) where
  eq0 x y := by rw [orI_zero, hc.eq0, hd.eq0, Prod.ext_iff]
  neg x y := by
    show orI (c y.1 x.1) (d y.2 x.2) = -orI (c x.1 y.1) (d x.2 y.2)
    rw [hc.neg x.1 y.1, hd.neg x.2 y.2, orI_neg]
  trans := by
    intro x y z h1 h2
    rw [orI_lt] at *
    rcases h1 with h1 | ⟨e1, h1⟩ <;> rcases h2 with h2 | ⟨e2, h2⟩
    · exact .inl (hc.trans h1 h2)
    · exact .inl (by rw [← (hc.eq0 _ _).1 e2]; exact h1)
    · exact .inl (by rw [(hc.eq0 _ _).1 e1]; exact h2)
    · exact .inr ⟨by rw [(hc.eq0 _ _).1 e1]; exact e2, hd.trans h1 h2⟩
/-- Numbers. -/
def cmpI (a b : Int) : Int := if a < b then -1 else if b < a then 1 else 0
theorem isCmp_int : IsCmp cmpI where
  eq0 x y := by unfold cmpI; (repeat' split) <;> omega
  neg x y := by unfold cmpI; (repeat' split) <;> omega
  trans := by intro x y z; unfold cmpI; (repeat' split) <;> omega
theorem cmpL_eq0 : ∀ (x y : List UInt8), Lib.compareBytes x y = 0 ↔ x = y
  | [], [] => by simp [Lib.compareBytes]
  | [], _ :: _ => by simp [Lib.compareBytes]
  | _ :: _, [] => by simp [Lib.compareBytes]
  | a :: x, b :: y => by
    have ih := cmpL_eq0 x y
    unfold Lib.compareBytes
    by_cases h1 : a < b
    · have : a ≠ b := by
        rintro rfl
        rw [UInt8.lt_iff_toNat_lt] at h1; omega
      simp [h1, this]
    · by_cases h2 : b < a
      · have : a ≠ b := by
          rintro rfl
          exact h1 h2
        simp [h1, h2, this]
      · have : a = b := by
          rw [UInt8.lt_iff_toNat_lt] at h1 h2
          exact UInt8.toNat_inj.1 (by omega)
        subst this
        simp [h1, ih]
theorem cmpL_neg : ∀ (x y : List UInt8), Lib.compareBytes y x = -Lib.compareBytes x y
  | [], [] => by simp [Lib.compareBytes]
  | [], _ :: _ => by simp [Lib.compareBytes]
  | _ :: _, [] => by simp [Lib.compareBytes]
  | a :: x, b :: y => by
    have ih := cmpL_neg x y
    unfold Lib.compareBytes
    by_cases h1 : a < b
    · have h2 : ¬ b < a := by rw [UInt8.lt_iff_toNat_lt] at *; omega
      simp [h1, h2]
    · by_cases h2 : b < a
      · simp [h1, h2]
      · simp [h1, h2, ih]
theorem cmpL_trans : ∀ (x y z : List UInt8), Lib.compareBytes x y < 0 → Lib.compareBytes y z < 0 → Lib.compareBytes x z < 0
  | [], y, [], h1, h2 => by cases y <;> simp [Lib.compareBytes] at h1 h2
  | [], _, c :: z, _, _ => by simp [Lib.compareBytes]
  | a :: x, [], z, h1, _ => by simp [Lib.compareBytes] at h1
  | a :: x, b :: y, [], _, h2 => by simp [Lib.compareBytes] at h2
  | a :: x, b :: y, c :: z, h1, h2 => by
    have ih := cmpL_trans x y z
    unfold Lib.compareBytes at h1 h2 ⊢
    by_cases h3 : a < b
    · by_cases h4 : b < c
      · have : a < c := by rw [UInt8.lt_iff_toNat_lt] at *; omega
        simp [this]
      · by_cases h5 : c < b
        · simp [h4, h5] at h2
        · have : b = c := by
            rw [UInt8.lt_iff_toNat_lt] at h4 h5
            exact UInt8.toNat_inj.1 (by omega)
          subst this
          simp [h3]
    · by_cases h4 : b < a
      · simp [h3, h4] at h1
      · have : a = b := by
          rw [UInt8.lt_iff_toNat_lt] at h3 h4
          exact UInt8.toNat_inj.1 (by omega)
        subst this
        rw [if_neg h3, if_neg h3] at h1
        by_cases h5 : a < c
        · rw [if_pos h5]; decide
        · rw [if_neg h5] at h2 ⊢
          by_cases h6 : c < a
          · rw [if_pos h6] at h2; exact absurd h2 (by decide)
          · rw [if_neg h6] at h2 ⊢
            exact ih h1 h2
/-- Texts, byte by byte. -/
def cmpB (x y : ByteArray) : Int := Lib.compareBytes x.data.toList y.data.toList
theorem data_inj' {x y : ByteArray} (h : x.data.toList = y.data.toList) : x = y := by
  cases x; cases y
  simp only [ByteArray.mk.injEq]
  exact Array.toList_inj.1 h
theorem isCmp_text : IsCmp cmpB where
  eq0 x y := by unfold cmpB; rw [cmpL_eq0]; exact ⟨data_inj', fun h => by rw [h]⟩
  neg x y := cmpL_neg _ _
  trans := cmpL_trans _ _ _
/-- Whose, of which account, by which flow, with whom, where from. -/
structure Key where
  e : ByteArray
  a : ByteArray
  f : ByteArray
  p : ByteArray
  m : Int
deriving DecidableEq
/-- An amount of a key. -/
structure Fact where
  key : Key
  amt : Int
deriving DecidableEq
instance : Inhabited Key := ⟨⟨⟨#[]⟩, ⟨#[]⟩, ⟨#[]⟩, ⟨#[]⟩, 0⟩⟩
instance : Inhabited Fact := ⟨⟨default, 0⟩⟩
def Key.tup (k : Key) : ByteArray × ByteArray × ByteArray × ByteArray × Int := (k.e, k.a, k.f, k.p, k.m)
theorem Key.tup_inj {x y : Key} : x.tup = y.tup ↔ x = y := by
  cases x; cases y
  simp [Key.tup]
/-- How a key stands to another. -/
def cmpK (x y : Key) : Int := orI (cmpB x.e y.e) (orI (cmpB x.a y.a) (orI (cmpB x.f y.f) (orI (cmpB x.p y.p) (cmpI x.m y.m))))
theorem isCmp_key : IsCmp cmpK := by
  have h := isCmp_text.pair (isCmp_text.pair (isCmp_text.pair (isCmp_text.pair isCmp_int)))
  exact ⟨fun x y => (h.eq0 x.tup y.tup).trans Key.tup_inj, fun x y => h.neg x.tup y.tup, fun {x y z} => h.trans (x := x.tup) (y := y.tup) (z := z.tup)⟩
/-- Stands it ahead? -/
def ltK (x y : Key) : Prop := cmpK x y < 0
instance (x y : Key) : Decidable (ltK x y) := by unfold ltK; infer_instance
theorem ltK_trans {x y z : Key} (h1 : ltK x y) (h2 : ltK y z) : ltK x z := isCmp_key.trans h1 h2
theorem ltK_irr (x : Key) : ¬ ltK x x := by unfold ltK; rw [(isCmp_key.eq0 x x).2 rfl]; omega
theorem ltK_total {x y : Key} (h : ¬ ltK x y) (hne : x ≠ y) : ltK y x := by
  unfold ltK at *
  have h0 : cmpK x y ≠ 0 := fun e => hne ((isCmp_key.eq0 x y).1 e)
  rw [isCmp_key.neg x y]; omega
theorem ltK_ne {x y : Key} (h : ltK x y) : x ≠ y := fun e => by subst e; exact ltK_irr _ h
theorem ltK_asym {x y : Key} (h : ltK x y) : ¬ ltK y x := fun h' => ltK_irr _ (ltK_trans h h')

/-! ### Lists by rising keys -/
/-- Rising. -/
def Rise (L : List Key) : Prop := L.Pairwise ltK
/-- A key put to its place; once. -/
def insU : List Key → Key → List Key
  | [], k => [k]
  | a :: r, k => if k = a then a :: r else if ltK k a then k :: a :: r else a :: insU r k
theorem mem_insU {L : List Key} {k x : Key} : x ∈ insU L k ↔ x = k ∨ x ∈ L := by
  induction L with
  | nil => simp [insU]
  | cons a r ih =>
    unfold insU
    by_cases h : k = a
    · subst h; simp
    · rw [if_neg h]
      by_cases h2 : ltK k a
      · rw [if_pos h2]; simp
      · rw [if_neg h2, List.mem_cons, ih, List.mem_cons]
        constructor
        · rintro (h | h | h) <;> simp [h]
        · rintro (h | h | h) <;> simp [h]
theorem rise_insU {L : List Key} (k : Key) (h : Rise L) : Rise (insU L k) := by
  induction L with
  | nil => simp [insU, Rise]
  | cons a r ih =>
    obtain ⟨h1, h2⟩ := List.pairwise_cons.1 h
    unfold insU
    by_cases e : k = a
    · rw [if_pos e]; exact h
    · rw [if_neg e]
      by_cases l : ltK k a
      · rw [if_pos l]
        exact List.pairwise_cons.2 ⟨fun y hy => by
          rcases List.mem_cons.1 hy with rfl | hy
          · exact l
          · exact ltK_trans l (h1 y hy), h⟩
      · rw [if_neg l]
        refine List.pairwise_cons.2 ⟨fun y hy => ?_, ih h2⟩
        rcases mem_insU.1 hy with rfl | hy
        · exact ltK_total l e
        · exact h1 y hy
theorem insU_length (L : List Key) (k : Key) : (insU L k).length ≤ L.length + 1 := by
  induction L with
  | nil => simp [insU]
  | cons a r ih =>
    unfold insU
    (repeat' split) <;> simp <;> omega
/-- The keys of facts, rising, each once. -/
def keysFrom (A : List Key) (l : List Fact) : List Key := l.foldl (fun acc f => insU acc f.key) A
def keysL (l : List Fact) : List Key := keysFrom [] l
theorem keysFrom_cons (A : List Key) (f : Fact) (l : List Fact) : keysFrom A (f :: l) = keysFrom (insU A f.key) l := rfl
theorem mem_keysFrom {l : List Fact} {A : List Key} {k : Key} : k ∈ keysFrom A l ↔ k ∈ A ∨ ∃ f ∈ l, f.key = k := by
  induction l generalizing A with
  | nil => simp [keysFrom]
  | cons f l ih =>
    rw [keysFrom_cons, ih, mem_insU]
    constructor
    · rintro ((h | h) | ⟨g, hg, e⟩)
      · exact .inr ⟨f, List.mem_cons_self .., h.symm⟩
      · exact .inl h
      · exact .inr ⟨g, List.mem_cons_of_mem _ hg, e⟩
    · rintro (h | ⟨g, hg, e⟩)
      · exact .inl (.inr h)
      · rcases List.mem_cons.1 hg with rfl | hg
        · exact .inl (.inl e.symm)
        · exact .inr ⟨g, hg, e⟩
theorem mem_keys {l : List Fact} {k : Key} : k ∈ keysL l ↔ ∃ f ∈ l, f.key = k := by unfold keysL; rw [mem_keysFrom]; simp
theorem rise_keysFrom {l : List Fact} {A : List Key} (h : Rise A) : Rise (keysFrom A l) := by
  induction l generalizing A with
  | nil => exact h
  | cons f l ih => exact ih (rise_insU _ h)
theorem rise_keys (l : List Fact) : Rise (keysL l) := rise_keysFrom List.Pairwise.nil
theorem keysFrom_length (l : List Fact) (A : List Key) : (keysFrom A l).length ≤ A.length + l.length := by
  induction l generalizing A with
  | nil => exact Nat.le_refl _
  | cons f l ih =>
    have h1 := ih (insU A f.key)
    have h2 := insU_length A f.key
    rw [keysFrom_cons, List.length_cons]; omega
theorem keys_length (l : List Fact) : (keysL l).length ≤ l.length := by have := keysFrom_length l []; simpa [keysL] using this
/-- The amounts of a key, in order. -/
def amts (l : List Fact) (k : Key) : List Int := (l.filter fun f => decide (f.key = k)).map Fact.amt
/-- The keys with their amounts. -/
def grps (l : List Fact) : List (Key × List Int) := (keysL l).map fun k => (k, amts l k)
theorem amts_length (l : List Fact) (k : Key) : (amts l k).length ≤ l.length := by unfold amts; rw [List.length_map]; exact List.length_filter_le _ _

/-! ### What groups come to -/
/-- A fact of a key, if it is not of 0. -/
def putF (k : Key) (n : Int) : List Fact := if n = 0 then [] else [⟨k, n⟩]
def runG : List (Key × List Int) → List Fact × Int
  | [] => ([], 0)
  | g :: r => if (sumFrom 0 g.2).2 = 0 then (if (runG r).2 = 0 then (putF g.1 (sumFrom 0 g.2).1 ++ (runG r).1, 0) else ([], (runG r).2)) else ([], (sumFrom 0 g.2).2)
/-- What comes behind what there is. -/
def appG (c : List Fact) (x : List Fact × Int) : List Fact × Int := if x.2 = 0 then (c ++ x.1, 0) else ([], x.2)
theorem appG_nil (c : List Fact) : appG c ([], 0) = (c, 0) := by simp [appG]
theorem appG_none (x : List (Key × List Int)) : appG [] (runG x) = runG x := by
  induction x with
  | nil => rfl
  | cons g r ih =>
    unfold appG runG
    (repeat' split) <;> simp_all
theorem appG_yes (c : List Fact) (g : Key × List Int) (r : List (Key × List Int)) (h : (sumFrom 0 g.2).2 = 0) : appG c (runG (g :: r)) = appG (c ++ putF g.1 (sumFrom 0 g.2).1) (runG r) := by
  unfold appG
  conv => lhs; unfold runG
  rw [if_pos h]
  by_cases h2 : (runG r).2 = 0
  · simp [h2]
  · simp [h2]
theorem appG_no (c : List Fact) (g : Key × List Int) (r : List (Key × List Int)) (h : (sumFrom 0 g.2).2 ≠ 0) : appG c (runG (g :: r)) = ([], (sumFrom 0 g.2).2) := by
  unfold appG
  conv => lhs; unfold runG
  rw [if_neg h]
  simp [h]
theorem runG_length (x : List (Key × List Int)) : (runG x).1.length ≤ x.length := by
  induction x with
  | nil => simp [runG]
  | cons g r ih =>
    unfold runG putF
    (repeat' split) <;> simp <;> omega
/-- The cube of facts, or the error (of as many as are too many nothing is said). -/
def ofL (l : List Fact) : List Fact × Int := runG (grps l)
theorem ofL_length (l : List Fact) : (ofL l).1.length ≤ l.length := by
  have h1 := runG_length (grps l)
  have h2 := keys_length l
  unfold ofL
  unfold grps at h1 ⊢
  rw [List.length_map] at h1
  omega
end Go.Proofs.YtdnneognilffaaaGreatDoor.Fa
