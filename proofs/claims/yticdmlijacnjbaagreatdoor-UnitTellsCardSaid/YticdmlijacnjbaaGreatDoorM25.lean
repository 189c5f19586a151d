/- InsR; AppendEl: texts put together (each begins with what it is). -/
import Derived.Test.YticdmlijacnjbaaGreatDoorM02
import Derived.Test.YticdmlijacnjbaaGreatDoorM03
import Derived.OwnWalk
/- Lists by rising keys: one more put in by a walk from the left, that copies as it goes. No program in it. -/
namespace Go.Proofs.YticdmlijacnjbaaGreatDoor.G
variable {α κ : Type} [KeyO κ] {key : α → κ}

/-- Was it put in ahead of one of these? -/
def doneR (key : α → κ) (L : List α) (x : α) : Bool := L.any fun z => KeyO.lt (key x) (key z)
/-- What was copied so far. -/
def midR (key : α → κ) (L : List α) (x : α) : List α := if doneR key L x = true then insR key L x else L
theorem doneR_nil (x : α) : doneR key [] x = false := rfl
theorem midR_nil (x : α) : midR key [] x = [] := rfl
theorem doneR_snoc (L : List α) (x y : α) : doneR key (L ++ [y]) x = (doneR key L x || KeyO.lt (key x) (key y)) := by simp [doneR, List.any_append]
theorem insR_snoc (A : List α) (x y : α) : insR key (A ++ [y]) x = if doneR key A x = true then insR key A x ++ [y] else if KeyO.lt (key x) (key y) = true then A ++ [x, y] else A ++ [y, x] := by
  induction A with
  | nil => simp [insR, doneR]
  | cons a A ih =>
    rw [List.cons_append]
    simp only [insR]
    by_cases h : KeyO.lt (key x) (key a) = true
    · rw [if_pos h, if_pos h, if_pos (by simp [doneR, h])]; rfl
    · rw [if_neg h, if_neg h, ih]
      have e : doneR key (a :: A) x = doneR key A x := by
        unfold doneR
        rw [List.any_cons, Bool.eq_false_iff.2 h, Bool.false_or]
      rw [e]
      by_cases h1 : doneR key A x = true
      · rw [if_pos h1, if_pos h1]; rfl
      · rw [if_neg h1, if_neg h1]
        split <;> rfl
theorem insR_none {A : List α} {x : α} (h : doneR key A x = false) : insR key A x = A ++ [x] := by
  induction A with
  | nil => rfl
  | cons a A ih =>
    unfold doneR at h
    rw [List.any_cons, Bool.or_eq_false_iff] at h
    simp only [insR]
    rw [if_neg (by rw [h.1]; simp), ih h.2]; rfl
theorem midR_there {A : List α} {x : α} (y : α) (h : doneR key A x = true) : midR key (A ++ [y]) x = midR key A x ++ [y] := by
  unfold midR
  rw [if_pos (by rw [doneR_snoc, h]; rfl), if_pos h, insR_snoc, if_pos h]
theorem midR_now {A : List α} {x y : α} (h : doneR key A x = false) (h1 : KeyO.lt (key x) (key y) = true) : midR key (A ++ [y]) x = midR key A x ++ [x] ++ [y] := by
  unfold midR
  rw [if_pos (by rw [doneR_snoc, h, h1]; rfl), if_neg (by rw [h]; simp), insR_snoc, if_neg (by rw [h]; simp), if_pos h1]
  simp
theorem midR_not {A : List α} {x y : α} (h : doneR key A x = false) (h1 : KeyO.lt (key x) (key y) = false) : midR key (A ++ [y]) x = midR key A x ++ [y] := by
  unfold midR
  rw [if_neg (by rw [doneR_snoc, h, h1]; simp), if_neg (by rw [h]; simp)]
theorem midR_end {A : List α} {x : α} (h : doneR key A x = true) : midR key A x = insR key A x := by unfold midR; rw [if_pos h]
theorem midR_last {A : List α} {x : α} (h : doneR key A x = false) : midR key A x ++ [x] = insR key A x := by
  unfold midR
  rw [if_neg (by rw [h]; simp), insR_none h]
theorem insR_length (L : List α) (x : α) : (insR key L x).length = L.length + 1 := by
  induction L with
  | nil => rfl
  | cons a L ih =>
    simp only [insR]
    split
    · simp
    · simp [ih]
theorem midR_length (L : List α) (x : α) : (midR key L x).length ≤ L.length + 1 := by
  unfold midR
  split
  · rw [insR_length]; exact Nat.le_refl _
  · omega
end Go.Proofs.YticdmlijacnjbaaGreatDoor.G
/- An element of k cells appended to a row of the call's own, over any program. -/
namespace Go.Proofs.YticdmlijacnjbaaGreatDoor
open Go.RowKit

/-- How the elements of a slice type lie. -/
structure InfoE {α : Type} (P : Program) (t e : TypeId) (E : Enc α) : Prop where
  under : P.underlying t = some (.slice e)
  info : ∃ i z n, P.info? e = some i ∧ i.zero = some z ∧ i.size = E.k ∧ i.bytes = n ∧ z.cells.size = E.k ∧ n ≤ 1000
theorem InfoE.of {α : Type} {P : Program} {t e : TypeId} {E : Enc α} {z : Value} {n : Nat} (hu : P.underlying t = some (.slice e)) (h : (P.info? e).map (fun i => (i.zero, i.size, i.bytes)) = some (some z, E.k, n)) (hz : z.cells.size = E.k) (hn : n ≤ 1000) : InfoE P t e E := by
  refine ⟨hu, ?_⟩
  cases hi : P.info? e with
  | none => rw [hi] at h; cases h
  | some i =>
    rw [hi] at h
    simp only [Option.map_some, Option.some.injEq, Prod.mk.injEq] at h
    exact ⟨i, z, n, rfl, h.1, h.2.1, h.2.2, hz, hn⟩
theorem wpList_append_el {α : Type} {E : Enc α} {P : Program} {ops : Array Oper} {rest : List Oper} {o : Oper} {a : Act} {w : World} {Q : Exit → Act → World → Prop} (hgd : o.guard = none) (s x : Operand) (t e : TypeId) (ho : o.op = .call { callee := .builtin .append, args := #[s, x], argTypes := #[t, t] }) (HI : InfoE P t e E)
    (B : Nat) (L : List α) (y : α) (g : Nat) (hrow : w.ownsRow B e E.k (a.eval s) L.length (flat E L)) (hx : a.eval x = .slice (some ⟨g, 0, none⟩) 1 1) (hc : ElAt E w g 0 y) (hB : B ≤ w.heap.size) (hL : L.length ≤ 1000000)
    (h : ∀ v' w', w'.ownsRow B e E.k v' (L ++ [y]).length (flat E (L ++ [y])) → Below B w w' → w.grownBy w' (a.eval s).ownBlock → wpList P ops Q rest (a.put o.dst v') w') : wpList P ops Q (o :: rest) a w := by
  obtain ⟨i, z, n, hi, hz, hs, hn, hzs, hb⟩ := HI.info
  refine wpList_append_own w hgd s x t ho B e i z E.k n HI.under hi hz hs hn hzs E.pos _ _ _ rfl hrow ⟨g, 0, none⟩ 1 1 (E.cs y) hx (by rw [E.len, Nat.one_mul]) (fun j u hj => by rw [add_off]; exact hc j u hj) (E.one y) (by unfold maxLen; omega) ?_ hB ?_
  · exact Nat.le_trans (Nat.mul_le_mul (Nat.add_le_add_right hL 1) hb) (by decide)
  · intro v' w' h1 h2 _
    exact h v' w' (by rw [flat_append, flat_one, List.length_append]; exact h1) (below_grown (Below.refl _ _) hB hrow h2) h2
/-- A slice of one element that was just laid. -/
theorem el_new {α : Type} (E : Enc α) (w : World) (y : α) (t : TypeId) : ElAt E (w.alloc (.cells (E.cs y).toArray t)) w.heap.size 0 y := (BoxE.new E w y t).at0
end Go.Proofs.YticdmlijacnjbaaGreatDoor
