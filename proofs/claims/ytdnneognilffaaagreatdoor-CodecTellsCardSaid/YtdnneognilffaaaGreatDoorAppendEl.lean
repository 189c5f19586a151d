
/- An element of k cells appended to a row of the call's own, over any program. -/
import Derived.Test.YtdnneognilffaaaGreatDoorEls
import Derived.OwnWalk
namespace Go.Proofs.YtdnneognilffaaaGreatDoor
open Go.RowKit

/-- How the elements of a slice type lie. -/
structure InfoE {α : Type} (P : Program) (t e : TypeId) (E : Enc α) : Prop where
  under : P.underlying t = some (.slice e)
  info : ∃ i z n, P.info? e = some i ∧ i.zero = some z ∧ i.size = E.k ∧ i.bytes = n ∧ z.cells.size = E.k ∧ n ≤ 1000
theorem InfoE.of {α : Type} {P : Program} {t e : TypeId} {E : Enc α} {z : Value} {n : Nat} (hu : P.underlying t = some (.slice e)) (h : (P.info? e).map (fun i => (i.zero, i.size, i.bytes)) = some (some z, E.k, n)) (hz : z.cells.size = E.k) (hn : n ≤ 1000) : InfoE P t e E := by
  refine ⟨hu, ?_⟩
  cases hi : P.info? e with
  | none => rw [hi] at h; cases h
  | some i =>
    rw [hi] at h
    simp only [Option.map_some, Option.some.injEq, Prod.mk.injEq] at h
    exact ⟨i, z, n, rfl, h.1, h.2.1, h.2.2, hz, hn⟩
theorem wpList_append_el {α : Type} {E : Enc α} {P : Program} {ops : Array Oper} {rest : List Oper} {o : Oper} {a : Act} {w : World} {Q : Exit → Act → World → Prop} (hgd : o.guard = none) (s x : Operand) (t e : TypeId) (ho : o.op = .call { callee := .builtin .append, args := #[s, x], argTypes := #[t, t] }) (HI : InfoE P t e E)
    (B : Nat) (L : List α) (y : α) (g : Nat) (hrow : w.ownsRow B e E.k (a.eval s) L.length (flat E L)) (hx : a.eval x = .slice (some ⟨g, 0, none⟩) 1 1) (hc : ElAt E w g 0 y) (hB : B ≤ w.heap.size) (hL : L.length ≤ 1000000)
    (h : ∀ v' w', w'.ownsRow B e E.k v' (L ++ [y]).length (flat E (L ++ [y])) → Below B w w' → w.grownBy w' (a.eval s).ownBlock → wpList P ops Q rest (a.put o.dst v') w') : wpList P ops Q (o :: rest) a w := by
  obtain ⟨i, z, n, hi, hz, hs, hn, hzs, hb⟩ := HI.info
  refine wpList_append_own w hgd s x t ho B e i z E.k n HI.under hi hz hs hn hzs E.pos _ _ _ rfl hrow ⟨g, 0, none⟩ 1 1 (E.cs y) hx (by rw [E.len, Nat.one_mul]) (fun j u hj => by rw [add_off]; exact hc j u hj) (E.one y) (by unfold maxLen; omega) ?_ hB ?_
  · exact Nat.le_trans (Nat.mul_le_mul (Nat.add_le_add_right hL 1) hb) (by decide)
  · intro v' w' h1 h2 _
    exact h v' w' (by rw [flat_append, flat_one, List.length_append]; exact h1) (below_grown (Below.refl _ _) hB hrow h2) h2
/-- A slice of one element that was just laid. -/
theorem el_new {α : Type} (E : Enc α) (w : World) (y : α) (t : TypeId) : ElAt E (w.alloc (.cells (E.cs y).toArray t)) w.heap.size 0 y := (BoxE.new E w y t).at0
end Go.Proofs.YtdnneognilffaaaGreatDoor
