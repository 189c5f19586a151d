
/- An element stored into its place in a row of the call's own, at the operation. -/
import Derived.Test.YtdnneognilffaaaGreatDoorFaMem
import Derived.Deep.OwnRows
import Derived.WalkKit
namespace Go.Proofs.YtdnneognilffaaaGreatDoor.Fa
open Go.RowKit

/-- Cells put into a list. -/
def putL : List Value → Nat → List Value → List Value
  | xs, _, [] => xs
  | xs, o, v :: r => putL (xs.set o v) (o + 1) r
theorem putL_mid : ∀ (vs A X D : List Value), X.length = vs.length → putL (A ++ X ++ D) A.length vs = A ++ vs ++ D
  | [], A, X, D, h => by
    have : X = [] := List.eq_nil_of_length_eq_zero h
    subst this
    rfl
  | v :: vs, A, [], D, h => by simp at h
  | v :: vs, A, x :: X, D, h => by
    have e : (A ++ x :: X ++ D).set A.length v = (A ++ [v]) ++ X ++ D := by
      rw [List.append_assoc, List.set_append_right _ _ (Nat.le_refl _), Nat.sub_self]
      simp
    have ih := putL_mid vs (A ++ [v]) X D (by simpa using h)
    rw [List.length_append, List.length_singleton] at ih
    show putL ((A ++ x :: X ++ D).set A.length v) (A.length + 1) vs = _
    rw [e, ih]
    simp
theorem putL_flat {α : Type} (E : Enc α) (L : List α) (i : Nat) (y : α) (hi : i < L.length) : putL (flat E L) (i * E.k) (E.cs y) = flat E (L.set i y) := by
  have e : L = L.take i ++ L[i] :: L.drop (i + 1) := by rw [← List.drop_eq_getElem_cons hi, List.take_append_drop]
  have e2 : L.set i y = L.take i ++ y :: L.drop (i + 1) := by rw [List.set_eq_take_append_cons_drop, if_pos hi]
  have h1 : (flat E (L.take i)).length = i * E.k := by rw [flat_length, List.length_take, Nat.min_eq_left (by omega)]
  conv => lhs; rw [e]
  rw [flat_append, flat_cons, ← List.append_assoc, ← h1, putL_mid (E.cs y) _ _ _ (by rw [E.len, E.len]), e2, flat_append, flat_cons, List.append_assoc]
theorem stored_cells {w : World} {B g s n c : Nat} {e : TypeId} {xs : List Value} (h : w.ownsRow B e s (.slice (some ⟨g, 0, none⟩) n c) n xs) : ∀ (vs : List Value) (o : Nat), (w.setCells g o vs).ownsRow B e s (.slice (some ⟨g, 0, none⟩) n c) n (putL xs o vs) ∧ w.grownBy (w.setCells g o vs) (some g) := by
  intro vs
  induction vs generalizing w xs with
  | nil => intro o; exact ⟨h, World.grownBy.refl w _⟩
  | cons v vs ih =>
    intro o
    obtain ⟨s1, g1⟩ := World.ownsRow.stored h o v
    obtain ⟨s2, g2⟩ := ih s1 (o + 1)
    exact ⟨s2, g1.trans g2⟩
theorem wp_store_part {α : Type} {E : Enc α} {P : Program} {o : Oper} {a : Act} {w : World} {K : Act → World → Prop} {Q : Exit → Act → World → Prop} (ty : TypeId) (x y : Operand) (ho : o.op = .store ty x y)
    (B g n c : Nat) (e : TypeId) (L : List α) (i : Nat) (z : α) (hx : a.eval x = .pointer (some ⟨g, i * E.k, none⟩)) (hy : a.eval y = .agg (E.cs z).toArray) (hrow : w.ownsRow B e E.k (.slice (some ⟨g, 0, none⟩) n c) n (flat E L)) (hn : L.length = n) (hi : i < n) (hti : (P.info? ty).map (·.size) = some E.k)
    (h : ∀ w', w'.ownsRow B e E.k (.slice (some ⟨g, 0, none⟩) n c) n (flat E (L.set i z)) → w.grownBy w' (some g) → K (a.put o.dst undef) w') : o.wp P a w K Q := by
  subst hn
  have hfr : ∀ j, w.frozen? ⟨g, j, none⟩ = false := fun j => by
    rcases hrow.2 with ⟨h', _⟩ | ⟨g', cap', cur, h', _, hg, _⟩
    · cases h'
    · cases h'; simp [World.frozen?, hg]
  have hst := run_storeCells_cells (P := P) g (i * E.k) (E.cs z) 0 w (fun j hj => by
      rw [E.len] at hj
      have hxl : j < (E.cs L[i]).length := by rw [E.len]; exact hj
      have := hrow.cells (g := g) rfl _ _ (flat_at L i L[i] (List.getElem?_eq_getElem hi) j _ (List.getElem?_eq_getElem hxl))
      rw [add_off, Nat.zero_add] at this
      rw [Nat.add_zero, this]; rfl) (fun j _ => hfr _) (E.one z)
  rw [Nat.add_zero] at hst
  have hrun : (storeVar ty ⟨g, i * E.k, none⟩ (.agg (E.cs z).toArray)).run P w = .ok () (w.setCells g (i * E.k) (E.cs z)) := by
    cases hq : P.info? ty with
    | none => simp [hq] at hti
    | some inf =>
      have hs : E.k = inf.size := by simp [hq] at hti; omega
      simp [storeVar, sizeOf, typeInfo, hq, Value.cells, hs.symm, E.len, hst]
  obtain ⟨h1, h2⟩ := stored_cells hrow (E.cs z) (i * E.k)
  rw [putL_flat E L i z hi] at h1
  unfold Oper.wp execOp
  simp only [ho, hx, hy, Instr.storeAt, Instr.sureAddr, Sem.run_bind, Sem.run_pure, Result.andThen_ok, hrun]
  exact h _ h1 h2
/-- A box of the call's own is a row of one element. -/
theorem box_own {α : Type} {E : Enc α} {w : World} {B b : Nat} {t : TypeId} {a : α} (h : BoxE E w b t a) (hB : B ≤ b) : w.ownsRow B t E.k (.slice (some ⟨b, 0, none⟩) 1 1) 1 (flat E [a]) :=
  ⟨by rw [flat_length]; simp, .inr ⟨b, 1, _, rfl, hB, h, Nat.le_refl _, by unfold maxLen; omega, by simp [E.len], by rw [flat_one]; simp [List.take_of_length_le, E.len]⟩⟩
theorem own_box {α : Type} {E : Enc α} {w : World} {B b c : Nat} {t : TypeId} {a : α} (h : w.ownsRow B t E.k (.slice (some ⟨b, 0, none⟩) 1 c) 1 (flat E [a])) : ElAt E w b 0 a := fun j v hj => by
  have := h.cells (g := b) rfl j v (by rw [flat_one]; exact hj)
  rwa [add_off] at this
/-- An element stored into a box of the call's own, at the operation. -/
theorem wp_store_box {α : Type} {E : Enc α} {P : Program} {o : Oper} {a : Act} {w : World} {K : Act → World → Prop} {Q : Exit → Act → World → Prop} (ty : TypeId) (x y : Operand) (ho : o.op = .store ty x y)
    (g : Nat) (t : TypeId) (z0 z : α) (hx : a.eval x = .pointer (some ⟨g, 0, none⟩)) (hy : a.eval y = .agg (E.cs z).toArray) (hg : BoxE E w g t z0) (hti : (P.info? ty).map (·.size) = some E.k)
    (h : ∀ w', ElAt E w' g 0 z → w.grownBy w' (some g) → K (a.put o.dst undef) w') : o.wp P a w K Q :=
  wp_store_part ty x y ho g g 1 1 t [z0] 0 z (by rw [Nat.zero_mul]; exact hx) hy (box_own hg (Nat.le_refl _)) rfl (by omega) hti (fun w' h1 h2 => h w' (own_box h1) h2)
end Go.Proofs.YtdnneognilffaaaGreatDoor.Fa
