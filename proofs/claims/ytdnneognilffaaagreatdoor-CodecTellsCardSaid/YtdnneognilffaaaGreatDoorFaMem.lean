
/- Keys and facts in memory: how they lie; worlds that have grown and no more. -/
import Derived.Test.YtdnneognilffaaaGreatDoorFaPlain
import Derived.Test.YtdnneognilffaaaGreatDoorEls
import Derived.Test.YtdnneognilffaaaGreatDoorAppendEl
import Derived.Test.YtdnneognilffaaaGreatDoorProg
import Derived.Sort.Grow
namespace Go.Proofs.YtdnneognilffaaaGreatDoor.Fa
open Go.RowKit Go.Lib Go.Sort

def encK : Enc Key where
  cs k := [.string k.e, .string k.a, .string k.f, .string k.p, .int .i64 k.m]
  k := 5
  len _ := rfl
  pos := by decide
  one := by intro k v hv; simp at hv; rcases hv with rfl | rfl | rfl | rfl | rfl <;> rfl
def encF : Enc Fact where
  cs f := [.string f.key.e, .string f.key.a, .string f.key.f, .string f.key.p, .int .i64 f.key.m, .int .i64 f.amt]
  k := 6
  len _ := rfl
  pos := by decide
  one := by intro k v hv; simp at hv; rcases hv with rfl | rfl | rfl | rfl | rfl | rfl <;> rfl
abbrev aggK (k : Key) : Value := .agg #[.string k.e, .string k.a, .string k.f, .string k.p, .int .i64 k.m]
abbrev aggF (f : Fact) : Value := .agg #[.string f.key.e, .string f.key.a, .string f.key.f, .string f.key.p, .int .i64 f.key.m, .int .i64 f.amt]
abbrev KeysV (w : World) (v : Value) (L : List Key) : Prop := ElsV encK w v L
abbrev FactsV (w : World) (v : Value) (L : List Fact) : Prop := ElsV encF w v L
theorem key5 {w : World} {b o : Nat} {k : Key} (h : ElAt encK w b o k) : w.cell? ⟨b, o, none⟩ = some (.string k.e) ∧ w.cell? ⟨b, o + 1, none⟩ = some (.string k.a) ∧ w.cell? ⟨b, o + 2, none⟩ = some (.string k.f) ∧ w.cell? ⟨b, o + 3, none⟩ = some (.string k.p) ∧ w.cell? ⟨b, o + 4, none⟩ = some (.int .i64 k.m) := ⟨h 0 _ rfl, h 1 _ rfl, h 2 _ rfl, h 3 _ rfl, h 4 _ rfl⟩
theorem fact6 {w : World} {b o : Nat} {f : Fact} (h : ElAt encF w b o f) : w.cell? ⟨b, o, none⟩ = some (.string f.key.e) ∧ w.cell? ⟨b, o + 1, none⟩ = some (.string f.key.a) ∧ w.cell? ⟨b, o + 2, none⟩ = some (.string f.key.f) ∧ w.cell? ⟨b, o + 3, none⟩ = some (.string f.key.p) ∧ w.cell? ⟨b, o + 4, none⟩ = some (.int .i64 f.key.m) ∧ w.cell? ⟨b, o + 5, none⟩ = some (.int .i64 f.amt) := ⟨h 0 _ rfl, h 1 _ rfl, h 2 _ rfl, h 3 _ rfl, h 4 _ rfl, h 5 _ rfl⟩

/-- Numbers of 64 bits, a cell each. -/
def encI : Enc Int where
  cs a := [.int .i64 a]
  k := 1
  len _ := rfl
  pos := by decide
  one := by intro k v hv; simp at hv; subst hv; rfl
theorem flatI (l : List Int) : flat encI l = l.map (Value.int .i64) := by
  unfold flat
  induction l with
  | nil => rfl
  | cons a l ih => rw [List.flatMap_cons, ih]; rfl
theorem rowIs_els {w : World} {p : Option Addr} {n c : Nat} {l : List Int} (h : ElsV encI w (.slice p n c) l) : RowIs .i64 w p l.length l := by
  obtain ⟨p', c', e, h1, h2, h3, hc⟩ := h
  cases e
  refine ⟨rfl, by omega, fun i hi => ?_⟩
  obtain ⟨b, o, e, hat⟩ := hc i _ (List.getElem?_eq_getElem hi)
  refine ⟨b, o, e, ?_⟩
  have := hat 0 _ rfl
  rw [Nat.add_zero, show encI.k = 1 from rfl, Nat.mul_one] at this
  rw [this, getD_at l i hi]

/-- The world has grown, and some orders were drawn. -/
def Grew (w w' : World) : Prop := ∃ q os, w' = grow (w.drewN q) os
theorem belowN {B : Nat} {a w : World} (h : Below B a w) (n : Nat) : Below B a (w.drewN n) := ⟨h.os, h.tape, h.output, h.size, h.block⟩
theorem Grew.refl (w : World) : Grew w w := ⟨0, #[], by rw [grow_empty]; rfl⟩
theorem Grew.trans {a b c : World} (h : Grew a b) (h' : Grew b c) : Grew a c := by
  obtain ⟨q, os, rfl⟩ := h
  obtain ⟨q', os', rfl⟩ := h'
  refine ⟨q + q', os ++ os', ?_⟩
  unfold grow World.drewN
  simp only [World.mk.injEq, Array.append_assoc, and_true, true_and]
  omega
theorem Grew.alloc {a b : World} (h : Grew a b) (o : Obj) : Grew a (b.alloc o) := h.trans ⟨0, #[o], by rw [alloc_eq_grow]; rfl⟩
theorem Grew.drew {a b : World} (h : Grew a b) : Grew a b.drew := h.trans ⟨1, #[], by rw [grow_empty]; rfl⟩
theorem Grew.below {a b : World} (h : Grew a b) : Below a.heap.size a b := by
  obtain ⟨q, os, rfl⟩ := h
  refine ⟨rfl, rfl, rfl, by rw [size_grow]; exact Nat.le_add_right _ _, fun k hk => ?_⟩
  exact heap_grow_old _ _ (by exact hk)
theorem el_new1 (w : World) (o : Obj) (y : Fact) (t : TypeId) : ElAt encF ((w.alloc o).alloc (.cells (encF.cs y).toArray t)) (w.heap.size + 1) 0 y := by
  have := el_new encF (w.alloc o) y t
  rw [World.size_alloc] at this
  exact this
theorem ElsV.at_ {α : Type} {E : Enc α} {w : World} {p : Option Addr} {n c : Nat} {L : List α} (h : ElsV E w (.slice p n c) L) {i : Nat} {x : α} (hx : L[i]? = some x) : ∃ b o, p = some ⟨b, o, none⟩ ∧ ElAt E w b (o + i * E.k) x := by
  obtain ⟨p', c', e, _, _, _, hc⟩ := h
  cases e
  exact hc i x hx
end Go.Proofs.YtdnneognilffaaaGreatDoor.Fa
