
/- A statement that leaves its order open, whose operations only read and whose callees leave all that was there: walked once, in the order of the text; the worlds in between are those that keep what was there. -/
import Derived.Test.YtdnneognilffaaaGreatDoorMem
import Derived.BigQuiet
namespace Go.Proofs.YtdnneognilffaaaGreatDoor
open Go.RowKit

/-- A world that keeps all that lies in w. -/
structure Past (w : World) where
  to : World
  below : Below w.heap.size w to
instance (w : World) : Nonempty (Past w) := ⟨⟨w, Below.refl _ _⟩⟩
theorem wp_region_past {P : Program} {id : Nat} {Q : Exit → Act → World → Prop} {a : Act} {w : World} {l : List Oper} (hm : P.follows .mixedOrders = true) (hB : Region.lexB .any l.toArray = true)
    (h : wpQuiet P l.toArray (fun w' => ∃ p : Past w, w' = p.to) (fun a' => ∀ w', (∃ p : Past w, w' = p.to) → Q .normal a' w') l a) : (Code.region id l.toArray true).wp P Q a w :=
  wp_region_quiet (C := fun w' => ∃ p : Past w, w' = p.to) hm hB ⟨⟨w.drew, ⟨rfl, rfl, rfl, Nat.le_refl _, fun _ _ => rfl⟩⟩, rfl⟩ (by simpa using h)
theorem cell_past {w : World} {ad : Addr} {v : Value} (h : w.cell? ad = some v) (p : Past w) : p.to.cell? ad = some v :=
  (p.below.cell (World.block_lt_of_cell? w _ h)).trans h
theorem Calls.past_of {P : Program} {f : FuncId} {args : Array Value} {w : World} {p : Past w} {v : Value} (h : Calls P f args p.to fun e w' => e = .returned v ∧ Below p.to.heap.size p.to w') :
    Calls P f args p.to fun e w'' => e = .returned v ∧ ∃ p' : Past w, w'' = p'.to :=
  h.mono fun _ w'' ⟨he, hb⟩ => ⟨he, ⟨w'', p.below.trans (hb.mono p.below.size)⟩, rfl⟩
theorem OwnI.keepB {k : IntKind} {w w' : World} {B : Nat} {e : TypeId} {v : Value} {l : List Int} (h : OwnI k w B e v l) (hb : Below w.heap.size w w') : OwnI k w' B e v l :=
  World.ownsRow.kept h (row := none) ⟨hb.os, hb.tape, hb.output, hb.size, fun j hj _ => hb.block j hj⟩ (by
    cases v.ownBlock with
    | none => exact .inl rfl
    | some g => exact .inr (by simp))
end Go.Proofs.YtdnneognilffaaaGreatDoor
