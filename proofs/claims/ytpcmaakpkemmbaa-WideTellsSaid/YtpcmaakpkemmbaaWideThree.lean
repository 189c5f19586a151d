/- A struct of three amounts that a call has boxed: its cells, and that they stay. -/
import Derived.Test.YtpcmaakpkemmbaaWideG
import Derived.Test.YtpcmaakpkemmbaaWideFacts
namespace Go.Proofs.Ytpcmaakpkemmbaa
open Go.RowKit

def ThreeAt (w : World) (g : Nat) (a b c : Int) : Prop :=
  w.cell? ⟨g, 0, none⟩ = some (.int .i64 a) ∧ w.cell? ⟨g, 1, none⟩ = some (.int .i64 b) ∧ w.cell? ⟨g, 2, none⟩ = some (.int .i64 c)
theorem ThreeAt.mk (w : World) (a b c : Int) (t : TypeId) : ThreeAt (w.alloc (.cells #[.int .i64 a, .int .i64 b, .int .i64 c] t)) w.heap.size a b c := by
  unfold ThreeAt; simp [World.cell?_alloc_new]
theorem ThreeAt.keep {w w' : World} {g B : Nat} {a b c : Int} (h : ThreeAt w g a b c) (hb : Below B w w') (hB : w.heap.size ≤ B) : ThreeAt w' g a b c := by
  obtain ⟨h0, h1, h2⟩ := h
  have hg : g < B := Nat.lt_of_lt_of_le (World.block_lt_of_cell? w _ h0) hB
  exact ⟨(hb.cell (p := ⟨g, 0, none⟩) hg).trans h0, (hb.cell (p := ⟨g, 1, none⟩) hg).trans h1, (hb.cell (p := ⟨g, 2, none⟩) hg).trans h2⟩
theorem ret_true {b : Bool} (h : b = true) : Ending.returned (.bool b) = .returned (.bool true) := by rw [h]
end Go.Proofs.Ytpcmaakpkemmbaa
