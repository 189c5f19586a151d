
/- Cells of a row that was just laid. -/
import Derived.Test.YtimeebildbmhaaaLexMem
namespace Go.Proofs.Ytimeebildbmhaaa
open Go.RowKit

theorem new_cells (w : World) (cs : List Value) (t : TypeId) : ∀ (j : Nat) u, cs[j]? = some u → (w.alloc (.cells cs.toArray t)).cell? ((⟨w.heap.size, 0, none⟩ : Addr).add j) = some u := fun j u hj => by
  rw [add_off, Nat.zero_add, cell_of_row _ w.heap.size j _ t (0, 0) (heap_alloc_new w _)]
  simpa using hj
theorem new_cells2 (w : World) (o : Obj) (cs : List Value) (t : TypeId) : ∀ (j : Nat) u, cs[j]? = some u → ((w.alloc o).alloc (.cells cs.toArray t)).cell? ((⟨w.heap.size + 1, 0, none⟩ : Addr).add j) = some u := fun j u hj => by
  have := new_cells (w.alloc o) cs t j u hj
  rwa [World.size_alloc] at this
end Go.Proofs.Ytimeebildbmhaaa
