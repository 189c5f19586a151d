/- FaMem -/
import Derived.Test.YtdegffffcbhjbaaGreatDoorQ12
namespace Go.Proofs.YtdegffffcbhjbaaGreatDoor.Fa
open Go.RowKit Go.Lib Go.Sort
theorem el_new1 (w:World) (o:Obj) (y:Fact) (t:TypeId):ElAt encF ((w.alloc o).alloc (.cells (encF.cs y).toArray t)) (w.heap.size+1) 0 y:=by
 have:=el_new encF (w.alloc o) y t
 rw [World.size_alloc] at this
 exact this
end Go.Proofs.YtdegffffcbhjbaaGreatDoor.Fa
