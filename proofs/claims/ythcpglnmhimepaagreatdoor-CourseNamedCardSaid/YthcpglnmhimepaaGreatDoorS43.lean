/- CsPlain -/
import Derived.Test.YthcpglnmhimepaaGreatDoorS41
namespace Go.Proofs.YthcpglnmhimepaaGreatDoor.Cs
open Go.RowKit Go.Proofs.YthcpglnmhimepaaGreatDoor.Un Go.Proofs.YthcpglnmhimepaaGreatDoor.Pk
theorem Inv.find {M:Mast} {l:List (List ByteArray)} {L:List Crs} (h:Inv M l L) {ws:List ByteArray} (hw:ws∈l):G.findK Crs.key L (readV ws).key=some (readV ws) :=
 G.findK_of_mem h.rise (h.perm.mem_iff.2 (List.mem_map.2 ⟨ws,hw,rfl⟩))
end Go.Proofs.YthcpglnmhimepaaGreatDoor.Cs
