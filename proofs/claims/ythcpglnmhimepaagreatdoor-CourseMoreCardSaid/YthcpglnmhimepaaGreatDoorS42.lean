/- CsPlain -/
import Derived.Test.YthcpglnmhimepaaGreatDoorS41
namespace Go.Proofs.YthcpglnmhimepaaGreatDoor.Cs
open Go.RowKit Go.Proofs.YthcpglnmhimepaaGreatDoor.Un Go.Proofs.YthcpglnmhimepaaGreatDoor.Pk
theorem runC_append {M:Mast} (l k:List (List ByteArray)) (L:List Crs):runC M L (l++k)=if (runC M L l).2=0 then runC M (runC M L l).1 k else runC M L l:=by
 induction l generalizing L with
 | nil=>simp [runC]
 | cons ws l ih =>
   rw [List.cons_append]
   by_cases hs:stepE M L ws=0
   ·rw [runC_cons _ hs,runC_cons _ hs,ih]
   ·rw [runC_stop _ hs,runC_stop _ hs,if_neg hs]
end Go.Proofs.YthcpglnmhimepaaGreatDoor.Cs
