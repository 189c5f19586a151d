/- Row -/
import Derived.Deep.RegionLaw
import Derived.Laws.Slices
import Derived.Test.YthcpglnmhimepaaGreatDoorS03
namespace Go.Proofs.YthcpglnmhimepaaGreatDoor
open Go.RowKit
theorem add_add (ad:Addr) (i j:Nat):(ad.add i).add j=ad.add (i+j):=by
 unfold Addr.add
 by_cases h1:i=0
 ·subst h1;simp
 ·by_cases h2:j=0
  ·subst h2;simp
  ·rw [if_neg h1,if_neg h2,if_neg (by omega)];simp;omega
section
variable {P:Program} {w:World} {o:Oper} {a:Act} {K:Act→World→Prop} {Q:Exit→Act→World→Prop}
end
end Go.Proofs.YthcpglnmhimepaaGreatDoor
