/- Base -/
import Derived.IntWalk
import Derived.WalkKit
namespace Go.Proofs.YthcpglnmhimepaaGreatDoor
end Go.Proofs.YthcpglnmhimepaaGreatDoor
namespace Go.Proofs.YthcpglnmhimepaaGreatDoor.Cs
end Go.Proofs.YthcpglnmhimepaaGreatDoor.Cs
namespace Go.Proofs.YthcpglnmhimepaaGreatDoor.Fa
end Go.Proofs.YthcpglnmhimepaaGreatDoor.Fa
namespace Go.Proofs.YthcpglnmhimepaaGreatDoor.Fl
end Go.Proofs.YthcpglnmhimepaaGreatDoor.Fl
namespace Go.Proofs.YthcpglnmhimepaaGreatDoor.G
end Go.Proofs.YthcpglnmhimepaaGreatDoor.G
namespace Go.Proofs.YthcpglnmhimepaaGreatDoor.Ow
end Go.Proofs.YthcpglnmhimepaaGreatDoor.Ow
namespace Go.Proofs.YthcpglnmhimepaaGreatDoor.Pk
end Go.Proofs.YthcpglnmhimepaaGreatDoor.Pk
namespace Go.Proofs.YthcpglnmhimepaaGreatDoor.Ra
end Go.Proofs.YthcpglnmhimepaaGreatDoor.Ra
namespace Go.Proofs.YthcpglnmhimepaaGreatDoor.Un
end Go.Proofs.YthcpglnmhimepaaGreatDoor.Un
namespace Go.Proofs.YthcpglnmhimepaaGreatDoor.parse_any
end Go.Proofs.YthcpglnmhimepaaGreatDoor.parse_any
namespace Go.Proofs.YthcpglnmhimepaaGreatDoor.rprint_any
end Go.Proofs.YthcpglnmhimepaaGreatDoor.rprint_any
namespace Go.Proofs.YthcpglnmhimepaaGreatDoor
open Go.RowKit
def fit (n:Int):Bool:=decide (-9223372036854775808≤n) && decide (n≤9223372036854775807)
theorem fit_iff (n:Int):fit n=true ↔ -9223372036854775808≤n∧n≤9223372036854775807:=by simp [fit]
theorem fit_no (n:Int):fit n=false ↔ n < -9223372036854775808∨9223372036854775807 < n:=by
 rw [←Bool.not_eq_true,fit_iff];omega
def In64 (a:Int):Prop:=-9223372036854775808≤a∧a≤9223372036854775807
theorem in64_of_fit {a:Int} (h:fit a=true):In64 a:=(fit_iff a).1 h
theorem ret_bool {a b:Bool} (h:a=b):Ending.returned (.bool a)=.returned (.bool b):=by rw [h]
end Go.Proofs.YthcpglnmhimepaaGreatDoor
