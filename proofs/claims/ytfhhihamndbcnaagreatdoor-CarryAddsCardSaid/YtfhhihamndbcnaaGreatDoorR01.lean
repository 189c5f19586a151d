/- Base -/
import Derived.IntWalk
import Derived.WalkKit
namespace Go.Proofs.YtfhhihamndbcnaaGreatDoor
end Go.Proofs.YtfhhihamndbcnaaGreatDoor
namespace Go.Proofs.YtfhhihamndbcnaaGreatDoor.Co
end Go.Proofs.YtfhhihamndbcnaaGreatDoor.Co
namespace Go.Proofs.YtfhhihamndbcnaaGreatDoor.Cy
end Go.Proofs.YtfhhihamndbcnaaGreatDoor.Cy
namespace Go.Proofs.YtfhhihamndbcnaaGreatDoor.Fa
end Go.Proofs.YtfhhihamndbcnaaGreatDoor.Fa
namespace Go.Proofs.YtfhhihamndbcnaaGreatDoor.Fl
end Go.Proofs.YtfhhihamndbcnaaGreatDoor.Fl
namespace Go.Proofs.YtfhhihamndbcnaaGreatDoor.G
end Go.Proofs.YtfhhihamndbcnaaGreatDoor.G
namespace Go.Proofs.YtfhhihamndbcnaaGreatDoor.Ow
end Go.Proofs.YtfhhihamndbcnaaGreatDoor.Ow
namespace Go.Proofs.YtfhhihamndbcnaaGreatDoor.Pk
end Go.Proofs.YtfhhihamndbcnaaGreatDoor.Pk
namespace Go.Proofs.YtfhhihamndbcnaaGreatDoor.Un
end Go.Proofs.YtfhhihamndbcnaaGreatDoor.Un
namespace Go.Proofs.YtfhhihamndbcnaaGreatDoor.find_any
end Go.Proofs.YtfhhihamndbcnaaGreatDoor.find_any
namespace Go.Proofs.YtfhhihamndbcnaaGreatDoor.parse_any
end Go.Proofs.YtfhhihamndbcnaaGreatDoor.parse_any
namespace Go.Proofs.YtfhhihamndbcnaaGreatDoor.toList_inj
end Go.Proofs.YtfhhihamndbcnaaGreatDoor.toList_inj
namespace Go.Proofs.YtfhhihamndbcnaaGreatDoor
open Go.RowKit
def fit (n:Int):Bool:=decide (-9223372036854775808≤n) && decide (n≤9223372036854775807)
theorem fit_iff (n:Int):fit n=true ↔ -9223372036854775808≤n∧n≤9223372036854775807:=by simp [fit]
theorem fit_no (n:Int):fit n=false ↔ n < -9223372036854775808∨9223372036854775807 < n:=by
 rw [←Bool.not_eq_true,fit_iff];omega
def In64 (a:Int):Prop:=-9223372036854775808≤a∧a≤9223372036854775807
theorem in64_of_fit {a:Int} (h:fit a=true):In64 a:=(fit_iff a).1 h
theorem ret_bool {a b:Bool} (h:a=b):Ending.returned (.bool a)=.returned (.bool b):=by rw [h]
end Go.Proofs.YtfhhihamndbcnaaGreatDoor
