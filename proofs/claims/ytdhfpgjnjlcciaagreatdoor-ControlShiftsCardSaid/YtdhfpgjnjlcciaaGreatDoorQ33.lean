/- Base -/
import Derived.Test.YtdhfpgjnjlcciaaGreatDoorQ01
namespace Go.Proofs.YtdhfpgjnjlcciaaGreatDoor
open Go.RowKit
theorem JH {a:Int} (h:(Lit.int .i64 a).wf=true):In64 a:=by
 have e1:IntKind.i64.min=-9223372036854775808:=rfl
 have e2:IntKind.i64.max=9223372036854775807:=rfl
 simp [Lit.wf,e1,e2] at h
 exact h
end Go.Proofs.YtdhfpgjnjlcciaaGreatDoor
