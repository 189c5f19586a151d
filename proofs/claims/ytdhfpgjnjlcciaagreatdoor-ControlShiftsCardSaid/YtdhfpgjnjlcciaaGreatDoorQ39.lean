/- FlowPlain -/
import Derived.Test.YtdhfpgjnjlcciaaGreatDoorQ33
namespace Go.Proofs.YtdhfpgjnjlcciaaGreatDoor.Fl
open Go.RowKit
theorem XV {L:List Flow} (hr:riseK Flow.code L=true) {k:Int} {c:ByteArray} (hc:c∈ofF L k):isK Flow.code L c=true∧kindL L c=k∧∃ f,findF L c=some f∧f.kind=k:=by
 obtain ⟨f,hf,rfl,rfl⟩:=mem_of.1 hc
 have h1:=jc hr hf
 obtain ⟨h2,h3⟩:=jE hr f.code
 rw [h1] at h2 h3
 have h2':isK Flow.code L f.code=true:=h2
 refine ⟨h2',?_,f,h1,rfl⟩
 unfold kindL
 rw [if_pos h2',h3 h2'];rfl
end Go.Proofs.YtdhfpgjnjlcciaaGreatDoor.Fl
