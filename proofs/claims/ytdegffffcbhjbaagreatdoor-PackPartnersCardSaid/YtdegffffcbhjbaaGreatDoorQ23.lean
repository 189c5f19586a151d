/- PkMaster FaOurs -/
import Derived.Test.YtdegffffcbhjbaaGreatDoorQ19
import Derived.Test.YtdegffffcbhjbaaGreatDoorQ20
section
namespace Go.Proofs.YtdegffffcbhjbaaGreatDoor.Pk
open Go.RowKit Go.Maps Go.Proofs.YtdegffffcbhjbaaGreatDoor.Un
theorem solid_none {M:Mast} (h:Solid M):hasE M emp=false:=by
 unfold hasE
 cases hf:G.findK Ent.code M.ents emp with
 | none=>rfl
 | some x=>exact absurd (G.findK_mem hf).1 (h.en x (G.findK_mem hf).2)
end Go.Proofs.YtdegffffcbhjbaaGreatDoor.Pk
end
section
namespace Go.Proofs.YtdegffffcbhjbaaGreatDoor.Fa
open Go.RowKit
theorem infoT:InfoE Tryz.prog 39 58 encF:=.of (z:=.agg #[.string ⟨#[]⟩,.string ⟨#[]⟩,.string ⟨#[]⟩,.string ⟨#[]⟩,.int .i64 0,.int .i64 0]) (n:=80) Tryz.underlying39 (by kernel_rfl) rfl (by decide)
end Go.Proofs.YtdegffffcbhjbaaGreatDoor.Fa
end
