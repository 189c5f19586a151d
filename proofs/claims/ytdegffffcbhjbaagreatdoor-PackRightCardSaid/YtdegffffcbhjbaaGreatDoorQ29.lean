/- FaFacts -/
import Derived.Test.YtdegffffcbhjbaaGreatDoorQ21
namespace Go.Proofs.YtdegffffcbhjbaaGreatDoor.Fa
theorem cube_length (l:List Fact):(cube l).length≤l.length:=by
 have h1:=keys_length l
 have key:∀ (K:List Key),(K.flatMap fun k=>putF k (isum l k)).length≤K.length:=by
  intro K
  induction K with
  | nil=>simp
  | cons k K ih =>
    rw [List.flatMap_cons,List.length_append,List.length_cons]
    have:(putF k (isum l k)).length≤1:=by unfold putF;split <;> simp
    omega
 exact Nat.le_trans (key _) h1
end Go.Proofs.YtdegffffcbhjbaaGreatDoor.Fa
