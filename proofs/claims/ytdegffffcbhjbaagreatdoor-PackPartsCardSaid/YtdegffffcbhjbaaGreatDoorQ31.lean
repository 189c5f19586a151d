/- FaFacts PkFacts -/
import Derived.Test.YtdegffffcbhjbaaGreatDoorQ24
import Derived.Test.YtdegffffcbhjbaaGreatDoorQ25
section
namespace Go.Proofs.YtdegffffcbhjbaaGreatDoor.Fa
theorem riseF_uniq_list {c d:List Fact} (hc:RiseF c) (hd:RiseF d) (h:∀ f,f∈c ↔ f∈d):c=d :=
 pairs_uniq (T:=fun x y:Fact=>ltK x.key y.key) (fun _=>ltK_irr _) (fun h1 h2=>ltK_trans h1 h2) hc hd h
theorem cube_eq {l l':List Fact} (h:∀ k,isum l k=isum l' k):cube l=cube l' :=
 riseF_uniq_list (cube_rise l) (cube_rise l') fun f=>by rw [mem_cube,mem_cube,h]
end Go.Proofs.YtdegffffcbhjbaaGreatDoor.Fa
end
section
namespace Go.Proofs.YtdegffffcbhjbaaGreatDoor.Pk
open Go.RowKit Go.Proofs.YtdegffffcbhjbaaGreatDoor.Un Go.Proofs.YtdegffffcbhjbaaGreatDoor.Fa
theorem runP_append {M:Mast}:∀ (A B:List (List ByteArray)) {S T:St},runP M S A=(T,0)→runP M S (A++B)=runP M T B
 | [],B,S,T,h=>by
   simp only [runP,Prod.mk.injEq] at h
   rw [←h.1];rfl
 | ws::A,B,S,T,h=>by
   by_cases he:lineE M S ws=0
   ·rw [runP_cons A he] at h
    rw [List.cons_append,runP_cons (A++B) he]
    exact runP_append A B h
   ·rw [runP_stop A he] at h
    exact absurd (Prod.mk.inj h).2 he
end Go.Proofs.YtdegffffcbhjbaaGreatDoor.Pk
end
