/- CsLines -/
import Derived.Test.YthcpglnmhimepaaGreatDoorS48
namespace Go.Proofs.YthcpglnmhimepaaGreatDoor.Cs
open Go.RowKit Go.Proofs.YthcpglnmhimepaaGreatDoor.Un Go.Proofs.YthcpglnmhimepaaGreatDoor.Pk
open Go.Lib (itoa)
theorem tab_off {W:World} {g:Nat} {x y v:Value} {t:TypeId} {fr:Nat × Nat} {L:List Crs} (hb:W.heap[g]?=some (.cells #[x] t fr)) (h:TabV W v L):TabV (W.setCell ⟨g,0,none⟩ y) v L:=by
 obtain ⟨p,c,e,h1,h2,h3,hc⟩:=h
 refine ⟨p,c,e,h1,h2,h3,fun i z hz=>?_⟩
 obtain ⟨b,o,e',hat⟩:=hc i z hz
 refine ⟨b,o,e',fun j u hj=>?_⟩
 have hne:b≠g:=fun eb=>by
  subst eb
  have k1:=hat 1 _ rfl
  rw [cell_of_row W b _ _ t fr hb] at k1
  have hk:=(Array.getElem?_eq_some_iff.1 k1).1
  rw [show #[x].size=1 from rfl] at hk
  omega
 have:=hat j u hj
 rw [←this]
 unfold World.cell?
 rw [Below.heap_setCell _ _ _ _ (fun e=>hne e)]
theorem one_free {W:World} {g:Nat} {x:Value} {t:TypeId} (hb:W.heap[g]?=some (.cells #[x] t (0,0))):W.frozen? ⟨g,0,none⟩=false∧W.cell? ⟨g,0,none⟩=some x:=⟨by simp [World.frozen?,hb],(cell_of_row W g 0 _ _ (0,0) hb).trans rfl⟩
theorem one_set {W:World} {g:Nat} {x y:Value} {t:TypeId} (hb:W.heap[g]?=some (.cells #[x] t (0,0))):(W.setCell ⟨g,0,none⟩ y).cell? ⟨g,0,none⟩=some y:=by
 have:=Joins.block_setCell (i:=0) hb y
 exact (cell_of_row _ g 0 _ _ (0,0) this).trans rfl
end Go.Proofs.YthcpglnmhimepaaGreatDoor.Cs
