/- UnitHad CsLines -/
import Derived.Test.YthcpglnmhimepaaGreatDoorS48
section
namespace Go.Proofs.YthcpglnmhimepaaGreatDoor.Un
open Go.RowKit
theorem HadAt.below {W W':World} {B Bw:Nat} {v:Value} {L:List (Int × List ByteArray)} (h:HadAt W B Bw v L) (hb:Below W.heap.size W W'):HadAt W' B Bw v L:=by
 obtain ⟨LV,h1,h2⟩:=h
 exact ⟨LV,row_below h1 hb,h2.mono fun u n xs hu=>row_below hu hb⟩
theorem szL_count (l:List (List ByteArray)):l.length≤szL l:=by
 induction l with
 | nil=>exact Nat.zero_le _
 | cons ws l ih =>
   have:szL (ws::l)=szW ws+szL l:=rfl
   rw [this]
   unfold szW
   simp only [List.length_cons]
   omega
end Go.Proofs.YthcpglnmhimepaaGreatDoor.Un
end
section
namespace Go.Proofs.YthcpglnmhimepaaGreatDoor.Cs
open Go.RowKit Go.Proofs.YthcpglnmhimepaaGreatDoor.Un Go.Proofs.YthcpglnmhimepaaGreatDoor.Pk
open Go.Lib (itoa)
set_option maxHeartbeats 1000000 in
theorem rlines_over (s:ByteArray) (w:World) (h:20000 < s.size) (hs:s.size≤maxLen) :
 Calls Tryz.prog 18 #[.string s] w (LinesHad w [] 4):=by
 unfold maxLen at hs
 go_enter Tryz.func18,Tryz.ntmps18
 go_wp2
 go_ret2
 exact LinesHad.none w w (Below.refl _ _) 4
theorem rlines_some (s:ByteArray) (w:World) (hs:s.size≤maxLen) :
 Calls Tryz.prog 18 #[.string s] w fun e w'=>∃ (L:List (Int × List ByteArray)) (p:Option Addr) (c:Nat) (n:Int),e=.returned (.tuple #[.slice p L.length c,.int .i64 n])∧Below w.heap.size w w':=by
 by_cases h:20000 < s.size
 ·refine (rlines_over s w h hs).mono fun e w' hh=>?_
  obtain ⟨v,he,hl,hb⟩:=had_of hh
  obtain ⟨p,c,rfl⟩:=hl.len
  exact ⟨[],p,c,_,he,hb⟩
 ·refine (rlines_had s w (by omega)).mono fun e w' hh=>?_
  obtain ⟨v,he,hl,hb⟩:=had_of hh
  obtain ⟨p,c,rfl⟩:=hl.len
  exact ⟨_,p,c,_,he,hb⟩
end Go.Proofs.YthcpglnmhimepaaGreatDoor.Cs
end
