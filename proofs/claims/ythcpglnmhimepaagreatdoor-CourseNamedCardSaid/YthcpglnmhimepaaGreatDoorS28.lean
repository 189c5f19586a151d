/- UnitKeepL -/
import Derived.Test.YthcpglnmhimepaaGreatDoorS25
namespace Go.Proofs.YthcpglnmhimepaaGreatDoor.Un
open Go.RowKit Go.Maps
structure LinPutAt (W w3:World) (B R m n:Nat) (c f e l:Value) (D:DataW Unit) (M:Mast) (u:Value) (N:List Lin):Prop where
 box:BoxRd w3 R m c f e l M
 chart:w3.ownsRow B 192 6 c M.chart.length (flatA M.chart)
 flows:w3.ownsRow B 70 2 f M.flows.length (flat Fl.encF M.flows)
 ents:w3.ownsRow B 206 2 e M.ents.length (flat encE M.ents)
 lines:w3.ownsRow B 211 3 u N.length (flat encL N)
 map:MapRd w3 m n D
 bel:Below B W w3
 geR:B≤R
 geM:B≤m
theorem LinPutAt.stored {W w3:World} {B R m n:Nat} {c f e l:Value} {D:DataW Unit} {M:Mast} {u:Value} {N:List Lin} (h:LinPutAt W w3 B R m n c f e l D M u N):RdAt (w3.setCell ⟨R,3,none⟩ u) B R m c f e u n D { M with lines:=N } :=
 rd_stored 3 _ h.box rfl h.chart h.flows h.ents h.lines h.map h.geR h.geM
def LinPutTold (W:World) (B R m n:Nat) (c f e l:Value) (D:DataW Unit) (M:Mast) (N:List Lin) (E:Int) (en:Ending) (w3:World):Prop :=
 ∃ p9 n9 c9,en=.returned (.tuple #[.slice p9 n9 c9,.int .i64 E])∧w3.cell? ⟨R,3,none⟩=some l∧w3.frozen? ⟨R,3,none⟩=false∧Hid (Below B W (w3.setCell ⟨R,3,none⟩ (.slice p9 n9 c9))∧(E=0→LinPutAt W w3 B R m n c f e l D M (.slice p9 n9 c9) N))
theorem lin_put (a b d:ByteArray) (W:World) (B R m n:Nat) (c f e l:Value) (D:DataW Unit) (M:Mast) (h:RdAt W B R m c f e l n D M) (hB:B≤W.heap.size) (hri:G.riseK Lin.key M.lines=true) (hL:M.lines.length≤1000) :
 Calls Tryz.prog 108 #[l,aggN ⟨a,b,d⟩,.int .i64 1000,.func (.func 109) #[] #[]] W (LinPutTold W B R m n c f e l D M (G.insK Lin.key M.lines ⟨a,b,d⟩) (if 1000≤M.lines.length then 4 else 0)) :=
 (Li.put_any l M.lines ⟨a,b,d⟩ 1000 B W h.lines hB hri hL).mono fun en w3 hp=>by
  obtain ⟨p9,n9,c9,rfl,hg9,ho9⟩:=hp
  obtain ⟨h1,h2,h3,h4,h5⟩:=h.linesTurned hg9
  have hbl:=below_grown (Below.refl B W) hB h.lines hg9
  refine ⟨p9,n9,c9,rfl,(box_nine h1).c3,box_free h1 3,Lib.hid ⟨below_stored hbl h.geR 3 _,fun h0=>?_⟩⟩
  have hn:¬ 1000≤M.lines.length:=fun hn=>by rw [if_pos hn] at h0;simp at h0
  exact ⟨h1,h2,h3,h4,ho9 hn,h5,hbl,h.geR,h.geM⟩
set_option maxRecDepth 100000 in
set_option maxHeartbeats 16000000 in
theorem keep_lin (v:Value) (a b d:ByteArray) (W:World) (B R m n:Nat) (c f e l:Value) (D:DataW Unit) (M:Mast) (hv:StrsV W v [tMap,a,b,d]) (h:RdAt W B R m c f e l n D M) (hB:B≤W.heap.size) (hri:G.riseK Lin.key M.lines=true) (hL:M.lines.length≤1000) :
 Calls Tryz.prog 69 #[.pointer (some ⟨R,0,none⟩),v] W (ReadTold W B R m n D { M with lines:=G.insK Lin.key M.lines ⟨a,b,d⟩ } (if 1000≤M.lines.length then 4 else 0)):=by
 obtain ⟨p,cp,rfl,_,_,hc⟩:=hv
 obtain ⟨g,o,rfl,k0⟩:=hc 0 tMap rfl
 obtain ⟨g',o',e1,k1⟩:=hc 1 a rfl
 cases e1
 obtain ⟨g',o',e1,k2⟩:=hc 2 b rfl
 cases e1
 obtain ⟨g',o',e1,k3⟩:=hc 3 d rfl
 cases e1
 rw [Nat.add_zero] at k0
 have g1:(tMap.toList==[101,110,116,105,116,121])=false:=by rw [qEntity];decide
 have g2:(tMap.toList==[109,97,112])=true:=by rw [qMap];decide
 have hd:RdAt W.drew B R m c f e l n D M:=h.below ⟨rfl,rfl,rfl,Nat.le_refl _,fun _ _=>rfl⟩
 have HPU:=Lib.hid (lin_put a b d W.drew B R m n c f e l D M hd hB hri hL)
 obtain ⟨NE,hNE⟩:∃ NE,G.insK Lin.key M.lines ⟨a,b,d⟩=NE:=⟨_,rfl⟩
 rw [hNE] at HPU ⊢
 obtain ⟨E,hE⟩:∃ E:Int,(if 1000≤M.lines.length then 4 else 0)=E:=⟨_,rfl⟩
 rw [hE] at HPU ⊢
 obtain ⟨MM,hMM⟩:∃ MM:Mast,({ M with lines:=NE }:Mast)=MM:=⟨_,rfl⟩
 rw [hMM]
 have HMM:=Lib.hid hMM
 obtain ⟨k00,k01,k02,k03,k04,k05,k06,k07,k08⟩:=hd.nine
 have j1:W.drew.cell? ⟨g,o+1,none⟩=some (.string a):=k1
 have j2:W.drew.cell? ⟨g,o+2,none⟩=some (.string b):=k2
 have j3:W.drew.cell? ⟨g,o+3,none⟩=some (.string d):=k3
 clear hE hc hNE hMM h hd hB hri hL k00 k01 k02 k04 k05 k06 k07 k08
 go_enter Tryz.func69,Tryz.ntmps69
 go_wp2_with fail
 clear k0 k1 k2 k3 g1 g2
 go_region_with (first
  | (go_at_call 108;refine HPU.out.mono ?_;rintro en w3 ⟨p9,n9,c9,rfl,hz,hfz,HP⟩;clear j1 j2 j3 k03)
  | fail)
 all_goals
  clear hz hfz
  go_wp2
  go_ret
  exact ⟨rfl,(show Below B W _ from below_undrawn HP.out.1),fun h0=>⟨_,_,_,_,by rw [←HMM.out];exact (HP.out.2 h0).stored⟩⟩
end Go.Proofs.YthcpglnmhimepaaGreatDoor.Un
