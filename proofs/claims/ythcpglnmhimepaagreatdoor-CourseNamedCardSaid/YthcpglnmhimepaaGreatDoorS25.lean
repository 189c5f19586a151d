/- UnitKeepE -/
import Derived.Test.YthcpglnmhimepaaGreatDoorS23
import Derived.Test.YthcpglnmhimepaaGreatDoorS24
namespace Go.Proofs.YthcpglnmhimepaaGreatDoor.Un
open Go.RowKit Go.Maps
theorem RdAt.entsTurned {W W':World} {B R m n:Nat} {c f e l:Value} {D:DataW Unit} {M:Mast} (h:RdAt W B R m c f e l n D M) (hg:W.grownBy W' e.ownBlock) :
 BoxRd W' R m c f e l M∧W'.ownsRow B 192 6 c M.chart.length (flatA M.chart)∧W'.ownsRow B 70 2 f M.flows.length (flat Fl.encF M.flows)∧W'.ownsRow B 211 3 l M.lines.length (flat encL M.lines)∧MapRd W' m n D :=
 ⟨(hg.block R h.lt (fun e0=>box_apart h.box h.ents (by decide) e0.symm)).trans h.box,h.chart.kept hg (row_apart h.ents h.chart (by decide)),h.flows.kept hg (row_apart h.ents h.flows (by decide)),h.lines.kept hg (row_apart h.ents h.lines (by decide)),h.map.kept hg (map_apart h.map h.ents)⟩
theorem RdAt.linesTurned {W W':World} {B R m n:Nat} {c f e l:Value} {D:DataW Unit} {M:Mast} (h:RdAt W B R m c f e l n D M) (hg:W.grownBy W' l.ownBlock) :
 BoxRd W' R m c f e l M∧W'.ownsRow B 192 6 c M.chart.length (flatA M.chart)∧W'.ownsRow B 70 2 f M.flows.length (flat Fl.encF M.flows)∧W'.ownsRow B 206 2 e M.ents.length (flat encE M.ents)∧MapRd W' m n D :=
 ⟨(hg.block R h.lt (fun e0=>box_apart h.box h.lines (by decide) e0.symm)).trans h.box,h.chart.kept hg (row_apart h.lines h.chart (by decide)),h.flows.kept hg (row_apart h.lines h.flows (by decide)),h.ents.kept hg (row_apart h.lines h.ents (by decide)),h.map.kept hg (map_apart h.map h.lines)⟩
theorem box_nine {W:World} {R m:Nat} {c f e l:Value} {M:Mast} (h:BoxRd W R m c f e l M):NineAt W R c f e l M:=nine_of (more:=[.map (some m)]) h
theorem box_free {W:World} {R m:Nat} {c f e l:Value} {M:Mast} (h:BoxRd W R m c f e l M) (o:Nat):W.frozen? ⟨R,o,none⟩=false:=by
 unfold BoxRd at h
 simp [World.frozen?,h]
structure EntPutAt (W w3:World) (B R m n:Nat) (c f e l:Value) (D:DataW Unit) (M:Mast) (u:Value) (N:List Ent):Prop where
 box:BoxRd w3 R m c f e l M
 chart:w3.ownsRow B 192 6 c M.chart.length (flatA M.chart)
 flows:w3.ownsRow B 70 2 f M.flows.length (flat Fl.encF M.flows)
 ents:w3.ownsRow B 206 2 u N.length (flat encE N)
 lines:w3.ownsRow B 211 3 l M.lines.length (flat encL M.lines)
 map:MapRd w3 m n D
 bel:Below B W w3
 geR:B≤R
 geM:B≤m
theorem EntPutAt.stored {W w3:World} {B R m n:Nat} {c f e l:Value} {D:DataW Unit} {M:Mast} {u:Value} {N:List Ent} (h:EntPutAt W w3 B R m n c f e l D M u N):RdAt (w3.setCell ⟨R,2,none⟩ u) B R m c f u l n D { M with ents:=N } :=
 rd_stored 2 _ h.box rfl h.chart h.flows h.ents h.lines h.map h.geR h.geM
def EntPutTold (W:World) (B R m n:Nat) (c f e l:Value) (D:DataW Unit) (M:Mast) (N:List Ent) (E:Int) (en:Ending) (w3:World):Prop :=
 ∃ p9 n9 c9,en=.returned (.tuple #[.slice p9 n9 c9,.int .i64 E])∧w3.cell? ⟨R,2,none⟩=some e∧w3.frozen? ⟨R,2,none⟩=false∧Hid (Below B W (w3.setCell ⟨R,2,none⟩ (.slice p9 n9 c9))∧(E=0→EntPutAt W w3 B R m n c f e l D M (.slice p9 n9 c9) N))
theorem ent_put (a b:ByteArray) (W:World) (B R m n:Nat) (c f e l:Value) (D:DataW Unit) (M:Mast) (h:RdAt W B R m c f e l n D M) (hB:B≤W.heap.size) (hri:G.riseK Ent.code M.ents=true) (hL:M.ents.length≤1000) :
 Calls Tryz.prog 106 #[e,aggE ⟨a,b⟩,.int .i64 60,.func (.func 107) #[] #[]] W (EntPutTold W B R m n c f e l D M (G.insK Ent.code M.ents ⟨a,b⟩) (if 60≤M.ents.length then 4 else 0)) :=
 (En.put_any e M.ents ⟨a,b⟩ 60 B W h.ents hB hri hL).mono fun en w3 hp=>by
  obtain ⟨p9,n9,c9,rfl,hg9,ho9⟩:=hp
  obtain ⟨h1,h2,h3,h4,h5⟩:=h.entsTurned hg9
  have hbl:=below_grown (Below.refl B W) hB h.ents hg9
  refine ⟨p9,n9,c9,rfl,(box_nine h1).c2,box_free h1 2,Lib.hid ⟨below_stored hbl h.geR 2 _,fun h0=>?_⟩⟩
  have hn:¬ 60≤M.ents.length:=fun hn=>by rw [if_pos hn] at h0;simp at h0
  exact ⟨h1,h2,h3,ho9 hn,h4,h5,hbl,h.geR,h.geM⟩
set_option maxRecDepth 100000 in
set_option maxHeartbeats 16000000 in
theorem keep_ent (v:Value) (a b:ByteArray) (W:World) (B R m n:Nat) (c f e l:Value) (D:DataW Unit) (M:Mast) (hv:StrsV W v [tEntity,a,b]) (h:RdAt W B R m c f e l n D M) (hB:B≤W.heap.size) (hri:G.riseK Ent.code M.ents=true) (hL:M.ents.length≤1000) :
 Calls Tryz.prog 69 #[.pointer (some ⟨R,0,none⟩),v] W (ReadTold W B R m n D { M with ents:=G.insK Ent.code M.ents ⟨a,b⟩ } (if 60≤M.ents.length then 4 else 0)):=by
 obtain ⟨p,cp,rfl,_,_,hc⟩:=hv
 obtain ⟨g,o,rfl,k0⟩:=hc 0 tEntity rfl
 obtain ⟨g',o',e1,k1⟩:=hc 1 a rfl
 cases e1
 obtain ⟨g',o',e1,k2⟩:=hc 2 b rfl
 cases e1
 rw [Nat.add_zero] at k0
 have g1:(tEntity.toList==[101,110,116,105,116,121])=true:=by rw [qEntity];decide
 have hd:RdAt W.drew B R m c f e l n D M:=h.below ⟨rfl,rfl,rfl,Nat.le_refl _,fun _ _=>rfl⟩
 have HPU:=Lib.hid (ent_put a b W.drew B R m n c f e l D M hd hB hri hL)
 obtain ⟨NE,hNE⟩:∃ NE,G.insK Ent.code M.ents ⟨a,b⟩=NE:=⟨_,rfl⟩
 rw [hNE] at HPU ⊢
 obtain ⟨E,hE⟩:∃ E:Int,(if 60≤M.ents.length then 4 else 0)=E:=⟨_,rfl⟩
 rw [hE] at HPU ⊢
 obtain ⟨MM,hMM⟩:∃ MM:Mast,({ M with ents:=NE }:Mast)=MM:=⟨_,rfl⟩
 rw [hMM]
 have HMM:=Lib.hid hMM
 obtain ⟨k00,k01,k02,k03,k04,k05,k06,k07,k08⟩:=hd.nine
 have j1:W.drew.cell? ⟨g,o+1,none⟩=some (.string a):=k1
 have j2:W.drew.cell? ⟨g,o+2,none⟩=some (.string b):=k2
 clear hE hc hNE hMM h hd hB hri hL k00 k01 k03 k04 k05 k06 k07 k08
 go_enter Tryz.func69,Tryz.ntmps69
 go_wp2_with fail
 clear k0 k1 k2 g1
 go_region_with (first
  | (go_at_call 106;refine HPU.out.mono ?_;rintro en w3 ⟨p9,n9,c9,rfl,hz,hfz,HP⟩;clear j1 j2 k02)
  | fail)
 all_goals
  clear hz hfz
  go_wp2
  go_ret
  exact ⟨rfl,(show Below B W _ from below_undrawn HP.out.1),fun h0=>⟨_,_,_,_,by rw [←HMM.out];exact (HP.out.2 h0).stored⟩⟩
end Go.Proofs.YthcpglnmhimepaaGreatDoor.Un
