/- ChartRight ChartRight2 ChartAdd FlowClone FlowInsert FlowRight FlowAdd UnitReader -/
import Derived.Deep.RegionHeld3
import Derived.Lib.SmallJoins
import Derived.Test.YtdhfpgjnjlcciaaGreatDoorQ05
section
namespace Go.Proofs.YtdhfpgjnjlcciaaGreatDoor
open Go.RowKit
abbrev aggA (a:Acct):Value:=.agg #[.string a.code,.int .i64 a.cls,.bool a.cash,.bool a.both,.string a.fixed,.bool a.worn]
set_option maxRecDepth 100000 in
set_option maxHeartbeats 4000000 in
theorem zep (a:Acct) (w:World):Calls Tryz.prog 195 #[aggA a] w fun e w'=>e=.returned (.bool (marksA a))∧Below w.heap.size w w':=by
 obtain ⟨co,cl,ca,mu,fi,wo⟩:=a
 have HB:=Lib.hid ((Below.refl w.heap.size w).alloc (Nat.le_refl _) (.cells #[.string co,.int .i64 cl,.bool ca,.bool mu,.string fi,.bool wo] 129))
 obtain ⟨r,hr⟩:∃ r,marksA ⟨co,cl,ca,mu,fi,wo⟩=r:=⟨_,rfl⟩
 rw [hr]
 have HR:=Lib.hid hr
 clear hr
 by_cases hf:fi=⟨#[]⟩
 ·subst hf
  cases ca <;> cases mu <;> cases wo
  all_goals
   go_enter Tryz.func195,Tryz.ntmps195
   go_wp2
   go_ret
   exact ⟨zk (by rw [←HR.out];simp [marksA,qT]),HB.out⟩
 ·have hn:=(ji fi).2 hf
  have HN:=Lib.hid hn
  unfold neB at hn
  cases hm:nmB fi <;> cases ca <;> cases mu <;> cases wo
  all_goals
   have HM:=Lib.hid hm
   clear hm
   go_enter Tryz.func195,Tryz.ntmps195
   go_wp2_with fail
   refine (jS _ _).mono ?_
   rintro e w' ⟨rfl,rfl⟩
   rw [show nameL fi.data.toList=nmB fi from rfl,HM.out]
   go_wp2
   go_ret
   exact ⟨zk (by rw [←HR.out];simp [marksA,HN.out,HM.out]),HB.out⟩
end Go.Proofs.YtdhfpgjnjlcciaaGreatDoor
end
section
namespace Go.Proofs.YtdhfpgjnjlcciaaGreatDoor
open Go.RowKit
theorem jv (s:ByteArray) (b:Bool) (h:nmB s=b) (w:World):Calls Tryz.prog 128 #[.string s] w fun e w'=>e=.returned (.bool b)∧w=w':=by
 rw [←h];exact jS s w
theorem qO (s:ByteArray) (b:Bool) (h:nmB s=b) (w:World):Calls Tryz.prog 180 #[.string s] w fun e w'=>e=.returned (.bool b)∧w=w':=by
 rw [←h];exact Qq s w
set_option maxRecDepth 100000 in
set_option maxHeartbeats 4000000 in
theorem jr (a:Acct) (w:World):Calls Tryz.prog 167 #[aggA a] w fun e w'=>e=.returned (.bool (rightA a))∧Below w.heap.size w w':=by
 have HM0:=Lib.hid (zep a)
 obtain ⟨m,hm⟩:∃ m,marksA a=m:=⟨_,rfl⟩
 rw [hm] at HM0
 have HM:=Lib.hid hm
 clear hm
 have HB:=Lib.hid ((Below.refl w.heap.size w).alloc (Nat.le_refl _) (.cells #[.string a.code,.int .i64 a.cls,.bool a.cash,.bool a.both,.string a.fixed,.bool a.worn] 129))
 obtain ⟨r,hr⟩:∃ r,rightA a=r:=⟨_,rfl⟩
 rw [hr]
 have HR:=Lib.hid hr
 clear hr
 obtain ⟨co,cl,ca,mu,fi,wo⟩:=a
 simp only at HB HM0 HM HR ⊢
 cases hc:nmB co with
 | false =>
   have HC:=Lib.hid hc
   clear hc
   go_enter Tryz.func167,Tryz.ntmps167
   go_wp2_with (go_at_call 128;refine (jv co _ HC.out _).mono ?_;rintro e w' ⟨rfl,rfl⟩)
   go_ret
   exact ⟨zk (by rw [←HR.out];simp [rightA,HC.out]),HB.out⟩
 | true =>
   have HC:=Lib.hid hc
   clear hc
   by_cases h0:0≤cl
   ·by_cases h3:cl < 3
    ·go_enter Tryz.func167,Tryz.ntmps167
     go_wp2_with (go_at_call 128;refine (jv co _ HC.out _).mono ?_;rintro e w' ⟨rfl,rfl⟩)
     refine (HM0.out _).mono ?_
     rintro e w1 ⟨rfl,hb1⟩
     have HB1:=Lib.hid hb1
     clear hb1
     go_wp2
     go_ret
     exact ⟨zk (by rw [←HR.out];simp [rightA,HC.out,h0,h3,HM.out]),HB.out.trans (HB1.out.mono HB.out.size)⟩
    ·go_enter Tryz.func167,Tryz.ntmps167
     go_wp2_with (go_at_call 128;refine (jv co _ HC.out _).mono ?_;rintro e w' ⟨rfl,rfl⟩)
     go_ret
     exact ⟨zk (by rw [←HR.out];have:¬ cl < 3:=(by omega);simp [rightA,this]),HB.out⟩
   ·go_enter Tryz.func167,Tryz.ntmps167
    go_wp2_with (go_at_call 128;refine (jv co _ HC.out _).mono ?_;rintro e w' ⟨rfl,rfl⟩)
    go_ret
    exact ⟨zk (by rw [←HR.out];have:¬ 0≤cl:=(by omega);simp [rightA,this]),HB.out⟩
end Go.Proofs.YtdhfpgjnjlcciaaGreatDoor
end
section
namespace Go.Proofs.YtdhfpgjnjlcciaaGreatDoor
open Go.RowKit
def AddOwn (w:World) (M:List Acct) (n:Int) (e:Ending) (w':World):Prop:=∃ v,e=.returned (.tuple #[v,.int .i64 n])∧w'.ownsRow w.heap.size 129 6 v M.length (flatA M)∧Below w.heap.size w w'
def InsRow (w:World) (B:Nat) (M:List Acct) (e:Ending) (w':World):Prop:=∃ v,e=.returned v∧w'.ownsRow B 129 6 v M.length (flatA M)∧Below B w w'
theorem xQ (v:Value) (L:List Acct) (x:Acct) (i vb B:Nat) (w:World) (h:w.ownsRow B 129 6 v L.length (flatA L)) (hB:B≤w.heap.size) (hx:BoxA w vb 129 x) (hne:v.ownBlock≠some vb) (hi:i≤L.length) (hL:L.length≤1000) :
 Calls Tryz.prog 168 #[v,.int .i64 (i:Int),.slice (some ⟨vb,0,none⟩) 1 1] w (InsRow w B (L.take i++x::L.drop i)) :=
 (yt v L x i vb B w h hB hx hne hi hL).mono fun _ _ ⟨u,e,ho,hg⟩=>⟨u,e,ho,below_grown (Below.refl B w) hB h hg⟩
abbrev cellsA (a:Acct):Array Value:=#[.string a.code,.int .i64 a.cls,.bool a.cash,.bool a.both,.string a.fixed,.bool a.worn]
theorem yU {B:Nat} {w w':World} (h:Below B w.drew w'):Below B w w':=⟨h.os,h.tape,h.output,h.size,h.block⟩
theorem qI {v:Value} {a b:Int} (h:a=b):Ending.returned (.tuple #[v,.int .i64 a])=.returned (.tuple #[v,.int .i64 b]):=by rw [h]
theorem xZ {w5:World} {v:Value} {L:List Acct} {a:Acct} {i B:Nat} (h:w5.ownsRow B 129 6 v L.length (flatA L)) (hB:B≤w5.heap.size) (hi:i≤L.length) (hL:L.length≤1000) :
 Calls Tryz.prog 168 #[v,.int .i64 (i:Int),.slice (some ⟨w5.heap.size,0,none⟩) 1 1] (w5.alloc (.cells (cellsA a) 129)) (InsRow (w5.alloc (.cells (cellsA a) 129)) B (L.take i++a::L.drop i)) :=
 xQ v L a i w5.heap.size B _ (h.alloc _) (by simp;omega) (BoxA.new w5 a _) (fun e=>by have:=(h.lt _ e).2;omega) hi hL
theorem zfD {W w6:World} {v:Value} {L:List Acct} {a:Acct} {i B:Nat} (h:W.ownsRow B 129 6 v L.length (flatA L)) (hB:B≤W.heap.size) (hb:Below (W.alloc (.cells (cellsA a) 129)).drew.heap.size (W.alloc (.cells (cellsA a) 129)).drew w6) (hi:i≤L.length) (hL:L.length≤1000) :
 Calls Tryz.prog 168 #[v,.int .i64 (i:Int),.slice (some ⟨W.heap.size,0,none⟩) 1 1] w6 (InsRow w6 B (L.take i++a::L.drop i)):=by
 have h1:(W.alloc (.cells (cellsA a) 129)).drew.ownsRow B 129 6 v L.length (flatA L):=h.alloc _
 have h2:=zu h1 hb
 have hs:=hb.size
 have hz:(W.alloc (.cells (cellsA a) 129)).drew.heap.size=W.heap.size+1:=by show (W.alloc _).heap.size=_;simp
 exact xQ v L a i W.heap.size B w6 h2 (by omega) (BoxA.keep (w:=(W.alloc (.cells (cellsA a) 129)).drew) (BoxA.new W a _) hb (by omega)) (fun e=>by have:=(h.lt _ e).2;omega) hi hL
set_option maxRecDepth 100000 in
set_option maxHeartbeats 8000000 in
theorem QI (v:Value) (L:List Acct) (a:Acct) (w:World) (h:ChartV w v L) (hL:L.length≤1000) :
 Calls Tryz.prog 124 #[v,aggF a] w (AddOwn w (addV L a) (addE L a)):=by
 obtain ⟨E,hE⟩:∃ E,addE L a=E:=⟨_,rfl⟩
 obtain ⟨M,hM⟩:∃ M,addV L a=M:=⟨_,rfl⟩
 rw [hE,hM]
 have HE:=Lib.hid hE
 have HMV:=Lib.hid hM
 clear hE hM
 have HB0:=Lib.hid ((Below.refl w.heap.size w).alloc (Nat.le_refl _) (.cells (cellsA a) 129))
 have HX0:=Lib.hid (BoxA.new w a 129)
 have HV0:=Lib.hid (h.keep HB0.out)
 have HV:=Lib.hid h
 obtain ⟨p,c,rfl,hcap,hm,hpn,hc⟩:=h
 obtain ⟨n,hn⟩:∃ n,L.length=n:=⟨_,rfl⟩
 rw [hn] at hcap HV HV0 hL ⊢
 have HN:=Lib.hid hn
 unfold maxLen at hm
 clear hc hpn hn
 obtain ⟨r,hr⟩:∃ r,rightA a=r:=⟨_,rfl⟩
 have HR:=Lib.hid (jr a)
 rw [hr] at HR
 have HRV:=Lib.hid hr
 clear hr
 go_enter Tryz.func124,Tryz.ntmps124
 go_wp2_with fail
 refine (xA _ L _ HV0.out (by rw [HN.out];exact hL)).mono ?_
 rintro e w1 ⟨v1,rfl,hown,hb1⟩
 rw [World.size_alloc] at hown
 have HO1:=Lib.hid hown
 have HX1:=Lib.hid (HX0.out.keep hb1 (by simp))
 have HV1:=Lib.hid (HV0.out.keep hb1)
 have HB1:=Lib.hid (HB0.out.trans (hb1.mono HB0.out.size))
 have HS1:Hid (w.heap.size < w1.heap.size):=Lib.hid (by have:=hb1.size;simp at this;omega)
 clear hown hb1
 obtain ⟨c0,c1,c2,c3,c4,c5⟩:=HX1.out.facts
 go_wp2_with fail
 clear c0 c1 c2 c3 c4 c5
 refine (HR.out _).mono ?_
 rintro e w2 ⟨rfl,hb2⟩
 have HO2:=Lib.hid (zu HO1.out hb2)
 have HX2:=Lib.hid (HX1.out.keep hb2 HS1.out)
 have HV2:=Lib.hid (HV1.out.keep hb2)
 have HB2:=Lib.hid (HB1.out.trans (hb2.mono HB1.out.size))
 have HS2:Hid (w.heap.size < w2.heap.size):=Lib.hid (Nat.lt_of_lt_of_le HS1.out hb2.size)
 clear hb2
 cases r with
 | false =>
   have hE1:Hid (E=1):=Lib.hid (by rw [←HE.out];unfold addE;rw [HRV.out];rfl)
   have hM1:Hid (World.ownsRow w2 w.heap.size 129 6 v1 M.length (flatA M)):=Lib.hid (by
    rw [←HMV.out];unfold addV;rw [HE.out,hE1.out]
    exact zw HO2.out (Nat.le_succ _))
   go_wp2
   go_ret2
   exact ⟨v1,qI hE1.out.symm,hM1.out,HB2.out⟩
 | true =>
   obtain ⟨c0,c1,c2,c3,c4,c5⟩:=HX2.out.facts
   go_wp2_with fail
   clear c0 c1 c2 c3 c4 c5
   refine (jh _ L a.code _ HV2.out).mono ?_
   rintro e w3 ⟨rfl,hb3⟩
   obtain ⟨f,hf⟩:∃ f,findV (findL L a.code)=f:=⟨_,rfl⟩
   obtain ⟨b,hb⟩:∃ b,(findL L a.code).isSome=b:=⟨_,rfl⟩
   rw [hf,hb]
   have HFB:=Lib.hid hb
   have hb4:=hb3.alloc hb3.size (.cells (cellsA f) 129)
   have HO4:=Lib.hid (zu HO2.out hb4)
   have HX4:=Lib.hid (HX2.out.keep hb4 HS2.out)
   have HV4:=Lib.hid (HV2.out.keep hb4)
   have HB4:=Lib.hid (HB2.out.trans (hb4.mono HB2.out.size))
   have HS4:Hid (w.heap.size < (w3.alloc (.cells (cellsA f) 129)).heap.size):=Lib.hid (Nat.lt_of_lt_of_le HS2.out hb4.size)
   clear hb3 hb4 hf hb
   cases b with
   | true =>
     have hE1:Hid (E=7):=Lib.hid (by rw [←HE.out];unfold addE;rw [HRV.out,HFB.out];rfl)
     have hM1:Hid (World.ownsRow (w3.alloc (.cells (cellsA f) 129)) w.heap.size 129 6 v1 M.length (flatA M)):=Lib.hid (by
      rw [←HMV.out];unfold addV;rw [HE.out,hE1.out]
      exact zw HO4.out (Nat.le_succ _))
     go_wp2
     go_ret2
     exact ⟨v1,qI hE1.out.symm,hM1.out,HB4.out⟩
   | false =>
     by_cases h60:60≤n
     ·have hE1:Hid (E=4):=Lib.hid (by rw [←HE.out];unfold addE;rw [HRV.out,HFB.out,if_neg (by simp),if_neg (by simp),if_pos (by rw [HN.out];exact h60)])
      have hM1:Hid (World.ownsRow (w3.alloc (.cells (cellsA f) 129)) w.heap.size 129 6 v1 M.length (flatA M)):=Lib.hid (by
       rw [←HMV.out];unfold addV;rw [HE.out,hE1.out]
       exact zw HO4.out (Nat.le_succ _))
      go_wp2
      go_ret2
      exact ⟨v1,qI hE1.out.symm,hM1.out,HB4.out⟩
     ·have hE1:Hid (E=0):=Lib.hid (by rw [←HE.out];unfold addE;rw [HRV.out,HFB.out,if_neg (by simp),if_neg (by simp),if_neg (by rw [HN.out];exact h60)])
      have hM1:Hid (L.take (belowL L a.code)++a::L.drop (belowL L a.code)=M):=Lib.hid (by
       rw [←HMV.out];unfold addV;rw [HE.out,hE1.out,if_pos rfl,Y9])
      have hbl:=zbD L a.code
      rw [HN.out] at hbl
      obtain ⟨k,hk⟩:∃ k,belowL L a.code=k:=⟨_,rfl⟩
      rw [hk] at hM1 hbl
      have HK:=Lib.hid hk
      clear hk
      have HBE:=Lib.hid (fun W (hW:ChartV W (.slice p n c) L)=>zdL (.slice p n c) L a.code W hW)
      rw [HK.out] at HBE
      have hS4:=HS4.out
      obtain ⟨Wr,hWr⟩:∃ Wr,w3.alloc (.cells (cellsA f) 129)=Wr:=⟨_,rfl⟩
      rw [hWr] at HO4 HX4 HV4 HB4 hS4
      clear HO1 HX1 HV1 HB1 HS1 HO2 HX2 HV2 HB2 HS2 HX0 HV0 HB0 HV HS4 HR
      go_wp2_with fail
      have HWR:=Lib.hid hWr
      clear hWr
      have bx:=Below.refl Wr.heap.size Wr
      have HXa:=Lib.hid (HX4.out.keep (bx.alloc (Nat.le_refl _) (.cells (cellsA a) 129)) hS4)
      have HVa:=Lib.hid (HV4.out.keep (bx.alloc (Nat.le_refl _) (.cells (cellsA a) 129)))
      obtain ⟨j0,j1,j2,j3,j4,j5⟩:=(show BoxA Wr.drew w.heap.size 129 a from HX4.out).facts
      obtain ⟨o0,o1,o2,o3,o4,o5⟩:=HX4.out.facts
      obtain ⟨n0,n1,n2,n3,n4,n5⟩:=(show BoxA (Wr.alloc (.cells (cellsA a) 129)).drew w.heap.size 129 a from HXa.out).facts
      have HVd:=Lib.hid (HV4.out.keep (w':=Wr.drew) ⟨rfl,rfl,rfl,Nat.le_refl _,fun _ _=>rfl⟩)
      have HVe:=Lib.hid (HVa.out.keep (w':=(Wr.alloc (.cells (cellsA a) 129)).drew) ⟨rfl,rfl,rfl,Nat.le_refl _,fun _ _=>rfl⟩)
      clear bx
      go_region_held3 (fun w'=>w'.cell? ⟨w.heap.size,0,none⟩=some (.string a.code)∧w'.cell? ⟨w.heap.size,1,none⟩=some (.int .i64 a.cls)∧w'.cell? ⟨w.heap.size,2,none⟩=some (.bool a.cash)∧w'.cell? ⟨w.heap.size,3,none⟩=some (.bool a.both)∧w'.cell? ⟨w.heap.size,4,none⟩=some (.string a.fixed)∧w'.cell? ⟨w.heap.size,5,none⟩=some (.bool a.worn))
       (first | (with_reducible exact ⟨o0,o1,o2,o3,o4,o5⟩) | (with_reducible exact ⟨j0,j1,j2,j3,j4,j5⟩) | (with_reducible exact ⟨n0,n1,n2,n3,n4,n5⟩) | (with_reducible exact ⟨m0,m1,m2,m3,m4,m5⟩) | (with_reducible exact ⟨p0,p1,p2,p3,p4,p5⟩) | (with_reducible exact ⟨s0,s1,s2,s3,s4,s5⟩) | fail)
       (first
        | (go_at_call 169;refine (HBE.out Wr.drew HVd.out).mono ?_;rintro e w5 ⟨rfl,hb5⟩;have HX5:=Lib.hid (BoxA.keep (w:=Wr.drew) HX4.out hb5 hS4);have HO5:=Lib.hid (zu (X:=Wr.drew) HO4.out hb5);obtain ⟨m0,m1,m2,m3,m4,m5⟩:=HX5.out.facts;have hS5:w.heap.size < w5.heap.size:=Nat.lt_of_lt_of_le hS4 hb5.size;obtain ⟨p0,p1,p2,p3,p4,p5⟩:=(HX5.out.keep ((Below.refl w5.heap.size w5).alloc (Nat.le_refl _) (.cells (cellsA a) 129)) hS5).facts)
        | (go_at_call 169;refine (HBE.out (Wr.alloc (.cells (cellsA a) 129)).drew HVe.out).mono ?_;rintro e w6 ⟨rfl,hb6⟩;have HX6:=Lib.hid (BoxA.keep (w:=(Wr.alloc (.cells (cellsA a) 129)).drew) HXa.out hb6 (by show _ < (Wr.alloc _).heap.size;simp;omega));obtain ⟨m0,m1,m2,m3,m4,m5⟩:=HX6.out.facts)
        | (go_at_call 168;refine (xZ (a:=a) HO5.out (by omega) (by rw [HN.out];exact hbl) (by rw [HN.out];exact hL)).mono ?_;rintro e w9 ⟨v9,rfl,hc9,hb9⟩;have HC9:=Lib.hid hc9;have HB9:=Lib.hid hb9;obtain ⟨s0,s1,s2,s3,s4,s5⟩:=((HX5.out.keep ((Below.refl w5.heap.size w5).alloc (Nat.le_refl _) (.cells (cellsA a) 129)) hS5).keep hb9 (Nat.lt_succ_self _)).facts)
        | (go_at_call 168;refine (zfD (a:=a) HO4.out (by omega) hb6 (by rw [HN.out];exact hbl) (by rw [HN.out];exact hL)).mono ?_;rintro e w9 ⟨v9,rfl,hc9,hb9⟩;have HC9:=Lib.hid hc9;have HB9:=Lib.hid hb9;obtain ⟨s0,s1,s2,s3,s4,s5⟩:=(HX6.out.keep hb9 (Nat.lt_succ_self _)).facts)
        | fail)
      all_goals
       go_wp2
       go_ret2
       have HCM:Hid (w9.ownsRow w.heap.size 129 6 v9 M.length (flatA M)):=Lib.hid (by rw [←hM1.out];exact zw HC9.out (Nat.le_succ _))
       first
        | exact ⟨v9,qI hE1.out.symm,HCM.out,((HB4.out.trans ((yU hb5).mono HB4.out.size)).alloc (Nat.le_of_lt hS5) _).trans (HB9.out.mono (Nat.le_succ _))⟩
        | exact ⟨v9,qI hE1.out.symm,HCM.out,((HB4.out.alloc (Nat.le_of_lt hS4) _).trans ((yU hb6).mono (by show _≤(Wr.alloc _).heap.size;simp;omega))).trans (HB9.out.mono (Nat.le_succ _))⟩
end Go.Proofs.YtdhfpgjnjlcciaaGreatDoor
end
section
namespace Go.Proofs.YtdhfpgjnjlcciaaGreatDoor.Fl
open Go.RowKit
theorem qZ:(Tryz.prog.info? 81).map (fun i=>(i.zero,i.size,i.bytes))=some (some (.agg #[.string ⟨#[]⟩,.int .i64 0]),2,24):=by kernel_rfl
theorem qd (L:List Flow):(flat encF L).length=L.length * 2:=qv L
theorem kJ (L:List Flow) (k:Nat):flat encF (L.take k)=(flat encF L).take (k * 2):=xO L k
theorem kf (L:List Flow) (k:Nat):flat encF (L.drop k)=(flat encF L).drop (k * 2):=Zt L k
def yM (w:World) (L:List Flow) (e:Ending) (w':World):Prop:=∃ v,e=.returned v∧w'.ownsRow w.heap.size 81 2 v L.length (flat encF L)∧Below w.heap.size w w'
set_option maxRecDepth 100000 in
set_option maxHeartbeats 2000000 in
theorem xA (v:Value) (L:List Flow) (w:World) (h:ElsV encF w v L) (hL:L.length≤1000) :
 Calls Tryz.prog 172 #[v] w (yM w L):=by
 have HV:=Lib.hid h
 obtain ⟨p,c,rfl,hcap,hm,hp,hc⟩:=h
 have hq:∀ (w:World) (a:Option Addr) (n c n' c':Nat),(binOp .eql 29 (.slice a n c) (.slice none n' c')).run Tryz.prog w=.ok (.bool a.isNone) w:=fun w a n c n' c'=>Lib.run_eql_slice_nil w _ _ a n c n' c' Tryz.underlying29
 obtain ⟨i0,hi,hz0,hz1,hz2⟩:=info_parts qZ
 have HI:=Lib.hid (And.intro hi (And.intro hz0 (And.intro hz1 hz2)))
 clear hi hz0 hz1 hz2 hc
 unfold maxLen at hm
 cases p with
 | none =>
   have h0:=hp rfl
   have:L=[]:=List.eq_nil_of_length_eq_zero (by omega)
   subst this
   clear HV hp
   go_enter Tryz.func172,Tryz.ntmps172
   go_wp2
   go_ret
   exact ⟨_,rfl,World.ownsRow_nil _ _ _ _,Below.refl _ _⟩
 | some ad =>
   have HC:Hid (∀ (j:Nat) u,(flat encF L)[j]?=some u→w.cell? (ad.add j)=some u):=Lib.hid (fun j u hj=>by
    by_cases hne:L=[]
    ·subst hne;simp [flat] at hj
    ·obtain ⟨b,o,e,_,hcell⟩:=HV.out.cells hne
     cases e
     rw [zl];exact hcell j u hj)
   obtain ⟨n,hn⟩:∃ n,L.length=n:=⟨_,rfl⟩
   have HN:=Lib.hid hn
   rw [hn] at hcap hL ⊢
   clear hn hp HV
   go_enter Tryz.func172,Tryz.ntmps172
   go_wp2_with (at_builtin;refine wpList_append_own _ rfl _ _ 29 rfl w.heap.size 81 i0 (.agg #[.string ⟨#[]⟩,.int .i64 0]) 2 24 Tryz.underlying29 HI.out.1 HI.out.2.1 HI.out.2.2.1 HI.out.2.2.2 rfl (by decide) _ _ _ rfl (World.ownsRow_made w #[] 0 (Nat.le_refl _) (Nat.zero_le _) (by simp)) ad n c (flat encF L) rfl ?qc1 ?qc2 ?qc3 ?qc4 ?qc5 ?qc6 ?_)
   case qc1=>rw [qd,HN.out]
   case qc2=>exact fun j u hj=>Lib.cell?_alloc_some _ (HC.out j u hj)
   case qc3=>exact je L
   case qc4=>rw [Nat.zero_add];unfold maxLen;omega
   case qc5=>rw [Nat.zero_add];omega
   case qc6=>simp
   intro v' w1 hown hgrow hnil
   have HOW:Hid (w1.ownsRow w.heap.size 81 2 v' L.length (flat encF L)):=Lib.hid (by rw [HN.out];simpa using hown)
   have HBL:=Lib.hid (((Below.refl _ w).alloc (Nat.le_refl _) (.cells #[] 81)).grown hgrow (by simp) (by intro k hk;simp [Value.ownBlock] at hk;omega))
   clear hown hgrow hnil
   go_wp2
   go_ret
   exact ⟨v',rfl,HOW.out,HBL.out⟩
end Go.Proofs.YtdhfpgjnjlcciaaGreatDoor.Fl
end
section
namespace Go.Proofs.YtdhfpgjnjlcciaaGreatDoor.Fl
open Go.RowKit
theorem qY:Tryz.prog.underlying 29=some (.slice (Tryz.prog.elem 29)):=by kernel_rfl
theorem qV (w:World):(sizeOf (Tryz.prog.elem 29)).run Tryz.prog w=.ok 2 w:=by kernel_rfl
theorem zW:(Tryz.prog.info? 81).map (·.size)=some 2:=by kernel_rfl
theorem ym (w:World):(sizeOf 81).run Tryz.prog w=.ok 2 w:=by kernel_rfl
theorem zF (w:World) (g n c k:Nat) (z:Int) (hz:z=(k:Int)) (hk:k≤n) (hc:k < c):(Instr.slice 29 (.slice (some ⟨g,0,none⟩) n c) (some (.int .i64 z)) none none).run Tryz.prog w=.ok (.slice (some ⟨g,k * 2,none⟩) (n - k) (c - k)) w:=by
 subst hz
 rw [run_slice_l w 29 _ n c qY .i64 (k:Int) (by omega) (by omega),qV]
 have:¬ c=k:=by omega
 simp [Result.andThen,sliced,this,zl]
theorem qR (w:World) (g n c k:Nat) (z:Int) (hz:z=(k:Int)) (hk:k≤c):(Instr.slice 29 (.slice (some ⟨g,0,none⟩) n c) none (some (.int .i64 z)) none).run Tryz.prog w=.ok (.slice (some ⟨g,0,none⟩) k c) w:=by
 subst hz
 rw [run_slice_h w 29 _ n c qY .i64 (k:Int) (by omega) (by omega),qV]
 simp [Result.andThen,sliced,Addr.add]
theorem yN (w:World) (vb g off lb cb:Nat) (x:Flow) (cur:Array Value) (hne:vb≠g) (hx:BoxE encF w vb 81 x) (hg:w.heap[g]?=some (.cells cur 81 (0,0))) (h0:cur.size≠0) :
 (callFunc 198 #[.slice (some ⟨vb,0,none⟩) 1 1,.slice (some ⟨g,off,none⟩) lb cb]).run Tryz.prog w=.ok (.value (.bool false)) w:=by
 unfold BoxE encF at hx
 rw [run_callFunc_extern Tryz.func198 (by kernel_rfl) (by kernel_rfl) (by kernel_rfl) (e:=Extern.SlicesOverlaps.overlaps #[28,28] #[4]) (by kernel_rfl),
  Lib.run_overlaps_apart w 28 4 81 Tryz.underlying28 2 ym ⟨vb,0,none⟩ ⟨g,off,none⟩ 1 1 lb cb hne 81 81 2 cur.size (by simp [World.shape?,hx]) (by simp [World.shape?,hg]) h0 (by simp [World.frozen?,hx]) (by simp [World.frozen?,hx])]
 rfl
theorem q9 (L:List Flow) (x:Flow) (i:Nat):flat encF (L.take i++x::L.drop i)=(flat encF L).take (i * 2)++((encF.cs x)++(flat encF L).drop (i * 2)):=by
 rw [qy,ja,kJ,kf]
def InsOwn (w:World) (B:Nat) (v0:Value) (M:List Flow) (e:Ending) (w':World):Prop:=∃ v,e=.returned v∧w'.ownsRow B 81 2 v M.length (flat encF M)∧w.grownBy w' v0.ownBlock
theorem qS (w:World) (q:Nat) (row:Option Nat):w.grownBy (w.drewN q) row:=⟨rfl,rfl,rfl,Nat.le_refl _,fun _ _ _=>rfl⟩
theorem jH {w w':World} (h:Below w.heap.size w w') (row:Option Nat):w.grownBy w' row:=⟨h.os,h.tape,h.output,h.size,fun j hj _=>h.block j hj⟩
set_option maxRecDepth 100000 in
set_option maxHeartbeats 4000000 in
theorem yK (v:Value) (L:List Flow) (x:Flow) (vb B:Nat) (w:World) (h:w.ownsRow B 81 2 v L.length (flat encF L)) (hB:B≤w.heap.size) (hx:BoxE encF w vb 81 x) (hL:L.length≤1000) :
 Calls Tryz.prog 173 #[v,.int .i64 (L.length:Int),.slice (some ⟨vb,0,none⟩) 1 1] w (InsOwn w B v (L.take L.length++x::L.drop L.length)):=by
 have HM:Hid (L.take L.length++x::L.drop L.length=L++[x]):=Lib.hid (by simp)
 rw [HM.out]
 obtain ⟨i0,hi,hz0,hz1,hz2⟩:=info_parts qZ
 have hcx:∀ (j:Nat) u,(encF.cs x)[j]?=some u→w.cell? ((⟨vb,0,none⟩:Addr).add j)=some u:=fun j u hj=>by rw [zl];exact hx.at0 j u hj
 have HOW:=Lib.hid h
 have hv:∃ p c,v=.slice p L.length c∧L.length≤c∧c≤maxLen∧(p=none→c=0)∧(∀ a,p=some a→∃ g,a=⟨g,0,none⟩):=by
  rcases h.2 with ⟨rfl,hn⟩ | ⟨g,cap,cur,rfl,_,_,hnc,hcm,_⟩
  ·exact ⟨none,0,by rw [hn],by omega,by simp,fun _=>rfl,fun a e=>by cases e⟩
  ·exact ⟨_,cap,rfl,hnc,hcm,(fun e=>by cases e),fun a e=>by cases e;exact ⟨g,rfl⟩⟩
 obtain ⟨p,c,rfl,hnc,hcm,hpn,hps⟩:=hv
 obtain ⟨v',w',hr,h2,h3,_⟩:=run_append_own (P:=Tryz.prog) w B 29 29 81 i0 _ 2 24 Tryz.underlying29 hi hz0 hz1 hz2 rfl (by decide) _ _ _ h ⟨vb,0,none⟩ 1 1 (encF.cs x) rfl hcx (encF.one x) (by unfold maxLen;omega) (by omega) hB
 have hra:(Builtin.append_ #[29,28] 29 #[.slice p L.length c,.slice (some ⟨vb,0,none⟩) 1 1]).run Tryz.prog w=.ok v' w':=by
  rw [ZA w _ _ _ _ _ i0 Tryz.underlying29 Tryz.underlying28 hi];exact hr
 have HRA:=Lib.hid hra
 have HCV:Hid (w'.ownsRow B 81 2 v' (L++[x]).length (flat encF (L++[x]))):=Lib.hid (by
  have:w'.ownsRow B 81 2 v' (L++[x]).length (flat encF (L++[x])):=by
   rw [List.length_append,qy,show flat encF [x]=encF.cs x from jY x];exact h2
  exact this)
 have HBL:=Lib.hid h3
 obtain ⟨n,hn⟩:∃ n,L.length=n:=⟨_,rfl⟩
 rw [hn] at HRA hL hnc ⊢
 unfold maxLen at hcm
 clear hr h2 h3 hra h HOW hn hi hz0 hz1 hz2 hcx
 cases p with
 | none =>
   have hc0:=hpn rfl
   obtain rfl:n=0:=by omega
   subst hc0
   go_enter Tryz.func173,Tryz.ntmps173
   go_wp2_with (at_builtin;refine Lib.wpList_append_run _ rfl _ _ _ _ rfl _ _ rfl rfl v' w' HRA.out ?_)
   go_ret
   exact ⟨v',rfl,HCV.out,HBL.out⟩
 | some a =>
   obtain ⟨g,rfl⟩:=hps a rfl
   have hnn:(n:Int)≤(n:Int):=Int.le_refl _
   by_cases hcn:c=n
   ·subst hcn
    go_enter Tryz.func173,Tryz.ntmps173
    go_wp2_with (at_builtin;refine Lib.wpList_append_run _ rfl _ _ _ _ rfl _ _ rfl rfl v' w' HRA.out ?_)
    go_ret
    exact ⟨v',rfl,HCV.out,HBL.out⟩
   ·have e1:=zF (z:=(n:Int)) (g:=g) (n:=n) (c:=c) (k:=n) (hz:=rfl) (hk:=Nat.le_refl _) (hc:=by omega)
    go_enter Tryz.func173,Tryz.ntmps173
    go_wp2_with (at_builtin;refine Lib.wpList_append_run _ rfl _ _ _ _ rfl _ _ rfl rfl v' w' HRA.out ?_)
    go_ret
    exact ⟨v',rfl,HCV.out,HBL.out⟩
set_option maxRecDepth 100000 in
set_option maxHeartbeats 4000000 in
theorem yz (g cap:Nat) (cur:Array Value) (L:List Flow) (x:Flow) (i vb B:Nat) (w:World) (hBg:B≤g) (hg:w.heap[g]?=some (.cells cur 81 (0,0))) (hcap:cap≤maxLen) (hcs:cur.size=cap * 2) (htk:cur.toList.take (L.length * 2)=flat encF L)
 (hx:BoxE encF w vb 81 x) (hne:vb≠g) (hi:i < L.length) (hr:L.length+1≤cap) :
 Calls Tryz.prog 173 #[.slice (some ⟨g,0,none⟩) L.length cap,.int .i64 (i:Int),.slice (some ⟨vb,0,none⟩) 1 1] w (InsOwn w B (.slice (some ⟨g,0,none⟩) L.length cap) (L.take i++x::L.drop i)):=by
 obtain ⟨M,hM⟩:∃ M,L.take i++x::L.drop i=M:=⟨_,rfl⟩
 obtain ⟨n,hn⟩:∃ n,L.length=n:=⟨_,rfl⟩
 have hML:M.length=n+1:=by rw [←hM,←hn];simp;omega
 obtain ⟨A,hA⟩:∃ A,(flat encF L).take (i * 2)=A:=⟨_,rfl⟩
 obtain ⟨D,hD⟩:∃ D,(flat encF L).drop (i * 2)=D:=⟨_,rfl⟩
 have hFM:flat encF M=A++((encF.cs x)++D):=by rw [←hM,q9,hA,hD]
 have hFL:flat encF L=A++D:=by rw [←hA,←hD,List.take_append_drop]
 have hFlen:=qd L
 rw [hn] at hFlen htk hi hr ⊢
 have hAl:A.length=i * 2:=by rw [←hA,List.length_take,hFlen];omega
 have hDl:D.length=(n - i) * 2:=by rw [←hD,List.length_drop,hFlen];omega
 obtain ⟨S,hS⟩:∃ S,cur.toList.drop (n * 2)=S:=⟨_,rfl⟩
 have hcur:cur.toList=A++(D++S):=by rw [←List.take_append_drop (n * 2) cur.toList,htk,hS,hFL,List.append_assoc]
 have hSl:S.length=(cap - n) * 2:=by rw [←hS,List.length_drop,Array.length_toList,hcs];omega
 have hXl:(encF.cs x).length=2:=rfl
 have hg':w.heap[g]?=some (.cells (A++(D++S)).toArray 81 (0,0)):=by rw [←hcur];simpa using hg
 have hDone:∀ v∈D,v.oneCell'=true:=fun v hv=>je L v (by rw [hFL];simp [hv])
 have HG:=Lib.hid hg'
 have HX:=Lib.hid hx
 have HM:=Lib.hid hM
 have HOV:=Lib.hid (fun off lb cb=>yN w vb g off lb cb x cur hne hx hg (by rw [hcs];omega))
 have HSRC:Hid (∀ (w':World),w'.heap[g]?=w.heap[g]?→∀ (j:Nat) v,D[j]?=some v→w'.cell? ((⟨g,i * 2,none⟩:Addr).add j)=some v):=Lib.hid (fun w' hw' j v hj=>by
  rw [zl,cell_of_row _ g (i * 2+j) _ 81 (0,0) (hw'.trans hg')]
  simp only [List.getElem?_toArray]
  rw [←hAl,List.getElem?_append_right (by omega),Nat.add_sub_cancel_left,List.getElem?_append_left (List.getElem?_eq_some_iff.1 hj).1]
  exact hj)
 have HL:=Lib.hid (And.intro hML (And.intro hFM (And.intro hAl (And.intro hDl (And.intro hSl hDone)))))
 rw [hM]
 unfold maxLen at hcap
 have e0:=fun wq=>zF (w:=wq) (z:=(i:Int)) (g:=g) (n:=n) (c:=cap) (k:=i) (hz:=rfl) (hk:=by omega) (hc:=by omega)
 have e1:=fun wq=>qR (w:=wq) (z:=(n:Int)+1) (g:=g) (n:=n) (c:=cap) (k:=n+1) (hz:=by omega) (hk:=by omega)
 have e2:=fun wq=>zF (w:=wq) (z:=(i:Int)+1) (g:=g) (n:=n+1) (c:=cap) (k:=i+1) (hz:=by omega) (hk:=by omega) (hc:=by omega)
 have e3:=fun wq=>zF (w:=wq) (z:=(i:Int)) (g:=g) (n:=n+1) (c:=cap) (k:=i) (hz:=rfl) (hk:=by omega) (hc:=by omega)
 have hz1:¬ ((i:Int)=(n:Int)):=by omega
 have hz2:¬ ((cap:Int) < (n:Int)+1):=by omega
 have hw1:IntKind.i64.wrap ((i:Int)+1)=(i:Int)+1:=by rw [IntKind.wrap_i64];omega
 have hov:=HOV.out
 clear hFlen hcur hS hFL hA hD hn hM hML hFM hAl hDl hSl hXl hg hg' hDone htk hcs hx HOV
 go_enter Tryz.func173,Tryz.ntmps173
 go_wp2_with (simp only [hov])
 go_region_law (refine jW rfl (.tmp 73) (.tmp 76) 29 29 rfl 81 Tryz.underlying29 2 zW (some ⟨g,(i+1) * 2,none⟩) (some ⟨g,i * 2,none⟩) (n+1 - (i+1)) (cap - (i+1)) (n+1 - i) (cap - i) (by simp [Act.eval,Act.put]) (by simp [Act.eval,Act.put]) g ((i+1) * 2) (A++(D++S)) 81 HG.out D (n - i) (by simp only [Nat.min_def];split <;> omega) HL.out.2.2.2.1 rfl ⟨g,i * 2,none⟩ rfl (HSRC.out _ rfl) (by have h:=HL.out;simp only [List.length_append];omega) HL.out.2.2.2.2.2 ?_;intro w1 hg1 hgr1)
 have HG1:=Lib.hid hg1.out
 have HGR1:=Lib.hid hgr1
 have HX1:Hid (BoxE encF w1 vb 81 x):=Lib.hid (by
  have hb:=HX.out
  have hlt:vb < w.heap.size:=(Array.getElem?_eq_some_iff.1 hb).1
  exact (hgr1.block vb hlt (fun e=>hne (Option.some.inj e))).trans hb)
 clear hg1 hgr1
 go_wp2_with (refine jV rfl (.tmp 80) (.tmp 81) 29 28 rfl 81 Tryz.underlying29 2 zW _ _ _ _ _ _ rfl rfl g (i * 2) (splice (A++(D++S)) ((i+1) * 2) D) 81 HG1.out (encF.cs x) 1 (by simp only [Nat.min_def];split <;> omega) rfl rfl ⟨vb,0,none⟩ rfl (fun j u hj=>by rw [zl];exact HX1.out.at0 j u hj) (by have h:=HL.out;rw [length_splice _ _ _ (by simp only [List.length_append];omega)];simp only [List.length_append];show _+2≤_;omega) (encF.one x) ?_;intro w2 hg2 hgr2)
 have HF:Hid (w2.ownsRow B 81 2 (.slice (some ⟨g,0,none⟩) (n+1) cap) M.length (flat encF M)):=Lib.hid (by
  obtain ⟨hML,hFM,hAl,hDl,hSl,_⟩:=HL.out
  have hsp:splice (splice (A++(D++S)) ((i+1) * 2) D) (i * 2) (encF.cs x)=A++((encF.cs x)++(D++(D++S).drop (2+D.length))):=by
   rw [show (i+1) * 2=A.length+(encF.cs x).length by rw [hAl];show _=_+2;omega,show i * 2=A.length from hAl.symm]
   exact ZT A (encF.cs x) D (D++S) (by simp only [List.length_append];show 2+_≤_;omega)
  have hh:=hg2.out
  rw [hsp] at hh
  have own:w2.ownsRow B 81 2 (.slice (some ⟨g,0,none⟩) M.length cap) M.length (flat encF M):=by
   refine ⟨qd M,.inr ⟨g,cap,_,rfl,hBg,hh,by omega,by unfold maxLen;omega,?_,?_⟩⟩
   ·simp only [List.size_toArray,List.length_append,List.length_drop]
    show _+(2+_)=_
    omega
   ·rw [hFM,hML]
    have:(A++((encF.cs x)++D)).length=(n+1) * 2:=by simp only [List.length_append];show _+(2+_)=_;omega
    rw [←this,show A++((encF.cs x)++(D++(D++S).drop (2+D.length)))=(A++((encF.cs x)++D))++(D++S).drop (2+D.length) by simp]
    exact List.take_left
  rw [←hML]
  exact own)
 have HBL:Hid (w.grownBy w2 (some g)):=Lib.hid (((qS w 1 (some g)).trans HGR1.out).trans hgr2)
 clear hg2 hgr2
 go_ret
 exact ⟨_,rfl,HF.out,HBL.out⟩
set_option maxRecDepth 100000 in
set_option maxHeartbeats 4000000 in
theorem yC (g cap:Nat) (cur:Array Value) (L:List Flow) (x:Flow) (i vb B:Nat) (w:World) (hg:w.heap[g]?=some (.cells cur 81 (0,0))) (hcap:cap≤maxLen) (hcs:cur.size=cap * 2) (htk:cur.toList.take (L.length * 2)=flat encF L)
 (hB:B≤w.heap.size) (hx:BoxE encF w vb 81 x) (hi:i < L.length) (hnc:L.length≤cap) (hr:cap < L.length+1) (hL:L.length≤1000) :
 Calls Tryz.prog 173 #[.slice (some ⟨g,0,none⟩) L.length cap,.int .i64 (i:Int),.slice (some ⟨vb,0,none⟩) 1 1] w (InsOwn w B (.slice (some ⟨g,0,none⟩) L.length cap) (L.take i++x::L.drop i)):=by
 obtain ⟨M,hM⟩:∃ M,L.take i++x::L.drop i=M:=⟨_,rfl⟩
 obtain ⟨n,hn⟩:∃ n,L.length=n:=⟨_,rfl⟩
 have hML:M.length=n+1:=by rw [←hM,←hn];simp;omega
 obtain ⟨A,hA⟩:∃ A,(flat encF L).take (i * 2)=A:=⟨_,rfl⟩
 obtain ⟨D,hD⟩:∃ D,(flat encF L).drop (i * 2)=D:=⟨_,rfl⟩
 have hFM:flat encF M=A++((encF.cs x)++D):=by rw [←hM,q9,hA,hD]
 have hFL:flat encF L=A++D:=by rw [←hA,←hD,List.take_append_drop]
 have hFlen:=qd L
 rw [hn] at hFlen htk hi hr hnc hL ⊢
 obtain rfl:cap=n:=by omega
 have hAl:A.length=i * 2:=by rw [←hA,List.length_take,hFlen];omega
 have hDl:D.length=(cap - i) * 2:=by rw [←hD,List.length_drop,hFlen];omega
 have hcur:cur.toList=A++D:=by rw [←hFL,←htk,List.take_of_length_le (by rw [Array.length_toList,hcs];exact Nat.le_refl _)]
 have hg':w.heap[g]?=some (.cells (A++D).toArray 81 (0,0)):=by rw [←hcur];simpa using hg
 have hDone:∀ v∈D,v.oneCell'=true:=fun v hv=>je L v (by rw [hFL];simp [hv])
 obtain ⟨i0,hi0,hz0,hz1,hz2⟩:=info_parts qZ
 have hgl:g < w.heap.size:=(Array.getElem?_eq_some_iff.1 hg).1
 have hvl:vb < w.heap.size:=(Array.getElem?_eq_some_iff.1 hx).1
 have hAt:∀ (j:Nat) v,A[j]?=some v→w.cell? ((⟨g,0,none⟩:Addr).add j)=some v:=fun j v hj=>by
  rw [zl,Nat.zero_add,cell_of_row _ g j _ 81 (0,0) hg']
  simp only [List.getElem?_toArray]
  rw [List.getElem?_append_left (List.getElem?_eq_some_iff.1 hj).1];exact hj
 have hold:(Builtin.firstCells i0.size i (.slice (some ⟨g,0,none⟩) i cap)).run Tryz.prog w.drew=.ok A.toArray w.drew:=by
  rw [hz1];exact run_firstCells_some w.drew 2 i ⟨g,0,none⟩ i cap A hAl hAt
 have hk:i+(cap+1 - i)=cap+1:=by omega
 have hrz:∀ ty,(Builtin.append_ #[29,3] ty #[.slice (some ⟨g,0,none⟩) i cap,.int .i64 ((cap+1 - i:Nat):Int)]).run Tryz.prog w=_:=fun ty =>
  Lib.run_append_grow_zeros w 29 3 ty 81 i0 _ .i64 .i64 Tryz.underlying29 Tryz.underlying3 hi0 hz0 (some ⟨g,0,none⟩) i cap A hold (cap+1 - i) (by omega) (by omega) (by omega) (by omega) (by rw [hz2];omega) (by rw [hz2,hk];exact growslice_fits (by omega) (by omega))
 rw [hk] at hrz
 obtain ⟨G,hG⟩:∃ G,grownCap w (cap+1) cap 81=G:=⟨_,rfl⟩
 have hGge:cap+1≤G:=by rw [←hG];exact grownCap_ge w _ _ _
 have hGle:G≤maxLen:=by rw [←hG];exact grownCap_le_maxLen w _ _ _ (by unfold maxLen;omega)
 rw [hG] at hrz
 obtain ⟨Z,hZ⟩:∃ Z:List Value,(Builtin.zeroCells (Value.agg #[.string ⟨#[]⟩,.int .i64 0]).cells (cap+1 - i)++Builtin.zeroCells (Value.agg #[.string ⟨#[]⟩,.int .i64 0]).cells (G - (cap+1))).toList=Z:=⟨_,rfl⟩
 have hZl:Z.length=(cap+1 - i) * 2+(G - (cap+1)) * 2:=by rw [←hZ];simp [Builtin.zeroCells,Value.cells]
 obtain ⟨W1,hW1⟩:∃ W1,w.drew.alloc (.cells (A++Z).toArray 81)=W1:=⟨_,rfl⟩
 have hrow:(A.toArray++Builtin.zeroCells (Value.agg #[.string ⟨#[]⟩,.int .i64 0]).cells (cap+1 - i)++Builtin.zeroCells (Value.agg #[.string ⟨#[]⟩,.int .i64 0]).cells (G - (cap+1)))=(A++Z).toArray:=by
  rw [←hZ];apply Array.ext';simp
 rw [hrow,hW1] at hrz
 have hG1:W1.heap[w.heap.size]?=some (.cells (A++Z).toArray 81 (0,0)):=by rw [←hW1];exact heap_alloc_new w.drew _
 have hB1:Below w.heap.size w W1:=by rw [←hW1];exact (below_drewN (Below.refl w.heap.size w) 1).alloc (Nat.le_refl _) _
 have HG1:=Lib.hid hG1
 have HB1:=Lib.hid hB1
 have HX1:Hid (BoxE encF W1 vb 81 x):=Lib.hid (hx.keep hB1 hvl)
 have HGO:Hid (W1.heap[g]?=some (.cells (A++D).toArray 81 (0,0))):=Lib.hid ((hB1.block g hgl).trans hg')
 have HL:=Lib.hid (And.intro hML (And.intro hFM (And.intro hAl (And.intro hDl (And.intro hZl hDone)))))
 have HRZ:=Lib.hid (hrz 29)
 rw [hM]
 unfold maxLen at hcap hGle
 have hki:((cap:Int)+1 - (i:Int))=((cap+1 - i:Nat):Int):=by omega
 have HKI:=Lib.hid hki
 have e0:=fun wq=>zF (w:=wq) (z:=(i:Int)) (g:=g) (n:=cap) (c:=cap) (k:=i) (hz:=rfl) (hk:=by omega) (hc:=by omega)
 have e1:=fun wq=>qR (w:=wq) (z:=(i:Int)) (g:=g) (n:=cap) (c:=cap) (k:=i) (hz:=rfl) (hk:=by omega)
 have e2:=fun wq=>zF (w:=wq) (z:=(i:Int)+1) (g:=w.heap.size) (n:=cap+1) (c:=G) (k:=i+1) (hz:=by omega) (hk:=by omega) (hc:=by omega)
 have e3:=fun wq=>zF (w:=wq) (z:=(i:Int)) (g:=w.heap.size) (n:=cap+1) (c:=G) (k:=i) (hz:=rfl) (hk:=by omega) (hc:=by omega)
 have hz1':¬ ((i:Int)=(cap:Int)):=by omega
 have hz2':((cap:Int) < (cap:Int)+1):=by omega
 have hw1:IntKind.i64.wrap ((i:Int)+1)=(i:Int)+1:=by rw [IntKind.wrap_i64];omega
 have HGL:=Lib.hid hgl
 clear hFlen hcur hFL hA hD hn hM hML hFM hAl hDl hg hg' hDone htk hcs hx hZ hZl hW1 hrow hrz hG1 hB1 hG hold hAt hi0 hz0 hz1 hz2 hk hki hgl hvl
 go_enter Tryz.func173,Tryz.ntmps173
 go_wp2_with (first
  | (at_builtin;refine Lib.wpList_append_run _ rfl _ _ _ _ rfl _ _ rfl rfl _ W1 (by rw [HKI.out];exact HRZ.out) ?_)
  | (refine jV rfl (.tmp 43) (.tmp 44) 29 28 rfl 81 Tryz.underlying29 2 zW _ _ _ _ _ _ rfl rfl w.heap.size (i * 2) (A++Z) 81 HG1.out (encF.cs x) 1 (by simp only [Nat.min_def];split <;> omega) rfl rfl ⟨vb,0,none⟩ rfl (fun j u hj=>by rw [zl];exact HX1.out.at0 j u hj) (by have h:=HL.out;simp only [List.length_append];show _+2≤_;omega) (encF.one x) ?_;intro w2 hg2 hgr2))
 have HG2:=Lib.hid hg2.out
 have HGR2:=Lib.hid hgr2
 have HGO2:Hid (w2.heap[g]?=some (.cells (A++D).toArray 81 (0,0))):=Lib.hid ((hgr2.block g (Nat.lt_of_lt_of_le HGL.out HB1.out.size) (fun e=>by have:=Option.some.inj e;have:=HGL.out;omega)).trans HGO.out)
 have HSRC:Hid (∀ (j:Nat) v,D[j]?=some v→w2.cell? ((⟨g,i * 2,none⟩:Addr).add j)=some v):=Lib.hid (fun j v hj=>by
  rw [zl,cell_of_row _ g (i * 2+j) _ 81 (0,0) HGO2.out]
  simp only [List.getElem?_toArray]
  rw [←HL.out.2.2.1,List.getElem?_append_right (by omega),Nat.add_sub_cancel_left]
  exact hj)
 clear hg2 hgr2
 go_region_law (refine jW rfl (.tmp 50) (.tmp 53) 29 29 rfl 81 Tryz.underlying29 2 zW (some ⟨w.heap.size,(i+1) * 2,none⟩) (some ⟨g,i * 2,none⟩) (cap+1 - (i+1)) (G - (i+1)) (cap - i) (cap - i) (by simp [Act.eval,Act.put]) (by simp [Act.eval,Act.put]) w.heap.size ((i+1) * 2) (splice (A++Z) (i * 2) (encF.cs x)) 81 HG2.out D (cap - i) (by simp only [Nat.min_def];split <;> omega) HL.out.2.2.2.1 rfl ⟨g,i * 2,none⟩ rfl HSRC.out (by have h:=HL.out;rw [length_splice _ _ _ (by simp only [List.length_append];show _+2≤_;omega)];simp only [List.length_append];omega) HL.out.2.2.2.2.2 ?_;intro w3 hg3 hgr3)
 have HF:Hid (w3.ownsRow B 81 2 (.slice (some ⟨w.heap.size,0,none⟩) (cap+1) G) M.length (flat encF M)):=Lib.hid (by
  obtain ⟨hML,hFM,hAl,hDl,hZl,_⟩:=HL.out
  have hsp:splice (splice (A++Z) (i * 2) (encF.cs x)) ((i+1) * 2) D=A++((encF.cs x)++(D++Z.drop (2+D.length))):=by
   rw [show (i+1) * 2=A.length+(encF.cs x).length by rw [hAl];show _=_+2;omega,show i * 2=A.length from hAl.symm]
   exact Zy A (encF.cs x) D Z (by show 2+_≤_;omega)
  have hh:=hg3.out
  rw [hsp] at hh
  have own:w3.ownsRow w.heap.size 81 2 (.slice (some ⟨w.heap.size,0,none⟩) M.length G) M.length (flat encF M):=by
   refine ⟨qd M,.inr ⟨w.heap.size,G,_,rfl,Nat.le_refl _,hh,by omega,by unfold maxLen;omega,?_,?_⟩⟩
   ·simp only [List.size_toArray,List.length_append,List.length_drop]
    show _+(2+_)=_
    omega
   ·rw [hFM,hML]
    have:(A++((encF.cs x)++D)).length=(cap+1) * 2:=by simp only [List.length_append];show _+(2+_)=_;omega
    rw [←this,show A++((encF.cs x)++(D++Z.drop (2+D.length)))=(A++((encF.cs x)++D))++Z.drop (2+D.length) by simp]
    exact List.take_left
  rw [←hML]
  exact zw own hB)
 have HBL:Hid (w.grownBy w3 (some g)):=Lib.hid (((jH HB1.out (some g)).andThen HGR2.out (fun j hj=>.inl (by cases hj;exact Nat.le_refl _))).andThen ((qS w2 1 (some w.heap.size)).trans hgr3) (fun j hj=>.inl (by cases hj;exact Nat.le_refl _)))
 clear hg3 hgr3
 go_wp2
 go_ret
 exact ⟨_,rfl,HF.out,HBL.out⟩
theorem yt (v:Value) (L:List Flow) (x:Flow) (i vb B:Nat) (w:World) (h:w.ownsRow B 81 2 v L.length (flat encF L)) (hB:B≤w.heap.size) (hx:BoxE encF w vb 81 x) (hne:v.ownBlock≠some vb) (hi:i≤L.length) (hL:L.length≤1000) :
 Calls Tryz.prog 173 #[v,.int .i64 (i:Int),.slice (some ⟨vb,0,none⟩) 1 1] w (InsOwn w B v (L.take i++x::L.drop i)):=by
 by_cases hie:i=L.length
 ·subst hie;exact yK v L x vb B w h hB hx hL
 ·rcases h.2 with ⟨rfl,hn⟩ | ⟨g,cap,cur,rfl,hBg,hg,hnc,hcm,hcs,htk⟩
  ·omega
  ·by_cases hr:L.length+1≤cap
   ·exact yz g cap cur L x i vb B w hBg hg hcm hcs htk hx (fun e=>hne (by rw [e];rfl)) (by omega) hr
   ·exact yC g cap cur L x i vb B w hg hcm hcs htk hB hx (by omega) hnc (by omega) hL
end Go.Proofs.YtdhfpgjnjlcciaaGreatDoor.Fl
end
section
namespace Go.Proofs.YtdhfpgjnjlcciaaGreatDoor.Fl
open Go.RowKit
theorem jv (s:ByteArray) (b:Bool) (h:nmB s=b) (w:World):Calls Tryz.prog 128 #[.string s] w fun e w'=>e=.returned (.bool b)∧w=w':=by
 rw [←h];exact jS s w
theorem qO (s:ByteArray) (b:Bool) (h:nmB s=b) (w:World):Calls Tryz.prog 180 #[.string s] w fun e w'=>e=.returned (.bool b)∧w=w':=by
 rw [←h];exact Qq s w
set_option maxRecDepth 100000 in
set_option maxHeartbeats 4000000 in
theorem jr (f:Flow) (w:World):Calls Tryz.prog 171 #[aggL f] w fun e w'=>e=.returned (.bool (rightF f))∧Below w.heap.size w w':=by
 have HB:=Lib.hid ((Below.refl w.heap.size w).alloc (Nat.le_refl _) (.cells #[.string f.code,.int .i64 f.kind] 81))
 obtain ⟨r,hr⟩:∃ r,rightF f=r:=⟨_,rfl⟩
 rw [hr]
 have HR:=Lib.hid hr
 clear hr
 obtain ⟨co,k⟩:=f
 simp only at HB HR ⊢
 cases hc:nmB co with
 | false =>
   have HC:=Lib.hid hc
   clear hc
   go_enter Tryz.func171,Tryz.ntmps171
   go_wp2_with (go_at_call 128;refine (jv co _ HC.out _).mono ?_;rintro e w' ⟨rfl,rfl⟩)
   go_ret
   exact ⟨zk (by rw [←HR.out];simp [rightF,HC.out]),HB.out⟩
 | true =>
   have HC:=Lib.hid hc
   clear hc
   by_cases h0:0≤k
   ·by_cases h5:k < 5
    ·go_enter Tryz.func171,Tryz.ntmps171
     go_wp2_with (go_at_call 128;refine (jv co _ HC.out _).mono ?_;rintro e w' ⟨rfl,rfl⟩)
     go_ret
     exact ⟨zk (by rw [←HR.out];simp [rightF,HC.out,h0,h5]),HB.out⟩
    ·go_enter Tryz.func171,Tryz.ntmps171
     go_wp2_with (go_at_call 128;refine (jv co _ HC.out _).mono ?_;rintro e w' ⟨rfl,rfl⟩)
     go_ret
     exact ⟨zk (by rw [←HR.out];have:¬ k < 5:=(by omega);simp [rightF,this]),HB.out⟩
   ·go_enter Tryz.func171,Tryz.ntmps171
    go_wp2_with (go_at_call 128;refine (jv co _ HC.out _).mono ?_;rintro e w' ⟨rfl,rfl⟩)
    go_ret
    exact ⟨zk (by rw [←HR.out];have:¬ 0≤k:=(by omega);simp [rightF,this]),HB.out⟩
set_option maxRecDepth 100000 in
set_option maxHeartbeats 4000000 in
theorem zV (f:Flow) (w:World):Calls Tryz.prog 138 #[aggL f] w fun e w'=>e=.returned (.bool (rightF f))∧Below w.heap.size w w':=by
 have HB:=Lib.hid ((Below.refl w.heap.size w).alloc (Nat.le_refl _) (.cells #[.string f.code,.int .i64 f.kind] 159))
 obtain ⟨r,hr⟩:∃ r,rightF f=r:=⟨_,rfl⟩
 rw [hr]
 have HR:=Lib.hid hr
 clear hr
 obtain ⟨co,k⟩:=f
 simp only at HB HR ⊢
 cases hc:nmB co with
 | false =>
   have HC:=Lib.hid hc
   clear hc
   go_enter Tryz.func138,Tryz.ntmps138
   go_wp2_with (go_at_call 180;refine (qO co _ HC.out _).mono ?_;rintro e w' ⟨rfl,rfl⟩)
   go_ret
   exact ⟨zk (by rw [←HR.out];simp [rightF,HC.out]),HB.out⟩
 | true =>
   have HC:=Lib.hid hc
   clear hc
   by_cases h0:0≤k
   ·by_cases h5:k≤4
    ·go_enter Tryz.func138,Tryz.ntmps138
     go_wp2_with (go_at_call 180;refine (qO co _ HC.out _).mono ?_;rintro e w' ⟨rfl,rfl⟩)
     go_ret
     exact ⟨zk (by rw [←HR.out];have:k < 5:=(by omega);simp [rightF,HC.out,h0,this]),HB.out⟩
    ·go_enter Tryz.func138,Tryz.ntmps138
     go_wp2_with (go_at_call 180;refine (qO co _ HC.out _).mono ?_;rintro e w' ⟨rfl,rfl⟩)
     go_ret
     exact ⟨zk (by rw [←HR.out];have:¬ k < 5:=(by omega);simp [rightF,this];omega),HB.out⟩
   ·go_enter Tryz.func138,Tryz.ntmps138
    go_wp2_with (go_at_call 180;refine (qO co _ HC.out _).mono ?_;rintro e w' ⟨rfl,rfl⟩)
    go_ret
    exact ⟨zk (by rw [←HR.out];have:¬ 0≤k:=(by omega);simp [rightF,this]),HB.out⟩
end Go.Proofs.YtdhfpgjnjlcciaaGreatDoor.Fl
end
section
namespace Go.Proofs.YtdhfpgjnjlcciaaGreatDoor.Fl
open Go.RowKit
def AddOwn (w:World) (M:List Flow) (n:Int) (e:Ending) (w':World):Prop:=∃ v,e=.returned (.tuple #[v,.int .i64 n])∧w'.ownsRow w.heap.size 81 2 v M.length (flat encF M)∧Below w.heap.size w w'
def InsRow (w:World) (B:Nat) (M:List Flow) (e:Ending) (w':World):Prop:=∃ v,e=.returned v∧w'.ownsRow B 81 2 v M.length (flat encF M)∧Below B w w'
theorem xQ (v:Value) (L:List Flow) (x:Flow) (i vb B:Nat) (w:World) (h:w.ownsRow B 81 2 v L.length (flat encF L)) (hB:B≤w.heap.size) (hx:BoxE encF w vb 81 x) (hne:v.ownBlock≠some vb) (hi:i≤L.length) (hL:L.length≤1000) :
 Calls Tryz.prog 173 #[v,.int .i64 (i:Int),.slice (some ⟨vb,0,none⟩) 1 1] w (InsRow w B (L.take i++x::L.drop i)) :=
 (yt v L x i vb B w h hB hx hne hi hL).mono fun _ _ ⟨u,e,ho,hg⟩=>⟨u,e,ho,below_grown (Below.refl B w) hB h hg⟩
abbrev cellsF (a:Flow):Array Value:=#[.string a.code,.int .i64 a.kind]
theorem qI {v:Value} {a b:Int} (h:a=b):Ending.returned (.tuple #[v,.int .i64 a])=.returned (.tuple #[v,.int .i64 b]):=by rw [h]
theorem xZ {w5:World} {v:Value} {L:List Flow} {a:Flow} {i B:Nat} (h:w5.ownsRow B 81 2 v L.length (flat encF L)) (hB:B≤w5.heap.size) (hi:i≤L.length) (hL:L.length≤1000) :
 Calls Tryz.prog 173 #[v,.int .i64 (i:Int),.slice (some ⟨w5.heap.size,0,none⟩) 1 1] (w5.alloc (.cells (cellsF a) 81)) (InsRow (w5.alloc (.cells (cellsF a) 81)) B (L.take i++a::L.drop i)) :=
 xQ v L a i w5.heap.size B _ (h.alloc _) (by simp;omega) (BoxE.new encF w5 a _) (fun e=>by have:=(h.lt _ e).2;omega) hi hL
set_option maxRecDepth 100000 in
set_option maxHeartbeats 8000000 in
theorem QI (v:Value) (L:List Flow) (a:Flow) (w:World) (h:FlowsV w v L) (hrise:riseK Flow.code L=true) (hL:L.length≤1000) :
 Calls Tryz.prog 126 #[v,aggL a] w (AddOwn w (addV L a) (addE L a)):=by
 obtain ⟨E,hE⟩:∃ E,addE L a=E:=⟨_,rfl⟩
 obtain ⟨M,hM⟩:∃ M,addV L a=M:=⟨_,rfl⟩
 rw [hE,hM]
 have HE:=Lib.hid hE
 have HMV:=Lib.hid hM
 clear hE hM
 have HRI:=Lib.hid hrise
 have HB0:=Lib.hid ((Below.refl w.heap.size w).alloc (Nat.le_refl _) (.cells (cellsF a) 81))
 have HX0:=Lib.hid (BoxE.new encF w a 81)
 have HV0:=Lib.hid (h.keep HB0.out)
 obtain ⟨p,c,rfl,hcap,hm,hpn,hc⟩:=h
 obtain ⟨n,hn⟩:∃ n,L.length=n:=⟨_,rfl⟩
 have HLL:=Lib.hid hL
 rw [hn] at hcap HV0 hL ⊢
 have HN:=Lib.hid hn
 unfold maxLen at hm
 clear hc hpn hn hrise
 obtain ⟨r,hr⟩:∃ r,rightF a=r:=⟨_,rfl⟩
 have HR:=Lib.hid (jr a)
 rw [hr] at HR
 have HRV:=Lib.hid hr
 clear hr
 go_enter Tryz.func126,Tryz.ntmps126
 go_wp2_with fail
 refine (xA _ L _ HV0.out HLL.out).mono ?_
 rintro e w1 ⟨v1,rfl,hown,hb1⟩
 rw [World.size_alloc] at hown
 have HO1:=Lib.hid hown
 have HX1:=Lib.hid (HX0.out.keep hb1 (by simp))
 have HV1:=Lib.hid (HV0.out.keep hb1)
 have HB1:=Lib.hid (HB0.out.trans (hb1.mono HB0.out.size))
 clear hown hb1
 obtain ⟨c0,c1⟩:=box HX1.out
 go_wp2_with fail
 clear c0 c1
 refine (HR.out _).mono ?_
 rintro e w2 ⟨rfl,hb2⟩
 have HO2:=Lib.hid (zu HO1.out hb2)
 have HX2:=Lib.hid (HX1.out.kept hb2)
 have HV2:=Lib.hid (HV1.out.keep hb2)
 have HB2:=Lib.hid (HB1.out.trans (hb2.mono HB1.out.size))
 clear hb2
 cases r with
 | false =>
   have hE1:Hid (E=1):=Lib.hid (by rw [←HE.out];unfold addE;rw [HRV.out];rfl)
   have hM1:Hid (World.ownsRow w2 w.heap.size 81 2 v1 M.length (flat encF M)):=Lib.hid (by
    rw [←HMV.out];unfold addV;rw [HE.out,hE1.out]
    exact zw HO2.out (Nat.le_succ _))
   go_wp2
   go_ret2
   exact ⟨v1,qI hE1.out.symm,hM1.out,HB2.out⟩
 | true =>
   obtain ⟨c0,c1⟩:=box HX2.out
   obtain ⟨pl,hpl⟩:∃ pl,placeK Flow.code L a.code=pl:=⟨_,rfl⟩
   obtain ⟨is,his⟩:∃ is,isK Flow.code L a.code=is:=⟨_,rfl⟩
   have HPA:=Lib.hid (VE _ L a.code _ HV2.out HRI.out HLL.out)
   rw [hpl,his] at HPA
   have HIS:=Lib.hid his
   have HPL:=Lib.hid hpl
   have hpn:pl≤n:=by rw [←hpl,←HN.out];exact kT L a.code
   clear his hpl
   go_wp2_with fail
   clear c0 c1
   refine HPA.out.mono ?_
   rintro e w3 ⟨rfl,hb3⟩
   have HO3:=Lib.hid (zu HO2.out hb3)
   have HX3:=Lib.hid (HX2.out.kept hb3)
   have HV3:=Lib.hid (HV2.out.keep hb3)
   have HB3:=Lib.hid (HB2.out.trans (hb3.mono HB2.out.size))
   clear hb3 HO2 HX2 HV2 HB2 HPA
   obtain ⟨c0,c1⟩:=box HX3.out
   cases is with
   | true =>
     have hE1:Hid (E=7):=Lib.hid (by rw [←HE.out];unfold addE;rw [HRV.out,HIS.out];rfl)
     have hM1:Hid (World.ownsRow w3 w.heap.size 81 2 v1 M.length (flat encF M)):=Lib.hid (by
      rw [←HMV.out];unfold addV;rw [HE.out,hE1.out]
      exact zw HO3.out (Nat.le_succ _))
     go_wp2
     go_ret2
     exact ⟨v1,qI hE1.out.symm,hM1.out,HB3.out⟩
   | false =>
     by_cases hk1:a.kind=1
     ·have hkz:(a.kind != 1)=false:=by rw [hk1];rfl
      have HAE:Hid (E=if 60≤n then 4 else 0):=Lib.hid (by
       rw [←HE.out];unfold addE
       rw [HRV.out,HIS.out,HN.out,if_neg (by simp),if_neg (by simp [hk1])])
      clear hk1
      by_cases h60:60≤n
      ·have hE1:Hid (E=4):=Lib.hid (by rw [HAE.out,if_pos h60])
       have hM1:Hid (World.ownsRow w3 w.heap.size 81 2 v1 M.length (flat encF M)):=Lib.hid (by
        rw [←HMV.out];unfold addV;rw [HE.out,hE1.out]
        exact zw HO3.out (Nat.le_succ _))
       go_wp2
       go_ret2
       exact ⟨v1,qI hE1.out.symm,hM1.out,HB3.out⟩
      ·have hE1:Hid (E=0):=Lib.hid (by rw [HAE.out,if_neg h60])
       have hM1:Hid (L.take pl++a::L.drop pl=M):=Lib.hid (by
        rw [←HMV.out];unfold addV;rw [HE.out,hE1.out,if_pos rfl];unfold insK;rw [HPL.out])
       go_wp2_with fail
       refine (xZ (a:=a) HO3.out (Nat.succ_le_of_lt HX3.out.lt) (by rw [HN.out];exact hpn) HLL.out).mono ?_
       rintro e w9 ⟨v9,rfl,hc9,hb9⟩
       have HCM:Hid (w9.ownsRow w.heap.size 81 2 v9 M.length (flat encF M)):=Lib.hid (by rw [←hM1.out];exact zw hc9 (Nat.le_succ _))
       have HB9:=Lib.hid ((HB3.out.alloc HB3.out.size (.cells (cellsF a) 81)).trans (hb9.mono (Nat.le_succ _)))
       clear hc9 hb9
       go_wp2
       go_ret2
       exact ⟨v9,qI hE1.out.symm,HCM.out,HB9.out⟩
     ·have hkz:(a.kind != 1)=true:=by simpa using hk1
      obtain ⟨hh,hhh⟩:∃ b,hasF L a.kind=b:=⟨_,rfl⟩
      have HHA:=Lib.hid (vS _ L a.kind _ HV3.out HLL.out)
      rw [hhh] at HHA
      have HAE:Hid (E=if hh=true then 7 else if 60≤n then 4 else 0):=Lib.hid (by
       rw [←HE.out];unfold addE
       rw [HRV.out,HIS.out,HN.out,hhh,if_neg (by simp)]
       simp [hk1])
      clear hk1 hhh
      go_wp2_with fail
      clear c0 c1
      refine HHA.out.mono ?_
      rintro e w4 ⟨rfl,hb4⟩
      have HO4:=Lib.hid (zu HO3.out hb4)
      have HX4:=Lib.hid (HX3.out.kept hb4)
      have HB4:=Lib.hid (HB3.out.trans (hb4.mono HB3.out.size))
      clear hb4 HO3 HX3 HB3 HHA
      cases hh with
      | true =>
        have hE1:Hid (E=7):=Lib.hid (by rw [HAE.out];rfl)
        have hM1:Hid (World.ownsRow w4 w.heap.size 81 2 v1 M.length (flat encF M)):=Lib.hid (by
         rw [←HMV.out];unfold addV;rw [HE.out,hE1.out]
         exact zw HO4.out (Nat.le_succ _))
        go_wp2
        go_ret2
        exact ⟨v1,qI hE1.out.symm,hM1.out,HB4.out⟩
      | false =>
        by_cases h60:60≤n
        ·have hE1:Hid (E=4):=Lib.hid (by rw [HAE.out,if_neg (by simp),if_pos h60])
         have hM1:Hid (World.ownsRow w4 w.heap.size 81 2 v1 M.length (flat encF M)):=Lib.hid (by
          rw [←HMV.out];unfold addV;rw [HE.out,hE1.out]
          exact zw HO4.out (Nat.le_succ _))
         go_wp2
         go_ret2
         exact ⟨v1,qI hE1.out.symm,hM1.out,HB4.out⟩
        ·have hE1:Hid (E=0):=Lib.hid (by rw [HAE.out,if_neg (by simp),if_neg h60])
         have hM1:Hid (L.take pl++a::L.drop pl=M):=Lib.hid (by
          rw [←HMV.out];unfold addV;rw [HE.out,hE1.out,if_pos rfl];unfold insK;rw [HPL.out])
         obtain ⟨c0,c1⟩:=box HX4.out
         go_wp2_with fail
         refine (xZ (a:=a) HO4.out (Nat.succ_le_of_lt HX4.out.lt) (by rw [HN.out];exact hpn) HLL.out).mono ?_
         rintro e w9 ⟨v9,rfl,hc9,hb9⟩
         have HCM:Hid (w9.ownsRow w.heap.size 81 2 v9 M.length (flat encF M)):=Lib.hid (by rw [←hM1.out];exact zw hc9 (Nat.le_succ _))
         have HB9:=Lib.hid ((HB4.out.alloc HB4.out.size (.cells (cellsF a) 81)).trans (hb9.mono (Nat.le_succ _)))
         clear hc9 hb9
         go_wp2
         go_ret2
         exact ⟨v9,qI hE1.out.symm,HCM.out,HB9.out⟩
end Go.Proofs.YtdhfpgjnjlcciaaGreatDoor.Fl
end
section
namespace Go.Proofs.YtdhfpgjnjlcciaaGreatDoor.Un
open Go.RowKit Go.Maps
abbrev vW (c f e l:Value) (M:Mast) (m:Nat):Array Value:=#[c,f,e,l,.string M.cur,.string M.res,.string M.dif,.string M.min,.string M.stk,.map (some m)]
abbrev BoxRd (W:World) (R m:Nat) (c f e l:Value) (M:Mast):Prop:=W.heap[R]?=some (.cells (vW c f e l M m) 138 (0,0))
abbrev MapRd (W:World) (m n:Nat) (D:DataW Unit):Prop:=W.ownsMap Tryz.prog 182 (plainElem Tryz.prog 3) m n D
structure RdAt (W:World) (B R m:Nat) (c f e l:Value) (n:Nat) (D:DataW Unit) (M:Mast):Prop where
 box:BoxRd W R m c f e l M
 chart:W.ownsRow B 129 6 c M.chart.length (flatA M.chart)
 flows:W.ownsRow B 81 2 f M.flows.length (flat Fl.encF M.flows)
 ents:W.ownsRow B 219 2 e M.ents.length (flat encE M.ents)
 lines:W.ownsRow B 235 3 l M.lines.length (flat encL M.lines)
 map:MapRd W m n D
 geR:B≤R
 geM:B≤m
section
variable {W W':World} {B R m n:Nat} {c f e l:Value} {D:DataW Unit} {M:Mast}
theorem RdAt.lt (h:RdAt W B R m c f e l n D M):R < W.heap.size:=(Array.getElem?_eq_some_iff.1 h.box).1
theorem RdAt.nine (h:RdAt W B R m c f e l n D M):NineAt W R c f e l M:=vn (more:=[.map (some m)]) h.box
theorem RdAt.ten (h:RdAt W B R m c f e l n D M):W.cell? ⟨R,9,none⟩=some (.map (some m)):=(cell_of_row W R 9 _ _ (0,0) h.box).trans rfl
theorem RdAt.free (h:RdAt W B R m c f e l n D M) (o:Nat):W.frozen? ⟨R,o,none⟩=false:=by
 have:=h.box
 unfold BoxRd at this
 simp [World.frozen?,this]
theorem RdAt.mast (h:RdAt W B R m c f e l n D M):MastIn W c f e l M:=⟨xN h.chart,zq h.flows,zq h.ents,zq h.lines⟩
theorem RdAt.below (h:RdAt W B R m c f e l n D M) (hb:Below W.heap.size W W'):RdAt W' B R m c f e l n D M :=
 ⟨(hb.block R h.lt).trans h.box,zu h.chart hb,zu h.flows hb,zu h.ents hb,zu h.lines hb,h.map.kept (row:=none) ⟨hb.os,hb.tape,hb.output,hb.size,fun j hj _=>hb.block j hj⟩ (by simp),h.geR,h.geM⟩
theorem jC {W:World} {R B:Nat} {t e:TypeId} {cs:Array Value} {fr:Nat × Nat} {s n:Nat} {v:Value} {xs:List Value} (hb:W.heap[R]?=some (.cells cs t fr)) (h:W.ownsRow B e s v n xs) (hne:t≠e):v.ownBlock≠some R:=by
 rcases h.2 with ⟨rfl,_⟩ | ⟨g,cap,cur,rfl,_,hg,_⟩
 ·simp [Value.ownBlock]
 ·intro e0
  obtain rfl:g=R:=by simpa [Value.ownBlock] using e0
  rw [hb] at hg
  simp at hg
  exact hne hg.2.1
theorem Qu {W:World} {m n B:Nat} {D:DataW Unit} {e:TypeId} {s k:Nat} {v:Value} {xs:List Value} (hm:MapRd W m n D) (h:W.ownsRow B e s v k xs):some m≠v.ownBlock:=by
 obtain ⟨es,cl,hb,_⟩:=hm
 rcases h.2 with ⟨rfl,_⟩ | ⟨g,cap,cur,rfl,_,hg,_⟩
 ·simp [Value.ownBlock]
 ·intro e0
  obtain rfl:m=g:=by simpa [Value.ownBlock] using e0
  rw [hb] at hg
  cases hg
theorem ko {v:Value} {R:Nat} (h:v.ownBlock≠some R):v.ownBlock=none∨v.ownBlock≠some R:=.inr h
theorem jP {c' f' e' l':Value} {M':Mast} (i:Nat) (v:Value) (hbox:BoxRd W R m c f e l M) (heq:(vW c f e l M m).setIfInBounds i v=vW c' f' e' l' M' m)
 (h0:W.ownsRow B 129 6 c' M'.chart.length (flatA M'.chart)) (h1:W.ownsRow B 81 2 f' M'.flows.length (flat Fl.encF M'.flows)) (h2:W.ownsRow B 219 2 e' M'.ents.length (flat encE M'.ents)) (h3:W.ownsRow B 235 3 l' M'.lines.length (flat encL M'.lines))
 (hm:MapRd W m n D) (gR:B≤R) (gM:B≤m):RdAt (W.setCell ⟨R,i,none⟩ v) B R m c' f' e' l' n D M':=by
 have hg:W.grownBy (W.setCell ⟨R,i,none⟩ v) (some R):=⟨rfl,rfl,rfl,by simp [World.setCell],fun k _ hk=>Below.heap_setCell W _ v k (fun e=>hk (by rw [e]))⟩
 refine ⟨?_,h0.kept hg (ko (jC hbox h0 (by decide))),h1.kept hg (ko (jC hbox h1 (by decide))),h2.kept hg (ko (jC hbox h2 (by decide))),h3.kept hg (ko (jC hbox h3 (by decide))),hm.kept hg (fun e=>?_),gR,gM⟩
 ·have:=Joins.block_setCell (i:=i) hbox v
  rw [heq] at this
  exact this
 ·obtain ⟨es,cl,hb,_⟩:=hm
  cases e
  rw [hbox] at hb;cases hb
theorem jw {W1:World} (h:Below B W1 W) (hR:B≤R) (i:Nat) (v:Value):Below B W1 (W.setCell ⟨R,i,none⟩ v):=h.setCell (p:=⟨R,i,none⟩) hR v
end
end Go.Proofs.YtdhfpgjnjlcciaaGreatDoor.Un
end
