/- CentPlain CentAdd FaFacts CoPlain CoFacts CyPlain CoMem CoIter CoTotal CoGap -/
import Derived.Test.YtfhhihamndbcnaaGreatDoorR44
import Derived.Test.YtfhhihamndbcnaaGreatDoorR45
section
namespace Go.Proofs.YtfhhihamndbcnaaGreatDoor
open Go.RowKit (wrap64)
def subV (a b:Int):Int:=if fit (a - b)=true then a - b else 0
def subE (a b:Int):Int:=if fit (a - b)=true then 0 else 2
theorem subV_yes {a b:Int} (h:fit (a - b)=true):subV a b=a - b:=by simp [subV,h]
theorem subE_yes {a b:Int} (h:fit (a - b)=true):subE a b=0:=by simp [subE,h]
theorem subV_no {a b:Int} (h:fit (a - b)=false):subV a b=0:=by simp [subV,h]
theorem subE_no {a b:Int} (h:fit (a - b)=false):subE a b=2:=by simp [subE,h]
theorem sub_over {a b:Int} (a1:a≤9223372036854775807) (b1:-9223372036854775808≤b) (h:9223372036854775807 < a - b):wrap64 (a - b) < a∧b < 0:=by
 rw [wrap_over h (by omega)];omega
theorem sub_under {a b:Int} (a1:-9223372036854775808≤a) (b1:b≤9223372036854775807) (h:a - b < -9223372036854775808):a < wrap64 (a - b)∧0 < b:=by
 rw [wrap_under h (by omega)];omega
end Go.Proofs.YtfhhihamndbcnaaGreatDoor
end
section
namespace Go.Proofs.YtfhhihamndbcnaaGreatDoor
open Go.RowKit
set_option maxHeartbeats 400000 in
theorem sub_any (a b:Int) (w:World) (ha:In64 a) (hb:In64 b) :
 Calls Tryz.prog 71 #[.int .i64 a,.int .i64 b] w fun e w'=>e=.returned (.tuple #[.int .i64 (subV a b),.int .i64 (subE a b)])∧w=w':=by
 obtain ⟨a1,a2⟩:=ha
 obtain ⟨b1,b2⟩:=hb
 cases hf:fit (a - b) with
 | true =>
   rw [subV_yes hf,subE_yes hf]
   obtain ⟨s1,s2⟩:=(fit_iff _).1 hf
   clear hf
   go_enter Tryz.func71,Tryz.ntmps71
   go_wp2
   all_goals
    go_ret2
    exact ⟨rfl,rfl⟩
 | false =>
   rw [subV_no hf,subE_no hf]
   rcases (fit_no _).1 hf with h | h
   ·obtain ⟨h1,h2⟩:=sub_under a1 b2 h
    clear hf
    go_enter Tryz.func71,Tryz.ntmps71
    go_wp2
    all_goals
     go_ret2
     exact ⟨rfl,rfl⟩
   ·obtain ⟨h1,h2⟩:=sub_over a2 b1 h
    clear hf
    go_enter Tryz.func71,Tryz.ntmps71
    go_wp2
    all_goals
     go_ret2
     exact ⟨rfl,rfl⟩
end Go.Proofs.YtfhhihamndbcnaaGreatDoor
end
section
namespace Go.Proofs.YtfhhihamndbcnaaGreatDoor.Fa
theorem cube_length (l:List Fact):(cube l).length≤l.length:=by
 have h1:=keys_length l
 have key:∀ (K:List Key),(K.flatMap fun k=>putF k (isum l k)).length≤K.length:=by
  intro K
  induction K with
  | nil=>simp
  | cons k K ih =>
    rw [List.flatMap_cons,List.length_append,List.length_cons]
    have:(putF k (isum l k)).length≤1:=by unfold putF;split <;> simp
    omega
 exact Nat.le_trans (key _) h1
theorem cube_right (l:List Fact) (h:l.length≤2000):rightL (cube l)=true:=decide_eq_true ⟨Nat.le_trans (cube_length l) h,cube_nz l,cube_rise l⟩
end Go.Proofs.YtfhhihamndbcnaaGreatDoor.Fa
end
section
namespace Go.Proofs.YtfhhihamndbcnaaGreatDoor.Co
open Go.RowKit Go.Proofs.YtfhhihamndbcnaaGreatDoor.Un Go.Proofs.YtfhhihamndbcnaaGreatDoor.Fa Go.Proofs.YtfhhihamndbcnaaGreatDoor.Pk
theorem walkS_yes {n x:Int} {s:Bool} (r:List (Bool × Int)) (h:fit (stp n s x)=true):walkS n ((s,x)::r)=walkS (stp n s x) r:=by rw [walkS,if_pos h]
theorem walkS_no {n x:Int} {s:Bool} (r:List (Bool × Int)) (h:fit (stp n s x)=false):walkS n ((s,x)::r)=(0,2):=by rw [walkS,if_neg (by rw [h];simp)]
def ssum:List (Bool × Int)→Int
 | []=>0
 | (s,x)::r=>(if s then x else -x)+ssum r
theorem ssum_cons (s:Bool) (x:Int) (r:List (Bool × Int)):ssum ((s,x)::r)=(if s then x else -x)+ssum r:=rfl
theorem walkS_ways:∀ (l:List (Bool × Int)) (n:Int),((walkS n l).2=0∧(walkS n l).1=n+ssum l)∨walkS n l=(0,2)
 | [],n=>.inl ⟨rfl,by simp [walkS,ssum]⟩
 | (s,x)::r,n=>by
   cases hf:fit (stp n s x) with
   | false=>exact .inr (walkS_no r hf)
   | true =>
     rw [walkS_yes r hf]
     rcases walkS_ways r (stp n s x) with ⟨h1,h2⟩ | h
     ·refine .inl ⟨h1,?_⟩
      rw [h2,ssum_cons]
      unfold stp
      cases s <;> simp <;> omega
     ·exact .inr h
theorem weigh_ways (M:Mast) (c:List Fact) (e:ByteArray) (n:Int):((weighP M c e n).2=0∧(weighP M c e n).1=ssum (weighL M c e n))∨weighP M c e n=(0,2):=by
 rcases walkS_ways (weighL M c e n) 0 with ⟨h1,h2⟩ | h
 ·exact .inl ⟨h1,by unfold weighP;rw [h2];omega⟩
 ·exact .inr h
theorem ssum_lin (u:Key→Bool) (v:Key→Bool):∀ (c:List Fact),ssum ((c.filter fun f=>u f.key).map fun f=>(v f.key,f.amt))=lin (fun k=>if u k=true then (if v k=true then 1 else -1) else 0) c
 | []=>rfl
 | f::c=>by
   rw [lin_cons,←ssum_lin u v c,List.filter_cons]
   cases hu:u f.key with
   | false=>simp
   | true =>
     simp only [if_true,List.map_cons,ssum]
     cases v f.key <;> simp <;> omega
theorem weigh_lin (M:Mast) (c:List Fact) (e:ByteArray) (n:Int):ssum (weighL M c e n)=lin (fun k=>if inWeigh M e n k=true then (if clsF M k.a=0 then 1 else -1) else 0) c:=by
 unfold weighL
 rw [ssum_lin (inWeigh M e n) (fun k=>decide (clsF M k.a=0))]
 congr 1
 funext k
 simp
end Go.Proofs.YtfhhihamndbcnaaGreatDoor.Co
end
section
namespace Go.Proofs.YtfhhihamndbcnaaGreatDoor.Co
open Go.RowKit Go.Proofs.YtfhhihamndbcnaaGreatDoor.Un Go.Proofs.YtfhhihamndbcnaaGreatDoor.Fa Go.Proofs.YtfhhihamndbcnaaGreatDoor.Pk
def weighG (M:Mast) (e:ByteArray) (n:Int) (k:Key):Int:=if inWeigh M e n k=true then (if clsF M k.a=0 then 1 else -1) else 0
theorem weigh_sum {M:Mast} {c:List Fact} {e:ByteArray} {n:Int} (h:(weighP M c e n).2=0):(weighP M c e n).1=lin (weighG M e n) c:=by
 rcases weigh_ways M c e n with ⟨_,g⟩ | g
 ·rw [g,weigh_lin];rfl
 ·rw [g] at h;cases h
end Go.Proofs.YtfhhihamndbcnaaGreatDoor.Co
end
section
namespace Go.Proofs.YtfhhihamndbcnaaGreatDoor.Cy
open Go.RowKit Go.Proofs.YtfhhihamndbcnaaGreatDoor.Un Go.Proofs.YtfhhihamndbcnaaGreatDoor.Fa Go.Proofs.YtfhhihamndbcnaaGreatDoor.Pk Go.Proofs.YtfhhihamndbcnaaGreatDoor.Co
theorem weigh_told {M:Mast} (ho:Opens M) (e:ByteArray):∀ c:List Fact,(∀ f∈c,cnt M f.key=true)→lin (weighG M e 0) (toldF M c 4 (firstF M))=lin (weighG M e 4) c
 | [],_=>rfl
 | f::c,h=>by
   have ih:=weigh_told ho e c fun x hx=>h x (List.mem_cons_of_mem _ hx)
   have hf:=h f List.mem_cons_self
   have hf2:=hf
   unfold cnt at hf2
   simp only [Bool.and_eq_true] at hf2
   have ha:hasA M.chart f.key.a=true:=hf2.1
   have hl:hasFl M f.key.f=true:=hf2.2
   rw [lin_cons,←ih]
   unfold toldF
   rw [List.filter_cons]
   by_cases h4:kindF M f.key.f=4
   ·have hk:ofK M 4 f.key=true:=by unfold ofK;simp [hl,h4]
    rw [if_pos hk,List.map_cons,lin_cons]
    have e1:weighG M e 0 (asK (firstF M) f.key)=weighG M e 4 f.key:=by
     unfold weighG inWeigh cnt asK
     simp only [ha,ho.has,ho.kind,hl,h4,decide_true,Bool.and_self,Bool.true_and]
    rw [e1]
   ·have hk:ofK M 4 f.key=false:=by unfold ofK;simp [h4]
    rw [if_neg (by rw [hk];simp)]
    have e1:weighG M e 4 f.key=0:=by
     unfold weighG inWeigh
     rw [if_neg (by simp [h4])]
    rw [e1]
    omega
theorem open_weigh {M:Mast} (ho:Opens M) {p d:List Fact} (hp:∀ f∈p,cnt M f.key=true) (h:openP M p=(d,0)) (e:ByteArray) (h1:(weighP M p e 4).2=0) (h2:(weighP M d e 0).2=0):(weighP M p e 4).1=(weighP M d e 0).1:=by
 obtain ⟨_,hd,_⟩:=open_ok h
 rw [weigh_sum h1,weigh_sum h2,hd,lin_cube,weigh_told ho e p hp]
theorem open_close {M:Mast} (ho:Opens M) {p d:List Fact} (h:openP M p=(d,0)) (e:ByteArray):weighP M d e 4=(0,0):=by
 obtain ⟨_,_,hk⟩:=open_ok h
 unfold weighP weighL
 rw [List.filter_eq_nil_iff.2 fun f hf=>by
  unfold inWeigh
  rw [←hk f hf]
  show ¬ ((_ && decide (kindF M (firstF M)=4)) && _)=true
  rw [ho.kind]
  simp]
 rfl
end Go.Proofs.YtfhhihamndbcnaaGreatDoor.Cy
end
section
namespace Go.Proofs.YtfhhihamndbcnaaGreatDoor.Co
open Go.RowKit Go.Proofs.YtfhhihamndbcnaaGreatDoor.Un Go.Proofs.YtfhhihamndbcnaaGreatDoor.Fa Go.Proofs.YtfhhihamndbcnaaGreatDoor.Pk
structure CF where
 f:Fact
 k:Int
 c:Int
def encC:Enc CF where
 cs x:=[.string x.f.key.e,.string x.f.key.a,.string x.f.key.f,.string x.f.key.p,.int .i64 x.f.key.m,.int .i64 x.f.amt,.int .i64 x.k,.int .i64 x.c]
 k:=8
 len _:=rfl
 pos:=by decide
 one:=by intro k v hv;simp at hv;rcases hv with rfl | rfl | rfl | rfl | rfl | rfl | rfl | rfl <;> rfl
abbrev aggC (x:CF):Value:=.agg #[.string x.f.key.e,.string x.f.key.a,.string x.f.key.f,.string x.f.key.p,.int .i64 x.f.key.m,.int .i64 x.f.amt,.int .i64 x.k,.int .i64 x.c]
theorem cf8 {w:World} {b o:Nat} {x:CF} (h:ElAt encC w b o x):w.cell? ⟨b,o,none⟩=some (.string x.f.key.e)∧w.cell? ⟨b,o+1,none⟩=some (.string x.f.key.a)∧w.cell? ⟨b,o+2,none⟩=some (.string x.f.key.f)∧w.cell? ⟨b,o+3,none⟩=some (.string x.f.key.p)∧w.cell? ⟨b,o+4,none⟩=some (.int .i64 x.f.key.m)∧w.cell? ⟨b,o+5,none⟩=some (.int .i64 x.f.amt)∧w.cell? ⟨b,o+6,none⟩=some (.int .i64 x.k)∧w.cell? ⟨b,o+7,none⟩=some (.int .i64 x.c):=⟨h 0 _ rfl,h 1 _ rfl,h 2 _ rfl,h 3 _ rfl,h 4 _ rfl,h 5 _ rfl,h 6 _ rfl,h 7 _ rfl⟩
def zeroK:Key:=⟨⟨#[]⟩,⟨#[]⟩,⟨#[]⟩,⟨#[]⟩,0⟩
def zeroF6:Fact:=⟨zeroK,0⟩
def zeroC:CF:=⟨zeroF6,0,0⟩
set_option maxRecDepth 100000 in
set_option maxHeartbeats 1000000 in
theorem isAsset_any (x:CF) (w:World):Calls Tryz.prog 49 #[aggC x] w fun e w'=>e=.returned (.bool (x.c==0))∧Below w.heap.size w w':=by
 have HB:=Lib.hid ((Below.refl w.heap.size w).alloc (Nat.le_refl _) (.cells #[.string x.f.key.e,.string x.f.key.a,.string x.f.key.f,.string x.f.key.p,.int .i64 x.f.key.m,.int .i64 x.f.amt,.int .i64 x.k,.int .i64 x.c] 119))
 go_enter Tryz.func49,Tryz.ntmps49
 go_wp2
 go_ret
 exact ⟨rfl,HB.out⟩
def cfOf (M:Mast) (f:Fact):CF:=⟨f,kindF M f.key.f,clsF M f.key.a⟩
set_option maxRecDepth 100000 in
set_option maxHeartbeats 8000000 in
theorem count_any (c f e l:Value) (M:Mast) (x:Fact) (w:World) (h:MastIn w c f e l M) (hr:riseK Fl.Flow.code M.flows=true) (hlf:M.flows.length≤1000) :
 Calls Tryz.prog 74 #[aggM c f e l M,Fa.aggF x] w fun en w'=>en=.returned (.tuple #[if cnt M x.key=true then aggC (cfOf M x) else aggC zeroC,.bool (cnt M x.key)])∧Below w.heap.size w w':=by
 obtain ⟨pc,cc,pf,cf,pe,ce,pl,cl,rfl,rfl,rfl,rfl⟩:=shapes h
 have hb1:=(Below.refl w.heap.size w).alloc (Nat.le_refl _) (.cells (cellsM (.slice pc M.chart.length cc) (.slice pf M.flows.length cf) (.slice pe M.ents.length ce) (.slice pl M.lines.length cl) M) 31)
 have hn1:=nine_new w (.slice pc M.chart.length cc) (.slice pf M.flows.length cf) (.slice pe M.ents.length ce) (.slice pl M.lines.length cl) M 31
 obtain ⟨W1,hW1⟩:∃ W1,w.alloc (.cells (cellsM (.slice pc M.chart.length cc) (.slice pf M.flows.length cf) (.slice pe M.ents.length ce) (.slice pl M.lines.length cl) M) 31)=W1:=⟨_,rfl⟩
 rw [hW1] at hb1 hn1
 have hs1:W1.heap.size=w.heap.size+1:=by rw [←hW1,World.size_alloc]
 have hb2:=(Below.refl W1.heap.size W1).alloc (Nat.le_refl _) (.cells (fCells x) 62)
 obtain ⟨W2,hW2⟩:∃ W2,W1.alloc (.cells (fCells x) 62)=W2:=⟨_,rfl⟩
 have hx2:ElAt encF W2 W1.heap.size 0 x:=by rw [←hW2];exact el_new encF W1 x _
 have hs2:W2.heap.size=W1.heap.size+1:=by rw [←hW2,World.size_alloc]
 rw [hW2] at hb2
 have hb3:=(Below.refl W2.heap.size W2).alloc (Nat.le_refl _) (.cells (encC.cs zeroC).toArray 119)
 have hz3:=BoxE.new encC W2 zeroC 119
 obtain ⟨W3,hW3⟩:∃ W3,W2.alloc (.cells (encC.cs zeroC).toArray 119)=W3:=⟨_,rfl⟩
 rw [hW3] at hb3 hz3
 have hb13:Below W1.heap.size W1 W3:=hb2.trans (hb3.mono hb2.size)
 have hb03:Below w.heap.size w W3:=hb1.trans (hb13.mono hb1.size)
 have HB3:=Lib.hid hb03
 have HM3:=Lib.hid (h.keep hb03)
 have HN3:=Lib.hid (hn1.kept hb13)
 have HX3:=Lib.hid (hx2.keep hb3 hx2.lt)
 have HZ3:=Lib.hid hz3
 have HS:=Lib.hid (show W2.heap.size=w.heap.size+1+1 by rw [hs2,hs1])
 have HS1:=Lib.hid hs1
 have HCF:=Lib.hid (fun W h=>find_any (.slice pc M.chart.length cc) M.chart x.key.a W h)
 have HFK:=Lib.hid (fun W h=>Fl.kind_any (.slice pf M.flows.length cf) M.flows x.key.f W h hr hlf)
 obtain ⟨A,hA⟩:∃ A,findV (findL M.chart x.key.a)=A:=⟨_,rfl⟩
 obtain ⟨AI,hAI⟩:∃ I,(findL M.chart x.key.a).isSome=I:=⟨_,rfl⟩
 obtain ⟨K,hK⟩:∃ K,Fl.kindL M.flows x.key.f=K:=⟨_,rfl⟩
 obtain ⟨FI,hFI⟩:∃ I,isK Fl.Flow.code M.flows x.key.f=I:=⟨_,rfl⟩
 simp only [hA,hAI] at HCF
 simp only [hK,hFI] at HFK
 have HCN:Hid (cnt M x.key=(AI && FI)):=Lib.hid (by
  unfold cnt hasA hasFl
  rw [hAI,←(isK_find hr x.key.f).1,hFI])
 have HCO:Hid (cfOf M x=⟨x,K,A.cls⟩):=Lib.hid (by
  unfold cfOf clsF
  rw [←hK,kind_of_find hr,←hA];rfl)
 obtain ⟨N,hN⟩:∃ N,cnt M x.key=N:=⟨_,rfl⟩
 rw [hN] at HCN ⊢
 rw [HCO.out]
 clear hA hAI hK hFI hN hr hlf hb1 hb2 hb3 hb13 hb03 h hn1 hx2 hz3 HCO hs1 hs2
 obtain ⟨k0,k1,k2,k3,k4,k5,k6,k7,k8⟩:=HN3.out
 obtain ⟨f0,f1,f2,f3,f4,f5⟩:=fact6 HX3.out
 simp only [Nat.zero_add] at f0 f1 f2 f3 f4 f5
 have hW3':W2.alloc (.cells #[.string ⟨#[]⟩,.string ⟨#[]⟩,.string ⟨#[]⟩,.string ⟨#[]⟩,.int .i64 0,.int .i64 0,.int .i64 0,.int .i64 0] 119)=W3:=hW3
 go_enter Tryz.func74,Tryz.ntmps74
 go_wp2_with fail
 clear k0 k1 k2 k3 k4 k5 k6 k7 k8 f0 f1 f2 f3 f4 f5 hW1 hW2 hW3 hW3'
 refine (HFK.out _ HM3.out.flows).mono ?_
 rintro en w4 ⟨rfl,hb4⟩
 have HB4:=Lib.hid (HB3.out.trans (hb4.mono HB3.out.size))
 have HM4:=Lib.hid (HM3.out.keep hb4)
 have HN4:=Lib.hid (HN3.out.kept hb4)
 have HX4:=Lib.hid (HX3.out.keep hb4 HX3.out.lt)
 have HZ4:=Lib.hid (HZ3.out.keep hb4 HZ3.out.lt)
 clear hb4 HB3 HM3 HN3 HX3 HZ3 HFK
 obtain ⟨k0,k1,k2,k3,k4,k5,k6,k7,k8⟩:=HN4.out
 obtain ⟨f0,f1,f2,f3,f4,f5⟩:=fact6 HX4.out
 simp only [Nat.zero_add] at f0 f1 f2 f3 f4 f5
 go_wp2_with fail
 clear k0 k1 k2 k3 k4 k5 k6 k7 k8 f0 f1 f2 f3 f4 f5
 refine (HCF.out _ HM4.out.chart).mono ?_
 rintro en w5 ⟨rfl,hb5⟩
 have hb6:=hb5.alloc hb5.size (.cells #[.string A.code,.int .i64 A.cls,.bool A.cash,.bool A.both,.string A.fixed,.bool A.worn] 199)
 have HB6:=Lib.hid (HB4.out.trans (hb6.mono HB4.out.size))
 have HX6:=Lib.hid (HX4.out.keep hb6 HX4.out.lt)
 have HZ6:=Lib.hid (HZ4.out.keep hb6 HZ4.out.lt)
 have HA6:=Lib.hid (BoxA.new w5 A 199)
 clear hb5 hb6 HB4 HM4 HN4 HX4 HZ4 HCF
 obtain ⟨f0,f1,f2,f3,f4,f5⟩:=fact6 HX6.out
 simp only [Nat.zero_add] at f0 f1 f2 f3 f4 f5
 obtain ⟨z0,z1,z2,z3,z4,z5⟩:=HA6.out.facts
 cases FI with
 | false =>
   have hn:N=false:=by rw [HCN.out];simp
   subst hn
   cases AI with
   | false =>
     go_wp2_with (refine wpList_store_el rfl 119 (.tmp 4) (.tmp 34) rfl W2.heap.size zeroC zeroC 119 rfl rfl HZ6.out (by kernel_rfl) ?_;intro w7 hb7 hg7)
     have HF:=Lib.hid (HB6.out.grown hg7 HB6.out.size (fun j hj=>by cases hj;have:=HS.out;omega))
     obtain ⟨e0,e1,e2,e3,e4,e5,e6,e7⟩:=cf8 hb7.at0
     simp only [Nat.zero_add] at e0 e1 e2 e3 e4 e5 e6 e7
     clear hb7 hg7
     exact bodyPost_ret (v:=.tuple #[aggC zeroC,.bool false]) (by simp [results,Tryz.results74,go_sem,e0,e1,e2,e3,e4,e5,e6,e7]) rfl ⟨rfl,HF.out⟩
   | true =>
     go_wp2_with (refine wpList_store_el rfl 119 (.tmp 4) (.tmp 34) rfl W2.heap.size zeroC zeroC 119 rfl rfl HZ6.out (by kernel_rfl) ?_;intro w7 hb7 hg7)
     have HF:=Lib.hid (HB6.out.grown hg7 HB6.out.size (fun j hj=>by cases hj;have:=HS.out;omega))
     obtain ⟨e0,e1,e2,e3,e4,e5,e6,e7⟩:=cf8 hb7.at0
     simp only [Nat.zero_add] at e0 e1 e2 e3 e4 e5 e6 e7
     clear hb7 hg7
     exact bodyPost_ret (v:=.tuple #[aggC zeroC,.bool false]) (by simp [results,Tryz.results74,go_sem,e0,e1,e2,e3,e4,e5,e6,e7]) rfl ⟨rfl,HF.out⟩
 | true =>
   cases AI with
   | false =>
     have hn:N=false:=by rw [HCN.out];rfl
     subst hn
     go_wp2_with (refine wpList_store_el rfl 119 (.tmp 4) (.tmp 34) rfl W2.heap.size zeroC zeroC 119 rfl rfl HZ6.out (by kernel_rfl) ?_;intro w7 hb7 hg7)
     have HF:=Lib.hid (HB6.out.grown hg7 HB6.out.size (fun j hj=>by cases hj;have:=HS.out;omega))
     obtain ⟨e0,e1,e2,e3,e4,e5,e6,e7⟩:=cf8 hb7.at0
     simp only [Nat.zero_add] at e0 e1 e2 e3 e4 e5 e6 e7
     clear hb7 hg7
     exact bodyPost_ret (v:=.tuple #[aggC zeroC,.bool false]) (by simp [results,Tryz.results74,go_sem,e0,e1,e2,e3,e4,e5,e6,e7]) rfl ⟨rfl,HF.out⟩
   | true =>
     have hn:N=true:=by rw [HCN.out];rfl
     subst hn
     go_wp2_with (refine wpList_store_el rfl 119 (.tmp 4) (.tmp 39) rfl W2.heap.size zeroC ⟨x,K,A.cls⟩ 119 rfl rfl HZ6.out (by kernel_rfl) ?_;intro w7 hb7 hg7)
     have HF:=Lib.hid (HB6.out.grown hg7 HB6.out.size (fun j hj=>by cases hj;have:=HS.out;omega))
     obtain ⟨e0,e1,e2,e3,e4,e5,e6,e7⟩:=cf8 hb7.at0
     simp only [Nat.zero_add] at e0 e1 e2 e3 e4 e5 e6 e7
     clear hb7 hg7
     exact bodyPost_ret (v:=.tuple #[aggC ⟨x,K,A.cls⟩,.bool true]) (by simp [results,Tryz.results74,go_sem,e0,e1,e2,e3,e4,e5,e6,e7]) rfl ⟨rfl,HF.out⟩
end Go.Proofs.YtfhhihamndbcnaaGreatDoor.Co
end
section
namespace Go.Proofs.YtfhhihamndbcnaaGreatDoor.Co
open Go.RowKit Go.Shelf Go.Proofs.YtfhhihamndbcnaaGreatDoor.Un Go.Proofs.YtfhhihamndbcnaaGreatDoor.Fa Go.Proofs.YtfhhihamndbcnaaGreatDoor.Pk
attribute [local go_sem] Oper.semAt_some
def cfs (M:Mast) (q:Key→Bool) (l:List Fact):List CF:=(l.filter fun f=>q f.key && cnt M f.key).map (cfOf M)
theorem cfs_yes {M:Mast} {q:Key→Bool} {l:List Fact} {i:Nat} {x:Fact} (hx:l[i]?=some x) (h1:q x.key=true) (h2:cnt M x.key=true):cfs M q (l.take (i+1))=cfs M q (l.take i)++[cfOf M x]:=by
 unfold cfs
 rw [List.take_add_one,hx]
 simp [h1,h2]
theorem cfs_no {M:Mast} {q:Key→Bool} {l:List Fact} {i:Nat} {x:Fact} (hx:l[i]?=some x) (h:q x.key=false∨cnt M x.key=false):cfs M q (l.take (i+1))=cfs M q (l.take i):=by
 unfold cfs
 rw [List.take_add_one,hx]
 rcases h with h | h <;> simp [h]
theorem cfs_more {M:Mast} {q:Key→Bool} {l:List Fact} {i:Nat} {x:Fact} (hx:l[i]?=some x) (h1:q x.key=true) (h2:cnt M x.key=true):∃ r,cfs M q l=cfs M q (l.take i)++cfOf M x::r:=by
 have hi:i < l.length:=(List.getElem?_eq_some_iff.1 hx).1
 have e:l=l.take i++x::l.drop (i+1):=by
  rw [List.getElem?_eq_getElem hi] at hx
  cases hx
  rw [←List.drop_eq_getElem_cons hi,List.take_append_drop]
 refine ⟨cfs M q (l.drop (i+1)),?_⟩
 conv=>lhs;rw [e]
 unfold cfs
 simp [h1,h2]
def KpC (n1 lo hi:Nat) (W W':World):Prop:=Below n1 W W'∧∀ k,lo≤k→k < hi→W'.heap[k]?=W.heap[k]?
theorem kpC_trans {n1 lo hi:Nat} {A B C:World} (h:KpC n1 lo hi A B) (k:KpC n1 lo hi B C):KpC n1 lo hi A C:=⟨h.1.trans k.1,fun i h1 h2=>(k.2 i h1 h2).trans (h.2 i h1 h2)⟩
theorem kpC_below {n1 lo hi B:Nat} {W W':World} (h:Below B W W') (hB:hi≤B) (hn:n1≤B):KpC n1 lo hi W W':=⟨h.mono hn,fun k _ hk=>h.block k (by omega)⟩
theorem kpC_put {n1 lo hi:Nat} (W:World) (l:Nat) (o':Obj) (h:hi≤l) (hn:n1≤l) (hs:n1≤W.heap.size):KpC n1 lo hi W (W.putObj l o') :=
 ⟨(Below.refl n1 W).grown (grownBy_putObj' W l o') hs (fun k e=>by cases e;exact hn),fun k _ hk=>World.putObj_heap_other (by omega)⟩
structure ItAt (n1 lo hi:Nat) (w1:World) (g:Nat) (cb:Array Value) (bc ba bm:Nat) (c f e l vc:Value) (M:Mast) (W:World):Prop where
 below:Below n1 w1 W
 top:hi≤W.heap.size
 cc:W.cell? ⟨bc,0,none⟩=some vc
 ca:W.cell? ⟨ba,0,none⟩=some (.func (.func g) #[] cb)
 nm:NineAt W bm c f e l M
structure Ins (n1 lo hi bc ba bm:Nat):Prop where
 n:n1≤hi
 c1:lo≤bc
 c2:bc < hi
 a1:lo≤ba
 a2:ba < hi
 m1:lo≤bm
 m2:bm < hi
theorem cell_same {W W':World} {b:Nat} (h:W'.heap[b]?=W.heap[b]?) (o:Nat):W'.cell? ⟨b,o,none⟩=W.cell? ⟨b,o,none⟩:=by
 unfold World.cell?
 rw [h]
theorem ItAt.keep {n1 lo hi:Nat} {w1:World} {g:Nat} {cb:Array Value} {bc ba bm:Nat} {c f e l vc:Value} {M:Mast} {W W':World} (h:ItAt n1 lo hi w1 g cb bc ba bm c f e l vc M W) (hI:Ins n1 lo hi bc ba bm) (hk:KpC n1 lo hi W W'):ItAt n1 lo hi w1 g cb bc ba bm c f e l vc M W':=by
 have hm:=fun o=>cell_same (hk.2 bm hI.m1 hI.m2) o
 refine ⟨h.below.trans hk.1,Nat.le_trans h.top hk.1.size,(cell_same (hk.2 bc hI.c1 hI.c2) 0).trans h.cc,(cell_same (hk.2 ba hI.a1 hI.a2) 0).trans h.ca,?_⟩
 obtain ⟨k0,k1,k2,k3,k4,k5,k6,k7,k8⟩:=h.nm
 exact ⟨(hm 0).trans k0,(hm 1).trans k1,(hm 2).trans k2,(hm 3).trans k3,(hm 4).trans k4,(hm 5).trans k5,(hm 6).trans k6,(hm 7).trans k7,(hm 8).trans k8⟩
def RC (all:List CF) (pre:List CF) (x:CF) (_W:World):Prop:=∃ r,all=pre++x::r
def encsC (x:CF):Array Value:=#[aggC x]
set_option maxRecDepth 100000 in
set_option maxHeartbeats 8000000 in
theorem iterC_told (n:Nat) (hn:1≤n) (n1 lo hi:Nat) (w1:World) (hw1:w1.heap.size=n1) (g:Nat) (cb:Array Value) (bc ba bm:Nat) (c f e l vc:Value) (M:Mast) (L:List Fact) (q:Key→Bool) (w:World)
 (hM:MastIn w1 c f e l M) (hr:riseK Fl.Flow.code M.flows=true) (hlf:M.flows.length≤1000) (hV:FactsV w1 vc L) (hL:L.length≤1000) (hI:Ins n1 lo hi bc ba bm) (hA:ItAt n1 lo hi w1 g cb bc ba bm c f e l vc M w)
 (eg:∀ args w,(callFunc g args).run Tryz.prog w=.ok (.enter g args) w) (hq:∀ W,KpC n1 lo hi w W→∀ k,Calls Tryz.prog g (#[Fa.aggK k]++cb) W fun en w'=>en=.returned (.bool (q k))∧Below W.heap.size W w') :
 SeqTold Fence.wide n Tryz.prog 73 #[.pointer (some ⟨bc,0,none⟩),.pointer (some ⟨ba,0,none⟩),.pointer (some ⟨bm,0,none⟩)] encsC (KpC n1 lo hi) (RC (cfs M q L)) (fun xs=>xs=cfs M q L) (fun _=>True) w:=by
 intro lp J Jx W hW hJ hJx hY h0
 have HY:=Lib.hid hY
 have HJ:=Lib.hid hJ
 have HQ:=Lib.hid hq
 have hKW:KpC n1 lo hi w W:=kpC_below hW hA.top (Nat.le_trans hI.n hA.top)
 have hA0:=hA.keep hI hKW
 have HI:=Lib.hid hI
 have HM:=Lib.hid hM
 have HR:=Lib.hid hr
 have HLF:=Lib.hid hlf
 have HW1:=Lib.hid hw1
 obtain ⟨p,cp,rfl,hcap,hmx,_,_⟩:=id hV
 obtain ⟨N,hN⟩:∃ N,L.length=N:=⟨_,rfl⟩
 have HN:=Lib.hid hN
 have HV:=Lib.hid hV
 obtain ⟨pc,cc,pf,cf,pe,ce,pl,cl,rfl,rfl,rfl,rfl⟩:=shapes hM
 rw [hN] at hL hA0 hA
 unfold maxLen at hmx
 have HK0:=Lib.hid hKW
 clear hY hJ hJx hq hI hM hr hlf hV hN hA hcap hmx hw1 hW hKW
 refine callsIn_of_wp Tryz.func73 rfl trivial ?_ rfl
 simp only [Tryz.ntmps73,List.size_toArray,List.length_cons,List.length_nil,Nat.reduceAdd,Nat.reduceSub,Array.replicate_succ,Array.replicate_zero,List.push_toArray,List.append_toArray,List.nil_append,List.cons_append]
 have a1:=hA0.cc
 gi_wp2
 gi_loopw [11] (fun s11 wr=>∃ i:Nat,s11=.int .i64 (i:Int)∧i≤N∧J (cfs M q (L.take i)) wr∧ItAt n1 lo hi w1 g cb bc ba bm (.slice pc M.chart.length cc) (.slice pf M.flows.length cf) (.slice pe M.ents.length ce) (.slice pl M.lines.length cl) (.slice p N cp) M wr∧Hid (KpC n1 lo hi w wr)) (fun s11 _=>N - (intOf s11).toNat)
 case atStart=>exact ⟨0,rfl,Nat.zero_le _,h0,hA0,HK0⟩
 case round =>
  obtain ⟨i,rfl,hiN,hJs,hAt,HKR⟩:=hrel
  rename World=>wa
  by_cases hlt:i < N
  ·obtain ⟨x,hx⟩:∃ x,L[i]?=some x:=⟨_,List.getElem?_eq_getElem (by rw [HN.out];exact hlt)⟩
   obtain ⟨b,o,e',hat⟩:=ElsV.at_ HV.out hx
   cases e'
   have hlt1:=hat.lt
   obtain ⟨r0,r1,r2,r3,r4,r5⟩:=fact6 (hat.keep hAt.below (by rw [←HW1.out];exact hlt1))
   simp only [show encF.k=6 from rfl] at r0 r1 r2 r3 r4 r5
   have HX:=Lib.hid hx
   have HAT:=Lib.hid hAt
   have HJS:=Lib.hid hJs
   clear hx hat hAt hJs a1 hA0 h0
   have hbA:Below wa.heap.size wa (wa.alloc (.cells (fCells x) 62)):=(Below.refl wa.heap.size wa).alloc (Nat.le_refl _) _
   have HA2:Hid (ElAt encF (wa.alloc (.cells (fCells x) 62)) wa.heap.size 0 x):=Lib.hid (el_new encF wa x 62)
   have HBA:=Lib.hid hbA
   have hkA:KpC n1 lo hi wa (wa.alloc (.cells (fCells x) 62)):=kpC_below hbA HAT.out.top (Nat.le_trans HI.out.n HAT.out.top)
   have HKA:=Lib.hid hkA
   have HAT1:=Lib.hid (HAT.out.keep HI.out hkA)
   have HJ1:=Lib.hid (HJ.out _ _ _ HJS.out hbA)
   have HKR1:=Lib.hid (kpC_trans HKR.out hkA)
   have a1:=HAT.out.cc
   have a2:=HAT1.out.ca
   obtain ⟨f0,f1,f2,f3,f4,f5⟩:=fact6 HA2.out
   simp only [Nat.zero_add] at f0 f1 f2 f3 f4 f5
   clear hbA hkA
   gi_wp2_with fail
   obtain ⟨W1,hW1⟩:∃ W1,wa.alloc (.cells (fCells x) 62)=W1:=⟨_,rfl⟩
   have hW1':wa.alloc (.cells #[.string x.key.e,.string x.key.a,.string x.key.f,.string x.key.p,.int .i64 x.key.m,.int .i64 x.amt] 62)=W1:=hW1
   rw [hW1] at HA2 HBA HKA HAT1 HJ1 HKR1
   rw [hW1']
   clear r0 r1 r2 r3 r4 r5 a1 a2 f0 f1 f2 f3 f4 f5 hW1 hW1' HAT HJS
   obtain ⟨b,hb⟩:∃ b,q x.key=b:=⟨_,rfl⟩
   have HQX:=Lib.hid hb
   have HQC:=Lib.hid (HQ.out W1 HKR1.out x.key)
   rw [hb] at HQC
   clear hb
   refine ⟨trivial,?_⟩
   refine (callsIn_wide.2 HQC.out).mono ?_
   rintro en w2 ⟨rfl,hb2⟩
   have hk2:KpC n1 lo hi W1 w2:=kpC_below hb2 HAT1.out.top (Nat.le_trans HI.out.n HAT1.out.top)
   have HAT2:=Lib.hid (HAT1.out.keep HI.out hk2)
   have HJ2:=Lib.hid (HJ.out _ _ _ HJ1.out hb2)
   have HKR2:=Lib.hid (kpC_trans HKR1.out hk2)
   have HX2:=Lib.hid (HA2.out.keep hb2 HA2.out.lt)
   clear hb2 hk2 HA2 HBA HKA HAT1 HJ1 HKR1 HQC
   cases b with
   | false =>
     gi_wp2
     go_roundw
     case rel=>exact ⟨i+1,by go_num,by omega,by rw [cfs_no HX.out (.inl HQX.out)];exact HJ2.out,HAT2.out,HKR2⟩
     case measure=>simp [intOf];omega
   | true =>
     have HCT:=Lib.hid (count_any (.slice pc M.chart.length cc) (.slice pf M.flows.length cf) (.slice pe M.ents.length ce) (.slice pl M.lines.length cl) M x w2 (HM.out.keep (by rw [HW1.out];exact HAT2.out.below)) HR.out HLF.out)
     obtain ⟨k0,k1,k2,k3,k4,k5,k6,k7,k8⟩:=HAT2.out.nm
     obtain ⟨f0,f1,f2,f3,f4,f5⟩:=fact6 HX2.out
     simp only [Nat.zero_add] at f0 f1 f2 f3 f4 f5
     obtain ⟨y,hy⟩:∃ y,cfOf M x=y:=⟨_,rfl⟩
     have HY2:=Lib.hid hy
     rw [hy] at HCT
     clear hy
     cases hc:cnt M x.key with
     | false =>
       have HCN:=Lib.hid hc
       rw [hc] at HCT
       rw [if_neg (by simp)] at HCT
       clear hc
       gi_wp2_with fail
       clear k0 k1 k2 k3 k4 k5 k6 k7 k8 f0 f1 f2 f3 f4 f5
       refine ⟨trivial,?_⟩
       refine (callsIn_wide.2 HCT.out).mono ?_
       rintro en w3 ⟨rfl,hb3⟩
       have hb4:=hb3.alloc hb3.size (.cells (encC.cs zeroC).toArray 119)
       have hk4:KpC n1 lo hi w2 (w3.alloc (.cells (encC.cs zeroC).toArray 119)):=kpC_below hb4 HAT2.out.top (Nat.le_trans HI.out.n HAT2.out.top)
       have HAT4:=Lib.hid (HAT2.out.keep HI.out hk4)
       have HJ4:=Lib.hid (HJ.out _ _ _ HJ2.out hb4)
       have HKR4:=Lib.hid (kpC_trans HKR2.out hk4)
       clear hb3 hb4 hk4
       gi_wp2
       refine ⟨fun _ h=>(by cases h),?_⟩
       gi_wp2
       go_roundw
       case rel=>exact ⟨i+1,by go_num,by omega,by rw [cfs_no HX.out (.inr HCN.out)];exact HJ4.out,HAT4.out,HKR4⟩
       case measure=>simp [intOf];omega
     | true =>
       have HCN:=Lib.hid hc
       rw [hc] at HCT
       rw [if_pos rfl] at HCT
       clear hc
       gi_wp2_with fail
       clear k0 k1 k2 k3 k4 k5 k6 k7 k8 f0 f1 f2 f3 f4 f5
       refine ⟨trivial,?_⟩
       refine (callsIn_wide.2 HCT.out).mono ?_
       rintro en w3 ⟨rfl,hb3⟩
       have hb4:=hb3.alloc hb3.size (.cells (encC.cs y).toArray 119)
       have hk4:KpC n1 lo hi w2 (w3.alloc (.cells (encC.cs y).toArray 119)):=kpC_below hb4 HAT2.out.top (Nat.le_trans HI.out.n HAT2.out.top)
       have HAT4:=Lib.hid (HAT2.out.keep HI.out hk4)
       have HJ4:=Lib.hid (HJ.out _ _ _ HJ2.out hb4)
       have HKR4:=Lib.hid (kpC_trans HKR2.out hk4)
       obtain ⟨W4,hW4⟩:∃ W4,w3.alloc (.cells (encC.cs y).toArray 119)=W4:=⟨_,rfl⟩
       have hW4':w3.alloc (.cells #[.string y.f.key.e,.string y.f.key.a,.string y.f.key.f,.string y.f.key.p,.int .i64 y.f.key.m,.int .i64 y.f.amt,.int .i64 y.k,.int .i64 y.c] 119)=W4:=hW4
       have hX4:ElAt encC W4 w3.heap.size 0 y:=by rw [←hW4];exact el_new encC w3 y _
       rw [hW4] at HAT4 HJ4 HKR4
       clear hb3 hb4 hk4 hW4
       obtain ⟨r,hr⟩:=cfs_more HX.out HQX.out HCN.out
       rw [HY2.out] at hr
       obtain ⟨fn,tmps,assign,body,hy,hR⟩:=HY.out (cfs M q (L.take i)) y W4 HJ4.out ⟨r,hr⟩
       unfold encsC at hy
       obtain ⟨k0,k1,k2,k3,k4,k5,k6,k7⟩:=cf8 hX4
       simp only [Nat.zero_add] at k0 k1 k2 k3 k4 k5 k6 k7
       clear hX4
       gi_wp2
       refine hR.mono ?_
       rintro en W5 (⟨rfl,hJ5,hk5⟩ | ⟨rfl,hJx5⟩)
       ·have HAT5:=Lib.hid (HAT4.out.keep HI.out hk5)
        have HKR5:=Lib.hid (kpC_trans HKR4.out hk5)
        clear hk5
        gi_wp2
        go_roundw
        case rel=>exact ⟨i+1,by go_num,by omega,by rw [cfs_yes HX.out HQX.out HCN.out,HY2.out];exact hJ5,HAT5.out,HKR5⟩
        case measure=>simp [intOf];omega
       ·gi_wp2
        refine bodyPost_ret (results_none rfl _ _ _) rfl ?_
        exact ⟨⟨_,rfl⟩,.inr ⟨_,trivial,hJx5⟩⟩
  ·have hiE:i=N:=by omega
   subst hiE
   have HE:Hid (cfs M q (L.take i)=cfs M q L):=Lib.hid (by rw [List.take_of_length_le (by rw [HN.out];exact Nat.le_refl _)])
   gi_wp2
   go_end0
   exact ⟨⟨_,rfl⟩,.inl ⟨cfs M q (L.take i),HE.out,hJs⟩⟩
end Go.Proofs.YtfhhihamndbcnaaGreatDoor.Co
end
section
namespace Go.Proofs.YtfhhihamndbcnaaGreatDoor.Co
open Go.RowKit Go.Shelf Go.Proofs.YtfhhihamndbcnaaGreatDoor.Un Go.Proofs.YtfhhihamndbcnaaGreatDoor.Fa Go.Proofs.YtfhhihamndbcnaaGreatDoor.Pk
attribute [local go_sem] Oper.semAt_some
def sgs (ad:CF→Bool) (l:List CF):List (Bool × Int):=l.map fun x=>(ad x,x.f.amt)
theorem sgs_snoc (ad:CF→Bool) (l:List CF) (x:CF):sgs ad (l++[x])=sgs ad l++[(ad x,x.f.amt)]:=by simp [sgs]
theorem walkS_append:∀ (a b:List (Bool × Int)) (n s:Int),walkS n a=(s,0)→walkS n (a++b)=walkS s b
 | [],b,n,s,h=>by
   have:n=s:=by simpa [walkS] using h
   rw [this];rfl
 | (g,x)::a,b,n,s,h=>by
   cases hf:fit (stp n g x) with
   | false=>rw [walkS_no a hf] at h;cases h
   | true=>rw [walkS_yes a hf] at h;rw [List.cons_append,walkS_yes _ hf];exact walkS_append a b _ s h
theorem walkS_next {ad:CF→Bool} {pre:List CF} {x:CF} {s:Int} (h:walkS 0 (sgs ad pre)=(s,0)) (hf:fit (stp s (ad x) x.f.amt)=true):walkS 0 (sgs ad (pre++[x]))=(stp s (ad x) x.f.amt,0):=by
 rw [sgs_snoc,walkS_append _ _ _ _ h,walkS_yes _ hf];rfl
theorem walkS_stops {ad:CF→Bool} {pre r:List CF} {x:CF} {s:Int} (h:walkS 0 (sgs ad pre)=(s,0)) (hf:fit (stp s (ad x) x.f.amt)=false):walkS 0 (sgs ad (pre++x::r))=(0,2):=by
 have e:sgs ad (pre++x::r)=sgs ad pre++(ad x,x.f.amt)::sgs ad r:=by simp [sgs]
 rw [e,walkS_append _ _ _ _ h,walkS_no _ hf]
def ToI (ad:CF→Bool) (n0:Nat) (fv:Value) (pre:List CF) (W:World):Prop :=
 ∃ s,walkS 0 (sgs ad pre)=(s,0)∧In64 s∧Boxed W n0 117 fv∧Boxed W (n0+1) 2 (.int .i64 0)∧Boxed W (n0+1+1) 43 (.int .i64 0)∧Boxed W (n0+1+1+1) 2 (.int .i64 s)
theorem toI_own (ad:CF→Bool) (n0:Nat) (fv:Value):Own (ToI ad n0 fv):=by
 rintro s X Y row ⟨n,h0,h1,h2,h3,h4,h5⟩ hg hrow
 have hb:∀ {B:Nat} {t:TypeId} {u:Value},Boxed X B t u→some B≠row:=fun {B t u} hu e'=>by
  obtain ⟨o,ho,hc⟩:=hrow _ e'.symm
  rw [show X.heap[B]?=_ from hu] at ho;cases ho;cases hc
 exact ⟨n,h0,h1,h2.kept hg (hb h2),h3.kept hg (hb h3),h4.kept hg (hb h4),h5.kept hg (hb h5)⟩
def ToX (n0:Nat) (c:Code) (_:List CF) (W:World):Prop:=c=.ret∧Boxed W (n0+1) 2 (.int .i64 0)∧Boxed W (n0+1+1) 43 (.int .i64 2)
theorem toX_own (n0:Nat) (c:Code):Own (ToX n0 c):=by
 rintro s X Y row ⟨h0,h1,h2⟩ hg hrow
 have hb:∀ {B:Nat} {t:TypeId} {u:Value},Boxed X B t u→some B≠row:=fun {B t u} hu e'=>by
  obtain ⟨o,ho,hc⟩:=hrow _ e'.symm
  rw [show X.heap[B]?=_ from hu] at ho;cases ho;cases hc
 exact ⟨h0,h1.kept hg (hb h1),h2.kept hg (hb h2)⟩
set_option maxRecDepth 100000 in
set_option maxHeartbeats 8000000 in
theorem total_any (n1 lo hi:Nat) (gi:Nat) (lb:Array Value) (ga:Nat) (ad:CF→Bool) (all:List CF) (w:World) (hhi:hi≤w.heap.size) (hn1:n1≤w.heap.size) (hz:∀ x∈all,In64 x.f.amt)
 (egi:∀ args w,(callFunc gi args).run Tryz.prog w=.ok (.enter gi args) w) (ega:∀ args w,(callFunc ga args).run Tryz.prog w=.ok (.enter ga args) w)
 (hadd:∀ x W,Calls Tryz.prog ga #[aggC x] W fun en w'=>en=.returned (.bool (ad x))∧Below W.heap.size W w')
 (hseq:∀ W,Below w.heap.size w W→SeqTold Fence.wide 2 Tryz.prog gi lb encsC (KpC n1 lo hi) (RC all) (fun xs=>xs=all) (fun _=>True) W) :
 Calls Tryz.prog 47 #[.func (.func gi) #[] lb,.func (.func ga) #[] #[]] w fun en w'=>en=.returned (.tuple #[.int .i64 (walkS 0 (sgs ad all)).1,.int .i64 (walkS 0 (sgs ad all)).2])∧Below w.heap.size w w':=by
 obtain ⟨fv,hfv⟩:∃ fv,(Value.func (.func ga) #[] #[]:Value)=fv:=⟨_,rfl⟩
 obtain ⟨W0,hW0⟩:∃ W0,(((w.alloc (.cells #[.func (.func ga) #[] #[]] 117)).alloc (.cells #[.int .i64 0] 2)).alloc (.cells #[.int .i64 0] 43)).alloc (.cells #[.int .i64 0] 2)=W0:=⟨_,rfl⟩
 have hb0:Below w.heap.size w W0:=by
  rw [←hW0]
  exact ((((Below.refl w.heap.size w).alloc (Nat.le_refl _) _).alloc (by simp) _).alloc (by simp;omega) _).alloc (by simp;omega) _
 have hs0:W0.heap.size=w.heap.size+4:=by rw [←hW0];simp
 have x0:Boxed W0 w.heap.size 117 (.func (.func ga) #[] #[]):=by
  rw [←hW0];exact (((Boxed.new w _ _).alloc _).alloc _).alloc _
 have x1:Boxed W0 (w.heap.size+1) 2 (.int .i64 0):=by
  have:=((Boxed.new (w.alloc (.cells #[.func (.func ga) #[] #[]] 117)) 2 (.int .i64 0)).alloc (.cells #[.int .i64 0] 43)).alloc (.cells #[.int .i64 0] 2)
  rw [World.size_alloc] at this
  rw [←hW0];exact this
 have x2:Boxed W0 (w.heap.size+1+1) 43 (.int .i64 0):=by
  have:=(Boxed.new ((w.alloc (.cells #[.func (.func ga) #[] #[]] 117)).alloc (.cells #[.int .i64 0] 2)) 43 (.int .i64 0)).alloc (.cells #[.int .i64 0] 2)
  rw [World.size_alloc,World.size_alloc] at this
  rw [←hW0];exact this
 have x3:Boxed W0 (w.heap.size+1+1+1) 2 (.int .i64 0):=by
  have:=Boxed.new (((w.alloc (.cells #[.func (.func ga) #[] #[]] 117)).alloc (.cells #[.int .i64 0] 2)).alloc (.cells #[.int .i64 0] 43)) 2 (.int .i64 0)
  rw [World.size_alloc,World.size_alloc,World.size_alloc] at this
  rw [←hW0];exact this
 have HB0:=Lib.hid hb0
 have HS0:=Lib.hid hs0
 have H0:=Lib.hid x0
 have H1:=Lib.hid x1
 have H2:=Lib.hid x2
 have H3:=Lib.hid x3
 have HZ:=Lib.hid hz
 have HADD:=Lib.hid hadd
 have HSEQ:=Lib.hid (hseq W0 hb0)
 obtain ⟨R,hR⟩:∃ R,walkS 0 (sgs ad all)=R:=⟨_,rfl⟩
 rw [hR]
 have HRR:=Lib.hid hR
 have HHI:=Lib.hid hhi
 have HN1:=Lib.hid hn1
 clear hb0 hs0 x0 x1 x2 x3 hz hadd hseq hR hhi hn1 hfv
 refine (callsIn_wide (n:=3)).1 ?_
 refine callsIn_of_wp_marks Tryz.func47 rfl trivial ?_ rfl
 simp only [Tryz.ntmps47,List.size_toArray,List.length_cons,List.length_nil,Nat.reduceAdd,Nat.reduceSub,Array.replicate_succ,Array.replicate_zero,List.push_toArray,List.append_toArray,List.nil_append,List.cons_append]
 gi_wp2
 clear hW0
 refine wpIn_rangeFunc_told rfl (by decide) (gf:=gi) (lb:=lb) rfl trivial egi HSEQ.out kpC_trans
  (fun W l o o' hl hlo _ _=>kpC_put W l o' (by have:=HB0.out.size;have:=HHI.out;omega) (by have:=HB0.out.size;have:=HN1.out;omega) (by have:=(Array.getElem?_eq_some_iff.1 hlo).1;have:=HB0.out.size;have:=HN1.out;omega)) (fun _=>rfl)
  (fun pre W=>ToI ad w.heap.size (.func (.func ga) #[] #[]) pre W∧Below w.heap.size w W)
  (fun c pre W=>(ToX w.heap.size c pre W∧R=(0,2))∧Below w.heap.size w W)
  (OwnFrom.and (Own.from (toI_own _ _ _) _) (ownFrom_below (Nat.le_refl _) HB0.out.size))
  (fun c=>OwnFrom.and (OwnFrom.and (Own.from (toX_own _ _) _) (ownFrom_pure _ _)) (ownFrom_below (Nat.le_refl _) HB0.out.size))
  ⟨⟨0,rfl,⟨by decide,by decide⟩,H0.out,H1.out,H2.out,H3.out⟩,HB0.out⟩ ?_ ?_ ?_
 ·rintro lp pre x W hl ⟨⟨s,hsp,hin,h0,h1,h2,h3⟩,hB⟩ ⟨r,hr⟩
  have hbA:Below W.heap.size W (W.alloc (.cells #[.string x.f.key.e,.string x.f.key.a,.string x.f.key.f,.string x.f.key.p,.int .i64 x.f.key.m,.int .i64 x.f.amt,.int .i64 x.k,.int .i64 x.c] 119)):=(Below.refl W.heap.size W).alloc (Nat.le_refl _) _
  have HBA:=Lib.hid hbA
  have H0A:=Lib.hid (boxed_below h0 hbA)
  have H1A:=Lib.hid (boxed_below h1 hbA)
  have H2A:=Lib.hid (boxed_below h2 hbA)
  have H3A:=Lib.hid (boxed_below h3 hbA)
  have HXA:=Lib.hid (el_new encC W x 119)
  have HBW:=Lib.hid hB
  have HSP:=Lib.hid hsp
  have HIN:=Lib.hid hin
  have HALL:=Lib.hid hr
  have HINX:Hid (In64 x.f.amt):=Lib.hid (HZ.out x (by rw [hr];simp))
  clear h0 h1 h2 h3 hbA hB hsp hin hr
  unfold encsC
  gi_wp2_with fail
  refine ⟨keepsFrom_below _ HBA.out,kpC_below HBA.out (by have:=HBW.out.size;have:=HHI.out;omega) (by have:=HBW.out.size;have:=HN1.out;omega),?_⟩
  intro o o' hlo hoc
  obtain ⟨WA,hWA⟩:∃ WA,W.alloc (.cells #[.string x.f.key.e,.string x.f.key.a,.string x.f.key.f,.string x.f.key.p,.int .i64 x.f.key.m,.int .i64 x.f.amt,.int .i64 x.k,.int .i64 x.c] 119)=WA:=⟨_,rfl⟩
  rw [hWA] at H0A H1A H2A H3A HBA hlo
  have HSA:Hid (WA.heap.size=W.heap.size+1):=Lib.hid (by rw [←hWA,World.size_alloc])
  have HXB:Hid (ElAt encC WA W.heap.size 0 x):=Lib.hid (by rw [←hWA];exact HXA.out)
  rw [hWA]
  obtain ⟨W4,hW4⟩:∃ W4,WA.putObj lp o'=W4:=⟨_,rfl⟩
  have H04:Hid (Boxed W4 w.heap.size 117 (.func (.func ga) #[] #[])):=Lib.hid (by rw [←hW4];exact boxed_putObj hlo hoc H0A.out)
  have H14:Hid (Boxed W4 (w.heap.size+1) 2 (.int .i64 0)):=Lib.hid (by rw [←hW4];exact boxed_putObj hlo hoc H1A.out)
  have H24:Hid (Boxed W4 (w.heap.size+1+1) 43 (.int .i64 0)):=Lib.hid (by rw [←hW4];exact boxed_putObj hlo hoc H2A.out)
  have H34:Hid (Boxed W4 (w.heap.size+1+1+1) 2 (.int .i64 s)):=Lib.hid (by rw [←hW4];exact boxed_putObj hlo hoc H3A.out)
  have HB4:Hid (Below w.heap.size w W4):=Lib.hid (by
   rw [←hW4]
   exact (HBW.out.trans (HBA.out.mono HBW.out.size)).grown (grownBy_putObj' WA lp o') (by have:=HBW.out.size;have:=HBA.out.size;omega) (fun k e=>by cases e;have:=HB0.out.size;omega))
  have HX4:Hid (ElAt encC W4 W.heap.size 0 x):=Lib.hid (fun j v hj=>hW4 ▸ cell_putObj (o':=o') hlo hoc (HXB.out j v hj))
  rw [hW4]
  clear HXB HXA H0A H1A H2A H3A hlo hoc hW4 hWA HBA HSA
  obtain ⟨k0,k1,k2,k3,k4,k5,k6,k7⟩:=cf8 HX4.out
  simp only [Nat.zero_add] at k0 k1 k2 k3 k4 k5 k6 k7
  have HAM:=Lib.hid k5
  have c0:=H04.out.cell
  obtain ⟨b,hb⟩:∃ b,ad x=b:=⟨_,rfl⟩
  have HAD:=Lib.hid hb
  have HAC:=Lib.hid (HADD.out x W4)
  rw [hb] at HAC
  clear hb
  gi_wp2_with fail
  clear k0 k1 k2 k3 k4 k5 k6 k7 c0
  refine ⟨trivial,?_⟩
  refine (CallsIn.inRound lp (callsIn_wide.2 HAC.out)).mono ?_
  rintro e W5 ⟨rfl,hb5⟩
  have H05:=Lib.hid (boxed_below H04.out hb5)
  have H15:=Lib.hid (boxed_below H14.out hb5)
  have H25:=Lib.hid (boxed_below H24.out hb5)
  have H35:=Lib.hid (boxed_below H34.out hb5)
  have HAM5:Hid (W5.cell? ⟨W.heap.size,5,none⟩=some (.int .i64 x.f.amt)):=Lib.hid ((hb5.cell (p:=⟨W.heap.size,5,none⟩) (World.block_lt_of_cell? W4 _ HAM.out)).trans HAM.out)
  have HB5:Hid (Below w.heap.size w W5):=Lib.hid (HB4.out.trans (hb5.mono HB4.out.size))
  have hnn:n1≤W4.heap.size:=by have:=HB4.out.size;have:=HN1.out;omega
  have hhh:hi≤w.heap.size:=HHI.out
  have HKK:Hid (∀ v:Int,KeepsFrom W0.heap.size W4 (W5.setCell ⟨w.heap.size+1+1+1,0,none⟩ (.int .i64 v))):=Lib.hid fun v=>(keepsFrom_below _ hb5).trans (KeepsFrom.of_grownBy (grownBy_setCell' W5 (w.heap.size+1+1+1) (.int .i64 v)) (fun k e=>by cases e;have:=HS0.out;omega))
  have HKP:Hid (∀ v:Int,KpC n1 lo hi W4 (W5.setCell ⟨w.heap.size+1+1+1,0,none⟩ (.int .i64 v))):=Lib.hid fun v=>⟨(hb5.mono hnn).grown (grownBy_setCell' W5 (w.heap.size+1+1+1) (.int .i64 v)) (by have:=hb5.size;omega) (fun k e=>by cases e;have:=HN1.out;omega),fun k _ hk=>((grownBy_setCell' W5 (w.heap.size+1+1+1) (.int .i64 v)).block k (by have:=hb5.size;have:=HB4.out.size;omega) (by simp;omega)).trans (hb5.block k (by have:=HB4.out.size;omega))⟩
  have HBB:Hid (∀ v:Int,Below w.heap.size w (W5.setCell ⟨w.heap.size+1+1+1,0,none⟩ (.int .i64 v))):=Lib.hid fun v=>HB5.out.grown (grownBy_setCell' W5 (w.heap.size+1+1+1) (.int .i64 v)) HB5.out.size (fun k e=>by cases e;omega)
  have HKX:Hid (KeepsFrom W0.heap.size W4 ((W5.setCell ⟨w.heap.size+1,0,none⟩ (.int .i64 0)).setCell ⟨w.heap.size+1+1,0,none⟩ (.int .i64 2))):=Lib.hid (((keepsFrom_below _ hb5).trans (KeepsFrom.of_grownBy (grownBy_setCell' W5 (w.heap.size+1) (.int .i64 0)) (fun k e=>by cases e;have:=HS0.out;omega))).trans (KeepsFrom.of_grownBy (grownBy_setCell' _ (w.heap.size+1+1) (.int .i64 2)) (fun k e=>by cases e;have:=HS0.out;omega)))
  have HBX:Hid (Below w.heap.size w ((W5.setCell ⟨w.heap.size+1,0,none⟩ (.int .i64 0)).setCell ⟨w.heap.size+1+1,0,none⟩ (.int .i64 2))):=Lib.hid ((HB5.out.grown (grownBy_setCell' W5 (w.heap.size+1) (.int .i64 0)) HB5.out.size (fun k e=>by cases e;omega)).grown (grownBy_setCell' _ (w.heap.size+1+1) (.int .i64 2)) (by simpa using HB5.out.size) (fun k e=>by cases e;omega))
  clear hb5 hnn hhh HAM H04 H14 H24 H34 HX4 HAC
  cases b with
  | true =>
    have e0:stp s true x.f.amt=s+x.f.amt:=rfl
    have c5:=H05.out.cell
    have c3:=H35.out.cell
    have cx:=HAM5.out
    cases hf:fit (s+x.f.amt) with
    | true =>
      have HF:=Lib.hid hf
      have HNX:Hid (walkS 0 (sgs ad (pre++[x]))=(s+x.f.amt,0)):=Lib.hid (by rw [walkS_next HSP.out (by rw [HAD.out,e0];exact hf),HAD.out,e0])
      have f3:=H35.out.frozen
      obtain ⟨s2,hs2⟩:∃ s2,s+x.f.amt=s2:=⟨_,rfl⟩
      rw [hs2] at HNX
      have HIN2:Hid (In64 s2):=Lib.hid (by rw [←hs2];exact in64_of_fit hf)
      have HCO:Hid (Calls Tryz.prog 72 #[.int .i64 s,.int .i64 x.f.amt] W5 fun e w'=>e=.returned (.tuple #[.int .i64 s2,.int .i64 0])∧W5=w'):=Lib.hid (by
       have:=cadd_any s x.f.amt W5 HIN.out HINX.out
       rw [addV_yes HF.out,addE_yes HF.out,hs2] at this
       exact this)
      clear hf hs2 e0 HF
      gi_wp2_with (refine ⟨trivial,?_⟩;gi_at_call 72;refine (CallsIn.inRound lp (callsIn_wide.2 HCO.out)).mono ?_;rintro e w' ⟨rfl,rfl⟩)
      refine ⟨HKK.out s2,HKP.out s2,⟨s2,HNX.out,HIN2.out,H05.out.other (by omega) _,H15.out.other (by omega) _,H25.out.other (by omega) _,H35.out.set _⟩,HBB.out s2⟩
    | false =>
      have HF:=Lib.hid hf
      have HNX:Hid (R=(0,2)):=Lib.hid (by rw [←HRR.out,HALL.out];exact walkS_stops HSP.out (by rw [HAD.out,e0];exact hf))
      have c1:=H15.out.cell
      have f1:=H15.out.frozen
      have h25:=H25.out.other (B':=w.heap.size+1) (by omega) (.int .i64 0)
      have c2:=h25.cell
      have f2:=h25.frozen
      have HCO:Hid (Calls Tryz.prog 72 #[.int .i64 s,.int .i64 x.f.amt] W5 fun e w'=>e=.returned (.tuple #[.int .i64 0,.int .i64 2])∧W5=w'):=Lib.hid (by
       have:=cadd_any s x.f.amt W5 HIN.out HINX.out
       rw [addV_no HF.out,addE_no HF.out] at this
       exact this)
      have H16:Hid (Boxed ((W5.setCell ⟨w.heap.size+1,0,none⟩ (.int .i64 0)).setCell ⟨w.heap.size+1+1,0,none⟩ (.int .i64 2)) (w.heap.size+1) 2 (.int .i64 0)):=Lib.hid ((H15.out.set _).other (by omega) _)
      have H26:Hid (Boxed ((W5.setCell ⟨w.heap.size+1,0,none⟩ (.int .i64 0)).setCell ⟨w.heap.size+1+1,0,none⟩ (.int .i64 2)) (w.heap.size+1+1) 43 (.int .i64 2)):=Lib.hid (h25.set _)
      clear hf e0 HF h25
      gi_wp2_with (refine ⟨trivial,?_⟩;gi_at_call 72;refine (CallsIn.inRound lp (callsIn_wide.2 HCO.out)).mono ?_;rintro e w' ⟨rfl,rfl⟩)
      exact ⟨HKX.out,⟨⟨rfl,H16.out,H26.out⟩,HNX.out⟩,HBX.out⟩
  | false =>
    have e0:stp s false x.f.amt=s - x.f.amt:=rfl
    have c5:=H05.out.cell
    have c3:=H35.out.cell
    have cx:=HAM5.out
    cases hf:fit (s - x.f.amt) with
    | true =>
      have HF:=Lib.hid hf
      have HNX:Hid (walkS 0 (sgs ad (pre++[x]))=(s - x.f.amt,0)):=Lib.hid (by rw [walkS_next HSP.out (by rw [HAD.out,e0];exact hf),HAD.out,e0])
      have f3:=H35.out.frozen
      obtain ⟨s2,hs2⟩:∃ s2,s - x.f.amt=s2:=⟨_,rfl⟩
      rw [hs2] at HNX
      have HIN2:Hid (In64 s2):=Lib.hid (by rw [←hs2];exact in64_of_fit hf)
      have HCO:Hid (Calls Tryz.prog 71 #[.int .i64 s,.int .i64 x.f.amt] W5 fun e w'=>e=.returned (.tuple #[.int .i64 s2,.int .i64 0])∧W5=w'):=Lib.hid (by
       have:=sub_any s x.f.amt W5 HIN.out HINX.out
       rw [subV_yes HF.out,subE_yes HF.out,hs2] at this
       exact this)
      clear hf hs2 e0 HF
      gi_wp2_with (refine ⟨trivial,?_⟩;gi_at_call 71;refine (CallsIn.inRound lp (callsIn_wide.2 HCO.out)).mono ?_;rintro e w' ⟨rfl,rfl⟩)
      refine ⟨HKK.out s2,HKP.out s2,⟨s2,HNX.out,HIN2.out,H05.out.other (by omega) _,H15.out.other (by omega) _,H25.out.other (by omega) _,H35.out.set _⟩,HBB.out s2⟩
    | false =>
      have HF:=Lib.hid hf
      have HNX:Hid (R=(0,2)):=Lib.hid (by rw [←HRR.out,HALL.out];exact walkS_stops HSP.out (by rw [HAD.out,e0];exact hf))
      have c1:=H15.out.cell
      have f1:=H15.out.frozen
      have h25:=H25.out.other (B':=w.heap.size+1) (by omega) (.int .i64 0)
      have c2:=h25.cell
      have f2:=h25.frozen
      have HCO:Hid (Calls Tryz.prog 71 #[.int .i64 s,.int .i64 x.f.amt] W5 fun e w'=>e=.returned (.tuple #[.int .i64 0,.int .i64 2])∧W5=w'):=Lib.hid (by
       have:=sub_any s x.f.amt W5 HIN.out HINX.out
       rw [subV_no HF.out,subE_no HF.out] at this
       exact this)
      have H16:Hid (Boxed ((W5.setCell ⟨w.heap.size+1,0,none⟩ (.int .i64 0)).setCell ⟨w.heap.size+1+1,0,none⟩ (.int .i64 2)) (w.heap.size+1) 2 (.int .i64 0)):=Lib.hid ((H15.out.set _).other (by omega) _)
      have H26:Hid (Boxed ((W5.setCell ⟨w.heap.size+1,0,none⟩ (.int .i64 0)).setCell ⟨w.heap.size+1+1,0,none⟩ (.int .i64 2)) (w.heap.size+1+1) 43 (.int .i64 2)):=Lib.hid (h25.set _)
      clear hf e0 HF h25
      gi_wp2_with (refine ⟨trivial,?_⟩;gi_at_call 71;refine (CallsIn.inRound lp (callsIn_wide.2 HCO.out)).mono ?_;rintro e w' ⟨rfl,rfl⟩)
      exact ⟨HKX.out,⟨⟨rfl,H16.out,H26.out⟩,HNX.out⟩,HBX.out⟩
 ·rintro D xs W hD hxs ⟨⟨s,hsp,_,h0,h1,h2,h3⟩,hB⟩ hK
  rw [hxs,HRR.out] at hsp
  have HRS:=Lib.hid hsp
  have c3:=h3.cell
  have c1:=h1.cell
  have f1:=h1.frozen
  have h25:=h2.other (B':=w.heap.size+1) (by omega) (.int .i64 s)
  have c2:=h25.cell
  have f2:=h25.frozen
  obtain ⟨W5,hW5⟩:∃ W5,W.setCell ⟨w.heap.size+1,0,none⟩ (.int .i64 s)=W5:=⟨_,rfl⟩
  obtain ⟨W6,hW6⟩:∃ W6,W5.setCell ⟨w.heap.size+1+1,0,none⟩ (.int .i64 0)=W6:=⟨_,rfl⟩
  have b15:Boxed W5 (w.heap.size+1) 2 (.int .i64 s):=by rw [←hW5];exact h1.set _
  rw [hW5] at h25
  have b16:Boxed W6 (w.heap.size+1) 2 (.int .i64 s):=by rw [←hW6];exact b15.other (by omega) _
  have b26:Boxed W6 (w.heap.size+1+1) 43 (.int .i64 0):=by rw [←hW6];exact h25.set _
  have hD4:w.heap.size+4≤D:=by have:=HS0.out;omega
  have hK5:W5.heap[D]?=some (.deferred (some [])):=by rw [←hW5];exact ((grownBy_setCell' W (w.heap.size+1) (.int .i64 s)).block D (Array.getElem?_eq_some_iff.1 hK).1 (by simp;omega)).trans hK
  have hK6:W6.heap[D]?=some (.deferred (some [])):=by rw [←hW6];exact ((grownBy_setCell' W5 (w.heap.size+1+1) (.int .i64 0)).block D (Array.getElem?_eq_some_iff.1 hK5).1 (by simp;omega)).trans hK5
  have hB5:Below w.heap.size w W5:=by rw [←hW5];exact hB.grown (grownBy_setCell' W (w.heap.size+1) _) hB.size (fun k e=>by cases e;omega)
  have hB6:Below w.heap.size w W6:=by rw [←hW6];exact hB5.grown (grownBy_setCell' W5 (w.heap.size+1+1) _) hB5.size (fun k e=>by cases e;omega)
  have b17:=(boxed_putObj (o':=.deferred none) hK6 rfl b16).cell
  have b27:=(boxed_putObj (o':=.deferred none) hK6 rfl b26).cell
  have hB7:=hB6.grown (grownBy_putObj' W6 D (.deferred none)) hB6.size (fun k e=>by cases e;omega)
  have HK6:=Lib.hid hK6
  have HB7:=Lib.hid hB7
  have H17:=Lib.hid b17
  have H27:=Lib.hid b27
  clear b15 b16 b26 hK5 hK6 hB5 hB6 b17 b27 hB7 h25 hK hB h0 h1 h2 h3 hsp hD4
  rw [hW5] at c2 f2
  gi_wp2
  refine ⟨by simp,.inl ⟨_,_,rfl,run_takeDeferred HK6.out,?_⟩⟩
  have c17:=H17.out
  have c27:=H27.out
  refine ⟨.tuple #[.int .i64 s,.int .i64 0],by simp [results,Tryz.results47,go_sem,c17,c27],?_,HB7.out⟩
  rw [HRS.out]
 ·rintro D c pre W hD _ ⟨⟨⟨rfl,h1,h2⟩,h3⟩,hB⟩ hK
  have b17:=(boxed_putObj (o':=.deferred none) hK rfl h1).cell
  have b27:=(boxed_putObj (o':=.deferred none) hK rfl h2).cell
  have hB7:=hB.grown (grownBy_putObj' W D (.deferred none)) hB.size (fun k e=>by cases e;have:=HB0.out.size;omega)
  have HK6:=Lib.hid hK
  have HB7:=Lib.hid hB7
  have H17:=Lib.hid b17
  have H27:=Lib.hid b27
  clear b17 b27 hB7 hK h1 h2 hB
  gi_wp2
  refine ⟨by simp,.inl ⟨_,_,rfl,run_takeDeferred HK6.out,?_⟩⟩
  have c17:=H17.out
  have c27:=H27.out
  refine ⟨.tuple #[.int .i64 0,.int .i64 2],by simp [results,Tryz.results47,go_sem,c17,c27],?_,HB7.out⟩
  rw [h3]
end Go.Proofs.YtfhhihamndbcnaaGreatDoor.Co
end
section
namespace Go.Proofs.YtfhhihamndbcnaaGreatDoor.Co
open Go.RowKit Go.Shelf Go.Proofs.YtfhhihamndbcnaaGreatDoor.Un Go.Proofs.YtfhhihamndbcnaaGreatDoor.Fa Go.Proofs.YtfhhihamndbcnaaGreatDoor.Pk
def inFl (M:Mast) (e:ByteArray) (n:Int) (k:Key):Bool:=(decide (e=emp) || decide (k.e=e)) && memB k.f (Fl.ofF M.flows n)
theorem weigh_cfs (M:Mast) (hr:riseK Fl.Flow.code M.flows=true) (c:List Fact) (e:ByteArray) (n:Int):sgs (fun x=>x.c==0) (cfs M (inFl M e n) c)=weighL M c e n:=by
 unfold sgs cfs weighL
 rw [List.map_map]
 have e:(fun f:Fact=>inFl M e n f.key && cnt M f.key)=fun f=>inWeigh M e n f.key:=by
  funext f
  unfold inFl inWeigh
  cases hc:cnt M f.key with
  | false=>simp
  | true =>
    have hh:hasFl M f.key.f=true:=by unfold cnt at hc;simp only [Bool.and_eq_true] at hc;exact hc.2
    rw [Bool.and_true,Bool.true_and,Bool.and_comm]
    congr 1
    rw [Bool.eq_iff_iff,memB_iff,decide_eq_true_eq]
    exact kind_in hr hh n
 rw [e]
 exact List.map_congr_left fun f _=>rfl
theorem cfs_amt {M:Mast} {q:Key→Bool} {c:List Fact} (hz:∀ f∈c,In64 f.amt):∀ x∈cfs M q c,In64 x.f.amt:=by
 intro x hx
 unfold cfs at hx
 obtain ⟨f,hf,rfl⟩:=List.mem_map.1 hx
 exact hz f (List.mem_filter.1 hf).1
def Shaped (c f e l:Value):Prop:=∃ pc nc cc pf nf cf pe ne ce pl nl cl,c=.slice pc nc cc∧f=.slice pf nf cf∧e=.slice pe ne ce∧l=.slice pl nl cl
theorem shaped_of {w:World} {c f e l:Value} {M:Mast} (h:MastIn w c f e l M):Shaped c f e l:=by
 obtain ⟨pc,cc,pf,cf,pe,ce,pl,cl,rfl,rfl,rfl,rfl⟩:=shapes h
 exact ⟨_,_,_,_,_,_,_,_,_,_,_,_,rfl,rfl,rfl,rfl⟩
theorem emp_nil (e:ByteArray):decide (e=emp)=e.toList.isEmpty:=by
 rw [Bool.eq_iff_iff,decide_eq_true_eq,List.isEmpty_iff]
 have h0:emp.toList=[]:=by rw [ByteArray.toList_eq]
 exact ⟨fun h=>by rw [h,h0],fun h=>Go.Proofs.YtfhhihamndbcnaaGreatDoor.toList_inj (by rw [h,h0])⟩
set_option maxRecDepth 100000 in
set_option maxHeartbeats 2000000 in
theorem atWeigh_any (b1 b2:Nat) (M:Mast) (e:ByteArray) (n:Int) (v:Value) (k:Key) (W:World) (h1:W.cell? ⟨b1,0,none⟩=some (.string e)) (h2:W.cell? ⟨b2,0,none⟩=some v) (hv:StrsV W v (Fl.ofF M.flows n)) (hl:(Fl.ofF M.flows n).length≤1000) :
 Calls Tryz.prog 45 #[Fa.aggK k,.pointer (some ⟨b1,0,none⟩),.pointer (some ⟨b2,0,none⟩)] W fun en w'=>en=.returned (.bool (inFl M e n k))∧Below W.heap.size W w':=by
 have hb1:=(Below.refl W.heap.size W).alloc (Nat.le_refl _) (.cells #[.string k.e,.string k.a,.string k.f,.string k.p,.int .i64 k.m] 60)
 have hk1:=el_new Go.Proofs.YtfhhihamndbcnaaGreatDoor.Fa.encK W k 60
 obtain ⟨W1,hW1⟩:∃ W1,W.alloc (.cells #[.string k.e,.string k.a,.string k.f,.string k.p,.int .i64 k.m] 60)=W1:=⟨_,rfl⟩
 have hk2:ElAt Go.Proofs.YtfhhihamndbcnaaGreatDoor.Fa.encK W1 W.heap.size 0 k:=by rw [←hW1];exact hk1
 rw [hW1] at hb1
 obtain ⟨k0,k1,k2,k3,k4⟩:=key5 hk2
 simp only [Nat.zero_add] at k0 k1 k2 k3 k4
 have p1:=(hb1.cell (p:=⟨b1,0,none⟩) (World.block_lt_of_cell? W _ h1)).trans h1
 have p2:=(hb1.cell (p:=⟨b2,0,none⟩) (World.block_lt_of_cell? W _ h2)).trans h2
 have HCO:=Lib.hid (contains_any v (Fl.ofF M.flows n) k.f W1 (hv.keep hb1) hl)
 obtain ⟨b,hb⟩:∃ b,memB k.f (Fl.ofF M.flows n)=b:=⟨_,rfl⟩
 have HIN:Hid (inFl M e n k=((e.toList.isEmpty || (k.e.toList==e.toList)) && b)):=Lib.hid (by
  unfold inFl
  rw [hb,emp_nil]
  congr 2
  rw [Bool.eq_iff_iff,decide_eq_true_eq,beq_iff_eq]
  exact ⟨fun h=>by rw [h],fun h=>Go.Proofs.YtfhhihamndbcnaaGreatDoor.toList_inj h⟩)
 rw [hb] at HCO
 rw [HIN.out]
 have HB1:=Lib.hid hb1
 obtain ⟨p,c,rfl,_⟩:=hv
 clear hk1 hk2 hb1 hb h1 h2 hl
 cases he:e.toList.isEmpty with
 | true =>
   go_enter Tryz.func45,Tryz.ntmps45
   go_wp2_with (first | (go_at_call 46;refine HCO.out.mono ?_;rintro en w' ⟨rfl,rfl⟩) | fail)
   go_ret
   exact ⟨by simp,HB1.out⟩
 | false =>
   cases hk:(k.e.toList==e.toList) with
   | true =>
     go_enter Tryz.func45,Tryz.ntmps45
     go_wp2_with (first | (go_at_call 46;refine HCO.out.mono ?_;rintro en w' ⟨rfl,rfl⟩) | fail)
     go_ret
     exact ⟨by simp,HB1.out⟩
   | false =>
     go_enter Tryz.func45,Tryz.ntmps45
     go_wp2
     go_ret
     exact ⟨by simp,HB1.out⟩
set_option maxHeartbeats 1000000 in
theorem counting_any (c f e l:Value) (M:Mast) (p:Option Addr) (n cp:Nat) (g:Nat) (cb:Array Value) (w:World) (h:Shaped c f e l) :
 Calls Tryz.prog 48 #[aggM c f e l M,.slice p n cp,.func (.func g) #[] cb] w fun en w' =>
  en=.returned (.func (.func 73) #[] #[.pointer (some ⟨w.heap.size+1,0,none⟩),.pointer (some ⟨w.heap.size+1+1,0,none⟩),.pointer (some ⟨w.heap.size,0,none⟩)]) ∧
  w'=((w.alloc (.cells (cellsM c f e l M) 31)).alloc (.cells #[.slice p n cp] 42)).alloc (.cells #[.func (.func g) #[] cb] 112):=by
 obtain ⟨pc,nc,cc,pf,nf,cf,pe,ne,ce,pl,nl,cl,rfl,rfl,rfl,rfl⟩:=h
 go_enter Tryz.func48,Tryz.ntmps48
 go_wp2
 go_ret
 exact ⟨rfl,rfl⟩
theorem it_new {n1 lo:Nat} {w1 W2:World} {c f e l vc:Value} {M:Mast} {g:Nat} {cb:Array Value} (hb:Below n1 w1 W2) (hnn:n1≤W2.heap.size) {W3:World}
 (h3:W3=((W2.alloc (.cells (cellsM c f e l M) 31)).alloc (.cells #[vc] 42)).alloc (.cells #[.func (.func g) #[] cb] 112)) :
 ItAt n1 lo (W2.heap.size+3) w1 g cb (W2.heap.size+1) (W2.heap.size+1+1) W2.heap.size c f e l vc M W3∧W3.heap.size=W2.heap.size+3∧Below W2.heap.size W2 W3:=by
 have b1:=(Below.refl W2.heap.size W2).alloc (Nat.le_refl _) (.cells (cellsM c f e l M) 31)
 have b2:=b1.alloc b1.size (.cells #[vc] 42)
 have b3:=b2.alloc b2.size (.cells #[.func (.func g) #[] cb] 112)
 have hs:W3.heap.size=W2.heap.size+3:=by rw [h3];simp
 have hn:=nine_new W2 c f e l M 31
 obtain ⟨V1,hV1⟩:∃ V1,W2.alloc (.cells (cellsM c f e l M) 31)=V1:=⟨_,rfl⟩
 rw [hV1] at b1 b2 b3 hn h3
 have s1:V1.heap.size=W2.heap.size+1:=by rw [←hV1,World.size_alloc]
 have x2:=Boxed.new V1 42 vc
 obtain ⟨V2,hV2⟩:∃ V2,V1.alloc (.cells #[vc] 42)=V2:=⟨_,rfl⟩
 have d2:Below V1.heap.size V1 V2:=by rw [←hV2];exact (Below.refl _ V1).alloc (Nat.le_refl _) _
 rw [hV2] at b2 b3 h3 x2
 have s2:V2.heap.size=W2.heap.size+1+1:=by rw [←hV2,World.size_alloc,s1]
 have x3:=Boxed.new V2 112 (.func (.func g) #[] cb)
 have d3:Below V2.heap.size V2 W3:=by rw [h3];exact (Below.refl _ V2).alloc (Nat.le_refl _) _
 rw [←h3] at b3 x3
 rw [s1] at x2
 rw [s2] at x3
 exact ⟨⟨hb.trans (b3.mono hnn),by rw [hs];exact Nat.le_refl _,(boxed_below x2 d3).cell,x3.cell,(hn.kept d2).kept d3⟩,hs,b3⟩
theorem seqC {n1 lo hi:Nat} {w1:World} (hw1:w1.heap.size=n1) {g:Nat} {cb:Array Value} {bc ba bm:Nat} {c f e l vc:Value} {M:Mast} {L:List Fact} {q:Key→Bool} {W3:World}
 (hM:MastIn w1 c f e l M) (hr:riseK Fl.Flow.code M.flows=true) (hlf:M.flows.length≤1000) (hV:FactsV w1 vc L) (hL:L.length≤1000) (hI:Ins n1 lo hi bc ba bm) (hA:ItAt n1 lo hi w1 g cb bc ba bm c f e l vc M W3)
 (eg:∀ args w,(callFunc g args).run Tryz.prog w=.ok (.enter g args) w) (hq:∀ W,KpC n1 lo hi W3 W→∀ k,Calls Tryz.prog g (#[Fa.aggK k]++cb) W fun en w'=>en=.returned (.bool (q k))∧Below W.heap.size W w') :
 ∀ W,Below W3.heap.size W3 W→SeqTold Fence.wide 2 Tryz.prog 73 #[.pointer (some ⟨bc,0,none⟩),.pointer (some ⟨ba,0,none⟩),.pointer (some ⟨bm,0,none⟩)] encsC (KpC n1 lo hi) (RC (cfs M q L)) (fun xs=>xs=cfs M q L) (fun _=>True) W:=fun W hW=>by
 have hk:KpC n1 lo hi W3 W:=kpC_below hW hA.top (Nat.le_trans hI.n hA.top)
 exact iterC_told 2 (by decide) n1 lo hi w1 hw1 g cb bc ba bm c f e l vc M L q W hM hr hlf hV hL hI (hA.keep hI hk) eg (fun W' hk' k=>hq W' (kpC_trans hk hk') k)
theorem kpC_full {n hi:Nat} {W W':World} (h:KpC n n hi W W'):Below hi W W':=⟨h.1.os,h.1.tape,h.1.output,h.1.size,fun k hk=>by
 rcases Nat.lt_or_ge k n with h1 | h1
 ·exact h.1.block k h1
 ·exact h.2 k h1 hk⟩
set_option maxRecDepth 100000 in
set_option maxHeartbeats 4000000 in
theorem weigh_any (c f e l vc:Value) (M:Mast) (L:List Fact) (s:ByteArray) (kn:Int) (w:World) (hM:MastIn w c f e l M) (hr:riseK Fl.Flow.code M.flows=true) (hlf:M.flows.length≤1000) (hV:FactsV w vc L) (hL:L.length≤1000) (hz:∀ x∈L,In64 x.amt) :
 Calls Tryz.prog 24 #[aggM c f e l M,vc,.string s,.int .i64 kn] w fun en w'=>en=.returned (.tuple #[.int .i64 (weighP M L s kn).1,.int .i64 (weighP M L s kn).2])∧Below w.heap.size w w':=by
 obtain ⟨pv,cp,rfl,_⟩:=id hV
 obtain ⟨N,hN⟩:∃ N,L.length=N:=⟨_,rfl⟩
 have HSH:=Lib.hid (shaped_of hM)
 obtain ⟨pc,cc,pf,cf,pe,ce,pl,cl,rfl,rfl,rfl,rfl⟩:=shapes hM
 obtain ⟨W1,hW1⟩:∃ W1,w.alloc (.cells (cellsM (.slice pc M.chart.length cc) (.slice pf M.flows.length cf) (.slice pe M.ents.length ce) (.slice pl M.lines.length cl) M) 31)=W1:=⟨_,rfl⟩
 have hb1:Below w.heap.size w W1:=by rw [←hW1];exact (Below.refl _ w).alloc (Nat.le_refl _) _
 have hn1:NineAt W1 w.heap.size (.slice pc M.chart.length cc) (.slice pf M.flows.length cf) (.slice pe M.ents.length ce) (.slice pl M.lines.length cl) M:=by rw [←hW1];exact nine_new w _ _ _ _ M _
 have hs1:W1.heap.size=w.heap.size+1:=by rw [←hW1,World.size_alloc]
 obtain ⟨W2,hW2⟩:∃ W2,W1.alloc (.cells #[.string s] 9)=W2:=⟨_,rfl⟩
 have hb12:Below W1.heap.size W1 W2:=by rw [←hW2];exact (Below.refl _ W1).alloc (Nat.le_refl _) _
 have hs2:W2.heap.size=w.heap.size+1+1:=by rw [←hW2,World.size_alloc,hs1]
 have hp2:Boxed W2 W1.heap.size 9 (.string s):=by rw [←hW2];exact Boxed.new W1 _ _
 have HS1:=Lib.hid hs1
 have HB2:=Lib.hid (hb1.trans (hb12.mono hb1.size))
 have HN2:=Lib.hid (hn1.kept hb12)
 have HS2:=Lib.hid hs2
 have HP2:=Lib.hid hp2
 have HM:=Lib.hid hM
 have HR:=Lib.hid hr
 have HLF:=Lib.hid hlf
 have HV:=Lib.hid hV
 have HL:=Lib.hid hL
 have HZ:=Lib.hid (cfs_amt (M:=M) (q:=inFl M s kn) hz)
 have HNN:=Lib.hid hN
 have HG:=Lib.hid (weigh_cfs M hr L s kn)
 obtain ⟨R,hR⟩:∃ R,weighP M L s kn=R:=⟨_,rfl⟩
 have HRR:Hid (walkS 0 (sgs (fun x=>x.c==0) (cfs M (inFl M s kn) L))=R):=Lib.hid (by rw [HG.out];exact hR)
 have HOF:=Lib.hid (Fl.of_any (.slice pf M.flows.length cf) M.flows kn W2 ((hM.keep HB2.out).flows) hlf)
 have HLO:=Lib.hid (Nat.le_trans (Fl.ofF_len_le M.flows kn) hlf)
 rw [hR,hN]
 clear hR hz hL hV hlf hr hM hb1 hn1 hb12 hs1 hs2 hp2 hN HG
 obtain ⟨k0,k1,k2,k3,k4,k5,k6,k7,k8⟩:=HN2.out
 go_enter Tryz.func24,Tryz.ntmps24
 go_wp2_with fail
 clear k0 k1 k2 k3 k4 k5 k6 k7 k8 hW1 hW2
 refine HOF.out.mono ?_
 rintro en W3 ⟨v,rfl,hv,hb3⟩
 obtain ⟨p5,c5,rfl,_⟩:=id hv
 obtain ⟨nf,hnf⟩:∃ nf,(Fl.ofF M.flows kn).length=nf:=⟨_,rfl⟩
 rw [hnf] at hv HLO
 rw [hnf]
 have HSV:=Lib.hid hv
 have HNF:=Lib.hid hnf
 obtain ⟨W4,hW4⟩:∃ W4,W3.alloc (.cells #[.slice p5 nf c5] 102)=W4:=⟨_,rfl⟩
 have hb34:Below W3.heap.size W3 W4:=by rw [←hW4];exact (Below.refl _ W3).alloc (Nat.le_refl _) _
 have hs4:W4.heap.size=W3.heap.size+1:=by rw [←hW4,World.size_alloc]
 have x4:Boxed W4 W3.heap.size 102 (.slice p5 nf c5):=by rw [←hW4];exact Boxed.new W3 _ _
 have hb24:Below W2.heap.size W2 W4:=hb3.trans (hb34.mono hb3.size)
 have HB24:=Lib.hid hb24
 have HB4:=Lib.hid (HB2.out.trans (hb24.mono HB2.out.size))
 have HS4:=Lib.hid hs4
 have HSZ:=Lib.hid hb3.size
 have HX4:=Lib.hid x4
 have HE4:=Lib.hid (boxed_below HP2.out hb24)
 have HV4:=Lib.hid (hv.keep hb34)
 have HN4:=Lib.hid (HN2.out.kept hb24)
 clear hv hnf hb3 hb34 hs4 x4 hb24 HSV HP2 HOF
 obtain ⟨k0,k1,k2,k3,k4,k5,k6,k7,k8⟩:=HN4.out
 go_wp2_with fail
 clear k0 k1 k2 k3 k4 k5 k6 k7 k8 hW4
 refine (counting_any _ _ _ _ M _ _ _ _ _ _ HSH.out).mono ?_
 rintro en W5 ⟨rfl,h5⟩
 obtain ⟨hA,hs5,hb45⟩:=it_new (lo:=w.heap.size) HB4.out HB4.out.size h5
 have HI:Ins w.heap.size w.heap.size (W4.heap.size+3) (W4.heap.size+1) (W4.heap.size+1+1) W4.heap.size:=by
  have:=HB4.out.size
  exact ⟨by omega,by omega,by omega,by omega,by omega,by omega,by omega⟩
 have e5:=boxed_below HE4.out hb45
 have f5:=boxed_below HX4.out hb45
 have v5:=HV4.out.keep hb45
 have hq:∀ W,KpC w.heap.size w.heap.size (W4.heap.size+3) W5 W→∀ k,Calls Tryz.prog 45 (#[Fa.aggK k]++#[.pointer (some ⟨W1.heap.size,0,none⟩),.pointer (some ⟨W3.heap.size,0,none⟩)]) W fun en w'=>en=.returned (.bool (inFl M s kn k))∧Below W.heap.size W w':=fun W hk k=>by
  rw [List.append_toArray]
  have hf:Below W5.heap.size W5 W:=by rw [hs5];exact kpC_full hk
  exact atWeigh_any W1.heap.size W3.heap.size M s kn (.slice p5 nf c5) k W (boxed_below e5 hf).cell (boxed_below f5 hf).cell (v5.keep hf) (by rw [HNF.out];exact HLO.out)
 rw [←HNN.out] at hA
 have hseq:=seqC (n1:=w.heap.size) (lo:=w.heap.size) (hi:=W4.heap.size+3) (w1:=w) (g:=45) (cb:=#[.pointer (some ⟨W1.heap.size,0,none⟩),.pointer (some ⟨W3.heap.size,0,none⟩)]) (q:=inFl M s kn) rfl HM.out HR.out HLF.out HV.out HL.out HI hA (enters_of Tryz.func45 (by kernel_rfl) rfl) hq
 clear hq
 have HTO:=Lib.hid (total_any w.heap.size w.heap.size (W4.heap.size+3) 73 _ 49 (fun x=>x.c==0) (cfs M (inFl M s kn) L) W5 (by rw [hs5];exact Nat.le_refl _) (by rw [hs5];have:=HB4.out.size;omega) HZ.out (enters_of Tryz.func73 (by kernel_rfl) rfl) (enters_of Tryz.func49 (by kernel_rfl) rfl) isAsset_any hseq)
 rw [HRR.out] at HTO
 have HB5:=Lib.hid (HB4.out.trans (hb45.mono HB4.out.size))
 clear h5 hA hs5 hb45 HI hseq e5 f5 v5
 go_wp2_with fail
 refine HTO.out.mono ?_
 rintro en w6 ⟨rfl,hb6⟩
 have HB6:=Lib.hid (HB5.out.trans (hb6.mono HB5.out.size))
 clear hb6
 go_wp2
 go_ret2
 exact ⟨rfl,HB6.out⟩
end Go.Proofs.YtfhhihamndbcnaaGreatDoor.Co
end
