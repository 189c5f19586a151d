/- CoPlain CoDoc CoFacts CoGiven CoDocPlaces ControlFixed -/
import Derived.Test.YtdhfpgjnjlcciaaGreatDoorQ37
import Derived.Test.YtdhfpgjnjlcciaaGreatDoorQ38
import Derived.Test.YtdhfpgjnjlcciaaGreatDoorQ39
import Derived.Test.YtdhfpgjnjlcciaaGreatDoorQ40
section
namespace Go.Proofs.YtdhfpgjnjlcciaaGreatDoor.Co
open Go.RowKit Go.Proofs.YtdhfpgjnjlcciaaGreatDoor.Un Go.Proofs.YtdhfpgjnjlcciaaGreatDoor.Fa Go.Proofs.YtdhfpgjnjlcciaaGreatDoor.Pk
theorem za7 (c:List Fact):(places c).Nodup:=xX (j9 _)
theorem zfE {M:Mast} {c:List Fact} {p:Key} (h:p ∉ places c):gapP M c p=(0,0):=by
 have:gapL M c p=[]:=by
  unfold gapL
  rw [List.map_eq_nil_iff,List.filter_eq_nil_iff]
  intro f hf hg
  unfold inGap at hg
  simp only [Bool.and_eq_true,decide_eq_true_eq] at hg
  exact h (vm.2 ⟨f,hf,hg.2⟩)
 unfold gapP
 rw [this];rfl
end Go.Proofs.YtdhfpgjnjlcciaaGreatDoor.Co
end
section
namespace Go.Proofs.YtdhfpgjnjlcciaaGreatDoor.Co
open Go.RowKit Go.Proofs.YtdhfpgjnjlcciaaGreatDoor.Un Go.Proofs.YtdhfpgjnjlcciaaGreatDoor.Fa Go.Proofs.YtdhfpgjnjlcciaaGreatDoor.Pk
theorem zhk (a b:Key) (w:World):Sem.run Tryz.prog (binOp .eql 53 (aggP a) (aggP b)) w=.ok (.bool (eqP a b)) w:=by
 simp only [binOp,Op.equal,Op.maxDepth]
 simp [Xz a b w]
end Go.Proofs.YtdhfpgjnjlcciaaGreatDoor.Co
end
section
namespace Go.Proofs.YtdhfpgjnjlcciaaGreatDoor.Co
open Go.RowKit Go.Proofs.YtdhfpgjnjlcciaaGreatDoor.Un Go.Proofs.YtdhfpgjnjlcciaaGreatDoor.Fa Go.Proofs.YtdhfpgjnjlcciaaGreatDoor.Pk
theorem zhF {M:Mast} {c:List Fact} {lim:Int} (h:(fixP M c lim).2≠0):(fixP M c lim).1=[]:=by
 unfold fixP at h ⊢
 split
 ·rfl
 ·rename_i h0
  rw [if_neg h0] at h
  split
  ·rename_i h1
   rw [if_pos h1] at h
   rcases Zu (c++(fixGo M c lim (places c)).1) with e | e
   ·rw [e] at h;exact absurd rfl h
   ·rw [e]
  ·rfl
theorem Yk {M:Mast} (hr:riseK Fl.Flow.code M.flows=true) {c:ByteArray} (h:moveF M=some c):hasFl M c=true∧kindF M c=1:=by
 have hc:c∈Fl.ofF M.flows 1:=by
  unfold moveF at h
  cases hl:Fl.ofF M.flows 1 with
  | nil=>rw [hl] at h;cases h
  | cons a r=>rw [hl] at h;cases h;exact List.mem_cons_self
 obtain ⟨_,_,f,h1,h2⟩:=Fl.XV hr hc
 unfold hasFl kindF
 rw [h1]
 exact ⟨rfl,h2⟩
theorem X3 {M:Mast} {c:List Fact} {p:Key} (h:(gapP M c p).1≠0):hasA M.chart p.a=true:=by
 rcases Classical.em (gapL M c p=[]) with e | e
 ·unfold gapP at h;rw [e] at h;exact absurd rfl h
 ·unfold gapL at e
  rw [List.map_eq_nil_iff,List.filter_eq_nil_iff] at e
  apply Classical.byContradiction
  intro hn
  refine e fun f _ hg=>hn ?_
  unfold inGap cnt at hg
  simp only [Bool.and_eq_true,decide_eq_true_eq] at hg
  rw [←hg.2]
  exact hg.1.1
theorem KT {α:Type} (b:α→Bool) (u:α→Int):∀ (K:List α),((K.filter b).map u).sum=(K.map fun x=>if b x=true then u x else 0).sum
 | []=>rfl
 | x::K=>by
   rw [List.filter_cons,List.map_cons,List.sum_cons,←KT b u K]
   cases b x <;> simp
theorem zaM {M:Mast} (hr:riseK Fl.Flow.code M.flows=true) {c d:List Fact} {lim:Int} (h:fixP M c lim=(d,0)) (q:Key):gapP M d q=(0,2)∨gapP M d q=(0,0):=by
 obtain ⟨_,h1,h2⟩:=vP h
 obtain ⟨hd,e⟩:=kH h2
 obtain ⟨h3,h4⟩:=y7 h1
 by_cases hq:q∈places d
 ·rcases x7 M d q with ⟨g1,g2⟩ | g1
  ·right
   refine Prod.ext ?_ g1
   rw [g2,Jb,e,QO,J5]
   have hqc:q∈places c:=by
    obtain ⟨f,hf,ef⟩:=vm.1 hq
    rw [e] at hf
    obtain ⟨x,hx,ex⟩:=Jl hf
    rcases List.mem_append.1 hx with hx | hx
    ·exact vm.2 ⟨x,hx,by rw [ex];exact ef⟩
    ·rw [h4] at hx
     obtain ⟨p,hp,e2⟩:=List.mem_map.1 hx
     have hp1:=(List.mem_filter.1 hp).1
     rw [←ef,←ex,←e2]
     show (⟨p.e,p.a,emp,p.p,0⟩:Key)∈_
     have:=vY hp1
     rw [show (⟨p.e,p.a,emp,p.p,0⟩:Key)=plc p from rfl,this]
     exact hp1
   obtain ⟨g3,g4⟩:=h3 q hqc
   have hgc:lin (gapG M q) c=(gapP M c q).1:=by
    rcases x7 M c q with ⟨_,g⟩ | g
    ·rw [g,Jb]
    ·rw [g] at g3;cases g3
   rw [hgc,h4]
   show (gapP M c q).1+lin (gapG M q) _=0
   have hm:lin (gapG M q) (((places c).filter fun p=>decide ((gapP M c p).1≠0)).map fun p=>fixF ((moveF M).getD emp) p (gapP M c p).1)=-(gapP M c q).1:=by
    unfold lin
    rw [List.map_map,KT]
    have ee:∀ p∈places c,(if decide ((gapP M c p).1≠0)=true then ((fun f:Fact=>gapG M q f.key * f.amt) ∘ fun p=>fixF ((moveF M).getD emp) p (gapP M c p).1) p else 0)=if q=p then -(gapP M c p).1 else 0:=by
     intro p hp
     have hpp:=vY hp
     by_cases hz:(gapP M c p).1=0
     ·rw [if_neg (by simp [hz])]
      split
      ·omega
      ·rfl
     ·rw [if_pos (by simp [hz])]
      have ha:=X3 hz
      obtain ⟨hmv,_⟩:=(h3 p hp).2 hz
      obtain ⟨mc,hmc⟩:=Option.ne_none_iff_exists'.1 hmv
      obtain ⟨m1,m2⟩:=Yk hr hmc
      show gapG M q ⟨p.e,p.a,(moveF M).getD emp,p.p,1⟩ * (gapP M c p).1=_
      rw [hmc]
      show gapG M q ⟨p.e,p.a,mc,p.p,1⟩ * (gapP M c p).1=_
      unfold gapG inGap cnt
      rw [show plc ⟨p.e,p.a,mc,p.p,1⟩=p from hpp]
      simp only [ha,m1,m2,Bool.true_and,decide_eq_true_eq]
      by_cases hpq:p=q
      ·subst hpq;simp
      ·rw [if_neg hpq,if_neg (fun e=>hpq e.symm)];simp
    rw [List.map_congr_left ee,Ja (fun p=>-(gapP M c p).1) q _ (za7 c) hqc]
   rw [hm]
   omega
  ·exact .inl g1
 ·exact .inr (zfE hq)
theorem zh6 {M:Mast} (hr:riseK Fl.Flow.code M.flows=true) {c d:List Fact} {lim:Int} (hc:IsCube c) (h:fixP M c lim=(d,0)) (u:Key→Bool) (hu:∀ k,u k=true→kindF M k.f≠1) :
 (d.filter fun f=>u f.key)=c.filter fun f=>u f.key:=by
 obtain ⟨_,h1,h2⟩:=vP h
 obtain ⟨hd,e⟩:=kH h2
 obtain ⟨h3,h4⟩:=y7 h1
 refine JU (hd.rise.filter _) (hc.rise.filter _) fun f=>?_
 rw [List.mem_filter,List.mem_filter]
 refine and_congr_left fun hf=>?_
 have hk:=hu _ hf
 have hz:isum (fixGo M c lim (places c)).1 f.key=0:=by
  apply Yi
  rw [mem_keys]
  rintro ⟨x,hx,ex⟩
  rw [h4] at hx
  obtain ⟨p,hp,e2⟩:=List.mem_map.1 hx
  obtain ⟨hp1,hp2⟩:=List.mem_filter.1 hp
  obtain ⟨hmv,_⟩:=(h3 p hp1).2 (of_decide_eq_true hp2)
  obtain ⟨mc,hmc⟩:=Option.ne_none_iff_exists'.1 hmv
  apply hk
  rw [←ex,←e2]
  show kindF M ((moveF M).getD emp)=1
  rw [hmc]
  exact (Yk hr hmc).2
 rw [e,jB,Qn,hz,Int.add_zero,←jB,Qk hc.rise hc.nz]
theorem KU {M:Mast} (hr:riseK Fl.Flow.code M.flows=true) {c d:List Fact} {lim:Int} (hc:IsCube c) (h:fixP M c lim=(d,0)) (e:ByteArray) {n:Int} (hn:n≠1):weighP M d e n=weighP M c e n:=by
 unfold weighP weighL
 rw [zh6 hr hc h (ql M e n) fun k hk=>by
  unfold ql at hk
  simp only [Bool.and_eq_true,decide_eq_true_eq] at hk
  rw [hk.1.2];exact hn]
end Go.Proofs.YtdhfpgjnjlcciaaGreatDoor.Co
end
section
namespace Go.Proofs.YtdhfpgjnjlcciaaGreatDoor.Co
open Go.RowKit Go.Proofs.YtdhfpgjnjlcciaaGreatDoor.Un Go.Proofs.YtdhfpgjnjlcciaaGreatDoor.Fa Go.Proofs.YtdhfpgjnjlcciaaGreatDoor.Pk
theorem VW {M:Mast} (hr:riseK Fl.Flow.code M.flows=true) {c:List Fact} {lim:Int}:∀ (l:List Key),∀ f∈(fixGo M c lim l).1,cnt M f.key=true
 | [],f,h=>by cases h
 | p::r,f,h=>by
   have ih:=VW hr (c:=c) (lim:=lim) r f
   unfold fixGo at h
   split at h
   ·cases h
   ·split at h
    ·exact ih h
    ·split at h
     ·cases h
     ·rename_i h1 h2 h3
      split at h
      ·rcases List.mem_cons.1 h with e | h
       ·subst e
        have ha:=X3 (M:=M) (c:=c) (p:=p) h2
        have hm:moveF M≠none:=fun e=>h3 (.inr (.inr e))
        obtain ⟨mv,hmv⟩:=Option.ne_none_iff_exists'.1 hm
        have hk:=(Yk hr hmv).1
        unfold cnt fixF
        dsimp only
        rw [hmv,ha]
        exact hk
       ·exact ih h
      ·cases h
theorem Parsed.fixed {M:Mast} {c D:List Fact} {lim:Int} (h:Parsed M c) (hr:riseK Fl.Flow.code M.flows=true) (hf:fixP M c lim=(D,0)):IsCube D∧AllC M D∧D.length≤800:=by
 obtain ⟨h1,h2,h3⟩:=vP hf
 obtain ⟨hc,_⟩:=kH h3
 have hl:=Fa.y6 (c++(fixGo M c lim (places c)).1)
 have hg:=Ze M c lim (places c)
 have hp:(places c).length≤c.length:=by unfold places;refine Nat.le_trans (Fa.yp _) ?_;rw [List.length_map];exact Nat.le_refl _
 have hle:=h.len
 rw [h3,List.length_append] at hl
 refine ⟨hc,?_,by simp only at hl;omega⟩
 have ha:AllC M (ofL (c++(fixGo M c lim (places c)).1)).1:=Vw fun f hf'=>by
  rcases List.mem_append.1 hf' with hm | hm
  ·exact h.all f hm
  ·exact VW hr (places c) f hm
 rw [h3] at ha
 exact ha
theorem zjl {M:Mast} (h:allE M=0):0 < M.flows.length:=by
 obtain ⟨_,_,_,hw,_⟩:=JS h
 cases hf:M.flows with
 | nil=>rw [hf] at hw;exact absurd hw (by decide)
 | cons a r=>simp
end Go.Proofs.YtdhfpgjnjlcciaaGreatDoor.Co
end
section
namespace Go.Proofs.YtdhfpgjnjlcciaaGreatDoor.Co
open Go.RowKit Go.Proofs.YtdhfpgjnjlcciaaGreatDoor.Un Go.Proofs.YtdhfpgjnjlcciaaGreatDoor.Fa Go.Proofs.YtdhfpgjnjlcciaaGreatDoor.Pk
def befB (a b:Key):Bool:=if a.e.toList≠b.e.toList then Op.bytesLess a.e.toList b.e.toList else if a.a.toList≠b.a.toList then Op.bytesLess a.a.toList b.a.toList else Op.bytesLess a.p.toList b.p.toList
theorem QY (x y:ByteArray):Op.bytesLess x.toList y.toList=decide (Fa.cmpB x y < 0):=by
 rw [Fa.kU,ByteArray.toList_eq,ByteArray.toList_eq];rfl
theorem Z9 {x y:ByteArray}:x.toList≠y.toList ↔ Fa.cmpB x y≠0:=by
 rw [ne_eq,ne_eq,yw.eq0]
 exact ⟨fun h e=>h (by rw [e]),fun h e=>h (Fa.toList_inj e)⟩
theorem zdc (a b:Key):befB a b=decide (ltK (plc a) (plc b)):=by
 have h:ltK (plc a) (plc b) ↔ cmpP a b < 0:=by unfold ltK;rw [vL]
 rw [Bool.eq_iff_iff,decide_eq_true_eq,h]
 unfold befB cmpP
 simp only [orL]
 by_cases h1:a.e.toList≠b.e.toList
 ·rw [if_pos h1,if_neg (Z9.1 h1),QY,decide_eq_true_eq]
 ·rw [if_neg h1,if_pos (Decidable.not_not.1 fun h=>h1 (Z9.2 h))]
  by_cases h2:a.a.toList≠b.a.toList
  ·rw [if_pos h2,if_neg (Z9.1 h2),QY,decide_eq_true_eq]
  ·rw [if_neg h2,if_pos (Decidable.not_not.1 fun h=>h2 (Z9.2 h)),QY,decide_eq_true_eq]
   split
   ·rename_i e;rw [e]
   ·exact Iff.rfl
theorem zhi (l:List Fact) (x:Fact):places (l++[x])=insU (places l) (plc x.key):=by
 unfold places keysL yb
 rw [List.map_append,List.foldl_append]
 rfl
theorem zee (l:List Fact):(places l).length≤l.length:=by
 unfold places
 refine Nat.le_trans (yp _) ?_
 rw [List.length_map];exact Nat.le_refl _
theorem zg8 {o p:Key} {r:List Key} (h:p=o):insU (o::r) p=o::r:=by rw [insU,if_pos h]
theorem zdd {o p:Key} {r:List Key} (h:p≠o) (h2:ltK p o):insU (o::r) p=p::o::r:=by rw [insU,if_neg h,if_pos h2]
theorem ziB {o p:Key} {r:List Key} (h:p≠o) (h2:¬ ltK p o):insU (o::r) p=o::insU r p:=by rw [insU,if_neg h,if_neg h2]
def InvP (out:List Key) (p:Key) (k:Nat) (dn:Bool) (nx:List Key):Prop:=(if dn=true then nx++out.drop k else nx++insU (out.drop k) p)=insU out p
set_option maxRecDepth 100000 in
set_option maxHeartbeats 4000000 in
theorem zix (a b:Key) (w:World):Calls Tryz.prog 54 #[aggP a,aggP b] w fun e w'=>e=.returned (.bool (befB a b))∧Below w.heap.size w w':=by
 obtain ⟨W1,hW1⟩:∃ W1,w.alloc (.cells #[.string a.e,.string a.a,.string a.p] 53)=W1:=⟨_,rfl⟩
 have hb1:Below w.heap.size w W1:=by rw [←hW1];exact (Below.refl _ w).alloc (Nat.le_refl _) _
 have ha1:ElAt encP W1 w.heap.size 0 a:=by rw [←hW1];exact zf encP w a _
 have hs1:W1.heap.size=w.heap.size+1:=by rw [←hW1,World.size_alloc]
 obtain ⟨W2,hW2⟩:∃ W2,W1.alloc (.cells #[.string b.e,.string b.a,.string b.p] 53)=W2:=⟨_,rfl⟩
 have hb12:Below W1.heap.size W1 W2:=by rw [←hW2];exact (Below.refl _ W1).alloc (Nat.le_refl _) _
 have hb2:ElAt encP W2 W1.heap.size 0 b:=by rw [←hW2];exact zf encP W1 b _
 obtain ⟨a0,a1,a2⟩:=place3 (ha1.keep hb12 ha1.lt)
 obtain ⟨b0,b1,b2⟩:=place3 hb2
 simp only [Nat.zero_add] at a0 a1 a2 b0 b1 b2
 have HB:=Lib.hid (hb1.trans (hb12.mono hb1.size))
 clear hb1 ha1 hs1 hb12 hb2
 cases h1:(a.e.toList==b.e.toList) with
 | false =>
   have HR:Hid (befB a b=Op.bytesLess a.e.toList b.e.toList):=Lib.hid (by unfold befB;rw [if_pos (by simpa using h1)])
   go_enter Tryz.func54,Tryz.ntmps54
   go_wp2
   go_ret
   exact ⟨by rw [HR.out];rfl,HB.out⟩
 | true =>
   cases h2:(a.a.toList==b.a.toList) with
   | false =>
     have HR:Hid (befB a b=Op.bytesLess a.a.toList b.a.toList):=Lib.hid (by unfold befB;rw [if_neg (by simpa using h1),if_pos (by simpa using h2)])
     go_enter Tryz.func54,Tryz.ntmps54
     go_wp2
     go_ret
     exact ⟨by rw [HR.out];rfl,HB.out⟩
   | true =>
     have HR:Hid (befB a b=Op.bytesLess a.p.toList b.p.toList):=Lib.hid (by unfold befB;rw [if_neg (by simpa using h1),if_neg (by simpa using h2)])
     go_enter Tryz.func54,Tryz.ntmps54
     go_wp2
     go_ret
     exact ⟨by rw [HR.out];rfl,HB.out⟩
theorem infoR:InfoE Tryz.prog 70 53 encP:=.of (z:=.agg #[.string ⟨#[]⟩,.string ⟨#[]⟩,.string ⟨#[]⟩]) (n:=48) Tryz.underlying70 (by kernel_rfl) rfl (by decide)
theorem zcp {out:List Key} {p:Key} {k:Nat} {o:Key} {dn:Bool} {nx:List Key} (h:InvP out p k dn nx) (hd:out.drop k=o::out.drop (k+1)):(dn=true→InvP out p (k+1) true (nx++[o]))∧(p=o→InvP out p (k+1) true (nx++[o]))∧(dn=false→p≠o→ltK p o→InvP out p (k+1) true (nx++[p]++[o]))∧(dn=false→p≠o→¬ ltK p o→InvP out p (k+1) false (nx++[o])):=by
 unfold InvP at h ⊢
 rw [hd] at h
 refine ⟨fun e=>?_,fun e=>?_,fun e h1 h2=>?_,fun e h1 h2=>?_⟩
 ·rw [if_pos e] at h
  rw [if_pos rfl,←h,List.append_assoc];rfl
 ·rw [if_pos rfl,←h]
  split
  ·rw [List.append_assoc];rfl
  ·rw [zg8 e,List.append_assoc];rfl
 ·rw [if_neg (by rw [e];simp),zdd h1 h2] at h
  rw [if_pos rfl,←h,List.append_assoc,List.append_assoc];rfl
 ·rw [if_neg (by rw [e];simp),ziB h1 h2] at h
  rw [if_neg (by simp),←h,List.append_assoc];rfl
theorem zeC {l:List Fact} {p:Key} (h:p∈places l):plc p=p:=vY h
set_option maxRecDepth 100000 in
set_option maxHeartbeats 16000000 in
theorem zfO (vc:Value) (L:List Fact) (w:World) (hV:FactsV w vc L) (hL:L.length≤1000) :
 Calls Tryz.prog 25 #[vc] w fun en w'=>∃ v,en=.returned v∧jM w' v (places L)∧Below w.heap.size w w':=by
 obtain ⟨pv,cp,rfl,hcap,hmx,_,hcl⟩:=id hV
 obtain ⟨n,hn⟩:∃ n,L.length=n:=⟨_,rfl⟩
 have HNN:=Lib.hid hn
 have HV:=Lib.hid hV
 rw [hn]
 rw [hn] at hcap hL HV
 unfold maxLen at hmx
 clear hcl hn hV
 go_enter Tryz.func25,Tryz.ntmps25
 go_wp2
 go_loopw [3,4] (fun s3 s4 wr=>∃ i:Nat,s4=.int .i64 (i:Int)∧i≤n∧Hid (jM wr s3 (places (L.take i)))∧Hid (Below w.heap.size w wr)) (fun _ s4 _=>n - (intOf s4).toNat)
 case atStart=>exact ⟨0,rfl,Nat.zero_le _,Lib.hid (ElsV.nil _),Lib.hid (Below.refl _ _)⟩
 case round =>
  obtain ⟨i,rfl,hi,HPV,HBR⟩:=hrel
  by_cases hlt:i < n
  ·obtain ⟨x,hx⟩:∃ x,L[i]?=some x:=⟨_,List.getElem?_eq_getElem (by rw [HNN.out];exact hlt)⟩
   have HTK:Hid (places (L.take (i+1))=insU (places (L.take i)) (plc x.key)):=Lib.hid (by rw [List.take_add_one,hx];exact zhi _ _)
   obtain ⟨b,o',e',hat⟩:=ElsV.at_ HV.out hx
   cases e'
   obtain ⟨f0,f1,f2,f3,f4,f5⟩:=fact6 (hat.keep HBR.out hat.lt)
   simp only [show encF.k=6 from rfl] at f0 f1 f2 f3 f4 f5
   obtain ⟨out,hout⟩:∃ out,places (L.take i)=out:=⟨_,rfl⟩
   have HOL:Hid (out.length≤1000):=Lib.hid (by rw [←hout];have:=zee (L.take i);rw [List.length_take] at this;omega)
   have HOP:Hid (∀ q∈out,plc q=q):=Lib.hid fun q hq=>by rw [←hout] at hq;exact zeC hq
   rw [hout] at HPV HTK
   obtain ⟨p,hp⟩:∃ p,plc x.key=p:=⟨_,rfl⟩
   have HPP:Hid (plc p=p):=Lib.hid (by rw [←hp];rfl)
   have HOF:Hid (∀ W,Calls Tryz.prog 37 #[Fa.aggF x] W fun e w'=>e=.returned (aggP p)∧Below W.heap.size W w'):=Lib.hid fun W=>by
    have:=jX x W
    rw [show aggP x.key=aggP p by rw [←hp];rfl] at this
    exact this
   rw [hp] at HTK
   obtain ⟨m,hm⟩:∃ m,out.length=m:=⟨_,rfl⟩
   have HMM:=Lib.hid hm
   obtain ⟨po,co,e1,hoc,hom,_,_⟩:=id HPV.out
   rw [hm] at e1 hoc HOL
   subst e1
   have hol:=HOL.out
   unfold maxLen at hom
   clear hx hat hout hp hm
   go_wp2_with fail
   refine (HOF.out _).mono ?_
   rintro en w3 ⟨rfl,hb3⟩
   have hb34:Below w3.heap.size w3 (w3.alloc (.cells #[.string p.e,.string p.a,.string p.p] 53)):=(Below.refl _ w3).alloc (Nat.le_refl _) _
   have HPC0:=Lib.hid (zf encP w3 p 53)
   have HBR4:=Lib.hid (HBR.out.trans ((hb3.trans (hb34.mono hb3.size)).mono HBR.out.size))
   have HPV4:=Lib.hid ((HPV.out.keep hb3).keep hb34)
   clear hb3 hb34 f0 f1 f2 f3 f4 f5 HOF
   go_wp2_with fail
   obtain ⟨W4,hW4⟩:∃ W4,w3.alloc (.cells #[.string p.e,.string p.a,.string p.p] 53)=W4:=⟨_,rfl⟩
   rw [hW4]
   have HPC:Hid (ElAt encP W4 w3.heap.size 0 p):=Lib.hid (by rw [←hW4];exact HPC0.out)
   have HB4:Hid (Below w.heap.size w W4):=Lib.hid (by rw [←hW4];exact HBR4.out)
   have HPV5:Hid (jM W4 (.slice po m co) out):=Lib.hid (by rw [←hW4];exact HPV4.out)
   clear hW4 HPC0 HBR4 HPV4 HPV
   go_loopw [6,7,8] (fun s6 s7 s8 wr2=>∃ (k:Nat) (dn:Bool) (nx:List Key),s8=.int .i64 (k:Int)∧s7=.bool dn∧k≤m∧nx.length≤k+dn.toNat∧Hid (wr2.ownsRow W4.heap.size 53 3 s6 nx.length (flat encP nx))∧Hid (InvP out p k dn nx)∧Hid (Below W4.heap.size W4 wr2)) (fun _ _ s8 _=>m - (intOf s8).toNat)
   case atStart=>exact ⟨0,false,[],rfl,rfl,Nat.zero_le _,Nat.zero_le _,World.ownsRow_nil _ _ _ _,Lib.hid (by unfold InvP;rw [if_neg (by simp)];rfl),Lib.hid (Below.refl _ _)⟩
   case round =>
    obtain ⟨k,dn,nx,rfl,rfl,hk,hnl,HRO,HIN,HBI⟩:=hrel
    rename World=>wr2
    have hdn:dn.toNat≤1:=by cases dn <;> decide
    have hnk:nx.length≤k+1:=by omega
    have hnf:dn=false→nx.length≤k:=fun e=>by rw [e] at hnl;simpa using hnl
    clear hdn hnl
    by_cases hkm:k < m
    ·obtain ⟨o,ho⟩:∃ o,out[k]?=some o:=⟨_,List.getElem?_eq_getElem (by rw [HMM.out];exact hkm)⟩
     have HIV:=Lib.hid (zcp HIN.out (JJ ho))
     have HPO:Hid (plc o=o):=Lib.hid (HOP.out o (List.mem_of_getElem? ho))
     obtain ⟨b2,o2',e2,hat2⟩:=ElsV.at_ HPV5.out ho
     cases e2
     have HOC:=Lib.hid hat2
     obtain ⟨o0,o1,o2⟩:=place3 (hat2.keep HBI.out hat2.lt)
     obtain ⟨p0,p1,p2⟩:=place3 (HPC.out.keep HBI.out HPC.out.lt)
     simp only [show encP.k=3 from rfl,Nat.zero_add] at o0 o1 o2 p0 p1 p2
     have hee:eqP o p=decide (o=p):=by rw [Z1,HPO.out,HPP.out]
     have hq:∀ W,Sem.run Tryz.prog (binOp .eql 53 (aggP o) (aggP p)) W=.ok (.bool (decide (o=p))) W:=fun W=>by rw [zhk,hee]
     have hog:nx.length≤1001:=by omega
     clear ho hat2 hee
     by_cases hop:o=p
     ·have hd:decide (o=p)=true:=decide_eq_true hop
      have HI2:Hid (InvP out p (k+1) true (nx++[o])):=Lib.hid (HIV.out.2.1 hop.symm)
      rw [hd] at hq
      clear hd hop
      go_wp2_with fail
      go_big_quiet (fail)
      have HRO2:Hid ((wr2.drewN nq).ownsRow W4.heap.size 53 3 u6 nx.length (flat encP nx)):=HRO
      have HBI2:Hid (Below W4.heap.size W4 (wr2.drewN nq)):=Lib.hid (belowN HBI.out nq)
      clear HRO HBI o0 o1 o2 p0 p1 p2 hq
      generalize wr2.drewN nq=wd at *
      obtain ⟨o0,o1,o2⟩:=place3 (HOC.out.keep HBI2.out HOC.out.lt)
      obtain ⟨p0,p1,p2⟩:=place3 (HPC.out.keep HBI2.out HPC.out.lt)
      simp only [show encP.k=3 from rfl,Nat.zero_add] at o0 o1 o2 p0 p1 p2
      go_wp2_with fail
      go_big_quiet (fail)
      have HRO3:Hid ((wd.drewN nq).ownsRow W4.heap.size 53 3 u6 nx.length (flat encP nx)):=HRO2
      have HBI3:Hid (Below W4.heap.size W4 (wd.drewN nq)):=Lib.hid (belowN HBI2.out nq)
      clear HRO2 HBI2 o0 o1 o2 p0 p1 p2
      generalize wd.drewN nq=we at *
      obtain ⟨o0,o1,o2⟩:=place3 (HOC.out.keep HBI3.out HOC.out.lt)
      simp only [show encP.k=3 from rfl] at o0 o1 o2
      go_wp2_with (at_builtin;refine zx (E:=encP) rfl _ _ 70 53 rfl infoR W4.heap.size nx o we.heap.size (HRO3.out.alloc _) rfl (zf encP we o _) (by have:=HBI3.out.size;simp;omega) (by omega) ?_;intro v9 w9 hr9 hb9 hg9)
      have HR9:=Lib.hid hr9
      have HB9:Hid (Below W4.heap.size W4 w9):=Lib.hid ((HBI3.out.alloc HBI3.out.size _).trans hb9)
      clear hr9 hb9 hg9
      obtain ⟨q1,q2,q3,hv9⟩:=qn HR9.out
      subst hv9
      go_wp2
      go_roundw
      case rel=>exact ⟨k+1,true,nx++[o],by go_num,rfl,by omega,by rw [List.length_append];simp;omega,HR9,HI2,HB9⟩
      case measure=>simp [intOf];omega
     ·have hd:decide (o=p)=false:=decide_eq_false hop
      have HNE:=Lib.hid hop
      rw [hd] at hq
      clear hd hop
      cases dn with
      | true =>
        have HI2:Hid (InvP out p (k+1) true (nx++[o])):=Lib.hid (HIV.out.1 rfl)
        go_wp2_with fail
        go_big_quiet (fail)
        have HRO2:Hid ((wr2.drewN nq).ownsRow W4.heap.size 53 3 u6 nx.length (flat encP nx)):=HRO
        have HBI2:Hid (Below W4.heap.size W4 (wr2.drewN nq)):=Lib.hid (belowN HBI.out nq)
        clear HRO HBI o0 o1 o2 p0 p1 p2 hq
        generalize wr2.drewN nq=wd at *
        obtain ⟨o0,o1,o2⟩:=place3 (HOC.out.keep HBI2.out HOC.out.lt)
        obtain ⟨p0,p1,p2⟩:=place3 (HPC.out.keep HBI2.out HPC.out.lt)
        simp only [show encP.k=3 from rfl,Nat.zero_add] at o0 o1 o2 p0 p1 p2
        go_wp2_with fail
        go_big_quiet (fail)
        have HRO3:Hid ((wd.drewN nq).ownsRow W4.heap.size 53 3 u6 nx.length (flat encP nx)):=HRO2
        have HBI3:Hid (Below W4.heap.size W4 (wd.drewN nq)):=Lib.hid (belowN HBI2.out nq)
        clear HRO2 HBI2 o0 o1 o2 p0 p1 p2
        generalize wd.drewN nq=we at *
        obtain ⟨o0,o1,o2⟩:=place3 (HOC.out.keep HBI3.out HOC.out.lt)
        simp only [show encP.k=3 from rfl] at o0 o1 o2
        go_wp2_with (at_builtin;refine zx (E:=encP) rfl _ _ 70 53 rfl infoR W4.heap.size nx o we.heap.size (HRO3.out.alloc _) rfl (zf encP we o _) (by have:=HBI3.out.size;simp;omega) (by omega) ?_;intro v9 w9 hr9 hb9 hg9)
        have HR9:=Lib.hid hr9
        have HB9:Hid (Below W4.heap.size W4 w9):=Lib.hid ((HBI3.out.alloc HBI3.out.size _).trans hb9)
        clear hr9 hb9 hg9
        obtain ⟨q1,q2,q3,hv9⟩:=qn HR9.out
        subst hv9
        go_wp2
        go_roundw
        case rel=>exact ⟨k+1,true,nx++[o],by go_num,rfl,by omega,by rw [List.length_append];simp;omega,HR9,HI2,HB9⟩
        case measure=>simp [intOf];omega
      | false =>
        have hnl3:=hnf (by trivial)
        go_wp2_with fail
        go_big_quiet (fail)
        have HRO2:Hid ((wr2.drewN nq).ownsRow W4.heap.size 53 3 u6 nx.length (flat encP nx)):=HRO
        have HBI2:Hid (Below W4.heap.size W4 (wr2.drewN nq)):=Lib.hid (belowN HBI.out nq)
        clear HRO HBI o0 o1 o2 p0 p1 p2 hq
        generalize wr2.drewN nq=wd at *
        obtain ⟨o0,o1,o2⟩:=place3 (HOC.out.keep HBI2.out HOC.out.lt)
        obtain ⟨p0,p1,p2⟩:=place3 (HPC.out.keep HBI2.out HPC.out.lt)
        simp only [show encP.k=3 from rfl,Nat.zero_add] at o0 o1 o2 p0 p1 p2
        have r0:=fun q:Past wd=>za o0 q
        have r1:=fun q:Past wd=>za o1 q
        have r2:=fun q:Past wd=>za o2 q
        have s0:=fun q:Past wd=>za p0 q
        have s1:=fun q:Past wd=>za p1 q
        have s2:=fun q:Past wd=>za p2 q
        obtain ⟨bf,hbf⟩:∃ bf,befB p o=bf:=⟨_,rfl⟩
        have HBC:Hid (∀ W,Calls Tryz.prog 54 #[aggP p,aggP o] W fun e w'=>e=.returned (.bool bf)∧Below W.heap.size W w'):=Lib.hid fun W=>by rw [←hbf];exact zix p o W
        have HBV:Hid (decide (ltK p o)=bf):=Lib.hid (by rw [←hbf,zdc,HPP.out,HPO.out])
        clear o0 o1 o2 p0 p1 p2 hbf
        go_wp2_with fail
        refine zS (by kernel_rfl) (by kernel_rfl) ?_
        repeat (go_big_quiet_step (first | (go_at_call 54;exact Calls.qi (HBC.out _)) | fail))
        refine wpQuiet_nil ?_
        intro we hw'
        obtain ⟨⟨we',hbe⟩,rfl⟩:=hw'
        have HRO3:=Lib.hid (zu HRO2.out hbe)
        have HBI3:=Lib.hid (HBI2.out.trans (hbe.mono HBI2.out.size))
        clear hbe r0 r1 r2 s0 s1 s2 HRO2 HBI2
        obtain ⟨o0,o1,o2⟩:=place3 (HOC.out.keep HBI3.out HOC.out.lt)
        obtain ⟨p0,p1,p2⟩:=place3 (HPC.out.keep HBI3.out HPC.out.lt)
        simp only [show encP.k=3 from rfl,Nat.zero_add] at o0 o1 o2 p0 p1 p2
        cases bf with
        | true =>
          have HI2:Hid (InvP out p (k+1) true (nx++[p]++[o])):=Lib.hid (HIV.out.2.2.1 (by trivial) (fun e=>HNE.out e.symm) (of_decide_eq_true HBV.out))
          go_wp2_with (at_builtin;first
           | (refine zx (E:=encP) rfl (.tmp 42) (.tmp 44) 70 53 rfl infoR W4.heap.size nx p we.heap.size (HRO3.out.alloc _) rfl (zf encP we p _) (by have:=HBI3.out.size;simp;omega) (by omega) ?_;intro v8 w8 hr8 hb8 hg8;have HR8:=Lib.hid hr8;have HB8:Hid (Below W4.heap.size W4 w8):=Lib.hid ((HBI3.out.alloc HBI3.out.size _).trans hb8);clear hr8 hb8 hg8;obtain ⟨q4,q5,q6,hv8⟩:=qn HR8.out;subst hv8;obtain ⟨z0,z1,z2⟩:=place3 (HOC.out.keep HB8.out HOC.out.lt);simp only [show encP.k=3 from rfl] at z0 z1 z2)
           | (refine zx (E:=encP) rfl (.tmp 46) (.tmp 51) 70 53 rfl infoR W4.heap.size (nx++[p]) o w8.heap.size (HR8.out.alloc _) rfl (zf encP w8 o _) (by have:=HB8.out.size;simp;omega) (by simp;omega) ?_;intro v9 w9 hr9 hb9 hg9)
           | fail)
          have HR9:=Lib.hid hr9
          have HB9:Hid (Below W4.heap.size W4 w9):=Lib.hid ((HB8.out.alloc HB8.out.size _).trans hb9)
          clear hr9 hb9 hg9
          obtain ⟨q1,q2,q3,hv9⟩:=qn HR9.out
          subst hv9
          go_wp2
          go_roundw
          case rel=>exact ⟨k+1,true,nx++[p]++[o],by go_num,rfl,by omega,by simp;omega,HR9,HI2,HB9⟩
          case measure=>simp [intOf];omega
        | false =>
          have HI2:Hid (InvP out p (k+1) false (nx++[o])):=Lib.hid (HIV.out.2.2.2 (by trivial) (fun e=>HNE.out e.symm) (of_decide_eq_false HBV.out))
          clear p0 p1 p2
          go_wp2_with (at_builtin;refine zx (E:=encP) rfl _ _ 70 53 rfl infoR W4.heap.size nx o we.heap.size (HRO3.out.alloc _) rfl (zf encP we o _) (by have:=HBI3.out.size;simp;omega) (by omega) ?_;intro v9 w9 hr9 hb9 hg9)
          have HR9:=Lib.hid hr9
          have HB9:Hid (Below W4.heap.size W4 w9):=Lib.hid ((HBI3.out.alloc HBI3.out.size _).trans hb9)
          clear hr9 hb9 hg9
          obtain ⟨q1,q2,q3,hv9⟩:=qn HR9.out
          subst hv9
          go_wp2
          go_roundw
          case rel=>exact ⟨k+1,false,nx++[o],by go_num,rfl,by omega,by rw [List.length_append];simp;omega,HR9,HI2,HB9⟩
          case measure=>simp [intOf];omega
    ·obtain rfl:k=m:=by omega
     have hin:=HIN.out
     unfold InvP at hin
     rw [List.drop_of_length_le (by rw [HMM.out];exact Nat.le_refl _)] at hin
     cases dn with
     | true =>
       rw [if_pos rfl,List.append_nil] at hin
       have HRS:Hid (jM wr2 u6 (places (L.take (i+1)))):=Lib.hid (by rw [HTK.out,←hin];exact zq (E:=encP) HRO.out)
       have HBX:Hid (Below w.heap.size w wr2):=Lib.hid (HB4.out.trans (HBI.out.mono HB4.out.size))
       obtain ⟨q1,q2,q3,hv9⟩:=qn HRO.out
       subst hv9
       clear HRO hin
       go_wp2
       go_roundw
       case rel=>exact ⟨i+1,by go_num,by omega,HRS,HBX⟩
       case measure=>simp [intOf];omega
     | false =>
       rw [if_neg (by simp),show insU [] p=[p] from rfl] at hin
       obtain ⟨p0,p1,p2⟩:=place3 (HPC.out.keep HBI.out HPC.out.lt)
       simp only [Nat.zero_add] at p0 p1 p2
       have HIN2:=Lib.hid hin
       have HHB:=Lib.hid HB4.out.size
       clear hin
       go_wp2_with (at_builtin;refine zx (E:=encP) rfl _ _ 70 53 rfl infoR W4.heap.size nx p wr2.heap.size (HRO.out.alloc _) rfl (zf encP wr2 p _) (by have:=HBI.out.size;simp;omega) (by omega) ?_;intro v9 w9 hr9 hb9 hg9)
       have HRS:Hid (jM w9 v9 (places (L.take (i+1)))):=Lib.hid (by rw [HTK.out,←HIN2.out];exact zq (E:=encP) hr9)
       have HBX:Hid (Below w.heap.size w w9):=Lib.hid (HB4.out.trans (((HBI.out.alloc HBI.out.size _).trans hb9).mono HB4.out.size))
       obtain ⟨q1,q2,q3,hv9⟩:=qn hr9
       subst hv9
       clear hr9 hb9 hg9 HRO p0 p1 p2
       go_wp2
       go_roundw
       case rel=>exact ⟨i+1,by go_num,by omega,HRS,HBX⟩
       case measure=>simp [intOf];omega
  ·obtain rfl:i=n:=by omega
   have HPE:Hid (jM wr u3 (places L)):=Lib.hid (by have:=HPV.out;rwa [List.take_of_length_le (by rw [HNN.out];exact Nat.le_refl _)] at this)
   obtain ⟨q1,q2,hv9,_⟩:=id HPE.out
   subst hv9
   clear HPV
   go_wp2
   go_ret
   exact ⟨_,rfl,HPE.out,HBR.out⟩
end Go.Proofs.YtdhfpgjnjlcciaaGreatDoor.Co
end
section
namespace Go.Proofs.YtdhfpgjnjlcciaaGreatDoor.Co
open Go.RowKit Go.Maps Go.Proofs.YtdhfpgjnjlcciaaGreatDoor.Un Go.Proofs.YtdhfpgjnjlcciaaGreatDoor.Pk
open Go.Proofs.YtdhfpgjnjlcciaaGreatDoor.Fa (Key Fact encF FactsV)
set_option maxRecDepth 100000 in
set_option maxHeartbeats 16000000 in
theorem ziK (s0 s1:ByteArray) (lim:Int) (w:World) (_hs0:s0.size≤maxLen) (_hs1:s1.size≤maxLen) (hx:In64 lim) (hU:LaidP w):Calls Tryz.prog 5 #[.agg #[.string s0,.string s1],.int .i64 lim] w fun en w'=>en=.returned (.bool true)∧Below w.heap.size w w':=by
 have hb0:=(Below.refl w.heap.size w).alloc (Nat.le_refl _) (.cells #[.string s0,.string s1] 68)
 have hg0:=Z4 w s0 s1 68
 obtain ⟨W0,hW0⟩:∃ W0,w.alloc (.cells #[.string s0,.string s1] 68)=W0:=⟨_,rfl⟩
 rw [hW0] at hb0 hg0
 have HB0:=Lib.hid hb0
 have HGB0:=Lib.hid hg0
 have HL:=Lib.hid (hU.keep HB0.out)
 have HX:=Lib.hid hx
 clear hU hb0 hg0 _hs0 _hs1 hx
 go_enter Tryz.func5,Tryz.ntmps5
 go_wp2_with fail
 clear hW0
 refine (vV _ HL.out).mono ?_
 rintro en w1 ⟨rfl,hb1⟩
 have HB1:=Lib.hid (HB0.out.trans (hb1.mono HB0.out.size))
 have HGB1:=Lib.hid (HGB0.out.kept hb1)
 have HL1:=Lib.hid (HL.out.keep hb1)
 clear hb1
 obtain ⟨g0,g1⟩:=HGB1.out
 go_wp2_with fail
 clear g0 g1
 refine (vz s0 _ HL1.out.1 HL1.out.2.1).mono ?_
 rintro en w2 ⟨M,c,f,e,l,c',f',e',l',is,rfl,hm,hm',hb2,his⟩
 obtain ⟨pc,cc,pf,cf,pe,ce,pl,cl,rfl,rfl,rfl,rfl⟩:=shapes hm
 obtain ⟨pc',cc',pf',cf',pe',ce',pl',cl',rfl,rfl,rfl,rfl⟩:=shapes hm'
 have HM2:=Lib.hid hm
 have HM2':=Lib.hid hm'
 have HB2:=Lib.hid (HB1.out.trans (hb2.mono HB1.out.size))
 have HGB2:=Lib.hid (HGB1.out.kept hb2)
 have HL2:=Lib.hid (HL1.out.keep hb2)
 have HIS:=Lib.hid his
 clear hm hm' hb2 his HB1 HL1 HGB1 HGB0 HL HB0
 by_cases hbig:4000 < s1.size
 ·cases is
  all_goals
   go_wp2_with (first
    | (refine zi rfl 33 (.tmp 5) (.tmp 30) rfl w2.heap.size nil4 nil4 nil4 nil4 (.slice pc M.chart.length cc) (.slice pf M.flows.length cf) (.slice pe M.ents.length ce) (.slice pl M.lines.length cl) zeroM M 33 rfl rfl (start1 w2) ⟨rfl,rfl,rfl,rfl⟩ (by kernel_rfl) ?_;intro w3 hb3 hg3;have HX3:=Lib.hid hb3;have HG3:=Lib.hid hg3;clear hb3 hg3)
    | (refine zi rfl 39 (.tmp 6) (.tmp 31) rfl (w2.heap.size+1) nil4 nil4 nil4 nil4 (.slice pc' M.chart.length cc') (.slice pf' M.flows.length cf') (.slice pe' M.ents.length ce') (.slice pl' M.lines.length cl') zeroM M 39 rfl rfl (qu HG3.out) ⟨rfl,rfl,rfl,rfl⟩ (by kernel_rfl) ?_;intro w4 hb4 hg4;have HT4:=Lib.hid (qs HM2.out HM2'.out HX3.out HG3.out hb4 hg4);clear hb4 hg4;have HB4:=Lib.hid (HB2.out.trans (HT4.out.bel.mono HB2.out.size));have HGB4:=Lib.hid (HGB2.out.kept HT4.out.bel);obtain ⟨g0,g1⟩:=HGB4.out;obtain ⟨n0,n1,n2,n3,n4,n5,n6,n7,n8⟩:=HT4.out.nine)
    | fail)
   go_ret
   exact ⟨rfl,HB4.out⟩
 cases is with
 | false =>
   go_wp2_with (first
    | (refine zi rfl 33 (.tmp 5) (.tmp 30) rfl w2.heap.size nil4 nil4 nil4 nil4 (.slice pc M.chart.length cc) (.slice pf M.flows.length cf) (.slice pe M.ents.length ce) (.slice pl M.lines.length cl) zeroM M 33 rfl rfl (start1 w2) ⟨rfl,rfl,rfl,rfl⟩ (by kernel_rfl) ?_;intro w3 hb3 hg3;have HX3:=Lib.hid hb3;have HG3:=Lib.hid hg3;clear hb3 hg3)
    | (refine zi rfl 39 (.tmp 6) (.tmp 31) rfl (w2.heap.size+1) nil4 nil4 nil4 nil4 (.slice pc' M.chart.length cc') (.slice pf' M.flows.length cf') (.slice pe' M.ents.length ce') (.slice pl' M.lines.length cl') zeroM M 39 rfl rfl (qu HG3.out) ⟨rfl,rfl,rfl,rfl⟩ (by kernel_rfl) ?_;intro w4 hb4 hg4;have HT4:=Lib.hid (qs HM2.out HM2'.out HX3.out HG3.out hb4 hg4);clear hb4 hg4;have HB4:=Lib.hid (HB2.out.trans (HT4.out.bel.mono HB2.out.size));have HGB4:=Lib.hid (HGB2.out.kept HT4.out.bel);obtain ⟨g0,g1⟩:=HGB4.out;obtain ⟨n0,n1,n2,n3,n4,n5,n6,n7,n8⟩:=HT4.out.nine)
    | fail)
   go_ret
   exact ⟨rfl,HB4.out⟩
 | true =>
 go_wp2_with (first
  | (refine zi rfl 33 (.tmp 5) (.tmp 30) rfl w2.heap.size nil4 nil4 nil4 nil4 (.slice pc M.chart.length cc) (.slice pf M.flows.length cf) (.slice pe M.ents.length ce) (.slice pl M.lines.length cl) zeroM M 33 rfl rfl (start1 w2) ⟨rfl,rfl,rfl,rfl⟩ (by kernel_rfl) ?_;intro w3 hb3 hg3;have HX3:=Lib.hid hb3;have HG3:=Lib.hid hg3;clear hb3 hg3)
  | (refine zi rfl 39 (.tmp 6) (.tmp 31) rfl (w2.heap.size+1) nil4 nil4 nil4 nil4 (.slice pc' M.chart.length cc') (.slice pf' M.flows.length cf') (.slice pe' M.ents.length ce') (.slice pl' M.lines.length cl') zeroM M 39 rfl rfl (qu HG3.out) ⟨rfl,rfl,rfl,rfl⟩ (by kernel_rfl) ?_;intro w4 hb4 hg4;have HT4:=Lib.hid (qs HM2.out HM2'.out HX3.out HG3.out hb4 hg4);clear hb4 hg4;have HB4:=Lib.hid (HB2.out.trans (HT4.out.bel.mono HB2.out.size));have HGB4:=Lib.hid (HGB2.out.kept HT4.out.bel);obtain ⟨g0,g1⟩:=HGB4.out;obtain ⟨n0,n1,n2,n3,n4,n5,n6,n7,n8⟩:=HT4.out.nine)
  | fail)
 clear g0 g1 n0 n1 n2 n3 n4 n5 n6 n7 n8
 have HL4:=Lib.hid (HL2.out.keep HT4.out.bel)
 clear HM2 HM2' HB2 HL2 HX3 HG3 HGB2
 have hR:=(HIS.out (by first | trivial | rfl)).1
 have HSN:=Lib.hid hR.inv.sane
 have HFS:=Lib.hid (zjl hR.all)
 have HRC:=Lib.hid (Fl.qm HSN.out.fl)
 have hsz:s1.size≤4000:=by omega
 have HSZ:=Lib.hid hsz
 have HPP:=Lib.hid (fun W h hL=>vB (.slice pc M.chart.length cc) (.slice pf M.flows.length cf) (.slice pe M.ents.length ce) (.slice pl M.lines.length cl) M s1 W h HSN.out hL (by have:=HSZ.out;omega))
 obtain ⟨PR,hPR⟩:∃ PR,parseP M s1=PR:=⟨_,rfl⟩
 have HPR:=Lib.hid hPR
 simp only [hPR] at HPP
 obtain ⟨C,er⟩:=PR
 clear hR hsz hPR
 refine (HPP.out _ HT4.out.mast HL4.out.2.2).mono ?_
 rintro en w5 ⟨u5,rfl,hv5,hb5⟩
 dsimp only at hv5
 have HVC5:=Lib.hid hv5
 have HB5:=Lib.hid (HB4.out.trans (hb5.mono HB4.out.size))
 have HT5:=Lib.hid (HT4.out.keep hb5)
 clear HB4 HT4
 clear hb5 hv5 HL4 HPP HGB4
 obtain ⟨qc,kc,rfl,_⟩:=id HVC5.out
 by_cases her:er=0
 ·subst her
  have HPD:=Lib.hid (x5 HPR.out HSZ.out)
  obtain ⟨Fx,hFx⟩:∃ F,fixP M C lim=F:=⟨_,rfl⟩
  have HNF:=Lib.hid (zhF (M:=M) (c:=C) (lim:=lim))
  rw [hFx] at HNF
  obtain ⟨D,ex⟩:=Fx
  have HFX:=Lib.hid hFx
  clear hFx
  obtain ⟨n0,n1,n2,n3,n4,n5,n6,n7,n8⟩:=HT5.out.nine
  have HC6:=Lib.hid (HPD.out.fix HX.out (HPD.out.giv HSN.out HT5.out.mast HVC5.out))
  rw [HFX.out] at HC6
  go_wp2_with fail
  clear n0 n1 n2 n3 n4 n5 n6 n7 n8
  refine HC6.out.mono ?_
  rintro en w6 ⟨u6,rfl,hv6,hb6⟩
  dsimp only at hv6
  obtain ⟨q6,k6,rfl,_⟩:=id hv6
  have HVD6:=Lib.hid hv6
  have HB6:=Lib.hid (HB5.out.trans (hb6.mono HB5.out.size))
  have HT6:=Lib.hid (HT5.out.keep hb6)
  have HVC6:=Lib.hid (ElsV.keep HVC5.out hb6)
  clear HB5 HT5 HVC5
  clear hb6 hv6 HC6
  by_cases hex:ex=0
  ·subst hex
   have hfd:=HPD.out.fixed HRC.out HFX.out
   have HIC:=Lib.hid hfd.1
   have HAD:=Lib.hid hfd.2.1
   have HLD:=Lib.hid hfd.2.2
   clear hfd
   have hgd:∀ (W:World) (v:Value),MastIn W (.slice pc M.chart.length cc) (.slice pf M.flows.length cf) (.slice pe M.ents.length ce) (.slice pl M.lines.length cl) M→FactsV W v D→Giv W (.slice pc M.chart.length cc) (.slice pf M.flows.length cf) (.slice pe M.ents.length ce) (.slice pl M.lines.length cl) v M D:=fun W v h1 h2=>⟨h1,HRC.out,by have:=HSN.out.lf;omega,h2,by have:=HLD.out;omega,HIC.out.fit⟩
   have HGD:=Lib.hid hgd
   clear hgd
   go_wp2_with fail
   refine (Fa.qE _ D _ HVD6.out (by have:=HLD.out;omega)).mono ?_
   rintro en w7 ⟨o7,rfl,ho7,hb7⟩
   have HO7:=Lib.hid (zq (E:=encF) ho7)
   have HB7:=Lib.hid (HB6.out.trans (hb7.mono HB6.out.size))
   have HT7:=Lib.hid (HT6.out.keep hb7)
   have HVC7:=Lib.hid (ElsV.keep HVC6.out hb7)
   have HVD7:=Lib.hid (ElsV.keep HVD6.out hb7)
   clear HB6 HT6 HVC6 HVD6
   clear hb7 ho7
   go_wp2_with fail
   refine (zfO _ D _ HO7.out (by have:=HLD.out;omega)).mono ?_
   rintro en w8 ⟨o8,rfl,hp8,hb8⟩
   have HB8:=Lib.hid (HB7.out.trans (hb8.mono HB7.out.size))
   have HT8:=Lib.hid (HT7.out.keep hb8)
   have HVC8:=Lib.hid (ElsV.keep HVC7.out hb8)
   have HVD8:=Lib.hid (ElsV.keep HVD7.out hb8)
   clear HB7 HT7 HVC7 HVD7
   clear hb8 HO7
   obtain ⟨P,hP⟩:∃ P,places D=P:=⟨_,rfl⟩
   have HPE:=Lib.hid hP
   have HPLC:Hid (∀ p∈P,plc p=p):=Lib.hid fun p hp=>by rw [←hP] at hp;exact vY hp
   have HLP:Hid (P.length≤800):=Lib.hid (by rw [←hP];have:=HLD.out;unfold places;refine Nat.le_trans (Fa.yp _) ?_;rw [List.length_map];exact this)
   rw [hP] at hp8
   obtain ⟨m,hm⟩:∃ m,P.length=m:=⟨_,rfl⟩
   have HMM:=Lib.hid hm
   have HP8:=Lib.hid hp8
   obtain ⟨p8,c8,e8,hcap8,hmx8,_⟩:=id hp8
   rw [hm] at e8 hcap8
   subst e8
   rw [hm] at HLP
   have hlp:=HLP.out
   unfold maxLen at hmx8
   clear hp8 hP hm
   go_wp2_with fail
   go_loopw [66] (fun s66 wr=>∃ j:Nat,s66=.int .i64 (j:Int)∧j≤m∧Hid (∀ (i:Nat) (p:Key),i < j→P[i]?=some p→gapP M D p=(0,0))∧Hid (Below w8.heap.size w8 wr)) (fun s66 _=>m - (intOf s66).toNat)
   case atStart=>exact ⟨0,rfl,Nat.zero_le _,Lib.hid fun i p h=>absurd h (Nat.not_lt_zero _),Lib.hid (Below.refl _ _)⟩
   case round =>
    obtain ⟨j,rfl,hj,HZR,HBR⟩:=hrel
    by_cases hlt:j < m
    ·obtain ⟨p,hp⟩:∃ p,P[j]?=some p:=⟨_,List.getElem?_eq_getElem (by rw [HMM.out];exact hlt)⟩
     obtain ⟨b,o,e',hat⟩:=Fa.ElsV.at_ HP8.out hp
     cases e'
     obtain ⟨x0,x1,x2⟩:=place3 (hat.keep HBR.out hat.lt)
     simp only [show encP.k=3 from rfl] at x0 x1 x2
     have HPJ:=Lib.hid hp
     have HPP:Hid (plc p=p):=Lib.hid (HPLC.out p (List.mem_of_getElem? hp))
     have hb3:Below wr.heap.size wr (wr.alloc (.cells #[.string p.e,.string p.a,.string p.p] 53)):=(Below.refl _ wr).alloc (Nat.le_refl _) _
     have HX3:=Lib.hid (zf encP wr p 53)
     have hbr3:=HBR.out.trans (hb3.mono HBR.out.size)
     have HB3:=Lib.hid hbr3
     have HT3:=Lib.hid (HT8.out.keep hbr3)
     have HCP:=Lib.hid ((HGD.out _ _ HT3.out.mast (ElsV.keep HVD8.out hbr3)).gap p HPP.out)
     obtain ⟨n0,n1,n2,n3,n4,n5,n6,n7,n8⟩:=HT3.out.nine
     obtain ⟨y0,y1,y2⟩:=place3 HX3.out
     simp only [Nat.zero_add] at y0 y1 y2
     have y0':(wr.alloc (.cells #[.string p.e,.string p.a,.string p.p] 53)).cell? ⟨wr.heap.size,0,none⟩=some (.string p.e):=y0
     have y1':(wr.alloc (.cells #[.string p.e,.string p.a,.string p.p] 53)).cell? ⟨wr.heap.size,1,none⟩=some (.string p.a):=y1
     have y2':(wr.alloc (.cells #[.string p.e,.string p.a,.string p.p] 53)).cell? ⟨wr.heap.size,2,none⟩=some (.string p.p):=y2
     clear hp hat hb3 hbr3 y0 y1 y2
     go_wp2_with fail
     obtain ⟨W3,hW3⟩:∃ W3,wr.alloc (.cells #[.string p.e,.string p.a,.string p.p] 53)=W3:=⟨_,rfl⟩
     rw [hW3]
     obtain ⟨gg,hg⟩:∃ gg,gapP M D p=gg:=⟨_,rfl⟩
     have HGW:=Lib.hid (zaM HRC.out HFX.out p)
     rw [hg] at HGW
     obtain ⟨gx,ge⟩:=gg
     have HCP2:Hid (Calls Tryz.prog 13 #[aggM (.slice pc M.chart.length cc) (.slice pf M.flows.length cf) (.slice pe M.ents.length ce) (.slice pl M.lines.length cl) M,.slice q6 D.length k6,.string p.e,.string p.a,.string p.p] W3 fun en w'=>en=.returned (.tuple #[.int .i64 gx,.int .i64 ge])∧Below W3.heap.size W3 w'):=Lib.hid (by have:=HCP.out;rw [hW3,hg] at this;exact this)
     have HB4:Hid (Below w8.heap.size w8 W3):=Lib.hid (by rw [←hW3];exact HB3.out)
     have HGP:=Lib.hid hg
     clear n0 n1 n2 n3 n4 n5 n6 n7 n8 y0' y1' y2' x0 x1 x2 hW3 HCP HX3 HB3 HT3 hg
     refine HCP2.out.mono ?_
     rintro en w9 ⟨rfl,hb9⟩
     have HB9:=Lib.hid (HB4.out.trans (hb9.mono HB4.out.size))
     have HBF:=Lib.hid (HB8.out.trans (HB9.out.mono HB8.out.size))
     clear hb9 HCP2 HB4
     rcases HGW.out with h2 | h0
     ·cases h2
      go_wp2
      go_ret
      exact ⟨rfl,HBF.out⟩
     ·cases h0
      have HZ2:Hid (∀ (i:Nat) (q:Key),i < j+1→P[i]?=some q→gapP M D q=(0,0)):=Lib.hid fun i q hi hq=>by
       rcases Nat.lt_or_ge i j with h | h
       ·exact HZR.out i q h hq
       ·obtain rfl:i=j:=by omega
        rw [HPJ.out] at hq;cases hq;exact HGP.out
      go_wp2
      go_roundw
      case rel=>exact ⟨j+1,by go_num,by omega,HZ2,HB9⟩
      case measure=>simp [intOf];omega
    ·obtain rfl:j=m:=by omega
     have hzz:∀ p∈places D,gapP M D p=(0,0):=fun p hp=>by
      rw [HPE.out] at hp
      obtain ⟨i,hi,e⟩:=List.mem_iff_getElem.1 hp
      exact HZR.out i p (by rw [←HMM.out];exact hi) (by rw [List.getElem?_eq_getElem hi,e])
     have HFN:=Lib.hid (JD HIC.out (Int.le_refl 0) hzz)
     have HGN:Hid ((fixGo M D 0 (zH M D)).1.length=0):=Lib.hid (by rw [vD HAD.out,Jc hzz];rfl)
     have HBr:=Lib.hid (HB8.out.trans (HBR.out.mono HB8.out.size))
     have HTr:=Lib.hid (HT8.out.keep HBR.out)
     have HVCr:=Lib.hid (ElsV.keep HVC8.out HBR.out)
     have HVDr:=Lib.hid (ElsV.keep HVD8.out HBR.out)
     have HFI:=Lib.hid (ZI _ _ _ _ _ M D 0 wr (HGD.out _ _ HTr.out.mast HVDr.out) ⟨by decide,by decide⟩ (by have:=HLD.out;have:=HGN.out;omega))
     rw [KZ 0 HAD.out,HFN.out] at HFI
     clear hzz
     obtain ⟨n0,n1,n2,n3,n4,n5,n6,n7,n8⟩:=HTr.out.nine
     go_wp2_with fail
     clear n0 n1 n2 n3 n4 n5 n6 n7 n8
     refine HFI.out.mono ?_
     rintro en wa ⟨ua,rfl,hva,hba⟩
     dsimp only at hva
     obtain ⟨qa,ka,rfl,_⟩:=id hva
     have hbb:=hba.alloc hba.size (.cells #[.int .i64 0,.int .i64 4] 3)
     have HBb:=Lib.hid (HBr.out.trans (hbb.mono HBr.out.size))
     have HTb:=Lib.hid (HTr.out.keep hbb)
     have HVCb:=Lib.hid (ElsV.keep HVCr.out hbb)
     have HVDb:=Lib.hid (ElsV.keep HVDr.out hbb)
     have HVAb:=Lib.hid (ElsV.keep hva ((Below.refl wa.heap.size wa).alloc (Nat.le_refl _) (.cells #[.int .i64 0,.int .i64 4] 3)))
     have HKb:Hid ((wa.alloc (.cells #[.int .i64 0,.int .i64 4] 3)).cell? ⟨wa.heap.size,0,none⟩=some (.int .i64 0)∧(wa.alloc (.cells #[.int .i64 0,.int .i64 4] 3)).cell? ⟨wa.heap.size,1,none⟩=some (.int .i64 4)):=Lib.hid ⟨by rw [cell_of_row _ wa.heap.size 0 _ _ (0,0) (heap_alloc_new wa _)];rfl,by rw [cell_of_row _ wa.heap.size 1 _ _ (0,0) (heap_alloc_new wa _)];rfl⟩
     clear hba hbb hva HBr HTr HVCr HVDr HFI
     go_wp2_with fail
     obtain ⟨wb,hwb⟩:∃ wb,wa.alloc (.cells #[.int .i64 0,.int .i64 4] 3)=wb:=⟨_,rfl⟩
     rw [hwb] at HBb HTb HVCb HVDb HVAb HKb
     rw [hwb]
     clear hwb
     have HW0:=Lib.hid (KU HRC.out HPD.out.cube HFX.out emp (n:=0) (by decide))
     have HW4:=Lib.hid (KU HRC.out HPD.out.cube HFX.out emp (n:=4) (by decide))
     refine wp_loop_rounds 3 ?_
     rw [rounds_succ]
     obtain ⟨k0z,k4z⟩:=HKb.out
     obtain ⟨n0,n1,n2,n3,n4,n5,n6,n7,n8⟩:=HTb.out.nine
     obtain ⟨g0,hg0⟩:∃ g,weighP M C emp 0=g:=⟨_,rfl⟩
     obtain ⟨gx0,ge0⟩:=g0
     have HC1:=Lib.hid ((HPD.out.giv HSN.out HTb.out.mast HVCb.out).weigh emp 0)
     rw [hg0] at HC1
     have HC1':Hid (Calls Tryz.prog 16 #[aggM (.slice pc M.chart.length cc) (.slice pf M.flows.length cf) (.slice pe M.ents.length ce) (.slice pl M.lines.length cl) M,.slice qc C.length kc,.string ⟨#[]⟩,.int .i64 0] wb fun en w'=>en=.returned (.tuple #[.int .i64 gx0,.int .i64 ge0])∧Below wb.heap.size wb w'):=Lib.hid HC1.out
     go_wp2_with fail
     clear n0 n1 n2 n3 n4 n5 n6 n7 n8 k0z k4z HC1
     refine HC1'.out.mono ?_
     rintro en wc ⟨rfl,hbc⟩
     have HKc:Hid (wc.cell? ⟨wa.heap.size,0,none⟩=some (.int .i64 0)∧wc.cell? ⟨wa.heap.size,1,none⟩=some (.int .i64 4)):=Lib.hid ⟨(hbc.cell (World.block_lt_of_cell? _ _ HKb.out.1)).trans HKb.out.1,(hbc.cell (World.block_lt_of_cell? _ _ HKb.out.2)).trans HKb.out.2⟩
     have HBc:=Lib.hid (HBb.out.trans (hbc.mono HBb.out.size))
     have HTc:=Lib.hid (HTb.out.keep hbc)
     have HVCc:=Lib.hid (ElsV.keep HVCb.out hbc)
     have HVDc:=Lib.hid (ElsV.keep HVDb.out hbc)
     have HVAc:=Lib.hid (ElsV.keep HVAb.out hbc)
     clear HBb HTb HVCb HVDb HVAb
     clear hbc HC1' HKb
     obtain ⟨n0,n1,n2,n3,n4,n5,n6,n7,n8⟩:=HTc.out.nine
     have HC1:=Lib.hid ((HGD.out _ _ HTc.out.mast HVDc.out).weigh emp 0)
     rw [HW0.out,hg0] at HC1
     have HC1':Hid (Calls Tryz.prog 16 #[aggM (.slice pc M.chart.length cc) (.slice pf M.flows.length cf) (.slice pe M.ents.length ce) (.slice pl M.lines.length cl) M,.slice q6 D.length k6,.string ⟨#[]⟩,.int .i64 0] wc fun en w'=>en=.returned (.tuple #[.int .i64 gx0,.int .i64 ge0])∧Below wc.heap.size wc w'):=Lib.hid HC1.out
     clear hg0
     go_wp2_with fail
     clear n0 n1 n2 n3 n4 n5 n6 n7 n8 HC1
     refine HC1'.out.mono ?_
     rintro en wd ⟨rfl,hbd⟩
     have HKd:Hid (wd.cell? ⟨wa.heap.size,0,none⟩=some (.int .i64 0)∧wd.cell? ⟨wa.heap.size,1,none⟩=some (.int .i64 4)):=Lib.hid ⟨(hbd.cell (World.block_lt_of_cell? _ _ HKc.out.1)).trans HKc.out.1,(hbd.cell (World.block_lt_of_cell? _ _ HKc.out.2)).trans HKc.out.2⟩
     have HBd:=Lib.hid (HBc.out.trans (hbd.mono HBc.out.size))
     have HTd:=Lib.hid (HTc.out.keep hbd)
     have HVCd:=Lib.hid (ElsV.keep HVCc.out hbd)
     have HVDd:=Lib.hid (ElsV.keep HVDc.out hbd)
     have HVAd:=Lib.hid (ElsV.keep HVAc.out hbd)
     clear HBc HTc HVCc HVDc HVAc
     clear hbd HC1' HKc
     go_wp2_with fail
     rw [rounds_succ]
     obtain ⟨k0z,k4z⟩:=HKd.out
     obtain ⟨n0,n1,n2,n3,n4,n5,n6,n7,n8⟩:=HTd.out.nine
     obtain ⟨g4,hg4⟩:∃ g,weighP M C emp 4=g:=⟨_,rfl⟩
     obtain ⟨gx4,ge4⟩:=g4
     have HC1:=Lib.hid ((HPD.out.giv HSN.out HTd.out.mast HVCd.out).weigh emp 4)
     rw [hg4] at HC1
     have HC1':Hid (Calls Tryz.prog 16 #[aggM (.slice pc M.chart.length cc) (.slice pf M.flows.length cf) (.slice pe M.ents.length ce) (.slice pl M.lines.length cl) M,.slice qc C.length kc,.string ⟨#[]⟩,.int .i64 4] wd fun en w'=>en=.returned (.tuple #[.int .i64 gx4,.int .i64 ge4])∧Below wd.heap.size wd w'):=Lib.hid HC1.out
     go_wp2_with fail
     clear n0 n1 n2 n3 n4 n5 n6 n7 n8 k0z k4z HC1
     refine HC1'.out.mono ?_
     rintro en we ⟨rfl,hbe⟩
     have HKe:Hid (we.cell? ⟨wa.heap.size,0,none⟩=some (.int .i64 0)∧we.cell? ⟨wa.heap.size,1,none⟩=some (.int .i64 4)):=Lib.hid ⟨(hbe.cell (World.block_lt_of_cell? _ _ HKd.out.1)).trans HKd.out.1,(hbe.cell (World.block_lt_of_cell? _ _ HKd.out.2)).trans HKd.out.2⟩
     have HBe:=Lib.hid (HBd.out.trans (hbe.mono HBd.out.size))
     have HTe:=Lib.hid (HTd.out.keep hbe)
     have HVCe:=Lib.hid (ElsV.keep HVCd.out hbe)
     have HVDe:=Lib.hid (ElsV.keep HVDd.out hbe)
     have HVAe:=Lib.hid (ElsV.keep HVAd.out hbe)
     clear HBd HTd HVCd HVDd HVAd
     clear hbe HC1' HKd
     obtain ⟨n0,n1,n2,n3,n4,n5,n6,n7,n8⟩:=HTe.out.nine
     have HC1:=Lib.hid ((HGD.out _ _ HTe.out.mast HVDe.out).weigh emp 4)
     rw [HW4.out,hg4] at HC1
     have HC1':Hid (Calls Tryz.prog 16 #[aggM (.slice pc M.chart.length cc) (.slice pf M.flows.length cf) (.slice pe M.ents.length ce) (.slice pl M.lines.length cl) M,.slice q6 D.length k6,.string ⟨#[]⟩,.int .i64 4] we fun en w'=>en=.returned (.tuple #[.int .i64 gx4,.int .i64 ge4])∧Below we.heap.size we w'):=Lib.hid HC1.out
     clear hg4
     go_wp2_with fail
     clear n0 n1 n2 n3 n4 n5 n6 n7 n8 HC1
     refine HC1'.out.mono ?_
     rintro en wf ⟨rfl,hbf⟩
     have HKf:Hid (wf.cell? ⟨wa.heap.size,0,none⟩=some (.int .i64 0)∧wf.cell? ⟨wa.heap.size,1,none⟩=some (.int .i64 4)):=Lib.hid ⟨(hbf.cell (World.block_lt_of_cell? _ _ HKe.out.1)).trans HKe.out.1,(hbf.cell (World.block_lt_of_cell? _ _ HKe.out.2)).trans HKe.out.2⟩
     have HBf:=Lib.hid (HBe.out.trans (hbf.mono HBe.out.size))
     have HTf:=Lib.hid (HTe.out.keep hbf)
     have HVCf:=Lib.hid (ElsV.keep HVCe.out hbf)
     have HVDf:=Lib.hid (ElsV.keep HVDe.out hbf)
     have HVAf:=Lib.hid (ElsV.keep HVAe.out hbf)
     clear HBe HTe HVCe HVDe HVAe
     clear hbf HC1' HKe
     go_wp2_with fail
     rw [rounds_succ]
     obtain ⟨n0,n1,n2,n3,n4,n5,n6,n7,n8⟩:=HTf.out.nine'
     have hfs:=HFS.out
     go_wp2_with fail
     clear n0 n1 n2 n3 n4 n5 n6 n7 n8
     refine (Fa.qE _ D _ HVAf.out (by have:=HLD.out;omega)).mono ?_
     rintro en wg ⟨og,rfl,hog,hbg⟩
     have HOg:=Lib.hid (zq (E:=encF) hog)
     have HBg:=Lib.hid (HBf.out.trans (hbg.mono HBf.out.size))
     have HVDg:=Lib.hid (ElsV.keep HVDf.out hbg)
     clear hbg hog
     go_wp2_with fail
     refine (Fa.qE _ D _ HVDg.out (by have:=HLD.out;omega)).mono ?_
     rintro en wh ⟨oh,rfl,hoh,hbh⟩
     have HOh:=Lib.hid (zq (E:=encF) hoh)
     have HOg2:=Lib.hid (ElsV.keep HOg.out hbh)
     have HBh:=Lib.hid (HBg.out.trans (hbh.mono HBg.out.size))
     clear hbh hoh
     go_wp2_with fail
     refine (Fa.kL _ _ D D _ HOg2.out HOh.out).mono ?_
     rintro en wi ⟨rfl,hbi⟩
     have HBi:=Lib.hid (HBh.out.trans (hbi.mono HBh.out.size))
     clear hbi
     have hsm:Fa.sameL D D=true:=by unfold Fa.sameL;exact decide_eq_true rfl
     simp only [hsm]
     go_wp2
     go_ret
     exact ⟨rfl,HBi.out⟩
  ·have hex1:(ex != 0)=true:=by simpa using hex
   have hD:D=[]:=HNF.out hex
   subst hD
   clear hex
   go_wp2
   go_ret
   exact ⟨rfl,HB6.out⟩
 ·have her1:(er != 0)=true:=by simpa using her
  clear her
  go_wp2
  go_ret
  exact ⟨rfl,HB5.out⟩
end Go.Proofs.YtdhfpgjnjlcciaaGreatDoor.Co
end
