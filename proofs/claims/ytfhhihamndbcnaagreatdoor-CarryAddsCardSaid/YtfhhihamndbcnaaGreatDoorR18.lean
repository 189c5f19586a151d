/- FaEql FaOurs -/
import Derived.Test.YtfhhihamndbcnaaGreatDoorR09
section
namespace Go.Proofs.YtfhhihamndbcnaaGreatDoor.Fa
open Go.RowKit
theorem in_rkey (a b:Key) (w:World):Sem.run Tryz.prog (Op.equalIn 9999 74 (aggK a) (aggK b)) w=.ok (eqK a b) w:=by
 have hS:Tryz.prog.underlying 74=some (.struct (Tryz.prog.fieldsOf 74)):=by kernel_rfl
 have hp:Tryz.prog.stoodInHeld 74=false:=by kernel_rfl
 rw [show (9999:Nat)=9998+1 from rfl,run_equalIn_agg w 9998 74 _ _ hS hp,←eqKs_eq]
 simp only [Program.fieldsOf,Tryz.underlying74]
 go_simp
 unfold eqKs
 by_cases h0:a.e.toList=b.e.toList
 ·by_cases h1:a.a.toList=b.a.toList
  ·by_cases h2:a.f.toList=b.f.toList
   ·by_cases h3:a.p.toList=b.p.toList
    ·by_cases h4:a.m=b.m <;> simp [h0,h1,h2,h3,h4]
    ·simp [h0,h1,h2,h3]
   ·simp [h0,h1,h2]
  ·simp [h0,h1]
 ·simp [h0]
theorem neq_rfact (a b:Fact) (w:World):Sem.run Tryz.prog (binOp .neq 79 (aggF a) (aggF b)) w=.ok (.bool (!eqF a b)) w:=by
 have hS:Tryz.prog.underlying 79=some (.struct (Tryz.prog.fieldsOf 79)):=by kernel_rfl
 have hp:Tryz.prog.stoodInHeld 79=false:=by kernel_rfl
 have hn:=in_rkey a.key b.key w
 have hi:Sem.run Tryz.prog (Op.equalIn 9999 2 (.int .i64 a.amt) (.int .i64 b.amt)) w=.ok (a.amt==b.amt) w:=run_equalIn_int w 9998 2 .i64 .i64 _ _ Tryz.underlying2
 rw [run_neq_struct,show (10000:Nat)=9999+1 from rfl,run_equalIn_agg w 9999 79 _ _ hS hp,eqF_eq]
 clear hS hp
 simp only [Program.fieldsOf,Tryz.underlying79]
 have pk:∀ x:Fact,Sem.run Tryz.prog (part 74 #[.string x.key.e,.string x.key.a,.string x.key.f,.string x.key.p,.int .i64 x.key.m,.int .i64 x.amt] 0) w=.ok (aggK x.key) w:=fun x=>by go_simp
 have pi:∀ x:Fact,Sem.run Tryz.prog (part 2 #[.string x.key.e,.string x.key.a,.string x.key.f,.string x.key.p,.int .i64 x.key.m,.int .i64 x.amt] 5) w=.ok (.int .i64 x.amt) w:=fun x=>by go_simp
 have e1:¬ ("Key" = "_"):=by decide
 have e2:¬ ("Amount" = "_"):=by decide
 simp only [Op.eqFields,ne_eq,e1,e2,not_false_eq_true,if_true,Sem.run_bind,pk,hn,Result.andThen]
 generalize (a.amt==b.amt)=r at hi ⊢
 cases eqK a.key b.key <;> cases r <;> simp [Sem.run_bind,pi,hi,Result.andThen]
theorem guard_rfact:Tryz.prog.eqGuardType Tryz.prog.depth 79=false:=by kernel_rfl
end Go.Proofs.YtfhhihamndbcnaaGreatDoor.Fa
end
section
namespace Go.Proofs.YtfhhihamndbcnaaGreatDoor.Fa
open Go.RowKit
set_option maxRecDepth 100000 in
set_option maxHeartbeats 4000000 in
theorem ours_any (v:Value) (c:List Fact) (w:World) (h:FactsV w v c) (hL:c.length≤100000) :
 Calls Tryz.prog 18 #[v] w fun e' w'=>∃ u,e'=.returned u∧w'.ownsRow w.heap.size 79 6 u c.length (flat encF c)∧Below w.heap.size w w':=by
 have HV:=Lib.hid h
 obtain ⟨p,cp,rfl,hcap,hm,_,_⟩:=h
 obtain ⟨n,hn⟩:∃ n,c.length=n:=⟨_,rfl⟩
 rw [hn] at hcap hL HV ⊢
 have HN:=Lib.hid hn
 unfold maxLen at hm
 clear hn
 go_enter Tryz.func18,Tryz.ntmps18
 go_wp2
 go_loopw [3,8] (fun s3 s8 wr=>∃ i:Nat,s8=.int .i64 (i:Int)∧i≤n∧Hid (wr.ownsRow w.heap.size 79 6 s3 (c.take i).length (flat encF (c.take i)))∧Hid (Below w.heap.size w wr)) (fun _ s8 _=>n - (intOf s8).toNat)
 case atStart=>exact ⟨0,rfl,Nat.zero_le _,World.ownsRow_nil _ _ _ _,Lib.hid (Below.refl _ _)⟩
 case round =>
  obtain ⟨i,rfl,hin,HO,HB⟩:=hrel
  by_cases hlt:i < n
  ·obtain ⟨x,hx⟩:∃ x,c[i]?=some x:=⟨_,List.getElem?_eq_getElem (by rw [HN.out];exact hlt)⟩
   obtain ⟨b,o,rfl,hat⟩:=ElsV.at_ HV.out hx
   obtain ⟨r0,r1,r2,r3,r4,r5⟩:=fact6 (hat.keep HB.out hat.lt)
   simp only [show encF.k=6 from rfl] at r0 r1 r2 r3 r4 r5
   have HTK:Hid (c.take (i+1)=c.take i++[x]):=Lib.hid (by rw [List.take_add_one,hx];rfl)
   have HLI:Hid ((c.take i).length≤i):=Lib.hid (by rw [List.length_take];exact Nat.min_le_left _ _)
   have HB2:Hid (Below w.heap.size w (wr.alloc (.cells #[.string x.key.e,.string x.key.a,.string x.key.f,.string x.key.p,.int .i64 x.key.m,.int .i64 x.amt] 62))):=Lib.hid (HB.out.alloc HB.out.size _)
   have HO2:=Lib.hid (HO.out.alloc (.cells #[.string x.key.e,.string x.key.a,.string x.key.f,.string x.key.p,.int .i64 x.key.m,.int .i64 x.amt] 62))
   clear hx hat
   go_wp2_with (at_builtin;refine wpList_append_el (E:=encF) rfl _ _ 22 79 rfl infoR w.heap.size (c.take i) x (wr.heap.size+1) (HO2.out.alloc _) rfl (el_new1 _ _ _ _) (by have:=HB.out.size;simp;omega) (by have:=HLI.out;omega) ?_;intro v9 w9 hr9 hb9 hg9)
   have HR9:=Lib.hid hr9
   have HB9:Hid (Below w.heap.size w w9):=Lib.hid ((HB2.out.alloc (by have:=HB.out.size;simp;omega) _).trans hb9)
   clear hr9 hb9 hg9
   go_wp2
   go_roundw
   case rel=>exact ⟨i+1,by go_num,by omega,by rw [HTK.out];exact HR9,HB9⟩
   case measure=>simp [intOf];omega
  ·obtain rfl:i=n:=by omega
   have HO3:=HO.out
   rw [List.take_of_length_le (by rw [HN.out];exact Nat.le_refl _),HN.out] at HO3
   have HO4:=Lib.hid HO3
   clear HO3 HO
   go_wp2
   go_ret
   exact ⟨_,rfl,HO4.out,HB.out⟩
set_option maxRecDepth 100000 in
set_option maxHeartbeats 4000000 in
theorem same_any (va vb:Value) (a b:List Fact) (w:World) (ha:FactsV w va a) (hb:FactsV w vb b) :
 Calls Tryz.prog 17 #[va,vb] w fun e' w'=>e'=.returned (.bool (sameL a b))∧Below w.heap.size w w':=by
 have HA:=Lib.hid ha
 have HB:=Lib.hid hb
 obtain ⟨pa,ca,rfl,hcap,hm,_,_⟩:=ha
 obtain ⟨pb,cb,rfl,hcapb,hmb,_,_⟩:=hb
 obtain ⟨na,hna⟩:∃ n,a.length=n:=⟨_,rfl⟩
 obtain ⟨nb,hnb⟩:∃ n,b.length=n:=⟨_,rfl⟩
 rw [hna] at hcap HA ⊢
 rw [hnb] at hcapb HB ⊢
 have HNA:=Lib.hid hna
 have HNB:=Lib.hid hnb
 obtain ⟨S,hS⟩:∃ S,sameL a b=S:=⟨_,rfl⟩
 rw [hS]
 have HS:=Lib.hid hS
 unfold maxLen at hm hmb
 clear hna hnb hS
 by_cases hn:na=nb
 ·subst hn
  have hne:((na:Int) != (na:Int))=false:=by simp
  go_enter Tryz.func17,Tryz.ntmps17
  go_wp2
  go_loopw [5] (fun s5 wr=>∃ i:Nat,s5=.int .i64 (i:Int)∧i≤na∧Hid (a.take i=b.take i)∧Hid (Below w.heap.size w wr)) (fun s5 _=>na - (intOf s5).toNat)
  case atStart=>exact ⟨0,rfl,Nat.zero_le _,Lib.hid rfl,Lib.hid (Below.refl _ _)⟩
  case round =>
   obtain ⟨i,rfl,hin,HO,HBW⟩:=hrel
   by_cases hlt:i < na
   ·obtain ⟨x,hx⟩:∃ x,a[i]?=some x:=⟨_,List.getElem?_eq_getElem (by rw [HNA.out];exact hlt)⟩
    obtain ⟨y,hy⟩:∃ y,b[i]?=some y:=⟨_,List.getElem?_eq_getElem (by rw [HNB.out];exact hlt)⟩
    obtain ⟨b1,o1,rfl,hat1⟩:=ElsV.at_ HA.out hx
    obtain ⟨b2,o2,rfl,hat2⟩:=ElsV.at_ HB.out hy
    obtain ⟨r0,r1,r2,r3,r4,r5⟩:=fact6 (hat1.keep HBW.out hat1.lt)
    obtain ⟨s0,s1,s2,s3,s4,s5⟩:=fact6 (hat2.keep HBW.out hat2.lt)
    simp only [show encF.k=6 from rfl] at r0 r1 r2 r3 r4 r5 s0 s1 s2 s3 s4 s5
    have gq:=guard_rfact
    have hq:=neq_rfact x y
    have HX:=Lib.hid (And.intro hx hy)
    clear hx hy hat1 hat2
    cases he:eqF x y with
    | true =>
      have hxy:x=y:=of_decide_eq_true he
      have HT:Hid (a.take (i+1)=b.take (i+1)):=Lib.hid (by rw [List.take_add_one,List.take_add_one,HO.out,HX.out.1,HX.out.2,hxy])
      rw [he] at hq
      clear he hxy
      go_wp2_with fail
      go_big_quiet (fail)
      have HB3:=Lib.hid (belowN HBW.out nq)
      clear r0 r1 r2 r3 r4 r5 s0 s1 s2 s3 s4 s5 hq gq
      go_wp2
      go_roundw
      case rel=>exact ⟨i+1,by go_num,by omega,HT,HB3⟩
      case measure=>simp [intOf];omega
    | false =>
      have hxy:x≠y:=of_decide_eq_false he
      obtain rfl:S=false:=by
       rw [←HS.out]
       refine decide_eq_false fun e=>hxy ?_
       have h1:=HX.out.1
       rw [e,HX.out.2] at h1
       exact (Option.some.inj h1).symm
      rw [he] at hq
      clear he hxy
      go_wp2_with fail
      go_big_quiet (fail)
      have HB3:=Lib.hid (belowN HBW.out nq)
      clear r0 r1 r2 r3 r4 r5 s0 s1 s2 s3 s4 s5 hq gq
      go_wp2
      go_ret
      exact ⟨rfl,HB3.out⟩
   ·obtain rfl:i=na:=by omega
    obtain rfl:S=true:=by
     rw [←HS.out]
     have h1:=HO.out
     rw [List.take_of_length_le (by rw [HNA.out];exact Nat.le_refl _),List.take_of_length_le (by rw [HNB.out];exact Nat.le_refl _)] at h1
     exact decide_eq_true h1
    go_wp2
    go_ret
    exact ⟨rfl,HBW.out⟩
 ·have hne:((na:Int) != (nb:Int))=true:=by rw [bne_iff_ne];omega
  obtain rfl:S=false:=by
   rw [←HS.out]
   exact decide_eq_false fun e=>hn (by rw [←HNA.out,e,HNB.out])
  go_enter Tryz.func17,Tryz.ntmps17
  go_wp2
  go_ret
  exact ⟨rfl,Below.refl _ _⟩
end Go.Proofs.YtfhhihamndbcnaaGreatDoor.Fa
end
