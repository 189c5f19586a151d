/- UnitKeys UnitStood EntSearch -/
import Derived.DeepKeys4
import Derived.Maps.Keyed
import Derived.Maps.OwnSet
import Derived.Test.YthcpglnmhimepaaGreatDoorS13
section
namespace Go.Proofs.YthcpglnmhimepaaGreatDoor.Un
open Go.RowKit Go.Maps
theorem laidOut:laidOutB Tryz.prog=true:=by kernel_rfl
theorem keyRow:(152:TypeId) < Tryz.prog.types.size:=of_decide_eq_true (by kernel_rfl)
theorem keyWide:(match Tryz.prog.underlying 152 with | some (.array _ _) | some (.struct _)=>true | _=>false)=true:=by kernel_rfl
theorem keyAt2:Tryz.prog.keyTypeAt 2 152=true:=by kernel_rfl
set_option maxRecDepth 100000 in
theorem keyLaw:Keyed Tryz.prog 152:=Keyed.of_law (deep_law_laid laidOut (m:=2) (by decide) keyRow keyAt2 keyWide)
abbrev aggK (a b c:ByteArray):Value:=.agg #[.string a,.string b,.string c]
def klit (a b c:ByteArray):Lit:=.string (keyBytes [.string a.data.toList,.string b.data.toList,.string c.data.toList])
theorem key_fields:Tryz.prog.underlying 152=some (.struct (Tryz.prog.fieldsOf 152))∧(Tryz.prog.fieldsOf 152).toList.map (fun f=>(f.offset,f.type,f.name != "_"))=[(0,9,true),(1,9,true),(2,9,true)]:=⟨by kernel_rfl,by kernel_rfl⟩
theorem size_two:∃ n,Tryz.prog.types.size+1=n+1+1:=by
 have:Tryz.prog.types.size≠0:=Nat.ne_of_gt (Nat.lt_of_le_of_lt (Nat.zero_le _) keyRow)
 exact ⟨Tryz.prog.types.size - 1,by omega⟩
theorem lits_string (n:Nat) (s:ByteArray) (h:s.size≤maxLen):Tryz.prog.keyLits (n+1) 9 [.string s]=some [.string s.data.toList]:=by
 unfold Program.keyLits
 rw [Tryz.underlying9]
 simp [h]
theorem lits_fields (n:Nat) (a b c:ByteArray) (ha:a.size≤maxLen) (hb:b.size≤maxLen) (hc:c.size≤maxLen):∀ (fs:List Field),fs.map (fun f=>(f.offset,f.type,f.name != "_"))=[(0,9,true),(1,9,true),(2,9,true)] →
 (fs.mapM fun f=>Tryz.prog.keyLits (n+1) f.type (([Value.string a,.string b,.string c].drop f.offset).take (Tryz.prog.cellsOf f.type)))=some [[.string a.data.toList],[.string b.data.toList],[.string c.data.toList]]:=by
 intro fs h
 have hc9:Tryz.prog.cellsOf 9=1:=by kernel_rfl
 obtain ⟨f0,f1,f2,rfl⟩:∃ f0 f1 f2,fs=[f0,f1,f2]:=by
  have hl:fs.length=3:=by simpa using congrArg List.length h
  match fs,hl with
  | [f0,f1,f2],_=>exact ⟨f0,f1,f2,rfl⟩
 simp only [List.map_cons,List.map_nil,List.cons.injEq,Prod.mk.injEq,and_true] at h
 obtain ⟨⟨o0,t0,_⟩,⟨o1,t1,_⟩,⟨o2,t2,_⟩⟩:=h
 simp only [List.mapM_cons,List.mapM_nil,o0,o1,o2,t0,t1,t2,hc9,List.drop_zero,List.drop_succ_cons,List.take_succ_cons,List.take_zero,lits_string n _ ha,lits_string n _ hb,lits_string n _ hc]
 rfl
theorem keyOf_mk (a b c:ByteArray) (ha:a.size≤maxLen) (hb:b.size≤maxLen) (hc:c.size≤maxLen):keyOf Tryz.prog 152 (aggK a b c)=some (klit a b c):=by
 obtain ⟨hu,hf⟩:=key_fields
 have hck:Tryz.prog.cellsOf 152=3:=by kernel_rfl
 have hkt:Tryz.prog.keyType 152=true:=by kernel_rfl
 obtain ⟨n,hn⟩:=size_two
 have hfl:=lits_fields n a b c ha hb hc _ hf
 have hall:(Tryz.prog.fieldsOf 152).all (·.name != "_")=true:=by kernel_rfl
 have hlits:Tryz.prog.keyLits (Tryz.prog.types.size+1) 152 [.string a,.string b,.string c]=some [.string a.data.toList,.string b.data.toList,.string c.data.toList]:=by
  rw [hn]
  unfold Program.keyLits
  rw [hu]
  simp only [hck,List.length_cons,List.length_nil,hall,and_self,if_true]
  rw [hfl]
  rfl
 unfold keyOf
 rw [hu]
 have hfm:(aggK a b c).formed Tryz.prog 152=true:=by simp [Value.formed,hu,hck]
 simp only [hkt,hfm,Bool.and_self,if_true]
 have hcl:(aggK a b c).cells.toList=[.string a,.string b,.string c]:=rfl
 rw [hcl,hlits]
 rfl
theorem klit_inj {a b c a' b' c':ByteArray} (ha:a.size≤maxLen) (hb:b.size≤maxLen) (hc:c.size≤maxLen) (ha':a'.size≤maxLen) (hb':b'.size≤maxLen) (hc':c'.size≤maxLen) (h:klit a b c=klit a' b' c'):a=a'∧b=b'∧c=c':=by
 have h1:=keyOf_mk a b c ha hb hc
 have h2:=keyOf_mk a' b' c' ha' hb' hc'
 rw [←h] at h2
 have:=keyLaw.inj h1 h2
 injection this with e
 injection e with e
 injection e with e0 e
 injection e with e1 e
 injection e with e2 e
 injection e0 with e0
 injection e1 with e1
 injection e2 with e2
 exact ⟨e0,e1,e2⟩
theorem klit_key (a b c:ByteArray):WideAt.IsKeyLit (klit a b c):=trivial
theorem zeroInt (w:World):(zeroValue 3).run Tryz.prog w=.ok (.int .i64 0) w:=by kernel_rfl
end Go.Proofs.YthcpglnmhimepaaGreatDoor.Un
end
section
namespace Go.Proofs.YthcpglnmhimepaaGreatDoor.Un
open Go.RowKit Go.Maps
theorem nm_size {s:ByteArray} (h:nmB s=true):1≤s.size∧s.size≤12:=by
 unfold nmB nameL at h
 rw [Bool.and_eq_true,Bool.and_eq_true,decide_eq_true_eq,size_list] at h
 exact h.1.1
theorem nm_ne {s:ByteArray} (h:nmB s=true):s≠emp:=by
 intro e
 subst e
 exact absurd h (by decide)
theorem formed_ways {ws:List ByteArray} (h:formedW ws=true) :
 (wd ws 0=tEntity∧(∃ a b,ws=[tEntity,a,b]∧nmB a=true∧nmB b=true)) ∨
 (wd ws 0=tMap∧(∃ a b c,ws=[tMap,a,b,c]∧nmB a=true∧nmB b=true∧nmB c=true)) ∨
 ((wd ws 0=tGroup∨wd ws 0=tReserve∨wd ws 0=tDiffer∨wd ws 0=tMinor∨wd ws 0=tStake)∧(∃ a,ws=[wd ws 0,a]∧nmB a=true)):=by
 unfold formedW at h
 rw [Bool.and_eq_true,Bool.and_eq_true,decide_eq_true_eq,decide_eq_true_eq] at h
 obtain ⟨h0,hl,hn⟩:=h
 have wd0:∀ (a:ByteArray) (r:List ByteArray),wd (a::r) 0=a:=fun a r=>rfl
 unfold lenW at hl
 unfold namesW at hn
 split at hl
 ·rename_i hh
  have:ws.length=2:=by omega
  match ws,this with
  | [x,a],_ =>
    simp at hn
    exact .inr (.inr ⟨hh,a,rfl,hn⟩)
 ·split at hl
  ·rename_i hh
   have:ws.length=3:=by omega
   match ws,this with
   | [x,a,b],_ =>
     simp at hn
     rw [wd0] at hh
     subst hh
     exact .inl ⟨rfl,a,b,rfl,hn⟩
  ·split at hl
   ·rename_i hh
    have:ws.length=4:=by omega
    match ws,this with
    | [x,a,b,c],_ =>
      simp at hn
      rw [wd0] at hh
      subst hh
      exact .inr (.inl ⟨rfl,a,b,c,rfl,hn⟩)
   ·omega
theorem small_len {n:Nat} (h:n≤100):n≤maxLen:=by unfold maxLen;omega
theorem formed_sizes {ws:List ByteArray} (h:formedW ws=true):(wd ws 0).size≤100∧(keyB ws).size≤100∧(keyC ws).size≤100:=by
 have e0:emp.size≤100:=by decide
 rcases formed_ways h with ⟨h0,a,b,rfl,ha,hb⟩ | ⟨h0,a,b,c,rfl,ha,hb,hc⟩ | ⟨h0,a,h1,ha⟩
 ·have:=nm_size ha
  exact ⟨show tEntity.size≤100 by decide,by show a.size≤100;omega,e0⟩
 ·have:=nm_size ha
  have:=nm_size hb
  exact ⟨show tMap.size≤100 by decide,by show a.size≤100;omega,by show b.size≤100;omega⟩
 ·have k1:wd ws 0≠tEntity:=by rcases h0 with h | h | h | h | h <;> rw [h] <;> decide
  have k2:wd ws 0≠tMap:=by rcases h0 with h | h | h | h | h <;> rw [h] <;> decide
  unfold keyB keyC
  rw [if_neg k1,if_neg k2,if_neg k1,if_neg k2]
  exact ⟨by rcases h0 with h | h | h | h | h <;> rw [h] <;> decide,e0,e0⟩
abbrev klW (ws:List ByteArray):Lit:=klit (wd ws 0) (keyB ws) (keyC ws)
theorem klW_inj {ws us:List ByteArray} (h:formedW ws=true) (h':formedW us=true) (e:klW ws=klW us):wd ws 0=wd us 0∧keyB ws=keyB us∧keyC ws=keyC us:=by
 obtain ⟨a,b,c⟩:=formed_sizes h
 obtain ⟨a',b',c'⟩:=formed_sizes h'
 exact klit_inj (small_len a) (small_len b) (small_len c) (small_len a') (small_len b') (small_len c') e
def hadI (M:Mast) (ws:List ByteArray):Int:=if hadW M ws=true then 1 else 0
def StoodOk (D:DataW Unit) (M:Mast):Prop:=∀ ws,formedW ws=true→D.atKey (klW ws) (.lit (.int .i64 0))=.lit (.int .i64 (hadI M ws))
theorem StoodOk.zero:StoodOk (.map []) zeroM:=fun ws h=>by
 have:hadW zeroM ws=false:=by
  unfold hadW keyIn
  rcases formed_ways h with ⟨h0,_⟩ | ⟨h0,_⟩ | ⟨h0,_⟩
  ·rw [h0];rfl
  ·rw [h0];rfl
  ·rcases h0 with h0 | h0 | h0 | h0 | h0 <;> rw [h0] <;> rfl
 unfold hadI
 rw [this]
 rfl
theorem StoodOk.same {D:DataW Unit} {M M':Mast} (h:StoodOk D M) (he:M'.ents=M.ents) (hl:M'.lines=M.lines) (h1:M'.cur=M.cur) (h2:M'.res=M.res) (h3:M'.dif=M.dif) (h4:M'.min=M.min) (h5:M'.stk=M.stk):StoodOk D M':=fun ws hf=>by
 rw [h ws hf]
 unfold hadI hadW keyIn
 rw [he,hl,h1,h2,h3,h4,h5]
theorem StoodOk.step {D:DataW Unit} {M:Mast} {ws:List ByteArray} (h:StoodOk D M) (ht:Tidy D) (hf:formedW ws=true) (hs:stepE M ws=0):StoodOk (D.put (klW ws) (.lit (.int .i64 1))) (stepV M ws):=by
 intro us hu
 by_cases he:klW us=klW ws
 ·rw [he,atKey_put_same ht.isMap (klit_key _ _ _)]
  obtain ⟨e0,e1,e2⟩:=klW_inj hu hf he
  have:hadW (stepV M ws) us=true:=by
   unfold hadW keyIn
   rw [e0,e1,e2]
   have d1:tMap≠tEntity:=by decide
   rcases formed_ways hf with ⟨h0,a,b,rfl,ha,hb⟩ | ⟨h0,a,b,c,rfl,ha,hb,hc⟩ | ⟨h0,a,h1,ha⟩
   ·rcases step_ways hs with ⟨w0,_⟩ | ⟨w0,_⟩ | ⟨_,_,_,ev⟩ | ⟨_,w0,_⟩ | ⟨_,w0,_⟩ | ⟨_,w0,_⟩ | ⟨_,w0,_⟩ | ⟨_,w0,_⟩ | ⟨_,w0,_⟩
    case inr.inr.inl =>
     rw [ev,if_pos h0]
     show (G.findK Ent.code (G.insK Ent.code M.ents ⟨a,b⟩) a).isSome=true
     rw [G.findK_ins _ _ _ (entE_zero (by assumption)).1]
     simp
    all_goals exact absurd (h0.symm.trans w0) (by decide)
   ·rcases step_ways hs with ⟨w0,_⟩ | ⟨w0,_⟩ | ⟨_,w0,_⟩ | ⟨_,_,hz,ev⟩ | ⟨_,w0,_⟩ | ⟨_,w0,_⟩ | ⟨_,w0,_⟩ | ⟨_,w0,_⟩ | ⟨_,w0,_⟩
    case inr.inr.inr.inl =>
     rw [ev,if_neg (by rw [h0];exact d1),if_pos h0]
     show (G.findK Lin.key (G.insK Lin.key M.lines ⟨a,b,c⟩) (a,b)).isSome=true
     rw [G.findK_ins _ (⟨a,b,c⟩:Lin) _ (linEr_zero (x:=⟨a,b,c⟩) hz).1]
     simp [Lin.key]
    all_goals exact absurd (h0.symm.trans w0) (by decide)
   ·have ha1:wd ws 1=a:=by rw [h1];rfl
    have hne:wd ws 1≠emp:=by rw [ha1];exact nm_ne ha
    rcases step_ways hs with ⟨w0,_⟩ | ⟨w0,_⟩ | ⟨_,w0,_⟩ | ⟨_,w0,_⟩ | ⟨_,w0,_,ev⟩ | ⟨_,w0,_,ev⟩ | ⟨_,w0,_,ev⟩ | ⟨_,w0,_,ev⟩ | ⟨_,w0,_,ev⟩
    all_goals first
     | (rw [ev,w0];exact decide_eq_true hne)
     | (rcases h0 with h0 | h0 | h0 | h0 | h0 <;> exact absurd (h0.symm.trans w0) (by decide))
  unfold hadI
  rw [this]
  rfl
 ·rw [atKey_put_other he,h us hu]
  have:hadW (stepV M ws) us=hadW M us:=by
   unfold hadW keyIn
   rcases step_ways hs with ⟨w0,_,_,ev⟩ | ⟨w0,_,_,ev⟩ | ⟨_,w0,hz,ev⟩ | ⟨_,w0,hz,ev⟩ | ⟨_,w0,_,ev⟩ | ⟨_,w0,_,ev⟩ | ⟨_,w0,_,ev⟩ | ⟨_,w0,_,ev⟩ | ⟨_,w0,_,ev⟩
   ·rw [ev]
   ·rw [ev]
   ·rw [ev]
    by_cases hu0:wd us 0=tEntity
    ·rw [if_pos hu0,if_pos hu0]
     show (G.findK Ent.code (G.insK Ent.code M.ents (entOf ws)) (keyB us)).isSome=_
     rw [G.findK_ins _ _ _ (entE_zero hz).1,if_neg]
     intro e
     apply he
     unfold klW
     rw [hu0,w0]
     have:keyB ws=(entOf ws).code:=by unfold keyB;rw [if_pos w0];rfl
     rw [this,e]
     unfold keyC
     rw [if_pos hu0,if_pos w0]
    ·rw [if_neg hu0,if_neg hu0]
   ·rw [ev]
    have d1:tMap≠tEntity:=by decide
    by_cases hu0:wd us 0=tMap
    ·rw [if_neg (by rw [hu0];exact d1),if_pos hu0,if_neg (by rw [hu0];exact d1),if_pos hu0]
     show (G.findK Lin.key (G.insK Lin.key M.lines (linOf ws)) (keyB us,keyC us)).isSome=_
     rw [G.findK_ins _ _ _ (linEr_zero hz).1,if_neg]
     intro e
     apply he
     unfold klW
     rw [hu0,w0]
     have:(keyB ws,keyC ws)=(linOf ws).key:=by
      unfold keyB keyC
      rw [if_neg (by rw [w0];exact d1),if_pos w0,if_neg (by rw [w0];exact d1),if_pos w0];rfl
     rw [←this] at e
     rw [Prod.mk.injEq] at e
     rw [e.1,e.2]
    ·rw [if_neg hu0,if_neg hu0]
   all_goals
    rw [ev]
    have k1:wd us 0≠wd ws 0:=fun e=>he (by
     unfold klW
     have hk:∀ xs:List ByteArray,wd xs 0=wd ws 0→keyB xs=emp∧keyC xs=emp:=fun xs hx=>by
      unfold keyB keyC
      rw [hx,w0,if_neg (by decide),if_neg (by decide),if_neg (by decide),if_neg (by decide)]
      exact ⟨rfl,rfl⟩
     rw [e,(hk us e).1,(hk us e).2,(hk ws rfl).1,(hk ws rfl).2])
    rw [w0] at k1
    rcases formed_ways hu with ⟨u0,_⟩ | ⟨u0,_⟩ | ⟨u0 | u0 | u0 | u0 | u0,_⟩ <;> rw [u0] at k1 ⊢ <;> first | rfl | exact absurd rfl k1
  unfold hadI
  rw [this]
end Go.Proofs.YthcpglnmhimepaaGreatDoor.Un
end
section
namespace Go.Proofs.YthcpglnmhimepaaGreatDoor.Un.En
open Go.RowKit
structure SearchAt (w wr:World) (L:List Ent) (c:Ent) (lo hi:Nat):Prop where
 le:lo≤hi
 top:hi≤L.length
 bel:Below (w.heap.size+1) (w.alloc (.cells (encE.cs c).toArray 206)) wr
 low:∀ (t:Nat) (x:Ent),t < lo→L[t]?=some x→G.KeyO.lt (Ent.code x) (Ent.code c)=true
 high:∀ (t:Nat) (x:Ent),hi≤t→L[t]?=some x→G.KeyO.lt (Ent.code x) (Ent.code c)=false
set_option maxRecDepth 100000 in
set_option maxHeartbeats 8000000 in
theorem search_any (v:Value) (L:List Ent) (c:Ent) (w:World) (h:ElsV encE w v L) (hr:G.riseK Ent.code L=true) (hL:L.length≤1000) :
 Calls Tryz.prog 148 #[v,aggE c,.func (.func 107) #[] #[]] w fun e w'=>e=.returned (.tuple #[.int .i64 (G.placeK Ent.code L (Ent.code c):Nat),.bool (G.isK Ent.code L (Ent.code c))])∧Below w.heap.size w w':=by
 have HB0:=Lib.hid ((Below.refl w.heap.size w).alloc (Nat.le_refl _) (.cells (encE.cs c).toArray 206))
 have HX0:=Lib.hid (BoxE.new encE w c 206)
 have hV:=h.keep HB0.out
 obtain ⟨p,cap,rfl,hcap,hm,_,hc⟩:=hV
 obtain ⟨n,hn⟩:∃ n,L.length=n:=⟨_,rfl⟩
 obtain ⟨pl,hpl⟩:∃ pl,G.placeK Ent.code L (Ent.code c)=pl:=⟨_,rfl⟩
 obtain ⟨is,his⟩:∃ is,G.isK Ent.code L (Ent.code c)=is:=⟨_,rfl⟩
 rw [hn] at hcap hL ⊢
 rw [hpl,his]
 have HC:=Lib.hid hc
 have HN:=Lib.hid hn
 have HPL:=Lib.hid hpl
 have HIS:=Lib.hid his
 have HRI:=Lib.hid hr
 unfold maxLen at hm
 have HAT:Hid (∀ (wr:World),Below (w.heap.size+1) (w.alloc (.cells (encE.cs c).toArray 206)) wr→∀ (i:Nat) (x:Ent),L[i]?=some x→∃ b o,p=some ⟨b,o,none⟩∧ElAt encE wr b (o+i * encE.k) x∧ElAt encE wr w.heap.size 0 c):=Lib.hid (fun wr hb i x hx=>by
  obtain ⟨b,o,e,hat⟩:=HC.out i x hx
  have hlt:=hat.lt
  rw [World.size_alloc] at hlt
  exact ⟨b,o,e,hat.keep hb hlt,HX0.out.at0.keep hb (Nat.lt_succ_self _)⟩)
 have HBE:Hid (∀ (wr:World),Below (w.heap.size+1) (w.alloc (.cells (encE.cs c).toArray 206)) wr→Below w.heap.size w wr):=Lib.hid (fun wr hb=>HB0.out.trans (hb.mono (Nat.le_succ _)))
 clear hc hn hpl his hr h
 go_enter Tryz.func148,Tryz.ntmps148
 go_wp2
 go_loopg [9,10] n (fun kx s9 s10 wr=>∃ lo hi:Nat,s9=.int .i64 (lo:Int)∧s10=.int .i64 (hi:Int)∧hi - lo≤kx∧lo≤hi∧hi≤n∧Hid (SearchAt w wr L c lo hi))
 case atStart=>exact ⟨0,n,rfl,rfl,by omega,Nat.zero_le _,Nat.le_refl _,Lib.hid ⟨Nat.zero_le _,by rw [HN.out];exact Nat.le_refl _,Below.refl _ _,fun t x ht=>absurd ht (Nat.not_lt_zero _),fun t x ht hx=>by
  have:=(List.getElem?_eq_some_iff.1 hx).1
  rw [HN.out] at this;omega⟩⟩
 case round =>
  obtain ⟨lo,hi,rfl,rfl,hkx,hlh,hin,HA⟩:=hrel
  have HSZ:Hid (w.heap.size+1≤wr.heap.size):=Lib.hid (by have:=HA.out.bel.size;rwa [World.size_alloc] at this)
  by_cases hlt:lo < hi
  ·have hmid:(lo+hi) / 2 < n:=by omega
   obtain ⟨x,hx⟩:∃ x,L[(lo+hi) / 2]?=some x:=⟨_,List.getElem?_eq_getElem (by rw [HN.out];exact hmid)⟩
   obtain ⟨b,o,rfl,hat,hct⟩:=HAT.out _ HA.out.bel _ x hx
   obtain ⟨r0,r1⟩:=ent2 hat
   obtain ⟨s0,s1⟩:=ent2 hct
   have q0:=fun p:Past wr=>cell_past r0 p
   have u0:=fun p:Past wr=>cell_past s0 p
   have q1:=fun p:Past wr=>cell_past r1 p
   have u1:=fun p:Past wr=>cell_past s1 p
   clear r0 s0 r1 s1
   have HX:=Lib.hid hx
   clear hx hat hct
   have HAG:=Lib.hid (fun W=>againstE_any x c W)
   obtain ⟨m,hmm⟩:∃ m,cmpE x c=m:=⟨_,rfl⟩
   have HM:=Lib.hid (cmpE_lt x c)
   rw [hmm] at HM
   simp only [hmm] at HAG
   clear hmm
   have hwm:IntKind.i64.wrap ((lo:Int)+(hi:Int))=(lo:Int)+(hi:Int):=by rw [IntKind.wrap_i64];omega
   by_cases hm0:m < 0
   ·have HLT:Hid (G.KeyO.lt (Ent.code x) (Ent.code c)=true):=Lib.hid (by rw [←HM.out];exact decide_eq_true hm0)
    go_wp2_with fail
    refine wp_region_past (by kernel_rfl) (by kernel_rfl) ?_
    repeat (go_big_quiet_step ((go_at_call 107;exact Calls.past_of (HAG.out _))))
    refine wpQuiet_nil ?_
    intro _ hw'
    obtain ⟨⟨w3,hb3⟩,rfl⟩:=hw'
    clear q0 u0 q1 u1
    go_wp2
    go_roundg (hi - ((lo+hi) / 2+1))
    case measure=>omega
    case rel=>exact ⟨(lo+hi) / 2+1,hi,by rw [show ((lo:Int)+(hi:Int)) / 2+1=(((lo+hi) / 2+1:Nat):Int) by omega],rfl,Nat.le_refl _,by omega,hin,Lib.hid ⟨by omega,HA.out.top,HA.out.bel.trans (hb3.mono HSZ.out),fun t y ht hy=>by
     rcases Nat.lt_or_ge t ((lo+hi) / 2) with h | h
     ·exact G.KeyO.trans (G.riseK_at HRI.out h hy HX.out) HLT.out
     ·obtain rfl:t=(lo+hi) / 2:=by omega
      rw [HX.out] at hy;cases hy;exact HLT.out,HA.out.high⟩⟩
   ·have HLT:Hid (G.KeyO.lt (Ent.code x) (Ent.code c)=false):=Lib.hid (by rw [←HM.out];exact decide_eq_false hm0)
    go_wp2_with fail
    refine wp_region_past (by kernel_rfl) (by kernel_rfl) ?_
    repeat (go_big_quiet_step ((go_at_call 107;exact Calls.past_of (HAG.out _))))
    refine wpQuiet_nil ?_
    intro _ hw'
    obtain ⟨⟨w3,hb3⟩,rfl⟩:=hw'
    clear q0 u0 q1 u1
    go_wp2
    go_roundg ((lo+hi) / 2 - lo)
    case measure=>omega
    case rel=>exact ⟨lo,(lo+hi) / 2,rfl,by rw [show ((lo:Int)+(hi:Int)) / 2=(((lo+hi) / 2:Nat):Int) by omega],Nat.le_refl _,by omega,by omega,Lib.hid ⟨by omega,by have:=HA.out.top;omega,HA.out.bel.trans (hb3.mono HSZ.out),HA.out.low,fun t y ht hy=>by
     rcases Nat.lt_or_ge ((lo+hi) / 2) t with h | h
     ·cases hy':G.KeyO.lt (Ent.code y) (Ent.code c) with
      | false=>rfl
      | true=>rw [G.KeyO.trans (G.riseK_at HRI.out h HX.out hy) hy'] at HLT;cases HLT.out
     ·obtain rfl:t=(lo+hi) / 2:=by omega
      rw [HX.out] at hy;cases hy;exact HLT.out⟩⟩
  ·obtain rfl:hi=lo:=by omega
   have hpl:Hid (pl=hi):=Lib.hid (by
    rw [←HPL.out]
    exact G.placeK_at HA.out.top HA.out.low (fun y hy=>HA.out.high hi y (Nat.le_refl _) hy))
   by_cases hn:hi < n
   ·obtain ⟨x,hx⟩:∃ x,L[hi]?=some x:=⟨_,List.getElem?_eq_getElem (by rw [HN.out];exact hn)⟩
    obtain ⟨b,o,rfl,hat,hct⟩:=HAT.out _ HA.out.bel _ x hx
    obtain ⟨r0,r1⟩:=ent2 hat
    obtain ⟨s0,s1⟩:=ent2 hct
    have q0:=fun p:Past wr=>cell_past r0 p
    have u0:=fun p:Past wr=>cell_past s0 p
    have q1:=fun p:Past wr=>cell_past r1 p
    have u1:=fun p:Past wr=>cell_past s1 p
    clear r0 s0 r1 s1
    have HX:=Lib.hid hx
    clear hx hat hct
    have HAG:=Lib.hid (fun W=>againstE_any x c W)
    obtain ⟨m,hmm⟩:∃ m,cmpE x c=m:=⟨_,rfl⟩
    have HM:=Lib.hid (cmpE_eq x c)
    rw [hmm] at HM
    simp only [hmm] at HAG
    clear hmm
    have HI2:Hid (is=(m==0)):=Lib.hid (by
     rw [←HIS.out,HM.out]
     unfold G.isK
     rw [HPL.out,hpl.out,HX.out])
    go_wp2_with fail
    refine wp_region_past (by kernel_rfl) (by kernel_rfl) ?_
    repeat (go_big_quiet_step ((go_at_call 107;exact Calls.past_of (HAG.out _))))
    refine wpQuiet_nil ?_
    intro _ hw'
    obtain ⟨⟨w3,hb3⟩,rfl⟩:=hw'
    clear q0 u0 q1 u1
    go_wp2
    go_ret2
    exact ⟨by rw [hpl.out,HI2.out];rfl,HBE.out _ (HA.out.bel.trans (hb3.mono HSZ.out))⟩
   ·have HI2:Hid (is=false):=Lib.hid (by
     rw [←HIS.out]
     unfold G.isK
     rw [HPL.out,hpl.out,List.getElem?_eq_none (by rw [HN.out];omega)])
    have hd:decide (hi < n)=false:=decide_eq_false hn
    go_wp2_with fail
    refine wp_region_past (by kernel_rfl) (by kernel_rfl) ?_
    repeat (go_big_quiet_step (fail))
    refine wpQuiet_nil ?_
    intro _ hw'
    obtain ⟨⟨w3,hb3⟩,rfl⟩:=hw'
    go_wp2
    go_ret2
    exact ⟨by rw [hpl.out,HI2.out];rfl,HBE.out _ (HA.out.bel.trans (hb3.mono HSZ.out))⟩
end Go.Proofs.YthcpglnmhimepaaGreatDoor.Un.En
end
