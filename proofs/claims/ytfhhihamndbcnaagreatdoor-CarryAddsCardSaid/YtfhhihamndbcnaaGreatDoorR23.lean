/- UnitKeys UnitStood -/
import Derived.DeepKeys4
import Derived.Maps.Keyed
import Derived.Maps.OwnSet
import Derived.Test.YtfhhihamndbcnaaGreatDoorR15
import Derived.Test.YtfhhihamndbcnaaGreatDoorR17
section
namespace Go.Proofs.YtfhhihamndbcnaaGreatDoor.Un
open Go.RowKit Go.Maps
theorem laidOut:laidOutB Tryz.prog=true:=by kernel_rfl
theorem keyRow:(167:TypeId) < Tryz.prog.types.size:=of_decide_eq_true (by kernel_rfl)
theorem keyWide:(match Tryz.prog.underlying 167 with | some (.array _ _) | some (.struct _)=>true | _=>false)=true:=by kernel_rfl
theorem keyAt2:Tryz.prog.keyTypeAt 2 167=true:=by kernel_rfl
set_option maxRecDepth 100000 in
theorem keyLaw:Keyed Tryz.prog 167:=Keyed.of_law (deep_law_laid laidOut (m:=2) (by decide) keyRow keyAt2 keyWide)
abbrev aggK (a b c:ByteArray):Value:=.agg #[.string a,.string b,.string c]
def klit (a b c:ByteArray):Lit:=.string (keyBytes [.string a.data.toList,.string b.data.toList,.string c.data.toList])
theorem key_fields:Tryz.prog.underlying 167=some (.struct (Tryz.prog.fieldsOf 167))∧(Tryz.prog.fieldsOf 167).toList.map (fun f=>(f.offset,f.type,f.name != "_"))=[(0,9,true),(1,9,true),(2,9,true)]:=⟨by kernel_rfl,by kernel_rfl⟩
theorem size_two:∃ n,Tryz.prog.types.size+1=n+1+1:=by
 have:Tryz.prog.types.size≠0:=Nat.ne_of_gt (Nat.lt_of_le_of_lt (Nat.zero_le _) keyRow)
 exact ⟨Tryz.prog.types.size - 1,by omega⟩
theorem lits_string (n:Nat) (s:ByteArray) (h:s.size≤maxLen):Tryz.prog.keyLits (n+1) 9 [.string s]=some [.string s.data.toList]:=by
 unfold Program.keyLits
 rw [Tryz.underlying9]
 simp [h]
theorem lits_fields (n:Nat) (a b c:ByteArray) (ha:a.size≤maxLen) (hb:b.size≤maxLen) (hc:c.size≤maxLen):∀ (fs:List Field),fs.map (fun f=>(f.offset,f.type,f.name != "_"))=[(0,9,true),(1,9,true),(2,9,true)] →
 (fs.mapM fun f=>Tryz.prog.keyLits (n+1) f.type (([Value.string a,.string b,.string c].drop f.offset).take (Tryz.prog.cellsOf f.type)))=some [[.string a.data.toList],[.string b.data.toList],[.string c.data.toList]]:=by
 intro fs h
 have hc9:Tryz.prog.cellsOf 9=1:=by kernel_rfl
 obtain ⟨f0,f1,f2,rfl⟩:∃ f0 f1 f2,fs=[f0,f1,f2]:=by
  have hl:fs.length=3:=by simpa using congrArg List.length h
  match fs,hl with
  | [f0,f1,f2],_=>exact ⟨f0,f1,f2,rfl⟩
 simp only [List.map_cons,List.map_nil,List.cons.injEq,Prod.mk.injEq,and_true] at h
 obtain ⟨⟨o0,t0,_⟩,⟨o1,t1,_⟩,⟨o2,t2,_⟩⟩:=h
 simp only [List.mapM_cons,List.mapM_nil,o0,o1,o2,t0,t1,t2,hc9,List.drop_zero,List.drop_succ_cons,List.take_succ_cons,List.take_zero,lits_string n _ ha,lits_string n _ hb,lits_string n _ hc]
 rfl
theorem keyOf_mk (a b c:ByteArray) (ha:a.size≤maxLen) (hb:b.size≤maxLen) (hc:c.size≤maxLen):keyOf Tryz.prog 167 (aggK a b c)=some (klit a b c):=by
 obtain ⟨hu,hf⟩:=key_fields
 have hck:Tryz.prog.cellsOf 167=3:=by kernel_rfl
 have hkt:Tryz.prog.keyType 167=true:=by kernel_rfl
 obtain ⟨n,hn⟩:=size_two
 have hfl:=lits_fields n a b c ha hb hc _ hf
 have hall:(Tryz.prog.fieldsOf 167).all (·.name != "_")=true:=by kernel_rfl
 have hlits:Tryz.prog.keyLits (Tryz.prog.types.size+1) 167 [.string a,.string b,.string c]=some [.string a.data.toList,.string b.data.toList,.string c.data.toList]:=by
  rw [hn]
  unfold Program.keyLits
  rw [hu]
  simp only [hck,List.length_cons,List.length_nil,hall,and_self,if_true]
  rw [hfl]
  rfl
 unfold keyOf
 rw [hu]
 have hfm:(aggK a b c).formed Tryz.prog 167=true:=by simp [Value.formed,hu,hck]
 simp only [hkt,hfm,Bool.and_self,if_true]
 have hcl:(aggK a b c).cells.toList=[.string a,.string b,.string c]:=rfl
 rw [hcl,hlits]
 rfl
theorem klit_inj {a b c a' b' c':ByteArray} (ha:a.size≤maxLen) (hb:b.size≤maxLen) (hc:c.size≤maxLen) (ha':a'.size≤maxLen) (hb':b'.size≤maxLen) (hc':c'.size≤maxLen) (h:klit a b c=klit a' b' c'):a=a'∧b=b'∧c=c':=by
 have h1:=keyOf_mk a b c ha hb hc
 have h2:=keyOf_mk a' b' c' ha' hb' hc'
 rw [←h] at h2
 have:=keyLaw.inj h1 h2
 injection this with e
 injection e with e
 injection e with e0 e
 injection e with e1 e
 injection e with e2 e
 injection e0 with e0
 injection e1 with e1
 injection e2 with e2
 exact ⟨e0,e1,e2⟩
theorem klit_key (a b c:ByteArray):WideAt.IsKeyLit (klit a b c):=trivial
theorem zeroInt (w:World):(zeroValue 3).run Tryz.prog w=.ok (.int .i64 0) w:=by kernel_rfl
end Go.Proofs.YtfhhihamndbcnaaGreatDoor.Un
end
section
namespace Go.Proofs.YtfhhihamndbcnaaGreatDoor.Un
open Go.RowKit Go.Maps
theorem nm_size {s:ByteArray} (h:nmB s=true):1≤s.size∧s.size≤12:=by
 unfold nmB nameL at h
 rw [Bool.and_eq_true,Bool.and_eq_true,decide_eq_true_eq,size_list] at h
 exact h.1.1
theorem nm_ne {s:ByteArray} (h:nmB s=true):s≠emp:=by
 intro e
 subst e
 exact absurd h (by decide)
theorem formed_ways {ws:List ByteArray} (h:formedW ws=true) :
 (wd ws 0=tEntity∧(∃ a b,ws=[tEntity,a,b]∧nmB a=true∧nmB b=true)) ∨
 (wd ws 0=tMap∧(∃ a b c,ws=[tMap,a,b,c]∧nmB a=true∧nmB b=true∧nmB c=true)) ∨
 ((wd ws 0=tGroup∨wd ws 0=tReserve∨wd ws 0=tDiffer∨wd ws 0=tMinor∨wd ws 0=tStake)∧(∃ a,ws=[wd ws 0,a]∧nmB a=true)):=by
 unfold formedW at h
 rw [Bool.and_eq_true,Bool.and_eq_true,decide_eq_true_eq,decide_eq_true_eq] at h
 obtain ⟨h0,hl,hn⟩:=h
 have wd0:∀ (a:ByteArray) (r:List ByteArray),wd (a::r) 0=a:=fun a r=>rfl
 unfold lenW at hl
 unfold namesW at hn
 split at hl
 ·rename_i hh
  have:ws.length=2:=by omega
  match ws,this with
  | [x,a],_ =>
    simp at hn
    exact .inr (.inr ⟨hh,a,rfl,hn⟩)
 ·split at hl
  ·rename_i hh
   have:ws.length=3:=by omega
   match ws,this with
   | [x,a,b],_ =>
     simp at hn
     rw [wd0] at hh
     subst hh
     exact .inl ⟨rfl,a,b,rfl,hn⟩
  ·split at hl
   ·rename_i hh
    have:ws.length=4:=by omega
    match ws,this with
    | [x,a,b,c],_ =>
      simp at hn
      rw [wd0] at hh
      subst hh
      exact .inr (.inl ⟨rfl,a,b,c,rfl,hn⟩)
   ·omega
theorem small_len {n:Nat} (h:n≤100):n≤maxLen:=by unfold maxLen;omega
theorem formed_sizes {ws:List ByteArray} (h:formedW ws=true):(wd ws 0).size≤100∧(keyB ws).size≤100∧(keyC ws).size≤100:=by
 have e0:emp.size≤100:=by decide
 rcases formed_ways h with ⟨h0,a,b,rfl,ha,hb⟩ | ⟨h0,a,b,c,rfl,ha,hb,hc⟩ | ⟨h0,a,h1,ha⟩
 ·have:=nm_size ha
  exact ⟨show tEntity.size≤100 by decide,by show a.size≤100;omega,e0⟩
 ·have:=nm_size ha
  have:=nm_size hb
  exact ⟨show tMap.size≤100 by decide,by show a.size≤100;omega,by show b.size≤100;omega⟩
 ·have k1:wd ws 0≠tEntity:=by rcases h0 with h | h | h | h | h <;> rw [h] <;> decide
  have k2:wd ws 0≠tMap:=by rcases h0 with h | h | h | h | h <;> rw [h] <;> decide
  unfold keyB keyC
  rw [if_neg k1,if_neg k2,if_neg k1,if_neg k2]
  exact ⟨by rcases h0 with h | h | h | h | h <;> rw [h] <;> decide,e0,e0⟩
abbrev klW (ws:List ByteArray):Lit:=klit (wd ws 0) (keyB ws) (keyC ws)
theorem klW_inj {ws us:List ByteArray} (h:formedW ws=true) (h':formedW us=true) (e:klW ws=klW us):wd ws 0=wd us 0∧keyB ws=keyB us∧keyC ws=keyC us:=by
 obtain ⟨a,b,c⟩:=formed_sizes h
 obtain ⟨a',b',c'⟩:=formed_sizes h'
 exact klit_inj (small_len a) (small_len b) (small_len c) (small_len a') (small_len b') (small_len c') e
def hadI (M:Mast) (ws:List ByteArray):Int:=if hadW M ws=true then 1 else 0
def StoodOk (D:DataW Unit) (M:Mast):Prop:=∀ ws,formedW ws=true→D.atKey (klW ws) (.lit (.int .i64 0))=.lit (.int .i64 (hadI M ws))
theorem StoodOk.zero:StoodOk (.map []) zeroM:=fun ws h=>by
 have:hadW zeroM ws=false:=by
  unfold hadW keyIn
  rcases formed_ways h with ⟨h0,_⟩ | ⟨h0,_⟩ | ⟨h0,_⟩
  ·rw [h0];rfl
  ·rw [h0];rfl
  ·rcases h0 with h0 | h0 | h0 | h0 | h0 <;> rw [h0] <;> rfl
 unfold hadI
 rw [this]
 rfl
theorem StoodOk.same {D:DataW Unit} {M M':Mast} (h:StoodOk D M) (he:M'.ents=M.ents) (hl:M'.lines=M.lines) (h1:M'.cur=M.cur) (h2:M'.res=M.res) (h3:M'.dif=M.dif) (h4:M'.min=M.min) (h5:M'.stk=M.stk):StoodOk D M':=fun ws hf=>by
 rw [h ws hf]
 unfold hadI hadW keyIn
 rw [he,hl,h1,h2,h3,h4,h5]
theorem StoodOk.step {D:DataW Unit} {M:Mast} {ws:List ByteArray} (h:StoodOk D M) (ht:Tidy D) (hf:formedW ws=true) (hs:stepE M ws=0):StoodOk (D.put (klW ws) (.lit (.int .i64 1))) (stepV M ws):=by
 intro us hu
 by_cases he:klW us=klW ws
 ·rw [he,atKey_put_same ht.isMap (klit_key _ _ _)]
  obtain ⟨e0,e1,e2⟩:=klW_inj hu hf he
  have:hadW (stepV M ws) us=true:=by
   unfold hadW keyIn
   rw [e0,e1,e2]
   have d1:tMap≠tEntity:=by decide
   rcases formed_ways hf with ⟨h0,a,b,rfl,ha,hb⟩ | ⟨h0,a,b,c,rfl,ha,hb,hc⟩ | ⟨h0,a,h1,ha⟩
   ·rcases step_ways hs with ⟨w0,_⟩ | ⟨w0,_⟩ | ⟨_,_,_,ev⟩ | ⟨_,w0,_⟩ | ⟨_,w0,_⟩ | ⟨_,w0,_⟩ | ⟨_,w0,_⟩ | ⟨_,w0,_⟩ | ⟨_,w0,_⟩
    case inr.inr.inl =>
     rw [ev,if_pos h0]
     show (G.findK Ent.code (G.insK Ent.code M.ents ⟨a,b⟩) a).isSome=true
     rw [G.findK_ins _ _ _ (entE_zero (by assumption)).1]
     simp
    all_goals exact absurd (h0.symm.trans w0) (by decide)
   ·rcases step_ways hs with ⟨w0,_⟩ | ⟨w0,_⟩ | ⟨_,w0,_⟩ | ⟨_,_,hz,ev⟩ | ⟨_,w0,_⟩ | ⟨_,w0,_⟩ | ⟨_,w0,_⟩ | ⟨_,w0,_⟩ | ⟨_,w0,_⟩
    case inr.inr.inr.inl =>
     rw [ev,if_neg (by rw [h0];exact d1),if_pos h0]
     show (G.findK Lin.key (G.insK Lin.key M.lines ⟨a,b,c⟩) (a,b)).isSome=true
     rw [G.findK_ins _ (⟨a,b,c⟩:Lin) _ (linEr_zero (x:=⟨a,b,c⟩) hz).1]
     simp [Lin.key]
    all_goals exact absurd (h0.symm.trans w0) (by decide)
   ·have ha1:wd ws 1=a:=by rw [h1];rfl
    have hne:wd ws 1≠emp:=by rw [ha1];exact nm_ne ha
    rcases step_ways hs with ⟨w0,_⟩ | ⟨w0,_⟩ | ⟨_,w0,_⟩ | ⟨_,w0,_⟩ | ⟨_,w0,_,ev⟩ | ⟨_,w0,_,ev⟩ | ⟨_,w0,_,ev⟩ | ⟨_,w0,_,ev⟩ | ⟨_,w0,_,ev⟩
    all_goals first
     | (rw [ev,w0];exact decide_eq_true hne)
     | (rcases h0 with h0 | h0 | h0 | h0 | h0 <;> exact absurd (h0.symm.trans w0) (by decide))
  unfold hadI
  rw [this]
  rfl
 ·rw [atKey_put_other he,h us hu]
  have:hadW (stepV M ws) us=hadW M us:=by
   unfold hadW keyIn
   rcases step_ways hs with ⟨w0,_,_,ev⟩ | ⟨w0,_,_,ev⟩ | ⟨_,w0,hz,ev⟩ | ⟨_,w0,hz,ev⟩ | ⟨_,w0,_,ev⟩ | ⟨_,w0,_,ev⟩ | ⟨_,w0,_,ev⟩ | ⟨_,w0,_,ev⟩ | ⟨_,w0,_,ev⟩
   ·rw [ev]
   ·rw [ev]
   ·rw [ev]
    by_cases hu0:wd us 0=tEntity
    ·rw [if_pos hu0,if_pos hu0]
     show (G.findK Ent.code (G.insK Ent.code M.ents (entOf ws)) (keyB us)).isSome=_
     rw [G.findK_ins _ _ _ (entE_zero hz).1,if_neg]
     intro e
     apply he
     unfold klW
     rw [hu0,w0]
     have:keyB ws=(entOf ws).code:=by unfold keyB;rw [if_pos w0];rfl
     rw [this,e]
     unfold keyC
     rw [if_pos hu0,if_pos w0]
    ·rw [if_neg hu0,if_neg hu0]
   ·rw [ev]
    have d1:tMap≠tEntity:=by decide
    by_cases hu0:wd us 0=tMap
    ·rw [if_neg (by rw [hu0];exact d1),if_pos hu0,if_neg (by rw [hu0];exact d1),if_pos hu0]
     show (G.findK Lin.key (G.insK Lin.key M.lines (linOf ws)) (keyB us,keyC us)).isSome=_
     rw [G.findK_ins _ _ _ (linEr_zero hz).1,if_neg]
     intro e
     apply he
     unfold klW
     rw [hu0,w0]
     have:(keyB ws,keyC ws)=(linOf ws).key:=by
      unfold keyB keyC
      rw [if_neg (by rw [w0];exact d1),if_pos w0,if_neg (by rw [w0];exact d1),if_pos w0];rfl
     rw [←this] at e
     rw [Prod.mk.injEq] at e
     rw [e.1,e.2]
    ·rw [if_neg hu0,if_neg hu0]
   all_goals
    rw [ev]
    have k1:wd us 0≠wd ws 0:=fun e=>he (by
     unfold klW
     have hk:∀ xs:List ByteArray,wd xs 0=wd ws 0→keyB xs=emp∧keyC xs=emp:=fun xs hx=>by
      unfold keyB keyC
      rw [hx,w0,if_neg (by decide),if_neg (by decide),if_neg (by decide),if_neg (by decide)]
      exact ⟨rfl,rfl⟩
     rw [e,(hk us e).1,(hk us e).2,(hk ws rfl).1,(hk ws rfl).2])
    rw [w0] at k1
    rcases formed_ways hu with ⟨u0,_⟩ | ⟨u0,_⟩ | ⟨u0 | u0 | u0 | u0 | u0,_⟩ <;> rw [u0] at k1 ⊢ <;> first | rfl | exact absurd rfl k1
  unfold hadI
  rw [this]
end Go.Proofs.YtfhhihamndbcnaaGreatDoor.Un
end
