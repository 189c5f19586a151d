/- UnitKeys UnitSane UnitStood Shelf LexJoin LexBackPlain UnitText UnitRun UnitOk ChartMem ChartFind UnitMem UnitBackP InsR AppendEl EntDoc -/
import Derived.Deep.QuietTactic
import Derived.DeepKeys4
import Derived.Maps.Keyed
import Derived.Maps.OwnSet
import Derived.OwnWalk
import Derived.Shelf.LaysC
import Derived.Shelf.LaysM
import Derived.Shelf.Strconv.ErrVarParseInt
import Derived.Shelf.Strconv.ParseIntPublic10
import Derived.Shelf.Strings.FieldsFuncAny
import Derived.Shelf.Strings.OnBuilder
import Derived.Shelf.Strings.Search2
import Derived.WalkLawsBesides
import Derived.Test.YtdhfpgjnjlcciaaGreatDoorQ01
section
namespace Go.Proofs.YtdhfpgjnjlcciaaGreatDoor.Un
open Go.RowKit Go.Maps
theorem laidOut:laidOutB Tryz.prog=true:=by kernel_rfl
theorem keyRow:(182:TypeId) < Tryz.prog.types.size:=of_decide_eq_true (by kernel_rfl)
theorem zce:(match Tryz.prog.underlying 182 with | some (.array _ _) | some (.struct _)=>true | _=>false)=true:=by kernel_rfl
theorem keyAt2:Tryz.prog.keyTypeAt 2 182=true:=by kernel_rfl
set_option maxRecDepth 100000 in
theorem keyLaw:Keyed Tryz.prog 182:=Keyed.of_law (deep_law_laid laidOut (m:=2) (by decide) keyRow keyAt2 zce)
abbrev aggK (a b c:ByteArray):Value:=.agg #[.string a,.string b,.string c]
def klit (a b c:ByteArray):Lit:=.string (keyBytes [.string a.data.toList,.string b.data.toList,.string c.data.toList])
theorem zeE:Tryz.prog.underlying 182=some (.struct (Tryz.prog.fieldsOf 182))∧(Tryz.prog.fieldsOf 182).toList.map (fun f=>(f.offset,f.type,f.name != "_"))=[(0,9,true),(1,9,true),(2,9,true)]:=⟨by kernel_rfl,by kernel_rfl⟩
theorem zjr:∃ n,Tryz.prog.types.size+1=n+1+1:=by
 have:Tryz.prog.types.size≠0:=Nat.ne_of_gt (Nat.lt_of_le_of_lt (Nat.zero_le _) keyRow)
 exact ⟨Tryz.prog.types.size - 1,by omega⟩
theorem Ye (n:Nat) (s:ByteArray) (h:s.size≤maxLen):Tryz.prog.keyLits (n+1) 9 [.string s]=some [.string s.data.toList]:=by
 unfold Program.keyLits
 rw [Tryz.underlying9]
 simp [h]
theorem zeA (n:Nat) (a b c:ByteArray) (ha:a.size≤maxLen) (hb:b.size≤maxLen) (hc:c.size≤maxLen):∀ (fs:List Field),fs.map (fun f=>(f.offset,f.type,f.name != "_"))=[(0,9,true),(1,9,true),(2,9,true)] →
 (fs.mapM fun f=>Tryz.prog.keyLits (n+1) f.type (([Value.string a,.string b,.string c].drop f.offset).take (Tryz.prog.cellsOf f.type)))=some [[.string a.data.toList],[.string b.data.toList],[.string c.data.toList]]:=by
 intro fs h
 have hc9:Tryz.prog.cellsOf 9=1:=by kernel_rfl
 obtain ⟨f0,f1,f2,rfl⟩:∃ f0 f1 f2,fs=[f0,f1,f2]:=by
  have hl:fs.length=3:=by simpa using congrArg List.length h
  match fs,hl with
  | [f0,f1,f2],_=>exact ⟨f0,f1,f2,rfl⟩
 simp only [List.map_cons,List.map_nil,List.cons.injEq,Prod.mk.injEq,and_true] at h
 obtain ⟨⟨o0,t0,_⟩,⟨o1,t1,_⟩,⟨o2,t2,_⟩⟩:=h
 simp only [List.mapM_cons,List.mapM_nil,o0,o1,o2,t0,t1,t2,hc9,List.drop_zero,List.drop_succ_cons,List.take_succ_cons,List.take_zero,Ye n _ ha,Ye n _ hb,Ye n _ hc]
 rfl
theorem Jo (a b c:ByteArray) (ha:a.size≤maxLen) (hb:b.size≤maxLen) (hc:c.size≤maxLen):keyOf Tryz.prog 182 (aggK a b c)=some (klit a b c):=by
 obtain ⟨hu,hf⟩:=zeE
 have hck:Tryz.prog.cellsOf 182=3:=by kernel_rfl
 have hkt:Tryz.prog.keyType 182=true:=by kernel_rfl
 obtain ⟨n,hn⟩:=zjr
 have hfl:=zeA n a b c ha hb hc _ hf
 have hall:(Tryz.prog.fieldsOf 182).all (·.name != "_")=true:=by kernel_rfl
 have hlits:Tryz.prog.keyLits (Tryz.prog.types.size+1) 182 [.string a,.string b,.string c]=some [.string a.data.toList,.string b.data.toList,.string c.data.toList]:=by
  rw [hn]
  unfold Program.keyLits
  rw [hu]
  simp only [hck,List.length_cons,List.length_nil,hall,and_self,if_true]
  rw [hfl]
  rfl
 unfold keyOf
 rw [hu]
 have hfm:(aggK a b c).formed Tryz.prog 182=true:=by simp [Value.formed,hu,hck]
 simp only [hkt,hfm,Bool.and_self,if_true]
 have hcl:(aggK a b c).cells.toList=[.string a,.string b,.string c]:=rfl
 rw [hcl,hlits]
 rfl
theorem zhx {a b c a' b' c':ByteArray} (ha:a.size≤maxLen) (hb:b.size≤maxLen) (hc:c.size≤maxLen) (ha':a'.size≤maxLen) (hb':b'.size≤maxLen) (hc':c'.size≤maxLen) (h:klit a b c=klit a' b' c'):a=a'∧b=b'∧c=c':=by
 have h1:=Jo a b c ha hb hc
 have h2:=Jo a' b' c' ha' hb' hc'
 rw [←h] at h2
 have:=keyLaw.inj h1 h2
 injection this with e
 injection e with e
 injection e with e0 e
 injection e with e1 e
 injection e with e2 e
 injection e0 with e0
 injection e1 with e1
 injection e2 with e2
 exact ⟨e0,e1,e2⟩
theorem KF (a b c:ByteArray):WideAt.IsKeyLit (klit a b c):=trivial
theorem vM (w:World):(zeroValue 3).run Tryz.prog w=.ok (.int .i64 0) w:=by kernel_rfl
end Go.Proofs.YtdhfpgjnjlcciaaGreatDoor.Un
end
section
namespace Go.Proofs.YtdhfpgjnjlcciaaGreatDoor.Un
open Go.RowKit
structure Sane (M:Mast):Prop where
 ch:riseL M.chart=true
 fl:Fl.riseF M.flows=true
 en:G.riseK Ent.code M.ents=true
 li:G.riseK Lin.key M.lines=true
 lc:M.chart.length≤60
 lf:M.flows.length≤60
 le:M.ents.length≤60
 ll:M.lines.length≤1000
theorem Sane.zero:Sane zeroM:=⟨rfl,by decide,rfl,rfl,by decide,by decide,by decide,by decide⟩
theorem Zi {L:List Ent} {x:Ent} (h:entE L x=0):G.findK Ent.code L x.code=none∧L.length < 60:=by
 unfold entE at h
 cases hf:G.findK Ent.code L x.code with
 | some y=>rw [hf] at h;simp at h
 | none =>
   rw [hf] at h
   simp only [Option.isSome_none,Bool.false_eq_true,if_false] at h
   refine ⟨rfl,?_⟩
   split at h
   ·simp at h
   ·omega
theorem ZO {L:List Lin} {x:Lin} (h:linEr L x=0):G.findK Lin.key L x.key=none∧L.length < 1000:=by
 unfold linEr at h
 cases hf:G.findK Lin.key L x.key with
 | some y=>rw [hf] at h;simp at h
 | none =>
   rw [hf] at h
   simp only [Option.isSome_none,Bool.false_eq_true,if_false] at h
   refine ⟨rfl,?_⟩
   split at h
   ·simp at h
   ·omega
theorem xe {x:ByteArray} (h:oneE x=0):x=emp:=by
 unfold oneE at h
 split at h
 ·assumption
 ·simp at h
theorem kR {M:Mast} {ws:List ByteArray} (h:stepE M ws=0) :
 (wd ws 0=zb∧(parseA ws).2=0∧addE M.chart (parseA ws).1=0∧stepV M ws={ M with chart:=insL M.chart (parseA ws).1 }) ∨
 (wd ws 0=Fl.tFlow∧(Fl.parseF ws).2=0∧Fl.addE M.flows (Fl.parseF ws).1=0∧stepV M ws={ M with flows:=insK Fl.Flow.code M.flows (Fl.parseF ws).1 }) ∨
 (zj ws=true∧wd ws 0=zm∧entE M.ents (entOf ws)=0∧stepV M ws={ M with ents:=G.insK Ent.code M.ents (entOf ws) }) ∨
 (zj ws=true∧wd ws 0=tMap∧linEr M.lines (linOf ws)=0∧stepV M ws={ M with lines:=G.insK Lin.key M.lines (linOf ws) }) ∨
 (zj ws=true∧wd ws 0=tGroup∧M.cur=emp∧stepV M ws={ M with cur:=wd ws 1 }) ∨
 (zj ws=true∧wd ws 0=zI∧M.res=emp∧stepV M ws={ M with res:=wd ws 1 }) ∨
 (zj ws=true∧wd ws 0=zD∧M.dif=emp∧stepV M ws={ M with dif:=wd ws 1 }) ∨
 (zj ws=true∧wd ws 0=tMinor∧M.min=emp∧stepV M ws={ M with min:=wd ws 1 }) ∨
 (zj ws=true∧wd ws 0=tStake∧M.stk=emp∧stepV M ws={ M with stk:=wd ws 1 }):=by
 unfold stepE at h
 unfold stepV
 by_cases h1:wd ws 0=zb
 ·rw [if_pos h1] at h ⊢
  by_cases hp:(parseA ws).2=0
  ·rw [if_pos hp] at h;exact .inl ⟨h1,hp,h,rfl⟩
  ·rw [if_neg hp] at h;exact absurd h hp
 rw [if_neg h1] at h ⊢
 by_cases h2:wd ws 0=Fl.tFlow
 ·rw [if_pos h2] at h ⊢
  by_cases hp:(Fl.parseF ws).2=0
  ·rw [if_pos hp] at h;exact .inr (.inl ⟨h2,hp,h,rfl⟩)
  ·rw [if_neg hp] at h;exact absurd h hp
 rw [if_neg h2] at h ⊢
 cases hf:zj ws with
 | false=>rw [if_pos hf] at h;simp at h
 | true =>
   rw [if_neg (by rw [hf];simp)] at h
   by_cases h3:wd ws 0=zm
   ·rw [if_pos h3] at h ⊢;exact .inr (.inr (.inl ⟨rfl,h3,h,rfl⟩))
   rw [if_neg h3] at h ⊢
   by_cases h4:wd ws 0=tMap
   ·rw [if_pos h4] at h ⊢;exact .inr (.inr (.inr (.inl ⟨rfl,h4,h,rfl⟩)))
   rw [if_neg h4] at h ⊢
   by_cases h5:wd ws 0=tGroup
   ·rw [if_pos h5] at h ⊢;exact .inr (.inr (.inr (.inr (.inl ⟨rfl,h5,xe h,rfl⟩))))
   rw [if_neg h5] at h ⊢
   by_cases h6:wd ws 0=zI
   ·rw [if_pos h6] at h ⊢;exact .inr (.inr (.inr (.inr (.inr (.inl ⟨rfl,h6,xe h,rfl⟩)))))
   rw [if_neg h6] at h ⊢
   by_cases h7:wd ws 0=zD
   ·rw [if_pos h7] at h ⊢;exact .inr (.inr (.inr (.inr (.inr (.inr (.inl ⟨rfl,h7,xe h,rfl⟩))))))
   rw [if_neg h7] at h ⊢
   by_cases h8:wd ws 0=tMinor
   ·rw [if_pos h8] at h ⊢;exact .inr (.inr (.inr (.inr (.inr (.inr (.inr (.inl ⟨rfl,h8,xe h,rfl⟩)))))))
   rw [if_neg h8] at h ⊢
   refine .inr (.inr (.inr (.inr (.inr (.inr (.inr (.inr ⟨rfl,?_,xe h,rfl⟩)))))))
   unfold zj at hf
   rw [Bool.and_eq_true,Bool.and_eq_true,decide_eq_true_eq,decide_eq_true_eq] at hf
   have hl:=hf.2.1
   unfold lenW at hl
   by_cases h9:wd ws 0=tStake
   ·exact h9
   ·rw [if_neg (by simp [h5,h6,h7,h8,h9]),if_neg h3,if_neg h4] at hl
    have:=hf.1
    omega
theorem Sane.step {M:Mast} {ws:List ByteArray} (hs:Sane M) (h:stepE M ws=0):Sane (stepV M ws):=by
 rcases kR h with ⟨_,_,ha,e⟩ | ⟨_,_,ha,e⟩ | ⟨_,_,ha,e⟩ | ⟨_,_,ha,e⟩ | ⟨_,_,_,e⟩ | ⟨_,_,_,e⟩ | ⟨_,_,_,e⟩ | ⟨_,_,_,e⟩ | ⟨_,_,_,e⟩ <;> rw [e]
 ·obtain ⟨_,h2,h3⟩:=xI ha
  exact ⟨Q2 _ _ hs.ch h2,hs.fl,hs.en,hs.li,by show (insL _ _).length≤60;rw [zcb];omega,hs.lf,hs.le,hs.ll⟩
 ·obtain ⟨_,_,_,h3⟩:=Fl.xI (Fl.qm hs.fl) ha
  exact ⟨hs.ch,Fl.Q2 hs.fl ha,hs.en,hs.li,hs.lc,by show (insK _ _ _).length≤60;rw [Zk];omega,hs.le,hs.ll⟩
 ·obtain ⟨h2,h3⟩:=Zi ha
  exact ⟨hs.ch,hs.fl,G.Zz _ _ hs.en h2,hs.li,hs.lc,hs.lf,by show (G.insK _ _ _).length≤60;rw [G.Zk];omega,hs.ll⟩
 ·obtain ⟨h2,h3⟩:=ZO ha
  exact ⟨hs.ch,hs.fl,hs.en,G.Zz _ _ hs.li h2,hs.lc,hs.lf,hs.le,by show (G.insK _ _ _).length≤1000;rw [G.Zk];omega⟩
 all_goals exact ⟨hs.ch,hs.fl,hs.en,hs.li,hs.lc,hs.lf,hs.le,hs.ll⟩
def keyIn (M:Mast) (a b c:ByteArray):Bool :=
 if a=zm then (G.findK Ent.code M.ents b).isSome
 else if a=tMap then (G.findK Lin.key M.lines (b,c)).isSome
 else if a=tGroup then decide (M.cur≠emp)
 else if a=zI then decide (M.res≠emp)
 else if a=zD then decide (M.dif≠emp)
 else if a=tMinor then decide (M.min≠emp)
 else decide (M.stk≠emp)
def keyB (ws:List ByteArray):ByteArray:=if wd ws 0=zm then wd ws 1 else if wd ws 0=tMap then wd ws 1 else emp
def keyC (ws:List ByteArray):ByteArray:=if wd ws 0=zm then emp else if wd ws 0=tMap then wd ws 2 else emp
def hadW (M:Mast) (ws:List ByteArray):Bool:=keyIn M (wd ws 0) (keyB ws) (keyC ws)
def keepE (M:Mast) (ws:List ByteArray):Int :=
 if wd ws 0=zm then (if 60≤M.ents.length then 4 else 0) else if wd ws 0=tMap then (if 1000≤M.lines.length then 4 else 0) else 0
theorem vC (x:ByteArray):oneE x=if decide (x≠emp)=true then 7 else 0:=by
 unfold oneE
 by_cases h:x=emp <;> simp [h]
theorem zjf {M:Mast} {ws:List ByteArray} (h1:wd ws 0≠zb) (h2:wd ws 0≠Fl.tFlow) (h3:zj ws=true):stepE M ws=if hadW M ws=true then 7 else keepE M ws:=by
 unfold stepE hadW keyIn keepE
 rw [if_neg h1,if_neg h2,if_neg (by rw [h3];simp)]
 have t1:tMap≠zm:=by decide
 by_cases h4:wd ws 0=zm
 ·simp only [if_pos h4]
  unfold entE
  have:keyB ws=(entOf ws).code:=by unfold keyB;rw [if_pos h4];rfl
  rw [this]
 simp only [if_neg h4]
 by_cases h5:wd ws 0=tMap
 ·simp only [if_pos h5]
  unfold linEr
  have:(keyB ws,keyC ws)=(linOf ws).key:=by unfold keyB keyC;rw [if_neg h4,if_pos h5,if_neg h4,if_pos h5];rfl
  rw [this]
 simp only [if_neg h5]
 by_cases h6:wd ws 0=tGroup
 ·simp only [if_pos h6];exact vC _
 simp only [if_neg h6]
 by_cases h7:wd ws 0=zI
 ·simp only [if_pos h7];exact vC _
 simp only [if_neg h7]
 by_cases h8:wd ws 0=zD
 ·simp only [if_pos h8];exact vC _
 simp only [if_neg h8]
 by_cases h9:wd ws 0=tMinor
 ·simp only [if_pos h9];exact vC _
 simp only [if_neg h9];exact vC _
end Go.Proofs.YtdhfpgjnjlcciaaGreatDoor.Un
end
section
namespace Go.Proofs.YtdhfpgjnjlcciaaGreatDoor.Un
open Go.RowKit Go.Maps
theorem Z8 {s:ByteArray} (h:nmB s=true):1≤s.size∧s.size≤12:=by
 unfold nmB nameL at h
 rw [Bool.and_eq_true,Bool.and_eq_true,decide_eq_true_eq,zv] at h
 exact h.1.1
theorem kG {s:ByteArray} (h:nmB s=true):s≠emp:=by
 intro e
 subst e
 exact absurd h (by decide)
theorem jk {ws:List ByteArray} (h:zj ws=true) :
 (wd ws 0=zm∧(∃ a b,ws=[zm,a,b]∧nmB a=true∧nmB b=true)) ∨
 (wd ws 0=tMap∧(∃ a b c,ws=[tMap,a,b,c]∧nmB a=true∧nmB b=true∧nmB c=true)) ∨
 ((wd ws 0=tGroup∨wd ws 0=zI∨wd ws 0=zD∨wd ws 0=tMinor∨wd ws 0=tStake)∧(∃ a,ws=[wd ws 0,a]∧nmB a=true)):=by
 unfold zj at h
 rw [Bool.and_eq_true,Bool.and_eq_true,decide_eq_true_eq,decide_eq_true_eq] at h
 obtain ⟨h0,hl,hn⟩:=h
 have wd0:∀ (a:ByteArray) (r:List ByteArray),wd (a::r) 0=a:=fun a r=>rfl
 unfold lenW at hl
 unfold namesW at hn
 split at hl
 ·rename_i hh
  have:ws.length=2:=by omega
  match ws,this with
  | [x,a],_ =>
    simp at hn
    exact .inr (.inr ⟨hh,a,rfl,hn⟩)
 ·split at hl
  ·rename_i hh
   have:ws.length=3:=by omega
   match ws,this with
   | [x,a,b],_ =>
     simp at hn
     rw [wd0] at hh
     subst hh
     exact .inl ⟨rfl,a,b,rfl,hn⟩
  ·split at hl
   ·rename_i hh
    have:ws.length=4:=by omega
    match ws,this with
    | [x,a,b,c],_ =>
      simp at hn
      rw [wd0] at hh
      subst hh
      exact .inr (.inl ⟨rfl,a,b,c,rfl,hn⟩)
   ·omega
theorem jG {n:Nat} (h:n≤100):n≤maxLen:=by unfold maxLen;omega
theorem Jz {ws:List ByteArray} (h:zj ws=true):(wd ws 0).size≤100∧(keyB ws).size≤100∧(keyC ws).size≤100:=by
 have e0:emp.size≤100:=by decide
 rcases jk h with ⟨h0,a,b,rfl,ha,hb⟩ | ⟨h0,a,b,c,rfl,ha,hb,hc⟩ | ⟨h0,a,h1,ha⟩
 ·have:=Z8 ha
  exact ⟨show zm.size≤100 by decide,by show a.size≤100;omega,e0⟩
 ·have:=Z8 ha
  have:=Z8 hb
  exact ⟨show tMap.size≤100 by decide,by show a.size≤100;omega,by show b.size≤100;omega⟩
 ·have k1:wd ws 0≠zm:=by rcases h0 with h | h | h | h | h <;> rw [h] <;> decide
  have k2:wd ws 0≠tMap:=by rcases h0 with h | h | h | h | h <;> rw [h] <;> decide
  unfold keyB keyC
  rw [if_neg k1,if_neg k2,if_neg k1,if_neg k2]
  exact ⟨by rcases h0 with h | h | h | h | h <;> rw [h] <;> decide,e0,e0⟩
abbrev klW (ws:List ByteArray):Lit:=klit (wd ws 0) (keyB ws) (keyC ws)
theorem zgH {ws us:List ByteArray} (h:zj ws=true) (h':zj us=true) (e:klW ws=klW us):wd ws 0=wd us 0∧keyB ws=keyB us∧keyC ws=keyC us:=by
 obtain ⟨a,b,c⟩:=Jz h
 obtain ⟨a',b',c'⟩:=Jz h'
 exact zhx (jG a) (jG b) (jG c) (jG a') (jG b') (jG c') e
def hadI (M:Mast) (ws:List ByteArray):Int:=if hadW M ws=true then 1 else 0
def zT (D:DataW Unit) (M:Mast):Prop:=∀ ws,zj ws=true→D.atKey (klW ws) (.lit (.int .i64 0))=.lit (.int .i64 (hadI M ws))
theorem zT.zero:zT (.map []) zeroM:=fun ws h=>by
 have:hadW zeroM ws=false:=by
  unfold hadW keyIn
  rcases jk h with ⟨h0,_⟩ | ⟨h0,_⟩ | ⟨h0,_⟩
  ·rw [h0];rfl
  ·rw [h0];rfl
  ·rcases h0 with h0 | h0 | h0 | h0 | h0 <;> rw [h0] <;> rfl
 unfold hadI
 rw [this]
 rfl
theorem zT.same {D:DataW Unit} {M M':Mast} (h:zT D M) (he:M'.ents=M.ents) (hl:M'.lines=M.lines) (h1:M'.cur=M.cur) (h2:M'.res=M.res) (h3:M'.dif=M.dif) (h4:M'.min=M.min) (h5:M'.stk=M.stk):zT D M':=fun ws hf=>by
 rw [h ws hf]
 unfold hadI hadW keyIn
 rw [he,hl,h1,h2,h3,h4,h5]
theorem zT.step {D:DataW Unit} {M:Mast} {ws:List ByteArray} (h:zT D M) (ht:Tidy D) (hf:zj ws=true) (hs:stepE M ws=0):zT (D.put (klW ws) (.lit (.int .i64 1))) (stepV M ws):=by
 intro us hu
 by_cases he:klW us=klW ws
 ·rw [he,atKey_put_same ht.isMap (KF _ _ _)]
  obtain ⟨e0,e1,e2⟩:=zgH hu hf he
  have:hadW (stepV M ws) us=true:=by
   unfold hadW keyIn
   rw [e0,e1,e2]
   have d1:tMap≠zm:=by decide
   rcases jk hf with ⟨h0,a,b,rfl,ha,hb⟩ | ⟨h0,a,b,c,rfl,ha,hb,hc⟩ | ⟨h0,a,h1,ha⟩
   ·rcases kR hs with ⟨w0,_⟩ | ⟨w0,_⟩ | ⟨_,_,_,ev⟩ | ⟨_,w0,_⟩ | ⟨_,w0,_⟩ | ⟨_,w0,_⟩ | ⟨_,w0,_⟩ | ⟨_,w0,_⟩ | ⟨_,w0,_⟩
    case inr.inr.inl =>
     rw [ev,if_pos h0]
     show (G.findK Ent.code (G.insK Ent.code M.ents ⟨a,b⟩) a).isSome=true
     rw [G.vO _ _ _ (Zi (by assumption)).1]
     simp
    all_goals exact absurd (h0.symm.trans w0) (by decide)
   ·rcases kR hs with ⟨w0,_⟩ | ⟨w0,_⟩ | ⟨_,w0,_⟩ | ⟨_,_,hz,ev⟩ | ⟨_,w0,_⟩ | ⟨_,w0,_⟩ | ⟨_,w0,_⟩ | ⟨_,w0,_⟩ | ⟨_,w0,_⟩
    case inr.inr.inr.inl =>
     rw [ev,if_neg (by rw [h0];exact d1),if_pos h0]
     show (G.findK Lin.key (G.insK Lin.key M.lines ⟨a,b,c⟩) (a,b)).isSome=true
     rw [G.vO _ (⟨a,b,c⟩:Lin) _ (ZO (x:=⟨a,b,c⟩) hz).1]
     simp [Lin.key]
    all_goals exact absurd (h0.symm.trans w0) (by decide)
   ·have ha1:wd ws 1=a:=by rw [h1];rfl
    have hne:wd ws 1≠emp:=by rw [ha1];exact kG ha
    rcases kR hs with ⟨w0,_⟩ | ⟨w0,_⟩ | ⟨_,w0,_⟩ | ⟨_,w0,_⟩ | ⟨_,w0,_,ev⟩ | ⟨_,w0,_,ev⟩ | ⟨_,w0,_,ev⟩ | ⟨_,w0,_,ev⟩ | ⟨_,w0,_,ev⟩
    all_goals first
     | (rw [ev,w0];exact decide_eq_true hne)
     | (rcases h0 with h0 | h0 | h0 | h0 | h0 <;> exact absurd (h0.symm.trans w0) (by decide))
  unfold hadI
  rw [this]
  rfl
 ·rw [atKey_put_other he,h us hu]
  have:hadW (stepV M ws) us=hadW M us:=by
   unfold hadW keyIn
   rcases kR hs with ⟨w0,_,_,ev⟩ | ⟨w0,_,_,ev⟩ | ⟨_,w0,hz,ev⟩ | ⟨_,w0,hz,ev⟩ | ⟨_,w0,_,ev⟩ | ⟨_,w0,_,ev⟩ | ⟨_,w0,_,ev⟩ | ⟨_,w0,_,ev⟩ | ⟨_,w0,_,ev⟩
   ·rw [ev]
   ·rw [ev]
   ·rw [ev]
    by_cases hu0:wd us 0=zm
    ·rw [if_pos hu0,if_pos hu0]
     show (G.findK Ent.code (G.insK Ent.code M.ents (entOf ws)) (keyB us)).isSome=_
     rw [G.vO _ _ _ (Zi hz).1,if_neg]
     intro e
     apply he
     unfold klW
     rw [hu0,w0]
     have:keyB ws=(entOf ws).code:=by unfold keyB;rw [if_pos w0];rfl
     rw [this,e]
     unfold keyC
     rw [if_pos hu0,if_pos w0]
    ·rw [if_neg hu0,if_neg hu0]
   ·rw [ev]
    have d1:tMap≠zm:=by decide
    by_cases hu0:wd us 0=tMap
    ·rw [if_neg (by rw [hu0];exact d1),if_pos hu0,if_neg (by rw [hu0];exact d1),if_pos hu0]
     show (G.findK Lin.key (G.insK Lin.key M.lines (linOf ws)) (keyB us,keyC us)).isSome=_
     rw [G.vO _ _ _ (ZO hz).1,if_neg]
     intro e
     apply he
     unfold klW
     rw [hu0,w0]
     have:(keyB ws,keyC ws)=(linOf ws).key:=by
      unfold keyB keyC
      rw [if_neg (by rw [w0];exact d1),if_pos w0,if_neg (by rw [w0];exact d1),if_pos w0];rfl
     rw [←this] at e
     rw [Prod.mk.injEq] at e
     rw [e.1,e.2]
    ·rw [if_neg hu0,if_neg hu0]
   all_goals
    rw [ev]
    have k1:wd us 0≠wd ws 0:=fun e=>he (by
     unfold klW
     have hk:∀ xs:List ByteArray,wd xs 0=wd ws 0→keyB xs=emp∧keyC xs=emp:=fun xs hx=>by
      unfold keyB keyC
      rw [hx,w0,if_neg (by decide),if_neg (by decide),if_neg (by decide),if_neg (by decide)]
      exact ⟨rfl,rfl⟩
     rw [e,(hk us e).1,(hk us e).2,(hk ws rfl).1,(hk ws rfl).2])
    rw [w0] at k1
    rcases jk hu with ⟨u0,_⟩ | ⟨u0,_⟩ | ⟨u0 | u0 | u0 | u0 | u0,_⟩ <;> rw [u0] at k1 ⊢ <;> first | rfl | exact absurd rfl k1
  unfold hadI
  rw [this]
end Go.Proofs.YtdhfpgjnjlcciaaGreatDoor.Un
end
section
namespace Go.Proofs
open Go.Shelf
def Tryz.zhl:Go.Shelf.Ren:=⟨fun | 174=>191 | 247=>211 | 245=>212 | 287=>221 | 279=>222 | 280=>223 | 281=>224 | 282=>225 | 321=>231 | 322=>232 | 316=>233 | 171=>235 | 205=>234 | 243=>236 | 246=>237 | 283=>238 | 284=>239 | 285=>240 | 286=>241 | 129=>153 | 317=>242 | 318=>243 | 319=>244 | 320=>245 | 337=>246 | 338=>247 | n=>n,fun | 9=>9 | 3=>3 | 2=>2 | 75=>297 | 85=>298 | 4=>4 | 167=>322 | 5=>5 | 53=>265 | 175=>323 | 46=>200 | 168=>325 | 37=>333 | 0=>0 | 210=>335 | 21=>21 | 127=>338 | 145=>341 | 143=>339 | 171=>343 | 173=>345 | 212=>348 | 51=>263 | 20=>20 | 213=>349 | 232=>350 | 233=>351 | 80=>352 | n=>n,fun | 15=>3 | 16=>4 | 17=>5 | 18=>6 | 19=>7 | n=>n⟩
theorem Tryz.K0:Go.Proofs.LaysC.n174 Tryz.prog Tryz.zhl:={
 mixed:=by kernel_rfl
 f129:=Tryz.func153.trans (congrArg some (by kernel_rfl))
 f171:=Tryz.func235.trans (congrArg some (by kernel_rfl))
 f174:=Tryz.func191.trans (congrArg some (by kernel_rfl))
 f205:=Tryz.func234.trans (congrArg some (by kernel_rfl))
 f243:=Tryz.func236.trans (congrArg some (by kernel_rfl))
 f245:=Tryz.func212.trans (congrArg some (by kernel_rfl))
 f246:=Tryz.func237.trans (congrArg some (by kernel_rfl))
 f247:=Tryz.func211.trans (congrArg some (by kernel_rfl))
 f279:=Tryz.func222.trans (congrArg some (by kernel_rfl))
 f280:=Tryz.func223.trans (congrArg some (by kernel_rfl))
 f281:=Tryz.func224.trans (congrArg some (by kernel_rfl))
 f282:=Tryz.func225.trans (congrArg some (by kernel_rfl))
 f283:=Tryz.func238.trans (congrArg some (by kernel_rfl))
 f284:=Tryz.func239.trans (congrArg some (by kernel_rfl))
 f285:=Tryz.func240.trans (congrArg some (by kernel_rfl))
 f286:=Tryz.func241.trans (congrArg some (by kernel_rfl))
 f287:=Tryz.func221.trans (congrArg some (by kernel_rfl))
 f316:=Tryz.func233.trans (congrArg some (by kernel_rfl))
 f317:=Tryz.func242.trans (congrArg some (by kernel_rfl))
 f318:=Tryz.func243.trans (congrArg some (by kernel_rfl))
 f319:=Tryz.func244.trans (congrArg some (by kernel_rfl))
 f320:=Tryz.func245.trans (congrArg some (by kernel_rfl))
 f321:=Tryz.func231.trans (congrArg some (by kernel_rfl))
 f322:=Tryz.func232.trans (congrArg some (by kernel_rfl))
 f337:=Tryz.func246.trans (congrArg some (by kernel_rfl))
 f338:=Tryz.func247.trans (congrArg some (by kernel_rfl))
 t0:=Tryz.underlying0
 a0:=Tryz.isAgg0
 z0:=Tryz.sizeOf0
 v0:=Tryz.zeroValue0
 t2:=Tryz.underlying2
 a2:=Tryz.isAgg2
 z2:=Tryz.sizeOf2
 v2:=Tryz.zeroValue2
 t3:=Tryz.underlying3
 a3:=Tryz.isAgg3
 z3:=Tryz.sizeOf3
 v3:=Tryz.zeroValue3
 t4:=Tryz.underlying4
 a4:=Tryz.isAgg4
 z4:=Tryz.sizeOf4
 v4:=Tryz.zeroValue4
 t5:=Tryz.underlying5
 a5:=Tryz.isAgg5
 z5:=Tryz.sizeOf5
 v5:=Tryz.zeroValue5
 t9:=Tryz.underlying9
 a9:=Tryz.isAgg9
 z9:=Tryz.sizeOf9
 v9:=Tryz.zeroValue9
 t20:=Tryz.underlying20
 a20:=Tryz.isAgg20
 z20:=Tryz.sizeOf20
 v20:=Tryz.zeroValue20
 t21:=Tryz.underlying21
 a21:=Tryz.isAgg21
 z21:=Tryz.sizeOf21
 v21:=Tryz.zeroValue21
 t37:=Tryz.underlying333
 a37:=Tryz.isAgg333
 z37:=Tryz.sizeOf333
 v37:=Tryz.zeroValue333
 t46:=Tryz.underlying200
 a46:=Tryz.isAgg200
 z46:=Tryz.sizeOf200
 v46:=Tryz.zeroValue200
 t51:=Tryz.underlying263
 a51:=Tryz.isAgg263
 z51:=Tryz.sizeOf263
 v51:=Tryz.zeroValue263
 t53:=Tryz.underlying265
 a53:=Tryz.isAgg265
 z53:=Tryz.sizeOf265
 v53:=Tryz.zeroValue265
 t75:=Tryz.underlying297
 a75:=Tryz.isAgg297
 z75:=Tryz.sizeOf297
 v75:=Tryz.zeroValue297
 t85:=Tryz.underlying298
 a85:=Tryz.isAgg298
 z85:=Tryz.sizeOf298
 v85:=Tryz.zeroValue298
 t127:=Tryz.underlying338
 a127:=Tryz.isAgg338
 z127:=Tryz.sizeOf338
 v127:=Tryz.zeroValue338
 t143:=Tryz.underlying339
 a143:=Tryz.isAgg339
 z143:=Tryz.sizeOf339
 v143:=Tryz.zeroValue339
 t145:=Tryz.underlying341
 a145:=Tryz.isAgg341
 z145:=Tryz.sizeOf341
 v145:=Tryz.zeroValue341
 t167:=Tryz.underlying322
 a167:=Tryz.isAgg322
 z167:=Tryz.sizeOf322
 v167:=Tryz.zeroValue322
 t168:=Tryz.underlying325
 a168:=Tryz.isAgg325
 z168:=Tryz.sizeOf325
 v168:=Tryz.zeroValue325
 t171:=Tryz.underlying343
 a171:=Tryz.isAgg343
 z171:=Tryz.sizeOf343
 v171:=Tryz.zeroValue343
 t173:=Tryz.underlying345
 a173:=Tryz.isAgg345
 z173:=Tryz.sizeOf345
 v173:=Tryz.zeroValue345
 t175:=Tryz.underlying323
 a175:=Tryz.isAgg323
 z175:=Tryz.sizeOf323
 v175:=Tryz.zeroValue323
 t210:=Tryz.underlying335
 a210:=Tryz.isAgg335
 z210:=Tryz.sizeOf335
 v210:=Tryz.zeroValue335
 t212:=Tryz.underlying348
 a212:=Tryz.isAgg348
 z212:=Tryz.sizeOf348
 v212:=Tryz.zeroValue348
 t213:=Tryz.underlying349
 a213:=Tryz.isAgg349
 z213:=Tryz.sizeOf349
 t232:=Tryz.underlying350
 a232:=Tryz.isAgg350
 z232:=Tryz.sizeOf350
 v232:=Tryz.zeroValue350
 t233:=Tryz.underlying351
 a233:=Tryz.isAgg351
 z233:=Tryz.sizeOf351
 v233:=Tryz.zeroValue351
 g15:=by kernel_rfl
 g16:=by kernel_rfl
 g17:=by kernel_rfl
 g18:=by kernel_rfl
 g19:=by kernel_rfl
 t80:=Tryz.underlying352
 a80:=Tryz.isAgg352
 z80:=Tryz.sizeOf352
 v80:=Tryz.zeroValue352
 i0:=by kernel_rfl
 i2:=by kernel_rfl
 i3:=by kernel_rfl
 i4:=by kernel_rfl
 i5:=by kernel_rfl
 i9:=by kernel_rfl
 i20:=by kernel_rfl
 i21:=by kernel_rfl
 i37:=by kernel_rfl
 i46:=by kernel_rfl
 i51:=by kernel_rfl
 i53:=by kernel_rfl
 i75:=by kernel_rfl
 i80:=by kernel_rfl
 i85:=by kernel_rfl
 i127:=by kernel_rfl
 i143:=by kernel_rfl
 i145:=by kernel_rfl
 i167:=by kernel_rfl
 i168:=by kernel_rfl
 i171:=by kernel_rfl
 i173:=by kernel_rfl
 i175:=by kernel_rfl
 i210:=by kernel_rfl
 i212:=by kernel_rfl
 i232:=by kernel_rfl
 i233:=by kernel_rfl
 m15:=by kernel_rfl
 m16:=by kernel_rfl
 m17:=by kernel_rfl
 m18:=by kernel_rfl
 m19:=by kernel_rfl
 c0:=by kernel_rfl
 c2:=by kernel_rfl
 c3:=by kernel_rfl
 c4:=by kernel_rfl
 c5:=by kernel_rfl
 c9:=by kernel_rfl
 c20:=by kernel_rfl
 c21:=by kernel_rfl
 c37:=by kernel_rfl
 c46:=by kernel_rfl
 c51:=by kernel_rfl
 c53:=by kernel_rfl
 c75:=by kernel_rfl
 c80:=by kernel_rfl
 c85:=by kernel_rfl
 c127:=by kernel_rfl
 c143:=by kernel_rfl
 c145:=by kernel_rfl
 c167:=by kernel_rfl
 c168:=by kernel_rfl
 c171:=by kernel_rfl
 c173:=by kernel_rfl
 c175:=by kernel_rfl
 c210:=by kernel_rfl
 c212:=by kernel_rfl
 c213:=by kernel_rfl
 c232:=by kernel_rfl
 c233:=by kernel_rfl }
open Go.RowKit in
theorem Tryz.strconv_ParseInt_10_at64_ok (s:ByteArray) (hmax:s.size≤9223372036854775806) (v:Int) (h:Lib.parseIntB 64 s.data.toList=.ok v) (w:World) :
 Calls Tryz.prog 191 #[.string s,.int .i64 10,.int .i64 64] w fun e w'=>e=.returned (.tuple #[.int .i64 v,.nilIface])∧(w'=w∨∃ t,w'=Lib.bytesWorld w 5 t):=Any.strconv_ParseInt_10_at64_ok Tryz.K0 s hmax v h w
open Go.RowKit in
theorem Tryz.strconv_ParseInt_10_at64_range_var (s:ByteArray) (hlim:s.size≤281474976710656) (h:Lib.parseIntB 64 s.data.toList=.range) (tp:TypeId) (p:Value) (w:World) (hvar:w.var? Tryz.prog "strconv.ErrRange"=some #[.iface tp p]) :
 Calls Tryz.prog 191 #[.string s,.int .i64 10,.int .i64 64] w fun e w'=>∃ N,e=.returned (.tuple #[.int .i64 (Lib.intSat 64 s.data.toList),.iface 325 (.pointer (some ⟨N,0,none⟩))])∧w.heap.size≤N∧w'.heap[N]?=some (.cells #[.string ⟨#[80,97,114,115,101,73,110,116]⟩,.string s,.iface tp p] 335 (0,0))∧Below w.heap.size w w':=Any.strconv_ParseInt_10_at64_range_var Tryz.K0 s hlim h tp p w hvar
def Tryz.zbE:Go.Shelf.Ren:=⟨fun | 219=>189 | 217=>206 | 225=>207 | 224=>208 | 267=>209 | 266=>219 | 314=>220 | n=>n,fun | 9=>9 | 3=>3 | 4=>4 | 5=>5 | 46=>200 | 146=>320 | 51=>263 | n=>n,fun | 1=>0 | n=>n⟩
theorem Tryz.zhj:Go.Proofs.Lays.n219 Tryz.prog Tryz.zbE:={
 mixed:=by kernel_rfl
 f217:=Tryz.func206.trans (congrArg some (by kernel_rfl))
 f219:=Tryz.func189.trans (congrArg some (by kernel_rfl))
 f224:=Tryz.func208.trans (congrArg some (by kernel_rfl))
 f225:=Tryz.func207.trans (congrArg some (by kernel_rfl))
 f266:=Tryz.func219.trans (congrArg some (by kernel_rfl))
 f267:=Tryz.func209.trans (congrArg some (by kernel_rfl))
 f314:=Tryz.func220.trans (congrArg some (by kernel_rfl))
 t3:=Tryz.underlying3
 a3:=Tryz.isAgg3
 z3:=Tryz.sizeOf3
 v3:=Tryz.zeroValue3
 t4:=Tryz.underlying4
 a4:=Tryz.isAgg4
 z4:=Tryz.sizeOf4
 v4:=Tryz.zeroValue4
 t5:=Tryz.underlying5
 a5:=Tryz.isAgg5
 z5:=Tryz.sizeOf5
 v5:=Tryz.zeroValue5
 t9:=Tryz.underlying9
 a9:=Tryz.isAgg9
 z9:=Tryz.sizeOf9
 v9:=Tryz.zeroValue9
 t46:=Tryz.underlying200
 a46:=Tryz.isAgg200
 z46:=Tryz.sizeOf200
 v46:=Tryz.zeroValue200
 t51:=Tryz.underlying263
 a51:=Tryz.isAgg263
 z51:=Tryz.sizeOf263
 v51:=Tryz.zeroValue263
 t146:=Tryz.underlying320
 a146:=Tryz.isAgg320
 z146:=Tryz.sizeOf320
 v146:=Tryz.zeroValue320
 g1:=by kernel_rfl }
open Go.RowKit Go.Lib in
theorem Tryz.stringslite_Index_one (s:ByteArray) (c:UInt8) (w:World) :
 Calls Tryz.prog 189 #[.string s,.string ⟨#[c]⟩] w fun e w'=>e=.returned (.int .i64 (Lib.indexByte s.data.toList c))∧w'=w:=Any.stringslite_Index_one Tryz.zhj s c w
def Tryz.zft:Go.Shelf.Ren:=⟨fun | 229=>111 | n=>n,fun | 9=>9 | 40=>209 | 31=>105 | 152=>266 | 3=>3 | 0=>0 | 4=>4 | 21=>21 | 154=>268 | n=>n,fun | n=>n⟩
theorem Tryz.zea:Go.Proofs.Lays.n229 Tryz.prog Tryz.zft:={
 mixed:=by kernel_rfl
 f229:=Tryz.func111.trans (congrArg some (by kernel_rfl))
 t0:=Tryz.underlying0
 a0:=Tryz.isAgg0
 z0:=Tryz.sizeOf0
 v0:=Tryz.zeroValue0
 t3:=Tryz.underlying3
 a3:=Tryz.isAgg3
 z3:=Tryz.sizeOf3
 v3:=Tryz.zeroValue3
 t4:=Tryz.underlying4
 a4:=Tryz.isAgg4
 z4:=Tryz.sizeOf4
 v4:=Tryz.zeroValue4
 t9:=Tryz.underlying9
 a9:=Tryz.isAgg9
 z9:=Tryz.sizeOf9
 v9:=Tryz.zeroValue9
 t21:=Tryz.underlying21
 a21:=Tryz.isAgg21
 z21:=Tryz.sizeOf21
 v21:=Tryz.zeroValue21
 t31:=Tryz.underlying105
 a31:=Tryz.isAgg105
 z31:=Tryz.sizeOf105
 v31:=Tryz.zeroValue105
 t40:=Tryz.underlying209
 a40:=Tryz.isAgg209
 z40:=Tryz.sizeOf209
 v40:=Tryz.zeroValue209
 t152:=Tryz.underlying266
 a152:=Tryz.isAgg266
 z152:=Tryz.sizeOf266
 v152:=Tryz.zeroValue266
 t154:=Tryz.underlying268
 a154:=Tryz.isAgg268
 z154:=Tryz.sizeOf268
 v154:=Tryz.zeroValue268 }
open Go.RowKit Go.Lib in
theorem Tryz.strings_FieldsFunc_runes (g:Nat) (lb:Array Value) (eg:∀ args w,(callFunc g args).run Tryz.prog w=.ok (.enter g args) w) (p:Nat→Bool) (s:ByteArray) (w:World) (hs:s.size≤4294967296) (hp:PredAtRunes Tryz.prog g lb p w) :
 Calls Tryz.prog 111 #[.string s,.func (.func g) #[] lb] w fun e w'=>∃ A,e=.returned (.slice (some ⟨A,0,none⟩) (Lib.goFieldsP p s).length (Lib.goFieldsP p s).length)∧w.heap.size≤A ∧
  w'.ownsRow w.heap.size 9 1 (.slice (some ⟨A,0,none⟩) (Lib.goFieldsP p s).length (Lib.goFieldsP p s).length) (Lib.goFieldsP p s).length ((Lib.goFieldsP p s).map Value.string)∧Below w.heap.size w w':=Any.strings_FieldsFunc_runes Tryz.zea g lb eg p s w hs hp (by kernel_rfl) (by kernel_rfl)
end Go.Proofs
end
section
namespace Go.Proofs.YtdhfpgjnjlcciaaGreatDoor
open Go.RowKit
def lineL (ws:List ByteArray):List UInt8:=Lib.join (ws.map (·.data.toList)) [32]
end Go.Proofs.YtdhfpgjnjlcciaaGreatDoor
end
section
namespace Go.Proofs.YtdhfpgjnjlcciaaGreatDoor
def rwB (c:UInt8):Bool:=decide (33≤c.toNat∧c.toNat≤126∧c.toNat≠35)
def rightL (l:List UInt8):Bool:=decide (l≠[]) && l.all rwB
def openF (ws:List (List UInt8)) (r:List UInt8):List (List UInt8):=match ws.getLast? with
 | none=>zg [] r
 | some x=>ws.dropLast++zg x r
theorem Y8 (r:List UInt8):openF [] r=zg [] r:=rfl
theorem ZH (ws:List (List UInt8)) (x r:List UInt8):openF (ws++[x]) r=ws++zg x r:=by simp [openF]
structure PartOf (U:List UInt8) (ws:List (List UInt8)):Prop where
 ok:okL U=true
 n10:(10:UInt8) ∉ U
 n35:(35:UInt8) ∉ U
 ne:∀ x∈ws,x≠[]
 fl:∀ r,zg [] (U++r)=openF ws r
structure kV (U:List UInt8) (ws:List (List UInt8)):Prop where
 ok:okL U=true
 n10:(10:UInt8) ∉ U
 n35:(35:UInt8) ∉ U
 ne:∀ x∈ws,x≠[]
 fl:∀ r,zg [] (U++r)=ws++zg [] r
theorem y8 (a b:List UInt8):okL (a++b)=(okL a && okL b):=by simp [okL]
theorem YI {g:List UInt8} (h:g.all gapB=true):okL g=true∧(10:UInt8) ∉ g∧(35:UInt8) ∉ g:=by
 have h1:=List.all_eq_true.1 h
 refine ⟨List.all_eq_true.2 fun c hc=>?_,fun hm=>?_,fun hm=>?_⟩
 ·have:=h1 c hc
  unfold gapB at this
  rw [Bool.or_eq_true,beq_iff_eq,beq_iff_eq] at this
  rcases this with rfl | rfl <;> decide
 ·have:=h1 _ hm;revert this;decide
 ·have:=h1 _ hm;revert this;decide
theorem zcJ {x:List UInt8} (h:rightL x=true):x≠[]∧okL x=true∧(10:UInt8) ∉ x∧(35:UInt8) ∉ x∧x.all (fun c=>!gapB c)=true:=by
 unfold rightL at h
 rw [Bool.and_eq_true] at h
 have h0:=of_decide_eq_true h.1
 have h1:=List.all_eq_true.1 h.2
 refine ⟨h0,List.all_eq_true.2 fun c hc=>?_,fun hm=>?_,fun hm=>?_,List.all_eq_true.2 fun c hc=>?_⟩
 ·have:=of_decide_eq_true (h1 c hc)
  unfold okB
  rw [Bool.or_eq_true,Bool.and_eq_true]
  exact .inr ⟨decide_eq_true (by omega),decide_eq_true (by omega)⟩
 ·have:=h1 _ hm;revert this;decide
 ·have:=h1 _ hm;revert this;decide
 ·have:=of_decide_eq_true (h1 c hc)
  have h9:c≠9:=fun e=>by subst e;revert this;decide
  have h32:c≠32:=fun e=>by subst e;revert this;decide
  simp [gapB,h9,h32]
theorem zfH {g:List UInt8} (h:g.all gapB=true):PartOf g []:=by
 obtain ⟨h1,h2,h3⟩:=YI h
 exact ⟨h1,h2,h3,(fun x hx=>by cases hx),fun r=>by rw [Vt g r h,Y8]⟩
theorem PartOf.gap0 {U:List UInt8} (h:PartOf U []):kV U []:=⟨h.ok,h.n10,h.n35,h.ne,fun r=>by rw [h.fl,Y8];rfl⟩
theorem PartOf.gap {U g:List UInt8} {ws:List (List UInt8)} (h:PartOf U ws) (hw:ws≠[]) (hg:g.all gapB=true) (hg0:g≠[]):kV (U++g) ws:=by
 obtain ⟨h1,h2,h3⟩:=YI hg
 refine ⟨by rw [y8,h.ok,h1];rfl,by simp [h.n10,h2],by simp [h.n35,h3],h.ne,fun r=>?_⟩
 obtain ⟨ws',x,rfl⟩:∃ ws' x,ws=ws'++[x]:=⟨ws.dropLast,ws.getLast hw,(List.dropLast_concat_getLast hw).symm⟩
 rw [List.append_assoc,h.fl,ZH,zgy x g r hg0 (h.ne x (by simp)) hg]
 simp
theorem kV.word {U x:List UInt8} {ws:List (List UInt8)} (h:kV U ws) (hx:rightL x=true):PartOf (U++x) (ws++[x]):=by
 obtain ⟨h0,h1,h2,h3,h4⟩:=zcJ hx
 refine ⟨by rw [y8,h.ok,h1];rfl,by simp [h.n10,h2],by simp [h.n35,h3],fun y hy=>?_,fun r=>?_⟩
 ·rcases List.mem_append.1 hy with hy | hy
  ·exact h.ne y hy
  ·simp at hy;subst hy;exact h0
 ·rw [List.append_assoc,h.fl,zcc [] x r h4,ZH];rfl
theorem PartOf.closed {U:List UInt8} {ws:List (List UInt8)} (h:PartOf U ws):zg [] U=ws∧zg [] (U++[32])=ws:=by
 by_cases hw:ws=[]
 ·subst hw
  have h1:=h.fl []
  have h2:=h.fl [32]
  rw [List.append_nil] at h1
  rw [h1,h2]
  exact ⟨rfl,rfl⟩
 ·obtain ⟨ws',x,rfl⟩:∃ ws' x,ws=ws'++[x]:=⟨ws.dropLast,ws.getLast hw,(List.dropLast_concat_getLast hw).symm⟩
  have h0:=h.ne x (by simp)
  have h1:=h.fl []
  have h2:=h.fl [32]
  rw [List.append_nil] at h1
  rw [h1,h2,ZH,ZH]
  have e1:zg x []=[x]:=by simp [zg,h0]
  have e2:zg x [32]=[x]:=by simp [zg,h0,gapB]
  rw [e1,e2]
  exact ⟨rfl,rfl⟩
def Rem (r:List UInt8):Prop:=r=[]∨r=[32,35,32,97,32,114,101,109,97,114,107]∨r=[35]
def End (e:List UInt8):Prop:=e=[10]∨e=[10,10]∨e=[10,35,10]
theorem zaR {U r:List UInt8} {ws:List (List UInt8)} (h:PartOf U ws) (hr:Rem r):wordsL (U++r)=ws∧okL (U++r)=true∧(10:UInt8) ∉ U++r:=by
 obtain ⟨c1,c2⟩:=h.closed
 unfold wordsL
 rcases hr with rfl | rfl | rfl
 ·rw [List.append_nil]
  exact ⟨by rw [zaj U h.n35];exact c1,h.ok,h.n10⟩
 ·refine ⟨?_,by rw [y8,h.ok];decide,by simp [h.n10]⟩
  have e:U++[32,35,32,97,32,114,101,109,97,114,107]=(U++[32])++35::[32,97,32,114,101,109,97,114,107]:=by simp
  rw [e,QC (U++[32]) _ (by simp [h.n35])]
  exact c2
 ·refine ⟨?_,by rw [y8,h.ok];decide,by simp [h.n10]⟩
  rw [QC U [] h.n35]
  exact c1
def lineOf (n:Nat) (ws:List (List UInt8)):List (Nat × List (List UInt8)):=if ws=[] then [] else [(n,ws)]
theorem yy (n:Nat) (x:List UInt8) (r:List (Nat × List UInt8)):numP ((n,x)::r)=lineOf n (wordsL x)++numP r:=by simp [numP,lineOf]
theorem zhP {U r e:List UInt8} {ws:List (List UInt8)} (h:PartOf U ws) (hr:Rem r) (he:End e) :
 okL (U++r++e)=true∧∀ t n,∃ m,n < m∧numP (enumL n (zn [] (U++r++e++t)))=lineOf n ws++numP (enumL m (zn [] t)):=by
 obtain ⟨h1,h2,h3⟩:=zaR h hr
 have w0:wordsL []=[]:=rfl
 have w1:wordsL [35]=[]:=rfl
 have l0:∀ n,lineOf n []=[]:=fun n=>rfl
 refine ⟨by rw [y8,h2];rcases he with rfl | rfl | rfl <;> decide,fun t n=>?_⟩
 rcases he with rfl | rfl | rfl
 ·refine ⟨n+1,by omega,?_⟩
  rw [show U++r++[10]++t=(U++r)++10::t by simp,kX _ _ h3]
  simp only [enumL]
  rw [yy,h1]
 ·refine ⟨n+1+1,by omega,?_⟩
  rw [show U++r++[10,10]++t=(U++r)++10::([]++10::t) by simp,kX _ _ h3,kX [] t (by simp)]
  simp only [enumL]
  rw [yy,yy,h1,w0,l0]
  simp
 ·refine ⟨n+1+1,by omega,?_⟩
  rw [show U++r++[10,35,10]++t=(U++r)++10::([35]++10::t) by simp,kX _ _ h3,kX [35] t (by decide)]
  simp only [enumL]
  rw [yy,yy,h1,w1,l0]
  simp
def Inc (n:Nat):List (Nat × List (List UInt8))→Nat→Prop
 | [],m=>n≤m
 | x::r,m=>n≤x.1∧Inc (x.1+1) r m
theorem Inc.more {n m m':Nat} {L:List (Nat × List (List UInt8))} (h:Inc n L m) (hm:m≤m'):Inc n L m':=by
 induction L generalizing n with
 | nil=>exact Nat.le_trans h hm
 | cons x r ih=>exact ⟨h.1,ih h.2⟩
theorem Inc.snoc {n m q m':Nat} {L:List (Nat × List (List UInt8))} (h:Inc n L m) (hq:m≤q) (hm:q < m') (ws:List (List UInt8)):Inc n (L++[(q,ws)]) m':=by
 induction L generalizing n with
 | nil=>exact ⟨Nat.le_trans h hq,hm⟩
 | cons x r ih=>exact ⟨h.1,ih h.2⟩
def Blocks (T:List UInt8) (out:List (List (List UInt8))):Prop :=
 okL T=true∧∀ t n,∃ m NL,numP (enumL n (zn [] (T++t)))=NL++numP (enumL m (zn [] t))∧NL.map (·.2)=out∧Inc n NL m
theorem ziz:Blocks [] []:=⟨rfl,fun _ n=>⟨n,[],rfl,rfl,Nat.le_refl n⟩⟩
theorem Blocks.snoc {T U r e:List UInt8} {out:List (List (List UInt8))} {ws:List (List UInt8)} (h:Blocks T out) (hU:PartOf U ws) (hr:Rem r) (he:End e) :
 Blocks (T++(U++r++e)) (out++if ws=[] then [] else [ws]):=by
 obtain ⟨o1,f1⟩:=zhP hU hr he
 refine ⟨by rw [y8,h.1,o1];rfl,fun t n=>?_⟩
 obtain ⟨m,NL,e1,e2,e3⟩:=h.2 (U++r++e++t) n
 obtain ⟨m',hm,e4⟩:=f1 t m
 refine ⟨m',NL++lineOf m ws,?_,?_,?_⟩
 ·rw [show T++(U++r++e)++t=T++(U++r++e++t) by simp,e1,e4];simp
 ·unfold lineOf
  rw [List.map_append,e2]
  split <;> simp_all
 ·unfold lineOf
  split
  ·rw [List.append_nil];exact e3.more (by omega)
  ·exact e3.snoc (Nat.le_refl _) hm ws
theorem Blocks.lines {T:List UInt8} {out:List (List (List UInt8))} (h:Blocks T out):∃ m,(linesL T).map (·.2)=out∧Inc 1 (linesL T) m:=by
 obtain ⟨m,NL,e1,e2,e3⟩:=h.2 [] 1
 have e0:numP (enumL m (zn [] []))=[]:=rfl
 rw [List.append_nil,e0,List.append_nil] at e1
 refine ⟨m,?_,?_⟩
 ·unfold linesL;rw [e1];exact e2
 ·unfold linesL;rw [e1];exact e3
end Go.Proofs.YtdhfpgjnjlcciaaGreatDoor
end
section
namespace Go.Proofs.YtdhfpgjnjlcciaaGreatDoor.Un
open Go.RowKit
def szW (ws:List ByteArray):Nat:=(lineL ws).length+1
def szL (l:List (List ByteArray)):Nat:=(l.map szW).sum
def szB (ws:List (List UInt8)):Nat:=(ws.map fun x=>x.length+1).sum
theorem QW (x y:ByteArray) (r:List ByteArray):lineL (x::y::r)=x.data.toList++([32]++lineL (y::r)):=by simp [lineL,Lib.join,List.intercalate]
theorem QS (x:ByteArray):lineL [x]=x.data.toList:=by simp [lineL,Lib.join,List.intercalate]
theorem Xb:∀ (ws:List (List UInt8)),ws≠[]→szW (ws.map mkB)=szB ws
 | [],h=>absurd rfl h
 | [x],_=>by simp [szW,szB,QS,qK]
 | x::y::r,_=>by
   have ih:=Xb (y::r) (by simp)
   unfold szW at ih ⊢
   have e:szB (x::y::r)=x.length+1+szB (y::r):=by simp [szB]
   rw [e,←ih]
   simp only [List.map_cons]
   rw [QW,qK]
   simp only [List.length_append,List.length_cons,List.length_nil]
   omega
theorem zil (cur r:List UInt8):szB (zg cur r)≤cur.length+r.length+1:=by
 induction r generalizing cur with
 | nil =>
   simp only [zg]
   split
   ·simp [szB]
   ·simp [szB]
 | cons c r ih =>
   simp only [zg]
   split
   ·split
    ·have:=ih [];simp at this ⊢;omega
    ·have:=ih []
     have e:szB (cur::zg [] r)=cur.length+1+szB (zg [] r):=by simp [szB]
     rw [e];simp at this ⊢;omega
   ·have:=ih (cur++[c]);simp at this ⊢;omega
theorem zcF (l:List UInt8):szB (wordsL l)≤l.length+1:=by
 have h1:=zil [] (said l)
 have h2:=zaN l
 unfold wordsL
 simp at h1
 omega
theorem zhw (cur l:List UInt8):((zn cur l).map fun x=>x.length+1).sum=cur.length+l.length+1:=by
 induction l generalizing cur with
 | nil=>simp [zn]
 | cons c r ih =>
   simp only [zn]
   split
   ·have:=ih [];simp at this ⊢;omega
   ·have:=ih (cur++[c]);simp at this ⊢;omega
abbrev wordsN (L:List (Nat × List (List UInt8))):List (List ByteArray):=(asB L).map (·.2)
theorem Xp (a b:List (Nat × List (List UInt8))):wordsN (a++b)=wordsN a++wordsN b:=by simp [wordsN,asB]
theorem zda (a b:List (List ByteArray)):szL (a++b)=szL a+szL b:=by simp [szL]
theorem KQ:∀ (n:Nat) (l:List (List UInt8)),szL (wordsN (numP (enumL n l)))≤(l.map fun x=>x.length+1).sum
 | n,[]=>by simp [enumL,numP,wordsN,asB,szL]
 | n,x::r=>by
   have ih:=KQ (n+1) r
   simp only [enumL]
   rw [yy,Xp,zda]
   have h1:szL (wordsN (lineOf n (wordsL x)))≤x.length+1:=by
    unfold lineOf
    split
    ·simp [wordsN,asB,szL]
    ·rename_i hne
     have:szL (wordsN [(n,wordsL x)])=szW ((wordsL x).map mkB):=by simp [wordsN,asB,szL]
     rw [this,Xb _ hne]
     exact zcF x
   simp only [List.map_cons,List.sum_cons]
   omega
theorem KH (s:ByteArray):szL (wordsT s)≤s.size+1:=by
 unfold wordsT linV
 split
 ·simp [asB,szL]
 ·split
  ·have h1:=KQ 1 (zn [] s.data.toList)
   rw [zhw,zv] at h1
   simp only [List.length_nil,Nat.zero_add] at h1
   exact h1
  ·simp [asB,szL]
def rightW (ws:List ByteArray):Prop:=ws≠[]∧∀ x∈ws,rightL x.data.toList=true
theorem zfi (cur r:List UInt8) (hc:cur.all rwB=true) (hr:∀ c∈r,gapB c=false→rwB c=true):∀ x∈zg cur r,rightL x=true:=by
 induction r generalizing cur with
 | nil =>
   intro x hx
   simp only [zg] at hx
   split at hx
   ·cases hx
   ·rename_i hne
    simp at hx;subst hx
    unfold rightL
    rw [decide_eq_true hne,hc];rfl
 | cons c r ih =>
   intro x hx
   simp only [zg] at hx
   have hr':∀ d∈r,gapB d=false→rwB d=true:=fun d hd=>hr d (List.mem_cons_of_mem _ hd)
   split at hx
   ·split at hx
    ·exact ih [] rfl hr' x hx
    ·rename_i hne
     rcases List.mem_cons.1 hx with rfl | hx
     ·unfold rightL
      rw [decide_eq_true hne,hc];rfl
     ·exact ih [] rfl hr' x hx
   ·rename_i hg
    refine ih (cur++[c]) ?_ hr' x hx
    rw [List.all_append,hc]
    simp [hr c (List.mem_cons_self ..) (by simpa using hg)]
theorem ze2 (l:List UInt8):(35:UInt8) ∉ said l:=by
 induction l with
 | nil=>simp [said]
 | cons c r ih =>
   simp only [said]
   split
   ·simp
   ·rename_i h
    simp only [List.mem_cons,not_or]
    exact ⟨fun e=>h e.symm,ih⟩
theorem zcY (l:List UInt8):∀ c∈said l,c∈l:=by
 induction l with
 | nil=>simp [said]
 | cons c r ih =>
   intro d hd
   simp only [said] at hd
   split at hd
   ·cases hd
   ·rcases List.mem_cons.1 hd with rfl | hd
    ·exact List.mem_cons_self ..
    ·exact List.mem_cons_of_mem _ (ih d hd)
theorem zbn {c:UInt8} (h:okB c=true) (h10:c≠10) (h35:c≠35) (hg:gapB c=false):rwB c=true:=by
 unfold okB at h
 unfold gapB at hg
 rw [Bool.or_eq_false_iff,beq_eq_false_iff_ne,beq_eq_false_iff_ne] at hg
 rw [Bool.or_eq_true,Bool.or_eq_true,beq_iff_eq,beq_iff_eq,Bool.and_eq_true,decide_eq_true_eq,decide_eq_true_eq] at h
 unfold rwB
 apply decide_eq_true
 have n35:c.toNat≠35:=fun e=>h35 (UInt8.toNat_inj.1 (by rw [e];rfl))
 have n32:c.toNat≠32:=fun e=>hg.2 (UInt8.toNat_inj.1 (by rw [e];rfl))
 rcases h with (h | h) | h
 ·exact absurd h hg.1
 ·exact absurd h h10
 ·omega
theorem zhR (cur l:List UInt8) (hc:(10:UInt8) ∉ cur):∀ x∈zn cur l,(10:UInt8) ∉ x:=by
 induction l generalizing cur with
 | nil=>intro x hx;simp [zn] at hx;subst hx;exact hc
 | cons c r ih =>
   intro x hx
   simp only [zn] at hx
   split at hx
   ·rcases List.mem_cons.1 hx with rfl | hx
    ·exact hc
    ·exact ih [] (by simp) x hx
   ·rename_i h
    exact ih (cur++[c]) (by simp [hc,Ne.symm h]) x hx
theorem Kv:∀ (n:Nat) (l:List (List UInt8)),(∀ x∈l,okL x=true∧(10:UInt8) ∉ x)→∀ ws∈wordsN (numP (enumL n l)),rightW ws
 | n,[],_=>by intro ws hw;simp [enumL,numP,wordsN,asB] at hw
 | n,x::r,h=>by
   intro ws hw
   simp only [enumL] at hw
   rw [yy,Xp] at hw
   rcases List.mem_append.1 hw with hw | hw
   ·unfold lineOf at hw
    split at hw
    ·simp [wordsN,asB] at hw
    ·rename_i hne
     have e:wordsN [(n,wordsL x)]=[(wordsL x).map mkB]:=by simp [wordsN,asB]
     rw [e] at hw
     simp only [List.mem_singleton] at hw
     subst hw
     refine ⟨by simpa using hne,fun y hy=>?_⟩
     obtain ⟨z,hz,rfl⟩:=List.mem_map.1 hy
     rw [qK]
     obtain ⟨h1,h2⟩:=h x (List.mem_cons_self ..)
     refine zfi [] (said x) rfl (fun c hc hg=>?_) z hz
     have hcx:=zcY x c hc
     exact zbn (List.all_eq_true.1 h1 c hcx) (fun e=>h2 (e ▸ hcx)) (fun e=>ze2 x (e ▸ hc)) hg
   ·exact Kv (n+1) r (fun y hy=>h y (List.mem_cons_of_mem _ hy)) ws hw
theorem Y3 (s:ByteArray):∀ ws∈wordsT s,rightW ws:=by
 intro ws hw
 unfold wordsT linV at hw
 split at hw
 ·simp [asB] at hw
 ·split at hw
  ·rename_i ho
   refine Kv 1 (zn [] s.data.toList) (fun x hx=>⟨?_,zhR [] _ (by simp) x hx⟩) ws hw
   exact (zal okB [] s.data.toList rfl ho x hx).1
  ·simp [asB] at hw
theorem XO:∀ (ws:List (List UInt8)),ws≠[]→(∀ x∈ws,rightL x=true)→∀ (U:List UInt8) (vs:List (List UInt8)),kV U vs→PartOf (U++Lib.join ws [32]) (vs++ws)
 | [],h,_=>absurd rfl h
 | [x],_,h=>fun U vs hU=>by
   have e:Lib.join [x] [32]=x:=by simp [Lib.join,List.intercalate]
   rw [e]
   exact hU.word (h x (by simp))
 | x::y::r,_,h=>fun U vs hU=>by
   have e:Lib.join (x::y::r) [32]=x++([32]++Lib.join (y::r) [32]):=by simp [Lib.join,List.intercalate]
   rw [e]
   have h1:=hU.word (h x (by simp))
   have h2:=h1.gap (g:=[32]) (by simp) rfl (by simp)
   have h3:=XO (y::r) (by simp) (fun z hz=>h z (List.mem_cons_of_mem _ hz)) _ _ h2
   simpa using h3
def textW (l:List (List ByteArray)):List UInt8:=l.flatMap fun ws=>lineL ws++[10]
theorem VX (l:List (List ByteArray)):(textW l).length=szL l:=by
 induction l with
 | nil=>rfl
 | cons ws l ih =>
   have e:textW (ws::l)=(lineL ws++[10])++textW l:=rfl
   rw [e,List.length_append,ih]
   simp [szL,szW]
theorem zhG (l:List (List ByteArray)) (h:∀ ws∈l,rightW ws):Blocks (textW l) (l.map fun ws=>ws.map (·.data.toList)):=by
 suffices H:∀ (l k:List (List ByteArray)),(∀ ws∈k,rightW ws)→Blocks (textW l) (l.map fun ws=>ws.map (·.data.toList))→Blocks (textW (l++k)) ((l++k).map fun ws=>ws.map (·.data.toList)) by
  simpa using H [] l h ziz
 intro l k
 induction k generalizing l with
 | nil=>intro _ hb;simpa using hb
 | cons ws k ih =>
   intro hk hb
   have h1:=hk ws (List.mem_cons_self ..)
   have hne:ws.map (·.data.toList)≠[]:=by simpa using h1.1
   have hp:PartOf (lineL ws) (ws.map (·.data.toList)):=by
    have hg:kV [] []:=(zfH (g:=[]) rfl).gap0
    have:=XO (ws.map (·.data.toList)) hne (fun x hx=>by
     obtain ⟨y,hy,rfl⟩:=List.mem_map.1 hx
     exact h1.2 y hy) [] [] hg
    simpa [lineL] using this
   have hs:=hb.snoc (r:=[]) (e:=[10]) hp (.inl rfl) (.inl rfl)
   rw [if_neg hne] at hs
   have e1:textW (l++[ws])=textW l++(lineL ws++[]++[10]):=by simp [textW]
   have hb':Blocks (textW (l++[ws])) ((l++[ws]).map fun ws=>ws.map (·.data.toList)):=by
    rw [e1];simpa using hs
   have:=ih (l++[ws]) (fun u hu=>hk u (List.mem_cons_of_mem _ hu)) hb'
   simpa using this
theorem VF (l:List (List ByteArray)) (h:∀ ws∈l,rightW ws) (hs:szL l≤20000):linE (mkB (textW l)).data.toList=0∧wordsT (mkB (textW l))=l:=by
 have hb:=zhG l h
 obtain ⟨m,hm,_⟩:=hb.lines
 have hlen:¬ 20000 < (textW l).length:=by rw [VX];omega
 have e1:linE (textW l)=0:=by unfold linE;rw [if_neg hlen,if_pos hb.1]
 have e2:linV (textW l)=linesL (textW l):=by unfold linV;rw [if_neg hlen,if_pos hb.1]
 rw [qK]
 refine ⟨e1,?_⟩
 unfold wordsT
 rw [qK,e2]
 unfold asB
 rw [List.map_map]
 have e3:(fun x:Int × List ByteArray=>x.2) ∘ (fun x:Nat × List (List UInt8)=>((x.1:Int),x.2.map mkB))=(fun x:List (List UInt8)=>x.map mkB) ∘ (fun x:Nat × List (List UInt8)=>x.2):=rfl
 rw [e3,←List.map_map,hm,List.map_map]
 conv=>rhs;rw [←List.map_id l]
 refine List.map_congr_left fun ws _=>?_
 simp only [Function.comp,id,List.map_map]
 conv=>rhs;rw [←List.map_id ws]
 refine List.map_congr_left fun x _=>?_
 exact qJ x
end Go.Proofs.YtdhfpgjnjlcciaaGreatDoor.Un
end
section
namespace Go.Proofs.YtdhfpgjnjlcciaaGreatDoor.Un
open Go.RowKit
def acO (ws:List ByteArray):Option Acct:=if wd ws 0=zb∧(parseA ws).2=0 then some (parseA ws).1 else none
def flO (ws:List ByteArray):Option Fl.Flow:=if wd ws 0=Fl.tFlow∧(Fl.parseF ws).2=0 then some (Fl.parseF ws).1 else none
def enO (ws:List ByteArray):Option Ent:=if wd ws 0=zm∧zj ws=true then some (entOf ws) else none
def liO (ws:List ByteArray):Option Lin:=if wd ws 0=tMap∧zj ws=true then some (linOf ws) else none
def onO (t:ByteArray) (ws:List ByteArray):Option ByteArray:=if wd ws 0=t∧zj ws=true then some (wd ws 1) else none
theorem ZR {ws:List ByteArray} (h:wd ws 0≠zb):acO ws=none:=by unfold acO;rw [if_neg (fun e=>h e.1)]
theorem Zh {ws:List ByteArray} (h:wd ws 0≠Fl.tFlow):flO ws=none:=by unfold flO;rw [if_neg (fun e=>h e.1)]
theorem xY {ws:List ByteArray} (h:wd ws 0≠zm):enO ws=none:=by unfold enO;rw [if_neg (fun e=>h e.1)]
theorem x8 {ws:List ByteArray} (h:wd ws 0≠tMap):liO ws=none:=by unfold liO;rw [if_neg (fun e=>h e.1)]
theorem zR {t:ByteArray} {ws:List ByteArray} (h:wd ws 0≠t):onO t ws=none:=by unfold onO;rw [if_neg (fun e=>h e.1)]
theorem xg {ws:List ByteArray} (h:wd ws 0=zb) (hp:(parseA ws).2=0):acO ws=some (parseA ws).1:=by unfold acO;rw [if_pos ⟨h,hp⟩]
theorem zab {ws:List ByteArray} (h:wd ws 0=Fl.tFlow) (hp:(Fl.parseF ws).2=0):flO ws=some (Fl.parseF ws).1:=by unfold flO;rw [if_pos ⟨h,hp⟩]
theorem zau {ws:List ByteArray} (h:wd ws 0=zm) (hp:zj ws=true):enO ws=some (entOf ws):=by unfold enO;rw [if_pos ⟨h,hp⟩]
theorem YU {ws:List ByteArray} (h:wd ws 0=tMap) (hp:zj ws=true):liO ws=some (linOf ws):=by unfold liO;rw [if_pos ⟨h,hp⟩]
theorem YD {t:ByteArray} {ws:List ByteArray} (h:wd ws 0=t) (hp:zj ws=true):onO t ws=some (wd ws 1):=by unfold onO;rw [if_pos ⟨h,hp⟩]
def Good (ws:List ByteArray):Prop:=(wd ws 0=zb∧(parseA ws).2=0)∨(wd ws 0=Fl.tFlow∧(Fl.parseF ws).2=0)∨zj ws=true
def oneL (x:ByteArray):List ByteArray:=if x=emp then [] else [x]
theorem zc6:oneL emp=[]:=by simp [oneL]
theorem zaE {x:ByteArray} (h:x≠emp):oneL x=[x]:=by simp [oneL,h]
structure Inv (l:List (List ByteArray)) (M:Mast):Prop where
 chart:M.chart.Perm (l.filterMap acO)
 flows:M.flows.Perm (l.filterMap flO)
 ents:M.ents.Perm (l.filterMap enO)
 lines:M.lines.Perm (l.filterMap liO)
 cur:l.filterMap (onO tGroup)=oneL M.cur
 res:l.filterMap (onO zI)=oneL M.res
 dif:l.filterMap (onO zD)=oneL M.dif
 min:l.filterMap (onO tMinor)=oneL M.min
 stk:l.filterMap (onO tStake)=oneL M.stk
 sane:Sane M
 good:∀ ws∈l,Good ws
theorem Inv.zero:Inv [] zeroM:=⟨.refl _,.refl _,.refl _,.refl _,rfl,rfl,rfl,rfl,rfl,Sane.zero,fun _ h=>by cases h⟩
theorem zz {α:Type} {f:List ByteArray→Option α} {l:List (List ByteArray)} {ws:List ByteArray} (h:f ws=none):(l++[ws]).filterMap f=l.filterMap f:=by simp [List.filterMap_append,h]
theorem xF {α:Type} {f:List ByteArray→Option α} {l:List (List ByteArray)} {ws:List ByteArray} {x:α} (h:f ws=some x):(l++[ws]).filterMap f=l.filterMap f++[x]:=by simp [List.filterMap_append,h]
theorem Zr {α:Type} {A B:List α} {x:α} {C:List α} (h:A.Perm B) (hc:C.Perm (x::A)):C.Perm (B++[x]) :=
 hc.trans ((List.Perm.cons x h).trans (List.perm_append_singleton x B).symm)
theorem zev (L:List Acct) (x:Acct):(insL L x).Perm (x::L):=by
 rw [Y9]
 exact List.perm_middle.trans (by rw [List.take_append_drop])
theorem ziM (L:List Fl.Flow) (x:Fl.Flow):(insK Fl.Flow.code L x).Perm (x::L):=by
 unfold insK
 exact List.perm_middle.trans (by rw [List.take_append_drop])
theorem zgr {ws:List ByteArray} (hf:zj ws=true) (h:wd ws 0≠zm) (h':wd ws 0≠tMap):wd ws 1≠emp:=by
 rcases jk hf with ⟨h0,_⟩ | ⟨h0,_⟩ | ⟨_,a,h1,ha⟩
 ·exact absurd h0 h
 ·exact absurd h0 h'
 ·rw [h1];exact kG ha
theorem Inv.step {l:List (List ByteArray)} {M:Mast} {ws:List ByteArray} (h:Inv l M) (hs:stepE M ws=0):Inv (l++[ws]) (stepV M ws):=by
 have hsn:=h.sane.step hs
 have hgd:Good ws→∀ us∈l++[ws],Good us:=fun hg us hu=>by
  rcases List.mem_append.1 hu with hu | hu
  ·exact h.good us hu
  ·simp at hu;subst hu;exact hg
 rcases kR hs with ⟨w0,hp,ha,e⟩ | ⟨w0,hp,ha,e⟩ | ⟨hf,w0,ha,e⟩ | ⟨hf,w0,ha,e⟩ | ⟨hf,w0,ha,e⟩ | ⟨hf,w0,ha,e⟩ | ⟨hf,w0,ha,e⟩ | ⟨hf,w0,ha,e⟩ | ⟨hf,w0,ha,e⟩
 ·rw [e] at hsn ⊢
  exact ⟨by rw [xF (xg w0 hp)];exact Zr h.chart (zev _ _),by rw [zz (Zh (by rw [w0];decide))];exact h.flows,by rw [zz (xY (by rw [w0];decide))];exact h.ents,by rw [zz (x8 (by rw [w0];decide))];exact h.lines,by rw [zz (zR (by rw [w0];decide))];exact h.cur,by rw [zz (zR (by rw [w0];decide))];exact h.res,by rw [zz (zR (by rw [w0];decide))];exact h.dif,by rw [zz (zR (by rw [w0];decide))];exact h.min,by rw [zz (zR (by rw [w0];decide))];exact h.stk,hsn,hgd (.inl ⟨w0,hp⟩)⟩
 ·rw [e] at hsn ⊢
  exact ⟨by rw [zz (ZR (by rw [w0];decide))];exact h.chart,by rw [xF (zab w0 hp)];exact Zr h.flows (ziM _ _),by rw [zz (xY (by rw [w0];decide))];exact h.ents,by rw [zz (x8 (by rw [w0];decide))];exact h.lines,by rw [zz (zR (by rw [w0];decide))];exact h.cur,by rw [zz (zR (by rw [w0];decide))];exact h.res,by rw [zz (zR (by rw [w0];decide))];exact h.dif,by rw [zz (zR (by rw [w0];decide))];exact h.min,by rw [zz (zR (by rw [w0];decide))];exact h.stk,hsn,hgd (.inr (.inl ⟨w0,hp⟩))⟩
 ·rw [e] at hsn ⊢
  exact ⟨by rw [zz (ZR (by rw [w0];decide))];exact h.chart,by rw [zz (Zh (by rw [w0];decide))];exact h.flows,by rw [xF (zau w0 hf)];exact Zr h.ents (G.Y5 _ _),by rw [zz (x8 (by rw [w0];decide))];exact h.lines,by rw [zz (zR (by rw [w0];decide))];exact h.cur,by rw [zz (zR (by rw [w0];decide))];exact h.res,by rw [zz (zR (by rw [w0];decide))];exact h.dif,by rw [zz (zR (by rw [w0];decide))];exact h.min,by rw [zz (zR (by rw [w0];decide))];exact h.stk,hsn,hgd (.inr (.inr hf))⟩
 ·rw [e] at hsn ⊢
  exact ⟨by rw [zz (ZR (by rw [w0];decide))];exact h.chart,by rw [zz (Zh (by rw [w0];decide))];exact h.flows,by rw [zz (xY (by rw [w0];decide))];exact h.ents,by rw [xF (YU w0 hf)];exact Zr h.lines (G.Y5 _ _),by rw [zz (zR (by rw [w0];decide))];exact h.cur,by rw [zz (zR (by rw [w0];decide))];exact h.res,by rw [zz (zR (by rw [w0];decide))];exact h.dif,by rw [zz (zR (by rw [w0];decide))];exact h.min,by rw [zz (zR (by rw [w0];decide))];exact h.stk,hsn,hgd (.inr (.inr hf))⟩
 all_goals
  have hne:=zgr hf (by rw [w0];decide) (by rw [w0];decide)
  rw [e] at hsn ⊢
  refine ⟨by rw [zz (ZR (by rw [w0];decide))];exact h.chart,by rw [zz (Zh (by rw [w0];decide))];exact h.flows,by rw [zz (xY (by rw [w0];decide))];exact h.ents,by rw [zz (x8 (by rw [w0];decide))];exact h.lines,?_,?_,?_,?_,?_,hsn,hgd (.inr (.inr hf))⟩
  all_goals first
   | (rw [zz (zR (by rw [w0];decide))];first | exact h.cur | exact h.res | exact h.dif | exact h.min | exact h.stk)
   | (rw [xF (YD w0 hf)];first | rw [h.cur] | rw [h.res] | rw [h.dif] | rw [h.min] | rw [h.stk]
      rw [ha,zc6]
      exact (zaE hne).symm)
theorem Inv.run {l k:List (List ByteArray)} {M N:Mast} (h:Inv l M) (hr:runM M k=(N,0)):Inv (l++k) N:=by
 induction k generalizing l M with
 | nil =>
   simp only [runM,Prod.mk.injEq] at hr
   rw [List.append_nil,←hr.1];exact h
 | cons ws k ih =>
   by_cases hs:stepE M ws=0
   ·rw [xE _ _ _ hs] at hr
    have:=ih (h.step hs) hr
    simpa using this
   ·rw [ZZ _ _ _ hs] at hr
    simp only [Prod.mk.injEq] at hr
    exact absurd hr.2 hs
theorem Yh {l:List (List ByteArray)} {M:Mast} (h:runM zeroM l=(M,0)):Inv l M:=by
 simpa using Inv.zero.run h
end Go.Proofs.YtdhfpgjnjlcciaaGreatDoor.Un
end
section
namespace Go.Proofs.YtdhfpgjnjlcciaaGreatDoor.Un
open Go.RowKit
def ones:List ByteArray:=[tGroup,zI,zD,tMinor,tStake]
structure Ok (l:List (List ByteArray)):Prop where
 good:∀ ws∈l,Good ws
 ac:((l.filterMap acO).map Acct.code).Nodup
 al:(l.filterMap acO).length≤60
 fc:((l.filterMap flO).map Fl.Flow.code).Nodup
 fk:Fl.onesF (l.filterMap flO)
 fl:(l.filterMap flO).length≤60
 ec:((l.filterMap enO).map Ent.code).Nodup
 el:(l.filterMap enO).length≤60
 lc:((l.filterMap liO).map Lin.key).Nodup
 ll:(l.filterMap liO).length≤1000
 on:∀ t∈ones,(l.filterMap (onO t)).length≤1
theorem Yj:∀ L:List Acct,riseL L=G.riseK Acct.code L
 | []=>rfl
 | [_]=>rfl
 | a::b::L=>by
   have:=Yj (b::L)
   unfold riseL G.riseK
   rw [this];rfl
theorem XD:∀ L:List Fl.Flow,riseK Fl.Flow.code L=G.riseK Fl.Flow.code L
 | []=>rfl
 | [_]=>rfl
 | a::b::L=>by
   have:=XD (b::L)
   unfold riseK G.riseK
   rw [this];rfl
theorem VG {L:List Acct} {c:ByteArray} (h:c ∉ L.map Acct.code):findL L c=none:=by
 cases hf:findL L c with
 | none=>rfl
 | some x =>
   obtain ⟨h1,h2⟩:=kj hf
   exact absurd (List.mem_map.2 ⟨x,h2,h1⟩) h
theorem K5 {L:List Acct} {x:Acct} (h:x∈L):(findL L x.code).isSome=true:=by
 induction L with
 | nil=>cases h
 | cons a L ih =>
   simp only [findL]
   split
   ·rfl
   ·rename_i hne
    rcases List.mem_cons.1 h with rfl | h
    ·exact absurd rfl hne
    ·exact ih h
theorem Xk {α κ:Type} [DecidableEq κ] {key:α→κ} {L:List α} {c:κ} (h:c ∉ L.map key):G.findK key L c=none :=
 G.qx fun x hx e=>h (List.mem_map.2 ⟨x,hx,e⟩)
theorem Xc {α κ:Type} [DecidableEq κ] {key:α→κ} {L:List α} {x:α} (h:x∈L):(G.findK key L (key x)).isSome=true:=by
 cases hf:G.findK key L (key x) with
 | some y=>rfl
 | none=>exact absurd rfl (G.qH hf x h)
theorem vT {α:Type} {f:List ByteArray→Option α} {l k:List (List ByteArray)} {ws:List ByteArray} {x:α} (h:f ws=some x):(l++ws::k).filterMap f=l.filterMap f++x::k.filterMap f:=by simp [List.filterMap_append,h]
theorem ZG {α β:Type} {f:α→β} {A B:List α} {x:α} (h:((A++x::B).map f).Nodup):f x ∉ A.map f:=by
 rw [List.map_append,List.map_cons] at h
 intro hm
 exact (List.nodup_append.1 h).2.2 _ hm _ (List.mem_cons_self ..) rfl
theorem xz {l k:List (List ByteArray)} {ws:List ByteArray} {t x:ByteArray} (hl:l.filterMap (onO t)=oneL x) (hw:wd ws 0=t) (hf:zj ws=true) (h:((l++ws::k).filterMap (onO t)).length≤1):oneE x=0:=by
 rw [vT (YD hw hf),hl] at h
 unfold oneE
 by_cases hx:x=emp
 ·rw [if_pos hx]
 ·rw [zaE hx] at h;simp at h
theorem zeb {l k:List (List ByteArray)} {M:Mast} {ws:List ByteArray} (h:Inv l M) (ho:Ok (l++ws::k)):stepE M ws=0:=by
 rcases ho.good ws (by simp) with ⟨w0,hp⟩ | ⟨w0,hp⟩ | hf
 ·unfold stepE
  rw [if_pos w0,if_pos hp]
  have hm:=vT (k:=k) (l:=l) (xg w0 hp)
  have h1:=ho.ac
  have h2:=ho.al
  rw [hm] at h1 h2
  have hfn:findL M.chart (parseA ws).1.code=none:=VG fun hx=>ZG h1 (((h.chart.map _).mem_iff).1 hx)
  have hlen:¬ 60≤M.chart.length:=by
   rw [h.chart.length_eq]
   simp only [List.length_append,List.length_cons] at h2
   omega
  unfold addE
  rw [(Zq hp).2,hfn,if_neg (by simp),if_neg (by simp),if_neg hlen]
 ·unfold stepE
  rw [if_neg (by rw [w0];decide),if_pos w0,if_pos hp]
  have hm:=vT (k:=k) (l:=l) (zab w0 hp)
  have h1:=ho.fc
  have h2:=ho.fl
  have h3:=ho.fk
  rw [hm] at h1 h2 h3
  have hr:Fl.rightF (Fl.parseF ws).1=true:=by
   rcases Fl.kY ws with e | ⟨_,e,_⟩
   ·rw [e] at hp;simp at hp
   ·exact e
  have hrise:=Fl.qm h.sane.fl
  have hfn:findK Fl.Flow.code M.flows (Fl.parseF ws).1.code=none:=qx fun x hx e=>ZG h1 (((h.flows.map _).mem_iff).1 (List.mem_map.2 ⟨x,hx,e⟩))
  have hk:isK Fl.Flow.code M.flows (Fl.parseF ws).1.code=false:=by rw [(jE hrise _).1,hfn];rfl
  have hlen:¬ 60≤M.flows.length:=by
   rw [h.flows.length_eq]
   simp only [List.length_append,List.length_cons] at h2
   omega
  have hkind:(decide ((Fl.parseF ws).1.kind≠1) && Fl.hasF M.flows (Fl.parseF ws).1.kind)=false:=by
   by_cases h1k:(Fl.parseF ws).1.kind=1
   ·simp [h1k]
   ·have hkk:0≤(Fl.parseF ws).1.kind∧(Fl.parseF ws).1.kind < 5:=by
     have:=(Fl.qf hr).2
     omega
    have:=h3 _ hkk h1k
    rw [Fl.yx,List.filter_append,List.filter_cons,if_pos (by simp),List.length_append,List.length_cons,←(h.flows.filter _).length_eq,←Fl.yx] at this
    have h0:¬ 0 < (Fl.ofF M.flows (Fl.parseF ws).1.kind).length:=by omega
    unfold Fl.hasF
    rw [decide_eq_false h0,Bool.and_false]
  unfold Fl.addE
  rw [hr,if_neg (by simp),hk,hkind,if_neg (by simp),if_neg hlen]
 ·rcases jk hf with ⟨w0,_⟩ | ⟨w0,_⟩ | ⟨w0,_⟩
  ·unfold stepE
   rw [if_neg (by rw [w0];decide),if_neg (by rw [w0];decide),if_neg (by rw [hf];simp),if_pos w0]
   have hm:=vT (k:=k) (l:=l) (zau w0 hf)
   have h1:=ho.ec
   have h2:=ho.el
   rw [hm] at h1 h2
   have hfn:G.findK Ent.code M.ents (entOf ws).code=none:=Xk fun hx=>ZG h1 (((h.ents.map _).mem_iff).1 hx)
   have hlen:¬ 60≤M.ents.length:=by
    rw [h.ents.length_eq]
    simp only [List.length_append,List.length_cons] at h2
    omega
   unfold entE
   rw [hfn,if_neg (by simp),if_neg hlen]
  ·unfold stepE
   rw [if_neg (by rw [w0];decide),if_neg (by rw [w0];decide),if_neg (by rw [hf];simp),if_neg (by rw [w0];decide),if_pos w0]
   have hm:=vT (k:=k) (l:=l) (YU w0 hf)
   have h1:=ho.lc
   have h2:=ho.ll
   rw [hm] at h1 h2
   have hfn:G.findK Lin.key M.lines (linOf ws).key=none:=Xk fun hx=>ZG h1 (((h.lines.map _).mem_iff).1 hx)
   have hlen:¬ 1000≤M.lines.length:=by
    rw [h.lines.length_eq]
    simp only [List.length_append,List.length_cons] at h2
    omega
   unfold linEr
   rw [hfn,if_neg (by simp),if_neg hlen]
  ·unfold stepE
   rcases w0 with w0 | w0 | w0 | w0 | w0
   ·rw [if_neg (by rw [w0];decide),if_neg (by rw [w0];decide),if_neg (by rw [hf];simp),if_neg (by rw [w0];decide),if_neg (by rw [w0];decide),if_pos w0]
    exact xz h.cur w0 hf (ho.on tGroup (by simp [ones]))
   ·rw [if_neg (by rw [w0];decide),if_neg (by rw [w0];decide),if_neg (by rw [hf];simp),if_neg (by rw [w0];decide),if_neg (by rw [w0];decide),if_neg (by rw [w0];decide),if_pos w0]
    exact xz h.res w0 hf (ho.on zI (by simp [ones]))
   ·rw [if_neg (by rw [w0];decide),if_neg (by rw [w0];decide),if_neg (by rw [hf];simp),if_neg (by rw [w0];decide),if_neg (by rw [w0];decide),if_neg (by rw [w0];decide),if_neg (by rw [w0];decide),if_pos w0]
    exact xz h.dif w0 hf (ho.on zD (by simp [ones]))
   ·rw [if_neg (by rw [w0];decide),if_neg (by rw [w0];decide),if_neg (by rw [hf];simp),if_neg (by rw [w0];decide),if_neg (by rw [w0];decide),if_neg (by rw [w0];decide),if_neg (by rw [w0];decide),if_neg (by rw [w0];decide),if_pos w0]
    exact xz h.min w0 hf (ho.on tMinor (by simp [ones]))
   ·rw [if_neg (by rw [w0];decide),if_neg (by rw [w0];decide),if_neg (by rw [hf];simp),if_neg (by rw [w0];decide),if_neg (by rw [w0];decide),if_neg (by rw [w0];decide),if_neg (by rw [w0];decide),if_neg (by rw [w0];decide),if_neg (by rw [w0];decide)]
    exact xz h.stk w0 hf (ho.on tStake (by simp [ones]))
theorem zhz {l k:List (List ByteArray)} {M:Mast} (h:Inv l M) (ho:Ok (l++k)):∃ N,runM M k=(N,0):=by
 induction k generalizing l M with
 | nil=>exact ⟨M,rfl⟩
 | cons ws k ih =>
   have hs:=zeb h ho
   obtain ⟨N,hN⟩:=ih (h.step hs) (by simpa using ho)
   exact ⟨N,by rw [xE _ _ _ hs];exact hN⟩
theorem zdw {l:List (List ByteArray)} (ho:Ok l):∃ M,runM zeroM l=(M,0)∧Inv l M:=by
 obtain ⟨M,hM⟩:=zhz Inv.zero (by simpa using ho)
 exact ⟨M,hM,Yh hM⟩
end Go.Proofs.YtdhfpgjnjlcciaaGreatDoor.Un
end
section
namespace Go.Proofs.YtdhfpgjnjlcciaaGreatDoor
open Go.RowKit
structure AcctAt (w:World) (b o:Nat) (a:Acct):Prop where
 c0:w.cell? ⟨b,o,none⟩=some (.string a.code)
 c1:w.cell? ⟨b,o+1,none⟩=some (.int .i64 a.cls)
 c2:w.cell? ⟨b,o+2,none⟩=some (.bool a.cash)
 c3:w.cell? ⟨b,o+3,none⟩=some (.bool a.both)
 c4:w.cell? ⟨b,o+4,none⟩=some (.string a.fixed)
 c5:w.cell? ⟨b,o+5,none⟩=some (.bool a.worn)
theorem AcctAt.lt {w:World} {b o:Nat} {a:Acct} (h:AcctAt w b o a):b < w.heap.size:=World.block_lt_of_cell? w _ h.c0
theorem AcctAt.keep {w w':World} {b o B:Nat} {a:Acct} (h:AcctAt w b o a) (hb:Below B w w') (hB:b < B):AcctAt w' b o a :=
 ⟨(hb.cell (p:=⟨b,_,none⟩) hB).trans h.c0,(hb.cell (p:=⟨b,_,none⟩) hB).trans h.c1,(hb.cell (p:=⟨b,_,none⟩) hB).trans h.c2,(hb.cell (p:=⟨b,_,none⟩) hB).trans h.c3,(hb.cell (p:=⟨b,_,none⟩) hB).trans h.c4,(hb.cell (p:=⟨b,_,none⟩) hB).trans h.c5⟩
theorem Ym {w:World} {b o:Nat} {a:Acct} (h:∀ j v,a.cells[j]?=some v→w.cell? ⟨b,o+j,none⟩=some v):AcctAt w b o a :=
 ⟨h 0 _ rfl,h 1 _ rfl,h 2 _ rfl,h 3 _ rfl,h 4 _ rfl,h 5 _ rfl⟩
theorem AcctAt.cell {w:World} {b o:Nat} {a:Acct} (h:AcctAt w b o a):∀ (j:Nat) v,a.cells[j]?=some v→w.cell? ⟨b,o+j,none⟩=some v
 | 0,_,e=>by cases e;exact h.c0
 | 1,_,e=>by cases e;exact h.c1
 | 2,_,e=>by cases e;exact h.c2
 | 3,_,e=>by cases e;exact h.c3
 | 4,_,e=>by cases e;exact h.c4
 | 5,_,e=>by cases e;exact h.c5
 | j+6,_,e=>by simp [Acct.cells] at e
def ChartV (w:World) (v:Value) (L:List Acct):Prop :=
 ∃ p c,v=.slice p L.length c∧L.length≤c∧c≤maxLen∧(p=none→c=0)∧∀ (i:Nat) (x:Acct),L[i]?=some x→∃ b o,p=some ⟨b,o,none⟩∧AcctAt w b (o+i * 6) x
theorem ChartV.nil (w:World):ChartV w (.slice none 0 0) []:=⟨none,0,rfl,by simp,by simp,fun _=>rfl,fun i x h=>by simp at h⟩
theorem ChartV.keep {w w':World} {v:Value} {L:List Acct} (h:ChartV w v L) (hb:Below w.heap.size w w'):ChartV w' v L:=by
 obtain ⟨a,c,e,h1,h2,h3,hc⟩:=h
 exact ⟨a,c,e,h1,h2,h3,fun i x hx=>by
  obtain ⟨b,o,ea,hx'⟩:=hc i x hx
  exact ⟨b,o,ea,hx'.keep hb hx'.lt⟩⟩
def flatA (L:List Acct):List Value:=L.flatMap Acct.cells
theorem yG (a:Acct) (L:List Acct):flatA (a::L)=a.cells++flatA L:=rfl
theorem zaG (L M:List Acct):flatA (L++M)=flatA L++flatA M:=by simp [flatA]
theorem vh (L:List Acct):(flatA L).length=L.length * 6:=by
 induction L with
 | nil=>rfl
 | cons a L ih=>rw [yG];simp [ih,Acct.cells];omega
theorem Jd:∀ (L:List Acct) (i:Nat) (x:Acct),L[i]?=some x→∀ (j:Nat) v,x.cells[j]?=some v→(flatA L)[i * 6+j]?=some v
 | [],i,x,h=>by simp at h
 | y::L,0,x,h=>by
   simp at h
   subst h
   intro j v hj
   have:j < y.cells.length:=(List.getElem?_eq_some_iff.1 hj).1
   rw [yG,Nat.zero_mul,Nat.zero_add,List.getElem?_append_left this];exact hj
 | y::L,i+1,x,h=>fun j v hj=>by
   have ih:=Jd L i x (by simpa using h) j v hj
   rw [yG,show (i+1) * 6+j=y.cells.length+(i * 6+j) by simp [Acct.cells];omega,List.getElem?_append_right (by omega)]
   simpa using ih
theorem zdW {L:List Acct} {k:Nat} {v:Value} (h:(flatA L)[k]?=some v):∃ x,L[k / 6]?=some x∧x.cells[k % 6]?=some v:=by
 have hk:k < L.length * 6:=by rw [←vh];exact (List.getElem?_eq_some_iff.1 h).1
 have hi:k / 6 < L.length:=by omega
 refine ⟨L[k / 6],List.getElem?_eq_getElem hi,?_⟩
 have hj:k % 6 < (L[k / 6]).cells.length:=by simp [Acct.cells];omega
 have:=Jd L (k / 6) _ (List.getElem?_eq_getElem hi) (k % 6) _ (List.getElem?_eq_getElem hj)
 rw [show k / 6 * 6+k % 6=k by omega,h] at this
 rw [List.getElem?_eq_getElem hj,this]
theorem QT (L:List Acct):∀ v∈flatA L,v.oneCell'=true:=by
 intro v hv
 obtain ⟨a,_,ha⟩:=List.mem_flatMap.1 hv
 simp [Acct.cells] at ha
 rcases ha with rfl | rfl | rfl | rfl | rfl | rfl <;> rfl
theorem zdN (L:List Acct) (k:Nat):flatA (L.take k)=(flatA L).take (k * 6):=by
 induction L generalizing k with
 | nil=>simp [flatA]
 | cons a L ih =>
   cases k with
   | zero=>simp [flatA]
   | succ k =>
     rw [List.take_succ_cons,yG,yG,ih,List.take_append]
     have:a.cells.length=6:=rfl
     rw [this,show (k+1) * 6 - 6=k * 6 by omega,List.take_of_length_le (l:=a.cells) (by rw [this];omega)]
theorem zcy (L:List Acct) (k:Nat):flatA (L.drop k)=(flatA L).drop (k * 6):=by
 induction L generalizing k with
 | nil=>simp [flatA]
 | cons a L ih =>
   cases k with
   | zero=>simp
   | succ k =>
     rw [List.drop_succ_cons,yG,ih,List.drop_append]
     have:a.cells.length=6:=rfl
     rw [this,show (k+1) * 6 - 6=k * 6 by omega,List.drop_of_length_le (l:=a.cells) (by rw [this];omega),List.nil_append]
theorem ChartV.cells {w:World} {p:Option Addr} {n c:Nat} {L:List Acct} (h:ChartV w (.slice p n c) L) (hL:L≠[]):∃ b o,p=some ⟨b,o,none⟩∧b < w.heap.size∧∀ (j:Nat) v,(flatA L)[j]?=some v→w.cell? ⟨b,o+j,none⟩=some v:=by
 obtain ⟨p',c',e,_,_,_,hc⟩:=h
 cases e
 cases L with
 | nil=>exact absurd rfl hL
 | cons a L =>
   obtain ⟨b,o,rfl,h0⟩:=hc 0 a rfl
   refine ⟨b,o,rfl,h0.lt,fun j v hj=>?_⟩
   obtain ⟨x,hx,hv⟩:=zdW hj
   obtain ⟨b',o',e',h1⟩:=hc _ x hx
   cases e'
   have:=h1.cell _ v hv
   rwa [Nat.add_assoc,show j / 6 * 6+j % 6=j by omega] at this
theorem xN {w:World} {B:Nat} {e:TypeId} {v:Value} {L:List Acct} (h:w.ownsRow B e 6 v L.length (flatA L)):ChartV w v L:=by
 have h0:=h
 rcases h.2 with ⟨rfl,hn⟩ | ⟨g,cap,cur,rfl,_,_,hnc,hcm,_⟩
 ·have:L=[]:=List.eq_nil_of_length_eq_zero hn
  subst this
  exact ChartV.nil w
 ·refine ⟨_,cap,rfl,hnc,hcm,(fun e=>by cases e),fun i x hx=>⟨g,0,rfl,Ym fun j u hj=>?_⟩⟩
  have:=h0.cells (g:=g) rfl _ _ (Jd L i x hx j u hj)
  rwa [zl,←Nat.add_assoc] at this
end Go.Proofs.YtdhfpgjnjlcciaaGreatDoor
end
section
namespace Go.Proofs.YtdhfpgjnjlcciaaGreatDoor
open Go.RowKit
def BoxA (w:World) (b:Nat) (t:TypeId) (a:Acct):Prop:=w.heap[b]?=some (.cells #[.string a.code,.int .i64 a.cls,.bool a.cash,.bool a.both,.string a.fixed,.bool a.worn] t (0,0))
theorem BoxA.keep {w w':World} {b B:Nat} {t:TypeId} {a:Acct} (h:BoxA w b t a) (hb:Below B w w') (hB:b < B):BoxA w' b t a:=(hb.block b hB).trans h
theorem BoxA.new (w:World) (a:Acct) (t:TypeId):BoxA (w.alloc (.cells #[.string a.code,.int .i64 a.cls,.bool a.cash,.bool a.both,.string a.fixed,.bool a.worn] t)) w.heap.size t a:=heap_alloc_new w _
theorem BoxA.at0 {w:World} {b:Nat} {t:TypeId} {a:Acct} (h:BoxA w b t a):AcctAt w b 0 a :=
 Ym fun j v hj=>by rw [Nat.zero_add,cell_of_row _ b j _ t (0,0) h];simpa [Acct.cells] using hj
theorem BoxA.facts {w:World} {b:Nat} {t:TypeId} {a:Acct} (h:BoxA w b t a) :
 w.cell? ⟨b,0,none⟩=some (.string a.code)∧w.cell? ⟨b,1,none⟩=some (.int .i64 a.cls)∧w.cell? ⟨b,2,none⟩=some (.bool a.cash)∧w.cell? ⟨b,3,none⟩=some (.bool a.both)∧w.cell? ⟨b,4,none⟩=some (.string a.fixed)∧w.cell? ⟨b,5,none⟩=some (.bool a.worn) :=
 ⟨h.at0.c0,h.at0.c1,h.at0.c2,h.at0.c3,h.at0.c4,h.at0.c5⟩
theorem BoxA.set {w:World} {b:Nat} {t:TypeId} {a:Acct} (h:BoxA w b t a) (x:Acct):BoxA (w.setRow b #[.string x.code,.int .i64 x.cls,.bool x.cash,.bool x.both,.string x.fixed,.bool x.worn]) b t x:=setRow_heap w b _ _ t _ h
theorem Xn (a:Acct):(#[.string a.code,.int .i64 a.cls,.bool a.cash,.bool a.both,.string a.fixed,.bool a.worn]:Array Value).all (·.oneCell')=true:=by simp [Value.oneCell']
theorem QE (w:World) (g:Nat) (cs:Array Value):w.grownBy (w.setRow g cs) (some g) :=
 ⟨rfl,rfl,rfl,by simp [World.setRow],fun k _ hk=>setRow_other w g k cs (fun e=>hk (by rw [e]))⟩
theorem qp {P:Program} {ops:Array Oper} {rest:List Oper} {o:Oper} {act:Act} {w:World} {Q:Exit→Act→World→Prop} (hgd:o.guard=none) (ty:TypeId) (x y:Operand) (ho:o.op=.store ty x y)
 (g:Nat) (z a:Acct) (t:TypeId) (hx:act.eval x=.pointer (some ⟨g,0,none⟩)) (hy:act.eval y=.agg #[.string a.code,.int .i64 a.cls,.bool a.cash,.bool a.both,.string a.fixed,.bool a.worn]) (hg:BoxA w g t z) (hi:(P.info? ty).map (·.size)=some 6)
 (h:∀ w',BoxA w' g t a→w.grownBy w' (some g)→wpList P ops Q rest (act.put o.dst undef) w'):wpList P ops Q (o::rest) act w :=
 wpList_store_row hgd ty x y ho g _ hx hy t _ hg hi rfl (Xn a) (h _ (hg.set a) (QE w g _))
abbrev aggF (a:Acct):Value:=.agg #[.string a.code,.int .i64 a.cls,.bool a.cash,.bool a.both,.string a.fixed,.bool a.worn]
def findV (o:Option Acct):Acct:=o.getD zeroA
set_option maxRecDepth 100000 in
set_option maxHeartbeats 2000000 in
theorem jh (v:Value) (L:List Acct) (code:ByteArray) (w:World) (h:ChartV w v L) :
 Calls Tryz.prog 55 #[v,.string code] w fun e w'=>e=.returned (.tuple #[aggF (findV (findL L code)),.bool (findL L code).isSome])∧Below w.heap.size w w':=by
 obtain ⟨a,c,rfl,hcap,hm,_,hc⟩:=h
 obtain ⟨n,hn⟩:∃ n,L.length=n:=⟨_,rfl⟩
 obtain ⟨r,hr⟩:∃ r,findL L code=r:=⟨_,rfl⟩
 rw [hn] at hcap ⊢
 rw [hr]
 have HC:=Lib.hid hc
 have HN:=Lib.hid hn
 have HR:=Lib.hid hr
 unfold maxLen at hm
 clear hc hn hr
 obtain ⟨R,hR⟩:∃ R,findV r=R:=⟨_,rfl⟩
 obtain ⟨S,hS⟩:∃ S,r.isSome=S:=⟨_,rfl⟩
 rw [hR,hS]
 have HRV:=Lib.hid hR
 have HSV:=Lib.hid hS
 clear hR hS
 have HB0:=Lib.hid ((Below.refl w.heap.size w).alloc (Nat.le_refl _) (.cells #[.string ⟨#[]⟩,.int .i64 0,.bool false,.bool false,.string ⟨#[]⟩,.bool false] 129))
 have HC0:=Lib.hid (BoxA.new w zeroA 129)
 go_enter Tryz.func55,Tryz.ntmps55
 go_wp2
 go_loopw [10] (fun s10 wr=>∃ i:Nat,i≤n∧s10=.int .i64 (i:Int)∧Below w.heap.size w wr∧w.heap.size < wr.heap.size∧BoxA wr w.heap.size 129 zeroA∧Hid (∀ (j:Nat) (y:Acct),j < i→L[j]?=some y→y.code≠code)) (fun s10 _=>n - (intOf s10).toNat)
 case atStart=>exact ⟨0,Nat.zero_le _,rfl,HB0.out,by simp,HC0.out,Lib.hid fun j y hj=>absurd hj (Nat.not_lt_zero _)⟩
 case round =>
  obtain ⟨i,hi,rfl,hnx,hsz,hbox,HNO⟩:=hrel
  by_cases hlt:i < n
  ·obtain ⟨x,hx⟩:∃ x,L[i]?=some x:=⟨_,List.getElem?_eq_getElem (by rw [HN.out];exact hlt)⟩
   obtain ⟨b,o,rfl,hat⟩:=HC.out i x hx
   obtain ⟨c0,c1,c2,c3,c4,c5⟩:=hat.keep hnx hat.lt
   have HX:=Lib.hid hx
   have HBX:=Lib.hid hbox
   have HNX:=Lib.hid (hnx.alloc (Nat.le_of_lt hsz) (.cells #[.string x.code,.int .i64 x.cls,.bool x.cash,.bool x.both,.string x.fixed,.bool x.worn] 129))
   have HBN:=Lib.hid (hbox.keep ((Below.refl wr.heap.size wr).alloc (Nat.le_refl _) (.cells #[.string x.code,.int .i64 x.cls,.bool x.cash,.bool x.both,.string x.fixed,.bool x.worn] 129)) hsz)
   have HSZ:=Lib.hid hsz
   clear hx hbox hat
   cases hxe:(x.code.toList==code.toList) with
   | false =>
     have HXE:=Lib.hid ((Lib.bytes_beq_false_iff x.code code).1 hxe)
     go_wp2
     go_roundw
     case rel=>exact ⟨i+1,by omega,by go_num,HNX.out,by simp;omega,HBN.out,Lib.hid fun j y hj hy=>by
      rcases Nat.lt_or_ge j i with h | h
      ·exact HNO.out j y h hy
      ·obtain rfl:j=i:=by omega
       rw [HX.out] at hy;cases hy;exact HXE.out⟩
     case measure=>simp [intOf];omega
   | true =>
     have HXE:=Lib.hid ((Lib.bytes_beq_iff x.code code).1 hxe)
     have hres:Hid (r=some x):=Lib.hid (by rw [←HR.out];exact Va HNO.out HX.out HXE.out)
     go_wp2_with (refine qp rfl 129 (.tmp 4) (.tmp 18) rfl w.heap.size zeroA x 129 rfl rfl HBN.out (by kernel_rfl) ?_;intro w2 hb2 hg2)
     have HF:=Lib.hid (HNX.out.grown hg2 HNX.out.size (fun j hj=>by cases hj;exact Nat.le_refl _))
     obtain ⟨d0,d1,d2,d3,d4,d5⟩:=hb2.facts
     clear hb2 hg2
     refine bodyPost_ret (v:=.tuple #[aggF x,.bool true]) (by simp [results,Tryz.results55,go_sem,d0,d1,d2,d3,d4,d5]) rfl ⟨?_,HF.out⟩
     rw [←HRV.out,←HSV.out,hres.out];rfl
  ·have hres:Hid (r=none):=Lib.hid (by
    rw [←HR.out]
    refine zar fun j y hy=>HNO.out j y ?_ hy
    have:=(List.getElem?_eq_some_iff.1 hy).1
    rw [HN.out] at this;omega)
   have HNX:=Lib.hid hnx
   go_wp2_with (refine qp rfl 129 (.tmp 4) (.tmp 20) rfl w.heap.size zeroA zeroA 129 rfl rfl hbox (by kernel_rfl) ?_;intro w2 hb2 hg2)
   have HF:=Lib.hid (HNX.out.grown hg2 HNX.out.size (fun j hj=>by cases hj;exact Nat.le_refl _))
   obtain ⟨d0,d1,d2,d3,d4,d5⟩:=hb2.facts
   clear hb2 hg2
   refine bodyPost_ret (v:=.tuple #[aggF zeroA,.bool false]) (by simp [results,Tryz.results55,go_sem,d0,d1,d2,d3,d4,d5]) rfl ⟨?_,HF.out⟩
   rw [←HRV.out,←HSV.out,hres.out];rfl
end Go.Proofs.YtdhfpgjnjlcciaaGreatDoor
end
section
namespace Go.Proofs.YtdhfpgjnjlcciaaGreatDoor.Un
open Go.RowKit
structure MastIn (w:World) (c f e l:Value) (M:Mast):Prop where
 chart:ChartV w c M.chart
 flows:Fl.FlowsV w f M.flows
 ents:ElsV encE w e M.ents
 lines:ElsV encL w l M.lines
theorem MastIn.keep {w w':World} {c f e l:Value} {M:Mast} (h:MastIn w c f e l M) (hb:Below w.heap.size w w'):MastIn w' c f e l M :=
 ⟨h.chart.keep hb,h.flows.keep hb,h.ents.keep hb,h.lines.keep hb⟩
theorem MastIn.zero (w:World):MastIn w (.slice none 0 0) (.slice none 0 0) (.slice none 0 0) (.slice none 0 0) zeroM :=
 ⟨ChartV.nil _,ElsV.nil _,ElsV.nil _,ElsV.nil _⟩
abbrev cellsM (c f e l:Value) (M:Mast):Array Value:=#[c,f,e,l,.string M.cur,.string M.res,.string M.dif,.string M.min,.string M.stk]
abbrev aggM (c f e l:Value) (M:Mast):Value:=.agg #[c,f,e,l,.string M.cur,.string M.res,.string M.dif,.string M.min,.string M.stk]
def MastV (w:World) (v:Value) (M:Mast):Prop:=∃ c f e l,v=aggM c f e l M∧MastIn w c f e l M
def Jr (w:World) (M:Mast) (n:Int) (en:Ending) (w':World):Prop:=∃ v,en=.returned (.tuple #[v,.int .i64 n])∧MastV w' v M∧Below w.heap.size w w'
structure NineAt (w:World) (b:Nat) (c f e l:Value) (M:Mast):Prop where
 c0:w.cell? ⟨b,0,none⟩=some c
 c1:w.cell? ⟨b,1,none⟩=some f
 c2:w.cell? ⟨b,2,none⟩=some e
 c3:w.cell? ⟨b,3,none⟩=some l
 c4:w.cell? ⟨b,4,none⟩=some (.string M.cur)
 c5:w.cell? ⟨b,5,none⟩=some (.string M.res)
 c6:w.cell? ⟨b,6,none⟩=some (.string M.dif)
 c7:w.cell? ⟨b,7,none⟩=some (.string M.min)
 c8:w.cell? ⟨b,8,none⟩=some (.string M.stk)
theorem NineAt.lt {w:World} {b:Nat} {c f e l:Value} {M:Mast} (h:NineAt w b c f e l M):b < w.heap.size:=World.block_lt_of_cell? w _ h.c0
theorem NineAt.keep {w w':World} {b B:Nat} {c f e l:Value} {M:Mast} (h:NineAt w b c f e l M) (hb:Below B w w') (hB:b < B):NineAt w' b c f e l M :=
 ⟨(hb.cell (p:=⟨b,_,none⟩) hB).trans h.c0,(hb.cell (p:=⟨b,_,none⟩) hB).trans h.c1,(hb.cell (p:=⟨b,_,none⟩) hB).trans h.c2,(hb.cell (p:=⟨b,_,none⟩) hB).trans h.c3,(hb.cell (p:=⟨b,_,none⟩) hB).trans h.c4,(hb.cell (p:=⟨b,_,none⟩) hB).trans h.c5,(hb.cell (p:=⟨b,_,none⟩) hB).trans h.c6,(hb.cell (p:=⟨b,_,none⟩) hB).trans h.c7,(hb.cell (p:=⟨b,_,none⟩) hB).trans h.c8⟩
theorem NineAt.kept {w w':World} {b:Nat} {c f e l:Value} {M:Mast} (h:NineAt w b c f e l M) (hb:Below w.heap.size w w'):NineAt w' b c f e l M:=h.keep hb h.lt
theorem vn {w:World} {b:Nat} {t:TypeId} {c f e l:Value} {M:Mast} {more:List Value} {fr:Nat × Nat} (h:w.heap[b]?=some (.cells ([c,f,e,l,.string M.cur,.string M.res,.string M.dif,.string M.min,.string M.stk]++more).toArray t fr)):NineAt w b c f e l M:=by
 have hc:=fun i=>cell_of_row w b i _ t fr h
 exact ⟨(hc 0).trans rfl,(hc 1).trans rfl,(hc 2).trans rfl,(hc 3).trans rfl,(hc 4).trans rfl,(hc 5).trans rfl,(hc 6).trans rfl,(hc 7).trans rfl,(hc 8).trans rfl⟩
theorem zM (w:World) (c f e l:Value) (M:Mast) (t:TypeId):NineAt (w.alloc (.cells (cellsM c f e l M) t)) w.heap.size c f e l M :=
 vn (more:=[]) (heap_alloc_new w _)
def BoxM (w:World) (b:Nat) (t:TypeId) (c f e l:Value) (M:Mast):Prop:=w.heap[b]?=some (.cells (cellsM c f e l M) t (0,0))
theorem BoxM.new (w:World) (c f e l:Value) (M:Mast) (t:TypeId):BoxM (w.alloc (.cells (cellsM c f e l M) t)) w.heap.size t c f e l M:=heap_alloc_new w _
theorem BoxM.lt {w:World} {b:Nat} {t:TypeId} {c f e l:Value} {M:Mast} (h:BoxM w b t c f e l M):b < w.heap.size:=(Array.getElem?_eq_some_iff.1 h).1
theorem BoxM.keep {w w':World} {b B:Nat} {t:TypeId} {c f e l:Value} {M:Mast} (h:BoxM w b t c f e l M) (hb:Below B w w') (hB:b < B):BoxM w' b t c f e l M:=(hb.block b hB).trans h
theorem BoxM.kept {w w':World} {b:Nat} {t:TypeId} {c f e l:Value} {M:Mast} (h:BoxM w b t c f e l M) (hb:Below w.heap.size w w'):BoxM w' b t c f e l M:=h.keep hb h.lt
theorem BoxM.nine {w:World} {b:Nat} {t:TypeId} {c f e l:Value} {M:Mast} (h:BoxM w b t c f e l M):NineAt w b c f e l M:=vn (more:=[]) h
structure Ones (c f e l:Value):Prop where
 c:c.oneCell'=true
 f:f.oneCell'=true
 e:e.oneCell'=true
 l:l.oneCell'=true
theorem jJ {w:World} {c f e l:Value} {M:Mast} (h:MastIn w c f e l M):Ones c f e l:=by
 obtain ⟨p0,k0,rfl,_⟩:=h.chart
 obtain ⟨p1,k1,rfl,_⟩:=h.flows
 obtain ⟨p2,k2,rfl,_⟩:=h.ents
 obtain ⟨p3,k3,rfl,_⟩:=h.lines
 exact ⟨rfl,rfl,rfl,rfl⟩
theorem zi {P:Program} {ops:Array Oper} {rest:List Oper} {o:Oper} {act:Act} {w:World} {Q:Exit→Act→World→Prop} (hgd:o.guard=none) (ty:TypeId) (x y:Operand) (ho:o.op=.store ty x y)
 (g:Nat) (c0 f0 e0 l0 c f e l:Value) (M0 M:Mast) (t:TypeId) (hx:act.eval x=.pointer (some ⟨g,0,none⟩)) (hy:act.eval y=aggM c f e l M) (hg:BoxM w g t c0 f0 e0 l0 M0) (h1:Ones c f e l) (hi:(P.info? ty).map (·.size)=some 9)
 (h:∀ w',BoxM w' g t c f e l M→w.grownBy w' (some g)→wpList P ops Q rest (act.put o.dst undef) w'):wpList P ops Q (o::rest) act w :=
 wpList_store_row hgd ty x y ho g _ hx hy t _ hg hi rfl (by have hs:∀ s,(Value.string s).oneCell'=true:=fun _=>rfl;simp [h1.c,h1.f,h1.e,h1.l,hs]) (h _ (setRow_heap w g _ _ t _ hg) (QX w g _))
structure Role where
 head:ByteArray
 code:ByteArray
 cls:Int
abbrev encR:Enc Role:=⟨fun r=>[.string r.head,.string r.code,.int .i64 r.cls],3,fun _=>rfl,by decide,fun _ v hv=>by simp at hv;rcases hv with rfl | rfl | rfl <;> rfl⟩
theorem role3 {w:World} {b o:Nat} {r:Role} (h:ElAt encR w b o r):w.cell? ⟨b,o,none⟩=some (.string r.head)∧w.cell? ⟨b,o+1,none⟩=some (.string r.code)∧w.cell? ⟨b,o+2,none⟩=some (.int .i64 r.cls):=⟨h 0 _ rfl,h 1 _ rfl,h 2 _ rfl⟩
def qh (M:Mast):List Role:=[⟨zI,M.res,2⟩,⟨zD,M.dif,0⟩,⟨tMinor,M.min,2⟩,⟨tStake,M.stk,0⟩]
theorem zcM (M:Mast):(qh M).all (fun r=>hasA M.chart r.code)=rolesN M:=by
 simp [qh,rolesN,Bool.and_assoc]
theorem zfV (M:Mast):(qh M).all (fun r=>plainA M.chart r.code r.cls)=rolesP M:=by
 simp [qh,rolesP,Bool.and_assoc]
set_option maxHeartbeats 1000000 in
theorem Kj (c f e l:Value) (M:Mast) (w:World) :
 Calls Tryz.prog 133 #[aggM c f e l M] w fun en w'=>∃ b,en=.returned (.slice (some ⟨b,0,none⟩) 4 4)∧ElsV encR w' (.slice (some ⟨b,0,none⟩) 4 4) (qh M)∧Below w.heap.size w w':=by
 have HB:=Lib.hid ((Below.refl w.heap.size w).alloc (Nat.le_refl _) (.cells (cellsM c f e l M) 33))
 have HN:=Lib.hid (zM w c f e l M 33)
 have hE:=jQ encR (w.alloc (.cells (cellsM c f e l M) 33)) (qh M) 241 (by unfold maxLen;simp [qh])
 rw [World.size_alloc] at hE
 have HE:=Lib.hid hE
 clear hE
 obtain ⟨c0,c1,c2,c3,c4,c5,c6,c7,c8⟩:=HN.out
 go_enter Tryz.func133,Tryz.ntmps133
 go_wp2
 go_ret
 refine ⟨_,rfl,HE.out,HB.out.alloc HB.out.size _⟩
end Go.Proofs.YtdhfpgjnjlcciaaGreatDoor.Un
end
section
namespace Go.Proofs.YtdhfpgjnjlcciaaGreatDoor.Un
open Go.RowKit
theorem JS {M:Mast} (h:allE M=0):M.cur≠emp∧rolesN M=true∧linesN M=true∧Fl.wholeF M.flows=true∧rolesP M=true:=by
 unfold allE at h
 split at h
 ·simp at h
 ·rename_i h1
  split at h
  ·simp at h
  ·rename_i h2
   split at h
   ·simp at h
   ·rename_i h3
    simp only [Bool.or_eq_true,decide_eq_true_eq,Bool.not_eq_true',not_or,Bool.not_eq_false] at h1
    exact ⟨h1.1.1,h1.1.2,h1.2,by simpa using h2,by simpa using h3⟩
theorem Inv.right {l:List (List ByteArray)} {M:Mast} (h:Inv l M):∀ a∈M.chart,rightA a=true:=fun a ha=>by
 have:=(h.chart.mem_iff).1 ha
 obtain ⟨ws,_,hw⟩:=List.mem_filterMap.1 this
 unfold acO at hw
 split at hw
 ·rename_i h2
  cases hw
  exact (Zq h2.2).2
 ·cases hw
theorem Inv.rightF {l:List (List ByteArray)} {M:Mast} (h:Inv l M):∀ a∈M.flows,Fl.rightF a=true:=fun a ha=>by
 have:=(h.flows.mem_iff).1 ha
 obtain ⟨ws,_,hw⟩:=List.mem_filterMap.1 this
 unfold flO at hw
 split at hw
 ·rename_i h2
  cases hw
  rcases Fl.kY ws with e | ⟨_,e,_⟩
  ·rw [e] at h2;simp at h2
  ·exact e
 ·cases hw
theorem Inv.zd9 {l:List (List ByteArray)} {M:Mast} (h:Inv l M):hasA M.chart emp=false:=by
 unfold hasA
 rw [VG]
 ·rfl
 ·intro hm
  obtain ⟨a,ha,hc⟩:=List.mem_map.1 hm
  exact kG (qf (h.right a ha)).1 hc
theorem VL (s:ByteArray):(∃ M,runM zeroM (wordsT s)=(M,0)∧Inv (wordsT s) M∧allE M=0∧parseM s=(M,0)∧linE s.data.toList=0)∨((parseM s).1=zeroM∧(parseM s).2≠0):=by
 unfold parseM
 by_cases h0:linE s.data.toList=0
 ·rw [if_pos h0]
  unfold linesM
  cases hr:runM zeroM (wordsT s) with
  | mk M E =>
    by_cases hE:E=0
    ·subst hE
     by_cases ha:allE M=0
     ·exact .inl ⟨M,rfl,Yh hr,ha,Zl M ha,h0⟩
     ·right;rw [Q0 M ha];exact ⟨rfl,ha⟩
    ·right
     unfold endM
     rw [if_neg hE];exact ⟨rfl,hE⟩
 ·rw [if_neg h0];exact .inr ⟨rfl,h0⟩
end Go.Proofs.YtdhfpgjnjlcciaaGreatDoor.Un
end
section
namespace Go.Proofs.YtdhfpgjnjlcciaaGreatDoor.G
variable {α κ:Type} [KeyO κ] {key:α→κ}
def doneR (key:α→κ) (L:List α) (x:α):Bool:=L.any fun z=>KeyO.lt (key x) (key z)
def midR (key:α→κ) (L:List α) (x:α):List α:=if doneR key L x=true then insR key L x else L
theorem zO (L:List α) (x y:α):doneR key (L++[y]) x=(doneR key L x || KeyO.lt (key x) (key y)):=by simp [doneR,List.any_append]
theorem KB (A:List α) (x y:α):insR key (A++[y]) x=if doneR key A x=true then insR key A x++[y] else if KeyO.lt (key x) (key y)=true then A++[x,y] else A++[y,x]:=by
 induction A with
 | nil=>simp [insR,doneR]
 | cons a A ih =>
   rw [List.cons_append]
   simp only [insR]
   by_cases h:KeyO.lt (key x) (key a)=true
   ·rw [if_pos h,if_pos h,if_pos (by simp [doneR,h])];rfl
   ·rw [if_neg h,if_neg h,ih]
    have e:doneR key (a::A) x=doneR key A x:=by
     unfold doneR
     rw [List.any_cons,Bool.eq_false_iff.2 h,Bool.false_or]
    rw [e]
    by_cases h1:doneR key A x=true
    ·rw [if_pos h1,if_pos h1];rfl
    ·rw [if_neg h1,if_neg h1]
     split <;> rfl
theorem zeY {A:List α} {x:α} (h:doneR key A x=false):insR key A x=A++[x]:=by
 induction A with
 | nil=>rfl
 | cons a A ih =>
   unfold doneR at h
   rw [List.any_cons,Bool.or_eq_false_iff] at h
   simp only [insR]
   rw [if_neg (by rw [h.1];simp),ih h.2];rfl
theorem kg {A:List α} {x:α} (y:α) (h:doneR key A x=true):midR key (A++[y]) x=midR key A x++[y]:=by
 unfold midR
 rw [if_pos (by rw [zO,h];rfl),if_pos h,KB,if_pos h]
theorem kK {A:List α} {x y:α} (h:doneR key A x=false) (h1:KeyO.lt (key x) (key y)=true):midR key (A++[y]) x=midR key A x++[x]++[y]:=by
 unfold midR
 rw [if_pos (by rw [zO,h,h1];rfl),if_neg (by rw [h];simp),KB,if_neg (by rw [h];simp),if_pos h1]
 simp
theorem k9 {A:List α} {x y:α} (h:doneR key A x=false) (h1:KeyO.lt (key x) (key y)=false):midR key (A++[y]) x=midR key A x++[y]:=by
 unfold midR
 rw [if_neg (by rw [zO,h,h1];simp),if_neg (by rw [h];simp)]
theorem vo {A:List α} {x:α} (h:doneR key A x=true):midR key A x=insR key A x:=by unfold midR;rw [if_pos h]
theorem vJ {A:List α} {x:α} (h:doneR key A x=false):midR key A x++[x]=insR key A x:=by
 unfold midR
 rw [if_neg (by rw [h];simp),zeY h]
theorem ze0 (L:List α) (x:α):(insR key L x).length=L.length+1:=by
 induction L with
 | nil=>rfl
 | cons a L ih =>
   simp only [insR]
   split
   ·simp
   ·simp [ih]
theorem JC (L:List α) (x:α):(midR key L x).length≤L.length+1:=by
 unfold midR
 split
 ·rw [ze0];exact Nat.le_refl _
 ·omega
end Go.Proofs.YtdhfpgjnjlcciaaGreatDoor.G
end
section
namespace Go.Proofs.YtdhfpgjnjlcciaaGreatDoor
open Go.RowKit
structure InfoE {α:Type} (P:Program) (t e:TypeId) (E:Enc α):Prop where
 under:P.underlying t=some (.slice e)
 info:∃ i z n,P.info? e=some i∧i.zero=some z∧i.size=E.k∧i.bytes=n∧z.cells.size=E.k∧n≤1000
theorem InfoE.of {α:Type} {P:Program} {t e:TypeId} {E:Enc α} {z:Value} {n:Nat} (hu:P.underlying t=some (.slice e)) (h:(P.info? e).map (fun i=>(i.zero,i.size,i.bytes))=some (some z,E.k,n)) (hz:z.cells.size=E.k) (hn:n≤1000):InfoE P t e E:=by
 refine ⟨hu,?_⟩
 cases hi:P.info? e with
 | none=>rw [hi] at h;cases h
 | some i =>
   rw [hi] at h
   simp only [Option.map_some,Option.some.injEq,Prod.mk.injEq] at h
   exact ⟨i,z,n,rfl,h.1,h.2.1,h.2.2,hz,hn⟩
theorem zx {α:Type} {E:Enc α} {P:Program} {ops:Array Oper} {rest:List Oper} {o:Oper} {a:Act} {w:World} {Q:Exit→Act→World→Prop} (hgd:o.guard=none) (s x:Operand) (t e:TypeId) (ho:o.op=.call { callee:=.builtin .append,args:=#[s,x],argTypes:=#[t,t] }) (HI:InfoE P t e E)
 (B:Nat) (L:List α) (y:α) (g:Nat) (hrow:w.ownsRow B e E.k (a.eval s) L.length (flat E L)) (hx:a.eval x=.slice (some ⟨g,0,none⟩) 1 1) (hc:ElAt E w g 0 y) (hB:B≤w.heap.size) (hL:L.length≤1000000)
 (h:∀ v' w',w'.ownsRow B e E.k v' (L++[y]).length (flat E (L++[y]))→Below B w w'→w.grownBy w' (a.eval s).ownBlock→wpList P ops Q rest (a.put o.dst v') w'):wpList P ops Q (o::rest) a w:=by
 obtain ⟨i,z,n,hi,hz,hs,hn,hzs,hb⟩:=HI.info
 refine wpList_append_own w hgd s x t ho B e i z E.k n HI.under hi hz hs hn hzs E.pos _ _ _ rfl hrow ⟨g,0,none⟩ 1 1 (E.cs y) hx (by rw [E.len,Nat.one_mul]) (fun j u hj=>by rw [zl];exact hc j u hj) (E.one y) (by unfold maxLen;omega) ?_ hB ?_
 ·exact Nat.le_trans (Nat.mul_le_mul (Nat.add_le_add_right hL 1) hb) (by decide)
 ·intro v' w' h1 h2 _
  exact h v' w' (by rw [qy,jY,List.length_append];exact h1) (below_grown (Below.refl _ _) hB hrow h2) h2
theorem zf {α:Type} (E:Enc α) (w:World) (y:α) (t:TypeId):ElAt E (w.alloc (.cells (E.cs y).toArray t)) w.heap.size 0 y:=(BoxE.new E w y t).at0
end Go.Proofs.YtdhfpgjnjlcciaaGreatDoor
end
section
namespace Go.Proofs.YtdhfpgjnjlcciaaGreatDoor.Un
open Go.RowKit
theorem zeT:InfoE Tryz.prog 36 250 encE :=
 InfoE.of (z:=.agg #[.string ⟨#[]⟩,.string ⟨#[]⟩]) (n:=32) Tryz.underlying36 (by kernel_rfl) (by kernel_rfl) (by decide)
structure InsAt {α κ:Type} [G.KeyO κ] (E:Enc α) (key:α→κ) (e:TypeId) (W0 wr:World) (L:List α) (x:α) (i:Nat) (s6:Value):Prop where
 own:wr.ownsRow W0.heap.size e E.k s6 (G.midR key (L.take i) x).length (flat E (G.midR key (L.take i) x))
 bel:Below W0.heap.size W0 wr
 no:∀ (j:Nat) (y:α),j < i→L[j]?=some y→key y≠key x
theorem InsAt.drewN {α κ:Type} [G.KeyO κ] {E:Enc α} {key:α→κ} {e:TypeId} {W0 wr:World} {L:List α} {x:α} {i:Nat} {s6:Value} (h:InsAt E key e W0 wr L x i s6) (q:Nat):InsAt E key e W0 (wr.drewN q) L x i s6:=⟨h.own,below_drewN h.bel q,h.no⟩
theorem zU {α κ:Type} {key:α→κ} {L:List α} {k:κ} {i:Nat} {y:α} (h:∀ (j:Nat) (z:α),j < i→L[j]?=some z→key z≠k) (hy:L[i]?=some y) (he:key y≠k):∀ (j:Nat) (z:α),j < i+1→L[j]?=some z→key z≠k:=fun j z hj hz=>by
 rcases Nat.lt_or_ge j i with h' | h'
 ·exact h j z h' hz
 ·obtain rfl:j=i:=by omega
  rw [hy] at hz;cases hz;exact he
theorem zZ {α κ:Type} [G.KeyO κ] {key:α→κ} {L:List α} {x:α} {i n:Nat} (hn:L.length=n) (h:n≤1000):(G.midR key (L.take i) x).length≤1000000:=by
 have h1:=G.JC (key:=key) (L.take i) x
 rw [List.length_take] at h1
 omega
theorem kW {α κ:Type} [G.KeyO κ] {key:α→κ} {L:List α} {x:α} {i n:Nat} (hn:L.length=n) (h:n≤1000):(G.midR key (L.take i) x++[x]).length≤1000000:=by
 have h1:=G.JC (key:=key) (L.take i) x
 rw [List.length_take] at h1
 rw [List.length_append,List.length_singleton]
 omega
theorem vN {α κ:Type} [G.KeyO κ] {key:α→κ} {L:List α} {x:α} {n:Nat} (hn:L.length=n) (h:n≤1000):(G.midR key L x).length≤1000000:=by
 have h1:=G.JC (key:=key) L x
 omega
theorem ziR {L:List Ent} {x y:Ent} {i:Nat} (hy:L[i]?=some y) (he:y.code=x.code):entE L x=7:=by
 unfold entE
 rw [if_pos]
 have hm:=List.mem_of_getElem? hy
 cases hf:G.findK Ent.code L x.code with
 | some z=>rfl
 | none=>exact absurd he (G.qH hf y hm)
theorem zg0 {L:List Ent} {x:Ent} (h:∀ (j:Nat) (y:Ent),L[j]?=some y→y.code≠x.code):entE L x=if 60≤L.length then 4 else 0:=by
 unfold entE
 rw [if_neg]
 rw [G.qx (fun y hy e=>by
  obtain ⟨j,hj,rfl⟩:=List.getElem_of_mem hy
  exact h j _ (List.getElem?_eq_getElem hj) e)]
 simp
def ZP {α:Type} (E:Enc α) (w:World) (v:Value) (L:List α) (n:Int) (en:Ending) (w':World):Prop:=∃ v',en=.returned (.tuple #[v',.int .i64 n])∧(n≠0→v'=v)∧(n=0→∃ t,w'.ownsRow w.heap.size t E.k v' L.length (flat E L))∧Below w.heap.size w w'
set_option maxRecDepth 100000 in
set_option maxHeartbeats 4000000 in
theorem zcA (v:Value) (L:List Ent) (x:Ent) (w:World) (h:ElsV encE w v L) (hL:L.length≤1000) :
 Calls Tryz.prog 141 #[v,aggE x] w (ZP encE w v (G.insR Ent.code L x) (entE L x)):=by
 have hB0:=(Below.refl w.heap.size w).alloc (Nat.le_refl _) (.cells #[.string x.code,.string x.cur] 250)
 have hX0:=BoxE.new encE w x 250
 have hV0:=h.keep hB0
 have hS0:(w.alloc (.cells #[.string x.code,.string x.cur] 250)).heap.size=w.heap.size+1:=World.size_alloc ..
 obtain ⟨W0,hW0⟩:∃ W0,w.alloc (.cells #[.string x.code,.string x.cur] 250)=W0:=⟨_,rfl⟩
 have hX0':BoxE encE W0 w.heap.size 250 x:=by rw [←hW0];exact hX0
 rw [hW0] at hB0 hV0 hS0
 have HB0:=Lib.hid hB0
 have HX0:=Lib.hid hX0'
 have HV0:=Lib.hid hV0
 have HS0:=Lib.hid hS0
 obtain ⟨p,c,e,hcap,hm,_,hc⟩:=hV0
 subst e
 obtain ⟨n,hn⟩:∃ n,L.length=n:=⟨_,rfl⟩
 rw [hn] at hcap hL HV0 ⊢
 obtain ⟨N,hN⟩:∃ N,entE L x=N:=⟨_,rfl⟩
 rw [hN]
 have HC:=Lib.hid hc
 have HN:=Lib.hid hn
 have HE:=Lib.hid hN
 have HI:=Lib.hid zeT
 unfold maxLen at hm
 have HST:Hid (InsAt encE Ent.code 250 W0 W0 L x 0 (.slice none 0 0)):=Lib.hid ⟨World.ownsRow_nil _ _ _ _,Below.refl _ _,fun j y hj=>absurd hj (Nat.not_lt_zero _)⟩
 clear h hB0 hX0 hX0' hS0 hc hn hN
 go_enter Tryz.func141,Tryz.ntmps141
 go_wp2
 clear hW0
 go_loopw [6,7,8] (fun s6 s7 s8 wr=>∃ (i:Nat) (v6:Value),i≤n∧s8=.int .i64 (i:Int)∧v6=s6∧s7=.bool (G.doneR Ent.code (L.take i) x)∧Hid (InsAt encE Ent.code 250 W0 wr L x i v6)) (fun _ _ s8 _=>n - (intOf s8).toNat)
 case atStart=>exact ⟨0,_,Nat.zero_le _,rfl,rfl,rfl,HST⟩
 case round =>
  obtain ⟨i,v6,hi,rfl,rfl,rfl,HA⟩:=hrel
  by_cases hlt:i < n
  ·obtain ⟨y,hy⟩:∃ y,L[i]?=some y:=⟨_,List.getElem?_eq_getElem (by rw [HN.out];exact hlt)⟩
   obtain ⟨b,o,rfl,hat⟩:=HC.out i y hy
   obtain ⟨d0,d1⟩:=ent2 (hat.keep HA.out.bel hat.lt)
   obtain ⟨q0,q1⟩:=ent2 ((HX0.out.keep HA.out.bel HX0.out.lt).at0)
   have HY:=Lib.hid hy
   have HAT:=Lib.hid hat
   have HTK:Hid (L.take (i+1)=L.take i++[y]):=Lib.hid (by rw [List.take_succ_eq_append_getElem (by rw [HN.out];exact hlt),(List.getElem?_eq_some_iff.1 hy).2])
   obtain ⟨D,hD⟩:∃ D,G.doneR Ent.code (L.take i) x=D:=⟨_,rfl⟩
   have HD:=Lib.hid hD
   rw [hD]
   clear hy hat hD
   cases hye:(y.code.toList==x.code.toList) with
   | true =>
     have HYE:=Lib.hid ((Lib.bytes_beq_iff y.code x.code).1 hye)
     have HRS:Hid (N=7):=Lib.hid (by rw [←HE.out];exact ziR HY.out HYE.out)
     go_wp2_with fail
     go_big_quiet (fail)
     clear d0 d1 q0 q1 hye
     go_wp2
     go_ret2
     have HQ:=HA.out.drewN nq
     rw [HRS.out]
     exact ⟨_,rfl,fun _=>rfl,fun h=>absurd h (by decide),HB0.out.trans (HQ.bel.mono HB0.out.size)⟩
   | false =>
     have HYE:=Lib.hid ((Lib.bytes_beq_false_iff y.code x.code).1 hye)
     go_wp2_with fail
     go_big_quiet (fail)
     clear hye
     have HA1:=Lib.hid (HA.out.drewN nq)
     clear d0 d1 q0 q1 HA
     generalize wr.drewN nq=wq at *
     obtain ⟨d0,d1⟩:=ent2 (HAT.out.keep HA1.out.bel HAT.out.lt)
     obtain ⟨q0,q1⟩:=ent2 ((HX0.out.keep HA1.out.bel HX0.out.lt).at0)
     cases D with
     | true =>
       go_wp2_with fail
       go_big_quiet (fail)
       have HA2:=Lib.hid (HA1.out.drewN nq)
       clear d0 d1 q0 q1 HA1
       generalize wq.drewN nq=w2 at *
       obtain ⟨d0,d1⟩:=ent2 (HAT.out.keep HA2.out.bel HAT.out.lt)
       obtain ⟨q0,q1⟩:=ent2 ((HX0.out.keep HA2.out.bel HX0.out.lt).at0)
       have HB3:=Lib.hid ((Below.refl w2.heap.size w2).alloc (Nat.le_refl _) (.cells (encE.cs y).toArray 250))
       go_wp2_with (at_builtin;refine zx (E:=encE) rfl _ _ 36 250 rfl HI.out W0.heap.size _ y w2.heap.size (HA2.out.own.alloc _) rfl (zf encE w2 y _) (by have:=HA2.out.bel.size;simp;omega) (zZ HN.out hL) ?_;intro v9 w9 hr9 hb9 hg9)
       have HA9:Hid (InsAt encE Ent.code 250 W0 w9 L x (i+1) v9):=Lib.hid ⟨by rw [HTK.out,G.kg y HD.out];exact hr9,(HA2.out.bel.trans (HB3.out.mono HA2.out.bel.size)).trans hb9,zU HA2.out.no HY.out HYE.out⟩
       have HD9:Hid (G.doneR Ent.code (L.take (i+1)) x=true):=Lib.hid (by rw [HTK.out,G.zO,HD.out];first | rfl | (rw [HLT.out];rfl))
       clear hr9 hb9 hg9 d0 d1 q0 q1
       go_wp2
       go_roundw
       case rel=>exact ⟨i+1,_,by omega,by go_num,rfl,by rw [HD9.out],HA9⟩
       case measure=>simp [intOf];omega
     | false =>
       cases hlx:gtS y.code x.code with
       | true =>
         have HLT:Hid (G.KeyO.lt (Ent.code x) (Ent.code y)=true):=Lib.hid ((qN _ _).1 hlx)
         unfold gtS ltS at hlx
         simp only [Bool.not_eq_true',Bool.or_eq_false_iff] at hlx
         obtain ⟨g1,g2⟩:=hlx
         go_wp2_with fail
         go_big_quiet (fail)
         clear g1 g2
         have HA2:=Lib.hid (HA1.out.drewN nq)
         clear d0 d1 q0 q1 HA1
         generalize wq.drewN nq=w2 at *
         obtain ⟨d0,d1⟩:=ent2 (HAT.out.keep HA2.out.bel HAT.out.lt)
         obtain ⟨q0,q1⟩:=ent2 ((HX0.out.keep HA2.out.bel HX0.out.lt).at0)
         have HB3:=Lib.hid ((Below.refl w2.heap.size w2).alloc (Nat.le_refl _) (.cells (encE.cs x).toArray 250))
         go_wp2_with (at_builtin;first
          | (refine zx (E:=encE) rfl _ _ 36 250 rfl HI.out W0.heap.size _ x w2.heap.size (HA2.out.own.alloc _) rfl (zf encE w2 x _) (by have:=HA2.out.bel.size;simp;omega) (zZ HN.out hL) ?_;intro v8 w8 hr8 hb8 hg8;have HB8:Hid (Below W0.heap.size W0 w8):=Lib.hid ((HA2.out.bel.trans (HB3.out.mono HA2.out.bel.size)).trans hb8);have HO8:=Lib.hid hr8;have HB9:=Lib.hid ((Below.refl w8.heap.size w8).alloc (Nat.le_refl _) (.cells (encE.cs y).toArray 250));clear d0 d1 q0 q1 hr8 hb8 hg8;obtain ⟨d0,d1⟩:=ent2 (HAT.out.keep HB8.out HAT.out.lt))
          | (refine zx (E:=encE) rfl _ _ 36 250 rfl HI.out W0.heap.size _ y w8.heap.size (HO8.out.alloc _) rfl (zf encE w8 y _) (by have:=HB8.out.size;simp;omega) (kW HN.out hL) ?_;intro v9 w9 hr9 hb9 hg9)
          | fail)
         have HA9:Hid (InsAt encE Ent.code 250 W0 w9 L x (i+1) v9):=Lib.hid ⟨by rw [HTK.out,G.kK HD.out HLT.out];exact hr9,(HB8.out.trans (HB9.out.mono HB8.out.size)).trans hb9,zU HA2.out.no HY.out HYE.out⟩
         have HD9:Hid (G.doneR Ent.code (L.take (i+1)) x=true):=Lib.hid (by rw [HTK.out,G.zO,HD.out,HLT.out];rfl)
         clear hr9 hb9 hg9 d0 d1
         go_wp2
         go_roundw
         case rel=>exact ⟨i+1,_,by omega,by go_num,rfl,by rw [HD9.out],HA9⟩
         case measure=>simp [intOf];omega
       | false =>
         have HLT:Hid (G.KeyO.lt (Ent.code x) (Ent.code y)=false):=Lib.hid (by
          cases hh:G.KeyO.lt (Ent.code x) (Ent.code y) with
          | false=>rfl
          | true=>rw [(qN y.code x.code).2 hh] at hlx;cases hlx)
         unfold gtS ltS at hlx
         simp only [Bool.not_eq_false'] at hlx
         go_wp2_with fail
         go_big_quiet (fail)
         clear hlx
         have HA2:=Lib.hid (HA1.out.drewN nq)
         clear d0 d1 q0 q1 HA1
         generalize wq.drewN nq=w2 at *
         obtain ⟨d0,d1⟩:=ent2 (HAT.out.keep HA2.out.bel HAT.out.lt)
         obtain ⟨q0,q1⟩:=ent2 ((HX0.out.keep HA2.out.bel HX0.out.lt).at0)
         have HB3:=Lib.hid ((Below.refl w2.heap.size w2).alloc (Nat.le_refl _) (.cells (encE.cs y).toArray 250))
         go_wp2_with (at_builtin;refine zx (E:=encE) rfl _ _ 36 250 rfl HI.out W0.heap.size _ y w2.heap.size (HA2.out.own.alloc _) rfl (zf encE w2 y _) (by have:=HA2.out.bel.size;simp;omega) (zZ HN.out hL) ?_;intro v9 w9 hr9 hb9 hg9)
         have HA9:Hid (InsAt encE Ent.code 250 W0 w9 L x (i+1) v9):=Lib.hid ⟨by rw [HTK.out,G.k9 HD.out HLT.out];exact hr9,(HA2.out.bel.trans (HB3.out.mono HA2.out.bel.size)).trans hb9,zU HA2.out.no HY.out HYE.out⟩
         have HD9:Hid (G.doneR Ent.code (L.take (i+1)) x=false):=Lib.hid (by rw [HTK.out,G.zO,HD.out];first | rfl | (rw [HLT.out];rfl))
         clear hr9 hb9 hg9 d0 d1 q0 q1
         go_wp2
         go_roundw
         case rel=>exact ⟨i+1,_,by omega,by go_num,rfl,by rw [HD9.out],HA9⟩
         case measure=>simp [intOf];omega
  ·have hnf:Hid (∀ (j:Nat) (y:Ent),L[j]?=some y→y.code≠x.code):=Lib.hid (fun j y hy=>HA.out.no j y (by have:=(List.getElem?_eq_some_iff.1 hy).1;rw [HN.out] at this;omega) hy)
   have hNN:Hid (N=if 60≤n then 4 else 0):=Lib.hid (by rw [←HE.out,zg0 hnf.out,HN.out])
   have hTA:Hid (L.take i=L):=Lib.hid (List.take_of_length_le (by rw [HN.out];omega))
   rw [hTA.out]
   obtain ⟨D,hD⟩:∃ D,G.doneR Ent.code L x=D:=⟨_,rfl⟩
   have HD:=Lib.hid hD
   rw [hD]
   clear hD
   by_cases h60:60≤n
   ·have HRS:Hid (N=4):=Lib.hid (by rw [hNN.out,if_pos h60])
    go_wp2
    go_ret2
    rw [HRS.out]
    exact ⟨_,rfl,fun _=>rfl,fun h=>absurd h (by decide),HB0.out.trans (HA.out.bel.mono HB0.out.size)⟩
   ·have HRS:Hid (N=0):=Lib.hid (by rw [hNN.out,if_neg h60])
    have HO:=Lib.hid HA.out.own
    rw [hTA.out] at HO
    cases D with
    | true =>
      go_wp2
      go_ret2
      rw [HRS.out]
      exact ⟨_,rfl,fun h=>absurd rfl h,fun _=>⟨_,by rw [←G.vo HD.out];exact zw HO.out HB0.out.size⟩,HB0.out.trans (HA.out.bel.mono HB0.out.size)⟩
    | false =>
      obtain ⟨q0,q1⟩:=ent2 ((HX0.out.keep HA.out.bel HX0.out.lt).at0)
      have HB3:=Lib.hid ((Below.refl wr.heap.size wr).alloc (Nat.le_refl _) (.cells (encE.cs x).toArray 250))
      go_wp2_with (at_builtin;refine zx (E:=encE) rfl _ _ 36 250 rfl HI.out W0.heap.size _ x wr.heap.size (HO.out.alloc _) rfl (zf encE wr x _) (by have:=HA.out.bel.size;simp;omega) (vN HN.out hL) ?_;intro v9 w9 hr9 hb9 hg9)
      have HO9:=Lib.hid hr9
      have HB9:=Lib.hid ((HA.out.bel.trans (HB3.out.mono HA.out.bel.size)).trans hb9)
      clear hr9 hb9 hg9 q0 q1
      go_wp2
      go_ret2
      rw [HRS.out]
      exact ⟨_,rfl,fun h=>absurd rfl h,fun _=>⟨_,by rw [←G.vJ HD.out];exact zw HO9.out HB0.out.size⟩,HB0.out.trans (HB9.out.mono HB0.out.size)⟩
end Go.Proofs.YtdhfpgjnjlcciaaGreatDoor.Un
end
