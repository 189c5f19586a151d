/- MapEntry CopyK LexDocName -/
import Derived.Laws.CopyOwn
import Derived.Lib.AppendZerosOnto
import Derived.Lib.Overlaps
import Derived.Maps.Own
import Derived.Maps.OwnOps
import Derived.Maps.Views
import Derived.WideKeyEntry
import Derived.Test.YtfhhihamndbcnaaGreatDoorR04
import Derived.Test.YtfhhihamndbcnaaGreatDoorR05
section
namespace Go.Proofs.YtfhhihamndbcnaaGreatDoor
open Go.RowKit Go.Maps Go.WideElems Go.ChangeShapes Go.WideShapes Go.MapKept Go.ChangeMaps
section
variable {H:Type} {P:Program} {w:World} {t k e:TypeId} {R:Value→Option (DataW H × List MemPlace)} {b n:Nat} {D:DataW H}
theorem grownBy_block (w:World) {b:Nat} {es:Array MapEntry} {c:Nat} (hb:w.heap[b]?=some (.map es c)) (o:Obj):w.grownBy (setBlock w b o) (some b) :=
 ⟨rfl,rfl,rfl,by simp [setBlock],fun i _ hi=>heap_setBlock_other hb _ (fun e=>hi (by rw [e]))⟩
theorem setBlock_set (w:World) (b:Nat) (o o':Obj):setBlock (setBlock w b o) b o'=setBlock w b o':=by
 unfold setBlock
 simp
theorem run_inj {α:Type} {a a':α} {x y:World} {r:Result α} (h1:r=.ok a x) (h2:r=.ok a' y):x=y:=by
 rw [h1] at h2;injection h2
theorem own_entry (h:w.ownsMap P k R b n D) (K:Keyed P k) (ht:P.underlying t=some (.map k e)) {z:Value} (hz:∀ u:World,(zeroValue e).run P u=.ok z u) {zd:DataW H} {zp:List MemPlace} (hzd:R z=some (zd,zp)) (hn:n < maxLen)
 {key:Value} {kl:Lit} (hkey:keyOf P k key=some kl) :
 ∃ (v0:Value) (st:Nat) (w1:World) (dv:DataW H),(Instr.mapEntry t (.map (some b)) key).run P w=.ok (.tuple #[v0,goInt st]) w1∧w.grownBy w1 (some b)∧w1.ownsMap P k R b (n+1) (D.put kl dv)∧dv=D.atKey kl zd ∧
   ∀ (val:Value) (d:DataW H) (ps:List MemPlace),R val=some (d,ps)→∃ w2,(Instr.entryStore t (.map (some b)) (goInt st) val).run P w1=.ok () w2∧w2.ownsMap P k R b (n+1) (D.put kl d)∧w1.grownBy w2 (some b):=by
 have h0:=h
 obtain ⟨es,clock,hb,F,hs,hD⟩:=h
 obtain ⟨s1,s2,_⟩:=F.stamped
 rcases K.find w hkey es.toList F.keys with ⟨h1,h2⟩ | ⟨j,e0,h1,h2,h3⟩
 ·have hup:∀ val,(Instr.mapUpdate t (.map (some b)) key val).run P w=.ok () (setBlock w b (.map (es.push ⟨key,val,clock⟩) (clock+1))):=fun val=>by
   simp [Instr.mapUpdate,run_underlying ht,MapKept.run_getObj_map hb,K.check w false hkey,h1,MapKept.run_setObj_map _ hb,Result.andThen,setBlock]
  have hat:D.atKey kl zd=zd:=by
   obtain ⟨v,ps,hr,hv⟩:=h0.lookup K ht (hz w) hzd hkey
   rcases Maps.fit_look false K ht (hz w) hb F hkey with ⟨_,_,hat⟩ | ⟨e1,y,he1,hk1,_⟩
   ·rw [hD];exact hat zd
   ·exact absurd hk1 (h2 e1 he1)
  refine ⟨z,clock,setBlock w b (.map (es.push ⟨key,z,clock⟩) (clock+1)),zd,?_,grownBy_block w hb _,?_,hat.symm,fun val d ps hv=>?_⟩
  ·simp [Instr.mapEntry,run_underlying ht,MapKept.run_getObj_map hb,K.check w false hkey,h1,hz,MapKept.run_setObj_map _ hb,Result.andThen,setBlock]
  ·obtain ⟨w',hr,ho,_⟩:=h0.update K ht hn hkey hzd
   rw [run_inj (hup z) hr];exact ho
  ·obtain ⟨w',hr,ho,_⟩:=h0.update K ht hn hkey hv
   have hidx:(es.push ⟨key,z,clock⟩).findIdx? (fun e=>((e.born:Nat):Int)==((clock:Nat):Int))=some es.size:=by
    rw [findIdx_arr]
    exact findIdx_born (l:=(es.push ⟨key,z,clock⟩).toList) (j:=es.size) (e0:=⟨key,z,clock⟩) (by
     simp only [Array.toList_push,List.map_append,List.map_cons,List.map_nil]
     refine List.nodup_append.2 ⟨s2,by simp,fun a ha c hc e1=>?_⟩
     simp only [List.mem_singleton] at hc
     obtain ⟨x,hx,rfl⟩:=List.mem_map.1 ha
     have:=s1 x hx
     omega) (by simp)
   have hmod:(es.push ⟨key,z,clock⟩).modify es.size (fun e=>{ e with val:=val })=es.push ⟨key,val,clock⟩:=by
    apply Array.ext'
    rw [Array.toList_modify,Array.toList_push,Array.toList_push,←Array.length_toList,modify_last]
   have hw2:(setBlock w b (.map (es.push ⟨key,z,clock⟩) (clock+1))).heap[b]?=some (.map (es.push ⟨key,z,clock⟩) (clock+1)):=heap_setBlock_same hb _
   refine ⟨setBlock (setBlock w b (.map (es.push ⟨key,z,clock⟩) (clock+1))) b (.map (es.push ⟨key,val,clock⟩) (clock+1)),?_,?_,grownBy_block _ hw2 _⟩
   ·generalize setBlock w b (.map (es.push ⟨key,z,clock⟩) (clock+1))=w1 at hw2
    simp [Instr.entryStore,MapKept.run_getObj_map hw2,asInt,asIntOf,goInt,hidx,hmod,MapKept.run_setObj_map _ hw2,Result.andThen,setBlock]
   ·rw [setBlock_set w b,run_inj (hup val) hr];exact ho
 ·have hj:es[j]?=some e0:=by simpa using h2
  have hsame:es.modify j (fun e=>{ e with key:=key })=es:=by
   apply Array.ext'
   rw [Array.toList_modify,modify_eq_set _ _ _ _ h2]
   have:({ e0 with key:=key }:MapEntry)=e0:=by rw [←h3]
   rw [this]
   exact set_self _ _ _ h2
  have hup:∀ val,(Instr.mapUpdate t (.map (some b)) key val).run P w=.ok () (setBlock w b (.map (es.modify j (fun e'=>{ e' with key:=key,val:=val })) clock)):=fun val=>by
   simp [Instr.mapUpdate,run_underlying ht,MapKept.run_getObj_map hb,K.check w false hkey,h1,hj,h3,K.stays w hkey,MapKept.run_setObj_map _ hb,Result.andThen,setBlock]
  have hwb:setBlock w b (.map es clock)=w:=by
   unfold setBlock
   have:w.heap.setIfInBounds b (.map es clock)=w.heap:=by
    apply Array.ext_getElem?
    intro i
    by_cases hi:i=b
    ·subst hi
     have hlt:=(Array.getElem?_eq_some_iff.1 hb).1
     rw [Array.getElem?_setIfInBounds_self_of_lt hlt,hb]
    ·rw [Array.getElem?_setIfInBounds_ne (fun e=>hi e.symm)]
   rw [this]
  have hself:es.modify j (fun e'=>{ e' with key:=key,val:=e0.val })=es:=by
   apply Array.ext'
   rw [Array.toList_modify,modify_eq_set _ _ _ _ h2]
   have:({ e0 with key:=key,val:=e0.val }:MapEntry)=e0:=by rw [←h3]
   rw [this]
   exact set_self _ _ _ h2
  obtain ⟨dv,pv,hrv,hat⟩:∃ dv pv,R e0.val=some (dv,pv)∧dv=D.atKey kl zd:=by
   rcases Maps.fit_look false K ht (hz w) hb F hkey with ⟨_,hno,_⟩ | ⟨e1,y,he1,hk1,hrun,hRv,hat,_⟩
   ·exact absurd h3 (hno e0 (List.mem_of_getElem? h2))
   ·have he:e1=e0:=by
     have hnd:es.toList.Pairwise (fun x y=>x.key≠y.key):=((stamped_iff es clock).1 F.stamped).2.2
     by_cases heq:e1=e0
     ·exact heq
     ·obtain ⟨i1,hi1,hi1e⟩:=List.getElem_of_mem he1
      have hlt2:=(List.getElem?_eq_some_iff.1 h2).1
      have h2':es.toList[j]=e0:=(List.getElem?_eq_some_iff.1 h2).2
      have hp:=List.pairwise_iff_getElem.1 hnd
      rcases Nat.lt_trichotomy i1 j with hl | hl | hl
      ·exact absurd (by rw [hi1e,h2',hk1,h3]) (hp i1 j hi1 hlt2 hl)
      ·subst hl;rw [h2'] at hi1e;exact hi1e.symm
      ·exact absurd (by rw [hi1e,h2',hk1,h3]) (hp j i1 hlt2 hi1 hl)
    subst he
    exact ⟨y.1,y.2,hRv,by rw [hD];exact (hat zd).symm⟩
  refine ⟨e0.val,e0.born,w,dv,?_,World.grownBy.refl _ _,?_,hat,fun val d ps hv=>?_⟩
  ·conv=>rhs;rw [←hwb]
   simp [Instr.mapEntry,run_underlying ht,MapKept.run_getObj_map hb,K.check w false hkey,h1,hj,h3,K.stays w hkey,hsame,MapKept.run_setObj_map _ hb,Result.andThen,setBlock]
  ·obtain ⟨w',hr,ho,_⟩:=h0.update K ht hn hkey hrv
   have h4:=hup e0.val
   rw [hself,hwb] at h4
   rw [run_inj h4 hr];exact ho
  ·obtain ⟨w',hr,ho,_⟩:=h0.update K ht hn hkey hv
   have hidx:es.findIdx? (fun e=>((e.born:Nat):Int)==((e0.born:Nat):Int))=some j:=by
    rw [findIdx_arr]
    exact findIdx_born s2 h2
   have hmod:es.modify j (fun e=>{ e with val:=val })=es.modify j (fun e'=>{ e' with key:=key,val:=val }):=by
    apply Array.ext'
    rw [Array.toList_modify,Array.toList_modify,modify_eq_set _ _ _ _ h2,modify_eq_set _ _ _ _ h2,←h3]
   refine ⟨_,?_,(by rw [run_inj (hup val) hr];exact ho),grownBy_block w hb _⟩
   simp [Instr.entryStore,MapKept.run_getObj_map hb,asInt,asIntOf,goInt,hidx,hmod,MapKept.run_setObj_map _ hb,Result.andThen,setBlock]
end
end Go.Proofs.YtfhhihamndbcnaaGreatDoor
end
section
namespace Go.Proofs.YtfhhihamndbcnaaGreatDoor
open Go.RowKit
section
variable {P:Program}
theorem run_copyK (w:World) (dT sT ty elem:TypeId) (g o dLen dCap:Nat) (a:Addr) (sLen sCap:Nat) (cur:Array Value) (t:TypeId) (cs:List Value) (k:Nat)
 (hu:P.underlying dT=some (.slice elem)) (hs:(P.info? elem).map (·.size)=some k)
 (hg:w.heap[g]?=some (.cells cur t (0,0))) (hn:cs.length=Nat.min sLen dLen * k)
 (hsrc:∀ j v,cs[j]?=some v→w.cell? (a.add j)=some v) (hfit:o+cs.length≤cur.size) (h1:∀ v∈cs,v.oneCell'=true) :
 (Builtin.copy_ #[dT,sT] ty #[.slice (some ⟨g,o,none⟩) dLen dCap,.slice (some a) sLen sCap]).run P w =
  .ok (goInt (Nat.min sLen dLen)) (w.setRow g (cur.toList.take o++cs++cur.toList.drop (o+cs.length)).toArray):=by
 have hl:=run_loadCells_list (P:=P) w a cs hsrc
 have hst:=run_storeCells_at P g o t cs 0 cur w hg (by simpa using hfit) h1
 cases hq:P.info? elem with
 | none=>simp [hq] at hs
 | some i =>
   have hi:i.size=k:=by simpa [hq] using hs
   simp [Builtin.copy_,run_underlying hu,Builtin.lenOf,Builtin.firstCells,sizeOf,typeInfo,hq,hi,←hn,hl,hst]
theorem grownBy_row (w:World) (g:Nat) (cs:Array Value):w.grownBy (w.setRow g cs) (some g) :=
 ⟨rfl,rfl,rfl,by simp [World.setRow],fun k _ hk=>setRow_other w g k cs (fun e=>hk (by rw [e]))⟩
theorem wpList_copyK {w:World} {ops:Array Oper} {rest:List Oper} {o:Oper} {a:Act} {Q:Exit→Act→World→Prop} (hgd:o.guard=none) (d s:Operand) (dT sT:TypeId)
 (ho:o.op=.call { callee:=.builtin .copy,args:=#[d,s],argTypes:=#[dT,sT] }) (elem:TypeId) (hu:P.underlying dT=some (.slice elem)) (k:Nat) (hsz:(P.info? elem).map (·.size)=some k)
 (dp sp:Option Addr) (dLen dCap sLen sCap:Nat) (hd:a.eval d=.slice dp dLen dCap) (hs:a.eval s=.slice sp sLen sCap)
 (g off:Nat) (cur:List Value) (t:TypeId) (hg:w.heap[g]?=some (.cells cur.toArray t (0,0))) (cs:List Value) (m:Nat) (hm:Nat.min sLen dLen=m) (hn:cs.length=m * k)
 (hdp:dp=some ⟨g,off,none⟩) (ad:Addr) (hsp:sp=some ad) (hsrc:∀ j v,cs[j]?=some v→w.cell? (ad.add j)=some v)
 (hfit:off+cs.length≤cur.length) (h1:∀ v∈cs,v.oneCell'=true)
 (h:∀ w',Hid (w'.heap[g]?=some (.cells (splice cur off cs).toArray t (0,0)))→w.grownBy w' (some g)→wpList P ops Q rest (a.put o.dst (goInt m)) w') :
 wpList P ops Q (o::rest) a w:=by
 subst hdp hsp hm
 refine wpList_plain hgd fun K hK=>?_
 have hrun:=run_copyK w dT sT o.type elem g off dLen dCap ad sLen sCap cur.toArray t cs k hu hsz hg hn hsrc (by simpa using hfit) h1
 unfold Oper.wp
 simp only [execOp,ho,resolve,invoke,builtin,Sem.run_bind,Sem.run_pure,Result.andThen_ok,List.map_toArray,List.map_cons,List.map_nil,hd,hs,hrun]
 exact hK _ _ (h _ (show _=_ by simpa [splice] using setRow_heap w g _ _ t _ hg) (grownBy_row w g _))
theorem step_copyK {ops:Array Oper} {o:Oper} {a:Act} {w:World} {K:Act→World→Prop} {Q:Exit→Act→World→Prop} {E:Prop} (hgd:o.guard=none) (d s:Operand) (dT sT:TypeId)
 (ho:o.op=.call { callee:=.builtin .copy,args:=#[d,s],argTypes:=#[dT,sT] }) (elem:TypeId) (hu:P.underlying dT=some (.slice elem)) (k:Nat) (hsz:(P.info? elem).map (·.size)=some k)
 (dp sp:Option Addr) (dLen dCap sLen sCap:Nat) (hd:a.eval d=.slice dp dLen dCap) (hs:a.eval s=.slice sp sLen sCap)
 (g off:Nat) (cur:List Value) (t:TypeId) (hg:w.heap[g]?=some (.cells cur.toArray t (0,0))) (cs:List Value) (m:Nat) (hm:Nat.min sLen dLen=m) (hn:cs.length=m * k)
 (hdp:dp=some ⟨g,off,none⟩) (ad:Addr) (hsp:sp=some ad) (hsrc:∀ j v,cs[j]?=some v→w.cell? (ad.add j)=some v)
 (hfit:off+cs.length≤cur.length) (h1:∀ v∈cs,v.oneCell'=true)
 (h:∀ w',Hid (w'.heap[g]?=some (.cells (splice cur off cs).toArray t (0,0)))→w.grownBy w' (some g)→K (a.put o.dst (goInt m)) w') :
 if Region.wanted o (yielded ops a.tmps)=true then Oper.wp P o a w K Q else E:=by
 subst hdp hsp hm
 have hw:Region.wanted o (yielded ops a.tmps)=true:=by simp [Region.wanted,hgd]
 rw [if_pos hw]
 have hrun:=run_copyK w dT sT o.type elem g off dLen dCap ad sLen sCap cur.toArray t cs k hu hsz hg hn hsrc (by simpa using hfit) h1
 unfold Oper.wp
 simp only [execOp,ho,resolve,invoke,builtin,Sem.run_bind,Sem.run_pure,Result.andThen_ok,List.map_toArray,List.map_cons,List.map_nil,hd,hs,hrun]
 exact h _ (show _=_ by simpa [splice] using setRow_heap w g _ _ t _ hg) (grownBy_row w g _)
theorem append_types (w:World) (t tx ty e e':TypeId) (i:TypeInfo) (ht:P.underlying t=some (.slice e)) (hx:P.underlying tx=some (.slice e')) (hi:P.info? e=some i) (base b:Option Addr) (n c m c':Nat) :
 (Builtin.append_ #[t,tx] ty #[.slice base n c,.slice b m c']).run P w=(Builtin.append_ #[t,t] ty #[.slice base n c,.slice b m c']).run P w:=by
 simp [Builtin.append_,run_underlying ht,run_underlying hx,sizeOf,typeInfo,hi]
end
theorem splice_fwd {α:Type} (A X D R:List α) (_h:X.length+D.length≤R.length):splice (splice (A++R) A.length X) (A.length+X.length) D=A++(X++(D++R.drop (X.length+D.length))):=by
 have e1:splice (A++R) A.length X=A++(X++R.drop X.length):=by
  unfold splice
  rw [List.take_left,List.drop_append]
  simp
 rw [e1]
 unfold splice
 rw [←List.append_assoc A X,List.take_append_of_le_length (by simp),List.take_of_length_le (by simp),List.drop_append]
 simp [Nat.add_assoc]
 rw [List.drop_of_length_le (l:=X) (by omega),List.nil_append]
 congr 1
 omega
theorem splice_back {α:Type} (A X D R:List α) (h:X.length+D.length≤R.length):splice (splice (A++R) (A.length+X.length) D) A.length X=A++(X++(D++R.drop (X.length+D.length))):=by
 unfold splice
 have e1:(A++R).take (A.length+X.length)=A++R.take X.length:=by rw [List.take_append,List.take_of_length_le (by omega)];simp
 have e2:(A++R).drop (A.length+X.length+D.length)=R.drop (X.length+D.length):=by rw [List.drop_append];simp [Nat.add_assoc]
 have e3:(R.take X.length).length=X.length:=by simp;omega
 rw [e1,e2,List.append_assoc,List.take_left,List.drop_append]
 simp only [Nat.add_sub_cancel_left]
 rw [List.drop_of_length_le (by omega),List.nil_append,List.drop_append,e3,Nat.sub_self,List.drop_of_length_le (by omega)]
 simp
end Go.Proofs.YtfhhihamndbcnaaGreatDoor
end
section
namespace Go.Proofs.YtfhhihamndbcnaaGreatDoor
open Go.RowKit
set_option maxHeartbeats 2000000 in
theorem rname_at (s:ByteArray) (w:World) :
 Calls Tryz.prog 158 #[.string s] w fun e w'=>e=.returned (.bool (nameL s.data.toList))∧w=w':=by
 by_cases hl:0 < s.size∧s.size≤12
 ·obtain ⟨h0,h12⟩:=hl
  have HN:=Lib.hid (nameL_eq s h0 h12)
  cases hf:letB s[0].toNat with
  | false =>
    have HF:=Lib.hid hf
    clear hf
    have HR:Hid (nameL s.data.toList=false):=Lib.hid (by rw [HN.out,HF.out];rfl)
    have a1:¬ s.size < 1:=by omega
    have a2:¬ 12 < s.size:=by omega
    go_enter Tryz.func158,Tryz.ntmps158
    go_wp2_with fail
    refine (rletter_any _ _ (UInt8.toNat_lt _)).mono ?_
    rintro e w' ⟨rfl,rfl⟩
    rw [HF.out]
    go_wp2
    go_ret
    exact ⟨ret_bool HR.out.symm,rfl⟩
  | true =>
    have HF:=Lib.hid hf
    clear hf
    have HR:Hid (nameL s.data.toList=s.data.toList.all fun c=>inB c.toNat):=Lib.hid (by rw [HN.out,HF.out];rfl)
    clear HN
    have a1:¬ s.size < 1:=by omega
    have a2:¬ 12 < s.size:=by omega
    go_enter Tryz.func158,Tryz.ntmps158
    go_wp2_with fail
    refine (rletter_any _ _ (UInt8.toNat_lt _)).mono ?_
    rintro e w' ⟨rfl,rfl⟩
    rw [HF.out]
    go_wp2
    go_loop [3] (fun i=>∃ k:Nat,k≤s.size∧i=.int .i64 k∧(s.data.toList.take k).all (fun c=>inB c.toNat)=true) (fun i=>s.size - (intOf i).toNat)
    case atStart=>exact ⟨0,Nat.zero_le _,rfl,rfl⟩
    case round =>
     obtain ⟨k,hk,rfl,hd⟩:=hrel
     have HD:=Lib.hid hd
     clear hd
     by_cases hlt:k < s.size
     ·have hb:s[k].toNat < 256:=UInt8.toNat_lt _
      cases hc:letB s[k].toNat with
      | true =>
        have HC:=Lib.hid hc
        have hin:Hid (inB s[k].toNat=true):=Lib.hid (decide_eq_true (.inl (of_decide_eq_true hc)))
        clear hc
        go_wp2_with fail
        refine (rletter_any _ _ (UInt8.toNat_lt _)).mono ?_
        rintro e w' ⟨rfl,rfl⟩
        rw [HC.out]
        go_wp2
        go_round
        case rel=>exact ⟨k+1,by omega,by go_num,by rw [all_take _ s k hlt,HD.out,hin.out];rfl⟩
        case measure=>simp [intOf];omega
      | false =>
        have HC:=Lib.hid hc
        have hno:¬ (97≤s[k].toNat∧s[k].toNat≤122∨65≤s[k].toNat∧s[k].toNat≤90):=of_decide_eq_false hc
        have HNO:=Lib.hid hno
        clear hc hno
        go_wp2_with fail
        refine (rletter_any _ _ (UInt8.toNat_lt _)).mono ?_
        rintro e w' ⟨rfl,rfl⟩
        rw [HC.out]
        go_wp2
        all_goals
         have hno:=HNO.out
         try simp only [bne_eq_false_iff_eq,bne_iff_ne] at *
        all_goals first
         | (go_ret
            exact ⟨ret_bool (by rw [HR.out,all_no _ s k hlt (decide_eq_false (by omega))]),rfl⟩)
         | (go_round
            case rel=>exact ⟨k+1,by omega,by go_num,by rw [all_take _ s k hlt,HD.out];exact decide_eq_true (by omega)⟩
            case measure=>simp [intOf];omega)
     ·go_wp2
      go_ret
      exact ⟨ret_bool (by rw [HR.out,all_end _ s k hlt hk HD.out]),rfl⟩
 ·have HR:=Lib.hid (nameL_len s hl)
  rcases (by omega:s.size < 1∨(¬ s.size < 1∧12 < s.size)) with a1 | ⟨a1,a2⟩
  ·clear hl
   go_enter Tryz.func158,Tryz.ntmps158
   go_wp2
   go_ret
   exact ⟨ret_bool HR.out.symm,rfl⟩
  ·clear hl
   go_enter Tryz.func158,Tryz.ntmps158
   go_wp2
   go_ret
   exact ⟨ret_bool HR.out.symm,rfl⟩
end Go.Proofs.YtfhhihamndbcnaaGreatDoor
end
