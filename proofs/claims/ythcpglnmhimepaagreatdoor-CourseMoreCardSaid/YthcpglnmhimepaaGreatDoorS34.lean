/- UnitBackP UnitSmall MastSmall CrsClone CrsInsert UnitRows FlowDocWords UnitPrint ChartDocAdd FlowDocAdd FlowDocParse CsSmall -/
import Derived.Maps.Ext
import Derived.Maps.RangeWalk
import Derived.StringKeys
import Derived.Test.YthcpglnmhimepaaGreatDoorS21
import Derived.Test.YthcpglnmhimepaaGreatDoorS30
section
namespace Go.Proofs.YthcpglnmhimepaaGreatDoor.Un
open Go.RowKit
theorem allE_parts {M:Mast} (h:allE M=0):M.cur≠emp∧rolesN M=true∧linesN M=true∧Fl.wholeF M.flows=true∧rolesP M=true:=by
 unfold allE at h
 split at h
 ·simp at h
 ·rename_i h1
  split at h
  ·simp at h
  ·rename_i h2
   split at h
   ·simp at h
   ·rename_i h3
    simp only [Bool.or_eq_true,decide_eq_true_eq,Bool.not_eq_true',not_or,Bool.not_eq_false] at h1
    exact ⟨h1.1.1,h1.1.2,h1.2,by simpa using h2,by simpa using h3⟩
theorem Inv.right {l:List (List ByteArray)} {M:Mast} (h:Inv l M):∀ a∈M.chart,rightA a=true:=fun a ha=>by
 have:=(h.chart.mem_iff).1 ha
 obtain ⟨ws,_,hw⟩:=List.mem_filterMap.1 this
 unfold acO at hw
 split at hw
 ·rename_i h2
  cases hw
  exact (parse_ok h2.2).2
 ·cases hw
theorem Inv.rightF {l:List (List ByteArray)} {M:Mast} (h:Inv l M):∀ a∈M.flows,Fl.rightF a=true:=fun a ha=>by
 have:=(h.flows.mem_iff).1 ha
 obtain ⟨ws,_,hw⟩:=List.mem_filterMap.1 this
 unfold flO at hw
 split at hw
 ·rename_i h2
  cases hw
  rcases Fl.parse_err ws with e | ⟨_,e,_⟩
  ·rw [e] at h2;simp at h2
  ·exact e
 ·cases hw
theorem Inv.no_emp {l:List (List ByteArray)} {M:Mast} (h:Inv l M):hasA M.chart emp=false:=by
 unfold hasA
 rw [findL_none]
 ·rfl
 ·intro hm
  obtain ⟨a,ha,hc⟩:=List.mem_map.1 hm
  exact nm_ne (right_parts (h.right a ha)).1 hc
theorem parse_ways (s:ByteArray):(∃ M,runM zeroM (wordsT s)=(M,0)∧Inv (wordsT s) M∧allE M=0∧parseM s=(M,0)∧linE s.data.toList=0)∨((parseM s).1=zeroM∧(parseM s).2≠0):=by
 unfold parseM
 by_cases h0:linE s.data.toList=0
 ·rw [if_pos h0]
  unfold linesM
  cases hr:runM zeroM (wordsT s) with
  | mk M E =>
    by_cases hE:E=0
    ·subst hE
     by_cases ha:allE M=0
     ·exact .inl ⟨M,rfl,run_zero_of hr,ha,endM_ok M ha,h0⟩
     ·right;rw [endM_no M ha];exact ⟨rfl,ha⟩
    ·right
     unfold endM
     rw [if_neg hE];exact ⟨rfl,hE⟩
 ·rw [if_neg h0];exact .inr ⟨rfl,h0⟩
theorem parse_text {l:List (List ByteArray)} (h:∀ ws∈l,rightW ws) (hs:szL l≤20000):parseM (mkB (textW l))=linesM l:=by
 obtain ⟨h1,h2⟩:=text_back l h hs
 unfold parseM
 rw [if_pos h1,h2]
end Go.Proofs.YthcpglnmhimepaaGreatDoor.Un
end
section
namespace Go.Proofs.YthcpglnmhimepaaGreatDoor.Un
open Go.RowKit
abbrev xa:ByteArray:=⟨#[97]⟩
abbrev xb:ByteArray:=⟨#[98]⟩
abbrev xc:ByteArray:=⟨#[99]⟩
abbrev xF0:ByteArray:=⟨#[70,48]⟩
abbrev xF1:ByteArray:=⟨#[70,49]⟩
abbrev xF8:ByteArray:=⟨#[70,56]⟩
abbrev xF9:ByteArray:=⟨#[70,57]⟩
abbrev xFz:ByteArray:=⟨#[70,122]⟩
abbrev xE1:ByteArray:=⟨#[69,49]⟩
abbrev xU:ByteArray:=⟨#[85,83,68]⟩
abbrev xL1:ByteArray:=⟨#[76,49]⟩
def accLines:List (List ByteArray):=[[tAccount,xa,tAsset],[tAccount,xb,tLiability],[tAccount,xc,tEquity]]
def restLines:List (List ByteArray):=[[Fl.tFlow,xF0,Fl.tOpen],[Fl.tFlow,xF1,Fl.tMove],[Fl.tFlow,xF8,Fl.tFx],[Fl.tFlow,xF9,Fl.tScope],[Fl.tFlow,xFz,Fl.tClose],[tEntity,xE1,xU],[tGroup,xU],[tReserve,xc],[tMinor,xc],[tDiffer,xa],[tStake,xa],[tMap,xa,xF1,xL1]]
def smallL:List (List ByteArray):=accLines++restLines
abbrev plainAcc (s:ByteArray) (k:Int):Acct:=⟨s,k,false,false,emp,false⟩
theorem plain_marks (s:ByteArray) (k:Int):marksA (plainAcc s k)=true:=by
 unfold marksA
 simp [neB_empty]
theorem plain_parse (s:ByteArray) (k:Int) (hs:nmB s=true) (hk:k=0∨k=1∨k=2):parseA [tAccount,s,clsW k]=(plainAcc s k,0):=by
 have hr:rightA (plainAcc s k)=true:=by
  unfold rightA
  rw [plain_marks,hs]
  rcases hk with rfl | rfl | rfl <;> rfl
 refine parse_of hr ?_
 unfold wordsA
 rw [if_pos hr]
 unfold markW
 simp [neB_empty]
theorem acO_a:acO [tAccount,xa,tAsset]=some (plainAcc xa 0):=by
 have h:=plain_parse xa 0 (by decide) (by simp)
 rw [acO_yes rfl (by rw [show [tAccount,xa,tAsset]=[tAccount,xa,clsW 0] from rfl,h]),show [tAccount,xa,tAsset]=[tAccount,xa,clsW 0] from rfl,h]
theorem acO_b:acO [tAccount,xb,tLiability]=some (plainAcc xb 1):=by
 have h:=plain_parse xb 1 (by decide) (by simp)
 rw [acO_yes rfl (by rw [show [tAccount,xb,tLiability]=[tAccount,xb,clsW 1] from rfl,h]),show [tAccount,xb,tLiability]=[tAccount,xb,clsW 1] from rfl,h]
theorem acO_c:acO [tAccount,xc,tEquity]=some (plainAcc xc 2):=by
 have h:=plain_parse xc 2 (by decide) (by simp)
 rw [acO_yes rfl (by rw [show [tAccount,xc,tEquity]=[tAccount,xc,clsW 2] from rfl,h]),show [tAccount,xc,tEquity]=[tAccount,xc,clsW 2] from rfl,h]
def smallA:List Acct:=[plainAcc xa 0,plainAcc xb 1,plainAcc xc 2]
def smallF:List Fl.Flow:=[⟨xF0,0⟩,⟨xF1,1⟩,⟨xF8,2⟩,⟨xF9,3⟩,⟨xFz,4⟩]
theorem fm_ac:smallL.filterMap acO=smallA:=by
 unfold smallL
 rw [List.filterMap_append,show restLines.filterMap acO=[] by kernel_rfl,List.append_nil]
 unfold accLines
 rw [List.filterMap_cons,acO_a,List.filterMap_cons,acO_b,List.filterMap_cons,acO_c];rfl
theorem fm_fl:smallL.filterMap flO=smallF:=by kernel_rfl
theorem fm_en:smallL.filterMap enO=[⟨xE1,xU⟩]:=by kernel_rfl
theorem fm_li:smallL.filterMap liO=[⟨xa,xF1,xL1⟩]:=by kernel_rfl
theorem fm_cur:smallL.filterMap (onO tGroup)=[xU]:=by kernel_rfl
theorem fm_res:smallL.filterMap (onO tReserve)=[xc]:=by kernel_rfl
theorem fm_dif:smallL.filterMap (onO tDiffer)=[xa]:=by kernel_rfl
theorem fm_min:smallL.filterMap (onO tMinor)=[xc]:=by kernel_rfl
theorem fm_stk:smallL.filterMap (onO tStake)=[xa]:=by kernel_rfl
theorem small_good:∀ ws∈smallL,Good ws:=by
 intro ws hw
 rcases List.mem_append.1 hw with h | h
 ·left
  simp only [accLines,List.mem_cons,List.not_mem_nil,or_false] at h
  rcases h with rfl | rfl | rfl
  ·exact ⟨rfl,by rw [show [tAccount,xa,tAsset]=[tAccount,xa,clsW 0] from rfl,plain_parse xa 0 (by decide) (by simp)]⟩
  ·exact ⟨rfl,by rw [show [tAccount,xb,tLiability]=[tAccount,xb,clsW 1] from rfl,plain_parse xb 1 (by decide) (by simp)]⟩
  ·exact ⟨rfl,by rw [show [tAccount,xc,tEquity]=[tAccount,xc,clsW 2] from rfl,plain_parse xc 2 (by decide) (by simp)]⟩
 ·right
  simp only [restLines,List.mem_cons,List.not_mem_nil,or_false] at h
  rcases h with rfl | rfl | rfl | rfl | rfl | rfl | rfl | rfl | rfl | rfl | rfl | rfl
  ·exact .inl ⟨by kernel_rfl,by kernel_rfl⟩
  ·exact .inl ⟨by kernel_rfl,by kernel_rfl⟩
  ·exact .inl ⟨by kernel_rfl,by kernel_rfl⟩
  ·exact .inl ⟨by kernel_rfl,by kernel_rfl⟩
  ·exact .inl ⟨by kernel_rfl,by kernel_rfl⟩
  ·exact .inr (by kernel_rfl)
  ·exact .inr (by kernel_rfl)
  ·exact .inr (by kernel_rfl)
  ·exact .inr (by kernel_rfl)
  ·exact .inr (by kernel_rfl)
  ·exact .inr (by kernel_rfl)
  ·exact .inr (by kernel_rfl)
theorem small_ok:Ok smallL where
 good:=small_good
 ac:=by rw [fm_ac];decide
 al:=by rw [fm_ac];decide
 fc:=by rw [fm_fl];decide
 fk:=by rw [fm_fl];decide
 fl:=by rw [fm_fl];decide
 ec:=by rw [fm_en];decide
 el:=by rw [fm_en];decide
 lc:=by rw [fm_li];decide
 ll:=by rw [fm_li];decide
 on t ht:=by
  simp only [ones,List.mem_cons,List.not_mem_nil,or_false] at ht
  rcases ht with rfl | rfl | rfl | rfl | rfl
  ·rw [fm_cur];decide
  ·rw [fm_res];decide
  ·rw [fm_dif];decide
  ·rw [fm_min];decide
  ·rw [fm_stk];decide
theorem oneL_at {x y:ByteArray} (h:[y]=oneL x):x=y:=by
 unfold oneL at h
 split at h
 ·cases h
 ·simpa using h.symm
theorem has_of {C:List Acct} {a:Acct} (h:a∈C):hasA C a.code=true:=findL_some h
theorem plain_of {C:List Acct} {a:Acct} (hr:riseL C=true) (h:a∈C) (k:Int) (he:a=plainAcc a.code k):plainA C a.code k=true:=by
 have e:findL C a.code=some a:=by
  have h1:G.findK Acct.code C a.code=some a:=G.findK_of_mem (by rw [←riseL_eq];exact hr) h
  rw [←h1]
  clear h1 hr h
  induction C with
  | nil=>rfl
  | cons y C ih=>simp only [findL,G.findK];rw [ih]
 unfold plainA
 rw [e]
 exact decide_eq_true he
theorem hasF_of {L:List Fl.Flow} {f:Fl.Flow} (h:f∈L):Fl.hasF L f.kind=true:=by
 unfold Fl.hasF
 exact decide_eq_true (List.length_pos_of_mem (Fl.mem_of.2 ⟨f,h,rfl,rfl⟩))
end Go.Proofs.YthcpglnmhimepaaGreatDoor.Un
end
section
namespace Go.Proofs.YthcpglnmhimepaaGreatDoor.Pk
open Go.RowKit Go.Proofs.YthcpglnmhimepaaGreatDoor.Un Go.Proofs.YthcpglnmhimepaaGreatDoor.Fa
abbrev xE2:ByteArray:=⟨#[69,50]⟩
def extraL (b:Bool):List (List ByteArray):=if b=true then [[tEntity,xE2,xU]] else []
def restP (b:Bool):List (List ByteArray):=[[Fl.tFlow,xF0,Fl.tOpen],[Fl.tFlow,xF1,Fl.tMove],[Fl.tFlow,xF8,Fl.tFx],[Fl.tFlow,xF9,Fl.tScope],[Fl.tFlow,xFz,Fl.tClose],[tEntity,xE1,xU],[tGroup,xU],[tReserve,xc],[tMinor,xc],[tDiffer,xa],[tStake,xa]]++extraL b
def smallP (b:Bool):List (List ByteArray):=accLines++restP b
theorem pm_ac (b:Bool):(smallP b).filterMap acO=smallA:=by
 unfold smallP
 rw [List.filterMap_append,show (restP b).filterMap acO=[] by cases b <;> kernel_rfl,List.append_nil]
 unfold accLines
 rw [List.filterMap_cons,acO_a,List.filterMap_cons,acO_b,List.filterMap_cons,acO_c];rfl
def entsP (b:Bool):List Ent:=if b=true then [⟨xE1,xU⟩,⟨xE2,xU⟩] else [⟨xE1,xU⟩]
theorem pm_fl (b:Bool):(smallP b).filterMap flO=smallF:=by cases b <;> kernel_rfl
theorem pm_en (b:Bool):(smallP b).filterMap enO=entsP b:=by cases b <;> kernel_rfl
theorem pm_li (b:Bool):(smallP b).filterMap liO=[]:=by cases b <;> kernel_rfl
theorem pm_cur (b:Bool):(smallP b).filterMap (onO tGroup)=[xU]:=by cases b <;> kernel_rfl
theorem pm_res (b:Bool):(smallP b).filterMap (onO tReserve)=[xc]:=by cases b <;> kernel_rfl
theorem pm_dif (b:Bool):(smallP b).filterMap (onO tDiffer)=[xa]:=by cases b <;> kernel_rfl
theorem pm_min (b:Bool):(smallP b).filterMap (onO tMinor)=[xc]:=by cases b <;> kernel_rfl
theorem pm_stk (b:Bool):(smallP b).filterMap (onO tStake)=[xa]:=by cases b <;> kernel_rfl
theorem smallP_good (b:Bool):∀ ws∈smallP b,Un.Good ws:=by
 intro ws hw
 rcases List.mem_append.1 hw with h | h
 ·exact small_good ws (List.mem_append_left _ h)
 rcases List.mem_append.1 h with h | h
 ·exact small_good ws (List.mem_append_right _ (by
   unfold restLines
   simp only [List.mem_cons,List.not_mem_nil,or_false] at h ⊢
   rcases h with h | h | h | h | h | h | h | h | h | h | h <;> simp [h]))
 ·cases b with
  | false=>cases h
  | true =>
    have:ws=[tEntity,xE2,xU]:=by simpa [extraL] using h
    subst this
    exact .inr (.inr (by kernel_rfl))
theorem smallP_ok (b:Bool):Ok (smallP b) where
 good:=smallP_good b
 ac:=by rw [pm_ac];decide
 al:=by rw [pm_ac];decide
 fc:=by rw [pm_fl];decide
 fk:=by rw [pm_fl];decide
 fl:=by rw [pm_fl];decide
 ec:=by rw [pm_en];cases b <;> decide
 el:=by rw [pm_en];cases b <;> decide
 lc:=by rw [pm_li];decide
 ll:=by rw [pm_li];decide
 on t ht:=by
  simp only [ones,List.mem_cons,List.not_mem_nil,or_false] at ht
  rcases ht with rfl | rfl | rfl | rfl | rfl
  ·rw [pm_cur];decide
  ·rw [pm_res];decide
  ·rw [pm_dif];decide
  ·rw [pm_min];decide
  ·rw [pm_stk];decide
theorem rightW_of {l:List (List ByteArray)} (h:(l.all fun ws=>decide (ws≠[]) && ws.all fun x=>rightL x.data.toList)=true):∀ ws∈l,rightW ws:=fun ws hw=>by
 have h1:=List.all_eq_true.1 h ws hw
 rw [Bool.and_eq_true,decide_eq_true_eq] at h1
 exact ⟨h1.1,fun x hx=>List.all_eq_true.1 h1.2 x hx⟩
theorem smallP_right (b:Bool):∀ ws∈smallP b,rightW ws:=rightW_of (by cases b <;> kernel_rfl)
structure SmallM (b:Bool) (M:Mast):Prop where
 e1:hasE M xE1=true
 e2:hasE M xE2=b
 a:findL M.chart xa=some (plainAcc xa 0)
 f0:Fl.findF M.flows xF0=some ⟨xF0,0⟩
 f1:Fl.findF M.flows xF1=some ⟨xF1,1⟩
 f8:Fl.findF M.flows xF8=some ⟨xF8,2⟩
 fz:Fl.findF M.flows xFz=some ⟨xFz,4⟩
 mv:Fl.ofF M.flows 1=[xF1]
 sane:Sane M
 cur:M.cur=xU
 rt:∀ y∈M.flows,Fl.rightF y=true
theorem smallP_size (b:Bool):szL (smallP b)≤200:=by cases b <;> decide
theorem smallP_parse (b:Bool):∃ M,parseM (mkB (textW (smallP b)))=(M,0)∧SmallM b M:=by
 obtain ⟨M,hM,hi⟩:=run_ok (smallP_ok b)
 have hch:=hi.chart
 have hfl:=hi.flows
 have hen:=hi.ents
 have hli:=hi.lines
 have hcu:=hi.cur
 have hre:=hi.res
 have hdi:=hi.dif
 have hmi:=hi.min
 have hst:=hi.stk
 rw [pm_ac] at hch
 rw [pm_fl] at hfl
 rw [pm_en] at hen
 rw [pm_li] at hli
 rw [pm_cur] at hcu
 rw [pm_res] at hre
 rw [pm_dif] at hdi
 rw [pm_min] at hmi
 rw [pm_stk] at hst
 have e1:=oneL_at hcu
 have e2:=oneL_at hre
 have e3:=oneL_at hdi
 have e4:=oneL_at hmi
 have e5:=oneL_at hst
 have hlins:M.lines=[]:=List.perm_nil.1 hli
 have ma:plainAcc xa 0∈M.chart:=(hch.mem_iff).2 (by simp [smallA])
 have mc:plainAcc xc 2∈M.chart:=(hch.mem_iff).2 (by simp [smallA])
 have mf:∀ f∈smallF,f∈M.flows:=fun f hf=>(hfl.mem_iff).2 hf
 have hrf:=Fl.rise_codes hi.sane.fl
 have hroles:rolesN M=true:=by
  unfold rolesN
  rw [e2,e3,e4,e5,has_of mc,has_of ma];rfl
 have hlines:linesN M=true:=by
  unfold linesN
  rw [hlins];rfl
 have hwhole:Fl.wholeF M.flows=true:=by
  unfold Fl.wholeF
  rw [hasF_of (mf ⟨xF0,0⟩ (by simp [smallF])),hasF_of (mf ⟨xF8,2⟩ (by simp [smallF])),hasF_of (mf ⟨xF9,3⟩ (by simp [smallF])),hasF_of (mf ⟨xFz,4⟩ (by simp [smallF]))];rfl
 have hplain:rolesP M=true:=by
  unfold rolesP
  rw [e2,e3,e4,e5,plain_of hi.sane.ch mc 2 rfl,plain_of hi.sane.ch ma 0 rfl];rfl
 have hall:allE M=0:=by
  unfold allE
  rw [if_neg,if_neg,if_neg]
  ·rw [hplain];simp
  ·rw [hwhole];simp
  ·rw [hroles,hlines,e1]
   have:(xU:ByteArray)≠emp:=by decide
   simp [this]
 obtain ⟨hE,hW⟩:=text_back (smallP b) (smallP_right b) (by have:=smallP_size b;omega)
 refine ⟨M,?_,?_,?_,?_,?_,?_,?_,?_,?_,hi.sane,e1,hi.rightF⟩
 ·unfold parseM
  rw [if_pos hE,hW]
  unfold linesM
  rw [hM,endM_ok M hall]
 ·exact findG_some (key:=Ent.code) ((hen.mem_iff).2 (by cases b <;> simp [entsP]):(⟨xE1,xU⟩:Ent)∈M.ents)
 ·cases b with
  | true=>exact findG_some (key:=Ent.code) ((hen.mem_iff).2 (by simp [entsP]):(⟨xE2,xU⟩:Ent)∈M.ents)
  | false =>
    have hents:M.ents=[⟨xE1,xU⟩]:=List.perm_singleton.1 hen
    unfold hasE
    rw [hents];decide
 ·have h1:G.findK Acct.code M.chart xa=some (plainAcc xa 0):=G.findK_of_mem (by rw [←riseL_eq];exact hi.sane.ch) ma
  rw [←h1]
  generalize M.chart=C
  induction C with
  | nil=>rfl
  | cons y C ih=>simp only [findL,G.findK];rw [ih]
 ·exact findK_of_mem (key:=Fl.Flow.code) hrf (mf ⟨xF0,0⟩ (by simp [smallF]))
 ·exact findK_of_mem (key:=Fl.Flow.code) hrf (mf ⟨xF1,1⟩ (by simp [smallF]))
 ·exact findK_of_mem (key:=Fl.Flow.code) hrf (mf ⟨xF8,2⟩ (by simp [smallF]))
 ·exact findK_of_mem (key:=Fl.Flow.code) hrf (mf ⟨xFz,4⟩ (by simp [smallF]))
 ·have h1:(Fl.ofF M.flows 1).Perm (Fl.ofF smallF 1):=(hfl.filter _).map _
  exact List.perm_singleton.1 (by rw [show Fl.ofF smallF 1=[xF1] by decide] at h1;exact h1)
end Go.Proofs.YthcpglnmhimepaaGreatDoor.Pk
end
section
namespace Go.Proofs.YthcpglnmhimepaaGreatDoor.Cs.Ta
open Go.RowKit
theorem gen_info:(Tryz.prog.info? 85).map (fun i=>(i.zero,i.size,i.bytes))=some (some (.agg #[.string ⟨#[]⟩,.string ⟨#[]⟩,.string ⟨#[]⟩,.int .i64 0,.int .i64 0]),5,64):=by kernel_rfl
theorem gen_length (L:List Crs):(flat encX L).length=L.length * 5:=flat_length L
theorem gen_take (L:List Crs) (k:Nat):flat encX (L.take k)=(flat encX L).take (k * 5):=flat_take L k
theorem gen_drop (L:List Crs) (k:Nat):flat encX (L.drop k)=(flat encX L).drop (k * 5):=flat_drop L k
def RowTold (w:World) (L:List Crs) (e:Ending) (w':World):Prop:=∃ v,e=.returned v∧w'.ownsRow w.heap.size 85 5 v L.length (flat encX L)∧Below w.heap.size w w'
end Go.Proofs.YthcpglnmhimepaaGreatDoor.Cs.Ta
end
section
namespace Go.Proofs.YthcpglnmhimepaaGreatDoor.Cs.Ta
open Go.RowKit
theorem ins_u:Tryz.prog.underlying 39=some (.slice (Tryz.prog.elem 39)):=by kernel_rfl
theorem ins_s (w:World):(sizeOf (Tryz.prog.elem 39)).run Tryz.prog w=.ok 5 w:=by kernel_rfl
theorem ins_sz:(Tryz.prog.info? 85).map (·.size)=some 5:=by kernel_rfl
theorem ins_size (w:World):(sizeOf 85).run Tryz.prog w=.ok 5 w:=by kernel_rfl
theorem from_at (w:World) (g n c k:Nat) (z:Int) (hz:z=(k:Int)) (hk:k≤n) (hc:k < c):(Instr.slice 39 (.slice (some ⟨g,0,none⟩) n c) (some (.int .i64 z)) none none).run Tryz.prog w=.ok (.slice (some ⟨g,k * 5,none⟩) (n - k) (c - k)) w:=by
 subst hz
 rw [run_slice_l w 39 _ n c ins_u .i64 (k:Int) (by omega) (by omega),ins_s]
 have:¬ c=k:=by omega
 simp [Result.andThen,sliced,this,add_off]
theorem upto_at (w:World) (g n c k:Nat) (z:Int) (hz:z=(k:Int)) (hk:k≤c):(Instr.slice 39 (.slice (some ⟨g,0,none⟩) n c) none (some (.int .i64 z)) none).run Tryz.prog w=.ok (.slice (some ⟨g,0,none⟩) k c) w:=by
 subst hz
 rw [run_slice_h w 39 _ n c ins_u .i64 (k:Int) (by omega) (by omega),ins_s]
 simp [Result.andThen,sliced,Addr.add]
theorem overlaps_no (w:World) (vb g off lb cb:Nat) (x:Crs) (cur:Array Value) (hne:vb≠g) (hx:BoxE encX w vb 85 x) (hg:w.heap[g]?=some (.cells cur 85 (0,0))) (h0:cur.size≠0) :
 (callFunc 90 #[.slice (some ⟨vb,0,none⟩) 1 1,.slice (some ⟨g,off,none⟩) lb cb]).run Tryz.prog w=.ok (.value (.bool false)) w:=by
 unfold BoxE encX at hx
 rw [run_callFunc_extern Tryz.func90 (by kernel_rfl) (by kernel_rfl) (by kernel_rfl) (e:=Extern.SlicesOverlaps.overlaps #[39,39] #[4]) (by kernel_rfl),
  Lib.run_overlaps_apart w 39 4 85 Tryz.underlying39 5 ins_size ⟨vb,0,none⟩ ⟨g,off,none⟩ 1 1 lb cb hne 85 85 5 cur.size (by simp [World.shape?,hx]) (by simp [World.shape?,hg]) h0 (by simp [World.frozen?,hx]) (by simp [World.frozen?,hx])]
 rfl
theorem ins_cells (L:List Crs) (x:Crs) (i:Nat):flat encX (L.take i++x::L.drop i)=(flat encX L).take (i * 5)++((encX.cs x)++(flat encX L).drop (i * 5)):=by
 rw [flat_append,flat_cons,gen_take,gen_drop]
def InsOwn (w:World) (B:Nat) (v0:Value) (M:List Crs) (e:Ending) (w':World):Prop:=∃ v,e=.returned v∧w'.ownsRow B 85 5 v M.length (flat encX M)∧w.grownBy w' v0.ownBlock
theorem grownBy_drewN (w:World) (q:Nat) (row:Option Nat):w.grownBy (w.drewN q) row:=⟨rfl,rfl,rfl,Nat.le_refl _,fun _ _ _=>rfl⟩
theorem grownBy_of_below {w w':World} (h:Below w.heap.size w w') (row:Option Nat):w.grownBy w' row:=⟨h.os,h.tape,h.output,h.size,fun j hj _=>h.block j hj⟩
set_option maxRecDepth 100000 in
set_option maxHeartbeats 4000000 in
theorem insert_end (v:Value) (L:List Crs) (x:Crs) (vb B:Nat) (w:World) (h:w.ownsRow B 85 5 v L.length (flat encX L)) (hB:B≤w.heap.size) (hx:BoxE encX w vb 85 x) (hL:L.length≤1000) :
 Calls Tryz.prog 51 #[v,.int .i64 (L.length:Int),.slice (some ⟨vb,0,none⟩) 1 1] w (InsOwn w B v (L.take L.length++x::L.drop L.length)):=by
 have HM:Hid (L.take L.length++x::L.drop L.length=L++[x]):=Lib.hid (by simp)
 rw [HM.out]
 obtain ⟨i0,hi,hz0,hz1,hz2⟩:=info_parts gen_info
 have hcx:∀ (j:Nat) u,(encX.cs x)[j]?=some u→w.cell? ((⟨vb,0,none⟩:Addr).add j)=some u:=fun j u hj=>by rw [add_off];exact hx.at0 j u hj
 have HOW:=Lib.hid h
 have hv:∃ p c,v=.slice p L.length c∧L.length≤c∧c≤maxLen∧(p=none→c=0)∧(∀ a,p=some a→∃ g,a=⟨g,0,none⟩):=by
  rcases h.2 with ⟨rfl,hn⟩ | ⟨g,cap,cur,rfl,_,_,hnc,hcm,_⟩
  ·exact ⟨none,0,by rw [hn],by omega,by simp,fun _=>rfl,fun a e=>by cases e⟩
  ·exact ⟨_,cap,rfl,hnc,hcm,(fun e=>by cases e),fun a e=>by cases e;exact ⟨g,rfl⟩⟩
 obtain ⟨p,c,rfl,hnc,hcm,hpn,hps⟩:=hv
 obtain ⟨v',w',hr,h2,h3,_⟩:=run_append_own (P:=Tryz.prog) w B 39 39 85 i0 _ 5 64 Tryz.underlying39 hi hz0 hz1 hz2 rfl (by decide) _ _ _ h ⟨vb,0,none⟩ 1 1 (encX.cs x) rfl hcx (encX.one x) (by unfold maxLen;omega) (by omega) hB
 have hra:(Builtin.append_ #[39,39] 39 #[.slice p L.length c,.slice (some ⟨vb,0,none⟩) 1 1]).run Tryz.prog w=.ok v' w':=by
  rw [append_types w _ _ _ _ _ i0 Tryz.underlying39 Tryz.underlying39 hi];exact hr
 have HRA:=Lib.hid hra
 have HCV:Hid (w'.ownsRow B 85 5 v' (L++[x]).length (flat encX (L++[x]))):=Lib.hid (by
  have:w'.ownsRow B 85 5 v' (L++[x]).length (flat encX (L++[x])):=by
   rw [List.length_append,flat_append,show flat encX [x]=encX.cs x from flat_one x];exact h2
  exact this)
 have HBL:=Lib.hid h3
 obtain ⟨n,hn⟩:∃ n,L.length=n:=⟨_,rfl⟩
 rw [hn] at HRA hL hnc ⊢
 unfold maxLen at hcm
 clear hr h2 h3 hra h HOW hn hi hz0 hz1 hz2 hcx
 cases p with
 | none =>
   have hc0:=hpn rfl
   obtain rfl:n=0:=by omega
   subst hc0
   go_enter Tryz.func51,Tryz.ntmps51
   go_wp2_with (at_builtin;refine Lib.wpList_append_run _ rfl _ _ _ _ rfl _ _ rfl rfl v' w' HRA.out ?_)
   go_ret
   exact ⟨v',rfl,HCV.out,HBL.out⟩
 | some a =>
   obtain ⟨g,rfl⟩:=hps a rfl
   have hnn:(n:Int)≤(n:Int):=Int.le_refl _
   by_cases hcn:c=n
   ·subst hcn
    go_enter Tryz.func51,Tryz.ntmps51
    go_wp2_with (at_builtin;refine Lib.wpList_append_run _ rfl _ _ _ _ rfl _ _ rfl rfl v' w' HRA.out ?_)
    go_ret
    exact ⟨v',rfl,HCV.out,HBL.out⟩
   ·have e1:=from_at (z:=(n:Int)) (g:=g) (n:=n) (c:=c) (k:=n) (hz:=rfl) (hk:=Nat.le_refl _) (hc:=by omega)
    go_enter Tryz.func51,Tryz.ntmps51
    go_wp2_with (at_builtin;refine Lib.wpList_append_run _ rfl _ _ _ _ rfl _ _ rfl rfl v' w' HRA.out ?_)
    go_ret
    exact ⟨v',rfl,HCV.out,HBL.out⟩
set_option maxRecDepth 100000 in
set_option maxHeartbeats 4000000 in
theorem insert_room (g cap:Nat) (cur:Array Value) (L:List Crs) (x:Crs) (i vb B:Nat) (w:World) (hBg:B≤g) (hg:w.heap[g]?=some (.cells cur 85 (0,0))) (hcap:cap≤maxLen) (hcs:cur.size=cap * 5) (htk:cur.toList.take (L.length * 5)=flat encX L)
 (hx:BoxE encX w vb 85 x) (hne:vb≠g) (hi:i < L.length) (hr:L.length+1≤cap) :
 Calls Tryz.prog 51 #[.slice (some ⟨g,0,none⟩) L.length cap,.int .i64 (i:Int),.slice (some ⟨vb,0,none⟩) 1 1] w (InsOwn w B (.slice (some ⟨g,0,none⟩) L.length cap) (L.take i++x::L.drop i)):=by
 obtain ⟨M,hM⟩:∃ M,L.take i++x::L.drop i=M:=⟨_,rfl⟩
 obtain ⟨n,hn⟩:∃ n,L.length=n:=⟨_,rfl⟩
 have hML:M.length=n+1:=by rw [←hM,←hn];simp;omega
 obtain ⟨A,hA⟩:∃ A,(flat encX L).take (i * 5)=A:=⟨_,rfl⟩
 obtain ⟨D,hD⟩:∃ D,(flat encX L).drop (i * 5)=D:=⟨_,rfl⟩
 have hFM:flat encX M=A++((encX.cs x)++D):=by rw [←hM,ins_cells,hA,hD]
 have hFL:flat encX L=A++D:=by rw [←hA,←hD,List.take_append_drop]
 have hFlen:=gen_length L
 rw [hn] at hFlen htk hi hr ⊢
 have hAl:A.length=i * 5:=by rw [←hA,List.length_take,hFlen];omega
 have hDl:D.length=(n - i) * 5:=by rw [←hD,List.length_drop,hFlen];omega
 obtain ⟨S,hS⟩:∃ S,cur.toList.drop (n * 5)=S:=⟨_,rfl⟩
 have hcur:cur.toList=A++(D++S):=by rw [←List.take_append_drop (n * 5) cur.toList,htk,hS,hFL,List.append_assoc]
 have hSl:S.length=(cap - n) * 5:=by rw [←hS,List.length_drop,Array.length_toList,hcs];omega
 have hXl:(encX.cs x).length=5:=rfl
 have hg':w.heap[g]?=some (.cells (A++(D++S)).toArray 85 (0,0)):=by rw [←hcur];simpa using hg
 have hDone:∀ v∈D,v.oneCell'=true:=fun v hv=>flat_ones L v (by rw [hFL];simp [hv])
 have HG:=Lib.hid hg'
 have HX:=Lib.hid hx
 have HM:=Lib.hid hM
 have HOV:=Lib.hid (fun off lb cb=>overlaps_no w vb g off lb cb x cur hne hx hg (by rw [hcs];omega))
 have HSRC:Hid (∀ (w':World),w'.heap[g]?=w.heap[g]?→∀ (j:Nat) v,D[j]?=some v→w'.cell? ((⟨g,i * 5,none⟩:Addr).add j)=some v):=Lib.hid (fun w' hw' j v hj=>by
  rw [add_off,cell_of_row _ g (i * 5+j) _ 85 (0,0) (hw'.trans hg')]
  simp only [List.getElem?_toArray]
  rw [←hAl,List.getElem?_append_right (by omega),Nat.add_sub_cancel_left,List.getElem?_append_left (List.getElem?_eq_some_iff.1 hj).1]
  exact hj)
 have HL:=Lib.hid (And.intro hML (And.intro hFM (And.intro hAl (And.intro hDl (And.intro hSl hDone)))))
 rw [hM]
 unfold maxLen at hcap
 have e0:=fun wq=>from_at (w:=wq) (z:=(i:Int)) (g:=g) (n:=n) (c:=cap) (k:=i) (hz:=rfl) (hk:=by omega) (hc:=by omega)
 have e1:=fun wq=>upto_at (w:=wq) (z:=(n:Int)+1) (g:=g) (n:=n) (c:=cap) (k:=n+1) (hz:=by omega) (hk:=by omega)
 have e2:=fun wq=>from_at (w:=wq) (z:=(i:Int)+1) (g:=g) (n:=n+1) (c:=cap) (k:=i+1) (hz:=by omega) (hk:=by omega) (hc:=by omega)
 have e3:=fun wq=>from_at (w:=wq) (z:=(i:Int)) (g:=g) (n:=n+1) (c:=cap) (k:=i) (hz:=rfl) (hk:=by omega) (hc:=by omega)
 have hz1:¬ ((i:Int)=(n:Int)):=by omega
 have hz2:¬ ((cap:Int) < (n:Int)+1):=by omega
 have hw1:IntKind.i64.wrap ((i:Int)+1)=(i:Int)+1:=by rw [IntKind.wrap_i64];omega
 have hov:=HOV.out
 clear hFlen hcur hS hFL hA hD hn hM hML hFM hAl hDl hSl hXl hg hg' hDone htk hcs hx HOV
 go_enter Tryz.func51,Tryz.ntmps51
 go_wp2_with (simp only [hov])
 go_region_law (refine step_copyK rfl (.tmp 73) (.tmp 76) 39 39 rfl 85 Tryz.underlying39 5 ins_sz (some ⟨g,(i+1) * 5,none⟩) (some ⟨g,i * 5,none⟩) (n+1 - (i+1)) (cap - (i+1)) (n+1 - i) (cap - i) (by simp [Act.eval,Act.put]) (by simp [Act.eval,Act.put]) g ((i+1) * 5) (A++(D++S)) 85 HG.out D (n - i) (by simp only [Nat.min_def];split <;> omega) HL.out.2.2.2.1 rfl ⟨g,i * 5,none⟩ rfl (HSRC.out _ rfl) (by have h:=HL.out;simp only [List.length_append];omega) HL.out.2.2.2.2.2 ?_;intro w1 hg1 hgr1)
 have HG1:=Lib.hid hg1.out
 have HGR1:=Lib.hid hgr1
 have HX1:Hid (BoxE encX w1 vb 85 x):=Lib.hid (by
  have hb:=HX.out
  have hlt:vb < w.heap.size:=(Array.getElem?_eq_some_iff.1 hb).1
  exact (hgr1.block vb hlt (fun e=>hne (Option.some.inj e))).trans hb)
 clear hg1 hgr1
 go_wp2_with (refine wpList_copyK rfl (.tmp 80) (.tmp 81) 39 39 rfl 85 Tryz.underlying39 5 ins_sz _ _ _ _ _ _ rfl rfl g (i * 5) (splice (A++(D++S)) ((i+1) * 5) D) 85 HG1.out (encX.cs x) 1 (by simp only [Nat.min_def];split <;> omega) rfl rfl ⟨vb,0,none⟩ rfl (fun j u hj=>by rw [add_off];exact HX1.out.at0 j u hj) (by have h:=HL.out;rw [length_splice _ _ _ (by simp only [List.length_append];omega)];simp only [List.length_append];show _+5≤_;omega) (encX.one x) ?_;intro w2 hg2 hgr2)
 have HF:Hid (w2.ownsRow B 85 5 (.slice (some ⟨g,0,none⟩) (n+1) cap) M.length (flat encX M)):=Lib.hid (by
  obtain ⟨hML,hFM,hAl,hDl,hSl,_⟩:=HL.out
  have hsp:splice (splice (A++(D++S)) ((i+1) * 5) D) (i * 5) (encX.cs x)=A++((encX.cs x)++(D++(D++S).drop (5+D.length))):=by
   rw [show (i+1) * 5=A.length+(encX.cs x).length by rw [hAl];show _=_+5;omega,show i * 5=A.length from hAl.symm]
   exact splice_back A (encX.cs x) D (D++S) (by simp only [List.length_append];show 5+_≤_;omega)
  have hh:=hg2.out
  rw [hsp] at hh
  have own:w2.ownsRow B 85 5 (.slice (some ⟨g,0,none⟩) M.length cap) M.length (flat encX M):=by
   refine ⟨gen_length M,.inr ⟨g,cap,_,rfl,hBg,hh,by omega,by unfold maxLen;omega,?_,?_⟩⟩
   ·simp only [List.size_toArray,List.length_append,List.length_drop]
    show _+(5+_)=_
    omega
   ·rw [hFM,hML]
    have:(A++((encX.cs x)++D)).length=(n+1) * 5:=by simp only [List.length_append];show _+(5+_)=_;omega
    rw [←this,show A++((encX.cs x)++(D++(D++S).drop (5+D.length)))=(A++((encX.cs x)++D))++(D++S).drop (5+D.length) by simp]
    exact List.take_left
  rw [←hML]
  exact own)
 have HBL:Hid (w.grownBy w2 (some g)):=Lib.hid (((grownBy_drewN w 1 (some g)).trans HGR1.out).trans hgr2)
 clear hg2 hgr2
 go_ret
 exact ⟨_,rfl,HF.out,HBL.out⟩
set_option maxRecDepth 100000 in
set_option maxHeartbeats 4000000 in
theorem insert_grow (g cap:Nat) (cur:Array Value) (L:List Crs) (x:Crs) (i vb B:Nat) (w:World) (hg:w.heap[g]?=some (.cells cur 85 (0,0))) (hcap:cap≤maxLen) (hcs:cur.size=cap * 5) (htk:cur.toList.take (L.length * 5)=flat encX L)
 (hB:B≤w.heap.size) (hx:BoxE encX w vb 85 x) (hi:i < L.length) (hnc:L.length≤cap) (hr:cap < L.length+1) (hL:L.length≤1000) :
 Calls Tryz.prog 51 #[.slice (some ⟨g,0,none⟩) L.length cap,.int .i64 (i:Int),.slice (some ⟨vb,0,none⟩) 1 1] w (InsOwn w B (.slice (some ⟨g,0,none⟩) L.length cap) (L.take i++x::L.drop i)):=by
 obtain ⟨M,hM⟩:∃ M,L.take i++x::L.drop i=M:=⟨_,rfl⟩
 obtain ⟨n,hn⟩:∃ n,L.length=n:=⟨_,rfl⟩
 have hML:M.length=n+1:=by rw [←hM,←hn];simp;omega
 obtain ⟨A,hA⟩:∃ A,(flat encX L).take (i * 5)=A:=⟨_,rfl⟩
 obtain ⟨D,hD⟩:∃ D,(flat encX L).drop (i * 5)=D:=⟨_,rfl⟩
 have hFM:flat encX M=A++((encX.cs x)++D):=by rw [←hM,ins_cells,hA,hD]
 have hFL:flat encX L=A++D:=by rw [←hA,←hD,List.take_append_drop]
 have hFlen:=gen_length L
 rw [hn] at hFlen htk hi hr hnc hL ⊢
 obtain rfl:cap=n:=by omega
 have hAl:A.length=i * 5:=by rw [←hA,List.length_take,hFlen];omega
 have hDl:D.length=(cap - i) * 5:=by rw [←hD,List.length_drop,hFlen];omega
 have hcur:cur.toList=A++D:=by rw [←hFL,←htk,List.take_of_length_le (by rw [Array.length_toList,hcs];exact Nat.le_refl _)]
 have hg':w.heap[g]?=some (.cells (A++D).toArray 85 (0,0)):=by rw [←hcur];simpa using hg
 have hDone:∀ v∈D,v.oneCell'=true:=fun v hv=>flat_ones L v (by rw [hFL];simp [hv])
 obtain ⟨i0,hi0,hz0,hz1,hz2⟩:=info_parts gen_info
 have hgl:g < w.heap.size:=(Array.getElem?_eq_some_iff.1 hg).1
 have hvl:vb < w.heap.size:=(Array.getElem?_eq_some_iff.1 hx).1
 have hAt:∀ (j:Nat) v,A[j]?=some v→w.cell? ((⟨g,0,none⟩:Addr).add j)=some v:=fun j v hj=>by
  rw [add_off,Nat.zero_add,cell_of_row _ g j _ 85 (0,0) hg']
  simp only [List.getElem?_toArray]
  rw [List.getElem?_append_left (List.getElem?_eq_some_iff.1 hj).1];exact hj
 have hold:(Builtin.firstCells i0.size i (.slice (some ⟨g,0,none⟩) i cap)).run Tryz.prog w.drew=.ok A.toArray w.drew:=by
  rw [hz1];exact run_firstCells_some w.drew 5 i ⟨g,0,none⟩ i cap A hAl hAt
 have hk:i+(cap+1 - i)=cap+1:=by omega
 have hrz:∀ ty,(Builtin.append_ #[39,3] ty #[.slice (some ⟨g,0,none⟩) i cap,.int .i64 ((cap+1 - i:Nat):Int)]).run Tryz.prog w=_:=fun ty =>
  Lib.run_append_grow_zeros w 39 3 ty 85 i0 _ .i64 .i64 Tryz.underlying39 Tryz.underlying3 hi0 hz0 (some ⟨g,0,none⟩) i cap A hold (cap+1 - i) (by omega) (by omega) (by omega) (by omega) (by rw [hz2];omega) (by rw [hz2,hk];exact growslice_fits (by omega) (by omega))
 rw [hk] at hrz
 obtain ⟨G,hG⟩:∃ G,grownCap w (cap+1) cap 85=G:=⟨_,rfl⟩
 have hGge:cap+1≤G:=by rw [←hG];exact grownCap_ge w _ _ _
 have hGle:G≤maxLen:=by rw [←hG];exact grownCap_le_maxLen w _ _ _ (by unfold maxLen;omega)
 rw [hG] at hrz
 obtain ⟨Z,hZ⟩:∃ Z:List Value,(Builtin.zeroCells (Value.agg #[.string ⟨#[]⟩,.string ⟨#[]⟩,.string ⟨#[]⟩,.int .i64 0,.int .i64 0]).cells (cap+1 - i)++Builtin.zeroCells (Value.agg #[.string ⟨#[]⟩,.string ⟨#[]⟩,.string ⟨#[]⟩,.int .i64 0,.int .i64 0]).cells (G - (cap+1))).toList=Z:=⟨_,rfl⟩
 have hZl:Z.length=(cap+1 - i) * 5+(G - (cap+1)) * 5:=by rw [←hZ];simp [Builtin.zeroCells,Value.cells]
 obtain ⟨W1,hW1⟩:∃ W1,w.drew.alloc (.cells (A++Z).toArray 85)=W1:=⟨_,rfl⟩
 have hrow:(A.toArray++Builtin.zeroCells (Value.agg #[.string ⟨#[]⟩,.string ⟨#[]⟩,.string ⟨#[]⟩,.int .i64 0,.int .i64 0]).cells (cap+1 - i)++Builtin.zeroCells (Value.agg #[.string ⟨#[]⟩,.string ⟨#[]⟩,.string ⟨#[]⟩,.int .i64 0,.int .i64 0]).cells (G - (cap+1)))=(A++Z).toArray:=by
  rw [←hZ];apply Array.ext';simp
 rw [hrow,hW1] at hrz
 have hG1:W1.heap[w.heap.size]?=some (.cells (A++Z).toArray 85 (0,0)):=by rw [←hW1];exact heap_alloc_new w.drew _
 have hB1:Below w.heap.size w W1:=by rw [←hW1];exact (below_drewN (Below.refl w.heap.size w) 1).alloc (Nat.le_refl _) _
 have HG1:=Lib.hid hG1
 have HB1:=Lib.hid hB1
 have HX1:Hid (BoxE encX W1 vb 85 x):=Lib.hid (hx.keep hB1 hvl)
 have HGO:Hid (W1.heap[g]?=some (.cells (A++D).toArray 85 (0,0))):=Lib.hid ((hB1.block g hgl).trans hg')
 have HL:=Lib.hid (And.intro hML (And.intro hFM (And.intro hAl (And.intro hDl (And.intro hZl hDone)))))
 have HRZ:=Lib.hid (hrz 39)
 rw [hM]
 unfold maxLen at hcap hGle
 have hki:((cap:Int)+1 - (i:Int))=((cap+1 - i:Nat):Int):=by omega
 have HKI:=Lib.hid hki
 have e0:=fun wq=>from_at (w:=wq) (z:=(i:Int)) (g:=g) (n:=cap) (c:=cap) (k:=i) (hz:=rfl) (hk:=by omega) (hc:=by omega)
 have e1:=fun wq=>upto_at (w:=wq) (z:=(i:Int)) (g:=g) (n:=cap) (c:=cap) (k:=i) (hz:=rfl) (hk:=by omega)
 have e2:=fun wq=>from_at (w:=wq) (z:=(i:Int)+1) (g:=w.heap.size) (n:=cap+1) (c:=G) (k:=i+1) (hz:=by omega) (hk:=by omega) (hc:=by omega)
 have e3:=fun wq=>from_at (w:=wq) (z:=(i:Int)) (g:=w.heap.size) (n:=cap+1) (c:=G) (k:=i) (hz:=rfl) (hk:=by omega) (hc:=by omega)
 have hz1':¬ ((i:Int)=(cap:Int)):=by omega
 have hz2':((cap:Int) < (cap:Int)+1):=by omega
 have hw1:IntKind.i64.wrap ((i:Int)+1)=(i:Int)+1:=by rw [IntKind.wrap_i64];omega
 have HGL:=Lib.hid hgl
 clear hFlen hcur hFL hA hD hn hM hML hFM hAl hDl hg hg' hDone htk hcs hx hZ hZl hW1 hrow hrz hG1 hB1 hG hold hAt hi0 hz0 hz1 hz2 hk hki hgl hvl
 go_enter Tryz.func51,Tryz.ntmps51
 go_wp2_with (first
  | (at_builtin;refine Lib.wpList_append_run _ rfl _ _ _ _ rfl _ _ rfl rfl _ W1 (by rw [HKI.out];exact HRZ.out) ?_)
  | (refine wpList_copyK rfl (.tmp 43) (.tmp 44) 39 39 rfl 85 Tryz.underlying39 5 ins_sz _ _ _ _ _ _ rfl rfl w.heap.size (i * 5) (A++Z) 85 HG1.out (encX.cs x) 1 (by simp only [Nat.min_def];split <;> omega) rfl rfl ⟨vb,0,none⟩ rfl (fun j u hj=>by rw [add_off];exact HX1.out.at0 j u hj) (by have h:=HL.out;simp only [List.length_append];show _+5≤_;omega) (encX.one x) ?_;intro w2 hg2 hgr2))
 have HG2:=Lib.hid hg2.out
 have HGR2:=Lib.hid hgr2
 have HGO2:Hid (w2.heap[g]?=some (.cells (A++D).toArray 85 (0,0))):=Lib.hid ((hgr2.block g (Nat.lt_of_lt_of_le HGL.out HB1.out.size) (fun e=>by have:=Option.some.inj e;have:=HGL.out;omega)).trans HGO.out)
 have HSRC:Hid (∀ (j:Nat) v,D[j]?=some v→w2.cell? ((⟨g,i * 5,none⟩:Addr).add j)=some v):=Lib.hid (fun j v hj=>by
  rw [add_off,cell_of_row _ g (i * 5+j) _ 85 (0,0) HGO2.out]
  simp only [List.getElem?_toArray]
  rw [←HL.out.2.2.1,List.getElem?_append_right (by omega),Nat.add_sub_cancel_left]
  exact hj)
 clear hg2 hgr2
 go_region_law (refine step_copyK rfl (.tmp 50) (.tmp 53) 39 39 rfl 85 Tryz.underlying39 5 ins_sz (some ⟨w.heap.size,(i+1) * 5,none⟩) (some ⟨g,i * 5,none⟩) (cap+1 - (i+1)) (G - (i+1)) (cap - i) (cap - i) (by simp [Act.eval,Act.put]) (by simp [Act.eval,Act.put]) w.heap.size ((i+1) * 5) (splice (A++Z) (i * 5) (encX.cs x)) 85 HG2.out D (cap - i) (by simp only [Nat.min_def];split <;> omega) HL.out.2.2.2.1 rfl ⟨g,i * 5,none⟩ rfl HSRC.out (by have h:=HL.out;rw [length_splice _ _ _ (by simp only [List.length_append];show _+5≤_;omega)];simp only [List.length_append];omega) HL.out.2.2.2.2.2 ?_;intro w3 hg3 hgr3)
 have HF:Hid (w3.ownsRow B 85 5 (.slice (some ⟨w.heap.size,0,none⟩) (cap+1) G) M.length (flat encX M)):=Lib.hid (by
  obtain ⟨hML,hFM,hAl,hDl,hZl,_⟩:=HL.out
  have hsp:splice (splice (A++Z) (i * 5) (encX.cs x)) ((i+1) * 5) D=A++((encX.cs x)++(D++Z.drop (5+D.length))):=by
   rw [show (i+1) * 5=A.length+(encX.cs x).length by rw [hAl];show _=_+5;omega,show i * 5=A.length from hAl.symm]
   exact splice_fwd A (encX.cs x) D Z (by show 5+_≤_;omega)
  have hh:=hg3.out
  rw [hsp] at hh
  have own:w3.ownsRow w.heap.size 85 5 (.slice (some ⟨w.heap.size,0,none⟩) M.length G) M.length (flat encX M):=by
   refine ⟨gen_length M,.inr ⟨w.heap.size,G,_,rfl,Nat.le_refl _,hh,by omega,by unfold maxLen;omega,?_,?_⟩⟩
   ·simp only [List.size_toArray,List.length_append,List.length_drop]
    show _+(5+_)=_
    omega
   ·rw [hFM,hML]
    have:(A++((encX.cs x)++D)).length=(cap+1) * 5:=by simp only [List.length_append];show _+(5+_)=_;omega
    rw [←this,show A++((encX.cs x)++(D++Z.drop (5+D.length)))=(A++((encX.cs x)++D))++Z.drop (5+D.length) by simp]
    exact List.take_left
  rw [←hML]
  exact row_base own hB)
 have HBL:Hid (w.grownBy w3 (some g)):=Lib.hid (((grownBy_of_below HB1.out (some g)).andThen HGR2.out (fun j hj=>.inl (by cases hj;exact Nat.le_refl _))).andThen ((grownBy_drewN w2 1 (some w.heap.size)).trans hgr3) (fun j hj=>.inl (by cases hj;exact Nat.le_refl _)))
 clear hg3 hgr3
 go_wp2
 go_ret
 exact ⟨_,rfl,HF.out,HBL.out⟩
theorem insert_own (v:Value) (L:List Crs) (x:Crs) (i vb B:Nat) (w:World) (h:w.ownsRow B 85 5 v L.length (flat encX L)) (hB:B≤w.heap.size) (hx:BoxE encX w vb 85 x) (hne:v.ownBlock≠some vb) (hi:i≤L.length) (hL:L.length≤1000) :
 Calls Tryz.prog 51 #[v,.int .i64 (i:Int),.slice (some ⟨vb,0,none⟩) 1 1] w (InsOwn w B v (L.take i++x::L.drop i)):=by
 by_cases hie:i=L.length
 ·subst hie;exact insert_end v L x vb B w h hB hx hL
 ·rcases h.2 with ⟨rfl,hn⟩ | ⟨g,cap,cur,rfl,hBg,hg,hnc,hcm,hcs,htk⟩
  ·omega
  ·by_cases hr:L.length+1≤cap
   ·exact insert_room g cap cur L x i vb B w hBg hg hcm hcs htk hx (fun e=>hne (by rw [e];rfl)) (by omega) hr
   ·exact insert_grow g cap cur L x i vb B w hg hcm hcs htk hB hx (by omega) hnc (by omega) hL
end Go.Proofs.YthcpglnmhimepaaGreatDoor.Cs.Ta
end
section
namespace Go.Proofs.YthcpglnmhimepaaGreatDoor.Un
open Go.RowKit
abbrev zn (K:List (List ByteArray)):List (Int × List ByteArray):=K.map fun ws=>((0:Int),ws)
def RowsAt (W:World) (B:Nat) (t:TypeId) (v:Value) (K:List (List ByteArray)):Prop :=
 ∃ LV,W.ownsRow B t 2 v LV.length (flatL LV)∧WordsOwn W B 9 LV (zn K)
theorem RowsAt.nil (W:World) (B:Nat) (t:TypeId):RowsAt W B t (.slice none 0 0) []:=⟨[],World.ownsRow_nil _ _ _ _,WordsOwn.nil _ _ _⟩
theorem RowsAt.below {W W':World} {B:Nat} {t:TypeId} {v:Value} {K:List (List ByteArray)} (h:RowsAt W B t v K) (hb:Below W.heap.size W W'):RowsAt W' B t v K:=by
 obtain ⟨LV,h1,h2⟩:=h
 exact ⟨LV,row_below h1 hb,h2.mono fun u n xs hu=>row_below hu hb⟩
theorem RowsAt.lines {W:World} {B:Nat} {t:TypeId} {v:Value} {K:List (List ByteArray)} (h:RowsAt W B t v K):LinesV W v (zn K):=by
 obtain ⟨LV,h1,h2⟩:=h
 exact lines_of_in h1 h2.isIn
theorem wpList_append_line {P:Program} {ops:Array Oper} {rest:List Oper} {o:Oper} {a:Act} {w:World} {Q:Exit→Act→World→Prop} (hgd:o.guard=none) (s x:Operand) (t:TypeId) (ho:o.op=.call { callee:=.builtin .append,args:=#[s,x],argTypes:=#[t,t] })
 (B:Nat) (e:TypeId) (i:TypeInfo) (ht:P.underlying t=some (.slice e)) (hi:P.info? e=some i) (hz:i.zero=some (.agg #[.int .i64 0,.slice none 0 0])) (hsz:i.size=2) (hby:i.bytes=32) (hne:e≠9)
 (K:List (List ByteArray)) (ws:List ByteArray) (u:Value) (g:Nat) (hrow:RowsAt w B e (a.eval s) K) (hx:a.eval x=.slice (some ⟨g,0,none⟩) 1 1) (c0:w.cell? ⟨g,0,none⟩=some (.int .i64 0)) (c1:w.cell? ⟨g,1,none⟩=some u) (hu:w.ownsRow B 9 1 u ws.length (ws.map Value.string)) (hB:B≤w.heap.size) (hK:K.length≤100000)
 (h:∀ v' w',RowsAt w' B e v' (K++[ws])→Below B w w'→w.grownBy w' (a.eval s).ownBlock→wpList P ops Q rest (a.put o.dst v') w'):wpList P ops Q (o::rest) a w:=by
 obtain ⟨LV,h1,h2⟩:=hrow
 have hlen:LV.length=K.length:=by have:=h2.1;simpa [zn] using this
 have hu1:∃ p c,u=.slice p ws.length c:=by
  rcases hu.2 with ⟨rfl,e0⟩ | ⟨g',cap,cur,rfl,_⟩
  ·exact ⟨none,0,by rw [e0]⟩
  ·exact ⟨_,_,rfl⟩
 obtain ⟨pu,cu,rfl⟩:=hu1
 refine wpList_append_own w hgd s x t ho B e i _ 2 32 ht hi hz hsz hby rfl (by decide) _ _ _ rfl h1 ⟨g,0,none⟩ 1 1 [.int .i64 0,.slice pu ws.length cu] hx rfl (fun j v hj=>?_) (by intro v hv;simp at hv;rcases hv with rfl | rfl <;> rfl) (by unfold maxLen;omega) (by omega) hB ?_
 ·match j,hj with
  | 0,hj=>cases hj;rw [add_off];exact c0
  | 1,hj=>cases hj;rw [add_off];exact c1
  | j+2,hj=>simp at hj
 ·intro v' w' h3 h4 _
  refine h v' w' ⟨LV++[((0:Int),.slice pu ws.length cu)],?_,?_⟩ (below_grown (Below.refl _ _) hB h1 h4) h4
  ·rw [flatL_snoc,List.length_append];exact h3
  ·have hk:∀ (q:Value) (n:Nat) (xs:List Value),w.ownsRow B 9 1 q n xs→w'.ownsRow B 9 1 q n xs:=fun q n xs hq=>hq.kept h4 (row_apart h1 hq hne)
   have:=(h2.mono hk).snoc 0 _ ws (hk _ _ _ hu)
   simpa [zn] using this
end Go.Proofs.YthcpglnmhimepaaGreatDoor.Un
end
section
namespace Go.Proofs.YthcpglnmhimepaaGreatDoor.Fl
open Go.RowKit
theorem kinds_any (w:World):Calls Tryz.prog 153 #[] w fun e w'=>e=.returned (.slice (some ⟨w.heap.size,0,none⟩) 5 5)∧w'=w.alloc (.cells #[.string tOpen,.string tMove,.string tFx,.string tScope,.string tClose] 9):=by
 go_enter Tryz.func153,Tryz.ntmps153
 go_wp2
 go_ret
 exact ⟨rfl,rfl⟩
theorem strs_three2 (w:World) (o:Obj) (x y z:ByteArray) (t:TypeId):StrsV ((w.alloc o).alloc (.cells #[.string x,.string y,.string z] t)) (.slice (some ⟨w.heap.size+1,0,none⟩) 3 3) [x,y,z]:=by
 have:=strs_three (w.alloc o) x y z t
 rwa [World.size_alloc] at this
abbrev kindCells:Obj:=.cells #[.string tOpen,.string tMove,.string tFx,.string tScope,.string tClose] 9
theorem kind_cell (w:World) (n:Nat) (h:n < 5):(w.alloc kindCells).cell? ⟨w.heap.size,n,none⟩=some (.string (kindW (n:Int))):=by
 rw [cell_of_row _ w.heap.size n _ _ (0,0) (heap_alloc_new w _)]
 rcases (by omega:n=0∨n=1∨n=2∨n=3∨n=4) with rfl | rfl | rfl | rfl | rfl <;> rfl
set_option maxRecDepth 100000 in
set_option maxHeartbeats 8000000 in
theorem rwords_ok (co:ByteArray) (k:Nat) (w:World) (hk:k < 5) (h:rightF ⟨co,(k:Int)⟩=true):Calls Tryz.prog 117 #[aggL ⟨co,(k:Int)⟩] w (StrsTold w [tFlow,co,kindW (k:Int)]):=by
 have HR:=Lib.hid (rright_any ⟨co,(k:Int)⟩)
 rw [h] at HR
 have HB:=Lib.hid ((Below.refl w.heap.size w).alloc (Nat.le_refl _) (.cells #[.string co,.int .i64 (k:Int)] 145))
 have HX0:=Lib.hid (BoxE.new encF w ⟨co,(k:Int)⟩ 145)
 clear h
 obtain ⟨kw,hkw⟩:∃ kw,kindW (k:Int)=kw:=⟨_,rfl⟩
 rw [hkw]
 have HKW:=Lib.hid hkw
 clear hkw
 go_enter Tryz.func117,Tryz.ntmps117
 go_wp2_with fail
 refine (HR.out _).mono ?_
 rintro e w1 ⟨rfl,hb1⟩
 have HB1:=Lib.hid (HB.out.trans (hb1.mono HB.out.size))
 have hlt:w.heap.size < w1.heap.size:=by have:=hb1.size;simp at this;omega
 have HX1:=Lib.hid (HX0.out.keep hb1 (by simp))
 obtain ⟨c0,c1⟩:=box HX1.out
 simp only at c0 c1
 clear hb1
 go_wp2_with fail
 have hb2:=(Below.refl w1.heap.size w1).alloc (Nat.le_refl _) kindCells
 obtain ⟨d0,d1⟩:=box (HX1.out.keep hb2 hlt)
 simp only at d0 d1
 have HB2:=Lib.hid (HB1.out.trans (hb2.mono HB1.out.size))
 have hc:=kind_cell w1 k hk
 rw [HKW.out] at hc
 have hk5:(k:Int) < 5:=by omega
 clear hb2
 go_region_with (go_at_call 153;refine (kinds_any _).mono ?_;rintro e w' ⟨rfl,rfl⟩)
 all_goals
  go_wp2
  go_ret
  exact ⟨_,rfl,strs_three2 w1 kindCells tFlow co kw 9,below_drew' (HB2.out.alloc HB2.out.size _)⟩
set_option maxRecDepth 100000 in
set_option maxHeartbeats 4000000 in
theorem rwords_any (f:Flow) (w:World):Calls Tryz.prog 117 #[aggL f] w (StrsTold w (wordsF f)):=by
 cases h:rightF f with
 | false =>
   have HR:=Lib.hid (rright_any f)
   have HB:=Lib.hid ((Below.refl w.heap.size w).alloc (Nat.le_refl _) (.cells #[.string f.code,.int .i64 f.kind] 145))
   rw [h] at HR
   rw [words_nil h]
   clear h
   go_enter Tryz.func117,Tryz.ntmps117
   go_wp2_with fail
   refine (HR.out _).mono ?_
   rintro e w1 ⟨rfl,hb1⟩
   have HB1:=Lib.hid hb1
   clear hb1
   go_wp2
   go_ret
   exact ⟨_,rfl,StrsV.nil _,HB.out.trans (HB1.out.mono HB.out.size)⟩
 | true =>
   rw [words_of h]
   obtain ⟨co,k⟩:=f
   have hk:=(right_parts h).2
   simp only at hk ⊢
   obtain ⟨n,rfl⟩:∃ n:Nat,k=(n:Int):=⟨k.toNat,by omega⟩
   exact rwords_ok co n w (by omega) h
end Go.Proofs.YthcpglnmhimepaaGreatDoor.Fl
end
section
namespace Go.Proofs.YthcpglnmhimepaaGreatDoor.Un
open Go.RowKit
theorem line_new (w:World) (u:Value) (t:TypeId):(w.alloc (.cells #[.int .i64 0,u] t)).cell? ⟨w.heap.size,0,none⟩=some (.int .i64 0)∧(w.alloc (.cells #[.int .i64 0,u] t)).cell? ⟨w.heap.size,1,none⟩=some u :=
 ⟨(cell_of_row _ w.heap.size 0 _ t (0,0) (heap_alloc_new w _)).trans rfl,(cell_of_row _ w.heap.size 1 _ t (0,0) (heap_alloc_new w _)).trans rfl⟩
theorem row_slice' {W:World} {B:Nat} {e:TypeId} {s:Nat} {v:Value} {n:Nat} {xs:List Value} (h:W.ownsRow B e s v n xs):∃ a c,v=.slice a n c:=by
 rcases h.2 with ⟨rfl,rfl⟩ | ⟨g,cap,cur,rfl,_⟩
 ·exact ⟨none,0,rfl⟩
 ·exact ⟨_,_,rfl⟩
structure PrAt (W0 wr:World) (v:Value) (K:List (List ByteArray)):Prop where
 rows:RowsAt wr W0.heap.size 81 v K
 bel:Below W0.heap.size W0 wr
 len:K.length≤50000
theorem info_pline:(Tryz.prog.info? 81).map (fun i=>(i.zero,i.size,i.bytes))=some (some (.agg #[.int .i64 0,.slice none 0 0]),2,32):=by kernel_rfl
theorem map_take_succ {α β:Type} {f:α→β} {L:List α} {i:Nat} {x:α} (h:L[i]?=some x):(L.take (i+1)).map f=(L.take i).map f++[f x]:=by
 have hi:=(List.getElem?_eq_some_iff.1 h).1
 rw [List.take_succ_eq_append_getElem hi,(List.getElem?_eq_some_iff.1 h).2];simp
end Go.Proofs.YthcpglnmhimepaaGreatDoor.Un
end
section
namespace Go.Proofs.YthcpglnmhimepaaGreatDoor.Un
open Go.RowKit
theorem info_racct:InfoE Tryz.prog 31 157 encA :=
 InfoE.of (z:=aggF zeroA) (n:=56) Tryz.underlying31 (by kernel_rfl) (by kernel_rfl) (by decide)
theorem insL_eqR:∀ (L:List Acct) (x:Acct),insL L x=G.insR Acct.code L x
 | [],_=>rfl
 | a::L,x=>by
   have ih:=insL_eqR L x
   simp only [insL,G.insR]
   by_cases h:gtS a.code x.code=true
   ·rw [if_pos h,if_pos (show G.KeyO.lt (Acct.code x) (Acct.code a)=true from (gtS_iff _ _).1 h)]
   ·rw [if_neg h,if_neg (show ¬ G.KeyO.lt (Acct.code x) (Acct.code a)=true from fun h'=>h ((gtS_iff _ _).2 h')),ih]
theorem none_all {L:List Acct} {c:ByteArray} (h:(findL L c).isSome=false):∀ (j:Nat) (y:Acct),L[j]?=some y→y.code≠c:=fun j y hy e=>by
 have:=findL_some (List.mem_of_getElem? hy)
 rw [e,h] at this;cases this
theorem els_keep {α:Type} {E:Enc α} {w w':World} {p:Option Addr} {L:List α} (h:∀ (i:Nat) (x:α),L[i]?=some x→∃ b o,p=some ⟨b,o,none⟩∧ElAt E w b (o+i * E.k) x) (hb:Below w.heap.size w w'):∀ (i:Nat) (x:α),L[i]?=some x→∃ b o,p=some ⟨b,o,none⟩∧ElAt E w' b (o+i * E.k) x:=fun i x hx=>by
 obtain ⟨b,o,e,hat⟩:=h i x hx
 exact ⟨b,o,e,hat.keep hb hat.lt⟩
set_option maxRecDepth 100000 in
set_option maxHeartbeats 8000000 in
theorem rcadd_any (v:Value) (L:List Acct) (x:Acct) (w:World) (h:ElsV encA w v L) (hL:L.length≤1000) :
 Calls Tryz.prog 75 #[v,aggF x] w (ListTold encA w v (G.insR Acct.code L x) (addE L x)):=by
 have hB0:=(Below.refl w.heap.size w).alloc (Nat.le_refl _) (.cells (encA.cs x).toArray 157)
 have HX:=Lib.hid (BoxE.new encA w x 157)
 have HV:=Lib.hid (h.keep hB0)
 have HB:=Lib.hid hB0
 have HF:=Lib.hid (rcfind_any v L x.code (w.alloc (.cells (encA.cs x).toArray 157)) (chart_els.2 HV.out))
 obtain ⟨p,c,e,hcap,hm,_,hc⟩:=HV.out
 subst e
 obtain ⟨n,hn⟩:∃ n,L.length=n:=⟨_,rfl⟩
 rw [hn] at hcap hL HV HF ⊢
 obtain ⟨FA,hFA⟩:∃ FA,findV (findL L x.code)=FA:=⟨_,rfl⟩
 obtain ⟨IS,hIS⟩:∃ IS,(findL L x.code).isSome=IS:=⟨_,rfl⟩
 rw [hFA,hIS] at HF
 obtain ⟨RT,hRT⟩:∃ RT,rightA x=RT:=⟨_,rfl⟩
 have HRI:=Lib.hid (rright_any x)
 rw [hRT] at HRI
 obtain ⟨N,hN⟩:∃ N,addE L x=N:=⟨_,rfl⟩
 rw [hN]
 have HNE:Hid (N=if RT=false then 1 else if IS=true then 7 else if 60≤n then 4 else 0):=Lib.hid (by rw [←hN,←hRT,←hIS,←hn];rfl)
 have HI:=Lib.hid info_racct
 have HN:=Lib.hid hn
 have HISV:=Lib.hid hIS
 unfold maxLen at hm
 obtain ⟨q0,q1,q2,q3,q4,q5⟩:=acct6 HX.out.at0
 have HC0:=Lib.hid hc
 clear h hB0 hn hFA hIS hRT hN hc
 go_enter Tryz.func75,Tryz.ntmps75
 go_wp2_with fail
 refine HF.out.mono ?_
 rintro en w1 ⟨rfl,hb1⟩
 have HB1:=Lib.hid (HB.out.trans (hb1.mono HB.out.size))
 have HX1:=Lib.hid (HX.out.kept hb1)
 have HV1:=Lib.hid (HV.out.keep hb1)
 have HC1:=Lib.hid (els_keep HC0.out hb1)
 clear hb1 HF HB HX HV HC0 q0 q1 q2 q3 q4 q5
 have HBA:=Lib.hid ((Below.refl w1.heap.size w1).alloc (Nat.le_refl _) (.cells (encA.cs zeroA).toArray 157))
 go_wp2_with (refine wpList_store_acct rfl 157 (.tmp 6) (.tmp 16) rfl w1.heap.size zeroA FA 157 rfl rfl (BoxA.new w1 zeroA _) (by kernel_rfl) ?_;intro w2 hb2 hg2;have HG2:Hid (Below w1.heap.size w1 w2):=Lib.hid (HBA.out.grown hg2 HBA.out.size (fun j hj=>by cases hj;exact Nat.le_refl _));have HX2:=Lib.hid (HX1.out.kept HG2.out);obtain ⟨q0,q1,q2,q3,q4,q5⟩:=acct6 HX2.out.at0;clear hb2 hg2)
 refine (HRI.out _).mono ?_
 rintro en w3 ⟨rfl,hb3⟩
 have HB3:=Lib.hid ((HB1.out.trans (HG2.out.mono HB1.out.size)).trans (hb3.mono (Nat.le_trans HB1.out.size HG2.out.size)))
 have HX3:=Lib.hid (HX2.out.kept hb3)
 have HV3:=Lib.hid ((HV1.out.keep HG2.out).keep hb3)
 have HC3:=Lib.hid (els_keep (els_keep HC1.out HG2.out) hb3)
 clear hb3 HC1 HG2 HX2 HX1 HV1 HB1 HBA HRI q0 q1 q2 q3 q4 q5
 cases RT with
 | false =>
   have HRS:Hid (N=1):=Lib.hid (by rw [HNE.out,if_pos rfl])
   go_wp2
   go_ret2
   rw [HRS.out]
   exact ⟨_,rfl,fun _=>rfl,fun h=>absurd h (by decide),HB3.out⟩
 | true =>
   cases IS with
   | true =>
     have HRS:Hid (N=7):=Lib.hid (by rw [HNE.out,if_neg (by simp),if_pos rfl])
     go_wp2
     go_ret2
     rw [HRS.out]
     exact ⟨_,rfl,fun _=>rfl,fun h=>absurd h (by decide),HB3.out⟩
   | false =>
     by_cases h60:60≤n
     ·have HRS:Hid (N=4):=Lib.hid (by rw [HNE.out,if_neg (by simp),if_neg (by simp),if_pos h60])
      go_wp2
      go_ret2
      rw [HRS.out]
      exact ⟨_,rfl,fun _=>rfl,fun h=>absurd h (by decide),HB3.out⟩
     ·have HRS:Hid (N=0):=Lib.hid (by rw [HNE.out,if_neg (by simp),if_neg (by simp),if_neg h60])
      have HNO:=Lib.hid (none_all HISV.out)
      have HC:=HC3
      clear HISV HC3
      obtain ⟨W0,hW0⟩:∃ W0,w3=W0:=⟨_,rfl⟩
      subst hW0
      have HST:Hid (InsAt encA Acct.code 157 w3 w3 L x 0 (.slice none 0 0)):=Lib.hid ⟨World.ownsRow_nil _ _ _ _,Below.refl _ _,fun j y _ hy=>HNO.out j y hy⟩
      go_wp2
      go_loopw [8,9,10] (fun s6 s7 s8 wr=>∃ (i:Nat) (v6:Value),i≤n∧s8=.int .i64 (i:Int)∧v6=s6∧s7=.bool (G.doneR Acct.code (L.take i) x)∧Hid (InsAt encA Acct.code 157 w3 wr L x i v6)) (fun _ _ s8 _=>n - (intOf s8).toNat)
      case atStart=>exact ⟨0,_,Nat.zero_le _,rfl,rfl,rfl,HST⟩
      case round =>
       obtain ⟨i,v6,hi,rfl,rfl,rfl,HA⟩:=hrel
       by_cases hlt:i < n
       ·obtain ⟨y,hy⟩:∃ y,L[i]?=some y:=⟨_,List.getElem?_eq_getElem (by rw [HN.out];exact hlt)⟩
        obtain ⟨b,o,rfl,hat⟩:=HC.out i y hy
        obtain ⟨d0,d1,d2,d3,d4,d5⟩:=acct6 (hat.keep HA.out.bel hat.lt)
        obtain ⟨q0,q1,q2,q3,q4,q5⟩:=acct6 ((HX3.out.keep HA.out.bel HX3.out.lt).at0)
        have HY:=Lib.hid hy
        have HAT:=Lib.hid hat
        have HTK:Hid (L.take (i+1)=L.take i++[y]):=Lib.hid (by rw [List.take_succ_eq_append_getElem (by rw [HN.out];exact hlt),(List.getElem?_eq_some_iff.1 hy).2])
        obtain ⟨D,hD⟩:∃ D,G.doneR Acct.code (L.take i) x=D:=⟨_,rfl⟩
        have HD:=Lib.hid hD
        rw [hD]
        clear hy hat hD
        have HYE:=Lib.hid (HNO.out i y HY.out)
        cases D with
        | true =>
          go_wp2_with fail
          go_big_quiet (fail)
          have HA2:=Lib.hid (HA.out.drewN nq)
          clear d0 d1 d2 d3 d4 d5 q0 q1 q2 q3 q4 q5 HA
          generalize wr.drewN nq=w2 at *
          obtain ⟨d0,d1,d2,d3,d4,d5⟩:=acct6 (HAT.out.keep HA2.out.bel HAT.out.lt)
          obtain ⟨q0,q1,q2,q3,q4,q5⟩:=acct6 ((HX3.out.keep HA2.out.bel HX3.out.lt).at0)
          have HBN:=Lib.hid ((Below.refl w2.heap.size w2).alloc (Nat.le_refl _) (.cells (encA.cs y).toArray 157))
          go_wp2_with (at_builtin;refine wpList_append_el (E:=encA) rfl _ _ 31 157 rfl HI.out w3.heap.size _ y w2.heap.size (HA2.out.own.alloc _) rfl (el_new encA w2 y _) (by have:=HA2.out.bel.size;simp;omega) (mid_small HN.out hL) ?_;intro v9 w9 hr9 hb9 hg9)
          have HA9:Hid (InsAt encA Acct.code 157 w3 w9 L x (i+1) v9):=Lib.hid ⟨by rw [HTK.out,G.midR_there y HD.out];exact hr9,(HA2.out.bel.trans (HBN.out.mono HA2.out.bel.size)).trans hb9,no_snoc HA2.out.no HY.out HYE.out⟩
          have HD9:Hid (G.doneR Acct.code (L.take (i+1)) x=true):=Lib.hid (by rw [HTK.out,G.doneR_snoc,HD.out];first | rfl | (rw [HLT.out];rfl))
          clear hr9 hb9 hg9 d0 d1 d2 d3 d4 d5 q0 q1 q2 q3 q4 q5
          go_wp2
          go_roundw
          case rel=>exact ⟨i+1,_,by omega,by go_num,rfl,by rw [HD9.out],HA9⟩
          case measure=>simp [intOf];omega
        | false =>
          cases hlx:gtS y.code x.code with
          | true =>
            have HLT:Hid (G.KeyO.lt (Acct.code x) (Acct.code y)=true):=Lib.hid ((gtS_iff _ _).1 hlx)
            unfold gtS ltS at hlx
            simp only [Bool.not_eq_true',Bool.or_eq_false_iff] at hlx
            obtain ⟨g1,g2⟩:=hlx
            go_wp2_with fail
            go_big_quiet (fail)
            clear g1 g2
            have HA2:=Lib.hid (HA.out.drewN nq)
            clear d0 d1 d2 d3 d4 d5 q0 q1 q2 q3 q4 q5 HA
            generalize wr.drewN nq=w2 at *
            obtain ⟨d0,d1,d2,d3,d4,d5⟩:=acct6 (HAT.out.keep HA2.out.bel HAT.out.lt)
            obtain ⟨q0,q1,q2,q3,q4,q5⟩:=acct6 ((HX3.out.keep HA2.out.bel HX3.out.lt).at0)
            have HBN:=Lib.hid ((Below.refl w2.heap.size w2).alloc (Nat.le_refl _) (.cells (encA.cs x).toArray 157))
            go_wp2_with (at_builtin;first
             | (refine wpList_append_el (E:=encA) rfl _ _ 31 157 rfl HI.out w3.heap.size _ x w2.heap.size (HA2.out.own.alloc _) rfl (el_new encA w2 x _) (by have:=HA2.out.bel.size;simp;omega) (mid_small HN.out hL) ?_;intro v8 w8 hr8 hb8 hg8;have HB8:Hid (Below w3.heap.size w3 w8):=Lib.hid ((HA2.out.bel.trans (HBN.out.mono HA2.out.bel.size)).trans hb8);have HO8:=Lib.hid hr8;have HB9:=Lib.hid ((Below.refl w8.heap.size w8).alloc (Nat.le_refl _) (.cells (encA.cs y).toArray 157));clear d0 d1 d2 d3 d4 d5 q0 q1 q2 q3 q4 q5 hr8 hb8 hg8;obtain ⟨d0,d1,d2,d3,d4,d5⟩:=acct6 (HAT.out.keep HB8.out HAT.out.lt))
             | (refine wpList_append_el (E:=encA) rfl _ _ 31 157 rfl HI.out w3.heap.size _ y w8.heap.size (HO8.out.alloc _) rfl (el_new encA w8 y _) (by have:=HB8.out.size;simp;omega) (mid_small1 HN.out hL) ?_;intro v9 w9 hr9 hb9 hg9)
             | fail)
            have HA9:Hid (InsAt encA Acct.code 157 w3 w9 L x (i+1) v9):=Lib.hid ⟨by rw [HTK.out,G.midR_now HD.out HLT.out];exact hr9,(HB8.out.trans (HB9.out.mono HB8.out.size)).trans hb9,no_snoc HA2.out.no HY.out HYE.out⟩
            have HD9:Hid (G.doneR Acct.code (L.take (i+1)) x=true):=Lib.hid (by rw [HTK.out,G.doneR_snoc,HD.out,HLT.out];rfl)
            clear hr9 hb9 hg9 d0 d1 d2 d3 d4 d5
            go_wp2
            go_roundw
            case rel=>exact ⟨i+1,_,by omega,by go_num,rfl,by rw [HD9.out],HA9⟩
            case measure=>simp [intOf];omega
          | false =>
            have HLT:Hid (G.KeyO.lt (Acct.code x) (Acct.code y)=false):=Lib.hid (by
             cases hh:G.KeyO.lt (Acct.code x) (Acct.code y) with
             | false=>rfl
             | true=>rw [(gtS_iff y.code x.code).2 hh] at hlx;cases hlx)
            unfold gtS ltS at hlx
            simp only [Bool.not_eq_false'] at hlx
            go_wp2_with fail
            go_big_quiet (fail)
            clear hlx
            have HA2:=Lib.hid (HA.out.drewN nq)
            clear d0 d1 d2 d3 d4 d5 q0 q1 q2 q3 q4 q5 HA
            generalize wr.drewN nq=w2 at *
            obtain ⟨d0,d1,d2,d3,d4,d5⟩:=acct6 (HAT.out.keep HA2.out.bel HAT.out.lt)
            obtain ⟨q0,q1,q2,q3,q4,q5⟩:=acct6 ((HX3.out.keep HA2.out.bel HX3.out.lt).at0)
            have HBN:=Lib.hid ((Below.refl w2.heap.size w2).alloc (Nat.le_refl _) (.cells (encA.cs y).toArray 157))
            go_wp2_with (at_builtin;refine wpList_append_el (E:=encA) rfl _ _ 31 157 rfl HI.out w3.heap.size _ y w2.heap.size (HA2.out.own.alloc _) rfl (el_new encA w2 y _) (by have:=HA2.out.bel.size;simp;omega) (mid_small HN.out hL) ?_;intro v9 w9 hr9 hb9 hg9)
            have HA9:Hid (InsAt encA Acct.code 157 w3 w9 L x (i+1) v9):=Lib.hid ⟨by rw [HTK.out,G.midR_not HD.out HLT.out];exact hr9,(HA2.out.bel.trans (HBN.out.mono HA2.out.bel.size)).trans hb9,no_snoc HA2.out.no HY.out HYE.out⟩
            have HD9:Hid (G.doneR Acct.code (L.take (i+1)) x=false):=Lib.hid (by rw [HTK.out,G.doneR_snoc,HD.out];first | rfl | (rw [HLT.out];rfl))
            clear hr9 hb9 hg9 d0 d1 d2 d3 d4 d5 q0 q1 q2 q3 q4 q5
            go_wp2
            go_roundw
            case rel=>exact ⟨i+1,_,by omega,by go_num,rfl,by rw [HD9.out],HA9⟩
            case measure=>simp [intOf];omega
       ·have hTA:Hid (L.take i=L):=Lib.hid (List.take_of_length_le (by rw [HN.out];omega))
        rw [hTA.out]
        obtain ⟨D,hD⟩:∃ D,G.doneR Acct.code L x=D:=⟨_,rfl⟩
        have HD:=Lib.hid hD
        rw [hD]
        clear hD
        have HO:=Lib.hid HA.out.own
        rw [hTA.out] at HO
        cases D with
        | true =>
          go_wp2
          go_ret2
          rw [HRS.out]
          exact ⟨_,rfl,fun h=>absurd rfl h,fun _=>⟨_,by rw [←G.midR_end HD.out];exact row_base HO.out HB3.out.size⟩,HB3.out.trans (HA.out.bel.mono HB3.out.size)⟩
        | false =>
          obtain ⟨q0,q1,q2,q3,q4,q5⟩:=acct6 ((HX3.out.keep HA.out.bel HX3.out.lt).at0)
          have HBN:=Lib.hid ((Below.refl wr.heap.size wr).alloc (Nat.le_refl _) (.cells (encA.cs x).toArray 157))
          go_wp2_with (at_builtin;refine wpList_append_el (E:=encA) rfl _ _ 31 157 rfl HI.out w3.heap.size _ x wr.heap.size (HO.out.alloc _) rfl (el_new encA wr x _) (by have:=HA.out.bel.size;simp;omega) (mid_small0 HN.out hL) ?_;intro v9 w9 hr9 hb9 hg9)
          have HO9:=Lib.hid hr9
          have HB9:=Lib.hid ((HA.out.bel.trans (HBN.out.mono HA.out.bel.size)).trans hb9)
          clear hr9 hb9 hg9 q0 q1 q2 q3 q4 q5
          go_wp2
          go_ret2
          rw [HRS.out]
          exact ⟨_,rfl,fun h=>absurd rfl h,fun _=>⟨_,by rw [←G.midR_last HD.out];exact row_base HO9.out HB3.out.size⟩,HB3.out.trans (HB9.out.mono HB3.out.size)⟩
end Go.Proofs.YthcpglnmhimepaaGreatDoor.Un
end
section
namespace Go.Proofs.YthcpglnmhimepaaGreatDoor.Un
open Go.RowKit
theorem info_rflow:InfoE Tryz.prog 32 145 Fl.encF :=
 InfoE.of (z:=.agg #[.string ⟨#[]⟩,.int .i64 0]) (n:=24) Tryz.underlying32 (by kernel_rfl) (by kernel_rfl) (by decide)
theorem placeF_eq:∀ (L:List Fl.Flow) (c:ByteArray),placeK Fl.Flow.code L c=G.placeK Fl.Flow.code L c
 | [],_=>rfl
 | a::L,c=>by
   have ih:=placeF_eq L c
   simp only [placeK,G.placeK]
   rw [ih];rfl
theorem insF_eq (L:List Fl.Flow) (x:Fl.Flow):insK Fl.Flow.code L x=G.insK Fl.Flow.code L x:=by
 unfold insK G.insK
 rw [placeF_eq]
theorem findF_eq:∀ (L:List Fl.Flow) (c:ByteArray),findK Fl.Flow.code L c=G.findK Fl.Flow.code L c
 | [],_=>rfl
 | a::L,c=>by
   have ih:=findF_eq L c
   simp only [findK,G.findK]
   rw [ih]
theorem insF_eqR {L:List Fl.Flow} {x:Fl.Flow} (hr:riseK Fl.Flow.code L=true) (h:Fl.findF L x.code=none):insK Fl.Flow.code L x=G.insR Fl.Flow.code L x:=by
 rw [insF_eq,G.insR_eq (by rw [←riseF_eq];exact hr) (by rw [←findF_eq];exact h)]
theorem noneF_all {L:List Fl.Flow} {c:ByteArray} (h:(Fl.findF L c).isSome=false):∀ (j:Nat) (y:Fl.Flow),L[j]?=some y→y.code≠c:=fun j y hy e=>by
 cases hf:Fl.findF L c with
 | some z=>rw [hf] at h;cases h
 | none=>exact findK_no hf y (List.mem_of_getElem? hy) e
set_option maxRecDepth 100000 in
set_option maxHeartbeats 8000000 in
theorem rfadd_any (v:Value) (L:List Fl.Flow) (x:Fl.Flow) (w:World) (h:Fl.FlowsV w v L) (hr:riseK Fl.Flow.code L=true) (hL:L.length≤1000) :
 Calls Tryz.prog 77 #[v,Fl.aggL x] w (ListTold Fl.encF w v (G.insR Fl.Flow.code L x) (Fl.addE L x)):=by
 have hB0:=(Below.refl w.heap.size w).alloc (Nat.le_refl _) (.cells (Fl.encF.cs x).toArray 145)
 have HX:=Lib.hid (BoxE.new Fl.encF w x 145)
 have HV:=Lib.hid (h.keep hB0)
 have HB:=Lib.hid hB0
 have HF:=Lib.hid (rkind_any v L x.code (w.alloc (.cells (Fl.encF.cs x).toArray 145)) HV.out)
 have HOF:=Lib.hid (fun W (hW:Fl.FlowsV W v L)=>Fl.rof_any v L x.kind W hW hL)
 obtain ⟨p,c,e,hcap,hm,_,hc⟩:=HV.out
 subst e
 obtain ⟨n,hn⟩:∃ n,L.length=n:=⟨_,rfl⟩
 rw [hn] at hcap hL HV HF HOF ⊢
 obtain ⟨FA,hFA⟩:∃ FA,kindO' (Fl.findF L x.code)=FA:=⟨_,rfl⟩
 obtain ⟨IS,hIS⟩:∃ IS,(Fl.findF L x.code).isSome=IS:=⟨_,rfl⟩
 rw [hFA,hIS] at HF
 obtain ⟨RT,hRT⟩:∃ RT,Fl.rightF x=RT:=⟨_,rfl⟩
 have HRI:=Lib.hid (Fl.rright_any x)
 rw [hRT] at HRI
 obtain ⟨OF,hOF⟩:∃ OF,Fl.ofF L x.kind=OF:=⟨_,rfl⟩
 rw [hOF] at HOF
 obtain ⟨m,hmm⟩:∃ m,OF.length=m:=⟨_,rfl⟩
 have hmb:m≤n:=by rw [←hmm,←hOF,←hn];exact Fl.ofF_len_le L _
 obtain ⟨N,hN⟩:∃ N,Fl.addE L x=N:=⟨_,rfl⟩
 rw [hN]
 have HNE:Hid (N=if RT=false then 1 else if (IS || (decide (x.kind≠1) && decide (0 < m)))=true then 7 else if 60≤n then 4 else 0):=Lib.hid (by
  rw [←hN,←hRT,←hIS,←hn,←hmm,←hOF,←(isK_find hr x.code).1];rfl)
 have HI:=Lib.hid info_rflow
 have HN:=Lib.hid hn
 have HMM:=Lib.hid hmm
 have HISV:=Lib.hid hIS
 unfold maxLen at hm
 obtain ⟨q0,q1⟩:=Fl.two HX.out.at0
 have HC0:=Lib.hid hc
 clear h hB0 hn hFA hIS hRT hN hc hmm hOF hr
 go_enter Tryz.func77,Tryz.ntmps77
 go_wp2_with fail
 refine HF.out.mono ?_
 rintro en w1 ⟨rfl,hb1⟩
 have HB1:=Lib.hid (HB.out.trans (hb1.mono HB.out.size))
 have HX1:=Lib.hid (HX.out.kept hb1)
 have HV1:=Lib.hid (HV.out.keep hb1)
 have HC1:=Lib.hid (els_keep HC0.out hb1)
 clear hb1 HF HB HX HV HC0 q0 q1
 obtain ⟨q0,q1⟩:=Fl.two HX1.out.at0
 go_wp2_with fail
 refine (HRI.out _).mono ?_
 rintro en w4 ⟨rfl,hb2⟩
 have HB2:=Lib.hid (HB1.out.trans (hb2.mono HB1.out.size))
 have HX2:=Lib.hid (HX1.out.kept hb2)
 have HV2:=Lib.hid (HV1.out.keep hb2)
 have HC2:=Lib.hid (els_keep HC1.out hb2)
 clear hb2 HX1 HV1 HB1 HC1 HRI q0 q1
 obtain ⟨q0,q1⟩:=Fl.two HX2.out.at0
 have hmz:(m:Int)≤1000:=by omega
 cases RT with
 | false =>
   have HRS:Hid (N=1):=Lib.hid (by rw [HNE.out,if_pos rfl])
   go_wp2
   go_ret2
   rw [HRS.out]
   exact ⟨_,rfl,fun _=>rfl,fun h=>absurd h (by decide),HB2.out⟩
 | true =>
   cases IS with
   | true =>
     have HRS:Hid (N=7):=Lib.hid (by rw [HNE.out];rfl)
     go_wp2
     go_ret2
     rw [HRS.out]
     exact ⟨_,rfl,fun _=>rfl,fun h=>absurd h (by decide),HB2.out⟩
   | false =>
     have HNO:=Lib.hid (noneF_all HISV.out)
     clear HISV
     by_cases hk:x.kind=1
     ·have hkz:(x.kind != 1)=false:=by simp [hk]
      have HKK:Hid (decide (x.kind≠1)=false):=Lib.hid (by simp [hk])
      clear hk
      have HX3:=HX2
      have HV3:=HV2
      have HB3:=HB2
      have HC:=HC2
      by_cases h60:60≤n
      ·have HRS:Hid (N=4):=Lib.hid (by rw [HNE.out];simp only [HKK.out,Bool.false_and,Bool.or_self,Bool.false_eq_true,Bool.true_eq_false,if_false];exact if_pos h60)
       go_wp2
       go_ret2
       rw [HRS.out]
       exact ⟨_,rfl,fun _=>rfl,fun h=>absurd h (by decide),HB3.out⟩
      ·have HRS:Hid (N=0):=Lib.hid (by rw [HNE.out];simp only [HKK.out,Bool.false_and,Bool.or_self,Bool.false_eq_true,Bool.true_eq_false,if_false];exact if_neg h60)
       have HST:Hid (InsAt Fl.encF Fl.Flow.code 145 w4 w4 L x 0 (.slice none 0 0)):=Lib.hid ⟨World.ownsRow_nil _ _ _ _,Below.refl _ _,fun j y _ hy=>HNO.out j y hy⟩
       go_wp2
       go_loopw [8,9,10] (fun s6 s7 s8 wr=>∃ (i:Nat) (v6:Value),i≤n∧s8=.int .i64 (i:Int)∧v6=s6∧s7=.bool (G.doneR Fl.Flow.code (L.take i) x)∧Hid (InsAt Fl.encF Fl.Flow.code 145 w4 wr L x i v6)) (fun _ _ s8 _=>n - (intOf s8).toNat)
       case atStart=>exact ⟨0,_,Nat.zero_le _,rfl,rfl,rfl,HST⟩
       case round =>
        obtain ⟨i,v6,hi,rfl,rfl,rfl,HA⟩:=hrel
        by_cases hlt:i < n
        ·obtain ⟨y,hy⟩:∃ y,L[i]?=some y:=⟨_,List.getElem?_eq_getElem (by rw [HN.out];exact hlt)⟩
         obtain ⟨b,o,rfl,hat⟩:=HC.out i y hy
         obtain ⟨d0,d1⟩:=Fl.two (hat.keep HA.out.bel hat.lt)
         obtain ⟨q0,q1⟩:=Fl.two ((HX3.out.keep HA.out.bel HX3.out.lt).at0)
         have HY:=Lib.hid hy
         have HAT:=Lib.hid hat
         have HTK:Hid (L.take (i+1)=L.take i++[y]):=Lib.hid (by rw [List.take_succ_eq_append_getElem (by rw [HN.out];exact hlt),(List.getElem?_eq_some_iff.1 hy).2])
         obtain ⟨D,hD⟩:∃ D,G.doneR Fl.Flow.code (L.take i) x=D:=⟨_,rfl⟩
         have HD:=Lib.hid hD
         rw [hD]
         clear hy hat hD
         have HYE:=Lib.hid (HNO.out i y HY.out)
         cases D with
         | true =>
           go_wp2_with fail
           go_big_quiet (fail)
           have HA2:=Lib.hid (HA.out.drewN nq)
           clear d0 d1 q0 q1 HA
           generalize wr.drewN nq=w2 at *
           obtain ⟨d0,d1⟩:=Fl.two (HAT.out.keep HA2.out.bel HAT.out.lt)
           obtain ⟨q0,q1⟩:=Fl.two ((HX3.out.keep HA2.out.bel HX3.out.lt).at0)
           have HBN:=Lib.hid ((Below.refl w2.heap.size w2).alloc (Nat.le_refl _) (.cells (Fl.encF.cs y).toArray 145))
           go_wp2_with (at_builtin;refine wpList_append_el (E:=Fl.encF) rfl _ _ 32 145 rfl HI.out w4.heap.size _ y w2.heap.size (HA2.out.own.alloc _) rfl (el_new Fl.encF w2 y _) (by have:=HA2.out.bel.size;simp;omega) (mid_small HN.out hL) ?_;intro v9 w9 hr9 hb9 hg9)
           have HA9:Hid (InsAt Fl.encF Fl.Flow.code 145 w4 w9 L x (i+1) v9):=Lib.hid ⟨by rw [HTK.out,G.midR_there y HD.out];exact hr9,(HA2.out.bel.trans (HBN.out.mono HA2.out.bel.size)).trans hb9,no_snoc HA2.out.no HY.out HYE.out⟩
           have HD9:Hid (G.doneR Fl.Flow.code (L.take (i+1)) x=true):=Lib.hid (by rw [HTK.out,G.doneR_snoc,HD.out];first | rfl | (rw [HLT.out];rfl))
           clear hr9 hb9 hg9 d0 d1 q0 q1
           go_wp2
           go_roundw
           case rel=>exact ⟨i+1,_,by omega,by go_num,rfl,by rw [HD9.out],HA9⟩
           case measure=>simp [intOf];omega
         | false =>
           cases hlx:gtS y.code x.code with
           | true =>
             have HLT:Hid (G.KeyO.lt (Fl.Flow.code x) (Fl.Flow.code y)=true):=Lib.hid ((gtS_iff _ _).1 hlx)
             unfold gtS ltS at hlx
             simp only [Bool.not_eq_true',Bool.or_eq_false_iff] at hlx
             obtain ⟨g1,g2⟩:=hlx
             go_wp2_with fail
             go_big_quiet (fail)
             clear g1 g2
             have HA2:=Lib.hid (HA.out.drewN nq)
             clear d0 d1 q0 q1 HA
             generalize wr.drewN nq=w2 at *
             obtain ⟨d0,d1⟩:=Fl.two (HAT.out.keep HA2.out.bel HAT.out.lt)
             obtain ⟨q0,q1⟩:=Fl.two ((HX3.out.keep HA2.out.bel HX3.out.lt).at0)
             have HBN:=Lib.hid ((Below.refl w2.heap.size w2).alloc (Nat.le_refl _) (.cells (Fl.encF.cs x).toArray 145))
             go_wp2_with (at_builtin;first
              | (refine wpList_append_el (E:=Fl.encF) rfl _ _ 32 145 rfl HI.out w4.heap.size _ x w2.heap.size (HA2.out.own.alloc _) rfl (el_new Fl.encF w2 x _) (by have:=HA2.out.bel.size;simp;omega) (mid_small HN.out hL) ?_;intro v8 w8 hr8 hb8 hg8;have HB8:Hid (Below w4.heap.size w4 w8):=Lib.hid ((HA2.out.bel.trans (HBN.out.mono HA2.out.bel.size)).trans hb8);have HO8:=Lib.hid hr8;have HB9:=Lib.hid ((Below.refl w8.heap.size w8).alloc (Nat.le_refl _) (.cells (Fl.encF.cs y).toArray 145));clear d0 d1 q0 q1 hr8 hb8 hg8;obtain ⟨d0,d1⟩:=Fl.two (HAT.out.keep HB8.out HAT.out.lt))
              | (refine wpList_append_el (E:=Fl.encF) rfl _ _ 32 145 rfl HI.out w4.heap.size _ y w8.heap.size (HO8.out.alloc _) rfl (el_new Fl.encF w8 y _) (by have:=HB8.out.size;simp;omega) (mid_small1 HN.out hL) ?_;intro v9 w9 hr9 hb9 hg9)
              | fail)
             have HA9:Hid (InsAt Fl.encF Fl.Flow.code 145 w4 w9 L x (i+1) v9):=Lib.hid ⟨by rw [HTK.out,G.midR_now HD.out HLT.out];exact hr9,(HB8.out.trans (HB9.out.mono HB8.out.size)).trans hb9,no_snoc HA2.out.no HY.out HYE.out⟩
             have HD9:Hid (G.doneR Fl.Flow.code (L.take (i+1)) x=true):=Lib.hid (by rw [HTK.out,G.doneR_snoc,HD.out,HLT.out];rfl)
             clear hr9 hb9 hg9 d0 d1
             go_wp2
             go_roundw
             case rel=>exact ⟨i+1,_,by omega,by go_num,rfl,by rw [HD9.out],HA9⟩
             case measure=>simp [intOf];omega
           | false =>
             have HLT:Hid (G.KeyO.lt (Fl.Flow.code x) (Fl.Flow.code y)=false):=Lib.hid (by
              cases hh:G.KeyO.lt (Fl.Flow.code x) (Fl.Flow.code y) with
              | false=>rfl
              | true=>rw [(gtS_iff y.code x.code).2 hh] at hlx;cases hlx)
             unfold gtS ltS at hlx
             simp only [Bool.not_eq_false'] at hlx
             go_wp2_with fail
             go_big_quiet (fail)
             clear hlx
             have HA2:=Lib.hid (HA.out.drewN nq)
             clear d0 d1 q0 q1 HA
             generalize wr.drewN nq=w2 at *
             obtain ⟨d0,d1⟩:=Fl.two (HAT.out.keep HA2.out.bel HAT.out.lt)
             obtain ⟨q0,q1⟩:=Fl.two ((HX3.out.keep HA2.out.bel HX3.out.lt).at0)
             have HBN:=Lib.hid ((Below.refl w2.heap.size w2).alloc (Nat.le_refl _) (.cells (Fl.encF.cs y).toArray 145))
             go_wp2_with (at_builtin;refine wpList_append_el (E:=Fl.encF) rfl _ _ 32 145 rfl HI.out w4.heap.size _ y w2.heap.size (HA2.out.own.alloc _) rfl (el_new Fl.encF w2 y _) (by have:=HA2.out.bel.size;simp;omega) (mid_small HN.out hL) ?_;intro v9 w9 hr9 hb9 hg9)
             have HA9:Hid (InsAt Fl.encF Fl.Flow.code 145 w4 w9 L x (i+1) v9):=Lib.hid ⟨by rw [HTK.out,G.midR_not HD.out HLT.out];exact hr9,(HA2.out.bel.trans (HBN.out.mono HA2.out.bel.size)).trans hb9,no_snoc HA2.out.no HY.out HYE.out⟩
             have HD9:Hid (G.doneR Fl.Flow.code (L.take (i+1)) x=false):=Lib.hid (by rw [HTK.out,G.doneR_snoc,HD.out];first | rfl | (rw [HLT.out];rfl))
             clear hr9 hb9 hg9 d0 d1 q0 q1
             go_wp2
             go_roundw
             case rel=>exact ⟨i+1,_,by omega,by go_num,rfl,by rw [HD9.out],HA9⟩
             case measure=>simp [intOf];omega
        ·have hTA:Hid (L.take i=L):=Lib.hid (List.take_of_length_le (by rw [HN.out];omega))
         rw [hTA.out]
         obtain ⟨D,hD⟩:∃ D,G.doneR Fl.Flow.code L x=D:=⟨_,rfl⟩
         have HD:=Lib.hid hD
         rw [hD]
         clear hD
         have HO:=Lib.hid HA.out.own
         rw [hTA.out] at HO
         cases D with
         | true =>
           go_wp2
           go_ret2
           rw [HRS.out]
           exact ⟨_,rfl,fun h=>absurd rfl h,fun _=>⟨_,by rw [←G.midR_end HD.out];exact row_base HO.out HB3.out.size⟩,HB3.out.trans (HA.out.bel.mono HB3.out.size)⟩
         | false =>
           obtain ⟨q0,q1⟩:=Fl.two ((HX3.out.keep HA.out.bel HX3.out.lt).at0)
           have HBN:=Lib.hid ((Below.refl wr.heap.size wr).alloc (Nat.le_refl _) (.cells (Fl.encF.cs x).toArray 145))
           go_wp2_with (at_builtin;refine wpList_append_el (E:=Fl.encF) rfl _ _ 32 145 rfl HI.out w4.heap.size _ x wr.heap.size (HO.out.alloc _) rfl (el_new Fl.encF wr x _) (by have:=HA.out.bel.size;simp;omega) (mid_small0 HN.out hL) ?_;intro v9 w9 hr9 hb9 hg9)
           have HO9:=Lib.hid hr9
           have HB9:=Lib.hid ((HA.out.bel.trans (HBN.out.mono HA.out.bel.size)).trans hb9)
           clear hr9 hb9 hg9 q0 q1
           go_wp2
           go_ret2
           rw [HRS.out]
           exact ⟨_,rfl,fun h=>absurd rfl h,fun _=>⟨_,by rw [←G.midR_last HD.out];exact row_base HO9.out HB3.out.size⟩,HB3.out.trans (HB9.out.mono HB3.out.size)⟩
     ·have hkz:(x.kind != 1)=true:=by simp [hk]
      have HKK:Hid (decide (x.kind≠1)=true):=Lib.hid (by simp [hk])
      clear hk
      go_wp2_with fail
      refine (HOF.out _ HV2.out).mono ?_
      rintro en w3 ⟨v3,rfl,⟨p3,c3,rfl,_,hm3,_⟩,hb3⟩
      rw [HMM.out] at hm3 ⊢
      have HB3:=Lib.hid (HB2.out.trans (hb3.mono HB2.out.size))
      have HX3:=Lib.hid (HX2.out.kept hb3)
      have HV3:=Lib.hid (HV2.out.keep hb3)
      have HC:=Lib.hid (els_keep HC2.out hb3)
      clear hb3 HX2 HV2 HB2 HC2 HOF q0 q1
      by_cases hm0:0 < m
      ·have hmp:decide ((0:Int) < (m:Int))=true:=decide_eq_true (by omega)
       have hmq:decide (0 < m)=true:=decide_eq_true hm0
       have HRS:Hid (N=7):=Lib.hid (by rw [HNE.out,HKK.out,decide_eq_true hm0];rfl)
       go_wp2
       go_ret2
       rw [HRS.out]
       exact ⟨_,rfl,fun _=>rfl,fun h=>absurd h (by decide),HB3.out⟩
      ·have hmp:decide ((0:Int) < (m:Int))=false:=decide_eq_false (by omega)
       have hmq:decide (0 < m)=false:=decide_eq_false hm0
       have HMZ:Hid (decide (0 < m)=false):=Lib.hid (decide_eq_false hm0)
       clear hm0
       by_cases h60:60≤n
       ·have HRS:Hid (N=4):=Lib.hid (by rw [HNE.out];simp only [HKK.out,HMZ.out,Bool.and_false,Bool.or_self,Bool.false_eq_true,Bool.true_eq_false,if_false];exact if_pos h60)
        go_wp2
        go_ret2
        rw [HRS.out]
        exact ⟨_,rfl,fun _=>rfl,fun h=>absurd h (by decide),HB3.out⟩
       ·have HRS:Hid (N=0):=Lib.hid (by rw [HNE.out];simp only [HKK.out,HMZ.out,Bool.and_false,Bool.or_self,Bool.false_eq_true,Bool.true_eq_false,if_false];exact if_neg h60)
        have HST:Hid (InsAt Fl.encF Fl.Flow.code 145 w3 w3 L x 0 (.slice none 0 0)):=Lib.hid ⟨World.ownsRow_nil _ _ _ _,Below.refl _ _,fun j y _ hy=>HNO.out j y hy⟩
        go_wp2
        go_loopw [8,9,10] (fun s6 s7 s8 wr=>∃ (i:Nat) (v6:Value),i≤n∧s8=.int .i64 (i:Int)∧v6=s6∧s7=.bool (G.doneR Fl.Flow.code (L.take i) x)∧Hid (InsAt Fl.encF Fl.Flow.code 145 w3 wr L x i v6)) (fun _ _ s8 _=>n - (intOf s8).toNat)
        case atStart=>exact ⟨0,_,Nat.zero_le _,rfl,rfl,rfl,HST⟩
        case round =>
         obtain ⟨i,v6,hi,rfl,rfl,rfl,HA⟩:=hrel
         by_cases hlt:i < n
         ·obtain ⟨y,hy⟩:∃ y,L[i]?=some y:=⟨_,List.getElem?_eq_getElem (by rw [HN.out];exact hlt)⟩
          obtain ⟨b,o,rfl,hat⟩:=HC.out i y hy
          obtain ⟨d0,d1⟩:=Fl.two (hat.keep HA.out.bel hat.lt)
          obtain ⟨q0,q1⟩:=Fl.two ((HX3.out.keep HA.out.bel HX3.out.lt).at0)
          have HY:=Lib.hid hy
          have HAT:=Lib.hid hat
          have HTK:Hid (L.take (i+1)=L.take i++[y]):=Lib.hid (by rw [List.take_succ_eq_append_getElem (by rw [HN.out];exact hlt),(List.getElem?_eq_some_iff.1 hy).2])
          obtain ⟨D,hD⟩:∃ D,G.doneR Fl.Flow.code (L.take i) x=D:=⟨_,rfl⟩
          have HD:=Lib.hid hD
          rw [hD]
          clear hy hat hD
          have HYE:=Lib.hid (HNO.out i y HY.out)
          cases D with
          | true =>
            go_wp2_with fail
            go_big_quiet (fail)
            have HA2:=Lib.hid (HA.out.drewN nq)
            clear d0 d1 q0 q1 HA
            generalize wr.drewN nq=w2 at *
            obtain ⟨d0,d1⟩:=Fl.two (HAT.out.keep HA2.out.bel HAT.out.lt)
            obtain ⟨q0,q1⟩:=Fl.two ((HX3.out.keep HA2.out.bel HX3.out.lt).at0)
            have HBN:=Lib.hid ((Below.refl w2.heap.size w2).alloc (Nat.le_refl _) (.cells (Fl.encF.cs y).toArray 145))
            go_wp2_with (at_builtin;refine wpList_append_el (E:=Fl.encF) rfl _ _ 32 145 rfl HI.out w3.heap.size _ y w2.heap.size (HA2.out.own.alloc _) rfl (el_new Fl.encF w2 y _) (by have:=HA2.out.bel.size;simp;omega) (mid_small HN.out hL) ?_;intro v9 w9 hr9 hb9 hg9)
            have HA9:Hid (InsAt Fl.encF Fl.Flow.code 145 w3 w9 L x (i+1) v9):=Lib.hid ⟨by rw [HTK.out,G.midR_there y HD.out];exact hr9,(HA2.out.bel.trans (HBN.out.mono HA2.out.bel.size)).trans hb9,no_snoc HA2.out.no HY.out HYE.out⟩
            have HD9:Hid (G.doneR Fl.Flow.code (L.take (i+1)) x=true):=Lib.hid (by rw [HTK.out,G.doneR_snoc,HD.out];first | rfl | (rw [HLT.out];rfl))
            clear hr9 hb9 hg9 d0 d1 q0 q1
            go_wp2
            go_roundw
            case rel=>exact ⟨i+1,_,by omega,by go_num,rfl,by rw [HD9.out],HA9⟩
            case measure=>simp [intOf];omega
          | false =>
            cases hlx:gtS y.code x.code with
            | true =>
              have HLT:Hid (G.KeyO.lt (Fl.Flow.code x) (Fl.Flow.code y)=true):=Lib.hid ((gtS_iff _ _).1 hlx)
              unfold gtS ltS at hlx
              simp only [Bool.not_eq_true',Bool.or_eq_false_iff] at hlx
              obtain ⟨g1,g2⟩:=hlx
              go_wp2_with fail
              go_big_quiet (fail)
              clear g1 g2
              have HA2:=Lib.hid (HA.out.drewN nq)
              clear d0 d1 q0 q1 HA
              generalize wr.drewN nq=w2 at *
              obtain ⟨d0,d1⟩:=Fl.two (HAT.out.keep HA2.out.bel HAT.out.lt)
              obtain ⟨q0,q1⟩:=Fl.two ((HX3.out.keep HA2.out.bel HX3.out.lt).at0)
              have HBN:=Lib.hid ((Below.refl w2.heap.size w2).alloc (Nat.le_refl _) (.cells (Fl.encF.cs x).toArray 145))
              go_wp2_with (at_builtin;first
               | (refine wpList_append_el (E:=Fl.encF) rfl _ _ 32 145 rfl HI.out w3.heap.size _ x w2.heap.size (HA2.out.own.alloc _) rfl (el_new Fl.encF w2 x _) (by have:=HA2.out.bel.size;simp;omega) (mid_small HN.out hL) ?_;intro v8 w8 hr8 hb8 hg8;have HB8:Hid (Below w3.heap.size w3 w8):=Lib.hid ((HA2.out.bel.trans (HBN.out.mono HA2.out.bel.size)).trans hb8);have HO8:=Lib.hid hr8;have HB9:=Lib.hid ((Below.refl w8.heap.size w8).alloc (Nat.le_refl _) (.cells (Fl.encF.cs y).toArray 145));clear d0 d1 q0 q1 hr8 hb8 hg8;obtain ⟨d0,d1⟩:=Fl.two (HAT.out.keep HB8.out HAT.out.lt))
               | (refine wpList_append_el (E:=Fl.encF) rfl _ _ 32 145 rfl HI.out w3.heap.size _ y w8.heap.size (HO8.out.alloc _) rfl (el_new Fl.encF w8 y _) (by have:=HB8.out.size;simp;omega) (mid_small1 HN.out hL) ?_;intro v9 w9 hr9 hb9 hg9)
               | fail)
              have HA9:Hid (InsAt Fl.encF Fl.Flow.code 145 w3 w9 L x (i+1) v9):=Lib.hid ⟨by rw [HTK.out,G.midR_now HD.out HLT.out];exact hr9,(HB8.out.trans (HB9.out.mono HB8.out.size)).trans hb9,no_snoc HA2.out.no HY.out HYE.out⟩
              have HD9:Hid (G.doneR Fl.Flow.code (L.take (i+1)) x=true):=Lib.hid (by rw [HTK.out,G.doneR_snoc,HD.out,HLT.out];rfl)
              clear hr9 hb9 hg9 d0 d1
              go_wp2
              go_roundw
              case rel=>exact ⟨i+1,_,by omega,by go_num,rfl,by rw [HD9.out],HA9⟩
              case measure=>simp [intOf];omega
            | false =>
              have HLT:Hid (G.KeyO.lt (Fl.Flow.code x) (Fl.Flow.code y)=false):=Lib.hid (by
               cases hh:G.KeyO.lt (Fl.Flow.code x) (Fl.Flow.code y) with
               | false=>rfl
               | true=>rw [(gtS_iff y.code x.code).2 hh] at hlx;cases hlx)
              unfold gtS ltS at hlx
              simp only [Bool.not_eq_false'] at hlx
              go_wp2_with fail
              go_big_quiet (fail)
              clear hlx
              have HA2:=Lib.hid (HA.out.drewN nq)
              clear d0 d1 q0 q1 HA
              generalize wr.drewN nq=w2 at *
              obtain ⟨d0,d1⟩:=Fl.two (HAT.out.keep HA2.out.bel HAT.out.lt)
              obtain ⟨q0,q1⟩:=Fl.two ((HX3.out.keep HA2.out.bel HX3.out.lt).at0)
              have HBN:=Lib.hid ((Below.refl w2.heap.size w2).alloc (Nat.le_refl _) (.cells (Fl.encF.cs y).toArray 145))
              go_wp2_with (at_builtin;refine wpList_append_el (E:=Fl.encF) rfl _ _ 32 145 rfl HI.out w3.heap.size _ y w2.heap.size (HA2.out.own.alloc _) rfl (el_new Fl.encF w2 y _) (by have:=HA2.out.bel.size;simp;omega) (mid_small HN.out hL) ?_;intro v9 w9 hr9 hb9 hg9)
              have HA9:Hid (InsAt Fl.encF Fl.Flow.code 145 w3 w9 L x (i+1) v9):=Lib.hid ⟨by rw [HTK.out,G.midR_not HD.out HLT.out];exact hr9,(HA2.out.bel.trans (HBN.out.mono HA2.out.bel.size)).trans hb9,no_snoc HA2.out.no HY.out HYE.out⟩
              have HD9:Hid (G.doneR Fl.Flow.code (L.take (i+1)) x=false):=Lib.hid (by rw [HTK.out,G.doneR_snoc,HD.out];first | rfl | (rw [HLT.out];rfl))
              clear hr9 hb9 hg9 d0 d1 q0 q1
              go_wp2
              go_roundw
              case rel=>exact ⟨i+1,_,by omega,by go_num,rfl,by rw [HD9.out],HA9⟩
              case measure=>simp [intOf];omega
         ·have hTA:Hid (L.take i=L):=Lib.hid (List.take_of_length_le (by rw [HN.out];omega))
          rw [hTA.out]
          obtain ⟨D,hD⟩:∃ D,G.doneR Fl.Flow.code L x=D:=⟨_,rfl⟩
          have HD:=Lib.hid hD
          rw [hD]
          clear hD
          have HO:=Lib.hid HA.out.own
          rw [hTA.out] at HO
          cases D with
          | true =>
            go_wp2
            go_ret2
            rw [HRS.out]
            exact ⟨_,rfl,fun h=>absurd rfl h,fun _=>⟨_,by rw [←G.midR_end HD.out];exact row_base HO.out HB3.out.size⟩,HB3.out.trans (HA.out.bel.mono HB3.out.size)⟩
          | false =>
            obtain ⟨q0,q1⟩:=Fl.two ((HX3.out.keep HA.out.bel HX3.out.lt).at0)
            have HBN:=Lib.hid ((Below.refl wr.heap.size wr).alloc (Nat.le_refl _) (.cells (Fl.encF.cs x).toArray 145))
            go_wp2_with (at_builtin;refine wpList_append_el (E:=Fl.encF) rfl _ _ 32 145 rfl HI.out w3.heap.size _ x wr.heap.size (HO.out.alloc _) rfl (el_new Fl.encF wr x _) (by have:=HA.out.bel.size;simp;omega) (mid_small0 HN.out hL) ?_;intro v9 w9 hr9 hb9 hg9)
            have HO9:=Lib.hid hr9
            have HB9:=Lib.hid ((HA.out.bel.trans (HBN.out.mono HA.out.bel.size)).trans hb9)
            clear hr9 hb9 hg9 q0 q1
            go_wp2
            go_ret2
            rw [HRS.out]
            exact ⟨_,rfl,fun h=>absurd rfl h,fun _=>⟨_,by rw [←G.midR_last HD.out];exact row_base HO9.out HB3.out.size⟩,HB3.out.trans (HB9.out.mono HB3.out.size)⟩
end Go.Proofs.YthcpglnmhimepaaGreatDoor.Un
end
section
namespace Go.Proofs.YthcpglnmhimepaaGreatDoor.Fl
open Go.RowKit
theorem parse_is {f:Flow} {ws:List ByteArray} (hr:rightF f=true) (h:wordsF f=ws):parseF ws=(f,0):=by rw [←h];exact parse_words hr
theorem parse_no {x c y:ByteArray} (h:∀ k:Nat,k < 5→¬ (rightF ⟨c,(k:Int)⟩=true∧wordsF ⟨c,(k:Int)⟩=[x,c,y])):parseF [x,c,y]=(zeroF,5):=by
 rcases parse_err [x,c,y] with h' | ⟨h1,h2,_⟩
 ·exact h'
 ·exfalso
  have hk:=(right_parts h2).2
  obtain ⟨f,hf⟩:∃ f,(parseF [x,c,y]).1=f:=⟨_,rfl⟩
  rw [hf] at h1 h2 hk
  have hc:f.code=c:=by
   rw [words_of h2] at h1
   simp only [List.cons.injEq] at h1
   exact h1.2.1
  obtain ⟨co,k⟩:=f
  simp only at hc hk
  subst hc
  refine h k.toNat (by omega) ?_
  rw [show ((k.toNat:Nat):Int)=k by omega]
  exact ⟨h2,h1⟩
set_option maxRecDepth 100000 in
set_option maxHeartbeats 8000000 in
theorem rparse_any (v:Value) (ws:List ByteArray) (w:World) (h:StrsV w v ws) :
 Calls Tryz.prog 76 #[v] w fun e w'=>e=.returned (.tuple #[aggL (parseF ws).1,.int .i64 (parseF ws).2])∧Below w.heap.size w w':=by
 have HV:=Lib.hid h
 obtain ⟨p,c,rfl,hcap,hm,hc⟩:=h
 have HB0:=Lib.hid ((Below.refl w.heap.size w).alloc (Nat.le_refl _) (.cells zc 145))
 have HX0:=Lib.hid (BoxE.new encF w zeroF 145)
 by_cases h3:ws.length=3
 ·match ws,h3 with
  | [x0,x1,x2],_ =>
    obtain ⟨b,o,e',k1⟩:=hc 1 x1 rfl
    cases e'
    have HK1:=Lib.hid k1
    obtain ⟨R,hR⟩:∃ R,parseF [x0,x1,x2]=R:=⟨_,rfl⟩
    rw [hR]
    have HR:=Lib.hid hR
    have HV0:Hid (StrsV w (.slice (some ⟨b,o,none⟩) 3 c) [x0,x1,x2]):=HV
    clear hc k1 hm hcap HV hR
    show Calls _ _ #[.slice (some ⟨b,o,none⟩) 3 c] _ _
    go_enter Tryz.func76,Tryz.ntmps76
    go_wp2
    go_loopw [4] (fun s4 wr=>∃ k:Nat,k≤5∧s4=.int .i64 (k:Int)∧Below w.heap.size w wr∧BoxE encF wr w.heap.size 145 zeroF∧Hid (∀ j:Nat,j < k→¬ (rightF ⟨x1,(j:Int)⟩=true∧wordsF ⟨x1,(j:Int)⟩=[x0,x1,x2]))) (fun s4 _=>5 - (intOf s4).toNat)
    case atStart=>exact ⟨0,by omega,rfl,HB0.out,HX0.out,Lib.hid fun j hj=>absurd hj (Nat.not_lt_zero _)⟩
    case round =>
     obtain ⟨k,hk5,rfl,hnx,hbx,HNO⟩:=hrel
     have HNX:=Lib.hid hnx
     have HBX:=Lib.hid hbx
     have HS:Hid (w.heap.size < wr.heap.size):=Lib.hid hbx.lt
     clear hnx hbx
     by_cases hlt:k < 5
     ·have c1:=cell_on HNX.out HK1.out
      obtain ⟨f,hf⟩:∃ f:Flow,(⟨x1,(k:Int)⟩:Flow)=f:=⟨_,rfl⟩
      have hba:=(Below.refl wr.heap.size wr).alloc (Nat.le_refl _) (.cells #[.string x1,.int .i64 (k:Int)] 145)
      have HNA:=Lib.hid (HNX.out.trans (hba.mono HNX.out.size))
      have HBA:=Lib.hid (HBX.out.kept hba)
      have HFA:=Lib.hid (BoxE.new encF wr ⟨x1,(k:Int)⟩ 145)
      obtain ⟨r,hr⟩:∃ r,rightF ⟨x1,(k:Int)⟩=r:=⟨_,rfl⟩
      have HRR:=Lib.hid (rright_any ⟨x1,(k:Int)⟩)
      rw [hr] at HRR
      have HRV:=Lib.hid hr
      clear hr hba hf
      go_wp2_with fail
      clear c1
      refine (HRR.out _).mono ?_
      rintro e w2 ⟨rfl,hb2⟩
      have HN2:=Lib.hid (HNA.out.trans (hb2.mono HNA.out.size))
      have HB2:=Lib.hid (HBA.out.kept hb2)
      have HF2:=Lib.hid (HFA.out.kept hb2)
      clear hb2 HNA HBA HFA
      cases r with
      | false =>
        go_wp2
        go_roundw
        case rel=>exact ⟨k+1,by omega,by go_num,HN2.out,HB2.out,Lib.hid fun j hj hh=>by
         rcases Nat.lt_or_ge j k with h | h
         ·exact HNO.out j h hh
         ·obtain rfl:j=k:=by omega
          rw [HRV.out] at hh;cases hh.1⟩
        case measure=>simp [intOf];omega
      | true =>
        obtain ⟨d0,d1⟩:=box HF2.out
        simp only at d0 d1
        go_wp2_with fail
        clear d0 d1
        refine (rwords_any ⟨x1,(k:Int)⟩ w2).mono ?_
        rintro e w3 ⟨v3,rfl,hs3,hb3⟩
        have HN3:=Lib.hid (HN2.out.trans (hb3.mono HN2.out.size))
        have HB3:=Lib.hid (HB2.out.kept hb3)
        have HF3:=Lib.hid (HF2.out.kept hb3)
        have HS3:=Lib.hid hs3
        have HV3:=Lib.hid (HV0.out.keep HN3.out)
        clear hb3 hs3 HN2 HB2 HF2
        go_wp2_with fail
        refine (sameWords_any _ _ _ _ _ HS3.out HV3.out).mono ?_
        rintro e w4 ⟨rfl,q,hq⟩
        have HN4:Hid (Below w.heap.size w w4):=Lib.hid (by rw [hq];exact below_drewN' HN3.out q)
        have HB4:Hid (BoxE encF w4 w.heap.size 145 zeroF):=Lib.hid (by rw [hq];exact HB3.out)
        have HF4:Hid (BoxE encF w4 wr.heap.size 145 ⟨x1,(k:Int)⟩):=Lib.hid (by rw [hq];exact HF3.out)
        clear hq
        by_cases hw:wordsF ⟨x1,(k:Int)⟩=[x0,x1,x2]
        ·have hsm:Hid (sameW (wordsF ⟨x1,(k:Int)⟩) [x0,x1,x2]=true):=Lib.hid (decide_eq_true hw)
         have hRR:Hid (R=(⟨x1,(k:Int)⟩,0)):=Lib.hid (by rw [←HR.out];exact parse_is HRV.out hw)
         rw [hsm.out]
         clear hw
         obtain ⟨d0,d1⟩:=box HF4.out
         simp only at d0 d1
         go_wp2_with (refine wpList_store_el (E:=encF) rfl 145 (.tmp 2) (.tmp 28) rfl w.heap.size zeroF ⟨x1,(k:Int)⟩ 145 rfl rfl HB4.out (by kernel_rfl) ?_;intro w8 hb8 hg8)
         have HF:=Lib.hid (HN4.out.grown hg8 HN4.out.size (fun j hj=>by cases hj;exact Nat.le_refl _))
         obtain ⟨t0,t1⟩:=box hb8
         simp only at t0 t1
         clear hb8 hg8
         refine bodyPost_ret (v:=.tuple #[aggL ⟨x1,(k:Int)⟩,.int .i64 0]) (by simp [results,Tryz.results76,go_sem,t0,t1]) rfl ⟨by rw [hRR.out],HF.out⟩
        ·have hsm:Hid (sameW (wordsF ⟨x1,(k:Int)⟩) [x0,x1,x2]=false):=Lib.hid (decide_eq_false hw)
         have HNW:=Lib.hid hw
         rw [hsm.out]
         clear hw
         go_wp2
         go_roundw
         case rel=>exact ⟨k+1,by omega,by go_num,HN4.out,HB4.out,Lib.hid fun j hj hh=>by
          rcases Nat.lt_or_ge j k with h | h
          ·exact HNO.out j h hh
          ·obtain rfl:j=k:=by omega
           exact HNW.out hh.2⟩
         case measure=>simp [intOf];omega
     ·obtain rfl:k=5:=by omega
      have hRR:Hid (R=(zeroF,5)):=Lib.hid (by rw [←HR.out];exact parse_no HNO.out)
      clear hlt
      go_wp2_with (refine wpList_store_el (E:=encF) rfl 145 (.tmp 2) (.tmp 29) rfl w.heap.size zeroF zeroF 145 rfl rfl HBX.out (by kernel_rfl) ?_;intro w8 hb8 hg8)
      have HF:=Lib.hid (HNX.out.grown hg8 HNX.out.size (fun j hj=>by cases hj;exact Nat.le_refl _))
      obtain ⟨t0,t1⟩:=box hb8
      clear hb8 hg8
      refine bodyPost_ret (v:=.tuple #[aggL zeroF,.int .i64 5]) (by simp [results,Tryz.results76,go_sem,t0,t1]) rfl ⟨by rw [hRR.out],HF.out⟩
 ·have HP:=Lib.hid (parse_len h3)
  rw [HP.out]
  obtain ⟨n,hn⟩:∃ n,ws.length=n:=⟨_,rfl⟩
  rw [hn] at h3 hcap hm ⊢
  unfold maxLen at hm
  have hnz:((n:Int)==3)=false:=by simp;omega
  clear hc hn h3 HV
  go_enter Tryz.func76,Tryz.ntmps76
  go_wp2
  refine wp_loop_rounds 1 ?_
  rw [rounds_succ]
  go_wp2
  refine bodyPost_ret (v:=.tuple #[aggL zeroF,.int .i64 5]) (by simp [results,Tryz.results76,go_sem,zeroF]) rfl ⟨rfl,HB0.out⟩
end Go.Proofs.YthcpglnmhimepaaGreatDoor.Fl
end
section
namespace Go.Proofs.YthcpglnmhimepaaGreatDoor.Cs
open Go.RowKit Go.Proofs.YthcpglnmhimepaaGreatDoor.Un Go.Proofs.YthcpglnmhimepaaGreatDoor.Pk
abbrev xEUR:ByteArray:=⟨#[69,85,82]⟩
def r1110:ByteArray:=⟨#[49,49,47,49,48]⟩
def r2:ByteArray:=⟨#[50]⟩
def r3:ByteArray:=⟨#[51]⟩
def l14:List (List ByteArray):=[[tClose,xEUR,r1110],[tFlow,xF1,xEUR,r2],[tAverage,xEUR,r3]]
def t14:ByteArray:=⟨#[99,108,111,115,101,32,69,85,82,32,49,49,47,49,48,10,102,108,111,119,32,70,49,32,69,85,82,32,50,10,97,118,101,114,97,103,101,32,69,85,82,32,51,10]⟩
def u14:ByteArray:=⟨#[99,108,111,115,101,32,85,83,68,32,50,10]⟩
def p14:ByteArray:=⟨#[97,118,101,114,97,103,101,32,69,85,82,32,51,10,99,108,111,115,101,32,69,85,82,32,49,49,47,49,48,10,102,108,111,119,32,70,49,32,69,85,82,32,50,10]⟩
def c14:List Crs:=[⟨tAverage,emp,xEUR,3,1⟩,⟨tClose,emp,xEUR,11,10⟩,⟨tFlow,xF1,xEUR,2,1⟩]
theorem print14:printC c14=p14:=by kernel_rfl
theorem f14:prsE r1110.data.toList=0∧prsN r1110.data.toList=11∧prsD r1110.data.toList=10:=by
 have h:=prs_prt (n:=11) (d:=10) (by decide)
 rw [show prt 11 10=r1110.data.toList by decide +kernel] at h
 exact h
theorem g14:prsE r2.data.toList=0∧prsN r2.data.toList=2∧prsD r2.data.toList=1:=by
 have h:=prs_prt (n:=2) (d:=1) (by decide)
 rw [show prt 2 1=r2.data.toList by decide +kernel] at h
 exact h
theorem h14:prsE r3.data.toList=0∧prsN r3.data.toList=3∧prsD r3.data.toList=1:=by
 have h:=prs_prt (n:=3) (d:=1) (by decide)
 rw [show prt 3 1=r3.data.toList by decide +kernel] at h
 exact h
theorem v14a:readV [tClose,xEUR,r1110]=⟨tClose,emp,xEUR,11,10⟩:=by
 show (⟨tClose,if tClose=tFlow then xEUR else emp,xEUR,prsN r1110.data.toList,prsD r1110.data.toList⟩:Crs)=_
 rw [f14.2.1,f14.2.2,if_neg (by decide)]
theorem v14b:readV [tFlow,xF1,xEUR,r2]=⟨tFlow,xF1,xEUR,2,1⟩:=by
 show (⟨tFlow,if tFlow=tFlow then xF1 else emp,xEUR,prsN r2.data.toList,prsD r2.data.toList⟩:Crs)=_
 rw [g14.2.1,g14.2.2,if_pos rfl]
theorem v14c:readV [tAverage,xEUR,r3]=⟨tAverage,emp,xEUR,3,1⟩:=by
 show (⟨tAverage,if tAverage=tFlow then xEUR else emp,xEUR,prsN r3.data.toList,prsD r3.data.toList⟩:Crs)=_
 rw [h14.2.1,h14.2.2,if_neg (by decide)]
theorem v14d:readV [tClose,xU,r2]=⟨tClose,emp,xU,2,1⟩:=by
 show (⟨tClose,if tClose=tFlow then xU else emp,xU,prsN r2.data.toList,prsD r2.data.toList⟩:Crs)=_
 rw [g14.2.1,g14.2.2,if_neg (by decide)]
section
variable {M:Mast} (h:SmallM false M)
include h
theorem k14:hasFl M xF1=true∧kindF M xF1=1:=by
 unfold hasFl kindF
 rw [h.f1]
 exact ⟨rfl,rfl⟩
theorem parse14:parseC M t14=(c14,0):=by
 rw [show t14=mkB (textW l14) by kernel_rfl,parse_text (rightW_of (by kernel_rfl)) (by decide)]
 have hne:(xEUR:ByteArray)≠M.cur:=by rw [h.cur];decide
 unfold l14
 have s1:stepE M [] [tClose,xEUR,r1110]=0:=step_zero.2 ⟨⟨by kernel_rfl,f14.1,by rw [v14a];rfl,by rw [v14a];exact hne⟩,rfl,by decide⟩
 rw [runC_cons _ s1,v14a]
 have s2:stepE M (G.insK Crs.key [] ⟨tClose,emp,xEUR,11,10⟩) [tFlow,xF1,xEUR,r2]=0:=step_zero.2 ⟨⟨by kernel_rfl,g14.1,by
  rw [v14b]
  unfold flowE
  rw [if_pos rfl,(k14 h).1,(k14 h).2]
  rfl,by rw [v14b];exact hne⟩,by rw [v14b];kernel_rfl,by rw [G.insK_length];decide⟩
 rw [runC_cons _ s2,v14b]
 have s3:stepE M (G.insK Crs.key (G.insK Crs.key [] ⟨tClose,emp,xEUR,11,10⟩) ⟨tFlow,xF1,xEUR,2,1⟩) [tAverage,xEUR,r3]=0:=step_zero.2 ⟨⟨by kernel_rfl,h14.1,by rw [v14c];rfl,by rw [v14c];exact hne⟩,by rw [v14c];kernel_rfl,by rw [G.insK_length,G.insK_length];decide⟩
 rw [runC_cons _ s3,v14c]
 show (G.insK Crs.key (G.insK Crs.key (G.insK Crs.key [] _) _) _,(0:Int))=(c14,0)
 rw [show G.insK Crs.key (G.insK Crs.key (G.insK Crs.key [] (⟨tClose,emp,xEUR,11,10⟩:Crs)) ⟨tFlow,xF1,xEUR,2,1⟩) ⟨tAverage,emp,xEUR,3,1⟩=c14 by kernel_rfl]
theorem group14:parseC M u14=([],1):=by
 rw [show u14=mkB (textW [[tClose,xU,r2]]) by kernel_rfl,parse_text (rightW_of (by kernel_rfl)) (by decide)]
 have s1:stepE M [] [tClose,xU,r2]=1:=by
  have hr:readE [tClose,xU,r2]=0:=by
   unfold readE
   rw [if_pos (by kernel_rfl)]
   exact g14.1
  unfold stepE
  rw [if_pos hr,v14d]
  unfold rightE
  rw [if_neg (by unfold flowE;rw [if_neg (by decide)];simp),if_pos h.cur.symm]
 rw [runC_stop _ (by rw [s1];decide),s1]
theorem of14z:ofC M c14 xEUR xFz=((11,10),0):=by
 unfold ofC
 have e1:hasFl M xFz=true:=by unfold hasFl;rw [h.fz];rfl
 have e2:kindF M xFz=4:=by unfold kindF;rw [h.fz];rfl
 rw [e1,e2,h.cur,if_neg (by decide),if_neg (by decide),if_neg (by decide)]
 have q1:rateO c14 (tFlow,xFz,xEUR)=none:=by kernel_rfl
 have q2:rateO c14 (sortK 4,emp,xEUR)=some (11,10):=by kernel_rfl
 rw [q1,q2]
theorem of14u:ofC M c14 xU xFz=((1,1),0):=by
 unfold ofC
 have e1:hasFl M xFz=true:=by unfold hasFl;rw [h.fz];rfl
 have e2:kindF M xFz=4:=by unfold kindF;rw [h.fz];rfl
 rw [e1,e2,h.cur,if_neg (by decide),if_neg (by decide),if_pos rfl]
theorem of14f:ofC M c14 xEUR xF1=((2,1),0):=by
 unfold ofC
 rw [(k14 h).1,(k14 h).2,h.cur,if_neg (by decide),if_neg (by decide),if_neg (by decide)]
 kernel_rfl
theorem of14o:ofC M c14 xEUR xF0=((0,0),10):=by
 unfold ofC
 have e1:hasFl M xF0=true:=by unfold hasFl;rw [h.f0];rfl
 have e2:kindF M xF0=0:=by unfold kindF;rw [h.f0];rfl
 rw [e1,e2,h.cur,if_neg (by decide),if_neg (by decide),if_neg (by decide)]
 have q1:rateO c14 (tFlow,xF0,xEUR)=none:=by kernel_rfl
 have q2:rateO c14 (sortK 0,emp,xEUR)=none:=by kernel_rfl
 rw [q1,q2]
end
end Go.Proofs.YthcpglnmhimepaaGreatDoor.Cs
end
