/- UnitRun UnitOk UnitOut UnitBackP WidePlain WideFacts CsPlain UnitHad UnitTurn CsLines CourseBack -/
import Derived.Test.YthcpglnmhimepaaGreatDoorS08
import Derived.Test.YthcpglnmhimepaaGreatDoorS47
import Derived.Test.YthcpglnmhimepaaGreatDoorS51
import Derived.Test.YthcpglnmhimepaaGreatDoorS52
section
namespace Go.Proofs.YthcpglnmhimepaaGreatDoor.Un
open Go.RowKit
theorem oneL_inj {x y:ByteArray} (h:oneL x=oneL y):x=y:=by
 unfold oneL at h
 split at h <;> split at h
 ·rename_i a b;rw [a,b]
 ·cases h
 ·cases h
 ·simpa using h
theorem oneL_len (x:ByteArray):(oneL x).length≤1:=by unfold oneL;split <;> simp
end Go.Proofs.YthcpglnmhimepaaGreatDoor.Un
end
section
namespace Go.Proofs.YthcpglnmhimepaaGreatDoor.Un
open Go.RowKit
theorem ones_perm {L M:List Fl.Flow} (h:L.Perm M) (ho:Fl.onesF L):Fl.onesF M:=fun k hk h1=>by
 have:=ho k hk h1
 rw [Fl.ofF_length] at this ⊢
 rw [←(h.filter _).length_eq];exact this
theorem Ok.perm {l k:List (List ByteArray)} (h:Ok l) (hp:l.Perm k):Ok k where
 good ws hw:=h.good ws (hp.mem_iff.2 hw)
 ac:=(((hp.filterMap acO).map _).nodup_iff).1 h.ac
 al:=by rw [←(hp.filterMap acO).length_eq];exact h.al
 fc:=(((hp.filterMap flO).map _).nodup_iff).1 h.fc
 fk:=ones_perm (hp.filterMap flO) h.fk
 fl:=by rw [←(hp.filterMap flO).length_eq];exact h.fl
 ec:=(((hp.filterMap enO).map _).nodup_iff).1 h.ec
 el:=by rw [←(hp.filterMap enO).length_eq];exact h.el
 lc:=(((hp.filterMap liO).map _).nodup_iff).1 h.lc
 ll:=by rw [←(hp.filterMap liO).length_eq];exact h.ll
 on t ht:=by rw [←(hp.filterMap (onO t)).length_eq];exact h.on t ht
theorem Inv.ok {l:List (List ByteArray)} {M:Mast} (h:Inv l M):Ok l where
 good:=h.good
 ac:=((h.chart.map _).nodup_iff).1 (G.rise_nodup (by rw [←riseL_eq];exact h.sane.ch))
 al:=by rw [←h.chart.length_eq];exact h.sane.lc
 fc:=((h.flows.map _).nodup_iff).1 (G.rise_nodup (by rw [←riseF_eq];exact Fl.rise_codes h.sane.fl))
 fk:=ones_perm h.flows (Fl.rise_ones h.sane.fl)
 fl:=by rw [←h.flows.length_eq];exact h.sane.lf
 ec:=((h.ents.map _).nodup_iff).1 (G.rise_nodup h.sane.en)
 el:=by rw [←h.ents.length_eq];exact h.sane.le
 lc:=((h.lines.map _).nodup_iff).1 (G.rise_nodup h.sane.li)
 ll:=by rw [←h.lines.length_eq];exact h.sane.ll
 on t ht:=by
  simp only [ones,List.mem_cons,List.not_mem_nil,or_false] at ht
  rcases ht with rfl | rfl | rfl | rfl | rfl
  ·rw [h.cur];exact oneL_len _
  ·rw [h.res];exact oneL_len _
  ·rw [h.dif];exact oneL_len _
  ·rw [h.min];exact oneL_len _
  ·rw [h.stk];exact oneL_len _
theorem one_perm {A B:List ByteArray} (h:A.Perm B) (hA:A.length≤1):A=B:=by
 match A,hA with
 | [],_=>exact (List.nil_perm.1 h).symm
 | [x],_=>exact (List.singleton_perm.1 h).symm ▸ rfl
theorem Inv.uniq {l k:List (List ByteArray)} {M N:Mast} (h:Inv l M) (h':Inv k N) (hp:l.Perm k):M=N:=by
 have e1:M.chart=N.chart:=G.rise_perm (key:=Acct.code) (by rw [←riseL_eq];exact h.sane.ch) (by rw [←riseL_eq];exact h'.sane.ch) (h.chart.trans ((hp.filterMap acO).trans h'.chart.symm))
 have e2:M.flows=N.flows:=G.rise_perm (key:=Fl.Flow.code) (by rw [←riseF_eq];exact Fl.rise_codes h.sane.fl) (by rw [←riseF_eq];exact Fl.rise_codes h'.sane.fl) (h.flows.trans ((hp.filterMap flO).trans h'.flows.symm))
 have e3:M.ents=N.ents:=G.rise_perm h.sane.en h'.sane.en (h.ents.trans ((hp.filterMap enO).trans h'.ents.symm))
 have e4:M.lines=N.lines:=G.rise_perm h.sane.li h'.sane.li (h.lines.trans ((hp.filterMap liO).trans h'.lines.symm))
 have one:∀ t x y,l.filterMap (onO t)=oneL x→k.filterMap (onO t)=oneL y→x=y:=fun t x y hx hy=>by
  have:=hp.filterMap (onO t)
  rw [hx,hy] at this
  exact oneL_inj (one_perm this (oneL_len x))
 have f1:=one _ _ _ h.cur h'.cur
 have f2:=one _ _ _ h.res h'.res
 have f3:=one _ _ _ h.dif h'.dif
 have f4:=one _ _ _ h.min h'.min
 have f5:=one _ _ _ h.stk h'.stk
 cases M;cases N
 simp only at e1 e2 e3 e4 f1 f2 f3 f4 f5
 subst e1 e2 e3 e4 f1 f2 f3 f4 f5
 rfl
end Go.Proofs.YthcpglnmhimepaaGreatDoor.Un
end
section
namespace Go.Proofs.YthcpglnmhimepaaGreatDoor.Un
open Go.RowKit
def entW (x:Ent):List ByteArray:=[tEntity,x.code,x.cur]
def linW (x:Lin):List ByteArray:=[tMap,x.acc,x.flow,x.goal]
def roleW (x:Role):List ByteArray:=[x.head,x.code]
def outM (M:Mast):List (List ByteArray):=M.chart.map wordsA++M.flows.map Fl.wordsF++M.ents.map entW++M.lines.map linW++[[tGroup,M.cur]]++(rolesOf M).map roleW
end Go.Proofs.YthcpglnmhimepaaGreatDoor.Un
end
section
namespace Go.Proofs.YthcpglnmhimepaaGreatDoor.Un
open Go.RowKit
theorem perm_in {α:Type} {A A':List α} {x:α} (B:List α) (h:A'.Perm (x::A)):(A'++B).Perm (x::(A++B)):=by
 have:=h.append_right B
 rwa [List.cons_append] at this
theorem perm_out {α:Type} {B B':List α} {x:α} (A:List α) (h:B'.Perm (x::B)):(A++B').Perm (x::(A++B)) :=
 (h.append_left A).trans List.perm_middle
def outO (M:Mast):List (List ByteArray):=M.chart.map wordsA++(M.flows.map Fl.wordsF++(M.ents.map entW++(M.lines.map linW++((oneL M.cur).map (fun x=>[tGroup,x])++((oneL M.res).map (fun x=>[tReserve,x])++((oneL M.dif).map (fun x=>[tDiffer,x])++((oneL M.min).map (fun x=>[tMinor,x])++(oneL M.stk).map (fun x=>[tStake,x]))))))))
theorem outO_zero:outO zeroM=[]:=by
 unfold outO zeroM
 simp only [oneL_no,List.map_nil,List.append_nil]
theorem one_words {ws:List ByteArray} {t:ByteArray} (hf:formedW ws=true) (h:wd ws 0=t) (hE:t≠tEntity) (hM:t≠tMap):ws=[t,wd ws 1]∧wd ws 1≠emp:=by
 rcases formed_ways hf with ⟨h0,_⟩ | ⟨h0,_⟩ | ⟨_,a,h1,ha⟩
 ·exact absurd (h.symm.trans h0) hE
 ·exact absurd (h.symm.trans h0) hM
 ·refine ⟨?_,formed_one hf (by rw [h];exact hE) (by rw [h];exact hM)⟩
  rw [←h]
  conv=>lhs;rw [h1]
  rw [show wd ws 1=a by rw [h1];rfl]
theorem perm_one {x y t:ByteArray} {ws:List ByteArray} (hx:x=emp) (hw:ws=[t,y]∧y≠emp):((oneL y).map (fun z=>[t,z])).Perm (ws::(oneL x).map (fun z=>[t,z])):=by
 rw [hx,oneL_no,oneL_yes hw.2,hw.1];exact .refl _
theorem out_step {M:Mast} {ws:List ByteArray} (hs:stepE M ws=0):(outO (stepV M ws)).Perm (ws::outO M):=by
 rcases step_ways hs with ⟨w0,hp,ha,e⟩ | ⟨w0,hp,ha,e⟩ | ⟨hf,w0,ha,e⟩ | ⟨hf,w0,ha,e⟩ | ⟨hf,w0,ha,e⟩ | ⟨hf,w0,ha,e⟩ | ⟨hf,w0,ha,e⟩ | ⟨hf,w0,ha,e⟩ | ⟨hf,w0,ha,e⟩
 all_goals
  rw [e]
  unfold outO
 ·refine perm_in _ ?_
  have:=(insL_perm M.chart (parseA ws).1).map wordsA
  rwa [List.map_cons,(parse_ok hp).1] at this
 ·refine perm_out _ (perm_in _ ?_)
  have:=(insK_perm M.flows (Fl.parseF ws).1).map Fl.wordsF
  have hw:Fl.wordsF (Fl.parseF ws).1=ws:=by
   rcases Fl.parse_err ws with e | ⟨e,_⟩
   ·rw [e] at hp;simp at hp
   ·exact e
  rwa [List.map_cons,hw] at this
 ·refine perm_out _ (perm_out _ (perm_in _ ?_))
  have:=(G.ins_perm (key:=Ent.code) M.ents (entOf ws)).map entW
  have hw:entW (entOf ws)=ws:=by
   rcases formed_ways hf with ⟨_,a,b,h1,_⟩ | ⟨h0,_⟩ | ⟨h0,_⟩
   ·rw [h1];rfl
   ·exact absurd (w0.symm.trans h0) (by decide)
   ·rw [w0] at h0;exact absurd h0 (by decide)
  rwa [List.map_cons,hw] at this
 ·refine perm_out _ (perm_out _ (perm_out _ (perm_in _ ?_)))
  have:=(G.ins_perm (key:=Lin.key) M.lines (linOf ws)).map linW
  have hw:linW (linOf ws)=ws:=by
   rcases formed_ways hf with ⟨h0,_⟩ | ⟨_,a,b,c,h1,_⟩ | ⟨h0,_⟩
   ·exact absurd (w0.symm.trans h0) (by decide)
   ·rw [h1];rfl
   ·rw [w0] at h0;exact absurd h0 (by decide)
  rwa [List.map_cons,hw] at this
 ·exact perm_out _ (perm_out _ (perm_out _ (perm_out _ (perm_in _ (perm_one ha (one_words hf w0 (by decide) (by decide)))))))
 ·exact perm_out _ (perm_out _ (perm_out _ (perm_out _ (perm_out _ (perm_in _ (perm_one ha (one_words hf w0 (by decide) (by decide))))))))
 ·exact perm_out _ (perm_out _ (perm_out _ (perm_out _ (perm_out _ (perm_out _ (perm_in _ (perm_one ha (one_words hf w0 (by decide) (by decide)))))))))
 ·exact perm_out _ (perm_out _ (perm_out _ (perm_out _ (perm_out _ (perm_out _ (perm_out _ (perm_in _ (perm_one ha (one_words hf w0 (by decide) (by decide))))))))))
 ·exact perm_out _ (perm_out _ (perm_out _ (perm_out _ (perm_out _ (perm_out _ (perm_out _ (perm_out _ (perm_one ha (one_words hf w0 (by decide) (by decide))))))))))
theorem out_run {k:List (List ByteArray)} {M N:Mast} (hr:runM M k=(N,0)):(outO N).Perm (outO M++k):=by
 induction k generalizing M with
 | nil =>
   simp only [runM,Prod.mk.injEq] at hr
   rw [List.append_nil,←hr.1]
 | cons ws k ih =>
   by_cases hs:stepE M ws=0
   ·rw [runM_cons _ _ _ hs] at hr
    refine (ih hr).trans ?_
    refine ((out_step hs).append_right k).trans ?_
    rw [List.cons_append]
    exact List.perm_middle.symm
   ·rw [runM_stop _ _ _ hs] at hr
    simp only [Prod.mk.injEq] at hr
    exact absurd hr.2 hs
theorem roles_ne {l:List (List ByteArray)} {M:Mast} (h:Inv l M) (hr:rolesN M=true):M.res≠emp∧M.dif≠emp∧M.min≠emp∧M.stk≠emp:=by
 unfold rolesN at hr
 simp only [Bool.and_eq_true] at hr
 have hn:=h.no_emp
 refine ⟨fun e=>?_,fun e=>?_,fun e=>?_,fun e=>?_⟩
 ·have:=hr.1.1.1;rw [e,hn] at this;cases this
 ·have:=hr.1.1.2;rw [e,hn] at this;cases this
 ·have:=hr.1.2;rw [e,hn] at this;cases this
 ·have:=hr.2;rw [e,hn] at this;cases this
theorem out_all {l:List (List ByteArray)} {M:Mast} (h:Inv l M) (ha:allE M=0):outM M=outO M:=by
 obtain ⟨h1,h2,_⟩:=allE_parts ha
 obtain ⟨r1,r2,r3,r4⟩:=roles_ne h h2
 unfold outM outO
 rw [oneL_yes h1,oneL_yes r1,oneL_yes r2,oneL_yes r3,oneL_yes r4]
 simp only [rolesOf,List.map_cons,List.map_nil,roleW,List.append_assoc,List.cons_append,List.nil_append]
theorem order_lines {s:ByteArray} {M:Mast} (h:Inv (wordsT s) M) (ha:allE M=0) {l:List (List ByteArray)} (hp:(wordsT s).Perm l):linesM l=(M,0):=by
 obtain ⟨N,hN,hi⟩:=run_ok (h.ok.perm hp)
 have e:=h.uniq hi hp
 subst e
 unfold linesM
 rw [hN,endM_ok M ha]
theorem out_perm {s:ByteArray} {M:Mast} (hr:runM zeroM (wordsT s)=(M,0)) (ha:allE M=0):(wordsT s).Perm (outM M):=by
 have h:=run_zero_of hr
 rw [out_all h ha]
 have:=out_run hr
 rw [outO_zero,List.nil_append] at this
 exact this.symm
theorem szL_perm {l k:List (List ByteArray)} (h:l.Perm k):szL l=szL k:=by
 unfold szL
 exact (h.map szW).sum_nat
theorem print_back {s:ByteArray} {M:Mast} (hr:runM zeroM (wordsT s)=(M,0)) (ha:allE M=0) (hs:s.size≤4000):parseM (mkB (textW (outM M)))=(M,0):=by
 have hp:=out_perm hr ha
 have h1:=text_size s
 rw [parse_text (fun ws hw=>text_right s ws ((hp.mem_iff).2 hw)) (by rw [←szL_perm hp];omega)]
 exact order_lines (run_zero_of hr) ha hp
end Go.Proofs.YthcpglnmhimepaaGreatDoor.Un
end
section
namespace Go.Proofs.YthcpglnmhimepaaGreatDoor
def cmpV (a b c d:Int):Int:=if a * b < c * d then -1 else if c * d < a * b then 1 else 0
end Go.Proofs.YthcpglnmhimepaaGreatDoor
end
section
namespace Go.Proofs.YthcpglnmhimepaaGreatDoor
theorem order_back (a b c d:Int):cmpV a b c d=-cmpV c d a b:=by
 unfold cmpV
 rcases Int.lt_trichotomy (a * b) (c * d) with h | h | h
 ·rw [if_pos h,if_neg (by omega),if_pos h]
 ·rw [h];simp
 ·rw [if_neg (by omega),if_pos h,if_pos h];rfl
end Go.Proofs.YthcpglnmhimepaaGreatDoor
end
section
namespace Go.Proofs.YthcpglnmhimepaaGreatDoor.Cs
open Go.RowKit Go.Proofs.YthcpglnmhimepaaGreatDoor.Un Go.Proofs.YthcpglnmhimepaaGreatDoor.Pk
theorem Inv.nodup {M:Mast} {l:List (List ByteArray)} {L:List Crs} (h:Inv M l L):(l.map fun ws=>(readV ws).key).Nodup:=by
 have h1:=G.rise_nodup h.rise
 have h2:(L.map Crs.key).Perm ((l.map readV).map Crs.key):=h.perm.map _
 rw [List.map_map] at h2
 exact h2.nodup_iff.1 h1
theorem Inv.uniq {M:Mast} {l k:List (List ByteArray)} {L N:List Crs} (h:Inv M l L) (h':Inv M k N) (hp:(l.map readV).Perm (k.map readV)):L=N :=
 G.rise_perm h.rise h'.rise (h.perm.trans (hp.trans h'.perm.symm))
theorem run_perm {M:Mast} {l k:List (List ByteArray)} {L:List Crs} (h:runC M [] l=(L,0)) (hp:l.Perm k):runC M [] k=(L,0):=by
 have hi:=run_zero_of h
 obtain ⟨N,hN⟩:=run_of k (Inv.zero M) (fun ws hw=>hi.good ws (hp.mem_iff.2 hw)) (((hp.map _).nodup_iff).1 hi.nodup) (by rw [List.nil_append,←hp.length_eq,←hi.length];exact hi.len)
 rw [hN,hi.uniq (run_zero_of hN) (hp.map readV)]
theorem print_back {M:Mast} {s:ByteArray} {L:List Crs} (h:runC M [] (wordsT s)=(L,0)) (hs:s.size≤4000):parseC M (printC L)=(L,0):=by
 have hi:=run_zero_of h
 have h1:=text_size s
 have h2:=words_szL hi.good
 rw [←szL_perm' (hi.perm.map wordsX)] at h2
 unfold printC
 rw [parse_text (fun ws hw=>by obtain ⟨x,hx,rfl⟩:=List.mem_map.1 hw;exact words_right (hi.rightX x hx)) (by omega)]
 exact run_words hi
theorem order_back {M:Mast} {s:ByteArray} {L:List Crs} (h:runC M [] (wordsT s)=(L,0)) (hs:s.size≤4000) {k:List (List ByteArray)} (hp:(wordsT s).Perm k):parseC M (mkB (textW k))=(L,0):=by
 have h1:=text_size s
 rw [parse_text (fun ws hw=>text_right s ws (hp.mem_iff.2 hw)) (by rw [←szL_perm' hp];omega)]
 exact run_perm h hp
end Go.Proofs.YthcpglnmhimepaaGreatDoor.Cs
end
section
namespace Go.Proofs.YthcpglnmhimepaaGreatDoor.Un
open Go.RowKit
theorem HadAt.nil (W:World) (B Bw:Nat):HadAt W B Bw (.slice none 0 0) []:=⟨[],World.ownsRow_nil _ _ _ _,WordsOwn.nil _ _ _⟩
end Go.Proofs.YthcpglnmhimepaaGreatDoor.Un
end
section
namespace Go.Proofs.YthcpglnmhimepaaGreatDoor.Un
open Go.RowKit
theorem flatL_cons (x:Int × Value) (LV:List (Int × Value)):flatL (x::LV)=.int .i64 x.1::x.2::flatL LV:=rfl
theorem flatL_drop:∀ (LV:List (Int × Value)) (k:Nat),flatL (LV.drop k)=(flatL LV).drop (k * 2)
 | [],k=>by simp [flatL]
 | x::LV,0=>by simp
 | x::LV,k+1=>by
   rw [List.drop_succ_cons,flatL_drop LV k,flatL_cons,show (k+1) * 2=k * 2+1+1 by omega,List.drop_succ_cons,List.drop_succ_cons]
theorem flatL_take:∀ (LV:List (Int × Value)) (k:Nat),flatL (LV.take k)=(flatL LV).take (k * 2)
 | [],k=>by simp [flatL]
 | x::LV,0=>by simp [flatL]
 | x::LV,k+1=>by
   rw [List.take_succ_cons,flatL_cons,flatL_take LV k,flatL_cons,show (k+1) * 2=k * 2+1+1 by omega,List.take_succ_cons,List.take_succ_cons]
theorem HadPart.below {W W':World} {Bw:Nat} {ad:Addr} {L:List (Int × List ByteArray)} (h:HadPart W Bw ad L) (hb:Below W.heap.size W W'):HadPart W' Bw ad L:=by
 obtain ⟨LV,h1,h2⟩:=h
 exact ⟨LV,fun j u hj=>cell_later hb (h1 j u hj),h2.mono fun u n xs hu=>row_below hu hb⟩
theorem HadAt.drop {W:World} {B Bw g n cap:Nat} {L:List (Int × List ByteArray)} (h:HadAt W B Bw (.slice (some ⟨g,0,none⟩) n cap) L) (k:Nat):HadPart W Bw ((⟨g,0,none⟩:Addr).add (k * 2)) (L.drop k):=by
 obtain ⟨LV,h1,h2⟩:=h
 refine ⟨LV.drop k,fun j u hj=>?_,by rw [List.length_drop,List.length_drop,h2.1],fun i x y hx hy=>?_⟩
 ·rw [flatL_drop,List.getElem?_drop] at hj
  rw [add_add]
  exact h1.cells (g:=g) rfl _ _ hj
 ·rw [List.getElem?_drop] at hx hy
  exact h2.2 _ x y hx hy
theorem HadAt.take {W:World} {B Bw g n cap:Nat} {L:List (Int × List ByteArray)} (h:HadAt W B Bw (.slice (some ⟨g,0,none⟩) n cap) L) (k:Nat):HadPart W Bw ⟨g,0,none⟩ (L.take k):=by
 obtain ⟨LV,h1,h2⟩:=h
 refine ⟨LV.take k,fun j u hj=>?_,by rw [List.length_take,List.length_take,h2.1],fun i x y hx hy=>?_⟩
 ·rw [flatL_take] at hj
  have hj2:(flatL LV)[j]?=some u:=by
   rw [List.getElem?_take] at hj
   split at hj
   ·exact hj
   ·cases hj
  exact h1.cells (g:=g) rfl _ _ hj2
 ·have hi:i < k:=by
   have:=(List.getElem?_eq_some_iff.1 hx).1
   rw [List.length_take] at this;omega
  rw [List.getElem?_take_of_lt hi] at hx hy
  exact h2.2 _ x y hx hy
theorem turn_t:Tryz.prog.underlying 60=some (.slice (Tryz.prog.elem 60)):=by kernel_rfl
theorem turn_s (w:World):(sizeOf (Tryz.prog.elem 60)).run Tryz.prog w=.ok 2 w:=by kernel_rfl
theorem turn_lo (w:World) (g N cap q:Nat) (h1:q < N) (h2:N≤cap):(Instr.slice 60 (.slice (some ⟨g,0,none⟩) N cap) (some (.int .i64 (q:Int))) none none).run Tryz.prog w=.ok (.slice (some ((⟨g,0,none⟩:Addr).add (q * 2))) (N - q) (cap - q)) w:=by
 rw [run_slice_l w _ _ N cap turn_t .i64 (q:Int) (by omega) (by omega),turn_s]
 have:¬ cap=q:=by omega
 simp [Result.andThen,sliced,this]
theorem turn_hi (w:World) (g N cap q:Nat) (h1:q < N) (h2:N≤cap):(Instr.slice 60 (.slice (some ⟨g,0,none⟩) N cap) none (some (.int .i64 (q:Int))) none).run Tryz.prog w=.ok (.slice (some ⟨g,0,none⟩) q cap) w:=by
 rw [run_slice_h w _ _ N cap turn_t .i64 (q:Int) (by omega) (by omega),turn_s]
 simp [Result.andThen,sliced,Addr.add]
theorem turn_perm {α:Type} (l:List α) (k:Nat):(l.drop k++l.take k).Perm l:=by
 have:=List.perm_append_comm (l₁:=l.drop k) (l₂:=l.take k)
 rwa [List.take_append_drop] at this
end Go.Proofs.YthcpglnmhimepaaGreatDoor.Un
end
section
namespace Go.Proofs.YthcpglnmhimepaaGreatDoor.Cs
open Go.RowKit Go.Proofs.YthcpglnmhimepaaGreatDoor.Un Go.Proofs.YthcpglnmhimepaaGreatDoor.Pk
open Go.Lib (itoa)
theorem back_text {M:Mast} {s:ByteArray} {T:List Crs} (hr:runC M [] (wordsT s)=(T,0)) (hs:s.size≤4000) {L K:List (Int × List ByteArray)} (hW:wordsT s=L.map (·.2)) (hp:K.Perm L) {X:ByteArray} (hX:mkB (joinL K)=X):parseC M X=(T,0)∧X.size≤29000:=by
 have hq:(wordsT s).Perm (K.map (·.2)):=by rw [hW];exact (hp.map _).symm
 have h1:=text_size s
 have h2:=szL_perm' hq
 subst hX
 rw [joinL_text]
 refine ⟨order_back hr hs hq,by rw [mkB_size,textW_length];omega⟩
theorem print_size {M:Mast} {L:List Crs} (h:TabOk M L):(printC L).size≤29000:=by
 have:=h.szl
 unfold printC
 rw [mkB_size,textW_length]
 omega
end Go.Proofs.YthcpglnmhimepaaGreatDoor.Cs
end
section
namespace Go.Proofs.YthcpglnmhimepaaGreatDoor.Cs
open Go.RowKit Go.Maps Go.Proofs.YthcpglnmhimepaaGreatDoor.Un Go.Proofs.YthcpglnmhimepaaGreatDoor.Pk
set_option maxRecDepth 100000 in
set_option maxHeartbeats 16000000 in
theorem courseBack_walk (s0 s1:ByteArray) (av:Int) (w:World) (_hs0:s0.size≤maxLen) (_hs1:s1.size≤maxLen) (ha:InU8 av) (hU:LaidP w):Calls Tryz.prog 5 #[.string s0,.string s1,.int .u8 av] w fun en w'=>en=.returned (.bool true)∧Below w.heap.size w w':=by
 clear _hs0
 have HS1:=Lib.hid _hs1
 clear _hs1
 obtain ⟨m,rfl⟩:=Int.eq_ofNat_of_zero_le ha.1
 have hm255:m≤255:=by have:=ha.2;omega
 clear ha
 have HB0:=Lib.hid (Below.refl w.heap.size w)
 have HL0:=Lib.hid hU
 clear hU
 go_enter Tryz.func5,Tryz.ntmps5
 go_wp2_with fail
 refine (alive14_any _ HL0.out).mono ?_
 rintro en w1 ⟨rfl,hb1⟩
 have HB1:=Lib.hid (HB0.out.trans (hb1.mono HB0.out.size))
 have HL1:=Lib.hid (HL0.out.keep hb1)
 clear HB0 HL0
 clear hb1
 go_wp2_with fail
 refine (master_any s0 _ HL1.out.1 HL1.out.2.1).mono ?_
 rintro en w2 ⟨M,c,f,e,l,c',f',e',l',is,rfl,hm,hm',hb2,his⟩
 obtain ⟨pc,cc,pf,cf,pe,ce,pl,cl,rfl,rfl,rfl,rfl⟩:=shapes hm
 obtain ⟨pc',cc',pf',cf',pe',ce',pl',cl',rfl,rfl,rfl,rfl⟩:=shapes hm'
 have HM2:=Lib.hid hm
 have HM2':=Lib.hid hm'
 have HB2:=Lib.hid (HB1.out.trans (hb2.mono HB1.out.size))
 have HL2:=Lib.hid (HL1.out.keep hb2)
 clear HB1 HL1
 have HIS:=Lib.hid his
 clear hm hm' hb2 his
 go_wp2_with (first
  | (refine wpList_store_mast rfl 30 (.tmp 7) (.tmp 25) rfl w2.heap.size nil4 nil4 nil4 nil4 (.slice pc M.chart.length cc) (.slice pf M.flows.length cf) (.slice pe M.ents.length ce) (.slice pl M.lines.length cl) zeroM M 30 rfl rfl (start1 w2) ⟨rfl,rfl,rfl,rfl⟩ (by kernel_rfl) ?_;intro w3 hb3 hg3;have HX3:=Lib.hid hb3;have HG3:=Lib.hid hg3;clear hb3 hg3)
  | (refine wpList_store_mast rfl 36 (.tmp 8) (.tmp 26) rfl (w2.heap.size+1) nil4 nil4 nil4 nil4 (.slice pc' M.chart.length cc') (.slice pf' M.flows.length cf') (.slice pe' M.ents.length ce') (.slice pl' M.lines.length cl') zeroM M 36 rfl rfl (start_keep HG3.out) ⟨rfl,rfl,rfl,rfl⟩ (by kernel_rfl) ?_;intro w4 hb4 hg4;have HT4:=Lib.hid (two_of HM2.out HM2'.out HX3.out HG3.out hb4 hg4);clear hb4 hg4;have HB4:=Lib.hid (HB2.out.trans (HT4.out.bel.mono HB2.out.size));have HL4:=Lib.hid (HL2.out.keep HT4.out.bel))
  | fail)
 clear HM2 HM2' HB2 HL2 HX3 HG3
 by_cases hbig:3000 < s1.size
 ·refine (rlines_some s1 _ HS1.out).mono ?_
  rintro en w5 ⟨L0,p0,c0,n0,rfl,hb5⟩
  have HB5:=Lib.hid (HB4.out.trans (hb5.mono HB4.out.size))
  clear hb5
  cases is
  all_goals
   go_wp2
   go_ret
   exact ⟨rfl,HB5.out⟩
 refine (rlines_had s1 _ (by omega)).mono ?_
 intro en w5 hlh
 obtain ⟨v5,rfl,hh5,hb5⟩:=had_of hlh
 have HF5:=Lib.hid hb5
 have HTW:=HT4
 have HLW:=HL4
 have HLT4:=Lib.hid (show w2.heap.size < w4.heap.size from HT4.out.nine.lt)
 have HSZ4:=Lib.hid (show w.heap.size≤w4.heap.size from HB4.out.size)
 have HB5:=Lib.hid (HB4.out.trans (hb5.mono HB4.out.size))
 have HL5:=Lib.hid (HL4.out.keep hb5)
 have HT5:=Lib.hid (HT4.out.keep hb5)
 clear HB4 HL4 HT4
 clear hlh hb5
 obtain ⟨L,hL⟩:∃ L,asB (linV s1.data.toList)=L:=⟨_,rfl⟩
 have hWT:wordsT s1=L.map (·.2):=by unfold wordsT;rw [hL]
 rw [hL] at hh5
 obtain ⟨E0,hE0⟩:∃ E0,linE s1.data.toList=E0:=⟨_,rfl⟩
 rw [hE0]
 obtain ⟨p5,cap5,rfl⟩:=hh5.len
 have HH5:=Lib.hid hh5
 have HWT:=Lib.hid hWT
 have hNL:L.length≤3001:=by
  have h1:=text_size s1
  have h2:=szL_count (wordsT s1)
  rw [hWT] at h1 h2
  rw [List.length_map] at h2
  omega
 obtain ⟨N,hN⟩:∃ N,L.length=N:=⟨_,rfl⟩
 have HN:=Lib.hid hN
 rw [hN] at HH5 hNL ⊢
 clear hL hWT hh5 hN
 cases is with
 | false =>
   go_wp2
   go_ret
   exact ⟨rfl,HB5.out⟩
 | true =>
 by_cases hE:E0=0
 rotate_left
 ·have h1:(E0 != 0)=true:=by simpa using hE
  clear hE hE0
  go_wp2
  go_ret
  exact ⟨rfl,HB5.out⟩
 subst hE
 have ho:=mast_ok (HIS.out (by first | trivial | rfl)).1
 have HO:=Lib.hid ho
 clear ho
 have hs1:s1.size≤3000:=by omega
 have HTO:=Lib.hid (tab_ok M s1 (by omega))
 have HPG:=Lib.hid (fun (X:ByteArray) (hX:X.size≤29000) W h hL=>pparse_ok (c:=(.slice pc M.chart.length cc)) (f:=(.slice pf M.flows.length cf)) (e:=(.slice pe M.ents.length ce)) (l:=(.slice pl M.lines.length cl)) X W h HO.out hX hL)
 have HPP:=Lib.hid (fun W h hL=>pparse_ok (c:=(.slice pc M.chart.length cc)) (f:=(.slice pf M.flows.length cf)) (e:=(.slice pe M.ents.length ce)) (l:=(.slice pl M.lines.length cl)) s1 W h HO.out (by omega) hL)
 have hpw:=parse_ways M s1
 obtain ⟨P,hP⟩:∃ P,parseC M s1=P:=⟨_,rfl⟩
 simp only [hP] at HPP HTO hpw
 obtain ⟨T,E⟩:=P
 dsimp only at HTO hpw
 clear hP HIS HS1 hE0
 have HPR:=Lib.hid (fun W (v:Value) hV hL=>pprint_ok (v:=v) (M:=M) (L:=T) W hV HTO.out hL)
 obtain ⟨n0,n1,n2,n3,n4,n5,n6,n7,n8⟩:=HT5.out.nine
 go_wp2_with fail
 clear n0 n1 n2 n3 n4 n5 n6 n7 n8
 refine (HPP.out _ HT5.out.mast HL5.out).mono ?_
 rintro en w6 ⟨v6,rfl,hv6,hb6⟩
 dsimp only at hv6 ⊢
 obtain ⟨p6,c6,rfl⟩:=tab_slice hv6
 obtain ⟨l6,hl6⟩:∃ l,T.length=l:=⟨_,rfl⟩
 rw [hl6] at hv6 ⊢
 have hc6:=hb6.alloc hb6.size (.cells #[.slice p6 l6 c6] 41)
 have hx6:=(Below.refl w6.heap.size w6).alloc (Nat.le_refl _) (.cells #[.slice p6 l6 c6] 41)
 have hk6:=tab_box w6 (.slice p6 l6 c6)
 have hv6':=tab_keep hv6 hx6
 obtain ⟨W6,hW6⟩:∃ W5,w6.alloc (.cells #[.slice p6 l6 c6] 41)=W5:=⟨_,rfl⟩
 rw [hW6] at hc6 hk6 hv6'
 have HV6:=Lib.hid hv6'
 have HK6:=Lib.hid hk6
 have HB6:=Lib.hid (HB5.out.trans (hc6.mono HB5.out.size))
 have HL6:=Lib.hid (HL5.out.keep hc6)
 have HT6:=Lib.hid (HT5.out.keep hc6)
 have HF6:=Lib.hid (HF5.out.trans (hc6.mono HF5.out.size))
 have HH6:=Lib.hid (HH5.out.below hc6)
 clear HB5 HL5 HT5 HH5 HF5
 clear hl6 hv6 hv6' hb6 hc6 hx6 hk6 HPP
 rcases hpw with ⟨T',hrun,_,hTE⟩ | ⟨hT0,hEn⟩
 rotate_left
 ·subst hT0
  have h1:(E != 0)=true:=by simpa using hEn
  have k0:=HK6.out
  clear hEn
  rw [print_nil] at HPR
  go_wp2_with fail
  clear k0
  refine (HPR.out _ _ HV6.out HL6.out).mono ?_
  rintro en w7 ⟨rfl,hb7⟩
  have HB7:=Lib.hid (HB6.out.trans (hb7.mono HB6.out.size))
  clear hb7
  go_wp2
  go_ret
  exact ⟨rfl,HB7.out⟩
 obtain ⟨rfl,rfl⟩:=Prod.mk.injEq .. ▸ hTE
 clear hTE
 have HRUN:=Lib.hid hrun
 have hpb:=print_back hrun (by omega:s1.size≤4000)
 have HPZ:=Lib.hid (print_size HTO.out)
 have HPS:=Lib.hid (HPG.out _ HPZ.out)
 have HTN:Hid (N=0→printC T=⟨#[]⟩):=Lib.hid (fun h=>by
  have h1:=HWT.out
  have hL0:L=[]:=List.eq_nil_of_length_eq_zero (by rw [HN.out];exact h)
  rw [hL0] at h1
  rw [h1] at hrun
  have:T=[]:=(congrArg Prod.fst hrun).symm
  rw [this];exact print_nil)
 simp only [hpb] at HPS
 obtain ⟨S,hS⟩:∃ S,printC T=S:=⟨_,rfl⟩
 simp only [hS] at HPR HPS
 rw [hS] at HTN
 clear hpb hrun hS HPZ
 have k0:=HK6.out
 go_wp2_with fail
 clear k0 hW6
 refine (HPR.out _ _ HV6.out HL6.out).mono ?_
 rintro en w7 ⟨rfl,hb7⟩
 have HB7:=Lib.hid (HB6.out.trans (hb7.mono HB6.out.size))
 have HL7:=Lib.hid (HL6.out.keep hb7)
 have HT7:=Lib.hid (HT6.out.keep hb7)
 have HF7:=Lib.hid (HF6.out.trans (hb7.mono HF6.out.size))
 have HV7:=Lib.hid (tab_keep HV6.out hb7)
 have HK7:=Lib.hid ((hb7.cell (World.block_lt_of_cell? _ _ HK6.out)).trans HK6.out)
 have HH7:=Lib.hid (HH6.out.below hb7)
 clear HB6 HL6 HT6 HH6 HF6 HV6 HK6
 clear hb7
 obtain ⟨n0,n1,n2,n3,n4,n5,n6,n7,n8⟩:=HT7.out.nine
 go_wp2_with fail
 clear n0 n1 n2 n3 n4 n5 n6 n7 n8
 refine (HPS.out _ HT7.out.mast HL7.out).mono ?_
 rintro en w8 ⟨v8,rfl,hv8,hb8⟩
 dsimp only at hv8 ⊢
 obtain ⟨p8,c8,rfl⟩:=tab_slice hv8
 obtain ⟨l8,hl8⟩:∃ l,T.length=l:=⟨_,rfl⟩
 rw [hl8] at hv8 ⊢
 have hc8:=hb8.alloc hb8.size (.cells #[.slice p8 l8 c8] 41)
 have hx8:=(Below.refl w8.heap.size w8).alloc (Nat.le_refl _) (.cells #[.slice p8 l8 c8] 41)
 have hk8:=tab_box w8 (.slice p8 l8 c8)
 have hv8':=tab_keep hv8 hx8
 obtain ⟨W8,hW8⟩:∃ W5,w8.alloc (.cells #[.slice p8 l8 c8] 41)=W5:=⟨_,rfl⟩
 rw [hW8] at hc8 hk8 hv8'
 have HU8:=Lib.hid hv8'
 have HJ8:=Lib.hid hk8
 have HB8:=Lib.hid (HB7.out.trans (hc8.mono HB7.out.size))
 have HL8:=Lib.hid (HL7.out.keep hc8)
 have HT8:=Lib.hid (HT7.out.keep hc8)
 have HF8:=Lib.hid (HF7.out.trans (hc8.mono HF7.out.size))
 have HV8:=Lib.hid (tab_keep HV7.out hc8)
 have HK8:=Lib.hid ((hc8.cell (World.block_lt_of_cell? _ _ HK7.out)).trans HK7.out)
 have HH8:=Lib.hid (HH7.out.below hc8)
 clear HB7 HL7 HT7 HH7 HF7 HV7 HK7
 clear hl8 hv8 hv8' hb8 hc8 hx8 hk8 HPS
 have k0:=HJ8.out
 go_wp2_with fail
 clear k0 hW8
 refine (HPR.out _ _ HU8.out HL8.out).mono ?_
 rintro en w9 ⟨rfl,hb9⟩
 have HB9:=Lib.hid (HB8.out.trans (hb9.mono HB8.out.size))
 have HL9:=Lib.hid (HL8.out.keep hb9)
 have HT9:=Lib.hid (HT8.out.keep hb9)
 have HF9:=Lib.hid (HF8.out.trans (hb9.mono HF8.out.size))
 have HV9:=Lib.hid (tab_keep HV8.out hb9)
 have HK9:=Lib.hid ((hb9.cell (World.block_lt_of_cell? _ _ HK8.out)).trans HK8.out)
 have HU9:=Lib.hid (tab_keep HU8.out hb9)
 have HJ9:=Lib.hid ((hb9.cell (World.block_lt_of_cell? _ _ HJ8.out)).trans HJ8.out)
 have HH9:=Lib.hid (HH8.out.below hb9)
 clear HB8 HL8 HT8 HH8 HF8 HV8 HK8 HU8 HJ8
 clear hb9
 by_cases h0:N=0
 ·have hS0:=HTN.out h0
  subst hS0
  subst h0
  go_wp2
  go_ret
  exact ⟨rfl,HB9.out⟩
 have hn0:((N:Int)==0)=false:=by simp;omega
 obtain ⟨q,hq⟩:∃ q,m % N=q:=⟨_,rfl⟩
 have hqN:q < N:=by rw [←hq];exact Nat.mod_lt _ (by omega)
 have hrem:((m:Nat):Int).tmod ((N:Nat):Int)=((q:Nat):Int):=by
  rw [Int.tmod_eq_emod_of_nonneg (by omega),←Int.natCast_emod,hq]
 obtain ⟨⟨num,ws⟩,hx⟩:∃ x,L[q]?=some x:=⟨_,List.getElem?_eq_getElem (by rw [HN.out];exact hqN)⟩
 obtain ⟨g,cap,u,e4,hcap,hcm,_,_,_⟩:=HH9.out.at hx
 rw [HN.out] at e4 hcap
 cases e4
 unfold maxLen at hcm
 have hcapz:(N:Int)≤(cap5:Int):=by omega
 have hs1':=fun W=>turn_lo W g N cap5 q hqN hcap
 have hs2':=fun W=>turn_hi W g N cap5 q hqN hcap
 obtain ⟨V1,hV1⟩:∃ V1,(Value.slice (some ((⟨g,0,none⟩:Addr).add (q * 2))) (N - q) (cap5 - q))=V1:=⟨_,rfl⟩
 obtain ⟨V2,hV2⟩:∃ V2,(Value.slice (some ⟨g,0,none⟩) q cap5)=V2:=⟨_,rfl⟩
 rw [hV1] at hs1'
 rw [hV2] at hs2'
 have HV1:=Lib.hid hV1
 have HV2:=Lib.hid hV2
 have HPD:=Lib.hid (HH9.out.drop q)
 have HPT:=Lib.hid (HH9.out.take q)
 obtain ⟨K0,hK0⟩:∃ K0,L.drop q++L.take q=K0:=⟨_,rfl⟩
 have HK0P:Hid (K0.Perm L):=Lib.hid (by rw [←hK0];exact turn_perm L q)
 have HK0L:Hid (K0.length=N):=Lib.hid (by rw [HK0P.out.length_eq,HN.out])
 have HK0:=Lib.hid hK0
 have HFW:=Lib.hid (back_few HRUN.out HWT.out HK0P.out)
 obtain ⟨X,hX⟩:∃ X,mkB (joinL K0)=X:=⟨_,rfl⟩
 obtain ⟨hPX,hXz⟩:=back_text HRUN.out (by omega:s1.size≤4000) HWT.out HK0P.out hX
 have HX:=Lib.hid hX
 have HPX:=Lib.hid (HPG.out X hXz)
 simp only [hPX] at HPX
 have hqz:(q:Int) < (N:Int):=by omega
 clear hx hq hV1 hV2 hK0 hX hPX hXz HPG h0
 go_upto_region 17 with (fail)
 go_cut [18,19] (fun s18 s19 wx=>∃ (gt:Nat) (vt:Value),s18=.pointer (some ⟨gt,0,none⟩)∧s19=.int .i64 0∧TurnAt w9 wx gt vt T)
 case first =>
  obtain ⟨n0,n1,n2,n3,n4,n5,n6,n7,n8⟩:=HT9.out.nine
  have r0:=fun p:Past w9=>cell_past n0 p
  have r1:=fun p:Past w9=>cell_past n1 p
  have r2:=fun p:Past w9=>cell_past n2 p
  have r3:=fun p:Past w9=>cell_past n3 p
  have r4:=fun p:Past w9=>cell_past n4 p
  have r5:=fun p:Past w9=>cell_past n5 p
  have r6:=fun p:Past w9=>cell_past n6 p
  have r7:=fun p:Past w9=>cell_past n7 p
  have r8:=fun p:Past w9=>cell_past n8 p
  clear n0 n1 n2 n3 n4 n5 n6 n7 n8
  refine wp_region_plan (.two [0,1,2,3,5,6,7] 4 (.two [] 8 (.two [] 9 (.two [] 10 (.one [11,12,13] 14 (.one [] 15 (.last [16]))) 14 (.one [] 10 (.one [11,12,13] 15 (.last [16])))) 14 (.one [] 9 (.one [] 10 (.one [11,12,13] 15 (.last [16]))))) 14 (.one [] 8 (.one [] 9 (.one [] 10 (.one [11,12,13] 15 (.last [16])))))) 14 (.one [] 4 (.one [] 8 (.one [] 9 (.one [] 10 (.one [11,12,13] 15 (.last [16]))))))) (by kernel_rfl) (by kernel_rfl) (fun d _ _ _ _ h=>by cases d <;> exact h) ?_
  obtain ⟨wz,hwz⟩:∃ wz,w9.drew=wz:=⟨_,rfl⟩
  rw [hwz]
  have HD0:=Lib.hid (show Below w9.heap.size w9 wz by rw [←hwz];exact ⟨rfl,rfl,rfl,Nat.le_refl _,fun _ _=>rfl⟩)
  clear hwz
  simp only [wpPlan,pick,nth]
  repeat (go_big_quiet_step (fail))
  refine wpQuiet_nil ?_
  refine ⟨?_,?_⟩
  ·intro K hK
   refine alone_want (by kernel_rfl) ?_
   refine wp_append_part _ _ rfl w9.heap.size w4.heap.size (.slice none 0 0) [] (L.drop q) _ _ _ rfl (HadAt.nil _ _ _) (by simp only [Act.eval];exact HV1.out.symm) (by rw [List.length_drop,HN.out]) (HPD.out.below HD0.out) HD0.out.size (by simp;omega) ?_
   intro y1 x1 hh1 hb1 hg1
   have HR1:Hid (HadAt x1 w9.heap.size w4.heap.size y1 (L.drop q)):=Lib.hid (by simpa using hh1)
   have HD1:=Lib.hid (HD0.out.trans hb1)
   refine hK _ _ (past_in HD1.out) ?_
   clear hK K hh1 hb1 hg1
   simp only [Act.put,List.setIfInBounds_toArray,List.set_cons_zero,List.set_cons_succ]
   refine wpQuiet_nil ?_
   refine ⟨?_,?_⟩
   ·intro K hK
    refine alone_want (by kernel_rfl) ?_
    refine wp_append_part _ _ rfl w9.heap.size w4.heap.size y1 (L.drop q) (L.take q) _ _ _ rfl HR1.out (by simp only [Act.eval];exact HV2.out.symm) (by rw [List.length_take,HN.out];omega) (HPT.out.below HD1.out) HD1.out.size (by rw [List.length_drop,HN.out];omega) ?_
    intro y2 x2 hh2 hb2 hg2
    rw [HK0.out] at hh2
    have HR2:=Lib.hid hh2
    have HD2:=Lib.hid (HD1.out.trans hb2)
    refine hK _ _ (past_in HD2.out) ?_
    clear hK K hh2 hb2 hg2
    simp only [Act.put,List.setIfInBounds_toArray,List.set_cons_zero,List.set_cons_succ]
    refine wpQuiet_nil ?_
    refine ⟨?_,?_⟩
    ·intro K hK
     refine alone_want (by kernel_rfl) ?_
     go_big_op
     have hj3:=rjoin_at y2 K0 x2 HR2.out.lines (by rw [HK0L.out];omega) HFW.out
     rw [HX.out] at hj3
     refine hj3.mono ?_
     rintro en x3 ⟨rfl,rfl⟩
     refine hK _ _ (past_in HD2.out) ?_
     clear hK K hj3
     refine wpQuiet_nil ?_
     refine ⟨?_,?_⟩
     ·intro K hK
      refine alone_want (by kernel_rfl) ?_
      go_big_op
      refine (HPX.out x2 (HT9.out.mast.keep HD2.out) (HL9.out.keep HD2.out)).mono ?_
      rintro en x4 ⟨z4,rfl,hz4,hb4⟩
      dsimp only at hz4 ⊢
      have HZ4:=Lib.hid hz4
      have HD4:=Lib.hid (HD2.out.trans (hb4.mono HD2.out.size))
      obtain ⟨zp4,zc4,rfl⟩:=tab_slice hz4
      obtain ⟨zl4,hzl4⟩:∃ l,T.length=l:=⟨_,rfl⟩
      rw [hzl4] at hz4 HZ4 ⊢
      refine hK _ _ (past_in HD4.out) ?_
      clear hK K hz4 hb4 hzl4
      repeat (go_big_quiet_step (fail))
      refine wpQuiet_nil ?_
      intro K hK
      refine alone_want (by kernel_rfl) ?_
      have hb5:=(Below.refl x4.heap.size x4).alloc (Nat.le_refl _) (.cells #[.slice none 0 0] 41)
      have hq5:=heap_alloc_new x4 (.cells #[.slice none 0 0] 41)
      obtain ⟨x5,hy5⟩:∃ y,x4.alloc (.cells #[.slice none 0 0] 41)=y:=⟨_,rfl⟩
      rw [hy5] at hb5 hq5
      go_big_op
      have HQ5:=Lib.hid hq5
      have HE5:=Lib.hid (show w9.heap.size≤x4.heap.size from HD4.out.size)
      have HD5:=Lib.hid (HD4.out.trans (hb5.mono HD4.out.size))
      have HZ5:=Lib.hid (tab_keep HZ4.out hb5)
      refine hK _ x5 (past_in HD5.out) ?_
      clear hK K hb5 hq5 hy5
      refine wpQuiet_nil ?_
      intro K hK
      refine alone_want (by kernel_rfl) ?_
      obtain ⟨fz6,fc6⟩:=one_free HQ5.out
      go_big_op
      have HF6:Hid (TurnAt w9 (x5.setCell ⟨x4.heap.size,0,none⟩ (.slice zp4 zl4 zc4)) x4.heap.size (.slice zp4 zl4 zc4) T):=Lib.hid ⟨one_set HQ5.out,tab_off HQ5.out HZ5.out,HD5.out.setCell (p:=⟨x4.heap.size,0,none⟩) HE5.out _⟩
      refine hK _ _ (past_in HF6.out.bel) ?_
      clear hK K fz6 fc6
      repeat (go_big_quiet_step (fail))
      refine wpQuiet_nil ?_
      go_wp2_with fail
      go_meet
      case rel=>exact ⟨_,_,rfl,rfl,HF6.out⟩
     ·intro K hK
      refine alone_want (by kernel_rfl) ?_
      have hb4:=(Below.refl x2.heap.size x2).alloc (Nat.le_refl _) (.cells #[.slice none 0 0] 41)
      have hq4:=heap_alloc_new x2 (.cells #[.slice none 0 0] 41)
      obtain ⟨x4,hy4⟩:∃ y,x2.alloc (.cells #[.slice none 0 0] 41)=y:=⟨_,rfl⟩
      rw [hy4] at hb4 hq4
      go_big_op
      have HQ4:=Lib.hid hq4
      have HE4:=Lib.hid (show w9.heap.size≤x2.heap.size from HD2.out.size)
      have HD4:=Lib.hid (HD2.out.trans (hb4.mono HD2.out.size))
      refine hK _ x4 (past_in HD4.out) ?_
      clear hK K hb4 hq4 hy4
      refine wpQuiet_nil ?_
      intro K hK
      refine alone_want (by kernel_rfl) ?_
      go_big_op
      refine (HPX.out x4 (HT9.out.mast.keep HD4.out) (HL9.out.keep HD4.out)).mono ?_
      rintro en x5 ⟨z5,rfl,hz5,hb5⟩
      dsimp only at hz5 ⊢
      have HZ5:=Lib.hid hz5
      have HD5:=Lib.hid (HD4.out.trans (hb5.mono HD4.out.size))
      have HQ5:=Lib.hid ((hb5.block _ (Array.getElem?_eq_some_iff.1 HQ4.out).1).trans HQ4.out)
      obtain ⟨zp5,zc5,rfl⟩:=tab_slice hz5
      obtain ⟨zl5,hzl5⟩:∃ l,T.length=l:=⟨_,rfl⟩
      rw [hzl5] at hz5 HZ5 ⊢
      refine hK _ _ (past_in HD5.out) ?_
      clear hK K hz5 hb5 hzl5
      repeat (go_big_quiet_step (fail))
      refine wpQuiet_nil ?_
      intro K hK
      refine alone_want (by kernel_rfl) ?_
      obtain ⟨fz6,fc6⟩:=one_free HQ5.out
      go_big_op
      have HF6:Hid (TurnAt w9 (x5.setCell ⟨x2.heap.size,0,none⟩ (.slice zp5 zl5 zc5)) x2.heap.size (.slice zp5 zl5 zc5) T):=Lib.hid ⟨one_set HQ5.out,tab_off HQ5.out HZ5.out,HD5.out.setCell (p:=⟨x2.heap.size,0,none⟩) HE4.out _⟩
      refine hK _ _ (past_in HF6.out.bel) ?_
      clear hK K fz6 fc6
      repeat (go_big_quiet_step (fail))
      refine wpQuiet_nil ?_
      go_wp2_with fail
      go_meet
      case rel=>exact ⟨_,_,rfl,rfl,HF6.out⟩
    ·intro K hK
     refine alone_want (by kernel_rfl) ?_
     have hb3:=(Below.refl x2.heap.size x2).alloc (Nat.le_refl _) (.cells #[.slice none 0 0] 41)
     have hq3:=heap_alloc_new x2 (.cells #[.slice none 0 0] 41)
     obtain ⟨x3,hy3⟩:∃ y,x2.alloc (.cells #[.slice none 0 0] 41)=y:=⟨_,rfl⟩
     rw [hy3] at hb3 hq3
     go_big_op
     have HQ3:=Lib.hid hq3
     have HE3:=Lib.hid (show w9.heap.size≤x2.heap.size from HD2.out.size)
     have HD3:=Lib.hid (HD2.out.trans (hb3.mono HD2.out.size))
     have HR3:=Lib.hid (HR2.out.below hb3)
     refine hK _ x3 (past_in HD3.out) ?_
     clear hK K hb3 hq3 hy3
     refine wpQuiet_nil ?_
     intro K hK
     refine alone_want (by kernel_rfl) ?_
     go_big_op
     have hj4:=rjoin_at y2 K0 x3 HR3.out.lines (by rw [HK0L.out];omega) HFW.out
     rw [HX.out] at hj4
     refine hj4.mono ?_
     rintro en x4 ⟨rfl,rfl⟩
     refine hK _ _ (past_in HD3.out) ?_
     clear hK K hj4
     refine wpQuiet_nil ?_
     intro K hK
     refine alone_want (by kernel_rfl) ?_
     go_big_op
     refine (HPX.out x3 (HT9.out.mast.keep HD3.out) (HL9.out.keep HD3.out)).mono ?_
     rintro en x5 ⟨z5,rfl,hz5,hb5⟩
     dsimp only at hz5 ⊢
     have HZ5:=Lib.hid hz5
     have HD5:=Lib.hid (HD3.out.trans (hb5.mono HD3.out.size))
     have HQ5:=Lib.hid ((hb5.block _ (Array.getElem?_eq_some_iff.1 HQ3.out).1).trans HQ3.out)
     obtain ⟨zp5,zc5,rfl⟩:=tab_slice hz5
     obtain ⟨zl5,hzl5⟩:∃ l,T.length=l:=⟨_,rfl⟩
     rw [hzl5] at hz5 HZ5 ⊢
     refine hK _ _ (past_in HD5.out) ?_
     clear hK K hz5 hb5 hzl5
     repeat (go_big_quiet_step (fail))
     refine wpQuiet_nil ?_
     intro K hK
     refine alone_want (by kernel_rfl) ?_
     obtain ⟨fz6,fc6⟩:=one_free HQ5.out
     go_big_op
     have HF6:Hid (TurnAt w9 (x5.setCell ⟨x2.heap.size,0,none⟩ (.slice zp5 zl5 zc5)) x2.heap.size (.slice zp5 zl5 zc5) T):=Lib.hid ⟨one_set HQ5.out,tab_off HQ5.out HZ5.out,HD5.out.setCell (p:=⟨x2.heap.size,0,none⟩) HE3.out _⟩
     refine hK _ _ (past_in HF6.out.bel) ?_
     clear hK K fz6 fc6
     repeat (go_big_quiet_step (fail))
     refine wpQuiet_nil ?_
     go_wp2_with fail
     go_meet
     case rel=>exact ⟨_,_,rfl,rfl,HF6.out⟩
   ·intro K hK
    refine alone_want (by kernel_rfl) ?_
    have hb2:=(Below.refl x1.heap.size x1).alloc (Nat.le_refl _) (.cells #[.slice none 0 0] 41)
    have hq2:=heap_alloc_new x1 (.cells #[.slice none 0 0] 41)
    obtain ⟨x2,hy2⟩:∃ y,x1.alloc (.cells #[.slice none 0 0] 41)=y:=⟨_,rfl⟩
    rw [hy2] at hb2 hq2
    go_big_op
    have HQ2:=Lib.hid hq2
    have HE2:=Lib.hid (show w9.heap.size≤x1.heap.size from HD1.out.size)
    have HD2:=Lib.hid (HD1.out.trans (hb2.mono HD1.out.size))
    have HR2:=Lib.hid (HR1.out.below hb2)
    refine hK _ x2 (past_in HD2.out) ?_
    clear hK K hb2 hq2 hy2
    refine wpQuiet_nil ?_
    intro K hK
    refine alone_want (by kernel_rfl) ?_
    refine wp_append_part _ _ rfl w9.heap.size w4.heap.size y1 (L.drop q) (L.take q) _ _ _ rfl HR2.out (by simp only [Act.eval];exact HV2.out.symm) (by rw [List.length_take,HN.out];omega) (HPT.out.below HD2.out) HD2.out.size (by rw [List.length_drop,HN.out];omega) ?_
    intro y3 x3 hh3 hb3 hg3
    rw [HK0.out] at hh3
    have HR3:=Lib.hid hh3
    have HD3:=Lib.hid (HD2.out.trans hb3)
    have HQ3:=Lib.hid ((hg3.block _ (Array.getElem?_eq_some_iff.1 HQ2.out).1 (had_ne HR2.out HQ2.out (by decide))).trans HQ2.out)
    refine hK _ _ (past_in HD3.out) ?_
    clear hK K hh3 hb3 hg3
    simp only [Act.put,List.setIfInBounds_toArray,List.set_cons_zero,List.set_cons_succ]
    refine wpQuiet_nil ?_
    intro K hK
    refine alone_want (by kernel_rfl) ?_
    go_big_op
    have hj4:=rjoin_at y3 K0 x3 HR3.out.lines (by rw [HK0L.out];omega) HFW.out
    rw [HX.out] at hj4
    refine hj4.mono ?_
    rintro en x4 ⟨rfl,rfl⟩
    refine hK _ _ (past_in HD3.out) ?_
    clear hK K hj4
    refine wpQuiet_nil ?_
    intro K hK
    refine alone_want (by kernel_rfl) ?_
    go_big_op
    refine (HPX.out x3 (HT9.out.mast.keep HD3.out) (HL9.out.keep HD3.out)).mono ?_
    rintro en x5 ⟨z5,rfl,hz5,hb5⟩
    dsimp only at hz5 ⊢
    have HZ5:=Lib.hid hz5
    have HD5:=Lib.hid (HD3.out.trans (hb5.mono HD3.out.size))
    have HQ5:=Lib.hid ((hb5.block _ (Array.getElem?_eq_some_iff.1 HQ3.out).1).trans HQ3.out)
    obtain ⟨zp5,zc5,rfl⟩:=tab_slice hz5
    obtain ⟨zl5,hzl5⟩:∃ l,T.length=l:=⟨_,rfl⟩
    rw [hzl5] at hz5 HZ5 ⊢
    refine hK _ _ (past_in HD5.out) ?_
    clear hK K hz5 hb5 hzl5
    repeat (go_big_quiet_step (fail))
    refine wpQuiet_nil ?_
    intro K hK
    refine alone_want (by kernel_rfl) ?_
    obtain ⟨fz6,fc6⟩:=one_free HQ5.out
    go_big_op
    have HF6:Hid (TurnAt w9 (x5.setCell ⟨x1.heap.size,0,none⟩ (.slice zp5 zl5 zc5)) x1.heap.size (.slice zp5 zl5 zc5) T):=Lib.hid ⟨one_set HQ5.out,tab_off HQ5.out HZ5.out,HD5.out.setCell (p:=⟨x1.heap.size,0,none⟩) HE2.out _⟩
    refine hK _ _ (past_in HF6.out.bel) ?_
    clear hK K fz6 fc6
    repeat (go_big_quiet_step (fail))
    refine wpQuiet_nil ?_
    go_wp2_with fail
    go_meet
    case rel=>exact ⟨_,_,rfl,rfl,HF6.out⟩
  ·intro K hK
   refine alone_want (by kernel_rfl) ?_
   have hb1:=(Below.refl wz.heap.size wz).alloc (Nat.le_refl _) (.cells #[.slice none 0 0] 41)
   have hq1:=heap_alloc_new wz (.cells #[.slice none 0 0] 41)
   obtain ⟨x1,hy1⟩:∃ y,wz.alloc (.cells #[.slice none 0 0] 41)=y:=⟨_,rfl⟩
   rw [hy1] at hb1 hq1
   go_big_op
   have HQ1:=Lib.hid hq1
   have HE1:=Lib.hid (show w9.heap.size≤wz.heap.size from HD0.out.size)
   have HD1:=Lib.hid (HD0.out.trans (hb1.mono HD0.out.size))
   refine hK _ x1 (past_in HD1.out) ?_
   clear hK K hb1 hq1 hy1
   refine wpQuiet_nil ?_
   intro K hK
   refine alone_want (by kernel_rfl) ?_
   refine wp_append_part _ _ rfl w9.heap.size w4.heap.size (.slice none 0 0) [] (L.drop q) _ _ _ rfl (HadAt.nil _ _ _) (by simp only [Act.eval];exact HV1.out.symm) (by rw [List.length_drop,HN.out]) (HPD.out.below HD1.out) HD1.out.size (by simp;omega) ?_
   intro y2 x2 hh2 hb2 hg2
   have HR2:Hid (HadAt x2 w9.heap.size w4.heap.size y2 (L.drop q)):=Lib.hid (by simpa using hh2)
   have HD2:=Lib.hid (HD1.out.trans hb2)
   have HQ2:=Lib.hid ((hg2.block _ (Array.getElem?_eq_some_iff.1 HQ1.out).1 (by simp [Value.ownBlock])).trans HQ1.out)
   refine hK _ _ (past_in HD2.out) ?_
   clear hK K hh2 hb2 hg2
   simp only [Act.put,List.setIfInBounds_toArray,List.set_cons_zero,List.set_cons_succ]
   refine wpQuiet_nil ?_
   intro K hK
   refine alone_want (by kernel_rfl) ?_
   refine wp_append_part _ _ rfl w9.heap.size w4.heap.size y2 (L.drop q) (L.take q) _ _ _ rfl HR2.out (by simp only [Act.eval];exact HV2.out.symm) (by rw [List.length_take,HN.out];omega) (HPT.out.below HD2.out) HD2.out.size (by rw [List.length_drop,HN.out];omega) ?_
   intro y3 x3 hh3 hb3 hg3
   rw [HK0.out] at hh3
   have HR3:=Lib.hid hh3
   have HD3:=Lib.hid (HD2.out.trans hb3)
   have HQ3:=Lib.hid ((hg3.block _ (Array.getElem?_eq_some_iff.1 HQ2.out).1 (had_ne HR2.out HQ2.out (by decide))).trans HQ2.out)
   refine hK _ _ (past_in HD3.out) ?_
   clear hK K hh3 hb3 hg3
   simp only [Act.put,List.setIfInBounds_toArray,List.set_cons_zero,List.set_cons_succ]
   refine wpQuiet_nil ?_
   intro K hK
   refine alone_want (by kernel_rfl) ?_
   go_big_op
   have hj4:=rjoin_at y3 K0 x3 HR3.out.lines (by rw [HK0L.out];omega) HFW.out
   rw [HX.out] at hj4
   refine hj4.mono ?_
   rintro en x4 ⟨rfl,rfl⟩
   refine hK _ _ (past_in HD3.out) ?_
   clear hK K hj4
   refine wpQuiet_nil ?_
   intro K hK
   refine alone_want (by kernel_rfl) ?_
   go_big_op
   refine (HPX.out x3 (HT9.out.mast.keep HD3.out) (HL9.out.keep HD3.out)).mono ?_
   rintro en x5 ⟨z5,rfl,hz5,hb5⟩
   dsimp only at hz5 ⊢
   have HZ5:=Lib.hid hz5
   have HD5:=Lib.hid (HD3.out.trans (hb5.mono HD3.out.size))
   have HQ5:=Lib.hid ((hb5.block _ (Array.getElem?_eq_some_iff.1 HQ3.out).1).trans HQ3.out)
   obtain ⟨zp5,zc5,rfl⟩:=tab_slice hz5
   obtain ⟨zl5,hzl5⟩:∃ l,T.length=l:=⟨_,rfl⟩
   rw [hzl5] at hz5 HZ5 ⊢
   refine hK _ _ (past_in HD5.out) ?_
   clear hK K hz5 hb5 hzl5
   repeat (go_big_quiet_step (fail))
   refine wpQuiet_nil ?_
   intro K hK
   refine alone_want (by kernel_rfl) ?_
   obtain ⟨fz6,fc6⟩:=one_free HQ5.out
   go_big_op
   have HF6:Hid (TurnAt w9 (x5.setCell ⟨wz.heap.size,0,none⟩ (.slice zp5 zl5 zc5)) wz.heap.size (.slice zp5 zl5 zc5) T):=Lib.hid ⟨one_set HQ5.out,tab_off HQ5.out HZ5.out,HD5.out.setCell (p:=⟨wz.heap.size,0,none⟩) HE1.out _⟩
   refine hK _ _ (past_in HF6.out.bel) ?_
   clear hK K fz6 fc6
   repeat (go_big_quiet_step (fail))
   refine wpQuiet_nil ?_
   go_wp2_with fail
   go_meet
   case rel=>exact ⟨_,_,rfl,rfl,HF6.out⟩
 case rest =>
  obtain ⟨gt,vt,rfl,rfl,ht⟩:=hcut
  rename World=>wx
  have HTA:=Lib.hid ht
  have k0:=ht.cell
  clear ht
  go_wp2_with fail
  clear k0
  refine (HPR.out _ _ HTA.out.tab (HL9.out.keep HTA.out.bel)).mono ?_
  rintro en w11 ⟨rfl,hb11⟩
  have HBE:=Lib.hid ((HB9.out.trans (HTA.out.bel.mono HB9.out.size)).trans (hb11.mono (Nat.le_trans HB9.out.size HTA.out.bel.size)))
  clear hb11
  go_wp2
  go_ret
  exact ⟨rfl,HBE.out⟩
end Go.Proofs.YthcpglnmhimepaaGreatDoor.Cs
end
