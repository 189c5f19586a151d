/- LexPlain LexBytes SortedG LexMem FlowPlain UnitPlain UnitOk UnitMem UnitBackP InsR EntDoc UnitFind FlowOf CentPlain LexDocName ChartRight2 FlowRight ChartWordsSame Segs FlowWords FlowDocWords -/
import Derived.Test.YtdegffffcbhjbaaGreatDoorQ05
section
namespace Go.Proofs.YtdegffffcbhjbaaGreatDoor
theorem numP_append (a b:List (Nat × List UInt8)):numP (a++b)=numP a++numP b:=by simp [numP]
end Go.Proofs.YtdegffffcbhjbaaGreatDoor
end
section
namespace Go.Proofs.YtdegffffcbhjbaaGreatDoor
open Go.RowKit
set_option maxHeartbeats 400000 in
theorem rletter_any (n:Nat) (w:World) (hn:n < 256):Calls Tryz.prog 92 #[.int .u8 (n:Int)] w fun e w'=>e=.returned (.bool (letB n))∧w=w':=by
 go_enter Tryz.func92,Tryz.ntmps92
 go_wp2
 all_goals
  go_ret
  exact ⟨ret_bdec (by first | omega | (simp;omega)),rfl⟩
end Go.Proofs.YtdegffffcbhjbaaGreatDoor
end
section
namespace Go.Proofs.YtdegffffcbhjbaaGreatDoor.G
open Go.RowKit
section
variable {α κ:Type} [KeyO κ] (key:α→κ)
variable {key}
def insR (key:α→κ):List α→α→List α
 | [],x=>[x]
 | a::L,x=>if KeyO.lt (key x) (key a)=true then x::a::L else a::insR key L x
end
section
variable {α κ:Type} [DecidableEq κ] (key:α→κ)
variable {key}
end
section
variable {α κ:Type} [DecidableEq κ] [KeyO κ] {key:α→κ}
theorem insR_eq {L:List α} {x:α} (hr:riseK key L=true) (h:findK key L (key x)=none):insR key L x=insK key L x:=by
 induction L with
 | nil=>rfl
 | cons a L ih =>
   have hne:key a≠key x:=findK_no h a List.mem_cons_self
   rw [insK_cons]
   simp only [insR]
   by_cases hl:KeyO.lt (key x) (key a)=true
   ·have:KeyO.lt (key a) (key x)=false:=by
     cases h2:KeyO.lt (key a) (key x) with
     | false=>rfl
     | true=>have:=KeyO.trans hl h2;rw [KeyO.irr] at this;cases this
    rw [if_pos hl,if_neg (by rw [this];simp)]
   ·have h2:=KeyO.total (by simpa using hl) (fun e=>hne e.symm)
    rw [if_neg hl,if_pos h2,ih (riseK_tail hr) (findK_none fun y hy=>findK_no h y (List.mem_cons_of_mem _ hy))]
end
end Go.Proofs.YtdegffffcbhjbaaGreatDoor.G
end
section
namespace Go.Proofs.YtdegffffcbhjbaaGreatDoor
open Go.RowKit
theorem strs_new (w:World) (ws:List ByteArray) (t:TypeId) (hl:ws.length≤maxLen):StrsV (w.alloc (.cells (ws.map Value.string).toArray t)) (.slice (some ⟨w.heap.size,0,none⟩) ws.length ws.length) ws :=
 ⟨_,_,rfl,Nat.le_refl _,hl,fun i x hx=>⟨w.heap.size,0,rfl,by
  rw [Nat.zero_add,cell_of_row _ w.heap.size i _ t (0,0) (heap_alloc_new w _)]
  simp [hx]⟩⟩
end Go.Proofs.YtdegffffcbhjbaaGreatDoor
end
section
namespace Go.Proofs.YtdegffffcbhjbaaGreatDoor.Fl
open Go.RowKit
theorem rise_ones {L:List Flow} (h:riseF L=true):onesF L:=by
 unfold riseF at h;rw [Bool.and_eq_true,decide_eq_true_eq] at h;exact h.2
def wholeTo (L:List Flow):Nat→Bool
 | 0=>true
 | i+1=>wholeTo L i && (decide ((i:Int)=1) || decide ((ofF L (i:Int)).length=1))
theorem whole_eq {L:List Flow} (h:onesF L):wholeTo L 5=wholeF L:=by
 have h0:=h 0 (by omega) (by omega)
 have h2:=h 2 (by omega) (by omega)
 have h3:=h 3 (by omega) (by omega)
 have h4:=h 4 (by omega) (by omega)
 have e:∀ n:Nat,n≤1→decide (n=1)=decide (0 < n):=fun n hn=>by
  rw [Bool.eq_iff_iff];simp;omega
 simp [wholeTo,wholeF,hasF,e _ h0,e _ h2,e _ h3,e _ h4]
end Go.Proofs.YtdegffffcbhjbaaGreatDoor.Fl
end
section
namespace Go.Proofs.YtdegffffcbhjbaaGreatDoor.Un
open Go.RowKit
abbrev encA:Enc Acct:=⟨Acct.cells,6,fun _=>rfl,by decide,fun a v hv=>by simp [Acct.cells] at hv;rcases hv with rfl | rfl | rfl | rfl | rfl | rfl <;> rfl⟩
end Go.Proofs.YtdegffffcbhjbaaGreatDoor.Un
end
section
namespace Go.Proofs.YtdegffffcbhjbaaGreatDoor.Un
open Go.RowKit
theorem riseF_eq:∀ L:List Fl.Flow,riseK Fl.Flow.code L=G.riseK Fl.Flow.code L
 | []=>rfl
 | [_]=>rfl
 | a::b::L=>by
   have:=riseF_eq (b::L)
   unfold riseK G.riseK
   rw [this];rfl
end Go.Proofs.YtdegffffcbhjbaaGreatDoor.Un
end
section
namespace Go.Proofs.YtdegffffcbhjbaaGreatDoor.Un
open Go.RowKit
theorem BoxM.new (w:World) (c f e l:Value) (M:Mast) (t:TypeId):BoxM (w.alloc (.cells (cellsM c f e l M) t)) w.heap.size t c f e l M:=heap_alloc_new w _
end Go.Proofs.YtdegffffcbhjbaaGreatDoor.Un
end
section
namespace Go.Proofs.YtdegffffcbhjbaaGreatDoor.Un
open Go.RowKit
theorem allE_parts {M:Mast} (h:allE M=0):M.cur≠emp∧rolesN M=true∧linesN M=true∧Fl.wholeF M.flows=true∧rolesP M=true:=by
 unfold allE at h
 split at h
 ·simp at h
 ·rename_i h1
  split at h
  ·simp at h
  ·rename_i h2
   split at h
   ·simp at h
   ·rename_i h3
    simp only [Bool.or_eq_true,decide_eq_true_eq,Bool.not_eq_true',not_or,Bool.not_eq_false] at h1
    exact ⟨h1.1.1,h1.1.2,h1.2,by simpa using h2,by simpa using h3⟩
theorem Inv.right {l:List (List ByteArray)} {M:Mast} (h:Inv l M):∀ a∈M.chart,rightA a=true:=fun a ha=>by
 have:=(h.chart.mem_iff).1 ha
 obtain ⟨ws,_,hw⟩:=List.mem_filterMap.1 this
 unfold acO at hw
 split at hw
 ·rename_i h2
  cases hw
  exact (parse_ok h2.2).2
 ·cases hw
theorem Inv.rightF {l:List (List ByteArray)} {M:Mast} (h:Inv l M):∀ a∈M.flows,Fl.rightF a=true:=fun a ha=>by
 have:=(h.flows.mem_iff).1 ha
 obtain ⟨ws,_,hw⟩:=List.mem_filterMap.1 this
 unfold flO at hw
 split at hw
 ·rename_i h2
  cases hw
  rcases Fl.parse_err ws with e | ⟨_,e,_⟩
  ·rw [e] at h2;simp at h2
  ·exact e
 ·cases hw
theorem Inv.no_emp {l:List (List ByteArray)} {M:Mast} (h:Inv l M):hasA M.chart emp=false:=by
 unfold hasA
 rw [findL_none]
 ·rfl
 ·intro hm
  obtain ⟨a,ha,hc⟩:=List.mem_map.1 hm
  exact nm_ne (right_parts (h.right a ha)).1 hc
theorem parse_ways (s:ByteArray):(∃ M,runM zeroM (wordsT s)=(M,0)∧Inv (wordsT s) M∧allE M=0∧parseM s=(M,0)∧linE s.data.toList=0)∨((parseM s).1=zeroM∧(parseM s).2≠0):=by
 unfold parseM
 by_cases h0:linE s.data.toList=0
 ·rw [if_pos h0]
  unfold linesM
  cases hr:runM zeroM (wordsT s) with
  | mk M E =>
    by_cases hE:E=0
    ·subst hE
     by_cases ha:allE M=0
     ·exact .inl ⟨M,rfl,run_zero_of hr,ha,endM_ok M ha,h0⟩
     ·right;rw [endM_no M ha];exact ⟨rfl,ha⟩
    ·right
     unfold endM
     rw [if_neg hE];exact ⟨rfl,hE⟩
 ·rw [if_neg h0];exact .inr ⟨rfl,h0⟩
end Go.Proofs.YtdegffffcbhjbaaGreatDoor.Un
end
section
namespace Go.Proofs.YtdegffffcbhjbaaGreatDoor.G
variable {α κ:Type} [KeyO κ] {key:α→κ}
def doneR (key:α→κ) (L:List α) (x:α):Bool:=L.any fun z=>KeyO.lt (key x) (key z)
def midR (key:α→κ) (L:List α) (x:α):List α:=if doneR key L x=true then insR key L x else L
theorem doneR_snoc (L:List α) (x y:α):doneR key (L++[y]) x=(doneR key L x || KeyO.lt (key x) (key y)):=by simp [doneR,List.any_append]
theorem insR_snoc (A:List α) (x y:α):insR key (A++[y]) x=if doneR key A x=true then insR key A x++[y] else if KeyO.lt (key x) (key y)=true then A++[x,y] else A++[y,x]:=by
 induction A with
 | nil=>simp [insR,doneR]
 | cons a A ih =>
   rw [List.cons_append]
   simp only [insR]
   by_cases h:KeyO.lt (key x) (key a)=true
   ·rw [if_pos h,if_pos h,if_pos (by simp [doneR,h])];rfl
   ·rw [if_neg h,if_neg h,ih]
    have e:doneR key (a::A) x=doneR key A x:=by
     unfold doneR
     rw [List.any_cons,Bool.eq_false_iff.2 h,Bool.false_or]
    rw [e]
    by_cases h1:doneR key A x=true
    ·rw [if_pos h1,if_pos h1];rfl
    ·rw [if_neg h1,if_neg h1]
     split <;> rfl
theorem insR_none {A:List α} {x:α} (h:doneR key A x=false):insR key A x=A++[x]:=by
 induction A with
 | nil=>rfl
 | cons a A ih =>
   unfold doneR at h
   rw [List.any_cons,Bool.or_eq_false_iff] at h
   simp only [insR]
   rw [if_neg (by rw [h.1];simp),ih h.2];rfl
theorem midR_there {A:List α} {x:α} (y:α) (h:doneR key A x=true):midR key (A++[y]) x=midR key A x++[y]:=by
 unfold midR
 rw [if_pos (by rw [doneR_snoc,h];rfl),if_pos h,insR_snoc,if_pos h]
theorem midR_now {A:List α} {x y:α} (h:doneR key A x=false) (h1:KeyO.lt (key x) (key y)=true):midR key (A++[y]) x=midR key A x++[x]++[y]:=by
 unfold midR
 rw [if_pos (by rw [doneR_snoc,h,h1];rfl),if_neg (by rw [h];simp),insR_snoc,if_neg (by rw [h];simp),if_pos h1]
 simp
theorem midR_not {A:List α} {x y:α} (h:doneR key A x=false) (h1:KeyO.lt (key x) (key y)=false):midR key (A++[y]) x=midR key A x++[y]:=by
 unfold midR
 rw [if_neg (by rw [doneR_snoc,h,h1];simp),if_neg (by rw [h];simp)]
theorem midR_end {A:List α} {x:α} (h:doneR key A x=true):midR key A x=insR key A x:=by unfold midR;rw [if_pos h]
theorem midR_last {A:List α} {x:α} (h:doneR key A x=false):midR key A x++[x]=insR key A x:=by
 unfold midR
 rw [if_neg (by rw [h];simp),insR_none h]
theorem insR_length (L:List α) (x:α):(insR key L x).length=L.length+1:=by
 induction L with
 | nil=>rfl
 | cons a L ih =>
   simp only [insR]
   split
   ·simp
   ·simp [ih]
theorem midR_length (L:List α) (x:α):(midR key L x).length≤L.length+1:=by
 unfold midR
 split
 ·rw [insR_length];exact Nat.le_refl _
 ·omega
end Go.Proofs.YtdegffffcbhjbaaGreatDoor.G
end
section
namespace Go.Proofs.YtdegffffcbhjbaaGreatDoor.Un
open Go.RowKit
theorem info_rent:InfoE Tryz.prog 33 146 encE :=
 InfoE.of (z:=.agg #[.string ⟨#[]⟩,.string ⟨#[]⟩]) (n:=32) Tryz.underlying33 (by kernel_rfl) (by kernel_rfl) (by decide)
structure InsAt {α κ:Type} [G.KeyO κ] (E:Enc α) (key:α→κ) (e:TypeId) (W0 wr:World) (L:List α) (x:α) (i:Nat) (s6:Value):Prop where
 own:wr.ownsRow W0.heap.size e E.k s6 (G.midR key (L.take i) x).length (flat E (G.midR key (L.take i) x))
 bel:Below W0.heap.size W0 wr
 no:∀ (j:Nat) (y:α),j < i→L[j]?=some y→key y≠key x
theorem InsAt.drewN {α κ:Type} [G.KeyO κ] {E:Enc α} {key:α→κ} {e:TypeId} {W0 wr:World} {L:List α} {x:α} {i:Nat} {s6:Value} (h:InsAt E key e W0 wr L x i s6) (q:Nat):InsAt E key e W0 (wr.drewN q) L x i s6:=⟨h.own,below_drewN h.bel q,h.no⟩
theorem mid_small {α κ:Type} [G.KeyO κ] {key:α→κ} {L:List α} {x:α} {i n:Nat} (hn:L.length=n) (h:n≤1000):(G.midR key (L.take i) x).length≤1000000:=by
 have h1:=G.midR_length (key:=key) (L.take i) x
 rw [List.length_take] at h1
 omega
theorem mid_small1 {α κ:Type} [G.KeyO κ] {key:α→κ} {L:List α} {x:α} {i n:Nat} (hn:L.length=n) (h:n≤1000):(G.midR key (L.take i) x++[x]).length≤1000000:=by
 have h1:=G.midR_length (key:=key) (L.take i) x
 rw [List.length_take] at h1
 rw [List.length_append,List.length_singleton]
 omega
theorem mid_small0 {α κ:Type} [G.KeyO κ] {key:α→κ} {L:List α} {x:α} {n:Nat} (hn:L.length=n) (h:n≤1000):(G.midR key L x).length≤1000000:=by
 have h1:=G.midR_length (key:=key) L x
 omega
theorem entE_there {L:List Ent} {x y:Ent} {i:Nat} (hy:L[i]?=some y) (he:y.code=x.code):entE L x=7:=by
 unfold entE
 rw [if_pos]
 have hm:=List.mem_of_getElem? hy
 cases hf:G.findK Ent.code L x.code with
 | some z=>rfl
 | none=>exact absurd he (G.findK_no hf y hm)
theorem entE_not {L:List Ent} {x:Ent} (h:∀ (j:Nat) (y:Ent),L[j]?=some y→y.code≠x.code):entE L x=if 60≤L.length then 4 else 0:=by
 unfold entE
 rw [if_neg]
 rw [G.findK_none (fun y hy e=>by
  obtain ⟨j,hj,rfl⟩:=List.getElem_of_mem hy
  exact h j _ (List.getElem?_eq_getElem hj) e)]
 simp
def ListTold {α:Type} (E:Enc α) (w:World) (v:Value) (L:List α) (n:Int) (en:Ending) (w':World):Prop:=∃ v',en=.returned (.tuple #[v',.int .i64 n])∧(n≠0→v'=v)∧(n=0→∃ t,w'.ownsRow w.heap.size t E.k v' L.length (flat E L))∧Below w.heap.size w w'
set_option maxRecDepth 100000 in
set_option maxHeartbeats 4000000 in
theorem rent_any (v:Value) (L:List Ent) (x:Ent) (w:World) (h:ElsV encE w v L) (hL:L.length≤1000) :
 Calls Tryz.prog 121 #[v,aggE x] w (ListTold encE w v (G.insR Ent.code L x) (entE L x)):=by
 have hB0:=(Below.refl w.heap.size w).alloc (Nat.le_refl _) (.cells #[.string x.code,.string x.cur] 146)
 have hX0:=BoxE.new encE w x 146
 have hV0:=h.keep hB0
 have hS0:(w.alloc (.cells #[.string x.code,.string x.cur] 146)).heap.size=w.heap.size+1:=World.size_alloc ..
 obtain ⟨W0,hW0⟩:∃ W0,w.alloc (.cells #[.string x.code,.string x.cur] 146)=W0:=⟨_,rfl⟩
 have hX0':BoxE encE W0 w.heap.size 146 x:=by rw [←hW0];exact hX0
 rw [hW0] at hB0 hV0 hS0
 have HB0:=Lib.hid hB0
 have HX0:=Lib.hid hX0'
 have HV0:=Lib.hid hV0
 have HS0:=Lib.hid hS0
 obtain ⟨p,c,e,hcap,hm,_,hc⟩:=hV0
 subst e
 obtain ⟨n,hn⟩:∃ n,L.length=n:=⟨_,rfl⟩
 rw [hn] at hcap hL HV0 ⊢
 obtain ⟨N,hN⟩:∃ N,entE L x=N:=⟨_,rfl⟩
 rw [hN]
 have HC:=Lib.hid hc
 have HN:=Lib.hid hn
 have HE:=Lib.hid hN
 have HI:=Lib.hid info_rent
 unfold maxLen at hm
 have HST:Hid (InsAt encE Ent.code 146 W0 W0 L x 0 (.slice none 0 0)):=Lib.hid ⟨World.ownsRow_nil _ _ _ _,Below.refl _ _,fun j y hj=>absurd hj (Nat.not_lt_zero _)⟩
 clear h hB0 hX0 hX0' hS0 hc hn hN
 go_enter Tryz.func121,Tryz.ntmps121
 go_wp2
 clear hW0
 go_loopw [6,7,8] (fun s6 s7 s8 wr=>∃ (i:Nat) (v6:Value),i≤n∧s8=.int .i64 (i:Int)∧v6=s6∧s7=.bool (G.doneR Ent.code (L.take i) x)∧Hid (InsAt encE Ent.code 146 W0 wr L x i v6)) (fun _ _ s8 _=>n - (intOf s8).toNat)
 case atStart=>exact ⟨0,_,Nat.zero_le _,rfl,rfl,rfl,HST⟩
 case round =>
  obtain ⟨i,v6,hi,rfl,rfl,rfl,HA⟩:=hrel
  by_cases hlt:i < n
  ·obtain ⟨y,hy⟩:∃ y,L[i]?=some y:=⟨_,List.getElem?_eq_getElem (by rw [HN.out];exact hlt)⟩
   obtain ⟨b,o,rfl,hat⟩:=HC.out i y hy
   obtain ⟨d0,d1⟩:=ent2 (hat.keep HA.out.bel hat.lt)
   obtain ⟨q0,q1⟩:=ent2 ((HX0.out.keep HA.out.bel HX0.out.lt).at0)
   have HY:=Lib.hid hy
   have HAT:=Lib.hid hat
   have HTK:Hid (L.take (i+1)=L.take i++[y]):=Lib.hid (by rw [List.take_succ_eq_append_getElem (by rw [HN.out];exact hlt),(List.getElem?_eq_some_iff.1 hy).2])
   obtain ⟨D,hD⟩:∃ D,G.doneR Ent.code (L.take i) x=D:=⟨_,rfl⟩
   have HD:=Lib.hid hD
   rw [hD]
   clear hy hat hD
   cases hye:(y.code.toList==x.code.toList) with
   | true =>
     have HYE:=Lib.hid ((Lib.bytes_beq_iff y.code x.code).1 hye)
     have HRS:Hid (N=7):=Lib.hid (by rw [←HE.out];exact entE_there HY.out HYE.out)
     go_wp2_with fail
     go_big_quiet (fail)
     clear d0 d1 q0 q1 hye
     go_wp2
     go_ret2
     have HQ:=HA.out.drewN nq
     rw [HRS.out]
     exact ⟨_,rfl,fun _=>rfl,fun h=>absurd h (by decide),HB0.out.trans (HQ.bel.mono HB0.out.size)⟩
   | false =>
     have HYE:=Lib.hid ((Lib.bytes_beq_false_iff y.code x.code).1 hye)
     go_wp2_with fail
     go_big_quiet (fail)
     clear hye
     have HA1:=Lib.hid (HA.out.drewN nq)
     clear d0 d1 q0 q1 HA
     generalize wr.drewN nq=wq at *
     obtain ⟨d0,d1⟩:=ent2 (HAT.out.keep HA1.out.bel HAT.out.lt)
     obtain ⟨q0,q1⟩:=ent2 ((HX0.out.keep HA1.out.bel HX0.out.lt).at0)
     cases D with
     | true =>
       go_wp2_with fail
       go_big_quiet (fail)
       have HA2:=Lib.hid (HA1.out.drewN nq)
       clear d0 d1 q0 q1 HA1
       generalize wq.drewN nq=w2 at *
       obtain ⟨d0,d1⟩:=ent2 (HAT.out.keep HA2.out.bel HAT.out.lt)
       obtain ⟨q0,q1⟩:=ent2 ((HX0.out.keep HA2.out.bel HX0.out.lt).at0)
       have HB3:=Lib.hid ((Below.refl w2.heap.size w2).alloc (Nat.le_refl _) (.cells (encE.cs y).toArray 146))
       go_wp2_with (at_builtin;refine wpList_append_el (E:=encE) rfl _ _ 33 146 rfl HI.out W0.heap.size _ y w2.heap.size (HA2.out.own.alloc _) rfl (el_new encE w2 y _) (by have:=HA2.out.bel.size;simp;omega) (mid_small HN.out hL) ?_;intro v9 w9 hr9 hb9 hg9)
       have HA9:Hid (InsAt encE Ent.code 146 W0 w9 L x (i+1) v9):=Lib.hid ⟨by rw [HTK.out,G.midR_there y HD.out];exact hr9,(HA2.out.bel.trans (HB3.out.mono HA2.out.bel.size)).trans hb9,no_snoc HA2.out.no HY.out HYE.out⟩
       have HD9:Hid (G.doneR Ent.code (L.take (i+1)) x=true):=Lib.hid (by rw [HTK.out,G.doneR_snoc,HD.out];first | rfl | (rw [HLT.out];rfl))
       clear hr9 hb9 hg9 d0 d1 q0 q1
       go_wp2
       go_roundw
       case rel=>exact ⟨i+1,_,by omega,by go_num,rfl,by rw [HD9.out],HA9⟩
       case measure=>simp [intOf];omega
     | false =>
       cases hlx:gtS y.code x.code with
       | true =>
         have HLT:Hid (G.KeyO.lt (Ent.code x) (Ent.code y)=true):=Lib.hid ((gtS_iff _ _).1 hlx)
         unfold gtS ltS at hlx
         simp only [Bool.not_eq_true',Bool.or_eq_false_iff] at hlx
         obtain ⟨g1,g2⟩:=hlx
         go_wp2_with fail
         go_big_quiet (fail)
         clear g1 g2
         have HA2:=Lib.hid (HA1.out.drewN nq)
         clear d0 d1 q0 q1 HA1
         generalize wq.drewN nq=w2 at *
         obtain ⟨d0,d1⟩:=ent2 (HAT.out.keep HA2.out.bel HAT.out.lt)
         obtain ⟨q0,q1⟩:=ent2 ((HX0.out.keep HA2.out.bel HX0.out.lt).at0)
         have HB3:=Lib.hid ((Below.refl w2.heap.size w2).alloc (Nat.le_refl _) (.cells (encE.cs x).toArray 146))
         go_wp2_with (at_builtin;first
          | (refine wpList_append_el (E:=encE) rfl _ _ 33 146 rfl HI.out W0.heap.size _ x w2.heap.size (HA2.out.own.alloc _) rfl (el_new encE w2 x _) (by have:=HA2.out.bel.size;simp;omega) (mid_small HN.out hL) ?_;intro v8 w8 hr8 hb8 hg8;have HB8:Hid (Below W0.heap.size W0 w8):=Lib.hid ((HA2.out.bel.trans (HB3.out.mono HA2.out.bel.size)).trans hb8);have HO8:=Lib.hid hr8;have HB9:=Lib.hid ((Below.refl w8.heap.size w8).alloc (Nat.le_refl _) (.cells (encE.cs y).toArray 146));clear d0 d1 q0 q1 hr8 hb8 hg8;obtain ⟨d0,d1⟩:=ent2 (HAT.out.keep HB8.out HAT.out.lt))
          | (refine wpList_append_el (E:=encE) rfl _ _ 33 146 rfl HI.out W0.heap.size _ y w8.heap.size (HO8.out.alloc _) rfl (el_new encE w8 y _) (by have:=HB8.out.size;simp;omega) (mid_small1 HN.out hL) ?_;intro v9 w9 hr9 hb9 hg9)
          | fail)
         have HA9:Hid (InsAt encE Ent.code 146 W0 w9 L x (i+1) v9):=Lib.hid ⟨by rw [HTK.out,G.midR_now HD.out HLT.out];exact hr9,(HB8.out.trans (HB9.out.mono HB8.out.size)).trans hb9,no_snoc HA2.out.no HY.out HYE.out⟩
         have HD9:Hid (G.doneR Ent.code (L.take (i+1)) x=true):=Lib.hid (by rw [HTK.out,G.doneR_snoc,HD.out,HLT.out];rfl)
         clear hr9 hb9 hg9 d0 d1
         go_wp2
         go_roundw
         case rel=>exact ⟨i+1,_,by omega,by go_num,rfl,by rw [HD9.out],HA9⟩
         case measure=>simp [intOf];omega
       | false =>
         have HLT:Hid (G.KeyO.lt (Ent.code x) (Ent.code y)=false):=Lib.hid (by
          cases hh:G.KeyO.lt (Ent.code x) (Ent.code y) with
          | false=>rfl
          | true=>rw [(gtS_iff y.code x.code).2 hh] at hlx;cases hlx)
         unfold gtS ltS at hlx
         simp only [Bool.not_eq_false'] at hlx
         go_wp2_with fail
         go_big_quiet (fail)
         clear hlx
         have HA2:=Lib.hid (HA1.out.drewN nq)
         clear d0 d1 q0 q1 HA1
         generalize wq.drewN nq=w2 at *
         obtain ⟨d0,d1⟩:=ent2 (HAT.out.keep HA2.out.bel HAT.out.lt)
         obtain ⟨q0,q1⟩:=ent2 ((HX0.out.keep HA2.out.bel HX0.out.lt).at0)
         have HB3:=Lib.hid ((Below.refl w2.heap.size w2).alloc (Nat.le_refl _) (.cells (encE.cs y).toArray 146))
         go_wp2_with (at_builtin;refine wpList_append_el (E:=encE) rfl _ _ 33 146 rfl HI.out W0.heap.size _ y w2.heap.size (HA2.out.own.alloc _) rfl (el_new encE w2 y _) (by have:=HA2.out.bel.size;simp;omega) (mid_small HN.out hL) ?_;intro v9 w9 hr9 hb9 hg9)
         have HA9:Hid (InsAt encE Ent.code 146 W0 w9 L x (i+1) v9):=Lib.hid ⟨by rw [HTK.out,G.midR_not HD.out HLT.out];exact hr9,(HA2.out.bel.trans (HB3.out.mono HA2.out.bel.size)).trans hb9,no_snoc HA2.out.no HY.out HYE.out⟩
         have HD9:Hid (G.doneR Ent.code (L.take (i+1)) x=false):=Lib.hid (by rw [HTK.out,G.doneR_snoc,HD.out];first | rfl | (rw [HLT.out];rfl))
         clear hr9 hb9 hg9 d0 d1 q0 q1
         go_wp2
         go_roundw
         case rel=>exact ⟨i+1,_,by omega,by go_num,rfl,by rw [HD9.out],HA9⟩
         case measure=>simp [intOf];omega
  ·have hnf:Hid (∀ (j:Nat) (y:Ent),L[j]?=some y→y.code≠x.code):=Lib.hid (fun j y hy=>HA.out.no j y (by have:=(List.getElem?_eq_some_iff.1 hy).1;rw [HN.out] at this;omega) hy)
   have hNN:Hid (N=if 60≤n then 4 else 0):=Lib.hid (by rw [←HE.out,entE_not hnf.out,HN.out])
   have hTA:Hid (L.take i=L):=Lib.hid (List.take_of_length_le (by rw [HN.out];omega))
   rw [hTA.out]
   obtain ⟨D,hD⟩:∃ D,G.doneR Ent.code L x=D:=⟨_,rfl⟩
   have HD:=Lib.hid hD
   rw [hD]
   clear hD
   by_cases h60:60≤n
   ·have HRS:Hid (N=4):=Lib.hid (by rw [hNN.out,if_pos h60])
    go_wp2
    go_ret2
    rw [HRS.out]
    exact ⟨_,rfl,fun _=>rfl,fun h=>absurd h (by decide),HB0.out.trans (HA.out.bel.mono HB0.out.size)⟩
   ·have HRS:Hid (N=0):=Lib.hid (by rw [hNN.out,if_neg h60])
    have HO:=Lib.hid HA.out.own
    rw [hTA.out] at HO
    cases D with
    | true =>
      go_wp2
      go_ret2
      rw [HRS.out]
      exact ⟨_,rfl,fun h=>absurd rfl h,fun _=>⟨_,by rw [←G.midR_end HD.out];exact row_base HO.out HB0.out.size⟩,HB0.out.trans (HA.out.bel.mono HB0.out.size)⟩
    | false =>
      obtain ⟨q0,q1⟩:=ent2 ((HX0.out.keep HA.out.bel HX0.out.lt).at0)
      have HB3:=Lib.hid ((Below.refl wr.heap.size wr).alloc (Nat.le_refl _) (.cells (encE.cs x).toArray 146))
      go_wp2_with (at_builtin;refine wpList_append_el (E:=encE) rfl _ _ 33 146 rfl HI.out W0.heap.size _ x wr.heap.size (HO.out.alloc _) rfl (el_new encE wr x _) (by have:=HA.out.bel.size;simp;omega) (mid_small0 HN.out hL) ?_;intro v9 w9 hr9 hb9 hg9)
      have HO9:=Lib.hid hr9
      have HB9:=Lib.hid ((HA.out.bel.trans (HB3.out.mono HA.out.bel.size)).trans hb9)
      clear hr9 hb9 hg9 q0 q1
      go_wp2
      go_ret2
      rw [HRS.out]
      exact ⟨_,rfl,fun h=>absurd rfl h,fun _=>⟨_,by rw [←G.midR_last HD.out];exact row_base HO9.out HB0.out.size⟩,HB0.out.trans (HB9.out.mono HB0.out.size)⟩
end Go.Proofs.YtdegffffcbhjbaaGreatDoor.Un
end
section
namespace Go.Proofs.YtdegffffcbhjbaaGreatDoor.Un
open Go.RowKit
set_option maxRecDepth 100000 in
set_option maxHeartbeats 4000000 in
theorem rfind_any (c f e l:Value) (M:Mast) (code:ByteArray) (w:World) (h:MastIn w c f e l M) :
 Calls Tryz.prog 38 #[aggM c f e l M,.string code] w fun en w'=>en=.returned (.tuple #[.string (curO (G.findK Ent.code M.ents code)),.bool (G.findK Ent.code M.ents code).isSome])∧Below w.heap.size w w':=by
 have HB0:=Lib.hid ((Below.refl w.heap.size w).alloc (Nat.le_refl _) (.cells (cellsM c f e l M) 36))
 have HN0:=Lib.hid (nine_new w c f e l M 36)
 have HM0:=Lib.hid (h.keep HB0.out)
 obtain ⟨r,hr⟩:∃ r,G.findK Ent.code M.ents code=r:=⟨_,rfl⟩
 rw [hr]
 have HR:=Lib.hid hr
 obtain ⟨R,hR⟩:∃ R,curO r=R:=⟨_,rfl⟩
 obtain ⟨S,hS⟩:∃ S,r.isSome=S:=⟨_,rfl⟩
 rw [hR,hS]
 have HRV:=Lib.hid hR
 have HSV:=Lib.hid hS
 clear hr hR hS h
 obtain ⟨W,hW⟩:∃ W,w.alloc (.cells (cellsM c f e l M) 36)=W:=⟨_,rfl⟩
 rw [hW] at HB0 HN0 HM0
 obtain ⟨pl,cl,el,hlc,hlm,_,hlv⟩:=HM0.out.ents
 subst el
 obtain ⟨n,hn⟩:∃ n,M.ents.length=n:=⟨_,rfl⟩
 rw [hn] at hlc
 have HN:=Lib.hid hn
 have HLV:=Lib.hid hlv
 unfold maxLen at hlm
 rw [hn] at HN0 HM0 ⊢
 rw [hn] at hW
 clear hlv hn
 obtain ⟨c0,c1,c2,c3,c4,c5,c6,c7,c8⟩:=HN0.out
 go_enter Tryz.func38,Tryz.ntmps38
 go_wp2
 clear c0 c1 c2 c3 c4 c5 c6 c7 c8 hW
 go_loopw [6] (fun si wr=>∃ i:Nat,i≤n∧si=.int .i64 (i:Int)∧Hid (Below W.heap.size W wr)∧Hid (∀ (j:Nat) (y:Ent),j < i→M.ents[j]?=some y→Ent.code y≠code)) (fun si _=>n - (intOf si).toNat)
 case atStart=>exact ⟨0,Nat.zero_le _,rfl,Lib.hid (Below.refl _ _),Lib.hid fun j y hj=>absurd hj (Nat.not_lt_zero _)⟩
 case round =>
  obtain ⟨i,hi,rfl,HBR,HNO⟩:=hrel
  by_cases hlt:i < n
  ·obtain ⟨x,hx⟩:∃ x,M.ents[i]?=some x:=⟨_,List.getElem?_eq_getElem (by rw [HN.out];exact hlt)⟩
   obtain ⟨b,o,rfl,hat⟩:=HLV.out i x hx
   obtain ⟨d0,d1⟩:=ent2 (hat.keep HBR.out hat.lt)
   have HX:=Lib.hid hx
   clear hx hat
   have HBX:=Lib.hid (Below.refl wr.heap.size wr)
   obtain ⟨k0,k1,k2,k3,k4,k5,k6,k7,k8⟩:=HN0.out.keep HBR.out HN0.out.lt
   cases h1:(x.code.toList==code.toList) with
   | false =>
     have HNE:=Lib.hid ((Lib.bytes_beq_false_iff x.code code).1 h1)
     go_wp2
     go_roundw
     case rel=>exact ⟨i+1,by omega,by go_num,Lib.hid (HBR.out.trans (HBX.out.mono HBR.out.size)),Lib.hid (no_snoc HNO.out HX.out HNE.out)⟩
     case measure=>simp [intOf];omega
   | true =>
     have HEQ:=Lib.hid ((Lib.bytes_beq_iff x.code code).1 h1)
     have hres:Hid (r=some x):=Lib.hid (by rw [←HR.out];exact G.findK_first HNO.out HX.out HEQ.out)
     go_wp2
     go_ret2
     rw [←HRV.out,←HSV.out,hres.out]
     exact ⟨rfl,HB0.out.trans ((HBR.out.trans (HBX.out.mono HBR.out.size)).mono HB0.out.size)⟩
  ·have hres:Hid (r=none):=Lib.hid (by
    rw [←HR.out]
    refine G.findK_nowhere fun j y hy=>HNO.out j y ?_ hy
    have:=(List.getElem?_eq_some_iff.1 hy).1
    rw [HN.out] at this;omega)
   obtain ⟨k0,k1,k2,k3,k4,k5,k6,k7,k8⟩:=HN0.out.keep HBR.out HN0.out.lt
   go_wp2
   go_ret2
   rw [←HRV.out,←HSV.out,hres.out]
   exact ⟨rfl,HB0.out.trans (HBR.out.mono HB0.out.size)⟩
end Go.Proofs.YtdegffffcbhjbaaGreatDoor.Un
end
section
namespace Go.Proofs.YtdegffffcbhjbaaGreatDoor.Fl
open Go.RowKit
set_option maxRecDepth 100000 in
set_option maxHeartbeats 2000000 in
theorem rof_any (v:Value) (L:List Flow) (k:Int) (w:World) (h:FlowsV w v L) (hL:L.length≤1000) :
 Calls Tryz.prog 119 #[v,.int .i64 k] w (StrsTold w (ofF L k)):=by
 obtain ⟨a,c,rfl,hcap,hm,_,hc⟩:=h
 obtain ⟨i0,hi,hz0,hz1,hz2⟩:=info_parts info_str
 have HI:=Lib.hid (And.intro hi (And.intro hz0 (And.intro hz1 hz2)))
 have HC:=Lib.hid hc
 clear hi hz0 hz1 hz2 hc
 unfold maxLen at hm
 go_enter Tryz.func119,Tryz.ntmps119
 go_wp2
 go_loopw [5,6] (fun s5 s6 wr=>OfAt w 9 L k s5 s6 wr) (fun _ s6 _=>L.length - (intOf s6).toNat)
 case atStart=>exact ⟨0,Nat.zero_le _,rfl,World.ownsRow_nil _ _ _ _,Below.refl _ _⟩
 case round =>
  obtain ⟨i,hik,rfl,hown,hnx⟩:=hrel
  by_cases hlt:i < L.length
  ·obtain ⟨x,hx⟩:∃ x,L[i]?=some x:=⟨_,List.getElem?_eq_getElem hlt⟩
   obtain ⟨b,o,rfl,hat⟩:=HC.out i x hx
   obtain ⟨c0,c1⟩:=two (hat.keep hnx hat.lt)
   have HT:Hid (ofF (L.take (i+1)) k=if x.kind=k then ofF (L.take i) k++[x.code] else ofF (L.take i) k):=Lib.hid (by
    rw [take_at L i hlt]
    rw [List.getElem?_eq_getElem hlt] at hx
    rw [Option.some.inj hx];exact ofF_snoc _ _ _)
   have hle:=ofF_len_le (L.take i) k
   have hlk:(L.take i).length=i:=by rw [List.length_take];omega
   rw [hlk] at hle
   have HLE:=Lib.hid hle
   have hsz:=hnx.size
   clear hx hat hlk hle
   by_cases hk:x.kind=k
   ·have hkz:(x.kind==k)=true:=by simpa using hk
    have HKK:=Lib.hid hk
    clear hk
    go_wp2_with (at_builtin;refine wpList_append_own _ rfl _ _ 67 rfl w.heap.size 9 i0 (.string ⟨#[]⟩) 1 16 Tryz.underlying67 HI.out.1 HI.out.2.1 HI.out.2.2.1 HI.out.2.2.2 rfl (by decide) _ _ _ rfl (hown.alloc _) ⟨wr.heap.size,0,none⟩ 1 1 [.string x.code] rfl rfl (new_cells wr [.string x.code] _) (by intro u hu;simp at hu;subst hu;rfl) (by have:=HLE.out;unfold maxLen;omega) (by have:=HLE.out;omega) (by simp;omega) ?_;intro v' w1 hown' hgrow _)
    go_roundw
    case rel =>
     refine ⟨i+1,by omega,by go_num,?_,?_⟩
     ·rw [HT.out,if_pos HKK.out,List.length_append,List.map_append];exact hown'
     ·exact below_grown (hnx.alloc hsz _) (by simp;omega) (hown.alloc _) hgrow
    case measure=>simp [intOf];omega
   ·have hkz:(x.kind==k)=false:=by simpa using hk
    have HKK:=Lib.hid hk
    clear hk
    go_wp2
    go_roundw
    case rel =>
     refine ⟨i+1,by omega,by go_num,?_,?_⟩
     ·rw [HT.out,if_neg HKK.out];exact hown
     ·exact hnx
    case measure=>simp [intOf];omega
  ·have hf:StrsV wr u5 (ofF L k):=by
    have:L.take i=L:=List.take_of_length_le (by omega)
    rw [this] at hown
    exact strs_of_own hown
   have HF:=Lib.hid hf
   clear hf
   go_wp2
   go_ret
   exact ⟨_,rfl,HF.out,hnx⟩
end Go.Proofs.YtdegffffcbhjbaaGreatDoor.Fl
end
section
namespace Go.Proofs.YtdegffffcbhjbaaGreatDoor
open Go.RowKit (wrap64)
def subV (a b:Int):Int:=if fit (a - b)=true then a - b else 0
def subE (a b:Int):Int:=if fit (a - b)=true then 0 else 2
theorem subV_yes {a b:Int} (h:fit (a - b)=true):subV a b=a - b:=by simp [subV,h]
theorem subE_yes {a b:Int} (h:fit (a - b)=true):subE a b=0:=by simp [subE,h]
theorem subV_no {a b:Int} (h:fit (a - b)=false):subV a b=0:=by simp [subV,h]
theorem subE_no {a b:Int} (h:fit (a - b)=false):subE a b=2:=by simp [subE,h]
end Go.Proofs.YtdegffffcbhjbaaGreatDoor
end
section
namespace Go.Proofs.YtdegffffcbhjbaaGreatDoor
open Go.RowKit
set_option maxHeartbeats 2000000 in
theorem rname_at (s:ByteArray) (w:World) :
 Calls Tryz.prog 55 #[.string s] w fun e w'=>e=.returned (.bool (nameL s.data.toList))∧w=w':=by
 by_cases hl:0 < s.size∧s.size≤12
 ·obtain ⟨h0,h12⟩:=hl
  have HN:=Lib.hid (nameL_eq s h0 h12)
  cases hf:letB s[0].toNat with
  | false =>
    have HF:=Lib.hid hf
    clear hf
    have HR:Hid (nameL s.data.toList=false):=Lib.hid (by rw [HN.out,HF.out];rfl)
    have a1:¬ s.size < 1:=by omega
    have a2:¬ 12 < s.size:=by omega
    go_enter Tryz.func55,Tryz.ntmps55
    go_wp2_with fail
    refine (rletter_any _ _ (UInt8.toNat_lt _)).mono ?_
    rintro e w' ⟨rfl,rfl⟩
    rw [HF.out]
    go_wp2
    go_ret
    exact ⟨ret_bool HR.out.symm,rfl⟩
  | true =>
    have HF:=Lib.hid hf
    clear hf
    have HR:Hid (nameL s.data.toList=s.data.toList.all fun c=>inB c.toNat):=Lib.hid (by rw [HN.out,HF.out];rfl)
    clear HN
    have a1:¬ s.size < 1:=by omega
    have a2:¬ 12 < s.size:=by omega
    go_enter Tryz.func55,Tryz.ntmps55
    go_wp2_with fail
    refine (rletter_any _ _ (UInt8.toNat_lt _)).mono ?_
    rintro e w' ⟨rfl,rfl⟩
    rw [HF.out]
    go_wp2
    go_loop [3] (fun i=>∃ k:Nat,k≤s.size∧i=.int .i64 k∧(s.data.toList.take k).all (fun c=>inB c.toNat)=true) (fun i=>s.size - (intOf i).toNat)
    case atStart=>exact ⟨0,Nat.zero_le _,rfl,rfl⟩
    case round =>
     obtain ⟨k,hk,rfl,hd⟩:=hrel
     have HD:=Lib.hid hd
     clear hd
     by_cases hlt:k < s.size
     ·have hb:s[k].toNat < 256:=UInt8.toNat_lt _
      cases hc:letB s[k].toNat with
      | true =>
        have HC:=Lib.hid hc
        have hin:Hid (inB s[k].toNat=true):=Lib.hid (decide_eq_true (.inl (of_decide_eq_true hc)))
        clear hc
        go_wp2_with fail
        refine (rletter_any _ _ (UInt8.toNat_lt _)).mono ?_
        rintro e w' ⟨rfl,rfl⟩
        rw [HC.out]
        go_wp2
        go_round
        case rel=>exact ⟨k+1,by omega,by go_num,by rw [all_take _ s k hlt,HD.out,hin.out];rfl⟩
        case measure=>simp [intOf];omega
      | false =>
        have HC:=Lib.hid hc
        have hno:¬ (97≤s[k].toNat∧s[k].toNat≤122∨65≤s[k].toNat∧s[k].toNat≤90):=of_decide_eq_false hc
        have HNO:=Lib.hid hno
        clear hc hno
        go_wp2_with fail
        refine (rletter_any _ _ (UInt8.toNat_lt _)).mono ?_
        rintro e w' ⟨rfl,rfl⟩
        rw [HC.out]
        go_wp2
        all_goals
         have hno:=HNO.out
         try simp only [bne_eq_false_iff_eq,bne_iff_ne] at *
        all_goals first
         | (go_ret
            exact ⟨ret_bool (by rw [HR.out,all_no _ s k hlt (decide_eq_false (by omega))]),rfl⟩)
         | (go_round
            case rel=>exact ⟨k+1,by omega,by go_num,by rw [all_take _ s k hlt,HD.out];exact decide_eq_true (by omega)⟩
            case measure=>simp [intOf];omega)
     ·go_wp2
      go_ret
      exact ⟨ret_bool (by rw [HR.out,all_end _ s k hlt hk HD.out]),rfl⟩
 ·have HR:=Lib.hid (nameL_len s hl)
  rcases (by omega:s.size < 1∨(¬ s.size < 1∧12 < s.size)) with a1 | ⟨a1,a2⟩
  ·clear hl
   go_enter Tryz.func55,Tryz.ntmps55
   go_wp2
   go_ret
   exact ⟨ret_bool HR.out.symm,rfl⟩
  ·clear hl
   go_enter Tryz.func55,Tryz.ntmps55
   go_wp2
   go_ret
   exact ⟨ret_bool HR.out.symm,rfl⟩
theorem rname_any (s:ByteArray) (w:World) (_hs:s.size≤maxLen) :
 Calls Tryz.prog 55 #[.string s] w fun e w'=>e=.returned (.bool (nameL s.data.toList))∧w=w':=rname_at s w
end Go.Proofs.YtdegffffcbhjbaaGreatDoor
end
section
namespace Go.Proofs.YtdegffffcbhjbaaGreatDoor
open Go.RowKit
theorem rname_is (s:ByteArray) (b:Bool) (h:nmB s=b) (w:World):Calls Tryz.prog 55 #[.string s] w fun e w'=>e=.returned (.bool b)∧w=w':=by
 rw [←h];exact rname_at s w
end Go.Proofs.YtdegffffcbhjbaaGreatDoor
end
section
namespace Go.Proofs.YtdegffffcbhjbaaGreatDoor.Fl
open Go.RowKit
theorem rname_is (s:ByteArray) (b:Bool) (h:nmB s=b) (w:World):Calls Tryz.prog 55 #[.string s] w fun e w'=>e=.returned (.bool b)∧w=w':=by
 rw [←h];exact rname_at s w
set_option maxRecDepth 100000 in
set_option maxHeartbeats 4000000 in
theorem rright_any (f:Flow) (w:World):Calls Tryz.prog 117 #[aggL f] w fun e w'=>e=.returned (.bool (rightF f))∧Below w.heap.size w w':=by
 have HB:=Lib.hid ((Below.refl w.heap.size w).alloc (Nat.le_refl _) (.cells #[.string f.code,.int .i64 f.kind] 147))
 obtain ⟨r,hr⟩:∃ r,rightF f=r:=⟨_,rfl⟩
 rw [hr]
 have HR:=Lib.hid hr
 clear hr
 obtain ⟨co,k⟩:=f
 simp only at HB HR ⊢
 cases hc:nmB co with
 | false =>
   have HC:=Lib.hid hc
   clear hc
   go_enter Tryz.func117,Tryz.ntmps117
   go_wp2_with (go_at_call 55;refine (rname_is co _ HC.out _).mono ?_;rintro e w' ⟨rfl,rfl⟩)
   go_ret
   exact ⟨ret_bool (by rw [←HR.out];simp [rightF,HC.out]),HB.out⟩
 | true =>
   have HC:=Lib.hid hc
   clear hc
   by_cases h0:0≤k
   ·by_cases h5:k≤4
    ·go_enter Tryz.func117,Tryz.ntmps117
     go_wp2_with (go_at_call 55;refine (rname_is co _ HC.out _).mono ?_;rintro e w' ⟨rfl,rfl⟩)
     go_ret
     exact ⟨ret_bool (by rw [←HR.out];have:k < 5:=(by omega);simp [rightF,HC.out,h0,this]),HB.out⟩
    ·go_enter Tryz.func117,Tryz.ntmps117
     go_wp2_with (go_at_call 55;refine (rname_is co _ HC.out _).mono ?_;rintro e w' ⟨rfl,rfl⟩)
     go_ret
     exact ⟨ret_bool (by rw [←HR.out];have:¬ k < 5:=(by omega);simp [rightF,this];omega),HB.out⟩
   ·go_enter Tryz.func117,Tryz.ntmps117
    go_wp2_with (go_at_call 55;refine (rname_is co _ HC.out _).mono ?_;rintro e w' ⟨rfl,rfl⟩)
    go_ret
    exact ⟨ret_bool (by rw [←HR.out];have:¬ 0≤k:=(by omega);simp [rightF,this]),HB.out⟩
end Go.Proofs.YtdegffffcbhjbaaGreatDoor.Fl
end
section
namespace Go.Proofs.YtdegffffcbhjbaaGreatDoor
open Go.RowKit
set_option maxRecDepth 100000 in
set_option maxHeartbeats 2000000 in
theorem sameWords_any (v u:Value) (vs us:List ByteArray) (w:World) (h:StrsV w v vs) (h':StrsV w u us) :
 Calls Tryz.prog 115 #[v,u] w fun e w'=>e=.returned (.bool (sameW vs us))∧∃ q,w'=w.drewN q:=by
 obtain ⟨a,c,rfl,_,hm,hc⟩:=h
 obtain ⟨a',c',rfl,_,hm',hc'⟩:=h'
 obtain ⟨n,hn⟩:∃ n,vs.length=n:=⟨_,rfl⟩
 obtain ⟨n',hn'⟩:∃ n,us.length=n:=⟨_,rfl⟩
 obtain ⟨r,hr⟩:∃ r,sameW vs us=r:=⟨_,rfl⟩
 rw [hn] at hm ⊢
 rw [hn'] at hm' ⊢
 rw [hr]
 have H:=Lib.hid hc
 have H':=Lib.hid hc'
 have HN:=Lib.hid hn
 have HN':=Lib.hid hn'
 have HR:=Lib.hid hr
 unfold maxLen at hm hm'
 clear hc hc' hn hn' hr
 by_cases hne:n=n'
 ·subst hne
  have hnn:((n:Int) != (n:Int))=false:=by simp
  go_enter Tryz.func115,Tryz.ntmps115
  go_wp2
  go_loopg [5] n (fun kx vi wr=>∃ i q:Nat,vi=.int .i64 (i:Int)∧i≤n∧n - i≤kx∧Hid (wr=w.drewN q)∧Hid (∀ (j:Nat) (x y:ByteArray),j < i→vs[j]?=some x→us[j]?=some y→x=y))
  case atStart=>exact ⟨0,0,rfl,Nat.zero_le _,by omega,rfl,Lib.hid fun j x y hj=>absurd hj (Nat.not_lt_zero _)⟩
  case round =>
   obtain ⟨i,q,rfl,hin,hkx,HW,HA⟩:=hrel
   by_cases hlt:i < n
   ·obtain ⟨x,hx⟩:∃ y,vs[i]?=some y:=⟨_,List.getElem?_eq_getElem (by rw [HN.out];exact hlt)⟩
    obtain ⟨y,hy⟩:∃ y,us[i]?=some y:=⟨_,List.getElem?_eq_getElem (by rw [HN'.out];exact hlt)⟩
    obtain ⟨b1,o1,rfl,d1⟩:=H.out i _ hx
    obtain ⟨b2,o2,rfl,d2⟩:=H'.out i _ hy
    have HX:=Lib.hid hx
    have HY:=Lib.hid hy
    clear hx hy
    rw [←cellD w q,←HW.out] at d1 d2
    have hltz:(i:Int) < (n:Int):=by omega
    cases hxy:(x.toList==y.toList) with
    | true =>
      have HXE:=Lib.hid ((Lib.bytes_beq_iff x y).1 hxy)
      go_wp2_with fail
      go_big_quiet (fail)
      clear d1 d2 hxy
      go_wp2
      go_roundg (n - (i+1))
      case measure=>omega
      case rel=>exact ⟨i+1,q+nq,by first | rfl | go_num,by omega,Nat.le_refl _,Lib.hid (by rw [HW.out,World.drewN_drewN]),Lib.hid fun j z t hj hz ht=>by
       rcases Nat.lt_or_ge j i with h | h
       ·exact HA.out j z t h hz ht
       ·obtain rfl:j=i:=by omega
        rw [HX.out] at hz;rw [HY.out] at ht
        cases hz;cases ht;exact HXE.out⟩
    | false =>
      have HXE:=Lib.hid ((Lib.bytes_beq_false_iff x y).1 hxy)
      go_wp2_with fail
      go_big_quiet (fail)
      clear d1 d2 hxy
      go_wp2
      go_ret
      exact ⟨ret_bool (by rw [←HR.out,sameW_no HX.out HY.out HXE.out]),q+nq,by rw [HW.out,World.drewN_drewN]⟩
   ·have hltz:¬ (i:Int) < (n:Int):=by omega
    go_wp2
    go_ret
    exact ⟨ret_bool (by rw [←HR.out,sameW_yes HN.out HN'.out fun j x y hj=>HA.out j x y (by omega)]),q,HW.out⟩
 ·have hnn:((n:Int) != (n':Int))=true:=by simp;omega
  have HNE:=Lib.hid hne
  clear hne
  go_enter Tryz.func115,Tryz.ntmps115
  go_wp2
  go_ret
  exact ⟨ret_bool (by rw [←HR.out,sameW_len (by rw [HN.out,HN'.out];exact HNE.out)]),0,rfl⟩
end Go.Proofs.YtdegffffcbhjbaaGreatDoor
end
section
namespace Go.Proofs.YtdegffffcbhjbaaGreatDoor
open Go.RowKit
section
variable {P:Program} {md:Region.Mode} {ops:Array Oper} {Q:Exit→Act→World→Prop} {S:World→Prop}
theorem cell_since {B:Nat} {w:World} {ad:Addr} {v:Value} (h:w.cell? ad=some v) (hB:ad.block < B) (p:Since B w):p.goal.cell? ad=some v:=(p.below.cell hB).trans h
theorem since_in {B:Nat} {w0 w:World} (h:Below B w0 w):∃ p:Since B w0,w=p.goal:=⟨⟨w,h⟩,rfl⟩
theorem wp_region_since (B:Nat) {id:Nat} {l:List Oper} {a:Act} {w:World} (p:Plan) (hm:P.follows .mixedOrders=true)
 (hs:(Region.noSelect l.toArray && planB .any l.toArray p (Array.replicate l.toArray.size false) && (planN p==l.toArray.size))=true)
 (hQ:∀ d v c a w,Q (.panic c) (Act.put a d v) w→Q (.panic c) a w)
 (h:wpPlan P l Q (fun w'=>∃ p:Since B w,w'=p.goal) p a w.drew):(Code.region id l.toArray true).wp P Q a w :=
 wp_region_plan_if p hm hs hQ ⟨⟨w.drew,⟨rfl,rfl,rfl,Nat.le_refl _,fun _ _=>rfl⟩⟩,rfl⟩ h
end
end Go.Proofs.YtdegffffcbhjbaaGreatDoor
end
section
namespace Go.Proofs.YtdegffffcbhjbaaGreatDoor.Fl
open Go.RowKit
theorem strs_three (w:World) (x y z:ByteArray) (t:TypeId):StrsV (w.alloc (.cells #[.string x,.string y,.string z] t)) (.slice (some ⟨w.heap.size,0,none⟩) 3 3) [x,y,z] :=
 strs_new w [x,y,z] t (by show 3≤_;unfold maxLen;omega)
theorem below_drewN' {B:Nat} {a w:World} (h:Below B a w) (n:Nat):Below B a (w.drewN n):=⟨h.os,h.tape,h.output,h.size,h.block⟩
end Go.Proofs.YtdegffffcbhjbaaGreatDoor.Fl
end
section
namespace Go.Proofs.YtdegffffcbhjbaaGreatDoor.Fl
open Go.RowKit
theorem kinds_any (w:World):Calls Tryz.prog 152 #[] w fun e w'=>e=.returned (.slice (some ⟨w.heap.size,0,none⟩) 5 5)∧w'=w.alloc (.cells #[.string tOpen,.string tMove,.string tFx,.string tScope,.string tClose] 9):=by
 go_enter Tryz.func152,Tryz.ntmps152
 go_wp2
 go_ret
 exact ⟨rfl,rfl⟩
theorem strs_three2 (w:World) (o:Obj) (x y z:ByteArray) (t:TypeId):StrsV ((w.alloc o).alloc (.cells #[.string x,.string y,.string z] t)) (.slice (some ⟨w.heap.size+1,0,none⟩) 3 3) [x,y,z]:=by
 have:=strs_three (w.alloc o) x y z t
 rwa [World.size_alloc] at this
abbrev kindCells:Obj:=.cells #[.string tOpen,.string tMove,.string tFx,.string tScope,.string tClose] 9
theorem kind_cell (w:World) (n:Nat) (h:n < 5):(w.alloc kindCells).cell? ⟨w.heap.size,n,none⟩=some (.string (kindW (n:Int))):=by
 rw [cell_of_row _ w.heap.size n _ _ (0,0) (heap_alloc_new w _)]
 rcases (by omega:n=0∨n=1∨n=2∨n=3∨n=4) with rfl | rfl | rfl | rfl | rfl <;> rfl
set_option maxRecDepth 100000 in
set_option maxHeartbeats 8000000 in
theorem rwords_ok (co:ByteArray) (k:Nat) (w:World) (hk:k < 5) (h:rightF ⟨co,(k:Int)⟩=true):Calls Tryz.prog 118 #[aggL ⟨co,(k:Int)⟩] w (StrsTold w [tFlow,co,kindW (k:Int)]):=by
 have HR:=Lib.hid (rright_any ⟨co,(k:Int)⟩)
 rw [h] at HR
 have HB:=Lib.hid ((Below.refl w.heap.size w).alloc (Nat.le_refl _) (.cells #[.string co,.int .i64 (k:Int)] 147))
 have HX0:=Lib.hid (BoxE.new encF w ⟨co,(k:Int)⟩ 147)
 clear h
 obtain ⟨kw,hkw⟩:∃ kw,kindW (k:Int)=kw:=⟨_,rfl⟩
 rw [hkw]
 have HKW:=Lib.hid hkw
 clear hkw
 go_enter Tryz.func118,Tryz.ntmps118
 go_wp2_with fail
 refine (HR.out _).mono ?_
 rintro e w1 ⟨rfl,hb1⟩
 have HB1:=Lib.hid (HB.out.trans (hb1.mono HB.out.size))
 have hlt:w.heap.size < w1.heap.size:=by have:=hb1.size;simp at this;omega
 have HX1:=Lib.hid (HX0.out.keep hb1 (by simp))
 obtain ⟨c0,c1⟩:=box HX1.out
 simp only at c0 c1
 clear hb1
 go_wp2_with fail
 have hb2:=(Below.refl w1.heap.size w1).alloc (Nat.le_refl _) kindCells
 obtain ⟨d0,d1⟩:=box (HX1.out.keep hb2 hlt)
 simp only at d0 d1
 have HB2:=Lib.hid (HB1.out.trans (hb2.mono HB1.out.size))
 have hc:=kind_cell w1 k hk
 rw [HKW.out] at hc
 have hk5:(k:Int) < 5:=by omega
 clear hb2
 go_region_with (go_at_call 152;refine (kinds_any _).mono ?_;rintro e w' ⟨rfl,rfl⟩)
 all_goals
  go_wp2
  go_ret
  exact ⟨_,rfl,strs_three2 w1 kindCells tFlow co kw 9,below_drew' (HB2.out.alloc HB2.out.size _)⟩
set_option maxRecDepth 100000 in
set_option maxHeartbeats 4000000 in
theorem rwords_any (f:Flow) (w:World):Calls Tryz.prog 118 #[aggL f] w (StrsTold w (wordsF f)):=by
 cases h:rightF f with
 | false =>
   have HR:=Lib.hid (rright_any f)
   have HB:=Lib.hid ((Below.refl w.heap.size w).alloc (Nat.le_refl _) (.cells #[.string f.code,.int .i64 f.kind] 147))
   rw [h] at HR
   rw [words_nil h]
   clear h
   go_enter Tryz.func118,Tryz.ntmps118
   go_wp2_with fail
   refine (HR.out _).mono ?_
   rintro e w1 ⟨rfl,hb1⟩
   have HB1:=Lib.hid hb1
   clear hb1
   go_wp2
   go_ret
   exact ⟨_,rfl,StrsV.nil _,HB.out.trans (HB1.out.mono HB.out.size)⟩
 | true =>
   rw [words_of h]
   obtain ⟨co,k⟩:=f
   have hk:=(right_parts h).2
   simp only at hk ⊢
   obtain ⟨n,rfl⟩:∃ n:Nat,k=(n:Int):=⟨k.toNat,by omega⟩
   exact rwords_ok co n w (by omega) h
end Go.Proofs.YtdegffffcbhjbaaGreatDoor.Fl
end
