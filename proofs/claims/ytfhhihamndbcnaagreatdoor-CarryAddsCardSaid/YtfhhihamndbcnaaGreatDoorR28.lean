/- ChartDocRight ChartDocFind FlowDocKind FlowOurs -/
import Derived.Deep.QuietTactic
import Derived.Laws.StructEq
import Derived.Test.YtfhhihamndbcnaaGreatDoorR13
import Derived.Test.YtfhhihamndbcnaaGreatDoorR17
section
namespace Go.Proofs.YtfhhihamndbcnaaGreatDoor
open Go.RowKit
set_option maxRecDepth 100000 in
set_option maxHeartbeats 8000000 in
theorem rright_any (a:Acct) (w:World):Calls Tryz.prog 122 #[aggA a] w fun e w'=>e=.returned (.bool (rightA a))∧Below w.heap.size w w':=by
 have HB:=Lib.hid ((Below.refl w.heap.size w).alloc (Nat.le_refl _) (.cells #[.string a.code,.int .i64 a.cls,.bool a.cash,.bool a.both,.string a.fixed,.bool a.worn] 172))
 obtain ⟨r,hr⟩:∃ r,rightA a=r:=⟨_,rfl⟩
 rw [hr]
 have HR:=Lib.hid hr
 clear hr
 obtain ⟨co,cl,ca,mu,fi,wo⟩:=a
 simp only at HB HR ⊢
 cases hc:nmB co with
 | false =>
   have HC:=Lib.hid hc
   clear hc
   go_enter Tryz.func122,Tryz.ntmps122
   go_wp2_with (go_at_call 158;refine (rname_is co _ HC.out _).mono ?_;rintro e w' ⟨rfl,rfl⟩)
   go_ret
   exact ⟨ret_bool (by rw [←HR.out];simp [rightA,HC.out]),HB.out⟩
 | true =>
   have HC:=Lib.hid hc
   clear hc
   by_cases h0:cl < 0
   ·go_enter Tryz.func122,Tryz.ntmps122
    go_wp2_with (go_at_call 158;refine (rname_is co _ HC.out _).mono ?_;rintro e w' ⟨rfl,rfl⟩)
    go_ret
    exact ⟨ret_bool (by rw [←HR.out];have:¬ 0≤cl:=(by omega);simp [rightA,this]),HB.out⟩
   ·by_cases h2:2 < cl
    ·go_enter Tryz.func122,Tryz.ntmps122
     go_wp2_with (go_at_call 158;refine (rname_is co _ HC.out _).mono ?_;rintro e w' ⟨rfl,rfl⟩)
     go_ret
     exact ⟨ret_bool (by rw [←HR.out];have:¬ cl < 3:=(by omega);simp [rightA,this]),HB.out⟩
    ·by_cases hf:fi=⟨#[]⟩
     ·subst hf
      rcases (by omega:cl=0∨cl=1∨cl=2) with rfl | rfl | rfl
      all_goals
       clear h0 h2
       cases ca <;> cases mu <;> cases wo
       all_goals
        go_enter Tryz.func122,Tryz.ntmps122
        go_wp2_with (go_at_call 158;refine (rname_is co _ HC.out _).mono ?_;rintro e w' ⟨rfl,rfl⟩)
        go_ret
        exact ⟨ret_bool (by rw [←HR.out];simp [rightA,marksA,HC.out,neB_empty]),HB.out⟩
     ·have hn:=(neB_iff fi).2 hf
      have HN:=Lib.hid hn
      unfold neB at hn
      rcases (by omega:cl=0∨cl=1∨cl=2) with rfl | rfl | rfl
      ·clear h0 h2
       cases hm:nmB fi <;> cases ca <;> cases mu <;> cases wo
       all_goals
        have HM:=Lib.hid hm
        clear hm
        go_enter Tryz.func122,Tryz.ntmps122
        go_wp2_with fail
        refine (rname_is co _ HC.out _).mono ?_
        rintro e w' ⟨rfl,rfl⟩
        go_wp2_with (go_at_call 158;refine (rname_is fi _ HM.out _).mono ?_;rintro e w' ⟨rfl,rfl⟩)
        go_ret
        exact ⟨ret_bool (by rw [←HR.out];simp [rightA,marksA,HC.out,HM.out,HN.out]),HB.out⟩
      all_goals
       clear h0 h2
       cases ca <;> cases mu <;> cases wo
       all_goals
        go_enter Tryz.func122,Tryz.ntmps122
        go_wp2_with (go_at_call 158;refine (rname_is co _ HC.out _).mono ?_;rintro e w' ⟨rfl,rfl⟩)
        go_ret
        exact ⟨ret_bool (by rw [←HR.out];cases hm:nmB fi <;> simp [rightA,marksA,HN.out,hm]),HB.out⟩
end Go.Proofs.YtfhhihamndbcnaaGreatDoor
end
section
namespace Go.Proofs.YtfhhihamndbcnaaGreatDoor.Un
open Go.RowKit
theorem acct_el {w:World} {b o:Nat} {a:Acct} (h:AcctAt w b o a):ElAt encA w b o a:=fun j v hj=>h.cell j v hj
theorem el_acct {w:World} {b o:Nat} {a:Acct} (h:ElAt encA w b o a):AcctAt w b o a:=acct_of fun j v hj=>h j v hj
theorem acct6 {w:World} {b o:Nat} {a:Acct} (h:ElAt encA w b o a):w.cell? ⟨b,o,none⟩=some (.string a.code)∧w.cell? ⟨b,o+1,none⟩=some (.int .i64 a.cls)∧w.cell? ⟨b,o+2,none⟩=some (.bool a.cash)∧w.cell? ⟨b,o+3,none⟩=some (.bool a.both)∧w.cell? ⟨b,o+4,none⟩=some (.string a.fixed)∧w.cell? ⟨b,o+5,none⟩=some (.bool a.worn):=⟨h 0 _ rfl,h 1 _ rfl,h 2 _ rfl,h 3 _ rfl,h 4 _ rfl,h 5 _ rfl⟩
theorem chart_els {w:World} {v:Value} {L:List Acct}:ChartV w v L ↔ ElsV encA w v L:=by
 constructor
 ·rintro ⟨p,c,e,h1,h2,h3,hc⟩
  exact ⟨p,c,e,h1,h2,h3,fun i x hx=>by
   obtain ⟨b,o,e',hat⟩:=hc i x hx
   exact ⟨b,o,e',acct_el hat⟩⟩
 ·rintro ⟨p,c,e,h1,h2,h3,hc⟩
  exact ⟨p,c,e,h1,h2,h3,fun i x hx=>by
   obtain ⟨b,o,e',hat⟩:=hc i x hx
   exact ⟨b,o,e',el_acct hat⟩⟩
set_option maxRecDepth 100000 in
set_option maxHeartbeats 2000000 in
theorem rcfind_any (v:Value) (L:List Acct) (code:ByteArray) (w:World) (h:ChartV w v L) :
 Calls Tryz.prog 91 #[v,.string code] w fun e w'=>e=.returned (.tuple #[aggF (findV (findL L code)),.bool (findL L code).isSome])∧Below w.heap.size w w':=by
 obtain ⟨a,c,rfl,hcap,hm,_,hc⟩:=h
 obtain ⟨n,hn⟩:∃ n,L.length=n:=⟨_,rfl⟩
 obtain ⟨r,hr⟩:∃ r,findL L code=r:=⟨_,rfl⟩
 rw [hn] at hcap ⊢
 rw [hr]
 have HC:=Lib.hid hc
 have HN:=Lib.hid hn
 have HR:=Lib.hid hr
 unfold maxLen at hm
 clear hc hn hr
 obtain ⟨R,hR⟩:∃ R,findV r=R:=⟨_,rfl⟩
 obtain ⟨S,hS⟩:∃ S,r.isSome=S:=⟨_,rfl⟩
 rw [hR,hS]
 have HRV:=Lib.hid hR
 have HSV:=Lib.hid hS
 clear hR hS
 have HB0:=Lib.hid ((Below.refl w.heap.size w).alloc (Nat.le_refl _) (.cells #[.string ⟨#[]⟩,.int .i64 0,.bool false,.bool false,.string ⟨#[]⟩,.bool false] 172))
 have HC0:=Lib.hid (BoxA.new w zeroA 172)
 go_enter Tryz.func91,Tryz.ntmps91
 go_wp2
 go_loopw [6] (fun s6 wr=>∃ i:Nat,i≤n∧s6=.int .i64 (i:Int)∧Below w.heap.size w wr∧w.heap.size < wr.heap.size∧BoxA wr w.heap.size 172 zeroA∧Hid (∀ (j:Nat) (y:Acct),j < i→L[j]?=some y→y.code≠code)) (fun s6 _=>n - (intOf s6).toNat)
 case atStart=>exact ⟨0,Nat.zero_le _,rfl,HB0.out,by simp,HC0.out,Lib.hid fun j y hj=>absurd hj (Nat.not_lt_zero _)⟩
 case round =>
  obtain ⟨i,hi,rfl,hnx,hsz,hbox,HNO⟩:=hrel
  by_cases hlt:i < n
  ·obtain ⟨x,hx⟩:∃ x,L[i]?=some x:=⟨_,List.getElem?_eq_getElem (by rw [HN.out];exact hlt)⟩
   obtain ⟨b,o,rfl,hat⟩:=HC.out i x hx
   obtain ⟨c0,c1,c2,c3,c4,c5⟩:=hat.keep hnx hat.lt
   have HX:=Lib.hid hx
   have HBX:=Lib.hid hbox
   have HNX:=Lib.hid hnx
   have HSZ:=Lib.hid hsz
   clear hx hbox hat hnx hsz
   cases hxe:(x.code.toList==code.toList) with
   | false =>
     have HXE:=Lib.hid ((Lib.bytes_beq_false_iff x.code code).1 hxe)
     go_wp2
     go_roundw
     case rel=>exact ⟨i+1,by omega,by go_num,HNX.out,HSZ.out,HBX.out,Lib.hid fun j y hj hy=>by
      rcases Nat.lt_or_ge j i with h | h
      ·exact HNO.out j y h hy
      ·obtain rfl:j=i:=by omega
       rw [HX.out] at hy;cases hy;exact HXE.out⟩
     case measure=>simp [intOf];omega
   | true =>
     have HXE:=Lib.hid ((Lib.bytes_beq_iff x.code code).1 hxe)
     have hres:Hid (r=some x):=Lib.hid (by rw [←HR.out];exact find_at HNO.out HX.out HXE.out)
     go_wp2_with (refine wpList_store_acct rfl 172 (.tmp 4) (.tmp 23) rfl w.heap.size zeroA x 172 rfl rfl HBX.out (by kernel_rfl) ?_;intro w2 hb2 hg2)
     have HF:=Lib.hid (HNX.out.grown hg2 HNX.out.size (fun j hj=>by cases hj;exact Nat.le_refl _))
     obtain ⟨d0,d1,d2,d3,d4,d5⟩:=hb2.facts
     clear hb2 hg2
     refine bodyPost_ret (v:=.tuple #[aggF x,.bool true]) (by simp [results,Tryz.results91,go_sem,d0,d1,d2,d3,d4,d5]) rfl ⟨?_,HF.out⟩
     rw [←HRV.out,←HSV.out,hres.out];rfl
  ·have hres:Hid (r=none):=Lib.hid (by
    rw [←HR.out]
    refine find_none fun j y hy=>HNO.out j y ?_ hy
    have:=(List.getElem?_eq_some_iff.1 hy).1
    rw [HN.out] at this;omega)
   have HNX:=Lib.hid hnx
   go_wp2_with (refine wpList_store_acct rfl 172 (.tmp 4) (.tmp 24) rfl w.heap.size zeroA zeroA 172 rfl rfl hbox (by kernel_rfl) ?_;intro w2 hb2 hg2)
   have HF:=Lib.hid (HNX.out.grown hg2 HNX.out.size (fun j hj=>by cases hj;exact Nat.le_refl _))
   obtain ⟨d0,d1,d2,d3,d4,d5⟩:=hb2.facts
   clear hb2 hg2
   refine bodyPost_ret (v:=.tuple #[aggF zeroA,.bool false]) (by simp [results,Tryz.results91,go_sem,d0,d1,d2,d3,d4,d5]) rfl ⟨?_,HF.out⟩
   rw [←HRV.out,←HSV.out,hres.out];rfl
end Go.Proofs.YtfhhihamndbcnaaGreatDoor.Un
end
section
namespace Go.Proofs.YtfhhihamndbcnaaGreatDoor.Un
open Go.RowKit
def kindO' (o:Option Fl.Flow):Int:=(o.getD Fl.zeroF).kind
theorem findK_first {α:Type} {key:α→ByteArray} {L:List α} {c:ByteArray} {i:Nat} {x:α} (hb:∀ (j:Nat) (y:α),j < i→L[j]?=some y→key y≠c) (hx:L[i]?=some x) (h:key x=c):findK key L c=some x:=by
 induction L generalizing i with
 | nil=>simp at hx
 | cons a L ih =>
   cases i with
   | zero =>
     simp at hx;subst hx
     simp only [findK];rw [if_pos h]
   | succ i =>
     simp only [findK]
     rw [if_neg (hb 0 a (Nat.succ_pos _) rfl)]
     refine ih (i:=i) (fun j y hj hy=>hb (j+1) y (by omega) (by simpa using hy)) (by simpa using hx)
theorem findK_nowhere {α:Type} {key:α→ByteArray} {L:List α} {c:ByteArray} (h:∀ (j:Nat) (y:α),L[j]?=some y→key y≠c):findK key L c=none :=
 findK_none fun y hy e=>by
  obtain ⟨j,hj,rfl⟩:=List.getElem_of_mem hy
  exact h j _ (List.getElem?_eq_getElem hj) e
set_option maxRecDepth 100000 in
set_option maxHeartbeats 2000000 in
theorem rkind_any (v:Value) (L:List Fl.Flow) (code:ByteArray) (w:World) (h:Fl.FlowsV w v L) :
 Calls Tryz.prog 35 #[v,.string code] w fun e w'=>e=.returned (.tuple #[.int .i64 (kindO' (Fl.findF L code)),.bool (Fl.findF L code).isSome])∧Below w.heap.size w w':=by
 obtain ⟨a,c,rfl,hcap,hm,_,hc⟩:=h
 obtain ⟨n,hn⟩:∃ n,L.length=n:=⟨_,rfl⟩
 obtain ⟨r,hr⟩:∃ r,Fl.findF L code=r:=⟨_,rfl⟩
 rw [hn] at hcap ⊢
 rw [hr]
 have HC:=Lib.hid hc
 have HN:=Lib.hid hn
 have HR:=Lib.hid hr
 unfold maxLen at hm
 clear hc hn hr
 obtain ⟨R,hR⟩:∃ R,kindO' r=R:=⟨_,rfl⟩
 obtain ⟨S,hS⟩:∃ S,r.isSome=S:=⟨_,rfl⟩
 rw [hR,hS]
 have HRV:=Lib.hid hR
 have HSV:=Lib.hid hS
 clear hR hS
 go_enter Tryz.func35,Tryz.ntmps35
 go_wp2
 go_loopw [6] (fun s6 wr=>∃ i:Nat,i≤n∧s6=.int .i64 (i:Int)∧Below w.heap.size w wr∧Hid (∀ (j:Nat) (y:Fl.Flow),j < i→L[j]?=some y→y.code≠code)) (fun s6 _=>n - (intOf s6).toNat)
 case atStart=>exact ⟨0,Nat.zero_le _,rfl,Below.refl _ _,Lib.hid fun j y hj=>absurd hj (Nat.not_lt_zero _)⟩
 case round =>
  obtain ⟨i,hi,rfl,hnx,HNO⟩:=hrel
  by_cases hlt:i < n
  ·obtain ⟨x,hx⟩:∃ x,L[i]?=some x:=⟨_,List.getElem?_eq_getElem (by rw [HN.out];exact hlt)⟩
   obtain ⟨b,o,rfl,hat⟩:=HC.out i x hx
   obtain ⟨c0,c1⟩:=Fl.two (hat.keep hnx hat.lt)
   have HX:=Lib.hid hx
   have HNX:=Lib.hid hnx
   clear hx hat hnx
   cases hxe:(x.code.toList==code.toList) with
   | false =>
     have HXE:=Lib.hid ((Lib.bytes_beq_false_iff x.code code).1 hxe)
     go_wp2
     go_roundw
     case rel=>exact ⟨i+1,by omega,by go_num,HNX.out,Lib.hid fun j y hj hy=>by
      rcases Nat.lt_or_ge j i with h | h
      ·exact HNO.out j y h hy
      ·obtain rfl:j=i:=by omega
       rw [HX.out] at hy;cases hy;exact HXE.out⟩
     case measure=>simp [intOf];omega
   | true =>
     have HXE:=Lib.hid ((Lib.bytes_beq_iff x.code code).1 hxe)
     have hres:Hid (r=some x):=Lib.hid (by rw [←HR.out];exact findK_first HNO.out HX.out HXE.out)
     go_wp2
     go_ret2
     rw [←HRV.out,←HSV.out,hres.out]
     exact ⟨rfl,HNX.out⟩
  ·have hres:Hid (r=none):=Lib.hid (by
    rw [←HR.out]
    refine findK_nowhere fun j y hy=>HNO.out j y ?_ hy
    have:=(List.getElem?_eq_some_iff.1 hy).1
    rw [HN.out] at this;omega)
   have HNX:=Lib.hid hnx
   go_wp2
   go_ret2
   rw [←HRV.out,←HSV.out,hres.out]
   exact ⟨rfl,HNX.out⟩
set_option maxRecDepth 100000 in
set_option maxHeartbeats 2000000 in
theorem rwhole_any (v:Value) (L:List Fl.Flow) (w:World) (h:Fl.FlowsV w v L) (hL:L.length≤1000) :
 Calls Tryz.prog 92 #[v] w fun e w'=>e=.returned (.bool (Fl.wholeTo L 5))∧Below w.heap.size w w':=by
 have HV:=Lib.hid h
 obtain ⟨R,hR⟩:∃ R,Fl.wholeTo L 5=R:=⟨_,rfl⟩
 rw [hR]
 have HR:=Lib.hid hR
 have HLL:=Lib.hid hL
 obtain ⟨p,c,rfl,hcap,hm,_,hc⟩:=h
 obtain ⟨n,hn⟩:∃ n,L.length=n:=⟨_,rfl⟩
 rw [hn] at hcap HV ⊢
 unfold maxLen at hm
 clear hc hR hL hn
 go_enter Tryz.func92,Tryz.ntmps92
 go_wp2
 go_loopw [3] (fun s3 wr=>∃ k:Nat,k≤5∧s3=.int .i64 (k:Int)∧Hid (Below w.heap.size w wr)∧Hid (Fl.wholeTo L k=true)) (fun s3 _=>5 - (intOf s3).toNat)
 case atStart=>exact ⟨0,by omega,rfl,Lib.hid (Below.refl _ _),Lib.hid rfl⟩
 case round =>
  obtain ⟨k,hk,rfl,HNX,HW⟩:=hrel
  by_cases h5:k < 5
  ·have hk5:decide ((k:Int) < 5)=true:=decide_eq_true (by omega)
   by_cases h1:k=1
   ·subst h1
    have HW2:Hid (Fl.wholeTo L 2=true):=Lib.hid (by rw [Fl.wholeTo,HW.out];rfl)
    go_wp2
    go_roundw
    case rel=>exact ⟨2,by omega,by go_num,HNX,HW2⟩
    case measure=>simp [intOf]
   ·have hk1:((k:Int) != 1)=true:=by simp;omega
    have HOF:=Lib.hid (Fl.rof_any (.slice p n c) L (k:Int) wr (HV.out.keep HNX.out) HLL.out)
    obtain ⟨m,hmm⟩:∃ m,(Fl.ofF L (k:Int)).length=m:=⟨_,rfl⟩
    have HMM:=Lib.hid hmm
    have HMB:Hid (m≤1000):=Lib.hid (by rw [←hmm];exact Nat.le_trans (Fl.ofF_len_le L _) HLL.out)
    have HWN:Hid (Fl.wholeTo L (k+1)=decide (m=1)):=Lib.hid (by rw [Fl.wholeTo,HW.out,decide_eq_false (p:=(k:Int)=1) (by omega),hmm];rfl)
    clear hmm
    go_wp2_with fail
    refine HOF.out.mono ?_
    rintro en w1 ⟨v1,rfl,⟨p1,c1,rfl,_,hm1,_⟩,hb1⟩
    rw [HMM.out] at hm1 ⊢
    have HNX1:=Lib.hid (HNX.out.trans (hb1.mono HNX.out.size))
    have hmb:=HMB.out
    clear hb1
    by_cases hm0:m=1
    ·subst hm0
     go_wp2
     go_roundw
     case rel=>exact ⟨k+1,by omega,by go_num,HNX1,Lib.hid (by rw [HWN.out];rfl)⟩
     case measure=>simp [intOf];omega
    ·have hmz:((m:Int) != 1)=true:=by simp;omega
     have HRF:Hid (R=false):=Lib.hid (by
      rw [←HR.out]
      have h0:Fl.wholeTo L (k+1)=false:=by rw [HWN.out];exact decide_eq_false hm0
      have hstep:∀ q,Fl.wholeTo L q=false→Fl.wholeTo L (q+1)=false:=fun q hq=>by rw [Fl.wholeTo,hq];rfl
      rcases (by omega:k=0∨k=1∨k=2∨k=3∨k=4) with rfl | rfl | rfl | rfl | rfl
      ·exact hstep _ (hstep _ (hstep _ (hstep _ h0)))
      ·exact hstep _ (hstep _ (hstep _ h0))
      ·exact hstep _ (hstep _ h0)
      ·exact hstep _ h0
      ·exact h0)
     go_wp2
     go_ret
     exact ⟨ret_bool HRF.out.symm,HNX1.out⟩
  ·obtain rfl:k=5:=by omega
   have HRF:Hid (R=true):=Lib.hid (by rw [←HR.out,HW.out])
   go_wp2
   go_ret
   exact ⟨ret_bool HRF.out.symm,HNX.out⟩
end Go.Proofs.YtfhhihamndbcnaaGreatDoor.Un
end
section
namespace Go.Proofs.YtfhhihamndbcnaaGreatDoor.Fl
open Go.RowKit
def eqF (a b:Flow):Bool:=decide (a=b)
def eqFs (a b:Flow):Bool:=a.code.toList==b.code.toList && a.kind==b.kind
theorem eqFs_eq (a b:Flow):eqFs a b=eqF a b:=by
 unfold eqFs eqF
 rw [Bool.eq_iff_iff]
 simp only [Bool.and_eq_true,beq_iff_eq,decide_eq_true_eq]
 constructor
 ·rintro ⟨h0,h1⟩
  exact Flow.ext' (toList_inj h0) h1
 ·rintro rfl;exact ⟨rfl,rfl⟩
end Go.Proofs.YtfhhihamndbcnaaGreatDoor.Fl
end
