/- UnitFind ChartSame ChartNew FlowOf UnitCheck MapKeys UnitSmall CentPlain FaPlain CentNum PkPlain FaMem PkCheck -/
import Derived.Laws.StructEq
import Derived.Lib.ItoaNum
import Derived.Lib.ParseIntBTie
import Derived.Maps.Ext
import Derived.Maps.RangeWalk
import Derived.Sort.Grow
import Derived.StringKeys
import Derived.Test.YtdhfpgjnjlcciaaGreatDoorQ02
section
namespace Go.Proofs.YtdhfpgjnjlcciaaGreatDoor.Un
open Go.RowKit
def curO (o:Option Ent):ByteArray:=(o.map Ent.cur).getD emp
theorem G.J7 {α κ:Type} [DecidableEq κ] {key:α→κ} {L:List α} {c:κ} {i:Nat} {x:α} (hb:∀ (j:Nat) (y:α),j < i→L[j]?=some y→key y≠c) (hx:L[i]?=some x) (h:key x=c):G.findK key L c=some x:=by
 induction L generalizing i with
 | nil=>simp at hx
 | cons a L ih =>
   cases i with
   | zero =>
     simp at hx;subst hx
     simp only [G.findK];rw [if_pos h]
   | succ i =>
     simp only [G.findK]
     rw [if_neg (hb 0 a (Nat.succ_pos _) rfl)]
     refine ih (i:=i) (fun j y hj hy=>hb (j+1) y (by omega) (by simpa using hy)) (by simpa using hx)
theorem G.YC {α κ:Type} [DecidableEq κ] {key:α→κ} {L:List α} {c:κ} (h:∀ (j:Nat) (y:α),L[j]?=some y→key y≠c):G.findK key L c=none :=
 G.qx fun y hy e=>by
  obtain ⟨j,hj,rfl⟩:=List.getElem_of_mem hy
  exact h j _ (List.getElem?_eq_getElem hj) e
set_option maxRecDepth 100000 in
set_option maxHeartbeats 4000000 in
theorem jh (c f e l:Value) (M:Mast) (code:ByteArray) (w:World) (h:MastIn w c f e l M) :
 Calls Tryz.prog 84 #[aggM c f e l M,.string code] w fun en w'=>en=.returned (.tuple #[.string (curO (G.findK Ent.code M.ents code)),.bool (G.findK Ent.code M.ents code).isSome])∧Below w.heap.size w w':=by
 have HB0:=Lib.hid ((Below.refl w.heap.size w).alloc (Nat.le_refl _) (.cells (cellsM c f e l M) 33))
 have HN0:=Lib.hid (zM w c f e l M 33)
 have HM0:=Lib.hid (h.keep HB0.out)
 obtain ⟨r,hr⟩:∃ r,G.findK Ent.code M.ents code=r:=⟨_,rfl⟩
 rw [hr]
 have HR:=Lib.hid hr
 obtain ⟨R,hR⟩:∃ R,curO r=R:=⟨_,rfl⟩
 obtain ⟨S,hS⟩:∃ S,r.isSome=S:=⟨_,rfl⟩
 rw [hR,hS]
 have HRV:=Lib.hid hR
 have HSV:=Lib.hid hS
 clear hr hR hS h
 obtain ⟨W,hW⟩:∃ W,w.alloc (.cells (cellsM c f e l M) 33)=W:=⟨_,rfl⟩
 rw [hW] at HB0 HN0 HM0
 obtain ⟨pl,cl,el,hlc,hlm,_,hlv⟩:=HM0.out.ents
 subst el
 obtain ⟨n,hn⟩:∃ n,M.ents.length=n:=⟨_,rfl⟩
 rw [hn] at hlc
 have HN:=Lib.hid hn
 have HLV:=Lib.hid hlv
 unfold maxLen at hlm
 rw [hn] at HN0 HM0 ⊢
 rw [hn] at hW
 clear hlv hn
 obtain ⟨c0,c1,c2,c3,c4,c5,c6,c7,c8⟩:=HN0.out
 go_enter Tryz.func84,Tryz.ntmps84
 go_wp2
 clear c0 c1 c2 c3 c4 c5 c6 c7 c8 hW
 go_loopw [11] (fun si wr=>∃ i:Nat,i≤n∧si=.int .i64 (i:Int)∧Hid (Below W.heap.size W wr)∧Hid (∀ (j:Nat) (y:Ent),j < i→M.ents[j]?=some y→Ent.code y≠code)) (fun si _=>n - (intOf si).toNat)
 case atStart=>exact ⟨0,Nat.zero_le _,rfl,Lib.hid (Below.refl _ _),Lib.hid fun j y hj=>absurd hj (Nat.not_lt_zero _)⟩
 case round =>
  obtain ⟨i,hi,rfl,HBR,HNO⟩:=hrel
  by_cases hlt:i < n
  ·obtain ⟨x,hx⟩:∃ x,M.ents[i]?=some x:=⟨_,List.getElem?_eq_getElem (by rw [HN.out];exact hlt)⟩
   obtain ⟨b,o,rfl,hat⟩:=HLV.out i x hx
   obtain ⟨d0,d1⟩:=ent2 (hat.keep HBR.out hat.lt)
   have HX:=Lib.hid hx
   clear hx hat
   have HBX:=Lib.hid ((Below.refl wr.heap.size wr).alloc (Nat.le_refl _) (.cells #[.string x.code,.string x.cur] 219))
   obtain ⟨q0,q1⟩:=ent2 (BoxE.new encE wr x 219).at0
   cases h1:(x.code.toList==code.toList) with
   | false =>
     have HNE:=Lib.hid ((Lib.bytes_beq_false_iff x.code code).1 h1)
     go_wp2
     go_roundw
     case rel=>exact ⟨i+1,by omega,by go_num,Lib.hid (HBR.out.trans (HBX.out.mono HBR.out.size)),Lib.hid (zU HNO.out HX.out HNE.out)⟩
     case measure=>simp [intOf];omega
   | true =>
     have HEQ:=Lib.hid ((Lib.bytes_beq_iff x.code code).1 h1)
     have hres:Hid (r=some x):=Lib.hid (by rw [←HR.out];exact G.J7 HNO.out HX.out HEQ.out)
     go_wp2
     go_ret2
     rw [←HRV.out,←HSV.out,hres.out]
     exact ⟨rfl,HB0.out.trans ((HBR.out.trans (HBX.out.mono HBR.out.size)).mono HB0.out.size)⟩
  ·have hres:Hid (r=none):=Lib.hid (by
    rw [←HR.out]
    refine G.YC fun j y hy=>HNO.out j y ?_ hy
    have:=(List.getElem?_eq_some_iff.1 hy).1
    rw [HN.out] at this;omega)
   go_wp2
   go_ret2
   rw [←HRV.out,←HSV.out,hres.out]
   exact ⟨rfl,HB0.out.trans (HBR.out.mono HB0.out.size)⟩
end Go.Proofs.YtdhfpgjnjlcciaaGreatDoor.Un
end
section
namespace Go.Proofs.YtdhfpgjnjlcciaaGreatDoor
open Go.RowKit
def eqA (a b:Acct):Bool:=decide (a=b)
def eqFs (a b:Acct):Bool:=a.code.toList==b.code.toList && (a.cls==b.cls && (a.cash==b.cash && (a.both==b.both && (a.fixed.toList==b.fixed.toList && a.worn==b.worn))))
theorem zax (a b:Acct):eqFs a b=eqA a b:=by
 unfold eqFs eqA
 rw [Bool.eq_iff_iff]
 simp only [Bool.and_eq_true,beq_iff_eq,decide_eq_true_eq]
 constructor
 ·rintro ⟨h0,h1,h2,h3,h4,h5⟩
  exact Acct.ext' (toList_inj h0) h1 h2 h3 (toList_inj h4) h5
 ·rintro rfl;exact ⟨rfl,rfl,rfl,rfl,rfl,rfl⟩
theorem zbU (a b:Acct) (w:World):Sem.run Tryz.prog (binOp .neq 129 (aggF a) (aggF b)) w=.ok (.bool (!eqA a b)) w:=by
 have hS:Tryz.prog.underlying 129=some (.struct (Tryz.prog.fieldsOf 129)):=by kernel_rfl
 have hp:Tryz.prog.stoodInHeld 129=false:=by kernel_rfl
 rw [run_neq_struct,show (10000:Nat)=9999+1 from rfl,run_equalIn_agg w 9999 129 _ _ hS hp,←zax]
 simp only [Program.fieldsOf,Tryz.underlying129]
 go_simp
 unfold eqFs
 by_cases h0:a.code.toList=b.code.toList
 ·by_cases h1:a.cls=b.cls
  ·by_cases h2:a.cash=b.cash
   ·by_cases h3:a.both=b.both
    ·by_cases h4:a.fixed.toList=b.fixed.toList
     ·by_cases h5:a.worn=b.worn <;> simp [h0,h1,h2,h3,h4,h5]
     ·simp [h0,h1,h2,h3,h4]
    ·simp [h0,h1,h2,h3]
   ·simp [h0,h1,h2]
  ·simp [h0,h1]
 ·simp [h0]
theorem zen:Tryz.prog.eqGuardType Tryz.prog.depth 129=false:=by kernel_rfl
end Go.Proofs.YtdhfpgjnjlcciaaGreatDoor
end
section
namespace Go.Proofs.YtdhfpgjnjlcciaaGreatDoor
open Go.RowKit
theorem Xt (w:World) (cs:List Value) (t:TypeId):∀ (j:Nat) u,cs[j]?=some u→(w.alloc (.cells cs.toArray t)).cell? ((⟨w.heap.size,0,none⟩:Addr).add j)=some u:=fun j u hj=>by
 rw [zl,Nat.zero_add,cell_of_row _ w.heap.size j _ t (0,0) (heap_alloc_new w _)]
 simpa using hj
theorem yZ (w:World) (o:Obj) (cs:List Value) (t:TypeId):∀ (j:Nat) u,cs[j]?=some u→((w.alloc o).alloc (.cells cs.toArray t)).cell? ((⟨w.heap.size+1,0,none⟩:Addr).add j)=some u:=fun j u hj=>by
 have:=Xt (w.alloc o) cs t j u hj
 rwa [World.size_alloc] at this
end Go.Proofs.YtdhfpgjnjlcciaaGreatDoor
end
section
namespace Go.Proofs.YtdhfpgjnjlcciaaGreatDoor.Fl
open Go.RowKit
theorem qG:(Tryz.prog.info? 9).map (fun i=>(i.zero,i.size,i.bytes))=some (some (.string ⟨#[]⟩),1,16):=by kernel_rfl
def Qc (w:World) (ws:List ByteArray) (e:Ending) (w':World):Prop:=∃ v,e=.returned v∧StrsV w' v ws∧Below w.heap.size w w'
def OfAt (w:World) (e:TypeId) (L:List Flow) (k:Int) (s5 si:Value) (wr:World):Prop :=
 ∃ i:Nat,i≤L.length∧si=.int .i64 (i:Int)∧wr.ownsRow w.heap.size e 1 s5 (ofF (L.take i) k).length ((ofF (L.take i) k).map Value.string)∧Below w.heap.size w wr
theorem Vm (L:List Flow) (f:Flow) (k:Int):ofF (L++[f]) k=if f.kind=k then ofF L k++[f.code] else ofF L k:=by
 unfold ofF
 rw [List.filter_append,List.map_append,List.filter_cons]
 by_cases h:f.kind=k <;> simp [h]
theorem ki (L:List Flow) (k:Int):(ofF L k).length≤L.length:=by rw [yx];exact List.length_filter_le _ _
set_option maxRecDepth 100000 in
set_option maxHeartbeats 2000000 in
theorem jX (v:Value) (L:List Flow) (k:Int) (w:World) (h:FlowsV w v L) (hL:L.length≤1000) :
 Calls Tryz.prog 40 #[v,.int .i64 k] w (Qc w (ofF L k)):=by
 obtain ⟨a,c,rfl,hcap,hm,_,hc⟩:=h
 obtain ⟨i0,hi,hz0,hz1,hz2⟩:=info_parts qG
 have HI:=Lib.hid (And.intro hi (And.intro hz0 (And.intro hz1 hz2)))
 have HC:=Lib.hid hc
 clear hi hz0 hz1 hz2 hc
 unfold maxLen at hm
 go_enter Tryz.func40,Tryz.ntmps40
 go_wp2
 go_loopw [5,10] (fun s5 s10 wr=>OfAt w 9 L k s5 s10 wr) (fun _ s10 _=>L.length - (intOf s10).toNat)
 case atStart=>exact ⟨0,Nat.zero_le _,rfl,World.ownsRow_nil _ _ _ _,Below.refl _ _⟩
 case round =>
  obtain ⟨i,hik,rfl,hown,hnx⟩:=hrel
  by_cases hlt:i < L.length
  ·obtain ⟨x,hx⟩:∃ x,L[i]?=some x:=⟨_,List.getElem?_eq_getElem hlt⟩
   obtain ⟨b,o,rfl,hat⟩:=HC.out i x hx
   obtain ⟨c0,c1⟩:=two (hat.keep hnx hat.lt)
   have HT:Hid (ofF (L.take (i+1)) k=if x.kind=k then ofF (L.take i) k++[x.code] else ofF (L.take i) k):=Lib.hid (by
    rw [Ki L i hlt]
    rw [List.getElem?_eq_getElem hlt] at hx
    rw [Option.some.inj hx];exact Vm _ _ _)
   have hle:=ki (L.take i) k
   have hlk:(L.take i).length=i:=by rw [List.length_take];omega
   rw [hlk] at hle
   have HLE:=Lib.hid hle
   have hsz:=hnx.size
   clear hx hat hlk hle
   by_cases hk:x.kind=k
   ·have hkz:(x.kind==k)=true:=by simpa using hk
    have HKK:=Lib.hid hk
    clear hk
    go_wp2_with (at_builtin;refine wpList_append_own _ rfl _ _ 105 rfl w.heap.size 9 i0 (.string ⟨#[]⟩) 1 16 Tryz.underlying105 HI.out.1 HI.out.2.1 HI.out.2.2.1 HI.out.2.2.2 rfl (by decide) _ _ _ rfl ((hown.alloc _).alloc _) ⟨wr.heap.size+1,0,none⟩ 1 1 [.string x.code] rfl rfl (yZ wr _ [.string x.code] _) (by intro u hu;simp at hu;subst hu;rfl) (by have:=HLE.out;unfold maxLen;omega) (by have:=HLE.out;omega) (by simp;omega) ?_;intro v' w1 hown' hgrow _)
    go_roundw
    case rel =>
     refine ⟨i+1,by omega,by go_num,?_,?_⟩
     ·rw [HT.out,if_pos HKK.out,List.length_append,List.map_append];exact hown'
     ·exact below_grown ((hnx.alloc hsz _).alloc (by simp;omega) _) (by simp;omega) ((hown.alloc _).alloc _) hgrow
    case measure=>simp [intOf];omega
   ·have hkz:(x.kind==k)=false:=by simpa using hk
    have HKK:=Lib.hid hk
    clear hk
    go_wp2
    go_roundw
    case rel =>
     refine ⟨i+1,by omega,by go_num,?_,?_⟩
     ·rw [HT.out,if_neg HKK.out];exact hown.alloc _
     ·exact hnx.alloc hsz _
    case measure=>simp [intOf];omega
  ·have hf:StrsV wr u5 (ofF L k):=by
    have:L.take i=L:=List.take_of_length_le (by omega)
    rw [this] at hown
    exact vu hown
   have HF:=Lib.hid hf
   clear hf
   go_wp2
   go_ret
   exact ⟨_,rfl,HF.out,hnx⟩
set_option maxRecDepth 100000 in
set_option maxHeartbeats 2000000 in
theorem Vq (v:Value) (L:List Flow) (k:Int) (w:World) (h:FlowsV w v L) (hL:L.length≤1000) :
 Calls Tryz.prog 46 #[v,.int .i64 k] w (Qc w (ofF L k)):=by
 obtain ⟨a,c,rfl,hcap,hm,_,hc⟩:=h
 obtain ⟨i0,hi,hz0,hz1,hz2⟩:=info_parts qG
 have HI:=Lib.hid (And.intro hi (And.intro hz0 (And.intro hz1 hz2)))
 have HC:=Lib.hid hc
 clear hi hz0 hz1 hz2 hc
 unfold maxLen at hm
 go_enter Tryz.func46,Tryz.ntmps46
 go_wp2
 go_loopw [5,6] (fun s5 s6 wr=>OfAt w 9 L k s5 s6 wr) (fun _ s6 _=>L.length - (intOf s6).toNat)
 case atStart=>exact ⟨0,Nat.zero_le _,rfl,World.ownsRow_nil _ _ _ _,Below.refl _ _⟩
 case round =>
  obtain ⟨i,hik,rfl,hown,hnx⟩:=hrel
  by_cases hlt:i < L.length
  ·obtain ⟨x,hx⟩:∃ x,L[i]?=some x:=⟨_,List.getElem?_eq_getElem hlt⟩
   obtain ⟨b,o,rfl,hat⟩:=HC.out i x hx
   obtain ⟨c0,c1⟩:=two (hat.keep hnx hat.lt)
   have HT:Hid (ofF (L.take (i+1)) k=if x.kind=k then ofF (L.take i) k++[x.code] else ofF (L.take i) k):=Lib.hid (by
    rw [Ki L i hlt]
    rw [List.getElem?_eq_getElem hlt] at hx
    rw [Option.some.inj hx];exact Vm _ _ _)
   have hle:=ki (L.take i) k
   have hlk:(L.take i).length=i:=by rw [List.length_take];omega
   rw [hlk] at hle
   have HLE:=Lib.hid hle
   have hsz:=hnx.size
   clear hx hat hlk hle
   by_cases hk:x.kind=k
   ·have hkz:(x.kind==k)=true:=by simpa using hk
    have HKK:=Lib.hid hk
    clear hk
    go_wp2_with (at_builtin;refine wpList_append_own _ rfl _ _ 105 rfl w.heap.size 9 i0 (.string ⟨#[]⟩) 1 16 Tryz.underlying105 HI.out.1 HI.out.2.1 HI.out.2.2.1 HI.out.2.2.2 rfl (by decide) _ _ _ rfl (hown.alloc _) ⟨wr.heap.size,0,none⟩ 1 1 [.string x.code] rfl rfl (Xt wr [.string x.code] _) (by intro u hu;simp at hu;subst hu;rfl) (by have:=HLE.out;unfold maxLen;omega) (by have:=HLE.out;omega) (by simp;omega) ?_;intro v' w1 hown' hgrow _)
    go_roundw
    case rel =>
     refine ⟨i+1,by omega,by go_num,?_,?_⟩
     ·rw [HT.out,if_pos HKK.out,List.length_append,List.map_append];exact hown'
     ·exact below_grown (hnx.alloc hsz _) (by simp;omega) (hown.alloc _) hgrow
    case measure=>simp [intOf];omega
   ·have hkz:(x.kind==k)=false:=by simpa using hk
    have HKK:=Lib.hid hk
    clear hk
    go_wp2
    go_roundw
    case rel =>
     refine ⟨i+1,by omega,by go_num,?_,?_⟩
     ·rw [HT.out,if_neg HKK.out];exact hown
     ·exact hnx
    case measure=>simp [intOf];omega
  ·have hf:StrsV wr u5 (ofF L k):=by
    have:L.take i=L:=List.take_of_length_le (by omega)
    rw [this] at hown
    exact vu hown
   have HF:=Lib.hid hf
   clear hf
   go_wp2
   go_ret
   exact ⟨_,rfl,HF.out,hnx⟩
set_option maxRecDepth 100000 in
set_option maxHeartbeats 2000000 in
theorem vS (v:Value) (L:List Flow) (k:Int) (w:World) (h:FlowsV w v L) (hL:L.length≤1000) :
 Calls Tryz.prog 134 #[v,.int .i64 k] w fun e w'=>e=.returned (.bool (hasF L k))∧Below w.heap.size w w':=by
 obtain ⟨r,hr⟩:∃ r,hasF L k=r:=⟨_,rfl⟩
 rw [hr]
 have HR:=Lib.hid hr
 clear hr
 have HV:=Lib.hid h
 obtain ⟨a,c,rfl,hcap,hm,_,hc⟩:=h
 clear hc
 unfold maxLen at hm
 go_enter Tryz.func134,Tryz.ntmps134
 go_wp2_with fail
 refine (jX _ L k _ HV.out hL).mono ?_
 rintro e w1 ⟨v1,rfl,hs1,hb1⟩
 obtain ⟨p1,c1,rfl,_,hm1,_⟩:=hs1
 have HB1:=Lib.hid hb1
 obtain ⟨n,hn⟩:∃ n,(ofF L k).length=n:=⟨_,rfl⟩
 have hrn:Hid (r=decide (0 < n)):=Lib.hid (by rw [←HR.out,←hn];rfl)
 rw [hn] at hm1 ⊢
 unfold maxLen at hm1
 clear hn hb1
 by_cases h0:0 < n
 ·have h0z:(0:Int) < (n:Int):=by omega
  go_wp2
  go_ret
  exact ⟨zk (by rw [hrn.out,decide_eq_true h0]),HB1.out⟩
 ·obtain rfl:n=0:=by omega
  go_wp2
  go_ret
  exact ⟨zk (by rw [hrn.out];rfl),HB1.out⟩
set_option maxRecDepth 100000 in
set_option maxHeartbeats 2000000 in
theorem zc2 (v:Value) (L:List Flow) (w:World) (h:FlowsV w v L) (hL:L.length≤1000) :
 Calls Tryz.prog 93 #[v] w fun e w'=>e=.returned (.bool (wholeF L))∧Below w.heap.size w w':=by
 obtain ⟨b0,hb0⟩:∃ b,hasF L 0=b:=⟨_,rfl⟩
 obtain ⟨b2,hb2⟩:∃ b,hasF L 2=b:=⟨_,rfl⟩
 obtain ⟨b3,hb3⟩:∃ b,hasF L 3=b:=⟨_,rfl⟩
 obtain ⟨b4,hb4⟩:∃ b,hasF L 4=b:=⟨_,rfl⟩
 have HC0:=Lib.hid (fun W h=>vS v L 0 W h hL)
 have HC2:=Lib.hid (fun W h=>vS v L 2 W h hL)
 have HC3:=Lib.hid (fun W h=>vS v L 3 W h hL)
 have HC4:=Lib.hid (fun W h=>vS v L 4 W h hL)
 unfold wholeF
 rw [hb0] at HC0 ⊢
 rw [hb2] at HC2 ⊢
 rw [hb3] at HC3 ⊢
 rw [hb4] at HC4 ⊢
 have HV:=Lib.hid h
 clear h hb0 hb2 hb3 hb4
 cases b0 with
 | false =>
   go_enter Tryz.func93,Tryz.ntmps93
   go_wp2_with (go_at_call 134;refine (HC0.out _ HV.out).mono ?_;rintro e w1 ⟨rfl,hb1⟩)
   go_ret
   exact ⟨rfl,hb1⟩
 | true =>
   cases b2 with
   | false =>
     go_enter Tryz.func93,Tryz.ntmps93
     go_wp2_with fail
     refine (HC0.out _ HV.out).mono ?_
     rintro e w1 ⟨rfl,hb1⟩
     have HV1:=Lib.hid (HV.out.keep hb1)
     go_wp2_with (go_at_call 134;refine (HC2.out _ HV1.out).mono ?_;rintro e w2 ⟨rfl,hb2⟩)
     go_ret
     exact ⟨rfl,hb1.trans (hb2.mono hb1.size)⟩
   | true =>
     cases b3 with
     | false =>
       go_enter Tryz.func93,Tryz.ntmps93
       go_wp2_with fail
       refine (HC0.out _ HV.out).mono ?_
       rintro e w1 ⟨rfl,hb1⟩
       have HV1:=Lib.hid (HV.out.keep hb1)
       go_wp2_with fail
       refine (HC2.out _ HV1.out).mono ?_
       rintro e w2 ⟨rfl,hb2⟩
       have HV2:=Lib.hid (HV1.out.keep hb2)
       go_wp2_with (go_at_call 134;refine (HC3.out _ HV2.out).mono ?_;rintro e w3 ⟨rfl,hb3⟩)
       go_ret
       exact ⟨rfl,hb1.trans ((hb2.trans (hb3.mono hb2.size)).mono hb1.size)⟩
     | true =>
       go_enter Tryz.func93,Tryz.ntmps93
       go_wp2_with fail
       refine (HC0.out _ HV.out).mono ?_
       rintro e w1 ⟨rfl,hb1⟩
       have HV1:=Lib.hid (HV.out.keep hb1)
       go_wp2_with fail
       refine (HC2.out _ HV1.out).mono ?_
       rintro e w2 ⟨rfl,hb2⟩
       have HV2:=Lib.hid (HV1.out.keep hb2)
       go_wp2_with fail
       refine (HC3.out _ HV2.out).mono ?_
       rintro e w3 ⟨rfl,hb3⟩
       have HV3:=Lib.hid (HV2.out.keep hb3)
       go_wp2_with (go_at_call 134;refine (HC4.out _ HV3.out).mono ?_;rintro e w4 ⟨rfl,hb4⟩)
       go_ret
       exact ⟨zk (by simp),hb1.trans ((hb2.trans ((hb3.trans (hb4.mono hb3.size)).mono hb2.size)).mono hb1.size)⟩
end Go.Proofs.YtdhfpgjnjlcciaaGreatDoor.Fl
end
section
namespace Go.Proofs.YtdhfpgjnjlcciaaGreatDoor.Un
open Go.RowKit
abbrev cellsR (r:Role):Array Value:=#[.string r.head,.string r.code,.int .i64 r.cls]
theorem zX {α:Type} {p:α→Bool} {L:List α} {i:Nat} {x:α} (hx:L[i]?=some x) (h:p x=false):L.all p=false:=by
 rw [←Bool.not_eq_true,List.all_eq_true]
 intro h'
 rw [h' x (List.mem_of_getElem? hx)] at h;cases h
theorem zc9 {α:Type} {p:α→Bool} {L:List α} (h:∀ (i:Nat) (x:α),L[i]?=some x→p x=true):L.all p=true:=by
 rw [List.all_eq_true]
 intro x hx
 obtain ⟨i,hi,e⟩:=List.getElem_of_mem hx
 exact h i x (by rw [List.getElem?_eq_getElem hi,e])
structure SoFar {α:Type} (p:α→Bool) (L:List α) (i:Nat):Prop where
 all:∀ (j:Nat) (x:α),j < i→L[j]?=some x→p x=true
theorem SoFar.zero {α:Type} (p:α→Bool) (L:List α):SoFar p L 0:=⟨fun _ _ h=>absurd h (Nat.not_lt_zero _)⟩
theorem SoFar.next {α:Type} {p:α→Bool} {L:List α} {i:Nat} {x:α} (h:SoFar p L i) (hx:L[i]?=some x) (hp:p x=true):SoFar p L (i+1) :=
 ⟨fun j y hj hy=>by
  rcases Nat.lt_or_ge j i with h' | h'
  ·exact h.all j y h' hy
  ·obtain rfl:j=i:=by omega
   rw [hx] at hy;cases hy;exact hp⟩
theorem SoFar.done {α:Type} {p:α→Bool} {L:List α} {n:Nat} (h:SoFar p L n) (hn:L.length≤n):L.all p=true :=
 zc9 fun i x hx=>h.all i x (by have:=(List.getElem?_eq_some_iff.1 hx).1;omega) hx
set_option maxRecDepth 100000 in
set_option maxHeartbeats 4000000 in
theorem zgS (c f e l:Value) (M:Mast) (w:World) (h:MastIn w c f e l M) :
 Calls Tryz.prog 91 #[aggM c f e l M] w fun en w'=>en=.returned (.bool (rolesN M))∧Below w.heap.size w w':=by
 have HB0:=Lib.hid ((Below.refl w.heap.size w).alloc (Nat.le_refl _) (.cells (cellsM c f e l M) 33))
 have HN0:=Lib.hid (zM w c f e l M 33)
 have HC0:=Lib.hid (h.chart.keep HB0.out)
 have HRA:=Lib.hid (Kj c f e l M)
 obtain ⟨r,hr⟩:∃ r,rolesN M=r:=⟨_,rfl⟩
 have HR:Hid ((qh M).all (fun r=>hasA M.chart r.code)=r):=Lib.hid (by rw [zcM];exact hr)
 rw [hr]
 clear hr h
 obtain ⟨c0,c1,c2,c3,c4,c5,c6,c7,c8⟩:=HN0.out
 go_enter Tryz.func91,Tryz.ntmps91
 go_wp2_with fail
 refine (HRA.out _).mono ?_
 rintro en w1 ⟨g,rfl,hrv,hb1⟩
 have HN1:=Lib.hid (HN0.out.kept hb1)
 have HC1:=Lib.hid (HC0.out.keep hb1)
 have HB1:=Lib.hid (HB0.out.trans (hb1.mono HB0.out.size))
 obtain ⟨p,cp,e1,_,_,_,hc⟩:=hrv
 cases e1
 have HRV:=Lib.hid hc
 clear hc hb1 c0 c1 c2 c3 c4 c5 c6 c7 c8
 go_wp2
 go_loopw [10] (fun s10 wr=>∃ i:Nat,i≤4∧s10=.int .i64 (i:Int)∧Hid (Below w1.heap.size w1 wr)∧Hid (SoFar (fun r:Role=>hasA M.chart r.code) (qh M) i)) (fun s10 _=>4 - (intOf s10).toNat)
 case atStart=>exact ⟨0,by omega,rfl,Lib.hid (Below.refl _ _),Lib.hid (SoFar.zero _ _)⟩
 case round =>
  obtain ⟨i,hi,rfl,HBR,HSF⟩:=hrel
  by_cases hlt:i < 4
  ·obtain ⟨x,hx⟩:∃ x,(qh M)[i]?=some x:=⟨_,List.getElem?_eq_getElem (by simp [qh];omega)⟩
   obtain ⟨b,o,e2,hat⟩:=HRV.out i x hx
   cases e2
   obtain ⟨d0,d1,d2⟩:=role3 (hat.keep HBR.out hat.lt)
   have hbx:=HBR.out.alloc HBR.out.size (.cells (cellsR x) 241)
   have HBX:=Lib.hid hbx
   have HC2:=Lib.hid (HC1.out.keep hbx)
   obtain ⟨k0,k1,k2,k3,k4,k5,k6,k7,k8⟩:=HN1.out.kept hbx
   obtain ⟨q0,q1,q2⟩:=role3 (BoxE.new encR wr x 241).at0
   have HX:=Lib.hid hx
   clear hat hx hbx
   simp only [Nat.zero_add] at d0 d1 d2
   go_wp2_with fail
   clear k0 k1 k2 k3 k4 k5 k6 k7 k8 q0 q1 q2 d0 d1 d2
   refine (Go.Proofs.YtdhfpgjnjlcciaaGreatDoor.jh _ M.chart x.code _ HC2.out).mono ?_
   rintro en w3 ⟨rfl,hb3⟩
   obtain ⟨fa,hfa⟩:∃ fa,findV (findL M.chart x.code)=fa:=⟨_,rfl⟩
   obtain ⟨s,hs⟩:∃ s,(findL M.chart x.code).isSome=s:=⟨_,rfl⟩
   rw [hfa,hs]
   have HSV:Hid (hasA M.chart x.code=s):=Lib.hid hs
   have HB4:=Lib.hid ((HBX.out.trans (hb3.mono HBX.out.size)).alloc (Nat.le_trans HBX.out.size hb3.size) (.cells #[.string fa.code,.int .i64 fa.cls,.bool fa.cash,.bool fa.both,.string fa.fixed,.bool fa.worn] 129))
   clear hs hfa hb3
   cases s with
   | false =>
     have HRF:Hid (r=false):=Lib.hid (by rw [←HR.out];exact zX HX.out HSV.out)
     go_wp2
     go_ret
     exact ⟨by rw [HRF.out];rfl,HB1.out.trans (HB4.out.mono HB1.out.size)⟩
   | true =>
     have HSN:=Lib.hid (HSF.out.next HX.out HSV.out)
     go_wp2
     go_roundw
     case rel=>exact ⟨i+1,by omega,by go_num,HB4,HSN⟩
     case measure=>simp [intOf];omega
  ·have HRT:Hid (r=true):=Lib.hid (by rw [←HR.out];exact HSF.out.done (by simp [qh];omega))
   go_wp2
   go_ret
   exact ⟨by rw [HRT.out];rfl,HB1.out.trans (HBR.out.mono HB1.out.size)⟩
set_option maxRecDepth 100000 in
set_option maxHeartbeats 4000000 in
theorem zhe (c f e l:Value) (M:Mast) (w:World) (h:MastIn w c f e l M) :
 Calls Tryz.prog 94 #[aggM c f e l M] w fun en w'=>en=.returned (.bool (rolesP M))∧Below w.heap.size w w':=by
 have HB0:=Lib.hid ((Below.refl w.heap.size w).alloc (Nat.le_refl _) (.cells (cellsM c f e l M) 33))
 have HN0:=Lib.hid (zM w c f e l M 33)
 have HC0:=Lib.hid (h.chart.keep HB0.out)
 have HRA:=Lib.hid (Kj c f e l M)
 obtain ⟨r,hr⟩:∃ r,rolesP M=r:=⟨_,rfl⟩
 have HR:Hid ((qh M).all (fun r=>plainA M.chart r.code r.cls)=r):=Lib.hid (by rw [zfV];exact hr)
 rw [hr]
 clear hr h
 obtain ⟨c0,c1,c2,c3,c4,c5,c6,c7,c8⟩:=HN0.out
 go_enter Tryz.func94,Tryz.ntmps94
 go_wp2_with fail
 refine (HRA.out _).mono ?_
 rintro en w1 ⟨g,rfl,hrv,hb1⟩
 have HN1:=Lib.hid (HN0.out.kept hb1)
 have HC1:=Lib.hid (HC0.out.keep hb1)
 have HB1:=Lib.hid (HB0.out.trans (hb1.mono HB0.out.size))
 obtain ⟨p,cp,e1,_,_,_,hc⟩:=hrv
 cases e1
 have HRV:=Lib.hid hc
 clear hc hb1 c0 c1 c2 c3 c4 c5 c6 c7 c8
 go_wp2
 go_loopw [10] (fun s10 wr=>∃ i:Nat,i≤4∧s10=.int .i64 (i:Int)∧Hid (Below w1.heap.size w1 wr)∧Hid (SoFar (fun r:Role=>plainA M.chart r.code r.cls) (qh M) i)) (fun s10 _=>4 - (intOf s10).toNat)
 case atStart=>exact ⟨0,by omega,rfl,Lib.hid (Below.refl _ _),Lib.hid (SoFar.zero _ _)⟩
 case round =>
  obtain ⟨i,hi,rfl,HBR,HSF⟩:=hrel
  by_cases hlt:i < 4
  ·obtain ⟨x,hx⟩:∃ x,(qh M)[i]?=some x:=⟨_,List.getElem?_eq_getElem (by simp [qh];omega)⟩
   obtain ⟨b,o,e2,hat⟩:=HRV.out i x hx
   cases e2
   obtain ⟨d0,d1,d2⟩:=role3 (hat.keep HBR.out hat.lt)
   have hbx:=HBR.out.alloc HBR.out.size (.cells (cellsR x) 241)
   have HBX:=Lib.hid hbx
   have HC2:=Lib.hid (HC1.out.keep hbx)
   obtain ⟨k0,k1,k2,k3,k4,k5,k6,k7,k8⟩:=HN1.out.kept hbx
   obtain ⟨q0,q1,q2⟩:=role3 (BoxE.new encR wr x 241).at0
   have HX:=Lib.hid hx
   clear hat hx hbx
   simp only [Nat.zero_add] at d0 d1 d2
   go_wp2_with fail
   clear k0 k1 k2 k3 k4 k5 k6 k7 k8 q0 q1 q2 d0 d1 d2
   refine (Go.Proofs.YtdhfpgjnjlcciaaGreatDoor.jh _ M.chart x.code _ HC2.out).mono ?_
   rintro en w3 ⟨rfl,hb3⟩
   obtain ⟨fa,hfa⟩:∃ fa,findV (findL M.chart x.code)=fa:=⟨_,rfl⟩
   obtain ⟨s,hs⟩:∃ s,(findL M.chart x.code).isSome=s:=⟨_,rfl⟩
   rw [hfa,hs]
   have HSV:Hid (plainA M.chart x.code x.cls=eqA fa ⟨x.code,x.cls,false,false,emp,false⟩):=Lib.hid (by rw [←hfa];rfl)
   have HB4:=Lib.hid ((HBX.out.trans (hb3.mono HBX.out.size)).alloc (Nat.le_trans HBX.out.size hb3.size) (.cells #[.string fa.code,.int .i64 fa.cls,.bool fa.cash,.bool fa.both,.string fa.fixed,.bool fa.worn] 129))
   have hb4:=hb3.alloc hb3.size (.cells #[.string fa.code,.int .i64 fa.cls,.bool fa.cash,.bool fa.both,.string fa.fixed,.bool fa.worn] 129)
   obtain ⟨q0,q1,q2⟩:=role3 ((BoxE.new encR wr x 241).kept hb4).at0
   obtain ⟨z0,z1,z2,z3,z4,z5⟩:=(BoxA.new w3 fa 129).facts
   have hq:=zbU fa ⟨x.code,x.cls,false,false,emp,false⟩
   have hgd:=zen
   obtain ⟨ea,hea⟩:∃ ea,eqA fa ⟨x.code,x.cls,false,false,emp,false⟩=ea:=⟨_,rfl⟩
   rw [hea] at HSV
   simp only [hea] at hq
   clear hs hfa hb3 hb4 hea
   cases ea with
   | false =>
     have HRF:Hid (r=false):=Lib.hid (by rw [←HR.out];exact zX HX.out HSV.out)
     go_wp2
     go_ret
     exact ⟨by rw [HRF.out];rfl,HB1.out.trans (HB4.out.mono HB1.out.size)⟩
   | true =>
     have HSN:=Lib.hid (HSF.out.next HX.out HSV.out)
     go_wp2
     go_roundw
     case rel=>exact ⟨i+1,by omega,by go_num,HB4,HSN⟩
     case measure=>simp [intOf];omega
  ·have HRT:Hid (r=true):=Lib.hid (by rw [←HR.out];exact HSF.out.done (by simp [qh];omega))
   go_wp2
   go_ret
   exact ⟨by rw [HRT.out];rfl,HB1.out.trans (HBR.out.mono HB1.out.size)⟩
end Go.Proofs.YtdhfpgjnjlcciaaGreatDoor.Un
end
section
namespace Go.Proofs.YtdhfpgjnjlcciaaGreatDoor
open Go.RowKit Go.Maps
theorem data_inj {x y:ByteArray} (h:x.data.toList=y.data.toList):x=y:=by rw [←qJ x,h,qJ]
def kS (s:ByteArray):Lit:=.string s.data.toList
theorem zi4 {x y:ByteArray} (h:kS x=kS y):x=y:=data_inj (by unfold kS at h;simpa using h)
theorem VC (s:ByteArray):WideAt.IsKeyLit (kS s):=trivial
theorem law9:Keyed Tryz.prog 9:=string_keyed Tryz.underlying9
end Go.Proofs.YtdhfpgjnjlcciaaGreatDoor
end
section
namespace Go.Proofs.YtdhfpgjnjlcciaaGreatDoor.Un
open Go.RowKit
abbrev xa:ByteArray:=⟨#[97]⟩
abbrev xb:ByteArray:=⟨#[98]⟩
abbrev xc:ByteArray:=⟨#[99]⟩
abbrev xF0:ByteArray:=⟨#[70,48]⟩
abbrev xF1:ByteArray:=⟨#[70,49]⟩
abbrev xF8:ByteArray:=⟨#[70,56]⟩
abbrev xF9:ByteArray:=⟨#[70,57]⟩
abbrev xFz:ByteArray:=⟨#[70,122]⟩
abbrev xE1:ByteArray:=⟨#[69,49]⟩
abbrev xU:ByteArray:=⟨#[85,83,68]⟩
abbrev xL1:ByteArray:=⟨#[76,49]⟩
def ZX:List (List ByteArray):=[[zb,xa,tAsset],[zb,xb,qC],[zb,xc,qD]]
def Jy:List (List ByteArray):=[[Fl.tFlow,xF0,Fl.tOpen],[Fl.tFlow,xF1,Fl.tMove],[Fl.tFlow,xF8,Fl.tFx],[Fl.tFlow,xF9,Fl.tScope],[Fl.tFlow,xFz,Fl.tClose],[zm,xE1,xU],[tGroup,xU],[zI,xc],[tMinor,xc],[zD,xa],[tStake,xa],[tMap,xa,xF1,xL1]]
def smallL:List (List ByteArray):=ZX++Jy
abbrev qB (s:ByteArray) (k:Int):Acct:=⟨s,k,false,false,emp,false⟩
theorem zeH (s:ByteArray) (k:Int):marksA (qB s k)=true:=by
 unfold marksA
 simp [qT]
theorem kr (s:ByteArray) (k:Int) (hs:nmB s=true) (hk:k=0∨k=1∨k=2):parseA [zb,s,clsW k]=(qB s k,0):=by
 have hr:rightA (qB s k)=true:=by
  unfold rightA
  rw [zeH,hs]
  rcases hk with rfl | rfl | rfl <;> rfl
 refine kM hr ?_
 unfold wordsA
 rw [if_pos hr]
 unfold markW
 simp [qT]
theorem ziI:acO [zb,xa,tAsset]=some (qB xa 0):=by
 have h:=kr xa 0 (by decide) (by simp)
 rw [xg rfl (by rw [show [zb,xa,tAsset]=[zb,xa,clsW 0] from rfl,h]),show [zb,xa,tAsset]=[zb,xa,clsW 0] from rfl,h]
theorem zfY:acO [zb,xb,qC]=some (qB xb 1):=by
 have h:=kr xb 1 (by decide) (by simp)
 rw [xg rfl (by rw [show [zb,xb,qC]=[zb,xb,clsW 1] from rfl,h]),show [zb,xb,qC]=[zb,xb,clsW 1] from rfl,h]
theorem zca:acO [zb,xc,qD]=some (qB xc 2):=by
 have h:=kr xc 2 (by decide) (by simp)
 rw [xg rfl (by rw [show [zb,xc,qD]=[zb,xc,clsW 2] from rfl,h]),show [zb,xc,qD]=[zb,xc,clsW 2] from rfl,h]
def smallA:List Acct:=[qB xa 0,qB xb 1,qB xc 2]
def smallF:List Fl.Flow:=[⟨xF0,0⟩,⟨xF1,1⟩,⟨xF8,2⟩,⟨xF9,3⟩,⟨xFz,4⟩]
theorem Ve:∀ ws∈smallL,Good ws:=by
 intro ws hw
 rcases List.mem_append.1 hw with h | h
 ·left
  simp only [ZX,List.mem_cons,List.not_mem_nil,or_false] at h
  rcases h with rfl | rfl | rfl
  ·exact ⟨rfl,by rw [show [zb,xa,tAsset]=[zb,xa,clsW 0] from rfl,kr xa 0 (by decide) (by simp)]⟩
  ·exact ⟨rfl,by rw [show [zb,xb,qC]=[zb,xb,clsW 1] from rfl,kr xb 1 (by decide) (by simp)]⟩
  ·exact ⟨rfl,by rw [show [zb,xc,qD]=[zb,xc,clsW 2] from rfl,kr xc 2 (by decide) (by simp)]⟩
 ·right
  simp only [Jy,List.mem_cons,List.not_mem_nil,or_false] at h
  rcases h with rfl | rfl | rfl | rfl | rfl | rfl | rfl | rfl | rfl | rfl | rfl | rfl
  ·exact .inl ⟨by kernel_rfl,by kernel_rfl⟩
  ·exact .inl ⟨by kernel_rfl,by kernel_rfl⟩
  ·exact .inl ⟨by kernel_rfl,by kernel_rfl⟩
  ·exact .inl ⟨by kernel_rfl,by kernel_rfl⟩
  ·exact .inl ⟨by kernel_rfl,by kernel_rfl⟩
  ·exact .inr (by kernel_rfl)
  ·exact .inr (by kernel_rfl)
  ·exact .inr (by kernel_rfl)
  ·exact .inr (by kernel_rfl)
  ·exact .inr (by kernel_rfl)
  ·exact .inr (by kernel_rfl)
  ·exact .inr (by kernel_rfl)
theorem vE {x y:ByteArray} (h:[y]=oneL x):x=y:=by
 unfold oneL at h
 split at h
 ·cases h
 ·simpa using h.symm
theorem KW {C:List Acct} {a:Acct} (h:a∈C):hasA C a.code=true:=K5 h
theorem V5 {C:List Acct} {a:Acct} (hr:riseL C=true) (h:a∈C) (k:Int) (he:a=qB a.code k):plainA C a.code k=true:=by
 have e:findL C a.code=some a:=by
  have h1:G.findK Acct.code C a.code=some a:=G.jc (by rw [←Yj];exact hr) h
  rw [←h1]
  clear h1 hr h
  induction C with
  | nil=>rfl
  | cons y C ih=>simp only [findL,G.findK];rw [ih]
 unfold plainA
 rw [e]
 exact decide_eq_true he
theorem ZC {L:List Fl.Flow} {f:Fl.Flow} (h:f∈L):Fl.hasF L f.kind=true:=by
 unfold Fl.hasF
 exact decide_eq_true (List.length_pos_of_mem (Fl.mem_of.2 ⟨f,h,rfl,rfl⟩))
end Go.Proofs.YtdhfpgjnjlcciaaGreatDoor.Un
end
section
namespace Go.Proofs.YtdhfpgjnjlcciaaGreatDoor
open Go.RowKit (wrap64)
def addCV (a b:Int):Int:=if fit (a+b)=true then a+b else 0
def addCE (a b:Int):Int:=if fit (a+b)=true then 0 else 2
def subV (a b:Int):Int:=if fit (a - b)=true then a - b else 0
def subE (a b:Int):Int:=if fit (a - b)=true then 0 else 2
def zo (n:Int):List Int→Int × Int
 | []=>(n,0)
 | a::r=>if fit (n+a)=true then zo (n+a) r else (0,2)
theorem yl {a b:Int} (h:fit (a+b)=true):addCV a b=a+b:=by simp [addCV,h]
theorem yL {a b:Int} (h:fit (a+b)=true):addCE a b=0:=by simp [addCE,h]
theorem yI {a b:Int} (h:fit (a+b)=false):addCV a b=0:=by simp [addCV,h]
theorem yQ {a b:Int} (h:fit (a+b)=false):addCE a b=2:=by simp [addCE,h]
theorem kF {a b:Int} (h:fit (a - b)=true):subV a b=a - b:=by simp [subV,h]
theorem yX {a b:Int} (h:fit (a - b)=true):subE a b=0:=by simp [subE,h]
theorem kI {a b:Int} (h:fit (a - b)=false):subV a b=0:=by simp [subV,h]
theorem yV {a b:Int} (h:fit (a - b)=false):subE a b=2:=by simp [subE,h]
theorem yS {n a:Int} (r:List Int) (h:fit (n+a)=true):zo n (a::r)=zo (n+a) r:=by simp [zo,h]
theorem QA {n a:Int} (r:List Int) (h:fit (n+a)=false):zo n (a::r)=(0,2):=by simp [zo,h]
theorem Vi {n:Int} (h1:9223372036854775807 < n) (h2:n≤18446744073709551615):wrap64 n=n - 18446744073709551616:=by unfold wrap64;omega
theorem X4 {n:Int} (h1:n < -9223372036854775808) (h2:-18446744073709551616≤n):wrap64 n=n+18446744073709551616:=by unfold wrap64;omega
theorem KS {a b:Int} (a1:a≤9223372036854775807) (b1:b≤9223372036854775807) (h:9223372036854775807 < a+b):wrap64 (a+b) < a∧0 < b:=by
 rw [Vi h (by omega)];omega
theorem V9 {a b:Int} (a1:-9223372036854775808≤a) (b1:-9223372036854775808≤b) (h:a+b < -9223372036854775808):a < wrap64 (a+b)∧b < 0:=by
 rw [X4 h (by omega)];omega
theorem Xq {a b:Int} (a1:a≤9223372036854775807) (b1:-9223372036854775808≤b) (h:9223372036854775807 < a - b):wrap64 (a - b) < a∧b < 0:=by
 rw [Vi h (by omega)];omega
theorem Vv {a b:Int} (a1:-9223372036854775808≤a) (b1:b≤9223372036854775807) (h:a - b < -9223372036854775808):a < wrap64 (a - b)∧0 < b:=by
 rw [X4 h (by omega)];omega
end Go.Proofs.YtdhfpgjnjlcciaaGreatDoor
end
section
namespace Go.Proofs.YtdhfpgjnjlcciaaGreatDoor.Fa
structure IsCmp {α:Type} (c:α→α→Int):Prop where
 eq0:∀ x y,c x y=0 ↔ x=y
 neg:∀ x y,c y x=-c x y
 trans:∀ {x y z},c x y < 0→c y z < 0→c x z < 0
def orI (x y:Int):Int:=if x=0 then y else x
theorem zaZ {x y:Int}:orI x y < 0 ↔ x < 0∨(x=0∧y < 0):=by unfold orI;split <;> omega
theorem zgg {x y:Int}:orI x y=0 ↔ x=0∧y=0:=by unfold orI;split <;> omega
theorem zgL (x y:Int):orI (-x) (-y)=-orI x y:=by unfold orI;(repeat' split) <;> omega
theorem IsCmp.pair {α β:Type} {c:α→α→Int} {d:β→β→Int} (hc:IsCmp c) (hd:IsCmp d):IsCmp (fun x y:α × β=>orI (c x.1 y.1) (d x.2 y.2)) where
 eq0 x y:=by rw [zgg,hc.eq0,hd.eq0,Prod.ext_iff]
 neg x y:=by
  show orI (c y.1 x.1) (d y.2 x.2)=-orI (c x.1 y.1) (d x.2 y.2)
  rw [hc.neg x.1 y.1,hd.neg x.2 y.2,zgL]
 trans:=by
  intro x y z h1 h2
  rw [zaZ] at *
  rcases h1 with h1 | ⟨e1,h1⟩ <;> rcases h2 with h2 | ⟨e2,h2⟩
  ·exact .inl (hc.trans h1 h2)
  ·exact .inl (by rw [←(hc.eq0 _ _).1 e2];exact h1)
  ·exact .inl (by rw [(hc.eq0 _ _).1 e1];exact h2)
  ·exact .inr ⟨by rw [(hc.eq0 _ _).1 e1];exact e2,hd.trans h1 h2⟩
def cmpI (a b:Int):Int:=if a < b then -1 else if b < a then 1 else 0
theorem Vb:IsCmp cmpI where
 eq0 x y:=by unfold cmpI;(repeat' split) <;> omega
 neg x y:=by unfold cmpI;(repeat' split) <;> omega
 trans:=by intro x y z;unfold cmpI;(repeat' split) <;> omega
theorem vv:∀ (x y:List UInt8),Lib.compareBytes x y=0 ↔ x=y
 | [],[]=>by simp [Lib.compareBytes]
 | [],_::_=>by simp [Lib.compareBytes]
 | _::_,[]=>by simp [Lib.compareBytes]
 | a::x,b::y=>by
   have ih:=vv x y
   unfold Lib.compareBytes
   by_cases h1:a < b
   ·have:a≠b:=by
     rintro rfl
     rw [UInt8.lt_iff_toNat_lt] at h1;omega
    simp [h1,this]
   ·by_cases h2:b < a
    ·have:a≠b:=by
      rintro rfl
      exact h1 h2
     simp [h1,h2,this]
    ·have:a=b:=by
      rw [UInt8.lt_iff_toNat_lt] at h1 h2
      exact UInt8.toNat_inj.1 (by omega)
     subst this
     simp [h1,ih]
theorem zad:∀ (x y:List UInt8),Lib.compareBytes y x=-Lib.compareBytes x y
 | [],[]=>by simp [Lib.compareBytes]
 | [],_::_=>by simp [Lib.compareBytes]
 | _::_,[]=>by simp [Lib.compareBytes]
 | a::x,b::y=>by
   have ih:=zad x y
   unfold Lib.compareBytes
   by_cases h1:a < b
   ·have h2:¬ b < a:=by rw [UInt8.lt_iff_toNat_lt] at *;omega
    simp [h1,h2]
   ·by_cases h2:b < a
    ·simp [h1,h2]
    ·simp [h1,h2,ih]
theorem YO:∀ (x y z:List UInt8),Lib.compareBytes x y < 0→Lib.compareBytes y z < 0→Lib.compareBytes x z < 0
 | [],y,[],h1,h2=>by cases y <;> simp [Lib.compareBytes] at h1 h2
 | [],_,c::z,_,_=>by simp [Lib.compareBytes]
 | a::x,[],z,h1,_=>by simp [Lib.compareBytes] at h1
 | a::x,b::y,[],_,h2=>by simp [Lib.compareBytes] at h2
 | a::x,b::y,c::z,h1,h2=>by
   have ih:=YO x y z
   unfold Lib.compareBytes at h1 h2 ⊢
   by_cases h3:a < b
   ·by_cases h4:b < c
    ·have:a < c:=by rw [UInt8.lt_iff_toNat_lt] at *;omega
     simp [this]
    ·by_cases h5:c < b
     ·simp [h4,h5] at h2
     ·have:b=c:=by
       rw [UInt8.lt_iff_toNat_lt] at h4 h5
       exact UInt8.toNat_inj.1 (by omega)
      subst this
      simp [h3]
   ·by_cases h4:b < a
    ·simp [h3,h4] at h1
    ·have:a=b:=by
      rw [UInt8.lt_iff_toNat_lt] at h3 h4
      exact UInt8.toNat_inj.1 (by omega)
     subst this
     rw [if_neg h3,if_neg h3] at h1
     by_cases h5:a < c
     ·rw [if_pos h5];decide
     ·rw [if_neg h5] at h2 ⊢
      by_cases h6:c < a
      ·rw [if_pos h6] at h2;exact absurd h2 (by decide)
      ·rw [if_neg h6] at h2 ⊢
       exact ih h1 h2
def cmpB (x y:ByteArray):Int:=Lib.compareBytes x.data.toList y.data.toList
theorem KX {x y:ByteArray} (h:x.data.toList=y.data.toList):x=y:=by
 cases x;cases y
 simp only [ByteArray.mk.injEq]
 exact Array.toList_inj.1 h
theorem yw:IsCmp cmpB where
 eq0 x y:=by unfold cmpB;rw [vv];exact ⟨KX,fun h=>by rw [h]⟩
 neg x y:=zad _ _
 trans:=YO _ _ _
structure Key where
 e:ByteArray
 a:ByteArray
 f:ByteArray
 p:ByteArray
 m:Int
deriving DecidableEq
structure Fact where
 key:Key
 amt:Int
deriving DecidableEq
instance : Inhabited Key:=⟨⟨⟨#[]⟩,⟨#[]⟩,⟨#[]⟩,⟨#[]⟩,0⟩⟩
instance : Inhabited Fact:=⟨⟨default,0⟩⟩
def Key.tup (k:Key):ByteArray × ByteArray × ByteArray × ByteArray × Int:=(k.e,k.a,k.f,k.p,k.m)
theorem Key.zbu {x y:Key}:x.tup=y.tup ↔ x=y:=by
 cases x;cases y
 simp [Key.tup]
def cmpK (x y:Key):Int:=orI (cmpB x.e y.e) (orI (cmpB x.a y.a) (orI (cmpB x.f y.f) (orI (cmpB x.p y.p) (cmpI x.m y.m))))
theorem ZE:IsCmp cmpK:=by
 have h:=yw.pair (yw.pair (yw.pair (yw.pair Vb)))
 exact ⟨fun x y=>(h.eq0 x.tup y.tup).trans Key.zbu,fun x y=>h.neg x.tup y.tup,fun {x y z}=>h.trans (x:=x.tup) (y:=y.tup) (z:=z.tup)⟩
def ltK (x y:Key):Prop:=cmpK x y < 0
instance (x y:Key):Decidable (ltK x y):=by unfold ltK;infer_instance
theorem yg {x y z:Key} (h1:ltK x y) (h2:ltK y z):ltK x z:=ZE.trans h1 h2
theorem xx (x:Key):¬ ltK x x:=by unfold ltK;rw [(ZE.eq0 x x).2 rfl];omega
theorem ZY {x y:Key} (h:¬ ltK x y) (hne:x≠y):ltK y x:=by
 unfold ltK at *
 have h0:cmpK x y≠0:=fun e=>hne ((ZE.eq0 x y).1 e)
 rw [ZE.neg x y];omega
theorem yD {x y:Key} (h:ltK x y):x≠y:=fun e=>by subst e;exact xx _ h
def Rise (L:List Key):Prop:=L.Pairwise ltK
def insU:List Key→Key→List Key
 | [],k=>[k]
 | a::r,k=>if k=a then a::r else if ltK k a then k::a::r else a::insU r k
theorem Y4 {L:List Key} {k x:Key}:x∈insU L k ↔ x=k∨x∈L:=by
 induction L with
 | nil=>simp [insU]
 | cons a r ih =>
   unfold insU
   by_cases h:k=a
   ·subst h;simp
   ·rw [if_neg h]
    by_cases h2:ltK k a
    ·rw [if_pos h2];simp
    ·rw [if_neg h2,List.mem_cons,ih,List.mem_cons]
     constructor
     ·rintro (h | h | h) <;> simp [h]
     ·rintro (h | h | h) <;> simp [h]
theorem zhd {L:List Key} (k:Key) (h:Rise L):Rise (insU L k):=by
 induction L with
 | nil=>simp [insU,Rise]
 | cons a r ih =>
   obtain ⟨h1,h2⟩:=List.pairwise_cons.1 h
   unfold insU
   by_cases e:k=a
   ·rw [if_pos e];exact h
   ·rw [if_neg e]
    by_cases l:ltK k a
    ·rw [if_pos l]
     exact List.pairwise_cons.2 ⟨fun y hy=>by
      rcases List.mem_cons.1 hy with rfl | hy
      ·exact l
      ·exact yg l (h1 y hy),h⟩
    ·rw [if_neg l]
     refine List.pairwise_cons.2 ⟨fun y hy=>?_,ih h2⟩
     rcases Y4.1 hy with rfl | hy
     ·exact ZY l e
     ·exact h1 y hy
theorem ziE (L:List Key) (k:Key):(insU L k).length≤L.length+1:=by
 induction L with
 | nil=>simp [insU]
 | cons a r ih =>
   unfold insU
   (repeat' split) <;> simp <;> omega
def yb (A:List Key) (l:List Fact):List Key:=l.foldl (fun acc f=>insU acc f.key) A
def keysL (l:List Fact):List Key:=yb [] l
theorem XI (A:List Key) (f:Fact) (l:List Fact):yb A (f::l)=yb (insU A f.key) l:=rfl
theorem zgT {l:List Fact} {A:List Key} {k:Key}:k∈yb A l ↔ k∈A∨∃ f∈l,f.key=k:=by
 induction l generalizing A with
 | nil=>simp [yb]
 | cons f l ih =>
   rw [XI,ih,Y4]
   constructor
   ·rintro ((h | h) | ⟨g,hg,e⟩)
    ·exact .inr ⟨f,List.mem_cons_self ..,h.symm⟩
    ·exact .inl h
    ·exact .inr ⟨g,List.mem_cons_of_mem _ hg,e⟩
   ·rintro (h | ⟨g,hg,e⟩)
    ·exact .inl (.inr h)
    ·rcases List.mem_cons.1 hg with rfl | hg
     ·exact .inl (.inl e.symm)
     ·exact .inr ⟨g,hg,e⟩
theorem mem_keys {l:List Fact} {k:Key}:k∈keysL l ↔ ∃ f∈l,f.key=k:=by unfold keysL;rw [zgT];simp
theorem zgf {l:List Fact} {A:List Key} (h:Rise A):Rise (yb A l):=by
 induction l generalizing A with
 | nil=>exact h
 | cons f l ih=>exact ih (zhd _ h)
theorem j9 (l:List Fact):Rise (keysL l):=zgf List.Pairwise.nil
theorem zbA (l:List Fact) (A:List Key):(yb A l).length≤A.length+l.length:=by
 induction l generalizing A with
 | nil=>exact Nat.le_refl _
 | cons f l ih =>
   have h1:=ih (insU A f.key)
   have h2:=ziE A f.key
   rw [XI,List.length_cons];omega
theorem yp (l:List Fact):(keysL l).length≤l.length:=by have:=zbA l [];simpa [keysL] using this
def amts (l:List Fact) (k:Key):List Int:=(l.filter fun f=>decide (f.key=k)).map Fact.amt
def grps (l:List Fact):List (Key × List Int):=(keysL l).map fun k=>(k,amts l k)
def putF (k:Key) (n:Int):List Fact:=if n=0 then [] else [⟨k,n⟩]
def runG:List (Key × List Int)→List Fact × Int
 | []=>([],0)
 | g::r=>if (zo 0 g.2).2=0 then (if (runG r).2=0 then (putF g.1 (zo 0 g.2).1++(runG r).1,0) else ([],(runG r).2)) else ([],(zo 0 g.2).2)
def appG (c:List Fact) (x:List Fact × Int):List Fact × Int:=if x.2=0 then (c++x.1,0) else ([],x.2)
theorem zcg (x:List (Key × List Int)):appG [] (runG x)=runG x:=by
 induction x with
 | nil=>rfl
 | cons g r ih =>
   unfold appG runG
   (repeat' split) <;> simp_all
theorem zhh (c:List Fact) (g:Key × List Int) (r:List (Key × List Int)) (h:(zo 0 g.2).2=0):appG c (runG (g::r))=appG (c++putF g.1 (zo 0 g.2).1) (runG r):=by
 unfold appG
 conv=>lhs;unfold runG
 rw [if_pos h]
 by_cases h2:(runG r).2=0
 ·simp [h2]
 ·simp [h2]
theorem zgd (c:List Fact) (g:Key × List Int) (r:List (Key × List Int)) (h:(zo 0 g.2).2≠0):appG c (runG (g::r))=([],(zo 0 g.2).2):=by
 unfold appG
 conv=>lhs;unfold runG
 rw [if_neg h]
 simp [h]
def ofL (l:List Fact):List Fact × Int:=runG (grps l)
end Go.Proofs.YtdhfpgjnjlcciaaGreatDoor.Fa
end
section
namespace Go.Proofs.YtdhfpgjnjlcciaaGreatDoor
open Go.Lib (decDigits itoa nDigits parseIntB parseUintB parseMag parseUint10)
def dig (c:UInt8):Bool:=decide (48≤c.toNat) && decide (c.toNat≤57)
def digs (l:List UInt8):Bool:=l.all dig
def yd:List UInt8→Bool
 | []=>false
 | c::r=>(c != 48) && digs (c::r)
def whole (l:List UInt8):Bool :=
 match l with
 | 45::r=>yd r
 | l=>(l==[48]) || yd l
def num (n:Nat) (l:List UInt8):Nat:=l.foldl (fun a c=>a * 10+(c.toNat - 48)) n
def val (l:List UInt8):Int :=
 match l with
 | 45::r=>-((num 0 r:Nat):Int)
 | l=>((num 0 l:Nat):Int)
def parseV (l:List UInt8):Int:=if whole l=true then (if fit (val l)=true then val l else 0) else 0
def parseE (l:List UInt8):Int:=if whole l=true then (if fit (val l)=true then 0 else 2) else 5
theorem zaz (n:Nat) (l:List UInt8) (c:UInt8):num n (c::l)=num (n * 10+(c.toNat - 48)) l:=by simp only [num,List.foldl_cons]
theorem zg9 (l:List UInt8):∀ n,n≤num n l:=by
 induction l with
 | nil=>intro n;exact Nat.le_refl _
 | cons c r ih=>intro n;rw [zaz];exact Nat.le_trans (by omega) (ih _)
theorem zdz (l:List UInt8) (c:UInt8):digs (l++[c])=(digs l && dig c):=by simp [digs]
theorem ZF (c:UInt8):dig c=true ↔ 48≤c.toNat∧c.toNat≤57:=by simp [dig]
theorem YX (l:List UInt8) (c:UInt8):digs (c::l)=(dig c && digs l):=by simp [digs]
theorem XF (l:List UInt8):∀ n,n < 18446744073709551616→digs l=true→parseUint10 n l=if num n l < 18446744073709551616 then .ok (num n l) else .range:=by
 induction l with
 | nil=>intro n hn _;simp [parseUint10,num,hn]
 | cons c r ih =>
   intro n hn hd
   rw [YX,Bool.and_eq_true] at hd
   obtain ⟨hc,hr⟩:=hd
   rw [ZF] at hc
   have hg:=zg9 r (n * 10+(c.toNat - 48))
   rw [zaz]
   simp only [parseUint10,if_pos hc]
   by_cases h1:1844674407370955162≤n
   ·rw [if_pos h1,if_neg (by omega)]
   ·rw [if_neg h1]
    by_cases h2:18446744073709551616≤n * 10+(c.toNat - 48)
    ·rw [if_pos h2,if_neg (by omega)]
    ·rw [if_neg h2,ih _ (by omega) hr]
theorem Xw {l:List UInt8} (h:yd l=true):∃ c r,l=c::r∧c≠48∧digs (c::r)=true:=by
 cases l with
 | nil=>cases h
 | cons c r =>
   simp only [yd,Bool.and_eq_true,bne_iff_ne,ne_eq] at h
   exact ⟨c,r,rfl,h.1,h.2⟩
theorem KP (r:List UInt8):whole (45::r)=yd r:=rfl
theorem Qm {c:UInt8} (r:List UInt8) (h:c≠45):whole (c::r)=((c::r==[48]) || yd (c::r)):=by
 unfold whole;split
 ·rename_i e;injection e with e _;exact absurd e h
 ·rfl
theorem za4 (r:List UInt8):val (45::r)=-((num 0 r:Nat):Int):=rfl
theorem za8 {c:UInt8} (r:List UInt8) (h:c≠45):val (c::r)=((num 0 (c::r):Nat):Int):=by
 unfold val;split
 ·rename_i e;injection e with e _;exact absurd e h
 ·rfl
theorem toNat_ne {c d:UInt8} (h:c≠d):c.toNat≠d.toNat:=fun e=>h (UInt8.toNat_inj.1 e)
theorem ze6 {c:UInt8} {r:List UInt8} (h:c≠45) (hw:whole (c::r)=true):digs (c::r)=true:=by
 rw [Qm r h,Bool.or_eq_true] at hw
 rcases hw with hw | hw
 ·have e:c::r=[48]:=by simpa using hw
  rw [e];decide
 ·obtain ⟨c',r',e,_,hd⟩:=Xw hw
  rw [e];exact hd
theorem zhI {l:List UInt8} (h:whole l=true):parseIntB 64 l=if fit (val l)=true then .ok (val l) else .range:=by
 cases l with
 | nil=>cases h
 | cons c r =>
   by_cases h45:c=45
   ·subst h45
    rw [KP] at h
    obtain ⟨c',r',rfl,_,hd⟩:=Xw h
    rw [Lib.parseIntB_minus,za4,Lib.parseUintB_64]
    simp only [parseMag]
    rw [if_neg (by simp),XF _ 0 (by omega) hd]
    generalize num 0 (c'::r')=u
    have e63:(2:Nat) ^ (64 - 1)=9223372036854775808:=by decide
    rw [e63]
    by_cases hu:u < 18446744073709551616
    ·rw [if_pos hu]
     simp only [Lib.signedC]
     by_cases h2:9223372036854775808 < u
     ·rw [if_pos h2,if_neg (by rw [qz];omega)]
     ·rw [if_neg h2,if_pos (by rw [qz];omega)]
    ·rw [if_neg hu]
     simp only [Lib.signedC]
     rw [if_neg (by rw [qz];omega)]
   ·have hd:=ze6 h45 h
    have hc:48≤c.toNat∧c.toNat≤57:=by
     rw [YX,Bool.and_eq_true,ZF] at hd;exact hd.1
    rw [Lib.parseIntB_plain 64 c r (by omega) (by omega),za8 r h45,Lib.parseUintB_64]
    simp only [parseMag]
    rw [if_neg (by simp),XF _ 0 (by omega) hd]
    generalize num 0 (c::r)=u
    have e63:(2:Nat) ^ (64 - 1)=9223372036854775808:=by decide
    rw [e63]
    by_cases hu:u < 18446744073709551616
    ·rw [if_pos hu]
     simp only [Lib.signlessC]
     by_cases h2:9223372036854775808≤u
     ·rw [if_pos h2,if_neg (by rw [qz];omega)]
     ·rw [if_neg h2,if_pos (by rw [qz];omega)]
    ·rw [if_neg hu]
     simp only [Lib.signlessC]
     rw [if_neg (by rw [qz];omega)]
theorem zeU (l:List UInt8):fit (parseV l)=true:=by
 unfold parseV;split
 ·split
  ·assumption
  ·decide
 ·decide
end Go.Proofs.YtdhfpgjnjlcciaaGreatDoor
end
section
namespace Go.Proofs.YtdhfpgjnjlcciaaGreatDoor.Pk
open Go.RowKit Go.Proofs.YtdhfpgjnjlcciaaGreatDoor.Un Go.Proofs.YtdhfpgjnjlcciaaGreatDoor.Fa
def zA:ByteArray:=⟨#[112,97,99,107,97,103,101]⟩
def zL:ByteArray:=⟨#[106,111,117,114,110,97,108]⟩
def tFact:ByteArray:=⟨#[102,97,99,116]⟩
def tDash:ByteArray:=⟨#[45]⟩
def hasE (M:Mast) (c:ByteArray):Bool:=(G.findK Ent.code M.ents c).isSome
def hasFl (M:Mast) (c:ByteArray):Bool:=(Fl.findF M.flows c).isSome
def mutA (M:Mast) (c:ByteArray):Bool:=((findL M.chart c).getD zeroA).both
def kindF (M:Mast) (c:ByteArray):Int:=((Fl.findF M.flows c).getD Fl.zeroF).kind
def isP (k:Key):Bool:=decide (k.p≠emp)
def inM (M:Mast) (k:Key):Bool:=hasE M k.e && hasA M.chart k.a && hasFl M k.f && (!isP k || hasE M k.p)
def checkE (M:Mast) (k:Key):Int :=
 if inM M k=false then 6
 else if (isP k && decide (k.p=k.e))=true then 1
 else if isP k≠mutA M k.a then 15
 else if kindF M k.f=2 then 8 else 0
structure St where
 ent:ByteArray
 mrk:Int
 had:List ByteArray
 facts:List Fact
def st0:St:=⟨emp,0,[],[]⟩
def begE (M:Mast) (c:ByteArray):Int:=if nmB c=false then 5 else if hasE M c=false then 6 else 0
def parB (x:ByteArray):ByteArray:=if x=tDash then emp else x
def keyF (S:St) (ws:List ByteArray):Key:=⟨S.ent,wd ws 1,wd ws 2,parB (wd ws 3),S.mrk⟩
def namedK (k:Key):Bool:=nmB k.a && nmB k.f && (!isP k || nmB k.p)
def factE (M:Mast) (S:St) (ws:List ByteArray):Int :=
 if (decide (S.ent=emp) || !namedK (keyF S ws))=true then 5
 else if parseE (wd ws 4).data.toList=0 then checkE M (keyF S ws) else parseE (wd ws 4).data.toList
def factV (S:St) (ws:List ByteArray):Fact:=⟨keyF S ws,parseV (wd ws 4).data.toList⟩
def hadB (l:List ByteArray) (c:ByteArray):Bool:=l.any fun x=>decide (x=c)
theorem ZD {l:List ByteArray} {c:ByteArray}:hadB l c=true ↔ c∈l:=by
 unfold hadB
 rw [List.any_eq_true]
 exact ⟨fun ⟨x,hx,e⟩=>by rw [←of_decide_eq_true e];exact hx,fun h=>⟨c,h,decide_eq_true rfl⟩⟩
theorem Kb {l:List ByteArray} {c:ByteArray}:hadB l c=false ↔ c ∉ l:=by
 rw [←ZD,Bool.not_eq_true]
def lineE (M:Mast) (S:St) (ws:List ByteArray):Int :=
 if wd ws 0=zA then (if ws.length=2 then (if begE M (wd ws 1)=0 then (if hadB S.had (wd ws 1)=true then 7 else 0) else begE M (wd ws 1)) else 5)
 else if wd ws 0=zL then (if ws.length=2 then begE M (wd ws 1) else 5)
 else if wd ws 0=tFact then (if ws.length=5 then factE M S ws else 5)
 else 5
def lineV (S:St) (ws:List ByteArray):St :=
 if wd ws 0=zA then ⟨wd ws 1,0,S.had++[wd ws 1],S.facts⟩
 else if wd ws 0=zL then ⟨wd ws 1,1,S.had,S.facts⟩
 else ⟨S.ent,S.mrk,S.had,S.facts++[factV S ws]⟩
def runP (M:Mast):St→List (List ByteArray)→St × Int
 | S,[]=>(S,0)
 | S,ws::r=>if lineE M S ws=0 then runP M (lineV S ws) r else (st0,lineE M S ws)
def endP (r:St × Int):List Fact × Int:=if r.2=0 then ofL r.1.facts else ([],r.2)
def parseP (M:Mast) (s:ByteArray):List Fact × Int:=if linE s.data.toList=0 then endP (runP M st0 (wordsT s)) else ([],linE s.data.toList)
theorem yP {M:Mast} {S:St} {ws:List ByteArray} (r:List (List ByteArray)) (h:lineE M S ws=0):runP M S (ws::r)=runP M (lineV S ws) r:=by simp [runP,h]
theorem Qh {M:Mast} {S:St} {ws:List ByteArray} (r:List (List ByteArray)) (h:lineE M S ws≠0):runP M S (ws::r)=(st0,lineE M S ws):=by simp [runP,h]
theorem Qv (S:St):endP (S,0)=ofL S.facts:=by simp [endP]
theorem XZ (S:St) {n:Int} (h:n≠0):endP (S,n)=([],n):=by simp [endP,h]
theorem tP_J:zA≠zL:=by decide
theorem tP_F:zA≠tFact:=by decide
theorem tJ_F:zL≠tFact:=by decide
theorem Xj {M:Mast} {c:ByteArray}:begE M c=0 ↔ nmB c=true∧hasE M c=true:=by
 unfold begE
 cases nmB c <;> cases hasE M c <;> simp
theorem Yn {M:Mast} {S:St} {ws:List ByteArray} (h:lineE M S ws=0) :
 (wd ws 0=zA∧ws.length=2∧begE M (wd ws 1)=0∧wd ws 1 ∉ S.had∧lineV S ws=⟨wd ws 1,0,S.had++[wd ws 1],S.facts⟩) ∨
 (wd ws 0=zL∧ws.length=2∧begE M (wd ws 1)=0∧lineV S ws=⟨wd ws 1,1,S.had,S.facts⟩) ∨
 (wd ws 0=tFact∧ws.length=5∧factE M S ws=0∧lineV S ws=⟨S.ent,S.mrk,S.had,S.facts++[factV S ws]⟩):=by
 unfold lineE at h
 by_cases h1:wd ws 0=zA
 ·rw [if_pos h1] at h
  by_cases h2:ws.length=2
  ·rw [if_pos h2] at h
   by_cases h3:begE M (wd ws 1)=0
   ·rw [if_pos h3] at h
    by_cases h4:hadB S.had (wd ws 1)=true
    ·rw [if_pos h4] at h;cases h
    ·exact .inl ⟨h1,h2,h3,Kb.1 (by simpa using h4),by unfold lineV;rw [if_pos h1]⟩
   ·rw [if_neg h3] at h;exact absurd h h3
  ·rw [if_neg h2] at h;cases h
 rw [if_neg h1] at h
 by_cases h2:wd ws 0=zL
 ·rw [if_pos h2] at h
  by_cases h3:ws.length=2
  ·rw [if_pos h3] at h
   exact .inr (.inl ⟨h2,h3,h,by unfold lineV;rw [if_neg h1,if_pos h2]⟩)
  ·rw [if_neg h3] at h;cases h
 rw [if_neg h2] at h
 by_cases h3:wd ws 0=tFact
 ·rw [if_pos h3] at h
  by_cases h4:ws.length=5
  ·rw [if_pos h4] at h
   exact .inr (.inr ⟨h3,h4,h,by unfold lineV;rw [if_neg h1,if_neg h2]⟩)
  ·rw [if_neg h4] at h;cases h
 ·rw [if_neg h3] at h;cases h
theorem zcj {M:Mast} {S:St} {ws:List ByteArray} (h:factE M S ws=0):S.ent≠emp∧namedK (keyF S ws)=true∧parseE (wd ws 4).data.toList=0∧checkE M (keyF S ws)=0:=by
 unfold factE at h
 by_cases h1:(decide (S.ent=emp) || !namedK (keyF S ws))=true
 ·rw [if_pos h1] at h;cases h
 rw [if_neg h1] at h
 rw [Bool.not_eq_true,Bool.or_eq_false_iff] at h1
 by_cases h2:parseE (wd ws 4).data.toList=0
 ·rw [if_pos h2] at h
  exact ⟨of_decide_eq_false h1.1,by simpa using h1.2,h2,h⟩
 ·rw [if_neg h2] at h;exact absurd h h2
theorem zei (l:List UInt8):In64 (parseV l):=by
 have:=zeU l
 unfold fit at this
 simp only [Bool.and_eq_true,decide_eq_true_eq] at this
 exact this
structure Had (M:Mast) (S:St):Prop where
 mrk:S.mrk=0∨S.mrk=1
 ok:∀ f∈S.facts,In64 f.amt∧checkE M f.key=0∧(f.key.m=0∨f.key.m=1)
theorem Had.zero (M:Mast):Had M st0:=⟨.inl rfl,fun _ h=>by cases h⟩
theorem Had.step {M:Mast} {S:St} {ws:List ByteArray} (h:Had M S) (he:lineE M S ws=0):Had M (lineV S ws):=by
 rcases Yn he with ⟨_,_,_,_,e⟩ | ⟨_,_,_,e⟩ | ⟨_,_,hf,e⟩ <;> rw [e]
 ·exact ⟨.inl rfl,h.ok⟩
 ·exact ⟨.inr rfl,h.ok⟩
 ·obtain ⟨_,_,_,h4⟩:=zcj hf
  refine ⟨h.mrk,fun f hf=>?_⟩
  rcases List.mem_append.1 hf with hf | hf
  ·exact h.ok f hf
  ·rw [List.mem_singleton.1 hf]
   exact ⟨zei _,h4,h.mrk⟩
theorem Had.run {M:Mast}:∀ (l:List (List ByteArray)) {S T:St},Had M S→runP M S l=(T,0)→Had M T
 | [],S,T,h,e=>by
   simp only [runP,Prod.mk.injEq] at e
   rw [←e.1];exact h
 | ws::r,S,T,h,e=>by
   by_cases he:lineE M S ws=0
   ·rw [yP r he] at e
    exact Had.run r (h.step he) e
   ·rw [Qh r he] at e
    exact absurd (Prod.mk.inj e).2 he
theorem JA:∀ (ws:List ByteArray),ws≠[]→(∀ x∈ws,0 < x.size)→2 * ws.length≤szW ws
 | [],h,_=>absurd rfl h
 | [x],_,hx=>by
   have:=hx x (List.mem_cons_self ..)
   unfold szW
   rw [QS,zv]
   simp;omega
 | x::y::r,_,hx=>by
   have h1:=hx x (List.mem_cons_self ..)
   have ih:=JA (y::r) (by simp) (fun z hz=>hx z (List.mem_cons_of_mem _ hz))
   unfold szW at ih ⊢
   rw [QW]
   simp only [List.length_append,List.length_cons,List.length_nil,zv] at ih ⊢
   omega
theorem zcR {ws:List ByteArray} (h:rightW ws):2 * ws.length≤szW ws:=JA ws h.1 fun x hx=>by
 have:=h.2 x hx
 rw [←zv]
 cases hl:x.data.toList with
 | nil=>rw [hl] at this;cases this
 | cons a b=>simp
theorem YQ {M:Mast}:∀ (l:List (List ByteArray)) {S T:St},(∀ ws∈l,rightW ws)→runP M S l=(T,0)→T.facts.length * 10≤S.facts.length * 10+szL l
 | [],S,T,_,e=>by
   simp only [runP,Prod.mk.injEq] at e
   rw [←e.1];simp [szL]
 | ws::r,S,T,hl,e=>by
   have hs:szL (ws::r)=szW ws+szL r:=by simp [szL]
   by_cases he:lineE M S ws=0
   ·rw [yP r he] at e
    have ih:=YQ r (fun x hx=>hl x (List.mem_cons_of_mem _ hx)) e
    have h2:=zcR (hl ws (List.mem_cons_self ..))
    rcases Yn he with ⟨_,_,_,_,e'⟩ | ⟨_,_,_,e'⟩ | ⟨_,h5,hf,e'⟩ <;> rw [e'] at ih
    ·dsimp only at ih;omega
    ·dsimp only at ih;omega
    ·rw [List.length_append,List.length_singleton] at ih
     omega
   ·rw [Qh r he] at e
    exact absurd (Prod.mk.inj e).2 he
theorem zbb {M:Mast} {s:ByteArray} {T:St} (h:runP M st0 (wordsT s)=(T,0)):T.facts.length * 10≤s.size+1:=by
 have:=YQ _ (Y3 s) h
 have h2:=KH s
 rw [show st0.facts=[] from rfl] at this
 simp only [List.length_nil] at this
 omega
end Go.Proofs.YtdhfpgjnjlcciaaGreatDoor.Pk
end
section
namespace Go.Proofs.YtdhfpgjnjlcciaaGreatDoor.Fa
open Go.RowKit Go.Lib Go.Sort
def encK:Enc Key where
 cs k:=[.string k.e,.string k.a,.string k.f,.string k.p,.int .i64 k.m]
 k:=5
 len _:=rfl
 pos:=by decide
 one:=by intro k v hv;simp at hv;rcases hv with rfl | rfl | rfl | rfl | rfl <;> rfl
def encF:Enc Fact where
 cs f:=[.string f.key.e,.string f.key.a,.string f.key.f,.string f.key.p,.int .i64 f.key.m,.int .i64 f.amt]
 k:=6
 len _:=rfl
 pos:=by decide
 one:=by intro k v hv;simp at hv;rcases hv with rfl | rfl | rfl | rfl | rfl | rfl <;> rfl
abbrev aggK (k:Key):Value:=.agg #[.string k.e,.string k.a,.string k.f,.string k.p,.int .i64 k.m]
abbrev aggF (f:Fact):Value:=.agg #[.string f.key.e,.string f.key.a,.string f.key.f,.string f.key.p,.int .i64 f.key.m,.int .i64 f.amt]
abbrev FactsV (w:World) (v:Value) (L:List Fact):Prop:=ElsV encF w v L
theorem key5 {w:World} {b o:Nat} {k:Key} (h:ElAt encK w b o k):w.cell? ⟨b,o,none⟩=some (.string k.e)∧w.cell? ⟨b,o+1,none⟩=some (.string k.a)∧w.cell? ⟨b,o+2,none⟩=some (.string k.f)∧w.cell? ⟨b,o+3,none⟩=some (.string k.p)∧w.cell? ⟨b,o+4,none⟩=some (.int .i64 k.m):=⟨h 0 _ rfl,h 1 _ rfl,h 2 _ rfl,h 3 _ rfl,h 4 _ rfl⟩
theorem fact6 {w:World} {b o:Nat} {f:Fact} (h:ElAt encF w b o f):w.cell? ⟨b,o,none⟩=some (.string f.key.e)∧w.cell? ⟨b,o+1,none⟩=some (.string f.key.a)∧w.cell? ⟨b,o+2,none⟩=some (.string f.key.f)∧w.cell? ⟨b,o+3,none⟩=some (.string f.key.p)∧w.cell? ⟨b,o+4,none⟩=some (.int .i64 f.key.m)∧w.cell? ⟨b,o+5,none⟩=some (.int .i64 f.amt):=⟨h 0 _ rfl,h 1 _ rfl,h 2 _ rfl,h 3 _ rfl,h 4 _ rfl,h 5 _ rfl⟩
def encI:Enc Int where
 cs a:=[.int .i64 a]
 k:=1
 len _:=rfl
 pos:=by decide
 one:=by intro k v hv;simp at hv;subst hv;rfl
theorem zae {w:World} {p:Option Addr} {n c:Nat} {l:List Int} (h:ElsV encI w (.slice p n c) l):RowIs .i64 w p l.length l:=by
 obtain ⟨p',c',e,h1,h2,h3,hc⟩:=h
 cases e
 refine ⟨rfl,by omega,fun i hi=>?_⟩
 obtain ⟨b,o,e,hat⟩:=hc i _ (List.getElem?_eq_getElem hi)
 refine ⟨b,o,e,?_⟩
 have:=hat 0 _ rfl
 rw [Nat.add_zero,show encI.k=1 from rfl,Nat.mul_one] at this
 rw [this,getD_at l i hi]
def Grew (w w':World):Prop:=∃ q os,w'=grow (w.drewN q) os
theorem belowN {B:Nat} {a w:World} (h:Below B a w) (n:Nat):Below B a (w.drewN n):=⟨h.os,h.tape,h.output,h.size,h.block⟩
theorem Grew.refl (w:World):Grew w w:=⟨0,#[],by rw [grow_empty];rfl⟩
theorem Grew.trans {a b c:World} (h:Grew a b) (h':Grew b c):Grew a c:=by
 obtain ⟨q,os,rfl⟩:=h
 obtain ⟨q',os',rfl⟩:=h'
 refine ⟨q+q',os++os',?_⟩
 unfold grow World.drewN
 simp only [World.mk.injEq,Array.append_assoc,and_true,true_and]
 omega
theorem Grew.alloc {a b:World} (h:Grew a b) (o:Obj):Grew a (b.alloc o):=h.trans ⟨0,#[o],by rw [alloc_eq_grow];rfl⟩
theorem Grew.drew {a b:World} (h:Grew a b):Grew a b.drew:=h.trans ⟨1,#[],by rw [grow_empty];rfl⟩
theorem Grew.below {a b:World} (h:Grew a b):Below a.heap.size a b:=by
 obtain ⟨q,os,rfl⟩:=h
 refine ⟨rfl,rfl,rfl,by rw [size_grow];exact Nat.le_add_right _ _,fun k hk=>?_⟩
 exact heap_grow_old _ _ (by exact hk)
theorem Je (w:World) (o:Obj) (y:Fact) (t:TypeId):ElAt encF ((w.alloc o).alloc (.cells (encF.cs y).toArray t)) (w.heap.size+1) 0 y:=by
 have:=zf encF (w.alloc o) y t
 rw [World.size_alloc] at this
 exact this
theorem ElsV.at_ {α:Type} {E:Enc α} {w:World} {p:Option Addr} {n c:Nat} {L:List α} (h:ElsV E w (.slice p n c) L) {i:Nat} {x:α} (hx:L[i]?=some x):∃ b o,p=some ⟨b,o,none⟩∧ElAt E w b (o+i * E.k) x:=by
 obtain ⟨p',c',e,_,_,_,hc⟩:=h
 cases e
 exact hc i x hx
end Go.Proofs.YtdhfpgjnjlcciaaGreatDoor.Fa
end
section
namespace Go.Proofs.YtdhfpgjnjlcciaaGreatDoor.Pk
open Go.RowKit Go.Proofs.YtdhfpgjnjlcciaaGreatDoor.Un
theorem shapes {w:World} {c f e l:Value} {M:Mast} (h:MastIn w c f e l M):∃ pc cc pf cf pe ce pl cl,c=.slice pc M.chart.length cc∧f=.slice pf M.flows.length cf∧e=.slice pe M.ents.length ce∧l=.slice pl M.lines.length cl:=by
 obtain ⟨p0,k0,e0,_⟩:=h.chart
 obtain ⟨p1,k1,e1,_⟩:=h.flows
 obtain ⟨p2,k2,e2,_⟩:=h.ents
 obtain ⟨p3,k3,e3,_⟩:=h.lines
 exact ⟨_,_,_,_,_,_,_,_,e0,e1,e2,e3⟩
theorem Vf (k:Fa.Key):isP k=(!k.p.toList.isEmpty):=by
 have h:=ji k.p
 show isP k=neB k.p
 unfold isP
 rw [Bool.eq_iff_iff,decide_eq_true_eq]
 exact h.symm
set_option maxRecDepth 100000 in
set_option maxHeartbeats 4000000 in
theorem Qw (c f e l:Value) (M:Mast) (code:ByteArray) (w:World) (h:MastIn w c f e l M) :
 Calls Tryz.prog 57 #[aggM c f e l M,.string code] w fun en w'=>en=.returned (.bool (hasE M code))∧Below w.heap.size w w':=by
 obtain ⟨pc,cc,pf,cf,pe,ce,pl,cl,rfl,rfl,rfl,rfl⟩:=shapes h
 have hb:=(Below.refl w.heap.size w).alloc (Nat.le_refl _) (.cells (cellsM (.slice pc M.chart.length cc) (.slice pf M.flows.length cf) (.slice pe M.ents.length ce) (.slice pl M.lines.length cl) M) 33)
 have HB:=Lib.hid hb
 have HM:=Lib.hid (h.keep hb)
 have HN:=Lib.hid (zM w (.slice pc M.chart.length cc) (.slice pf M.flows.length cf) (.slice pe M.ents.length ce) (.slice pl M.lines.length cl) M 33)
 obtain ⟨C,hC⟩:∃ C,curO (G.findK Ent.code M.ents code)=C:=⟨_,rfl⟩
 obtain ⟨I,hI⟩:∃ I,(G.findK Ent.code M.ents code).isSome=I:=⟨_,rfl⟩
 have hI2:hasE M code=I:=hI
 have HF:=Lib.hid (fun W h=>Un.jh (.slice pc M.chart.length cc) (.slice pf M.flows.length cf) (.slice pe M.ents.length ce) (.slice pl M.lines.length cl) M code W h)
 simp only [hC,hI] at HF
 rw [hI2]
 clear hC hI hI2 hb h
 obtain ⟨k0,k1,k2,k3,k4,k5,k6,k7,k8⟩:=HN.out
 go_enter Tryz.func57,Tryz.ntmps57
 go_wp2_with fail
 clear k0 k1 k2 k3 k4 k5 k6 k7 k8
 refine (HF.out _ HM.out).mono ?_
 rintro en w2 ⟨rfl,hb2⟩
 have HB2:=Lib.hid (HB.out.trans (hb2.mono HB.out.size))
 clear hb2
 go_wp2
 go_ret
 exact ⟨rfl,HB2.out⟩
abbrev kCells (k:Fa.Key):Array Value:=#[.string k.e,.string k.a,.string k.f,.string k.p,.int .i64 k.m]
abbrev fCells (x:Fa.Fact):Array Value:=#[.string x.key.e,.string x.key.a,.string x.key.f,.string x.key.p,.int .i64 x.key.m,.int .i64 x.amt]
theorem Kq {L:List Fl.Flow} (hr:riseK Fl.Flow.code L=true) (c:ByteArray):Fl.kindL L c=((Fl.findF L c).getD Fl.zeroF).kind:=by
 unfold Fl.kindL
 obtain ⟨h1,h2⟩:=jE hr c
 cases hi:isK Fl.Flow.code L c with
 | true=>rw [if_pos rfl,h2 hi]
 | false =>
   rw [hi] at h1
   rw [if_neg (by simp)]
   unfold Fl.findF
   cases hf:findK Fl.Flow.code L c with
   | none=>rfl
   | some y=>rw [hf] at h1;cases h1
theorem yf {M:Mast} {k:Fa.Key} (h:inM M k=false):checkE M k=6:=by unfold checkE;rw [if_pos h]
theorem zib {M:Mast} {k:Fa.Key} (h:inM M k=true) (h1:(isP k && decide (k.p=k.e))=true):checkE M k=1:=by unfold checkE;rw [if_neg (by rw [h];simp),if_pos h1]
theorem X7 {M:Mast} {k:Fa.Key} (h:inM M k=true) (h1:(isP k && decide (k.p=k.e))=false) (h2:isP k≠mutA M k.a):checkE M k=15:=by unfold checkE;rw [if_neg (by rw [h];simp),if_neg (by rw [h1];simp),if_pos h2]
theorem Kz {M:Mast} {k:Fa.Key} (h:inM M k=true) (h1:(isP k && decide (k.p=k.e))=false) (h2:isP k=mutA M k.a):checkE M k=if kindF M k.f=2 then 8 else 0:=by unfold checkE;rw [if_neg (by rw [h];simp),if_neg (by rw [h1];simp),if_neg (by simp [h2])]
set_option maxRecDepth 100000 in
set_option maxHeartbeats 16000000 in
theorem yJ (c f e l:Value) (M:Mast) (x:Fa.Fact) (w:World) (h:MastIn w c f e l M) (hr:riseK Fl.Flow.code M.flows=true) (hlf:M.flows.length≤1000) :
 Calls Tryz.prog 26 #[aggM c f e l M,Fa.aggF x] w fun en w'=>en=.returned (.int .i64 (checkE M x.key))∧Below w.heap.size w w':=by
 obtain ⟨pc,cc,pf,cf,pe,ce,pl,cl,rfl,rfl,rfl,rfl⟩:=shapes h
 have hb1:=(Below.refl w.heap.size w).alloc (Nat.le_refl _) (.cells (cellsM (.slice pc M.chart.length cc) (.slice pf M.flows.length cf) (.slice pe M.ents.length ce) (.slice pl M.lines.length cl) M) 33)
 have hn1:=zM w (.slice pc M.chart.length cc) (.slice pf M.flows.length cf) (.slice pe M.ents.length ce) (.slice pl M.lines.length cl) M 33
 obtain ⟨W1,hW1⟩:∃ W1,w.alloc (.cells (cellsM (.slice pc M.chart.length cc) (.slice pf M.flows.length cf) (.slice pe M.ents.length ce) (.slice pl M.lines.length cl) M) 33)=W1:=⟨_,rfl⟩
 rw [hW1] at hb1 hn1
 have hb2:=(Below.refl W1.heap.size W1).alloc (Nat.le_refl _) (.cells (fCells x) 76)
 have hf2:=Fa.fact6 (zf Fa.encF W1 x 76)
 obtain ⟨W2,hW2⟩:∃ W2,W1.alloc (.cells (fCells x) 76)=W2:=⟨_,rfl⟩
 rw [show (Fa.encF.cs x).toArray=fCells x from rfl,hW2] at hf2
 rw [hW2] at hb2
 have hb3:=(Below.refl W2.heap.size W2).alloc (Nat.le_refl _) (.cells (kCells x.key) 74)
 have hk3:=Fa.key5 (zf Fa.encK W2 x.key 74)
 obtain ⟨W3,hW3⟩:∃ W3,W2.alloc (.cells (kCells x.key) 74)=W3:=⟨_,rfl⟩
 rw [show (Fa.encK.cs x.key).toArray=kCells x.key from rfl,hW3] at hk3
 rw [hW3] at hb3
 have hb13:Below W1.heap.size W1 W3:=hb2.trans (hb3.mono hb2.size)
 have hb03:Below w.heap.size w W3:=hb1.trans (hb13.mono hb1.size)
 have HB3:=Lib.hid hb03
 have HM3:=Lib.hid (h.keep hb03)
 have HN3:=Lib.hid (hn1.kept hb13)
 have HK3:Hid (ElAt Fa.encK W3 W2.heap.size 0 x.key):=Lib.hid (by rw [←hW3];exact zf Fa.encK W2 x.key 74)
 have HR:=Lib.hid hr
 have HCF:=Lib.hid (fun W h=>jh (.slice pc M.chart.length cc) M.chart x.key.a W h)
 have HFK:=Lib.hid (fun W h=>Fl.QJ (.slice pf M.flows.length cf) M.flows x.key.f W h hr hlf)
 have HEE:=Lib.hid (fun W h=>Qw (.slice pc M.chart.length cc) (.slice pf M.flows.length cf) (.slice pe M.ents.length ce) (.slice pl M.lines.length cl) M x.key.e W h)
 have HEP:=Lib.hid (fun W h=>Qw (.slice pc M.chart.length cc) (.slice pf M.flows.length cf) (.slice pe M.ents.length ce) (.slice pl M.lines.length cl) M x.key.p W h)
 have HCK:Hid (checkE M x.key=checkE M x.key):=Lib.hid rfl
 obtain ⟨A,hA⟩:∃ A,findV (findL M.chart x.key.a)=A:=⟨_,rfl⟩
 obtain ⟨AI,hAI⟩:∃ I,(findL M.chart x.key.a).isSome=I:=⟨_,rfl⟩
 obtain ⟨K,hK⟩:∃ K,Fl.kindL M.flows x.key.f=K:=⟨_,rfl⟩
 obtain ⟨FI,hFI⟩:∃ I,isK Fl.Flow.code M.flows x.key.f=I:=⟨_,rfl⟩
 obtain ⟨EI,hEI⟩:∃ I,hasE M x.key.e=I:=⟨_,rfl⟩
 obtain ⟨PI,hPI⟩:∃ I,hasE M x.key.p=I:=⟨_,rfl⟩
 obtain ⟨P,hP⟩:∃ P,isP x.key=P:=⟨_,rfl⟩
 have hne:=Vf x.key
 rw [hP] at hne
 simp only [hA,hAI] at HCF
 simp only [hK,hFI] at HFK
 simp only [hEI] at HEE
 simp only [hPI] at HEP
 have HIN:Hid (inM M x.key=(EI && AI && FI && (!P || PI))):=Lib.hid (by
  unfold inM hasA hasFl
  rw [hEI,hAI,hP,hPI,←(jE hr x.key.f).1,hFI])
 have HMU:Hid (mutA M x.key.a=A.both):=Lib.hid (by rw [←hA];rfl)
 have HKF:Hid (kindF M x.key.f=K):=Lib.hid (by rw [←hK,Kq hr];rfl)
 have HPP:=Lib.hid hP
 obtain ⟨N,hN⟩:∃ N,checkE M x.key=N:=⟨_,rfl⟩
 rw [hN]
 have HN:=Lib.hid hN
 clear hA hAI hK hFI hEI hPI hP hN hr hlf hb1 hb2 hb3 hb13 hb03 h hn1 HCK
 obtain ⟨k0,k1,k2,k3,k4,k5,k6,k7,k8⟩:=HN3.out
 obtain ⟨f0,f1,f2,f3,f4,f5⟩:=hf2
 obtain ⟨y0,y1,y2,y3,y4⟩:=hk3
 simp only [Nat.zero_add] at f0 f1 f2 f3 f4 f5 y0 y1 y2 y3 y4
 go_enter Tryz.func26,Tryz.ntmps26
 go_wp2_with fail
 clear k0 k1 k2 k3 k4 k5 k6 k7 k8 f0 f1 f2 f3 f4 f5 y0 y1 y2 y3 y4 hW1 hW2 hW3
 refine (HCF.out _ HM3.out.chart).mono ?_
 rintro en w4 ⟨rfl,hb4⟩
 have hb5:=hb4.alloc hb4.size (.cells #[.string A.code,.int .i64 A.cls,.bool A.cash,.bool A.both,.string A.fixed,.bool A.worn] 129)
 have HB5:=Lib.hid (HB3.out.trans (hb5.mono HB3.out.size))
 have HM5:=Lib.hid (HM3.out.keep hb5)
 have HN5:=Lib.hid (HN3.out.kept hb5)
 have HK5:=Lib.hid (HK3.out.keep hb5 HK3.out.lt)
 have HA5:=Lib.hid (BoxA.new w4 A 129)
 clear hb4 hb5 HB3 HM3 HN3 HK3 HCF
 obtain ⟨k0,k1,k2,k3,k4,k5,k6,k7,k8⟩:=HN5.out
 obtain ⟨y0,y1,y2,y3,y4⟩:=Fa.key5 HK5.out
 simp only [Nat.zero_add] at y0 y1 y2 y3 y4
 go_wp2_with fail
 clear k0 k1 k2 k3 k4 k5 k6 k7 k8 y0 y1 y2 y3 y4
 refine (HFK.out _ HM5.out.flows).mono ?_
 rintro en w6 ⟨rfl,hb6⟩
 have HB6:=Lib.hid (HB5.out.trans (hb6.mono HB5.out.size))
 have HM6:=Lib.hid (HM5.out.keep hb6)
 have HN6:=Lib.hid (HN5.out.kept hb6)
 have HK6:=Lib.hid (HK5.out.keep hb6 HK5.out.lt)
 have HA6:=Lib.hid (HA5.out.keep hb6 (Array.getElem?_eq_some_iff.1 HA5.out).1)
 clear hb6 HB5 HM5 HN5 HK5 HA5 HFK
 obtain ⟨k0,k1,k2,k3,k4,k5,k6,k7,k8⟩:=HN6.out
 obtain ⟨y0,y1,y2,y3,y4⟩:=Fa.key5 HK6.out
 simp only [Nat.zero_add] at y0 y1 y2 y3 y4
 have hq0:=hne.symm
 clear hne
 cases P with
 | false =>
   have hq:(!x.key.p.toList.isEmpty)=false:=hq0
   have hq2:x.key.p.toList.isEmpty=true:=by simpa using hq0
   clear hq0
   go_wp2_with fail
   clear k0 k1 k2 k3 k4 k5 k6 k7 k8 y0 y1 y2 y3 y4
   refine (HEE.out _ HM6.out).mono ?_
   rintro en w8 ⟨rfl,hb8⟩
   have HB8:=Lib.hid (HB6.out.trans (hb8.mono HB6.out.size))
   have HM8:=Lib.hid (HM6.out.keep hb8)
   have HN8:=Lib.hid (HN6.out.kept hb8)
   have HK8:=Lib.hid (HK6.out.keep hb8 HK6.out.lt)
   have HA8:=Lib.hid (HA6.out.keep hb8 (Array.getElem?_eq_some_iff.1 HA6.out).1)
   clear hb8 HB6 HM6 HN6 HK6 HA6 HEE
   cases EI with
   | false =>
     have HNN:Hid (N=6):=Lib.hid (by rw [←HN.out];exact yf (by rw [HIN.out];rfl))
     go_wp2
     go_ret
     exact ⟨by rw [HNN.out];rfl,HB8.out⟩
   | true =>
   cases AI with
   | false =>
     have HNN:Hid (N=6):=Lib.hid (by rw [←HN.out];exact yf (by rw [HIN.out];rfl))
     go_wp2
     go_ret
     exact ⟨by rw [HNN.out];rfl,HB8.out⟩
   | true =>
   cases FI with
   | false =>
     have HNN:Hid (N=6):=Lib.hid (by rw [←HN.out];exact yf (by rw [HIN.out];rfl))
     go_wp2
     go_ret
     exact ⟨by rw [HNN.out];rfl,HB8.out⟩
   | true =>
     have HINT:Hid (inM M x.key=true):=Lib.hid (by rw [HIN.out];rfl)
     have HARG:Hid ((isP x.key && decide (x.key.p=x.key.e))=false):=Lib.hid (by rw [HPP.out];rfl)
     obtain ⟨y0,y1,y2,y3,y4⟩:=Fa.key5 HK8.out
     simp only [Nat.zero_add] at y0 y1 y2 y3 y4
     obtain ⟨z0,z1,z2,z3,z4,z5⟩:=HA8.out.facts
     cases hB:A.both with
     | true =>
       have HNN:Hid (N=15):=Lib.hid (by rw [←HN.out];exact X7 HINT.out HARG.out (by rw [HPP.out,HMU.out,hB];simp))
       rw [hB] at z3
       clear hB
       go_wp2
       go_ret
       exact ⟨by rw [HNN.out];rfl,HB8.out⟩
     | false =>
       have HNE:Hid (N=if K=2 then 8 else 0):=Lib.hid (by rw [←HN.out,←HKF.out];exact Kz HINT.out HARG.out (by rw [HPP.out,HMU.out,hB]))
       rw [hB] at z3
       clear hB
       by_cases hK2:K=2
       ·subst hK2
        go_wp2
        go_ret
        exact ⟨by rw [HNE.out];rfl,HB8.out⟩
       ·have HNN:Hid (N=0):=Lib.hid (by rw [HNE.out,if_neg hK2])
        have hk2:(K==2)=false:=by simpa using hK2
        clear hK2
        go_wp2
        go_ret
        exact ⟨by rw [HNN.out];rfl,HB8.out⟩
 | true =>
   have hq:(!x.key.p.toList.isEmpty)=true:=hq0
   have hq2:x.key.p.toList.isEmpty=false:=by simpa using hq0
   clear hq0
   go_wp2_with fail
   clear k0 k1 k2 k3 k4 k5 k6 k7 k8 y0 y1 y2 y3 y4
   refine (HEE.out _ HM6.out).mono ?_
   rintro en w8 ⟨rfl,hb8⟩
   have HB8:=Lib.hid (HB6.out.trans (hb8.mono HB6.out.size))
   have HM8:=Lib.hid (HM6.out.keep hb8)
   have HN8:=Lib.hid (HN6.out.kept hb8)
   have HK8:=Lib.hid (HK6.out.keep hb8 HK6.out.lt)
   have HA8:=Lib.hid (HA6.out.keep hb8 (Array.getElem?_eq_some_iff.1 HA6.out).1)
   clear hb8 HB6 HM6 HN6 HK6 HA6 HEE
   cases EI with
   | false =>
     have HNN:Hid (N=6):=Lib.hid (by rw [←HN.out];exact yf (by rw [HIN.out];rfl))
     go_wp2
     go_ret
     exact ⟨by rw [HNN.out];rfl,HB8.out⟩
   | true =>
   cases AI with
   | false =>
     have HNN:Hid (N=6):=Lib.hid (by rw [←HN.out];exact yf (by rw [HIN.out];rfl))
     go_wp2
     go_ret
     exact ⟨by rw [HNN.out];rfl,HB8.out⟩
   | true =>
   cases FI with
   | false =>
     have HNN:Hid (N=6):=Lib.hid (by rw [←HN.out];exact yf (by rw [HIN.out];rfl))
     go_wp2
     go_ret
     exact ⟨by rw [HNN.out];rfl,HB8.out⟩
   | true =>
     obtain ⟨k0,k1,k2,k3,k4,k5,k6,k7,k8⟩:=HN8.out
     obtain ⟨y0,y1,y2,y3,y4⟩:=Fa.key5 HK8.out
     simp only [Nat.zero_add] at y0 y1 y2 y3 y4
     go_wp2_with fail
     clear k0 k1 k2 k3 k4 k5 k6 k7 k8 y0 y1 y2 y3 y4
     refine (HEP.out _ HM8.out).mono ?_
     rintro en w9 ⟨rfl,hb9⟩
     have HB9:=Lib.hid (HB8.out.trans (hb9.mono HB8.out.size))
     have HK9:=Lib.hid (HK8.out.keep hb9 HK8.out.lt)
     have HA9:=Lib.hid (HA8.out.keep hb9 (Array.getElem?_eq_some_iff.1 HA8.out).1)
     clear hb9 HB8 HM8 HN8 HK8 HA8 HEP
     cases PI with
     | false =>
       have HNN:Hid (N=6):=Lib.hid (by rw [←HN.out];exact yf (by rw [HIN.out];rfl))
       go_wp2
       go_ret
       exact ⟨by rw [HNN.out];rfl,HB9.out⟩
     | true =>
     have HINT:Hid (inM M x.key=true):=Lib.hid (by rw [HIN.out];rfl)
     obtain ⟨y0,y1,y2,y3,y4⟩:=Fa.key5 HK9.out
     simp only [Nat.zero_add] at y0 y1 y2 y3 y4
     obtain ⟨z0,z1,z2,z3,z4,z5⟩:=HA9.out.facts
     cases hpe:(x.key.p.toList==x.key.e.toList) with
     | true =>
       have HNN:Hid (N=1):=Lib.hid (by
        rw [←HN.out]
        exact zib HINT.out (by rw [HPP.out,(Lib.bytes_beq_iff _ _).1 hpe];simp))
       go_wp2
       go_ret
       exact ⟨by rw [HNN.out];rfl,HB9.out⟩
     | false =>
     have HARG:Hid ((isP x.key && decide (x.key.p=x.key.e))=false):=Lib.hid (by rw [HPP.out,Bool.true_and];exact decide_eq_false ((Lib.bytes_beq_false_iff _ _).1 hpe))
     cases hB:A.both with
     | false =>
       have HNN:Hid (N=15):=Lib.hid (by rw [←HN.out];exact X7 HINT.out HARG.out (by rw [HPP.out,HMU.out,hB];simp))
       rw [hB] at z3
       clear hB
       go_wp2
       go_ret
       exact ⟨by rw [HNN.out];rfl,HB9.out⟩
     | true =>
       have HNE:Hid (N=if K=2 then 8 else 0):=Lib.hid (by rw [←HN.out,←HKF.out];exact Kz HINT.out HARG.out (by rw [HPP.out,HMU.out,hB]))
       rw [hB] at z3
       clear hB
       by_cases hK2:K=2
       ·subst hK2
        go_wp2
        go_ret
        exact ⟨by rw [HNE.out];rfl,HB9.out⟩
       ·have HNN:Hid (N=0):=Lib.hid (by rw [HNE.out,if_neg hK2])
        have hk2:(K==2)=false:=by simpa using hK2
        clear hK2
        go_wp2
        go_ret
        exact ⟨by rw [HNN.out];rfl,HB9.out⟩
end Go.Proofs.YtdhfpgjnjlcciaaGreatDoor.Pk
end
