/- UnitFind ChartSame ChartNew FlowOf UnitCheck MapKeys UnitSmall CentPlain FaPlain CentNum PkPlain FaMem PkCheck EntSearch EntClone CopyK EntInsert EntPut UnitOrdN -/
import Derived.Laws.CopyOwn
import Derived.Laws.Externs
import Derived.Laws.NewBlocks
import Derived.Laws.Slices
import Derived.Laws.StructEq
import Derived.Lib.AppendZerosOnto
import Derived.Lib.ItoaNum
import Derived.Lib.Overlaps
import Derived.Lib.ParseIntBTie
import Derived.Lib.SliceRun
import Derived.Maps.AppendAt
import Derived.Maps.Ext
import Derived.Maps.Range
import Derived.Maps.RangeWalk
import Derived.Sort.Grow
import Derived.StillTailTactics
import Derived.StringKeys
import Derived.Test.YtdegffffcbhjbaaGreatDoorQ01
section
namespace Go.Proofs.YtdegffffcbhjbaaGreatDoor.Un
open Go.RowKit
def curO (o:Option Ent):ByteArray:=(o.map Ent.cur).getD emp
theorem G.findK_first {α κ:Type} [DecidableEq κ] {key:α→κ} {L:List α} {c:κ} {i:Nat} {x:α} (hb:∀ (j:Nat) (y:α),j < i→L[j]?=some y→key y≠c) (hx:L[i]?=some x) (h:key x=c):G.findK key L c=some x:=by
 induction L generalizing i with
 | nil=>simp at hx
 | cons a L ih =>
   cases i with
   | zero =>
     simp at hx;subst hx
     simp only [G.findK];rw [if_pos h]
   | succ i =>
     simp only [G.findK]
     rw [if_neg (hb 0 a (Nat.succ_pos _) rfl)]
     refine ih (i:=i) (fun j y hj hy=>hb (j+1) y (by omega) (by simpa using hy)) (by simpa using hx)
theorem G.findK_nowhere {α κ:Type} [DecidableEq κ] {key:α→κ} {L:List α} {c:κ} (h:∀ (j:Nat) (y:α),L[j]?=some y→key y≠c):G.findK key L c=none :=
 G.findK_none fun y hy e=>by
  obtain ⟨j,hj,rfl⟩:=List.getElem_of_mem hy
  exact h j _ (List.getElem?_eq_getElem hj) e
set_option maxRecDepth 100000 in
set_option maxHeartbeats 4000000 in
theorem find_any (c f e l:Value) (M:Mast) (code:ByteArray) (w:World) (h:MastIn w c f e l M) :
 Calls Tryz.prog 61 #[aggM c f e l M,.string code] w fun en w'=>en=.returned (.tuple #[.string (curO (G.findK Ent.code M.ents code)),.bool (G.findK Ent.code M.ents code).isSome])∧Below w.heap.size w w':=by
 have HB0:=Lib.hid ((Below.refl w.heap.size w).alloc (Nat.le_refl _) (.cells (cellsM c f e l M) 30))
 have HN0:=Lib.hid (nine_new w c f e l M 30)
 have HM0:=Lib.hid (h.keep HB0.out)
 obtain ⟨r,hr⟩:∃ r,G.findK Ent.code M.ents code=r:=⟨_,rfl⟩
 rw [hr]
 have HR:=Lib.hid hr
 obtain ⟨R,hR⟩:∃ R,curO r=R:=⟨_,rfl⟩
 obtain ⟨S,hS⟩:∃ S,r.isSome=S:=⟨_,rfl⟩
 rw [hR,hS]
 have HRV:=Lib.hid hR
 have HSV:=Lib.hid hS
 clear hr hR hS h
 obtain ⟨W,hW⟩:∃ W,w.alloc (.cells (cellsM c f e l M) 30)=W:=⟨_,rfl⟩
 rw [hW] at HB0 HN0 HM0
 obtain ⟨pl,cl,el,hlc,hlm,_,hlv⟩:=HM0.out.ents
 subst el
 obtain ⟨n,hn⟩:∃ n,M.ents.length=n:=⟨_,rfl⟩
 rw [hn] at hlc
 have HN:=Lib.hid hn
 have HLV:=Lib.hid hlv
 unfold maxLen at hlm
 rw [hn] at HN0 HM0 ⊢
 rw [hn] at hW
 clear hlv hn
 obtain ⟨c0,c1,c2,c3,c4,c5,c6,c7,c8⟩:=HN0.out
 go_enter Tryz.func61,Tryz.ntmps61
 go_wp2
 clear c0 c1 c2 c3 c4 c5 c6 c7 c8 hW
 go_loopw [11] (fun si wr=>∃ i:Nat,i≤n∧si=.int .i64 (i:Int)∧Hid (Below W.heap.size W wr)∧Hid (∀ (j:Nat) (y:Ent),j < i→M.ents[j]?=some y→Ent.code y≠code)) (fun si _=>n - (intOf si).toNat)
 case atStart=>exact ⟨0,Nat.zero_le _,rfl,Lib.hid (Below.refl _ _),Lib.hid fun j y hj=>absurd hj (Nat.not_lt_zero _)⟩
 case round =>
  obtain ⟨i,hi,rfl,HBR,HNO⟩:=hrel
  by_cases hlt:i < n
  ·obtain ⟨x,hx⟩:∃ x,M.ents[i]?=some x:=⟨_,List.getElem?_eq_getElem (by rw [HN.out];exact hlt)⟩
   obtain ⟨b,o,rfl,hat⟩:=HLV.out i x hx
   obtain ⟨d0,d1⟩:=ent2 (hat.keep HBR.out hat.lt)
   have HX:=Lib.hid hx
   clear hx hat
   have HBX:=Lib.hid ((Below.refl wr.heap.size wr).alloc (Nat.le_refl _) (.cells #[.string x.code,.string x.cur] 188))
   obtain ⟨q0,q1⟩:=ent2 (BoxE.new encE wr x 188).at0
   cases h1:(x.code.toList==code.toList) with
   | false =>
     have HNE:=Lib.hid ((Lib.bytes_beq_false_iff x.code code).1 h1)
     go_wp2
     go_roundw
     case rel=>exact ⟨i+1,by omega,by go_num,Lib.hid (HBR.out.trans (HBX.out.mono HBR.out.size)),Lib.hid (no_snoc HNO.out HX.out HNE.out)⟩
     case measure=>simp [intOf];omega
   | true =>
     have HEQ:=Lib.hid ((Lib.bytes_beq_iff x.code code).1 h1)
     have hres:Hid (r=some x):=Lib.hid (by rw [←HR.out];exact G.findK_first HNO.out HX.out HEQ.out)
     go_wp2
     go_ret2
     rw [←HRV.out,←HSV.out,hres.out]
     exact ⟨rfl,HB0.out.trans ((HBR.out.trans (HBX.out.mono HBR.out.size)).mono HB0.out.size)⟩
  ·have hres:Hid (r=none):=Lib.hid (by
    rw [←HR.out]
    refine G.findK_nowhere fun j y hy=>HNO.out j y ?_ hy
    have:=(List.getElem?_eq_some_iff.1 hy).1
    rw [HN.out] at this;omega)
   go_wp2
   go_ret2
   rw [←HRV.out,←HSV.out,hres.out]
   exact ⟨rfl,HB0.out.trans (HBR.out.mono HB0.out.size)⟩
end Go.Proofs.YtdegffffcbhjbaaGreatDoor.Un
end
section
namespace Go.Proofs.YtdegffffcbhjbaaGreatDoor
open Go.RowKit
def eqA (a b:Acct):Bool:=decide (a=b)
def eqFs (a b:Acct):Bool:=a.code.toList==b.code.toList && (a.cls==b.cls && (a.cash==b.cash && (a.both==b.both && (a.fixed.toList==b.fixed.toList && a.worn==b.worn))))
theorem eqFs_eq (a b:Acct):eqFs a b=eqA a b:=by
 unfold eqFs eqA
 rw [Bool.eq_iff_iff]
 simp only [Bool.and_eq_true,beq_iff_eq,decide_eq_true_eq]
 constructor
 ·rintro ⟨h0,h1,h2,h3,h4,h5⟩
  exact Acct.ext' (toList_inj h0) h1 h2 h3 (toList_inj h4) h5
 ·rintro rfl;exact ⟨rfl,rfl,rfl,rfl,rfl,rfl⟩
theorem neq_acc (a b:Acct) (w:World):Sem.run Tryz.prog (binOp .neq 99 (aggF a) (aggF b)) w=.ok (.bool (!eqA a b)) w:=by
 have hS:Tryz.prog.underlying 99=some (.struct (Tryz.prog.fieldsOf 99)):=by kernel_rfl
 have hp:Tryz.prog.stoodInHeld 99=false:=by kernel_rfl
 rw [run_neq_struct,show (10000:Nat)=9999+1 from rfl,run_equalIn_agg w 9999 99 _ _ hS hp,←eqFs_eq]
 simp only [Program.fieldsOf,Tryz.underlying99]
 go_simp
 unfold eqFs
 by_cases h0:a.code.toList=b.code.toList
 ·by_cases h1:a.cls=b.cls
  ·by_cases h2:a.cash=b.cash
   ·by_cases h3:a.both=b.both
    ·by_cases h4:a.fixed.toList=b.fixed.toList
     ·by_cases h5:a.worn=b.worn <;> simp [h0,h1,h2,h3,h4,h5]
     ·simp [h0,h1,h2,h3,h4]
    ·simp [h0,h1,h2,h3]
   ·simp [h0,h1,h2]
  ·simp [h0,h1]
 ·simp [h0]
theorem guard_acc:Tryz.prog.eqGuardType Tryz.prog.depth 99=false:=by kernel_rfl
end Go.Proofs.YtdegffffcbhjbaaGreatDoor
end
section
namespace Go.Proofs.YtdegffffcbhjbaaGreatDoor
open Go.RowKit
theorem new_cells (w:World) (cs:List Value) (t:TypeId):∀ (j:Nat) u,cs[j]?=some u→(w.alloc (.cells cs.toArray t)).cell? ((⟨w.heap.size,0,none⟩:Addr).add j)=some u:=fun j u hj=>by
 rw [add_off,Nat.zero_add,cell_of_row _ w.heap.size j _ t (0,0) (heap_alloc_new w _)]
 simpa using hj
theorem new_cells2 (w:World) (o:Obj) (cs:List Value) (t:TypeId):∀ (j:Nat) u,cs[j]?=some u→((w.alloc o).alloc (.cells cs.toArray t)).cell? ((⟨w.heap.size+1,0,none⟩:Addr).add j)=some u:=fun j u hj=>by
 have:=new_cells (w.alloc o) cs t j u hj
 rwa [World.size_alloc] at this
end Go.Proofs.YtdegffffcbhjbaaGreatDoor
end
section
namespace Go.Proofs.YtdegffffcbhjbaaGreatDoor.Fl
open Go.RowKit
theorem info_str:(Tryz.prog.info? 9).map (fun i=>(i.zero,i.size,i.bytes))=some (some (.string ⟨#[]⟩),1,16):=by kernel_rfl
def StrsTold (w:World) (ws:List ByteArray) (e:Ending) (w':World):Prop:=∃ v,e=.returned v∧StrsV w' v ws∧Below w.heap.size w w'
def OfAt (w:World) (e:TypeId) (L:List Flow) (k:Int) (s5 si:Value) (wr:World):Prop :=
 ∃ i:Nat,i≤L.length∧si=.int .i64 (i:Int)∧wr.ownsRow w.heap.size e 1 s5 (ofF (L.take i) k).length ((ofF (L.take i) k).map Value.string)∧Below w.heap.size w wr
theorem ofF_snoc (L:List Flow) (f:Flow) (k:Int):ofF (L++[f]) k=if f.kind=k then ofF L k++[f.code] else ofF L k:=by
 unfold ofF
 rw [List.filter_append,List.map_append,List.filter_cons]
 by_cases h:f.kind=k <;> simp [h]
theorem ofF_len_le (L:List Flow) (k:Int):(ofF L k).length≤L.length:=by rw [ofF_length];exact List.length_filter_le _ _
set_option maxRecDepth 100000 in
set_option maxHeartbeats 2000000 in
theorem of_any (v:Value) (L:List Flow) (k:Int) (w:World) (h:FlowsV w v L) (hL:L.length≤1000) :
 Calls Tryz.prog 151 #[v,.int .i64 k] w (StrsTold w (ofF L k)):=by
 obtain ⟨a,c,rfl,hcap,hm,_,hc⟩:=h
 obtain ⟨i0,hi,hz0,hz1,hz2⟩:=info_parts info_str
 have HI:=Lib.hid (And.intro hi (And.intro hz0 (And.intro hz1 hz2)))
 have HC:=Lib.hid hc
 clear hi hz0 hz1 hz2 hc
 unfold maxLen at hm
 go_enter Tryz.func151,Tryz.ntmps151
 go_wp2
 go_loopw [5,10] (fun s5 s10 wr=>OfAt w 9 L k s5 s10 wr) (fun _ s10 _=>L.length - (intOf s10).toNat)
 case atStart=>exact ⟨0,Nat.zero_le _,rfl,World.ownsRow_nil _ _ _ _,Below.refl _ _⟩
 case round =>
  obtain ⟨i,hik,rfl,hown,hnx⟩:=hrel
  by_cases hlt:i < L.length
  ·obtain ⟨x,hx⟩:∃ x,L[i]?=some x:=⟨_,List.getElem?_eq_getElem hlt⟩
   obtain ⟨b,o,rfl,hat⟩:=HC.out i x hx
   obtain ⟨c0,c1⟩:=two (hat.keep hnx hat.lt)
   have HT:Hid (ofF (L.take (i+1)) k=if x.kind=k then ofF (L.take i) k++[x.code] else ofF (L.take i) k):=Lib.hid (by
    rw [take_at L i hlt]
    rw [List.getElem?_eq_getElem hlt] at hx
    rw [Option.some.inj hx];exact ofF_snoc _ _ _)
   have hle:=ofF_len_le (L.take i) k
   have hlk:(L.take i).length=i:=by rw [List.length_take];omega
   rw [hlk] at hle
   have HLE:=Lib.hid hle
   have hsz:=hnx.size
   clear hx hat hlk hle
   by_cases hk:x.kind=k
   ·have hkz:(x.kind==k)=true:=by simpa using hk
    have HKK:=Lib.hid hk
    clear hk
    go_wp2_with (at_builtin;refine wpList_append_own _ rfl _ _ 67 rfl w.heap.size 9 i0 (.string ⟨#[]⟩) 1 16 Tryz.underlying67 HI.out.1 HI.out.2.1 HI.out.2.2.1 HI.out.2.2.2 rfl (by decide) _ _ _ rfl ((hown.alloc _).alloc _) ⟨wr.heap.size+1,0,none⟩ 1 1 [.string x.code] rfl rfl (new_cells2 wr _ [.string x.code] _) (by intro u hu;simp at hu;subst hu;rfl) (by have:=HLE.out;unfold maxLen;omega) (by have:=HLE.out;omega) (by simp;omega) ?_;intro v' w1 hown' hgrow _)
    go_roundw
    case rel =>
     refine ⟨i+1,by omega,by go_num,?_,?_⟩
     ·rw [HT.out,if_pos HKK.out,List.length_append,List.map_append];exact hown'
     ·exact below_grown ((hnx.alloc hsz _).alloc (by simp;omega) _) (by simp;omega) ((hown.alloc _).alloc _) hgrow
    case measure=>simp [intOf];omega
   ·have hkz:(x.kind==k)=false:=by simpa using hk
    have HKK:=Lib.hid hk
    clear hk
    go_wp2
    go_roundw
    case rel =>
     refine ⟨i+1,by omega,by go_num,?_,?_⟩
     ·rw [HT.out,if_neg HKK.out];exact hown.alloc _
     ·exact hnx.alloc hsz _
    case measure=>simp [intOf];omega
  ·have hf:StrsV wr u5 (ofF L k):=by
    have:L.take i=L:=List.take_of_length_le (by omega)
    rw [this] at hown
    exact strs_of_own hown
   have HF:=Lib.hid hf
   clear hf
   go_wp2
   go_ret
   exact ⟨_,rfl,HF.out,hnx⟩
set_option maxRecDepth 100000 in
set_option maxHeartbeats 2000000 in
theorem has_any (v:Value) (L:List Flow) (k:Int) (w:World) (h:FlowsV w v L) (hL:L.length≤1000) :
 Calls Tryz.prog 113 #[v,.int .i64 k] w fun e w'=>e=.returned (.bool (hasF L k))∧Below w.heap.size w w':=by
 obtain ⟨r,hr⟩:∃ r,hasF L k=r:=⟨_,rfl⟩
 rw [hr]
 have HR:=Lib.hid hr
 clear hr
 have HV:=Lib.hid h
 obtain ⟨a,c,rfl,hcap,hm,_,hc⟩:=h
 clear hc
 unfold maxLen at hm
 go_enter Tryz.func113,Tryz.ntmps113
 go_wp2_with fail
 refine (of_any _ L k _ HV.out hL).mono ?_
 rintro e w1 ⟨v1,rfl,hs1,hb1⟩
 obtain ⟨p1,c1,rfl,_,hm1,_⟩:=hs1
 have HB1:=Lib.hid hb1
 obtain ⟨n,hn⟩:∃ n,(ofF L k).length=n:=⟨_,rfl⟩
 have hrn:Hid (r=decide (0 < n)):=Lib.hid (by rw [←HR.out,←hn];rfl)
 rw [hn] at hm1 ⊢
 unfold maxLen at hm1
 clear hn hb1
 by_cases h0:0 < n
 ·have h0z:(0:Int) < (n:Int):=by omega
  go_wp2
  go_ret
  exact ⟨ret_bool (by rw [hrn.out,decide_eq_true h0]),HB1.out⟩
 ·obtain rfl:n=0:=by omega
  go_wp2
  go_ret
  exact ⟨ret_bool (by rw [hrn.out];rfl),HB1.out⟩
set_option maxRecDepth 100000 in
set_option maxHeartbeats 2000000 in
theorem whole_any (v:Value) (L:List Flow) (w:World) (h:FlowsV w v L) (hL:L.length≤1000) :
 Calls Tryz.prog 71 #[v] w fun e w'=>e=.returned (.bool (wholeF L))∧Below w.heap.size w w':=by
 obtain ⟨b0,hb0⟩:∃ b,hasF L 0=b:=⟨_,rfl⟩
 obtain ⟨b2,hb2⟩:∃ b,hasF L 2=b:=⟨_,rfl⟩
 obtain ⟨b3,hb3⟩:∃ b,hasF L 3=b:=⟨_,rfl⟩
 obtain ⟨b4,hb4⟩:∃ b,hasF L 4=b:=⟨_,rfl⟩
 have HC0:=Lib.hid (fun W h=>has_any v L 0 W h hL)
 have HC2:=Lib.hid (fun W h=>has_any v L 2 W h hL)
 have HC3:=Lib.hid (fun W h=>has_any v L 3 W h hL)
 have HC4:=Lib.hid (fun W h=>has_any v L 4 W h hL)
 unfold wholeF
 rw [hb0] at HC0 ⊢
 rw [hb2] at HC2 ⊢
 rw [hb3] at HC3 ⊢
 rw [hb4] at HC4 ⊢
 have HV:=Lib.hid h
 clear h hb0 hb2 hb3 hb4
 cases b0 with
 | false =>
   go_enter Tryz.func71,Tryz.ntmps71
   go_wp2_with (go_at_call 113;refine (HC0.out _ HV.out).mono ?_;rintro e w1 ⟨rfl,hb1⟩)
   go_ret
   exact ⟨rfl,hb1⟩
 | true =>
   cases b2 with
   | false =>
     go_enter Tryz.func71,Tryz.ntmps71
     go_wp2_with fail
     refine (HC0.out _ HV.out).mono ?_
     rintro e w1 ⟨rfl,hb1⟩
     have HV1:=Lib.hid (HV.out.keep hb1)
     go_wp2_with (go_at_call 113;refine (HC2.out _ HV1.out).mono ?_;rintro e w2 ⟨rfl,hb2⟩)
     go_ret
     exact ⟨rfl,hb1.trans (hb2.mono hb1.size)⟩
   | true =>
     cases b3 with
     | false =>
       go_enter Tryz.func71,Tryz.ntmps71
       go_wp2_with fail
       refine (HC0.out _ HV.out).mono ?_
       rintro e w1 ⟨rfl,hb1⟩
       have HV1:=Lib.hid (HV.out.keep hb1)
       go_wp2_with fail
       refine (HC2.out _ HV1.out).mono ?_
       rintro e w2 ⟨rfl,hb2⟩
       have HV2:=Lib.hid (HV1.out.keep hb2)
       go_wp2_with (go_at_call 113;refine (HC3.out _ HV2.out).mono ?_;rintro e w3 ⟨rfl,hb3⟩)
       go_ret
       exact ⟨rfl,hb1.trans ((hb2.trans (hb3.mono hb2.size)).mono hb1.size)⟩
     | true =>
       go_enter Tryz.func71,Tryz.ntmps71
       go_wp2_with fail
       refine (HC0.out _ HV.out).mono ?_
       rintro e w1 ⟨rfl,hb1⟩
       have HV1:=Lib.hid (HV.out.keep hb1)
       go_wp2_with fail
       refine (HC2.out _ HV1.out).mono ?_
       rintro e w2 ⟨rfl,hb2⟩
       have HV2:=Lib.hid (HV1.out.keep hb2)
       go_wp2_with fail
       refine (HC3.out _ HV2.out).mono ?_
       rintro e w3 ⟨rfl,hb3⟩
       have HV3:=Lib.hid (HV2.out.keep hb3)
       go_wp2_with (go_at_call 113;refine (HC4.out _ HV3.out).mono ?_;rintro e w4 ⟨rfl,hb4⟩)
       go_ret
       exact ⟨ret_bool (by simp),hb1.trans ((hb2.trans ((hb3.trans (hb4.mono hb3.size)).mono hb2.size)).mono hb1.size)⟩
end Go.Proofs.YtdegffffcbhjbaaGreatDoor.Fl
end
section
namespace Go.Proofs.YtdegffffcbhjbaaGreatDoor.Un
open Go.RowKit
abbrev cellsR (r:Role):Array Value:=#[.string r.head,.string r.code,.int .i64 r.cls]
theorem all_no {α:Type} {p:α→Bool} {L:List α} {i:Nat} {x:α} (hx:L[i]?=some x) (h:p x=false):L.all p=false:=by
 rw [←Bool.not_eq_true,List.all_eq_true]
 intro h'
 rw [h' x (List.mem_of_getElem? hx)] at h;cases h
theorem all_yes {α:Type} {p:α→Bool} {L:List α} (h:∀ (i:Nat) (x:α),L[i]?=some x→p x=true):L.all p=true:=by
 rw [List.all_eq_true]
 intro x hx
 obtain ⟨i,hi,e⟩:=List.getElem_of_mem hx
 exact h i x (by rw [List.getElem?_eq_getElem hi,e])
structure SoFar {α:Type} (p:α→Bool) (L:List α) (i:Nat):Prop where
 all:∀ (j:Nat) (x:α),j < i→L[j]?=some x→p x=true
theorem SoFar.zero {α:Type} (p:α→Bool) (L:List α):SoFar p L 0:=⟨fun _ _ h=>absurd h (Nat.not_lt_zero _)⟩
theorem SoFar.next {α:Type} {p:α→Bool} {L:List α} {i:Nat} {x:α} (h:SoFar p L i) (hx:L[i]?=some x) (hp:p x=true):SoFar p L (i+1) :=
 ⟨fun j y hj hy=>by
  rcases Nat.lt_or_ge j i with h' | h'
  ·exact h.all j y h' hy
  ·obtain rfl:j=i:=by omega
   rw [hx] at hy;cases hy;exact hp⟩
theorem SoFar.done {α:Type} {p:α→Bool} {L:List α} {n:Nat} (h:SoFar p L n) (hn:L.length≤n):L.all p=true :=
 all_yes fun i x hx=>h.all i x (by have:=(List.getElem?_eq_some_iff.1 hx).1;omega) hx
set_option maxRecDepth 100000 in
set_option maxHeartbeats 4000000 in
theorem rolesNamed_any (c f e l:Value) (M:Mast) (w:World) (h:MastIn w c f e l M) :
 Calls Tryz.prog 69 #[aggM c f e l M] w fun en w'=>en=.returned (.bool (rolesN M))∧Below w.heap.size w w':=by
 have HB0:=Lib.hid ((Below.refl w.heap.size w).alloc (Nat.le_refl _) (.cells (cellsM c f e l M) 30))
 have HN0:=Lib.hid (nine_new w c f e l M 30)
 have HC0:=Lib.hid (h.chart.keep HB0.out)
 have HRA:=Lib.hid (roles_any c f e l M)
 obtain ⟨r,hr⟩:∃ r,rolesN M=r:=⟨_,rfl⟩
 have HR:Hid ((rolesOf M).all (fun r=>hasA M.chart r.code)=r):=Lib.hid (by rw [rolesN_all];exact hr)
 rw [hr]
 clear hr h
 obtain ⟨c0,c1,c2,c3,c4,c5,c6,c7,c8⟩:=HN0.out
 go_enter Tryz.func69,Tryz.ntmps69
 go_wp2_with fail
 refine (HRA.out _).mono ?_
 rintro en w1 ⟨g,rfl,hrv,hb1⟩
 have HN1:=Lib.hid (HN0.out.kept hb1)
 have HC1:=Lib.hid (HC0.out.keep hb1)
 have HB1:=Lib.hid (HB0.out.trans (hb1.mono HB0.out.size))
 obtain ⟨p,cp,e1,_,_,_,hc⟩:=hrv
 cases e1
 have HRV:=Lib.hid hc
 clear hc hb1 c0 c1 c2 c3 c4 c5 c6 c7 c8
 go_wp2
 go_loopw [10] (fun s10 wr=>∃ i:Nat,i≤4∧s10=.int .i64 (i:Int)∧Hid (Below w1.heap.size w1 wr)∧Hid (SoFar (fun r:Role=>hasA M.chart r.code) (rolesOf M) i)) (fun s10 _=>4 - (intOf s10).toNat)
 case atStart=>exact ⟨0,by omega,rfl,Lib.hid (Below.refl _ _),Lib.hid (SoFar.zero _ _)⟩
 case round =>
  obtain ⟨i,hi,rfl,HBR,HSF⟩:=hrel
  by_cases hlt:i < 4
  ·obtain ⟨x,hx⟩:∃ x,(rolesOf M)[i]?=some x:=⟨_,List.getElem?_eq_getElem (by simp [rolesOf];omega)⟩
   obtain ⟨b,o,e2,hat⟩:=HRV.out i x hx
   cases e2
   obtain ⟨d0,d1,d2⟩:=role3 (hat.keep HBR.out hat.lt)
   have hbx:=HBR.out.alloc HBR.out.size (.cells (cellsR x) 213)
   have HBX:=Lib.hid hbx
   have HC2:=Lib.hid (HC1.out.keep hbx)
   obtain ⟨k0,k1,k2,k3,k4,k5,k6,k7,k8⟩:=HN1.out.kept hbx
   obtain ⟨q0,q1,q2⟩:=role3 (BoxE.new encR wr x 213).at0
   have HX:=Lib.hid hx
   clear hat hx hbx
   simp only [Nat.zero_add] at d0 d1 d2
   go_wp2_with fail
   clear k0 k1 k2 k3 k4 k5 k6 k7 k8 q0 q1 q2 d0 d1 d2
   refine (Go.Proofs.YtdegffffcbhjbaaGreatDoor.find_any _ M.chart x.code _ HC2.out).mono ?_
   rintro en w3 ⟨rfl,hb3⟩
   obtain ⟨fa,hfa⟩:∃ fa,findV (findL M.chart x.code)=fa:=⟨_,rfl⟩
   obtain ⟨s,hs⟩:∃ s,(findL M.chart x.code).isSome=s:=⟨_,rfl⟩
   rw [hfa,hs]
   have HSV:Hid (hasA M.chart x.code=s):=Lib.hid hs
   have HB4:=Lib.hid ((HBX.out.trans (hb3.mono HBX.out.size)).alloc (Nat.le_trans HBX.out.size hb3.size) (.cells #[.string fa.code,.int .i64 fa.cls,.bool fa.cash,.bool fa.both,.string fa.fixed,.bool fa.worn] 99))
   clear hs hfa hb3
   cases s with
   | false =>
     have HRF:Hid (r=false):=Lib.hid (by rw [←HR.out];exact all_no HX.out HSV.out)
     go_wp2
     go_ret
     exact ⟨by rw [HRF.out];rfl,HB1.out.trans (HB4.out.mono HB1.out.size)⟩
   | true =>
     have HSN:=Lib.hid (HSF.out.next HX.out HSV.out)
     go_wp2
     go_roundw
     case rel=>exact ⟨i+1,by omega,by go_num,HB4,HSN⟩
     case measure=>simp [intOf];omega
  ·have HRT:Hid (r=true):=Lib.hid (by rw [←HR.out];exact HSF.out.done (by simp [rolesOf];omega))
   go_wp2
   go_ret
   exact ⟨by rw [HRT.out];rfl,HB1.out.trans (HBR.out.mono HB1.out.size)⟩
set_option maxRecDepth 100000 in
set_option maxHeartbeats 4000000 in
theorem rolesPlain_any (c f e l:Value) (M:Mast) (w:World) (h:MastIn w c f e l M) :
 Calls Tryz.prog 72 #[aggM c f e l M] w fun en w'=>en=.returned (.bool (rolesP M))∧Below w.heap.size w w':=by
 have HB0:=Lib.hid ((Below.refl w.heap.size w).alloc (Nat.le_refl _) (.cells (cellsM c f e l M) 30))
 have HN0:=Lib.hid (nine_new w c f e l M 30)
 have HC0:=Lib.hid (h.chart.keep HB0.out)
 have HRA:=Lib.hid (roles_any c f e l M)
 obtain ⟨r,hr⟩:∃ r,rolesP M=r:=⟨_,rfl⟩
 have HR:Hid ((rolesOf M).all (fun r=>plainA M.chart r.code r.cls)=r):=Lib.hid (by rw [rolesP_all];exact hr)
 rw [hr]
 clear hr h
 obtain ⟨c0,c1,c2,c3,c4,c5,c6,c7,c8⟩:=HN0.out
 go_enter Tryz.func72,Tryz.ntmps72
 go_wp2_with fail
 refine (HRA.out _).mono ?_
 rintro en w1 ⟨g,rfl,hrv,hb1⟩
 have HN1:=Lib.hid (HN0.out.kept hb1)
 have HC1:=Lib.hid (HC0.out.keep hb1)
 have HB1:=Lib.hid (HB0.out.trans (hb1.mono HB0.out.size))
 obtain ⟨p,cp,e1,_,_,_,hc⟩:=hrv
 cases e1
 have HRV:=Lib.hid hc
 clear hc hb1 c0 c1 c2 c3 c4 c5 c6 c7 c8
 go_wp2
 go_loopw [10] (fun s10 wr=>∃ i:Nat,i≤4∧s10=.int .i64 (i:Int)∧Hid (Below w1.heap.size w1 wr)∧Hid (SoFar (fun r:Role=>plainA M.chart r.code r.cls) (rolesOf M) i)) (fun s10 _=>4 - (intOf s10).toNat)
 case atStart=>exact ⟨0,by omega,rfl,Lib.hid (Below.refl _ _),Lib.hid (SoFar.zero _ _)⟩
 case round =>
  obtain ⟨i,hi,rfl,HBR,HSF⟩:=hrel
  by_cases hlt:i < 4
  ·obtain ⟨x,hx⟩:∃ x,(rolesOf M)[i]?=some x:=⟨_,List.getElem?_eq_getElem (by simp [rolesOf];omega)⟩
   obtain ⟨b,o,e2,hat⟩:=HRV.out i x hx
   cases e2
   obtain ⟨d0,d1,d2⟩:=role3 (hat.keep HBR.out hat.lt)
   have hbx:=HBR.out.alloc HBR.out.size (.cells (cellsR x) 213)
   have HBX:=Lib.hid hbx
   have HC2:=Lib.hid (HC1.out.keep hbx)
   obtain ⟨k0,k1,k2,k3,k4,k5,k6,k7,k8⟩:=HN1.out.kept hbx
   obtain ⟨q0,q1,q2⟩:=role3 (BoxE.new encR wr x 213).at0
   have HX:=Lib.hid hx
   clear hat hx hbx
   simp only [Nat.zero_add] at d0 d1 d2
   go_wp2_with fail
   clear k0 k1 k2 k3 k4 k5 k6 k7 k8 q0 q1 q2 d0 d1 d2
   refine (Go.Proofs.YtdegffffcbhjbaaGreatDoor.find_any _ M.chart x.code _ HC2.out).mono ?_
   rintro en w3 ⟨rfl,hb3⟩
   obtain ⟨fa,hfa⟩:∃ fa,findV (findL M.chart x.code)=fa:=⟨_,rfl⟩
   obtain ⟨s,hs⟩:∃ s,(findL M.chart x.code).isSome=s:=⟨_,rfl⟩
   rw [hfa,hs]
   have HSV:Hid (plainA M.chart x.code x.cls=eqA fa ⟨x.code,x.cls,false,false,emp,false⟩):=Lib.hid (by rw [←hfa];rfl)
   have HB4:=Lib.hid ((HBX.out.trans (hb3.mono HBX.out.size)).alloc (Nat.le_trans HBX.out.size hb3.size) (.cells #[.string fa.code,.int .i64 fa.cls,.bool fa.cash,.bool fa.both,.string fa.fixed,.bool fa.worn] 99))
   have hb4:=hb3.alloc hb3.size (.cells #[.string fa.code,.int .i64 fa.cls,.bool fa.cash,.bool fa.both,.string fa.fixed,.bool fa.worn] 99)
   obtain ⟨q0,q1,q2⟩:=role3 ((BoxE.new encR wr x 213).kept hb4).at0
   obtain ⟨z0,z1,z2,z3,z4,z5⟩:=(BoxA.new w3 fa 99).facts
   have hq:=neq_acc fa ⟨x.code,x.cls,false,false,emp,false⟩
   have hgd:=guard_acc
   obtain ⟨ea,hea⟩:∃ ea,eqA fa ⟨x.code,x.cls,false,false,emp,false⟩=ea:=⟨_,rfl⟩
   rw [hea] at HSV
   simp only [hea] at hq
   clear hs hfa hb3 hb4 hea
   cases ea with
   | false =>
     have HRF:Hid (r=false):=Lib.hid (by rw [←HR.out];exact all_no HX.out HSV.out)
     go_wp2
     go_ret
     exact ⟨by rw [HRF.out];rfl,HB1.out.trans (HB4.out.mono HB1.out.size)⟩
   | true =>
     have HSN:=Lib.hid (HSF.out.next HX.out HSV.out)
     go_wp2
     go_roundw
     case rel=>exact ⟨i+1,by omega,by go_num,HB4,HSN⟩
     case measure=>simp [intOf];omega
  ·have HRT:Hid (r=true):=Lib.hid (by rw [←HR.out];exact HSF.out.done (by simp [rolesOf];omega))
   go_wp2
   go_ret
   exact ⟨by rw [HRT.out];rfl,HB1.out.trans (HBR.out.mono HB1.out.size)⟩
end Go.Proofs.YtdegffffcbhjbaaGreatDoor.Un
end
section
namespace Go.Proofs.YtdegffffcbhjbaaGreatDoor
open Go.RowKit Go.Maps
theorem data_inj {x y:ByteArray} (h:x.data.toList=y.data.toList):x=y:=by rw [←mkB_list x,h,mkB_list]
def kS (s:ByteArray):Lit:=.string s.data.toList
theorem kS_inj {x y:ByteArray} (h:kS x=kS y):x=y:=data_inj (by unfold kS at h;simpa using h)
theorem kS_key (s:ByteArray):WideAt.IsKeyLit (kS s):=trivial
theorem law9:Keyed Tryz.prog 9:=string_keyed Tryz.underlying9
end Go.Proofs.YtdegffffcbhjbaaGreatDoor
end
section
namespace Go.Proofs.YtdegffffcbhjbaaGreatDoor.Un
open Go.RowKit
abbrev xa:ByteArray:=⟨#[97]⟩
abbrev xb:ByteArray:=⟨#[98]⟩
abbrev xc:ByteArray:=⟨#[99]⟩
abbrev xF0:ByteArray:=⟨#[70,48]⟩
abbrev xF1:ByteArray:=⟨#[70,49]⟩
abbrev xF8:ByteArray:=⟨#[70,56]⟩
abbrev xF9:ByteArray:=⟨#[70,57]⟩
abbrev xFz:ByteArray:=⟨#[70,122]⟩
abbrev xE1:ByteArray:=⟨#[69,49]⟩
abbrev xU:ByteArray:=⟨#[85,83,68]⟩
abbrev xL1:ByteArray:=⟨#[76,49]⟩
def accLines:List (List ByteArray):=[[tAccount,xa,tAsset],[tAccount,xb,tLiability],[tAccount,xc,tEquity]]
def restLines:List (List ByteArray):=[[Fl.tFlow,xF0,Fl.tOpen],[Fl.tFlow,xF1,Fl.tMove],[Fl.tFlow,xF8,Fl.tFx],[Fl.tFlow,xF9,Fl.tScope],[Fl.tFlow,xFz,Fl.tClose],[tEntity,xE1,xU],[tGroup,xU],[tReserve,xc],[tMinor,xc],[tDiffer,xa],[tStake,xa],[tMap,xa,xF1,xL1]]
def smallL:List (List ByteArray):=accLines++restLines
abbrev plainAcc (s:ByteArray) (k:Int):Acct:=⟨s,k,false,false,emp,false⟩
theorem plain_marks (s:ByteArray) (k:Int):marksA (plainAcc s k)=true:=by
 unfold marksA
 simp [neB_empty]
theorem plain_parse (s:ByteArray) (k:Int) (hs:nmB s=true) (hk:k=0∨k=1∨k=2):parseA [tAccount,s,clsW k]=(plainAcc s k,0):=by
 have hr:rightA (plainAcc s k)=true:=by
  unfold rightA
  rw [plain_marks,hs]
  rcases hk with rfl | rfl | rfl <;> rfl
 refine parse_of hr ?_
 unfold wordsA
 rw [if_pos hr]
 unfold markW
 simp [neB_empty]
theorem acO_a:acO [tAccount,xa,tAsset]=some (plainAcc xa 0):=by
 have h:=plain_parse xa 0 (by decide) (by simp)
 rw [acO_yes rfl (by rw [show [tAccount,xa,tAsset]=[tAccount,xa,clsW 0] from rfl,h]),show [tAccount,xa,tAsset]=[tAccount,xa,clsW 0] from rfl,h]
theorem acO_b:acO [tAccount,xb,tLiability]=some (plainAcc xb 1):=by
 have h:=plain_parse xb 1 (by decide) (by simp)
 rw [acO_yes rfl (by rw [show [tAccount,xb,tLiability]=[tAccount,xb,clsW 1] from rfl,h]),show [tAccount,xb,tLiability]=[tAccount,xb,clsW 1] from rfl,h]
theorem acO_c:acO [tAccount,xc,tEquity]=some (plainAcc xc 2):=by
 have h:=plain_parse xc 2 (by decide) (by simp)
 rw [acO_yes rfl (by rw [show [tAccount,xc,tEquity]=[tAccount,xc,clsW 2] from rfl,h]),show [tAccount,xc,tEquity]=[tAccount,xc,clsW 2] from rfl,h]
def smallA:List Acct:=[plainAcc xa 0,plainAcc xb 1,plainAcc xc 2]
def smallF:List Fl.Flow:=[⟨xF0,0⟩,⟨xF1,1⟩,⟨xF8,2⟩,⟨xF9,3⟩,⟨xFz,4⟩]
theorem small_good:∀ ws∈smallL,Good ws:=by
 intro ws hw
 rcases List.mem_append.1 hw with h | h
 ·left
  simp only [accLines,List.mem_cons,List.not_mem_nil,or_false] at h
  rcases h with rfl | rfl | rfl
  ·exact ⟨rfl,by rw [show [tAccount,xa,tAsset]=[tAccount,xa,clsW 0] from rfl,plain_parse xa 0 (by decide) (by simp)]⟩
  ·exact ⟨rfl,by rw [show [tAccount,xb,tLiability]=[tAccount,xb,clsW 1] from rfl,plain_parse xb 1 (by decide) (by simp)]⟩
  ·exact ⟨rfl,by rw [show [tAccount,xc,tEquity]=[tAccount,xc,clsW 2] from rfl,plain_parse xc 2 (by decide) (by simp)]⟩
 ·right
  simp only [restLines,List.mem_cons,List.not_mem_nil,or_false] at h
  rcases h with rfl | rfl | rfl | rfl | rfl | rfl | rfl | rfl | rfl | rfl | rfl | rfl
  ·exact .inl ⟨by kernel_rfl,by kernel_rfl⟩
  ·exact .inl ⟨by kernel_rfl,by kernel_rfl⟩
  ·exact .inl ⟨by kernel_rfl,by kernel_rfl⟩
  ·exact .inl ⟨by kernel_rfl,by kernel_rfl⟩
  ·exact .inl ⟨by kernel_rfl,by kernel_rfl⟩
  ·exact .inr (by kernel_rfl)
  ·exact .inr (by kernel_rfl)
  ·exact .inr (by kernel_rfl)
  ·exact .inr (by kernel_rfl)
  ·exact .inr (by kernel_rfl)
  ·exact .inr (by kernel_rfl)
  ·exact .inr (by kernel_rfl)
theorem oneL_at {x y:ByteArray} (h:[y]=oneL x):x=y:=by
 unfold oneL at h
 split at h
 ·cases h
 ·simpa using h.symm
theorem has_of {C:List Acct} {a:Acct} (h:a∈C):hasA C a.code=true:=findL_some h
theorem plain_of {C:List Acct} {a:Acct} (hr:riseL C=true) (h:a∈C) (k:Int) (he:a=plainAcc a.code k):plainA C a.code k=true:=by
 have e:findL C a.code=some a:=by
  have h1:G.findK Acct.code C a.code=some a:=G.findK_of_mem (by rw [←riseL_eq];exact hr) h
  rw [←h1]
  clear h1 hr h
  induction C with
  | nil=>rfl
  | cons y C ih=>simp only [findL,G.findK];rw [ih]
 unfold plainA
 rw [e]
 exact decide_eq_true he
theorem hasF_of {L:List Fl.Flow} {f:Fl.Flow} (h:f∈L):Fl.hasF L f.kind=true:=by
 unfold Fl.hasF
 exact decide_eq_true (List.length_pos_of_mem (Fl.mem_of.2 ⟨f,h,rfl,rfl⟩))
end Go.Proofs.YtdegffffcbhjbaaGreatDoor.Un
end
section
namespace Go.Proofs.YtdegffffcbhjbaaGreatDoor
open Go.RowKit (wrap64)
def addCV (a b:Int):Int:=if fit (a+b)=true then a+b else 0
def addCE (a b:Int):Int:=if fit (a+b)=true then 0 else 2
def sumFrom (n:Int):List Int→Int × Int
 | []=>(n,0)
 | a::r=>if fit (n+a)=true then sumFrom (n+a) r else (0,2)
theorem addV_yes {a b:Int} (h:fit (a+b)=true):addCV a b=a+b:=by simp [addCV,h]
theorem addE_yes {a b:Int} (h:fit (a+b)=true):addCE a b=0:=by simp [addCE,h]
theorem addV_no {a b:Int} (h:fit (a+b)=false):addCV a b=0:=by simp [addCV,h]
theorem addE_no {a b:Int} (h:fit (a+b)=false):addCE a b=2:=by simp [addCE,h]
theorem sumFrom_yes {n a:Int} (r:List Int) (h:fit (n+a)=true):sumFrom n (a::r)=sumFrom (n+a) r:=by simp [sumFrom,h]
theorem sumFrom_no {n a:Int} (r:List Int) (h:fit (n+a)=false):sumFrom n (a::r)=(0,2):=by simp [sumFrom,h]
theorem wrap_over {n:Int} (h1:9223372036854775807 < n) (h2:n≤18446744073709551615):wrap64 n=n - 18446744073709551616:=by unfold wrap64;omega
theorem wrap_under {n:Int} (h1:n < -9223372036854775808) (h2:-18446744073709551616≤n):wrap64 n=n+18446744073709551616:=by unfold wrap64;omega
theorem add_over {a b:Int} (a1:a≤9223372036854775807) (b1:b≤9223372036854775807) (h:9223372036854775807 < a+b):wrap64 (a+b) < a∧0 < b:=by
 rw [wrap_over h (by omega)];omega
theorem add_under {a b:Int} (a1:-9223372036854775808≤a) (b1:-9223372036854775808≤b) (h:a+b < -9223372036854775808):a < wrap64 (a+b)∧b < 0:=by
 rw [wrap_under h (by omega)];omega
end Go.Proofs.YtdegffffcbhjbaaGreatDoor
end
section
namespace Go.Proofs.YtdegffffcbhjbaaGreatDoor.Fa
structure IsCmp {α:Type} (c:α→α→Int):Prop where
 eq0:∀ x y,c x y=0 ↔ x=y
 neg:∀ x y,c y x=-c x y
 trans:∀ {x y z},c x y < 0→c y z < 0→c x z < 0
def orI (x y:Int):Int:=if x=0 then y else x
theorem orI_lt {x y:Int}:orI x y < 0 ↔ x < 0∨(x=0∧y < 0):=by unfold orI;split <;> omega
theorem orI_zero {x y:Int}:orI x y=0 ↔ x=0∧y=0:=by unfold orI;split <;> omega
theorem orI_neg (x y:Int):orI (-x) (-y)=-orI x y:=by unfold orI;(repeat' split) <;> omega
theorem IsCmp.pair {α β:Type} {c:α→α→Int} {d:β→β→Int} (hc:IsCmp c) (hd:IsCmp d):IsCmp (fun x y:α × β=>orI (c x.1 y.1) (d x.2 y.2)) where
 eq0 x y:=by rw [orI_zero,hc.eq0,hd.eq0,Prod.ext_iff]
 neg x y:=by
  show orI (c y.1 x.1) (d y.2 x.2)=-orI (c x.1 y.1) (d x.2 y.2)
  rw [hc.neg x.1 y.1,hd.neg x.2 y.2,orI_neg]
 trans:=by
  intro x y z h1 h2
  rw [orI_lt] at *
  rcases h1 with h1 | ⟨e1,h1⟩ <;> rcases h2 with h2 | ⟨e2,h2⟩
  ·exact .inl (hc.trans h1 h2)
  ·exact .inl (by rw [←(hc.eq0 _ _).1 e2];exact h1)
  ·exact .inl (by rw [(hc.eq0 _ _).1 e1];exact h2)
  ·exact .inr ⟨by rw [(hc.eq0 _ _).1 e1];exact e2,hd.trans h1 h2⟩
def cmpI (a b:Int):Int:=if a < b then -1 else if b < a then 1 else 0
theorem isCmp_int:IsCmp cmpI where
 eq0 x y:=by unfold cmpI;(repeat' split) <;> omega
 neg x y:=by unfold cmpI;(repeat' split) <;> omega
 trans:=by intro x y z;unfold cmpI;(repeat' split) <;> omega
theorem cmpL_eq0:∀ (x y:List UInt8),Lib.compareBytes x y=0 ↔ x=y
 | [],[]=>by simp [Lib.compareBytes]
 | [],_::_=>by simp [Lib.compareBytes]
 | _::_,[]=>by simp [Lib.compareBytes]
 | a::x,b::y=>by
   have ih:=cmpL_eq0 x y
   unfold Lib.compareBytes
   by_cases h1:a < b
   ·have:a≠b:=by
     rintro rfl
     rw [UInt8.lt_iff_toNat_lt] at h1;omega
    simp [h1,this]
   ·by_cases h2:b < a
    ·have:a≠b:=by
      rintro rfl
      exact h1 h2
     simp [h1,h2,this]
    ·have:a=b:=by
      rw [UInt8.lt_iff_toNat_lt] at h1 h2
      exact UInt8.toNat_inj.1 (by omega)
     subst this
     simp [h1,ih]
theorem cmpL_neg:∀ (x y:List UInt8),Lib.compareBytes y x=-Lib.compareBytes x y
 | [],[]=>by simp [Lib.compareBytes]
 | [],_::_=>by simp [Lib.compareBytes]
 | _::_,[]=>by simp [Lib.compareBytes]
 | a::x,b::y=>by
   have ih:=cmpL_neg x y
   unfold Lib.compareBytes
   by_cases h1:a < b
   ·have h2:¬ b < a:=by rw [UInt8.lt_iff_toNat_lt] at *;omega
    simp [h1,h2]
   ·by_cases h2:b < a
    ·simp [h1,h2]
    ·simp [h1,h2,ih]
theorem cmpL_trans:∀ (x y z:List UInt8),Lib.compareBytes x y < 0→Lib.compareBytes y z < 0→Lib.compareBytes x z < 0
 | [],y,[],h1,h2=>by cases y <;> simp [Lib.compareBytes] at h1 h2
 | [],_,c::z,_,_=>by simp [Lib.compareBytes]
 | a::x,[],z,h1,_=>by simp [Lib.compareBytes] at h1
 | a::x,b::y,[],_,h2=>by simp [Lib.compareBytes] at h2
 | a::x,b::y,c::z,h1,h2=>by
   have ih:=cmpL_trans x y z
   unfold Lib.compareBytes at h1 h2 ⊢
   by_cases h3:a < b
   ·by_cases h4:b < c
    ·have:a < c:=by rw [UInt8.lt_iff_toNat_lt] at *;omega
     simp [this]
    ·by_cases h5:c < b
     ·simp [h4,h5] at h2
     ·have:b=c:=by
       rw [UInt8.lt_iff_toNat_lt] at h4 h5
       exact UInt8.toNat_inj.1 (by omega)
      subst this
      simp [h3]
   ·by_cases h4:b < a
    ·simp [h3,h4] at h1
    ·have:a=b:=by
      rw [UInt8.lt_iff_toNat_lt] at h3 h4
      exact UInt8.toNat_inj.1 (by omega)
     subst this
     rw [if_neg h3,if_neg h3] at h1
     by_cases h5:a < c
     ·rw [if_pos h5];decide
     ·rw [if_neg h5] at h2 ⊢
      by_cases h6:c < a
      ·rw [if_pos h6] at h2;exact absurd h2 (by decide)
      ·rw [if_neg h6] at h2 ⊢
       exact ih h1 h2
def cmpB (x y:ByteArray):Int:=Lib.compareBytes x.data.toList y.data.toList
theorem data_inj' {x y:ByteArray} (h:x.data.toList=y.data.toList):x=y:=by
 cases x;cases y
 simp only [ByteArray.mk.injEq]
 exact Array.toList_inj.1 h
theorem isCmp_text:IsCmp cmpB where
 eq0 x y:=by unfold cmpB;rw [cmpL_eq0];exact ⟨data_inj',fun h=>by rw [h]⟩
 neg x y:=cmpL_neg _ _
 trans:=cmpL_trans _ _ _
structure Key where
 e:ByteArray
 a:ByteArray
 f:ByteArray
 p:ByteArray
 m:Int
deriving DecidableEq
structure Fact where
 key:Key
 amt:Int
deriving DecidableEq
instance : Inhabited Key:=⟨⟨⟨#[]⟩,⟨#[]⟩,⟨#[]⟩,⟨#[]⟩,0⟩⟩
instance : Inhabited Fact:=⟨⟨default,0⟩⟩
def Key.tup (k:Key):ByteArray × ByteArray × ByteArray × ByteArray × Int:=(k.e,k.a,k.f,k.p,k.m)
theorem Key.tup_inj {x y:Key}:x.tup=y.tup ↔ x=y:=by
 cases x;cases y
 simp [Key.tup]
def cmpK (x y:Key):Int:=orI (cmpB x.e y.e) (orI (cmpB x.a y.a) (orI (cmpB x.f y.f) (orI (cmpB x.p y.p) (cmpI x.m y.m))))
theorem isCmp_key:IsCmp cmpK:=by
 have h:=isCmp_text.pair (isCmp_text.pair (isCmp_text.pair (isCmp_text.pair isCmp_int)))
 exact ⟨fun x y=>(h.eq0 x.tup y.tup).trans Key.tup_inj,fun x y=>h.neg x.tup y.tup,fun {x y z}=>h.trans (x:=x.tup) (y:=y.tup) (z:=z.tup)⟩
def ltK (x y:Key):Prop:=cmpK x y < 0
instance (x y:Key):Decidable (ltK x y):=by unfold ltK;infer_instance
theorem ltK_trans {x y z:Key} (h1:ltK x y) (h2:ltK y z):ltK x z:=isCmp_key.trans h1 h2
theorem ltK_irr (x:Key):¬ ltK x x:=by unfold ltK;rw [(isCmp_key.eq0 x x).2 rfl];omega
theorem ltK_total {x y:Key} (h:¬ ltK x y) (hne:x≠y):ltK y x:=by
 unfold ltK at *
 have h0:cmpK x y≠0:=fun e=>hne ((isCmp_key.eq0 x y).1 e)
 rw [isCmp_key.neg x y];omega
theorem ltK_ne {x y:Key} (h:ltK x y):x≠y:=fun e=>by subst e;exact ltK_irr _ h
def Rise (L:List Key):Prop:=L.Pairwise ltK
def insU:List Key→Key→List Key
 | [],k=>[k]
 | a::r,k=>if k=a then a::r else if ltK k a then k::a::r else a::insU r k
theorem mem_insU {L:List Key} {k x:Key}:x∈insU L k ↔ x=k∨x∈L:=by
 induction L with
 | nil=>simp [insU]
 | cons a r ih =>
   unfold insU
   by_cases h:k=a
   ·subst h;simp
   ·rw [if_neg h]
    by_cases h2:ltK k a
    ·rw [if_pos h2];simp
    ·rw [if_neg h2,List.mem_cons,ih,List.mem_cons]
     constructor
     ·rintro (h | h | h) <;> simp [h]
     ·rintro (h | h | h) <;> simp [h]
theorem rise_insU {L:List Key} (k:Key) (h:Rise L):Rise (insU L k):=by
 induction L with
 | nil=>simp [insU,Rise]
 | cons a r ih =>
   obtain ⟨h1,h2⟩:=List.pairwise_cons.1 h
   unfold insU
   by_cases e:k=a
   ·rw [if_pos e];exact h
   ·rw [if_neg e]
    by_cases l:ltK k a
    ·rw [if_pos l]
     exact List.pairwise_cons.2 ⟨fun y hy=>by
      rcases List.mem_cons.1 hy with rfl | hy
      ·exact l
      ·exact ltK_trans l (h1 y hy),h⟩
    ·rw [if_neg l]
     refine List.pairwise_cons.2 ⟨fun y hy=>?_,ih h2⟩
     rcases mem_insU.1 hy with rfl | hy
     ·exact ltK_total l e
     ·exact h1 y hy
theorem insU_length (L:List Key) (k:Key):(insU L k).length≤L.length+1:=by
 induction L with
 | nil=>simp [insU]
 | cons a r ih =>
   unfold insU
   (repeat' split) <;> simp <;> omega
def keysFrom (A:List Key) (l:List Fact):List Key:=l.foldl (fun acc f=>insU acc f.key) A
def keysL (l:List Fact):List Key:=keysFrom [] l
theorem keysFrom_cons (A:List Key) (f:Fact) (l:List Fact):keysFrom A (f::l)=keysFrom (insU A f.key) l:=rfl
theorem mem_keysFrom {l:List Fact} {A:List Key} {k:Key}:k∈keysFrom A l ↔ k∈A∨∃ f∈l,f.key=k:=by
 induction l generalizing A with
 | nil=>simp [keysFrom]
 | cons f l ih =>
   rw [keysFrom_cons,ih,mem_insU]
   constructor
   ·rintro ((h | h) | ⟨g,hg,e⟩)
    ·exact .inr ⟨f,List.mem_cons_self ..,h.symm⟩
    ·exact .inl h
    ·exact .inr ⟨g,List.mem_cons_of_mem _ hg,e⟩
   ·rintro (h | ⟨g,hg,e⟩)
    ·exact .inl (.inr h)
    ·rcases List.mem_cons.1 hg with rfl | hg
     ·exact .inl (.inl e.symm)
     ·exact .inr ⟨g,hg,e⟩
theorem mem_keys {l:List Fact} {k:Key}:k∈keysL l ↔ ∃ f∈l,f.key=k:=by unfold keysL;rw [mem_keysFrom];simp
theorem rise_keysFrom {l:List Fact} {A:List Key} (h:Rise A):Rise (keysFrom A l):=by
 induction l generalizing A with
 | nil=>exact h
 | cons f l ih=>exact ih (rise_insU _ h)
theorem rise_keys (l:List Fact):Rise (keysL l):=rise_keysFrom List.Pairwise.nil
theorem keysFrom_length (l:List Fact) (A:List Key):(keysFrom A l).length≤A.length+l.length:=by
 induction l generalizing A with
 | nil=>exact Nat.le_refl _
 | cons f l ih =>
   have h1:=ih (insU A f.key)
   have h2:=insU_length A f.key
   rw [keysFrom_cons,List.length_cons];omega
theorem keys_length (l:List Fact):(keysL l).length≤l.length:=by have:=keysFrom_length l [];simpa [keysL] using this
def amts (l:List Fact) (k:Key):List Int:=(l.filter fun f=>decide (f.key=k)).map Fact.amt
def grps (l:List Fact):List (Key × List Int):=(keysL l).map fun k=>(k,amts l k)
theorem amts_length (l:List Fact) (k:Key):(amts l k).length≤l.length:=by unfold amts;rw [List.length_map];exact List.length_filter_le _ _
def putF (k:Key) (n:Int):List Fact:=if n=0 then [] else [⟨k,n⟩]
def runG:List (Key × List Int)→List Fact × Int
 | []=>([],0)
 | g::r=>if (sumFrom 0 g.2).2=0 then (if (runG r).2=0 then (putF g.1 (sumFrom 0 g.2).1++(runG r).1,0) else ([],(runG r).2)) else ([],(sumFrom 0 g.2).2)
def appG (c:List Fact) (x:List Fact × Int):List Fact × Int:=if x.2=0 then (c++x.1,0) else ([],x.2)
theorem appG_none (x:List (Key × List Int)):appG [] (runG x)=runG x:=by
 induction x with
 | nil=>rfl
 | cons g r ih =>
   unfold appG runG
   (repeat' split) <;> simp_all
theorem appG_yes (c:List Fact) (g:Key × List Int) (r:List (Key × List Int)) (h:(sumFrom 0 g.2).2=0):appG c (runG (g::r))=appG (c++putF g.1 (sumFrom 0 g.2).1) (runG r):=by
 unfold appG
 conv=>lhs;unfold runG
 rw [if_pos h]
 by_cases h2:(runG r).2=0
 ·simp [h2]
 ·simp [h2]
theorem appG_no (c:List Fact) (g:Key × List Int) (r:List (Key × List Int)) (h:(sumFrom 0 g.2).2≠0):appG c (runG (g::r))=([],(sumFrom 0 g.2).2):=by
 unfold appG
 conv=>lhs;unfold runG
 rw [if_neg h]
 simp [h]
def ofL (l:List Fact):List Fact × Int:=runG (grps l)
end Go.Proofs.YtdegffffcbhjbaaGreatDoor.Fa
end
section
namespace Go.Proofs.YtdegffffcbhjbaaGreatDoor
open Go.Lib (decDigits itoa nDigits parseIntB parseUintB parseMag parseUint10)
def dig (c:UInt8):Bool:=decide (48≤c.toNat) && decide (c.toNat≤57)
def digs (l:List UInt8):Bool:=l.all dig
def plainNum:List UInt8→Bool
 | []=>false
 | c::r=>(c != 48) && digs (c::r)
def whole (l:List UInt8):Bool :=
 match l with
 | 45::r=>plainNum r
 | l=>(l==[48]) || plainNum l
def num (n:Nat) (l:List UInt8):Nat:=l.foldl (fun a c=>a * 10+(c.toNat - 48)) n
def val (l:List UInt8):Int :=
 match l with
 | 45::r=>-((num 0 r:Nat):Int)
 | l=>((num 0 l:Nat):Int)
def parseV (l:List UInt8):Int:=if whole l=true then (if fit (val l)=true then val l else 0) else 0
def parseE (l:List UInt8):Int:=if whole l=true then (if fit (val l)=true then 0 else 2) else 5
theorem num_snoc (n:Nat) (l:List UInt8) (c:UInt8):num n (l++[c])=num n l * 10+(c.toNat - 48):=by simp [num]
theorem num_cons (n:Nat) (l:List UInt8) (c:UInt8):num n (c::l)=num (n * 10+(c.toNat - 48)) l:=by simp only [num,List.foldl_cons]
theorem num_ge (l:List UInt8):∀ n,n≤num n l:=by
 induction l with
 | nil=>intro n;exact Nat.le_refl _
 | cons c r ih=>intro n;rw [num_cons];exact Nat.le_trans (by omega) (ih _)
theorem digs_snoc (l:List UInt8) (c:UInt8):digs (l++[c])=(digs l && dig c):=by simp [digs]
theorem dig_iff (c:UInt8):dig c=true ↔ 48≤c.toNat∧c.toNat≤57:=by simp [dig]
theorem digs_cons (l:List UInt8) (c:UInt8):digs (c::l)=(dig c && digs l):=by simp [digs]
theorem parse_digs (l:List UInt8):∀ n,n < 18446744073709551616→digs l=true→parseUint10 n l=if num n l < 18446744073709551616 then .ok (num n l) else .range:=by
 induction l with
 | nil=>intro n hn _;simp [parseUint10,num,hn]
 | cons c r ih =>
   intro n hn hd
   rw [digs_cons,Bool.and_eq_true] at hd
   obtain ⟨hc,hr⟩:=hd
   rw [dig_iff] at hc
   have hg:=num_ge r (n * 10+(c.toNat - 48))
   rw [num_cons]
   simp only [parseUint10,if_pos hc]
   by_cases h1:1844674407370955162≤n
   ·rw [if_pos h1,if_neg (by omega)]
   ·rw [if_neg h1]
    by_cases h2:18446744073709551616≤n * 10+(c.toNat - 48)
    ·rw [if_pos h2,if_neg (by omega)]
    ·rw [if_neg h2,ih _ (by omega) hr]
theorem plainNum_cons {l:List UInt8} (h:plainNum l=true):∃ c r,l=c::r∧c≠48∧digs (c::r)=true:=by
 cases l with
 | nil=>cases h
 | cons c r =>
   simp only [plainNum,Bool.and_eq_true,bne_iff_ne,ne_eq] at h
   exact ⟨c,r,rfl,h.1,h.2⟩
theorem whole_minus (r:List UInt8):whole (45::r)=plainNum r:=rfl
theorem whole_other {c:UInt8} (r:List UInt8) (h:c≠45):whole (c::r)=((c::r==[48]) || plainNum (c::r)):=by
 unfold whole;split
 ·rename_i e;injection e with e _;exact absurd e h
 ·rfl
theorem val_minus (r:List UInt8):val (45::r)=-((num 0 r:Nat):Int):=rfl
theorem val_other {c:UInt8} (r:List UInt8) (h:c≠45):val (c::r)=((num 0 (c::r):Nat):Int):=by
 unfold val;split
 ·rename_i e;injection e with e _;exact absurd e h
 ·rfl
theorem toNat_ne {c d:UInt8} (h:c≠d):c.toNat≠d.toNat:=fun e=>h (UInt8.toNat_inj.1 e)
theorem whole_digs {c:UInt8} {r:List UInt8} (h:c≠45) (hw:whole (c::r)=true):digs (c::r)=true:=by
 rw [whole_other r h,Bool.or_eq_true] at hw
 rcases hw with hw | hw
 ·have e:c::r=[48]:=by simpa using hw
  rw [e];decide
 ·obtain ⟨c',r',e,_,hd⟩:=plainNum_cons hw
  rw [e];exact hd
theorem parseInt_whole {l:List UInt8} (h:whole l=true):parseIntB 64 l=if fit (val l)=true then .ok (val l) else .range:=by
 cases l with
 | nil=>cases h
 | cons c r =>
   by_cases h45:c=45
   ·subst h45
    rw [whole_minus] at h
    obtain ⟨c',r',rfl,_,hd⟩:=plainNum_cons h
    rw [Lib.parseIntB_minus,val_minus,Lib.parseUintB_64]
    simp only [parseMag]
    rw [if_neg (by simp),parse_digs _ 0 (by omega) hd]
    generalize num 0 (c'::r')=u
    have e63:(2:Nat) ^ (64 - 1)=9223372036854775808:=by decide
    rw [e63]
    by_cases hu:u < 18446744073709551616
    ·rw [if_pos hu]
     simp only [Lib.signedC]
     by_cases h2:9223372036854775808 < u
     ·rw [if_pos h2,if_neg (by rw [fit_iff];omega)]
     ·rw [if_neg h2,if_pos (by rw [fit_iff];omega)]
    ·rw [if_neg hu]
     simp only [Lib.signedC]
     rw [if_neg (by rw [fit_iff];omega)]
   ·have hd:=whole_digs h45 h
    have hc:48≤c.toNat∧c.toNat≤57:=by
     rw [digs_cons,Bool.and_eq_true,dig_iff] at hd;exact hd.1
    rw [Lib.parseIntB_plain 64 c r (by omega) (by omega),val_other r h45,Lib.parseUintB_64]
    simp only [parseMag]
    rw [if_neg (by simp),parse_digs _ 0 (by omega) hd]
    generalize num 0 (c::r)=u
    have e63:(2:Nat) ^ (64 - 1)=9223372036854775808:=by decide
    rw [e63]
    by_cases hu:u < 18446744073709551616
    ·rw [if_pos hu]
     simp only [Lib.signlessC]
     by_cases h2:9223372036854775808≤u
     ·rw [if_pos h2,if_neg (by rw [fit_iff];omega)]
     ·rw [if_neg h2,if_pos (by rw [fit_iff];omega)]
    ·rw [if_neg hu]
     simp only [Lib.signlessC]
     rw [if_neg (by rw [fit_iff];omega)]
theorem fit_parseV (l:List UInt8):fit (parseV l)=true:=by
 unfold parseV;split
 ·split
  ·assumption
  ·decide
 ·decide
end Go.Proofs.YtdegffffcbhjbaaGreatDoor
end
section
namespace Go.Proofs.YtdegffffcbhjbaaGreatDoor.Pk
open Go.RowKit Go.Proofs.YtdegffffcbhjbaaGreatDoor.Un Go.Proofs.YtdegffffcbhjbaaGreatDoor.Fa
def tPackage:ByteArray:=⟨#[112,97,99,107,97,103,101]⟩
def tJournal:ByteArray:=⟨#[106,111,117,114,110,97,108]⟩
def tFact:ByteArray:=⟨#[102,97,99,116]⟩
def tDash:ByteArray:=⟨#[45]⟩
def hasE (M:Mast) (c:ByteArray):Bool:=(G.findK Ent.code M.ents c).isSome
def hasFl (M:Mast) (c:ByteArray):Bool:=(Fl.findF M.flows c).isSome
def mutA (M:Mast) (c:ByteArray):Bool:=((findL M.chart c).getD zeroA).both
def kindF (M:Mast) (c:ByteArray):Int:=((Fl.findF M.flows c).getD Fl.zeroF).kind
def isP (k:Key):Bool:=decide (k.p≠emp)
def inM (M:Mast) (k:Key):Bool:=hasE M k.e && hasA M.chart k.a && hasFl M k.f && (!isP k || hasE M k.p)
def checkE (M:Mast) (k:Key):Int :=
 if inM M k=false then 6
 else if (isP k && decide (k.p=k.e))=true then 1
 else if isP k≠mutA M k.a then 15
 else if kindF M k.f=2 then 8 else 0
structure St where
 ent:ByteArray
 mrk:Int
 had:List ByteArray
 facts:List Fact
def st0:St:=⟨emp,0,[],[]⟩
def begE (M:Mast) (c:ByteArray):Int:=if nmB c=false then 5 else if hasE M c=false then 6 else 0
def parB (x:ByteArray):ByteArray:=if x=tDash then emp else x
def keyF (S:St) (ws:List ByteArray):Key:=⟨S.ent,wd ws 1,wd ws 2,parB (wd ws 3),S.mrk⟩
def namedK (k:Key):Bool:=nmB k.a && nmB k.f && (!isP k || nmB k.p)
def factE (M:Mast) (S:St) (ws:List ByteArray):Int :=
 if (decide (S.ent=emp) || !namedK (keyF S ws))=true then 5
 else if parseE (wd ws 4).data.toList=0 then checkE M (keyF S ws) else parseE (wd ws 4).data.toList
def factV (S:St) (ws:List ByteArray):Fact:=⟨keyF S ws,parseV (wd ws 4).data.toList⟩
def hadB (l:List ByteArray) (c:ByteArray):Bool:=l.any fun x=>decide (x=c)
theorem hadB_iff {l:List ByteArray} {c:ByteArray}:hadB l c=true ↔ c∈l:=by
 unfold hadB
 rw [List.any_eq_true]
 exact ⟨fun ⟨x,hx,e⟩=>by rw [←of_decide_eq_true e];exact hx,fun h=>⟨c,h,decide_eq_true rfl⟩⟩
theorem hadB_no {l:List ByteArray} {c:ByteArray}:hadB l c=false ↔ c ∉ l:=by
 rw [←hadB_iff,Bool.not_eq_true]
def lineE (M:Mast) (S:St) (ws:List ByteArray):Int :=
 if wd ws 0=tPackage then (if ws.length=2 then (if begE M (wd ws 1)=0 then (if hadB S.had (wd ws 1)=true then 7 else 0) else begE M (wd ws 1)) else 5)
 else if wd ws 0=tJournal then (if ws.length=2 then begE M (wd ws 1) else 5)
 else if wd ws 0=tFact then (if ws.length=5 then factE M S ws else 5)
 else 5
def lineV (S:St) (ws:List ByteArray):St :=
 if wd ws 0=tPackage then ⟨wd ws 1,0,S.had++[wd ws 1],S.facts⟩
 else if wd ws 0=tJournal then ⟨wd ws 1,1,S.had,S.facts⟩
 else ⟨S.ent,S.mrk,S.had,S.facts++[factV S ws]⟩
def runP (M:Mast):St→List (List ByteArray)→St × Int
 | S,[]=>(S,0)
 | S,ws::r=>if lineE M S ws=0 then runP M (lineV S ws) r else (st0,lineE M S ws)
def endP (r:St × Int):List Fact × Int:=if r.2=0 then ofL r.1.facts else ([],r.2)
def parseP (M:Mast) (s:ByteArray):List Fact × Int:=if linE s.data.toList=0 then endP (runP M st0 (wordsT s)) else ([],linE s.data.toList)
theorem runP_cons {M:Mast} {S:St} {ws:List ByteArray} (r:List (List ByteArray)) (h:lineE M S ws=0):runP M S (ws::r)=runP M (lineV S ws) r:=by simp [runP,h]
theorem runP_stop {M:Mast} {S:St} {ws:List ByteArray} (r:List (List ByteArray)) (h:lineE M S ws≠0):runP M S (ws::r)=(st0,lineE M S ws):=by simp [runP,h]
theorem endP_ok (S:St):endP (S,0)=ofL S.facts:=by simp [endP]
theorem endP_no (S:St) {n:Int} (h:n≠0):endP (S,n)=([],n):=by simp [endP,h]
theorem tP_J:tPackage≠tJournal:=by decide
theorem tP_F:tPackage≠tFact:=by decide
theorem tJ_F:tJournal≠tFact:=by decide
theorem begE_zero {M:Mast} {c:ByteArray}:begE M c=0 ↔ nmB c=true∧hasE M c=true:=by
 unfold begE
 cases nmB c <;> cases hasE M c <;> simp
theorem line_ways {M:Mast} {S:St} {ws:List ByteArray} (h:lineE M S ws=0) :
 (wd ws 0=tPackage∧ws.length=2∧begE M (wd ws 1)=0∧wd ws 1 ∉ S.had∧lineV S ws=⟨wd ws 1,0,S.had++[wd ws 1],S.facts⟩) ∨
 (wd ws 0=tJournal∧ws.length=2∧begE M (wd ws 1)=0∧lineV S ws=⟨wd ws 1,1,S.had,S.facts⟩) ∨
 (wd ws 0=tFact∧ws.length=5∧factE M S ws=0∧lineV S ws=⟨S.ent,S.mrk,S.had,S.facts++[factV S ws]⟩):=by
 unfold lineE at h
 by_cases h1:wd ws 0=tPackage
 ·rw [if_pos h1] at h
  by_cases h2:ws.length=2
  ·rw [if_pos h2] at h
   by_cases h3:begE M (wd ws 1)=0
   ·rw [if_pos h3] at h
    by_cases h4:hadB S.had (wd ws 1)=true
    ·rw [if_pos h4] at h;cases h
    ·exact .inl ⟨h1,h2,h3,hadB_no.1 (by simpa using h4),by unfold lineV;rw [if_pos h1]⟩
   ·rw [if_neg h3] at h;exact absurd h h3
  ·rw [if_neg h2] at h;cases h
 rw [if_neg h1] at h
 by_cases h2:wd ws 0=tJournal
 ·rw [if_pos h2] at h
  by_cases h3:ws.length=2
  ·rw [if_pos h3] at h
   exact .inr (.inl ⟨h2,h3,h,by unfold lineV;rw [if_neg h1,if_pos h2]⟩)
  ·rw [if_neg h3] at h;cases h
 rw [if_neg h2] at h
 by_cases h3:wd ws 0=tFact
 ·rw [if_pos h3] at h
  by_cases h4:ws.length=5
  ·rw [if_pos h4] at h
   exact .inr (.inr ⟨h3,h4,h,by unfold lineV;rw [if_neg h1,if_neg h2]⟩)
  ·rw [if_neg h4] at h;cases h
 ·rw [if_neg h3] at h;cases h
theorem factE_zero {M:Mast} {S:St} {ws:List ByteArray} (h:factE M S ws=0):S.ent≠emp∧namedK (keyF S ws)=true∧parseE (wd ws 4).data.toList=0∧checkE M (keyF S ws)=0:=by
 unfold factE at h
 by_cases h1:(decide (S.ent=emp) || !namedK (keyF S ws))=true
 ·rw [if_pos h1] at h;cases h
 rw [if_neg h1] at h
 rw [Bool.not_eq_true,Bool.or_eq_false_iff] at h1
 by_cases h2:parseE (wd ws 4).data.toList=0
 ·rw [if_pos h2] at h
  exact ⟨of_decide_eq_false h1.1,by simpa using h1.2,h2,h⟩
 ·rw [if_neg h2] at h;exact absurd h h2
theorem in64_parseV (l:List UInt8):In64 (parseV l):=by
 have:=fit_parseV l
 unfold fit at this
 simp only [Bool.and_eq_true,decide_eq_true_eq] at this
 exact this
structure Had (M:Mast) (S:St):Prop where
 mrk:S.mrk=0∨S.mrk=1
 ok:∀ f∈S.facts,In64 f.amt∧checkE M f.key=0∧(f.key.m=0∨f.key.m=1)
theorem Had.zero (M:Mast):Had M st0:=⟨.inl rfl,fun _ h=>by cases h⟩
theorem Had.step {M:Mast} {S:St} {ws:List ByteArray} (h:Had M S) (he:lineE M S ws=0):Had M (lineV S ws):=by
 rcases line_ways he with ⟨_,_,_,_,e⟩ | ⟨_,_,_,e⟩ | ⟨_,_,hf,e⟩ <;> rw [e]
 ·exact ⟨.inl rfl,h.ok⟩
 ·exact ⟨.inr rfl,h.ok⟩
 ·obtain ⟨_,_,_,h4⟩:=factE_zero hf
  refine ⟨h.mrk,fun f hf=>?_⟩
  rcases List.mem_append.1 hf with hf | hf
  ·exact h.ok f hf
  ·rw [List.mem_singleton.1 hf]
   exact ⟨in64_parseV _,h4,h.mrk⟩
theorem Had.run {M:Mast}:∀ (l:List (List ByteArray)) {S T:St},Had M S→runP M S l=(T,0)→Had M T
 | [],S,T,h,e=>by
   simp only [runP,Prod.mk.injEq] at e
   rw [←e.1];exact h
 | ws::r,S,T,h,e=>by
   by_cases he:lineE M S ws=0
   ·rw [runP_cons r he] at e
    exact Had.run r (h.step he) e
   ·rw [runP_stop r he] at e
    exact absurd (Prod.mk.inj e).2 he
theorem szW_le:∀ (ws:List ByteArray),ws≠[]→(∀ x∈ws,0 < x.size)→2 * ws.length≤szW ws
 | [],h,_=>absurd rfl h
 | [x],_,hx=>by
   have:=hx x (List.mem_cons_self ..)
   unfold szW
   rw [lineL_one,size_list]
   simp;omega
 | x::y::r,_,hx=>by
   have h1:=hx x (List.mem_cons_self ..)
   have ih:=szW_le (y::r) (by simp) (fun z hz=>hx z (List.mem_cons_of_mem _ hz))
   unfold szW at ih ⊢
   rw [lineL_two]
   simp only [List.length_append,List.length_cons,List.length_nil,size_list] at ih ⊢
   omega
theorem right_sizes {ws:List ByteArray} (h:rightW ws):2 * ws.length≤szW ws:=szW_le ws h.1 fun x hx=>by
 have:=h.2 x hx
 rw [←size_list]
 cases hl:x.data.toList with
 | nil=>rw [hl] at this;cases this
 | cons a b=>simp
theorem facts_few {M:Mast}:∀ (l:List (List ByteArray)) {S T:St},(∀ ws∈l,rightW ws)→runP M S l=(T,0)→T.facts.length * 10≤S.facts.length * 10+szL l
 | [],S,T,_,e=>by
   simp only [runP,Prod.mk.injEq] at e
   rw [←e.1];simp [szL]
 | ws::r,S,T,hl,e=>by
   have hs:szL (ws::r)=szW ws+szL r:=by simp [szL]
   by_cases he:lineE M S ws=0
   ·rw [runP_cons r he] at e
    have ih:=facts_few r (fun x hx=>hl x (List.mem_cons_of_mem _ hx)) e
    have h2:=right_sizes (hl ws (List.mem_cons_self ..))
    rcases line_ways he with ⟨_,_,_,_,e'⟩ | ⟨_,_,_,e'⟩ | ⟨_,h5,hf,e'⟩ <;> rw [e'] at ih
    ·dsimp only at ih;omega
    ·dsimp only at ih;omega
    ·rw [List.length_append,List.length_singleton] at ih
     omega
   ·rw [runP_stop r he] at e
    exact absurd (Prod.mk.inj e).2 he
theorem text_few {M:Mast} {s:ByteArray} {T:St} (h:runP M st0 (wordsT s)=(T,0)):T.facts.length * 10≤s.size+1:=by
 have:=facts_few _ (text_right s) h
 have h2:=text_size s
 rw [show st0.facts=[] from rfl] at this
 simp only [List.length_nil] at this
 omega
end Go.Proofs.YtdegffffcbhjbaaGreatDoor.Pk
end
section
namespace Go.Proofs.YtdegffffcbhjbaaGreatDoor.Fa
open Go.RowKit Go.Lib Go.Sort
def encK:Enc Key where
 cs k:=[.string k.e,.string k.a,.string k.f,.string k.p,.int .i64 k.m]
 k:=5
 len _:=rfl
 pos:=by decide
 one:=by intro k v hv;simp at hv;rcases hv with rfl | rfl | rfl | rfl | rfl <;> rfl
def encF:Enc Fact where
 cs f:=[.string f.key.e,.string f.key.a,.string f.key.f,.string f.key.p,.int .i64 f.key.m,.int .i64 f.amt]
 k:=6
 len _:=rfl
 pos:=by decide
 one:=by intro k v hv;simp at hv;rcases hv with rfl | rfl | rfl | rfl | rfl | rfl <;> rfl
abbrev aggK (k:Key):Value:=.agg #[.string k.e,.string k.a,.string k.f,.string k.p,.int .i64 k.m]
abbrev aggF (f:Fact):Value:=.agg #[.string f.key.e,.string f.key.a,.string f.key.f,.string f.key.p,.int .i64 f.key.m,.int .i64 f.amt]
abbrev FactsV (w:World) (v:Value) (L:List Fact):Prop:=ElsV encF w v L
theorem key5 {w:World} {b o:Nat} {k:Key} (h:ElAt encK w b o k):w.cell? ⟨b,o,none⟩=some (.string k.e)∧w.cell? ⟨b,o+1,none⟩=some (.string k.a)∧w.cell? ⟨b,o+2,none⟩=some (.string k.f)∧w.cell? ⟨b,o+3,none⟩=some (.string k.p)∧w.cell? ⟨b,o+4,none⟩=some (.int .i64 k.m):=⟨h 0 _ rfl,h 1 _ rfl,h 2 _ rfl,h 3 _ rfl,h 4 _ rfl⟩
theorem fact6 {w:World} {b o:Nat} {f:Fact} (h:ElAt encF w b o f):w.cell? ⟨b,o,none⟩=some (.string f.key.e)∧w.cell? ⟨b,o+1,none⟩=some (.string f.key.a)∧w.cell? ⟨b,o+2,none⟩=some (.string f.key.f)∧w.cell? ⟨b,o+3,none⟩=some (.string f.key.p)∧w.cell? ⟨b,o+4,none⟩=some (.int .i64 f.key.m)∧w.cell? ⟨b,o+5,none⟩=some (.int .i64 f.amt):=⟨h 0 _ rfl,h 1 _ rfl,h 2 _ rfl,h 3 _ rfl,h 4 _ rfl,h 5 _ rfl⟩
def encI:Enc Int where
 cs a:=[.int .i64 a]
 k:=1
 len _:=rfl
 pos:=by decide
 one:=by intro k v hv;simp at hv;subst hv;rfl
theorem rowIs_els {w:World} {p:Option Addr} {n c:Nat} {l:List Int} (h:ElsV encI w (.slice p n c) l):RowIs .i64 w p l.length l:=by
 obtain ⟨p',c',e,h1,h2,h3,hc⟩:=h
 cases e
 refine ⟨rfl,by omega,fun i hi=>?_⟩
 obtain ⟨b,o,e,hat⟩:=hc i _ (List.getElem?_eq_getElem hi)
 refine ⟨b,o,e,?_⟩
 have:=hat 0 _ rfl
 rw [Nat.add_zero,show encI.k=1 from rfl,Nat.mul_one] at this
 rw [this,getD_at l i hi]
def Grew (w w':World):Prop:=∃ q os,w'=grow (w.drewN q) os
theorem belowN {B:Nat} {a w:World} (h:Below B a w) (n:Nat):Below B a (w.drewN n):=⟨h.os,h.tape,h.output,h.size,h.block⟩
theorem Grew.refl (w:World):Grew w w:=⟨0,#[],by rw [grow_empty];rfl⟩
theorem Grew.trans {a b c:World} (h:Grew a b) (h':Grew b c):Grew a c:=by
 obtain ⟨q,os,rfl⟩:=h
 obtain ⟨q',os',rfl⟩:=h'
 refine ⟨q+q',os++os',?_⟩
 unfold grow World.drewN
 simp only [World.mk.injEq,Array.append_assoc,and_true,true_and]
 omega
theorem Grew.alloc {a b:World} (h:Grew a b) (o:Obj):Grew a (b.alloc o):=h.trans ⟨0,#[o],by rw [alloc_eq_grow];rfl⟩
theorem Grew.drew {a b:World} (h:Grew a b):Grew a b.drew:=h.trans ⟨1,#[],by rw [grow_empty];rfl⟩
theorem Grew.below {a b:World} (h:Grew a b):Below a.heap.size a b:=by
 obtain ⟨q,os,rfl⟩:=h
 refine ⟨rfl,rfl,rfl,by rw [size_grow];exact Nat.le_add_right _ _,fun k hk=>?_⟩
 exact heap_grow_old _ _ (by exact hk)
theorem ElsV.at_ {α:Type} {E:Enc α} {w:World} {p:Option Addr} {n c:Nat} {L:List α} (h:ElsV E w (.slice p n c) L) {i:Nat} {x:α} (hx:L[i]?=some x):∃ b o,p=some ⟨b,o,none⟩∧ElAt E w b (o+i * E.k) x:=by
 obtain ⟨p',c',e,_,_,_,hc⟩:=h
 cases e
 exact hc i x hx
end Go.Proofs.YtdegffffcbhjbaaGreatDoor.Fa
end
section
namespace Go.Proofs.YtdegffffcbhjbaaGreatDoor.Pk
open Go.RowKit Go.Proofs.YtdegffffcbhjbaaGreatDoor.Un
theorem shapes {w:World} {c f e l:Value} {M:Mast} (h:MastIn w c f e l M):∃ pc cc pf cf pe ce pl cl,c=.slice pc M.chart.length cc∧f=.slice pf M.flows.length cf∧e=.slice pe M.ents.length ce∧l=.slice pl M.lines.length cl:=by
 obtain ⟨p0,k0,e0,_⟩:=h.chart
 obtain ⟨p1,k1,e1,_⟩:=h.flows
 obtain ⟨p2,k2,e2,_⟩:=h.ents
 obtain ⟨p3,k3,e3,_⟩:=h.lines
 exact ⟨_,_,_,_,_,_,_,_,e0,e1,e2,e3⟩
theorem isP_ne (k:Fa.Key):isP k=(!k.p.toList.isEmpty):=by
 have h:=neB_iff k.p
 show isP k=neB k.p
 unfold isP
 rw [Bool.eq_iff_iff,decide_eq_true_eq]
 exact h.symm
set_option maxRecDepth 100000 in
set_option maxHeartbeats 4000000 in
theorem isEntity_any (c f e l:Value) (M:Mast) (code:ByteArray) (w:World) (h:MastIn w c f e l M) :
 Calls Tryz.prog 37 #[aggM c f e l M,.string code] w fun en w'=>en=.returned (.bool (hasE M code))∧Below w.heap.size w w':=by
 obtain ⟨pc,cc,pf,cf,pe,ce,pl,cl,rfl,rfl,rfl,rfl⟩:=shapes h
 have hb:=(Below.refl w.heap.size w).alloc (Nat.le_refl _) (.cells (cellsM (.slice pc M.chart.length cc) (.slice pf M.flows.length cf) (.slice pe M.ents.length ce) (.slice pl M.lines.length cl) M) 30)
 have HB:=Lib.hid hb
 have HM:=Lib.hid (h.keep hb)
 have HN:=Lib.hid (nine_new w (.slice pc M.chart.length cc) (.slice pf M.flows.length cf) (.slice pe M.ents.length ce) (.slice pl M.lines.length cl) M 30)
 obtain ⟨C,hC⟩:∃ C,curO (G.findK Ent.code M.ents code)=C:=⟨_,rfl⟩
 obtain ⟨I,hI⟩:∃ I,(G.findK Ent.code M.ents code).isSome=I:=⟨_,rfl⟩
 have hI2:hasE M code=I:=hI
 have HF:=Lib.hid (fun W h=>Un.find_any (.slice pc M.chart.length cc) (.slice pf M.flows.length cf) (.slice pe M.ents.length ce) (.slice pl M.lines.length cl) M code W h)
 simp only [hC,hI] at HF
 rw [hI2]
 clear hC hI hI2 hb h
 obtain ⟨k0,k1,k2,k3,k4,k5,k6,k7,k8⟩:=HN.out
 go_enter Tryz.func37,Tryz.ntmps37
 go_wp2_with fail
 clear k0 k1 k2 k3 k4 k5 k6 k7 k8
 refine (HF.out _ HM.out).mono ?_
 rintro en w2 ⟨rfl,hb2⟩
 have HB2:=Lib.hid (HB.out.trans (hb2.mono HB.out.size))
 clear hb2
 go_wp2
 go_ret
 exact ⟨rfl,HB2.out⟩
abbrev kCells (k:Fa.Key):Array Value:=#[.string k.e,.string k.a,.string k.f,.string k.p,.int .i64 k.m]
abbrev fCells (x:Fa.Fact):Array Value:=#[.string x.key.e,.string x.key.a,.string x.key.f,.string x.key.p,.int .i64 x.key.m,.int .i64 x.amt]
theorem kind_of_find {L:List Fl.Flow} (hr:riseK Fl.Flow.code L=true) (c:ByteArray):Fl.kindL L c=((Fl.findF L c).getD Fl.zeroF).kind:=by
 unfold Fl.kindL
 obtain ⟨h1,h2⟩:=isK_find hr c
 cases hi:isK Fl.Flow.code L c with
 | true=>rw [if_pos rfl,h2 hi]
 | false =>
   rw [hi] at h1
   rw [if_neg (by simp)]
   unfold Fl.findF
   cases hf:findK Fl.Flow.code L c with
   | none=>rfl
   | some y=>rw [hf] at h1;cases h1
theorem checkE_no {M:Mast} {k:Fa.Key} (h:inM M k=false):checkE M k=6:=by unfold checkE;rw [if_pos h]
theorem checkE_arg {M:Mast} {k:Fa.Key} (h:inM M k=true) (h1:(isP k && decide (k.p=k.e))=true):checkE M k=1:=by unfold checkE;rw [if_neg (by rw [h];simp),if_pos h1]
theorem checkE_cls {M:Mast} {k:Fa.Key} (h:inM M k=true) (h1:(isP k && decide (k.p=k.e))=false) (h2:isP k≠mutA M k.a):checkE M k=15:=by unfold checkE;rw [if_neg (by rw [h];simp),if_neg (by rw [h1];simp),if_pos h2]
theorem checkE_end {M:Mast} {k:Fa.Key} (h:inM M k=true) (h1:(isP k && decide (k.p=k.e))=false) (h2:isP k=mutA M k.a):checkE M k=if kindF M k.f=2 then 8 else 0:=by unfold checkE;rw [if_neg (by rw [h];simp),if_neg (by rw [h1];simp),if_neg (by simp [h2])]
set_option maxRecDepth 100000 in
set_option maxHeartbeats 16000000 in
theorem check_any (c f e l:Value) (M:Mast) (x:Fa.Fact) (w:World) (h:MastIn w c f e l M) (hr:riseK Fl.Flow.code M.flows=true) (hlf:M.flows.length≤1000) :
 Calls Tryz.prog 17 #[aggM c f e l M,Fa.aggF x] w fun en w'=>en=.returned (.int .i64 (checkE M x.key))∧Below w.heap.size w w':=by
 obtain ⟨pc,cc,pf,cf,pe,ce,pl,cl,rfl,rfl,rfl,rfl⟩:=shapes h
 have hb1:=(Below.refl w.heap.size w).alloc (Nat.le_refl _) (.cells (cellsM (.slice pc M.chart.length cc) (.slice pf M.flows.length cf) (.slice pe M.ents.length ce) (.slice pl M.lines.length cl) M) 30)
 have hn1:=nine_new w (.slice pc M.chart.length cc) (.slice pf M.flows.length cf) (.slice pe M.ents.length ce) (.slice pl M.lines.length cl) M 30
 obtain ⟨W1,hW1⟩:∃ W1,w.alloc (.cells (cellsM (.slice pc M.chart.length cc) (.slice pf M.flows.length cf) (.slice pe M.ents.length ce) (.slice pl M.lines.length cl) M) 30)=W1:=⟨_,rfl⟩
 rw [hW1] at hb1 hn1
 have hb2:=(Below.refl W1.heap.size W1).alloc (Nat.le_refl _) (.cells (fCells x) 58)
 have hf2:=Fa.fact6 (el_new Fa.encF W1 x 58)
 obtain ⟨W2,hW2⟩:∃ W2,W1.alloc (.cells (fCells x) 58)=W2:=⟨_,rfl⟩
 rw [show (Fa.encF.cs x).toArray=fCells x from rfl,hW2] at hf2
 rw [hW2] at hb2
 have hb3:=(Below.refl W2.heap.size W2).alloc (Nat.le_refl _) (.cells (kCells x.key) 56)
 have hk3:=Fa.key5 (el_new Fa.encK W2 x.key 56)
 obtain ⟨W3,hW3⟩:∃ W3,W2.alloc (.cells (kCells x.key) 56)=W3:=⟨_,rfl⟩
 rw [show (Fa.encK.cs x.key).toArray=kCells x.key from rfl,hW3] at hk3
 rw [hW3] at hb3
 have hb13:Below W1.heap.size W1 W3:=hb2.trans (hb3.mono hb2.size)
 have hb03:Below w.heap.size w W3:=hb1.trans (hb13.mono hb1.size)
 have HB3:=Lib.hid hb03
 have HM3:=Lib.hid (h.keep hb03)
 have HN3:=Lib.hid (hn1.kept hb13)
 have HK3:Hid (ElAt Fa.encK W3 W2.heap.size 0 x.key):=Lib.hid (by rw [←hW3];exact el_new Fa.encK W2 x.key 56)
 have HR:=Lib.hid hr
 have HCF:=Lib.hid (fun W h=>find_any (.slice pc M.chart.length cc) M.chart x.key.a W h)
 have HFK:=Lib.hid (fun W h=>Fl.kind_any (.slice pf M.flows.length cf) M.flows x.key.f W h hr hlf)
 have HEE:=Lib.hid (fun W h=>isEntity_any (.slice pc M.chart.length cc) (.slice pf M.flows.length cf) (.slice pe M.ents.length ce) (.slice pl M.lines.length cl) M x.key.e W h)
 have HEP:=Lib.hid (fun W h=>isEntity_any (.slice pc M.chart.length cc) (.slice pf M.flows.length cf) (.slice pe M.ents.length ce) (.slice pl M.lines.length cl) M x.key.p W h)
 have HCK:Hid (checkE M x.key=checkE M x.key):=Lib.hid rfl
 obtain ⟨A,hA⟩:∃ A,findV (findL M.chart x.key.a)=A:=⟨_,rfl⟩
 obtain ⟨AI,hAI⟩:∃ I,(findL M.chart x.key.a).isSome=I:=⟨_,rfl⟩
 obtain ⟨K,hK⟩:∃ K,Fl.kindL M.flows x.key.f=K:=⟨_,rfl⟩
 obtain ⟨FI,hFI⟩:∃ I,isK Fl.Flow.code M.flows x.key.f=I:=⟨_,rfl⟩
 obtain ⟨EI,hEI⟩:∃ I,hasE M x.key.e=I:=⟨_,rfl⟩
 obtain ⟨PI,hPI⟩:∃ I,hasE M x.key.p=I:=⟨_,rfl⟩
 obtain ⟨P,hP⟩:∃ P,isP x.key=P:=⟨_,rfl⟩
 have hne:=isP_ne x.key
 rw [hP] at hne
 simp only [hA,hAI] at HCF
 simp only [hK,hFI] at HFK
 simp only [hEI] at HEE
 simp only [hPI] at HEP
 have HIN:Hid (inM M x.key=(EI && AI && FI && (!P || PI))):=Lib.hid (by
  unfold inM hasA hasFl
  rw [hEI,hAI,hP,hPI,←(isK_find hr x.key.f).1,hFI])
 have HMU:Hid (mutA M x.key.a=A.both):=Lib.hid (by rw [←hA];rfl)
 have HKF:Hid (kindF M x.key.f=K):=Lib.hid (by rw [←hK,kind_of_find hr];rfl)
 have HPP:=Lib.hid hP
 obtain ⟨N,hN⟩:∃ N,checkE M x.key=N:=⟨_,rfl⟩
 rw [hN]
 have HN:=Lib.hid hN
 clear hA hAI hK hFI hEI hPI hP hN hr hlf hb1 hb2 hb3 hb13 hb03 h hn1 HCK
 obtain ⟨k0,k1,k2,k3,k4,k5,k6,k7,k8⟩:=HN3.out
 obtain ⟨f0,f1,f2,f3,f4,f5⟩:=hf2
 obtain ⟨y0,y1,y2,y3,y4⟩:=hk3
 simp only [Nat.zero_add] at f0 f1 f2 f3 f4 f5 y0 y1 y2 y3 y4
 go_enter Tryz.func17,Tryz.ntmps17
 go_wp2_with fail
 clear k0 k1 k2 k3 k4 k5 k6 k7 k8 f0 f1 f2 f3 f4 f5 y0 y1 y2 y3 y4 hW1 hW2 hW3
 refine (HCF.out _ HM3.out.chart).mono ?_
 rintro en w4 ⟨rfl,hb4⟩
 have hb5:=hb4.alloc hb4.size (.cells #[.string A.code,.int .i64 A.cls,.bool A.cash,.bool A.both,.string A.fixed,.bool A.worn] 99)
 have HB5:=Lib.hid (HB3.out.trans (hb5.mono HB3.out.size))
 have HM5:=Lib.hid (HM3.out.keep hb5)
 have HN5:=Lib.hid (HN3.out.kept hb5)
 have HK5:=Lib.hid (HK3.out.keep hb5 HK3.out.lt)
 have HA5:=Lib.hid (BoxA.new w4 A 99)
 clear hb4 hb5 HB3 HM3 HN3 HK3 HCF
 obtain ⟨k0,k1,k2,k3,k4,k5,k6,k7,k8⟩:=HN5.out
 obtain ⟨y0,y1,y2,y3,y4⟩:=Fa.key5 HK5.out
 simp only [Nat.zero_add] at y0 y1 y2 y3 y4
 go_wp2_with fail
 clear k0 k1 k2 k3 k4 k5 k6 k7 k8 y0 y1 y2 y3 y4
 refine (HFK.out _ HM5.out.flows).mono ?_
 rintro en w6 ⟨rfl,hb6⟩
 have HB6:=Lib.hid (HB5.out.trans (hb6.mono HB5.out.size))
 have HM6:=Lib.hid (HM5.out.keep hb6)
 have HN6:=Lib.hid (HN5.out.kept hb6)
 have HK6:=Lib.hid (HK5.out.keep hb6 HK5.out.lt)
 have HA6:=Lib.hid (HA5.out.keep hb6 (Array.getElem?_eq_some_iff.1 HA5.out).1)
 clear hb6 HB5 HM5 HN5 HK5 HA5 HFK
 obtain ⟨k0,k1,k2,k3,k4,k5,k6,k7,k8⟩:=HN6.out
 obtain ⟨y0,y1,y2,y3,y4⟩:=Fa.key5 HK6.out
 simp only [Nat.zero_add] at y0 y1 y2 y3 y4
 have hq0:=hne.symm
 clear hne
 cases P with
 | false =>
   have hq:(!x.key.p.toList.isEmpty)=false:=hq0
   have hq2:x.key.p.toList.isEmpty=true:=by simpa using hq0
   clear hq0
   go_wp2_with fail
   clear k0 k1 k2 k3 k4 k5 k6 k7 k8 y0 y1 y2 y3 y4
   refine (HEE.out _ HM6.out).mono ?_
   rintro en w8 ⟨rfl,hb8⟩
   have HB8:=Lib.hid (HB6.out.trans (hb8.mono HB6.out.size))
   have HM8:=Lib.hid (HM6.out.keep hb8)
   have HN8:=Lib.hid (HN6.out.kept hb8)
   have HK8:=Lib.hid (HK6.out.keep hb8 HK6.out.lt)
   have HA8:=Lib.hid (HA6.out.keep hb8 (Array.getElem?_eq_some_iff.1 HA6.out).1)
   clear hb8 HB6 HM6 HN6 HK6 HA6 HEE
   cases EI with
   | false =>
     have HNN:Hid (N=6):=Lib.hid (by rw [←HN.out];exact checkE_no (by rw [HIN.out];rfl))
     go_wp2
     go_ret
     exact ⟨by rw [HNN.out];rfl,HB8.out⟩
   | true =>
   cases AI with
   | false =>
     have HNN:Hid (N=6):=Lib.hid (by rw [←HN.out];exact checkE_no (by rw [HIN.out];rfl))
     go_wp2
     go_ret
     exact ⟨by rw [HNN.out];rfl,HB8.out⟩
   | true =>
   cases FI with
   | false =>
     have HNN:Hid (N=6):=Lib.hid (by rw [←HN.out];exact checkE_no (by rw [HIN.out];rfl))
     go_wp2
     go_ret
     exact ⟨by rw [HNN.out];rfl,HB8.out⟩
   | true =>
     have HINT:Hid (inM M x.key=true):=Lib.hid (by rw [HIN.out];rfl)
     have HARG:Hid ((isP x.key && decide (x.key.p=x.key.e))=false):=Lib.hid (by rw [HPP.out];rfl)
     obtain ⟨y0,y1,y2,y3,y4⟩:=Fa.key5 HK8.out
     simp only [Nat.zero_add] at y0 y1 y2 y3 y4
     obtain ⟨z0,z1,z2,z3,z4,z5⟩:=HA8.out.facts
     cases hB:A.both with
     | true =>
       have HNN:Hid (N=15):=Lib.hid (by rw [←HN.out];exact checkE_cls HINT.out HARG.out (by rw [HPP.out,HMU.out,hB];simp))
       rw [hB] at z3
       clear hB
       go_wp2
       go_ret
       exact ⟨by rw [HNN.out];rfl,HB8.out⟩
     | false =>
       have HNE:Hid (N=if K=2 then 8 else 0):=Lib.hid (by rw [←HN.out,←HKF.out];exact checkE_end HINT.out HARG.out (by rw [HPP.out,HMU.out,hB]))
       rw [hB] at z3
       clear hB
       by_cases hK2:K=2
       ·subst hK2
        go_wp2
        go_ret
        exact ⟨by rw [HNE.out];rfl,HB8.out⟩
       ·have HNN:Hid (N=0):=Lib.hid (by rw [HNE.out,if_neg hK2])
        have hk2:(K==2)=false:=by simpa using hK2
        clear hK2
        go_wp2
        go_ret
        exact ⟨by rw [HNN.out];rfl,HB8.out⟩
 | true =>
   have hq:(!x.key.p.toList.isEmpty)=true:=hq0
   have hq2:x.key.p.toList.isEmpty=false:=by simpa using hq0
   clear hq0
   go_wp2_with fail
   clear k0 k1 k2 k3 k4 k5 k6 k7 k8 y0 y1 y2 y3 y4
   refine (HEE.out _ HM6.out).mono ?_
   rintro en w8 ⟨rfl,hb8⟩
   have HB8:=Lib.hid (HB6.out.trans (hb8.mono HB6.out.size))
   have HM8:=Lib.hid (HM6.out.keep hb8)
   have HN8:=Lib.hid (HN6.out.kept hb8)
   have HK8:=Lib.hid (HK6.out.keep hb8 HK6.out.lt)
   have HA8:=Lib.hid (HA6.out.keep hb8 (Array.getElem?_eq_some_iff.1 HA6.out).1)
   clear hb8 HB6 HM6 HN6 HK6 HA6 HEE
   cases EI with
   | false =>
     have HNN:Hid (N=6):=Lib.hid (by rw [←HN.out];exact checkE_no (by rw [HIN.out];rfl))
     go_wp2
     go_ret
     exact ⟨by rw [HNN.out];rfl,HB8.out⟩
   | true =>
   cases AI with
   | false =>
     have HNN:Hid (N=6):=Lib.hid (by rw [←HN.out];exact checkE_no (by rw [HIN.out];rfl))
     go_wp2
     go_ret
     exact ⟨by rw [HNN.out];rfl,HB8.out⟩
   | true =>
   cases FI with
   | false =>
     have HNN:Hid (N=6):=Lib.hid (by rw [←HN.out];exact checkE_no (by rw [HIN.out];rfl))
     go_wp2
     go_ret
     exact ⟨by rw [HNN.out];rfl,HB8.out⟩
   | true =>
     obtain ⟨k0,k1,k2,k3,k4,k5,k6,k7,k8⟩:=HN8.out
     obtain ⟨y0,y1,y2,y3,y4⟩:=Fa.key5 HK8.out
     simp only [Nat.zero_add] at y0 y1 y2 y3 y4
     go_wp2_with fail
     clear k0 k1 k2 k3 k4 k5 k6 k7 k8 y0 y1 y2 y3 y4
     refine (HEP.out _ HM8.out).mono ?_
     rintro en w9 ⟨rfl,hb9⟩
     have HB9:=Lib.hid (HB8.out.trans (hb9.mono HB8.out.size))
     have HK9:=Lib.hid (HK8.out.keep hb9 HK8.out.lt)
     have HA9:=Lib.hid (HA8.out.keep hb9 (Array.getElem?_eq_some_iff.1 HA8.out).1)
     clear hb9 HB8 HM8 HN8 HK8 HA8 HEP
     cases PI with
     | false =>
       have HNN:Hid (N=6):=Lib.hid (by rw [←HN.out];exact checkE_no (by rw [HIN.out];rfl))
       go_wp2
       go_ret
       exact ⟨by rw [HNN.out];rfl,HB9.out⟩
     | true =>
     have HINT:Hid (inM M x.key=true):=Lib.hid (by rw [HIN.out];rfl)
     obtain ⟨y0,y1,y2,y3,y4⟩:=Fa.key5 HK9.out
     simp only [Nat.zero_add] at y0 y1 y2 y3 y4
     obtain ⟨z0,z1,z2,z3,z4,z5⟩:=HA9.out.facts
     cases hpe:(x.key.p.toList==x.key.e.toList) with
     | true =>
       have HNN:Hid (N=1):=Lib.hid (by
        rw [←HN.out]
        exact checkE_arg HINT.out (by rw [HPP.out,(Lib.bytes_beq_iff _ _).1 hpe];simp))
       go_wp2
       go_ret
       exact ⟨by rw [HNN.out];rfl,HB9.out⟩
     | false =>
     have HARG:Hid ((isP x.key && decide (x.key.p=x.key.e))=false):=Lib.hid (by rw [HPP.out,Bool.true_and];exact decide_eq_false ((Lib.bytes_beq_false_iff _ _).1 hpe))
     cases hB:A.both with
     | false =>
       have HNN:Hid (N=15):=Lib.hid (by rw [←HN.out];exact checkE_cls HINT.out HARG.out (by rw [HPP.out,HMU.out,hB];simp))
       rw [hB] at z3
       clear hB
       go_wp2
       go_ret
       exact ⟨by rw [HNN.out];rfl,HB9.out⟩
     | true =>
       have HNE:Hid (N=if K=2 then 8 else 0):=Lib.hid (by rw [←HN.out,←HKF.out];exact checkE_end HINT.out HARG.out (by rw [HPP.out,HMU.out,hB]))
       rw [hB] at z3
       clear hB
       by_cases hK2:K=2
       ·subst hK2
        go_wp2
        go_ret
        exact ⟨by rw [HNE.out];rfl,HB9.out⟩
       ·have HNN:Hid (N=0):=Lib.hid (by rw [HNE.out,if_neg hK2])
        have hk2:(K==2)=false:=by simpa using hK2
        clear hK2
        go_wp2
        go_ret
        exact ⟨by rw [HNN.out];rfl,HB9.out⟩
end Go.Proofs.YtdegffffcbhjbaaGreatDoor.Pk
end
section
namespace Go.Proofs.YtdegffffcbhjbaaGreatDoor.Un.En
open Go.RowKit
structure SearchAt (w wr:World) (L:List Ent) (c:Ent) (lo hi:Nat):Prop where
 le:lo≤hi
 top:hi≤L.length
 bel:Below (w.heap.size+1) (w.alloc (.cells (encE.cs c).toArray 188)) wr
 low:∀ (t:Nat) (x:Ent),t < lo→L[t]?=some x→G.KeyO.lt (Ent.code x) (Ent.code c)=true
 high:∀ (t:Nat) (x:Ent),hi≤t→L[t]?=some x→G.KeyO.lt (Ent.code x) (Ent.code c)=false
set_option maxRecDepth 100000 in
set_option maxHeartbeats 8000000 in
theorem search_any (v:Value) (L:List Ent) (c:Ent) (w:World) (h:ElsV encE w v L) (hr:G.riseK Ent.code L=true) (hL:L.length≤1000) :
 Calls Tryz.prog 147 #[v,aggE c,.func (.func 109) #[] #[]] w fun e w'=>e=.returned (.tuple #[.int .i64 (G.placeK Ent.code L (Ent.code c):Nat),.bool (G.isK Ent.code L (Ent.code c))])∧Below w.heap.size w w':=by
 have HB0:=Lib.hid ((Below.refl w.heap.size w).alloc (Nat.le_refl _) (.cells (encE.cs c).toArray 188))
 have HX0:=Lib.hid (BoxE.new encE w c 188)
 have hV:=h.keep HB0.out
 obtain ⟨p,cap,rfl,hcap,hm,_,hc⟩:=hV
 obtain ⟨n,hn⟩:∃ n,L.length=n:=⟨_,rfl⟩
 obtain ⟨pl,hpl⟩:∃ pl,G.placeK Ent.code L (Ent.code c)=pl:=⟨_,rfl⟩
 obtain ⟨is,his⟩:∃ is,G.isK Ent.code L (Ent.code c)=is:=⟨_,rfl⟩
 rw [hn] at hcap hL ⊢
 rw [hpl,his]
 have HC:=Lib.hid hc
 have HN:=Lib.hid hn
 have HPL:=Lib.hid hpl
 have HIS:=Lib.hid his
 have HRI:=Lib.hid hr
 unfold maxLen at hm
 have HAT:Hid (∀ (wr:World),Below (w.heap.size+1) (w.alloc (.cells (encE.cs c).toArray 188)) wr→∀ (i:Nat) (x:Ent),L[i]?=some x→∃ b o,p=some ⟨b,o,none⟩∧ElAt encE wr b (o+i * encE.k) x∧ElAt encE wr w.heap.size 0 c):=Lib.hid (fun wr hb i x hx=>by
  obtain ⟨b,o,e,hat⟩:=HC.out i x hx
  have hlt:=hat.lt
  rw [World.size_alloc] at hlt
  exact ⟨b,o,e,hat.keep hb hlt,HX0.out.at0.keep hb (Nat.lt_succ_self _)⟩)
 have HBE:Hid (∀ (wr:World),Below (w.heap.size+1) (w.alloc (.cells (encE.cs c).toArray 188)) wr→Below w.heap.size w wr):=Lib.hid (fun wr hb=>HB0.out.trans (hb.mono (Nat.le_succ _)))
 clear hc hn hpl his hr h
 go_enter Tryz.func147,Tryz.ntmps147
 go_wp2
 go_loopg [9,10] n (fun kx s9 s10 wr=>∃ lo hi:Nat,s9=.int .i64 (lo:Int)∧s10=.int .i64 (hi:Int)∧hi - lo≤kx∧lo≤hi∧hi≤n∧Hid (SearchAt w wr L c lo hi))
 case atStart=>exact ⟨0,n,rfl,rfl,by omega,Nat.zero_le _,Nat.le_refl _,Lib.hid ⟨Nat.zero_le _,by rw [HN.out];exact Nat.le_refl _,Below.refl _ _,fun t x ht=>absurd ht (Nat.not_lt_zero _),fun t x ht hx=>by
  have:=(List.getElem?_eq_some_iff.1 hx).1
  rw [HN.out] at this;omega⟩⟩
 case round =>
  obtain ⟨lo,hi,rfl,rfl,hkx,hlh,hin,HA⟩:=hrel
  have HSZ:Hid (w.heap.size+1≤wr.heap.size):=Lib.hid (by have:=HA.out.bel.size;rwa [World.size_alloc] at this)
  by_cases hlt:lo < hi
  ·have hmid:(lo+hi) / 2 < n:=by omega
   obtain ⟨x,hx⟩:∃ x,L[(lo+hi) / 2]?=some x:=⟨_,List.getElem?_eq_getElem (by rw [HN.out];exact hmid)⟩
   obtain ⟨b,o,rfl,hat,hct⟩:=HAT.out _ HA.out.bel _ x hx
   obtain ⟨r0,r1⟩:=ent2 hat
   obtain ⟨s0,s1⟩:=ent2 hct
   have q0:=fun p:Past wr=>cell_past r0 p
   have u0:=fun p:Past wr=>cell_past s0 p
   have q1:=fun p:Past wr=>cell_past r1 p
   have u1:=fun p:Past wr=>cell_past s1 p
   clear r0 s0 r1 s1
   have HX:=Lib.hid hx
   clear hx hat hct
   have HAG:=Lib.hid (fun W=>againstE_any x c W)
   obtain ⟨m,hmm⟩:∃ m,cmpE x c=m:=⟨_,rfl⟩
   have HM:=Lib.hid (cmpE_lt x c)
   rw [hmm] at HM
   simp only [hmm] at HAG
   clear hmm
   have hwm:IntKind.i64.wrap ((lo:Int)+(hi:Int))=(lo:Int)+(hi:Int):=by rw [IntKind.wrap_i64];omega
   by_cases hm0:m < 0
   ·have HLT:Hid (G.KeyO.lt (Ent.code x) (Ent.code c)=true):=Lib.hid (by rw [←HM.out];exact decide_eq_true hm0)
    go_wp2_with fail
    refine wp_region_past (by kernel_rfl) (by kernel_rfl) ?_
    repeat (go_big_quiet_step ((go_at_call 109;exact Calls.past_of (HAG.out _))))
    refine wpQuiet_nil ?_
    intro _ hw'
    obtain ⟨⟨w3,hb3⟩,rfl⟩:=hw'
    clear q0 u0 q1 u1
    go_wp2
    go_roundg (hi - ((lo+hi) / 2+1))
    case measure=>omega
    case rel=>exact ⟨(lo+hi) / 2+1,hi,by rw [show ((lo:Int)+(hi:Int)) / 2+1=(((lo+hi) / 2+1:Nat):Int) by omega],rfl,Nat.le_refl _,by omega,hin,Lib.hid ⟨by omega,HA.out.top,HA.out.bel.trans (hb3.mono HSZ.out),fun t y ht hy=>by
     rcases Nat.lt_or_ge t ((lo+hi) / 2) with h | h
     ·exact G.KeyO.trans (G.riseK_at HRI.out h hy HX.out) HLT.out
     ·obtain rfl:t=(lo+hi) / 2:=by omega
      rw [HX.out] at hy;cases hy;exact HLT.out,HA.out.high⟩⟩
   ·have HLT:Hid (G.KeyO.lt (Ent.code x) (Ent.code c)=false):=Lib.hid (by rw [←HM.out];exact decide_eq_false hm0)
    go_wp2_with fail
    refine wp_region_past (by kernel_rfl) (by kernel_rfl) ?_
    repeat (go_big_quiet_step ((go_at_call 109;exact Calls.past_of (HAG.out _))))
    refine wpQuiet_nil ?_
    intro _ hw'
    obtain ⟨⟨w3,hb3⟩,rfl⟩:=hw'
    clear q0 u0 q1 u1
    go_wp2
    go_roundg ((lo+hi) / 2 - lo)
    case measure=>omega
    case rel=>exact ⟨lo,(lo+hi) / 2,rfl,by rw [show ((lo:Int)+(hi:Int)) / 2=(((lo+hi) / 2:Nat):Int) by omega],Nat.le_refl _,by omega,by omega,Lib.hid ⟨by omega,by have:=HA.out.top;omega,HA.out.bel.trans (hb3.mono HSZ.out),HA.out.low,fun t y ht hy=>by
     rcases Nat.lt_or_ge ((lo+hi) / 2) t with h | h
     ·cases hy':G.KeyO.lt (Ent.code y) (Ent.code c) with
      | false=>rfl
      | true=>rw [G.KeyO.trans (G.riseK_at HRI.out h HX.out hy) hy'] at HLT;cases HLT.out
     ·obtain rfl:t=(lo+hi) / 2:=by omega
      rw [HX.out] at hy;cases hy;exact HLT.out⟩⟩
  ·obtain rfl:hi=lo:=by omega
   have hpl:Hid (pl=hi):=Lib.hid (by
    rw [←HPL.out]
    exact G.placeK_at HA.out.top HA.out.low (fun y hy=>HA.out.high hi y (Nat.le_refl _) hy))
   by_cases hn:hi < n
   ·obtain ⟨x,hx⟩:∃ x,L[hi]?=some x:=⟨_,List.getElem?_eq_getElem (by rw [HN.out];exact hn)⟩
    obtain ⟨b,o,rfl,hat,hct⟩:=HAT.out _ HA.out.bel _ x hx
    obtain ⟨r0,r1⟩:=ent2 hat
    obtain ⟨s0,s1⟩:=ent2 hct
    have q0:=fun p:Past wr=>cell_past r0 p
    have u0:=fun p:Past wr=>cell_past s0 p
    have q1:=fun p:Past wr=>cell_past r1 p
    have u1:=fun p:Past wr=>cell_past s1 p
    clear r0 s0 r1 s1
    have HX:=Lib.hid hx
    clear hx hat hct
    have HAG:=Lib.hid (fun W=>againstE_any x c W)
    obtain ⟨m,hmm⟩:∃ m,cmpE x c=m:=⟨_,rfl⟩
    have HM:=Lib.hid (cmpE_eq x c)
    rw [hmm] at HM
    simp only [hmm] at HAG
    clear hmm
    have HI2:Hid (is=(m==0)):=Lib.hid (by
     rw [←HIS.out,HM.out]
     unfold G.isK
     rw [HPL.out,hpl.out,HX.out])
    go_wp2_with fail
    refine wp_region_past (by kernel_rfl) (by kernel_rfl) ?_
    repeat (go_big_quiet_step ((go_at_call 109;exact Calls.past_of (HAG.out _))))
    refine wpQuiet_nil ?_
    intro _ hw'
    obtain ⟨⟨w3,hb3⟩,rfl⟩:=hw'
    clear q0 u0 q1 u1
    go_wp2
    go_ret2
    exact ⟨by rw [hpl.out,HI2.out];rfl,HBE.out _ (HA.out.bel.trans (hb3.mono HSZ.out))⟩
   ·have HI2:Hid (is=false):=Lib.hid (by
     rw [←HIS.out]
     unfold G.isK
     rw [HPL.out,hpl.out,List.getElem?_eq_none (by rw [HN.out];omega)])
    have hd:decide (hi < n)=false:=decide_eq_false hn
    go_wp2_with fail
    refine wp_region_past (by kernel_rfl) (by kernel_rfl) ?_
    repeat (go_big_quiet_step (fail))
    refine wpQuiet_nil ?_
    intro _ hw'
    obtain ⟨⟨w3,hb3⟩,rfl⟩:=hw'
    go_wp2
    go_ret2
    exact ⟨by rw [hpl.out,HI2.out];rfl,HBE.out _ (HA.out.bel.trans (hb3.mono HSZ.out))⟩
end Go.Proofs.YtdegffffcbhjbaaGreatDoor.Un.En
end
section
namespace Go.Proofs.YtdegffffcbhjbaaGreatDoor.Un.En
open Go.RowKit
theorem gen_info:(Tryz.prog.info? 188).map (fun i=>(i.zero,i.size,i.bytes))=some (some (.agg #[.string ⟨#[]⟩,.string ⟨#[]⟩]),2,32):=by kernel_rfl
theorem gen_length (L:List Ent):(flat encE L).length=L.length * 2:=flat_length L
theorem gen_take (L:List Ent) (k:Nat):flat encE (L.take k)=(flat encE L).take (k * 2):=flat_take L k
theorem gen_drop (L:List Ent) (k:Nat):flat encE (L.drop k)=(flat encE L).drop (k * 2):=flat_drop L k
def RowTold (w:World) (L:List Ent) (e:Ending) (w':World):Prop:=∃ v,e=.returned v∧w'.ownsRow w.heap.size 188 2 v L.length (flat encE L)∧Below w.heap.size w w'
end Go.Proofs.YtdegffffcbhjbaaGreatDoor.Un.En
end
section
namespace Go.Proofs.YtdegffffcbhjbaaGreatDoor
open Go.RowKit
section
variable {P:Program}
theorem run_copyK (w:World) (dT sT ty elem:TypeId) (g o dLen dCap:Nat) (a:Addr) (sLen sCap:Nat) (cur:Array Value) (t:TypeId) (cs:List Value) (k:Nat)
 (hu:P.underlying dT=some (.slice elem)) (hs:(P.info? elem).map (·.size)=some k)
 (hg:w.heap[g]?=some (.cells cur t (0,0))) (hn:cs.length=Nat.min sLen dLen * k)
 (hsrc:∀ j v,cs[j]?=some v→w.cell? (a.add j)=some v) (hfit:o+cs.length≤cur.size) (h1:∀ v∈cs,v.oneCell'=true) :
 (Builtin.copy_ #[dT,sT] ty #[.slice (some ⟨g,o,none⟩) dLen dCap,.slice (some a) sLen sCap]).run P w =
  .ok (goInt (Nat.min sLen dLen)) (w.setRow g (cur.toList.take o++cs++cur.toList.drop (o+cs.length)).toArray):=by
 have hl:=run_loadCells_list (P:=P) w a cs hsrc
 have hst:=run_storeCells_at P g o t cs 0 cur w hg (by simpa using hfit) h1
 cases hq:P.info? elem with
 | none=>simp [hq] at hs
 | some i =>
   have hi:i.size=k:=by simpa [hq] using hs
   simp [Builtin.copy_,run_underlying hu,Builtin.lenOf,Builtin.firstCells,sizeOf,typeInfo,hq,hi,←hn,hl,hst]
theorem grownBy_row (w:World) (g:Nat) (cs:Array Value):w.grownBy (w.setRow g cs) (some g) :=
 ⟨rfl,rfl,rfl,by simp [World.setRow],fun k _ hk=>setRow_other w g k cs (fun e=>hk (by rw [e]))⟩
theorem wpList_copyK {w:World} {ops:Array Oper} {rest:List Oper} {o:Oper} {a:Act} {Q:Exit→Act→World→Prop} (hgd:o.guard=none) (d s:Operand) (dT sT:TypeId)
 (ho:o.op=.call { callee:=.builtin .copy,args:=#[d,s],argTypes:=#[dT,sT] }) (elem:TypeId) (hu:P.underlying dT=some (.slice elem)) (k:Nat) (hsz:(P.info? elem).map (·.size)=some k)
 (dp sp:Option Addr) (dLen dCap sLen sCap:Nat) (hd:a.eval d=.slice dp dLen dCap) (hs:a.eval s=.slice sp sLen sCap)
 (g off:Nat) (cur:List Value) (t:TypeId) (hg:w.heap[g]?=some (.cells cur.toArray t (0,0))) (cs:List Value) (m:Nat) (hm:Nat.min sLen dLen=m) (hn:cs.length=m * k)
 (hdp:dp=some ⟨g,off,none⟩) (ad:Addr) (hsp:sp=some ad) (hsrc:∀ j v,cs[j]?=some v→w.cell? (ad.add j)=some v)
 (hfit:off+cs.length≤cur.length) (h1:∀ v∈cs,v.oneCell'=true)
 (h:∀ w',Hid (w'.heap[g]?=some (.cells (splice cur off cs).toArray t (0,0)))→w.grownBy w' (some g)→wpList P ops Q rest (a.put o.dst (goInt m)) w') :
 wpList P ops Q (o::rest) a w:=by
 subst hdp hsp hm
 refine wpList_plain hgd fun K hK=>?_
 have hrun:=run_copyK w dT sT o.type elem g off dLen dCap ad sLen sCap cur.toArray t cs k hu hsz hg hn hsrc (by simpa using hfit) h1
 unfold Oper.wp
 simp only [execOp,ho,resolve,invoke,builtin,Sem.run_bind,Sem.run_pure,Result.andThen_ok,List.map_toArray,List.map_cons,List.map_nil,hd,hs,hrun]
 exact hK _ _ (h _ (show _=_ by simpa [splice] using setRow_heap w g _ _ t _ hg) (grownBy_row w g _))
theorem step_copyK {ops:Array Oper} {o:Oper} {a:Act} {w:World} {K:Act→World→Prop} {Q:Exit→Act→World→Prop} {E:Prop} (hgd:o.guard=none) (d s:Operand) (dT sT:TypeId)
 (ho:o.op=.call { callee:=.builtin .copy,args:=#[d,s],argTypes:=#[dT,sT] }) (elem:TypeId) (hu:P.underlying dT=some (.slice elem)) (k:Nat) (hsz:(P.info? elem).map (·.size)=some k)
 (dp sp:Option Addr) (dLen dCap sLen sCap:Nat) (hd:a.eval d=.slice dp dLen dCap) (hs:a.eval s=.slice sp sLen sCap)
 (g off:Nat) (cur:List Value) (t:TypeId) (hg:w.heap[g]?=some (.cells cur.toArray t (0,0))) (cs:List Value) (m:Nat) (hm:Nat.min sLen dLen=m) (hn:cs.length=m * k)
 (hdp:dp=some ⟨g,off,none⟩) (ad:Addr) (hsp:sp=some ad) (hsrc:∀ j v,cs[j]?=some v→w.cell? (ad.add j)=some v)
 (hfit:off+cs.length≤cur.length) (h1:∀ v∈cs,v.oneCell'=true)
 (h:∀ w',Hid (w'.heap[g]?=some (.cells (splice cur off cs).toArray t (0,0)))→w.grownBy w' (some g)→K (a.put o.dst (goInt m)) w') :
 if Region.wanted o (yielded ops a.tmps)=true then Oper.wp P o a w K Q else E:=by
 subst hdp hsp hm
 have hw:Region.wanted o (yielded ops a.tmps)=true:=by simp [Region.wanted,hgd]
 rw [if_pos hw]
 have hrun:=run_copyK w dT sT o.type elem g off dLen dCap ad sLen sCap cur.toArray t cs k hu hsz hg hn hsrc (by simpa using hfit) h1
 unfold Oper.wp
 simp only [execOp,ho,resolve,invoke,builtin,Sem.run_bind,Sem.run_pure,Result.andThen_ok,List.map_toArray,List.map_cons,List.map_nil,hd,hs,hrun]
 exact h _ (show _=_ by simpa [splice] using setRow_heap w g _ _ t _ hg) (grownBy_row w g _)
theorem append_types (w:World) (t tx ty e e':TypeId) (i:TypeInfo) (ht:P.underlying t=some (.slice e)) (hx:P.underlying tx=some (.slice e')) (hi:P.info? e=some i) (base b:Option Addr) (n c m c':Nat) :
 (Builtin.append_ #[t,tx] ty #[.slice base n c,.slice b m c']).run P w=(Builtin.append_ #[t,t] ty #[.slice base n c,.slice b m c']).run P w:=by
 simp [Builtin.append_,run_underlying ht,run_underlying hx,sizeOf,typeInfo,hi]
end
theorem splice_fwd {α:Type} (A X D R:List α) (_h:X.length+D.length≤R.length):splice (splice (A++R) A.length X) (A.length+X.length) D=A++(X++(D++R.drop (X.length+D.length))):=by
 have e1:splice (A++R) A.length X=A++(X++R.drop X.length):=by
  unfold splice
  rw [List.take_left,List.drop_append]
  simp
 rw [e1]
 unfold splice
 rw [←List.append_assoc A X,List.take_append_of_le_length (by simp),List.take_of_length_le (by simp),List.drop_append]
 simp [Nat.add_assoc]
 rw [List.drop_of_length_le (l:=X) (by omega),List.nil_append]
 congr 1
 omega
theorem splice_back {α:Type} (A X D R:List α) (h:X.length+D.length≤R.length):splice (splice (A++R) (A.length+X.length) D) A.length X=A++(X++(D++R.drop (X.length+D.length))):=by
 unfold splice
 have e1:(A++R).take (A.length+X.length)=A++R.take X.length:=by rw [List.take_append,List.take_of_length_le (by omega)];simp
 have e2:(A++R).drop (A.length+X.length+D.length)=R.drop (X.length+D.length):=by rw [List.drop_append];simp [Nat.add_assoc]
 have e3:(R.take X.length).length=X.length:=by simp;omega
 rw [e1,e2,List.append_assoc,List.take_left,List.drop_append]
 simp only [Nat.add_sub_cancel_left]
 rw [List.drop_of_length_le (by omega),List.nil_append,List.drop_append,e3,Nat.sub_self,List.drop_of_length_le (by omega)]
 simp
end Go.Proofs.YtdegffffcbhjbaaGreatDoor
end
section
namespace Go.Proofs.YtdegffffcbhjbaaGreatDoor.Un.En
open Go.RowKit
theorem ins_u:Tryz.prog.underlying 27=some (.slice (Tryz.prog.elem 27)):=by kernel_rfl
theorem ins_s (w:World):(sizeOf (Tryz.prog.elem 27)).run Tryz.prog w=.ok 2 w:=by kernel_rfl
theorem ins_sz:(Tryz.prog.info? 188).map (·.size)=some 2:=by kernel_rfl
theorem ins_size (w:World):(sizeOf 188).run Tryz.prog w=.ok 2 w:=by kernel_rfl
theorem from_at (w:World) (g n c k:Nat) (z:Int) (hz:z=(k:Int)) (hk:k≤n) (hc:k < c):(Instr.slice 27 (.slice (some ⟨g,0,none⟩) n c) (some (.int .i64 z)) none none).run Tryz.prog w=.ok (.slice (some ⟨g,k * 2,none⟩) (n - k) (c - k)) w:=by
 subst hz
 rw [run_slice_l w 27 _ n c ins_u .i64 (k:Int) (by omega) (by omega),ins_s]
 have:¬ c=k:=by omega
 simp [Result.andThen,sliced,this,add_off]
theorem upto_at (w:World) (g n c k:Nat) (z:Int) (hz:z=(k:Int)) (hk:k≤c):(Instr.slice 27 (.slice (some ⟨g,0,none⟩) n c) none (some (.int .i64 z)) none).run Tryz.prog w=.ok (.slice (some ⟨g,0,none⟩) k c) w:=by
 subst hz
 rw [run_slice_h w 27 _ n c ins_u .i64 (k:Int) (by omega) (by omega),ins_s]
 simp [Result.andThen,sliced,Addr.add]
theorem overlaps_no (w:World) (vb g off lb cb:Nat) (x:Ent) (cur:Array Value) (hne:vb≠g) (hx:BoxE encE w vb 188 x) (hg:w.heap[g]?=some (.cells cur 188 (0,0))) (h0:cur.size≠0) :
 (callFunc 165 #[.slice (some ⟨vb,0,none⟩) 1 1,.slice (some ⟨g,off,none⟩) lb cb]).run Tryz.prog w=.ok (.value (.bool false)) w:=by
 unfold BoxE encE at hx
 rw [run_callFunc_extern Tryz.func165 (by kernel_rfl) (by kernel_rfl) (by kernel_rfl) (e:=Extern.SlicesOverlaps.overlaps #[27,27] #[4]) (by kernel_rfl),
  Lib.run_overlaps_apart w 27 4 188 Tryz.underlying27 2 ins_size ⟨vb,0,none⟩ ⟨g,off,none⟩ 1 1 lb cb hne 188 188 2 cur.size (by simp [World.shape?,hx]) (by simp [World.shape?,hg]) h0 (by simp [World.frozen?,hx]) (by simp [World.frozen?,hx])]
 rfl
theorem ins_cells (L:List Ent) (x:Ent) (i:Nat):flat encE (L.take i++x::L.drop i)=(flat encE L).take (i * 2)++((encE.cs x)++(flat encE L).drop (i * 2)):=by
 rw [flat_append,flat_cons,gen_take,gen_drop]
def InsOwn (w:World) (B:Nat) (v0:Value) (M:List Ent) (e:Ending) (w':World):Prop:=∃ v,e=.returned v∧w'.ownsRow B 188 2 v M.length (flat encE M)∧w.grownBy w' v0.ownBlock
theorem grownBy_drewN (w:World) (q:Nat) (row:Option Nat):w.grownBy (w.drewN q) row:=⟨rfl,rfl,rfl,Nat.le_refl _,fun _ _ _=>rfl⟩
theorem grownBy_of_below {w w':World} (h:Below w.heap.size w w') (row:Option Nat):w.grownBy w' row:=⟨h.os,h.tape,h.output,h.size,fun j hj _=>h.block j hj⟩
set_option maxRecDepth 100000 in
set_option maxHeartbeats 4000000 in
theorem insert_end (v:Value) (L:List Ent) (x:Ent) (vb B:Nat) (w:World) (h:w.ownsRow B 188 2 v L.length (flat encE L)) (hB:B≤w.heap.size) (hx:BoxE encE w vb 188 x) (hL:L.length≤1000) :
 Calls Tryz.prog 148 #[v,.int .i64 (L.length:Int),.slice (some ⟨vb,0,none⟩) 1 1] w (InsOwn w B v (L.take L.length++x::L.drop L.length)):=by
 have HM:Hid (L.take L.length++x::L.drop L.length=L++[x]):=Lib.hid (by simp)
 rw [HM.out]
 obtain ⟨i0,hi,hz0,hz1,hz2⟩:=info_parts gen_info
 have hcx:∀ (j:Nat) u,(encE.cs x)[j]?=some u→w.cell? ((⟨vb,0,none⟩:Addr).add j)=some u:=fun j u hj=>by rw [add_off];exact hx.at0 j u hj
 have HOW:=Lib.hid h
 have hv:∃ p c,v=.slice p L.length c∧L.length≤c∧c≤maxLen∧(p=none→c=0)∧(∀ a,p=some a→∃ g,a=⟨g,0,none⟩):=by
  rcases h.2 with ⟨rfl,hn⟩ | ⟨g,cap,cur,rfl,_,_,hnc,hcm,_⟩
  ·exact ⟨none,0,by rw [hn],by omega,by simp,fun _=>rfl,fun a e=>by cases e⟩
  ·exact ⟨_,cap,rfl,hnc,hcm,(fun e=>by cases e),fun a e=>by cases e;exact ⟨g,rfl⟩⟩
 obtain ⟨p,c,rfl,hnc,hcm,hpn,hps⟩:=hv
 obtain ⟨v',w',hr,h2,h3,_⟩:=run_append_own (P:=Tryz.prog) w B 27 27 188 i0 _ 2 32 Tryz.underlying27 hi hz0 hz1 hz2 rfl (by decide) _ _ _ h ⟨vb,0,none⟩ 1 1 (encE.cs x) rfl hcx (encE.one x) (by unfold maxLen;omega) (by omega) hB
 have hra:(Builtin.append_ #[27,27] 27 #[.slice p L.length c,.slice (some ⟨vb,0,none⟩) 1 1]).run Tryz.prog w=.ok v' w':=by
  rw [append_types w _ _ _ _ _ i0 Tryz.underlying27 Tryz.underlying27 hi];exact hr
 have HRA:=Lib.hid hra
 have HCV:Hid (w'.ownsRow B 188 2 v' (L++[x]).length (flat encE (L++[x]))):=Lib.hid (by
  have:w'.ownsRow B 188 2 v' (L++[x]).length (flat encE (L++[x])):=by
   rw [List.length_append,flat_append,show flat encE [x]=encE.cs x from flat_one x];exact h2
  exact this)
 have HBL:=Lib.hid h3
 obtain ⟨n,hn⟩:∃ n,L.length=n:=⟨_,rfl⟩
 rw [hn] at HRA hL hnc ⊢
 unfold maxLen at hcm
 clear hr h2 h3 hra h HOW hn hi hz0 hz1 hz2 hcx
 cases p with
 | none =>
   have hc0:=hpn rfl
   obtain rfl:n=0:=by omega
   subst hc0
   go_enter Tryz.func148,Tryz.ntmps148
   go_wp2_with (at_builtin;refine Lib.wpList_append_run _ rfl _ _ _ _ rfl _ _ rfl rfl v' w' HRA.out ?_)
   go_ret
   exact ⟨v',rfl,HCV.out,HBL.out⟩
 | some a =>
   obtain ⟨g,rfl⟩:=hps a rfl
   have hnn:(n:Int)≤(n:Int):=Int.le_refl _
   by_cases hcn:c=n
   ·subst hcn
    go_enter Tryz.func148,Tryz.ntmps148
    go_wp2_with (at_builtin;refine Lib.wpList_append_run _ rfl _ _ _ _ rfl _ _ rfl rfl v' w' HRA.out ?_)
    go_ret
    exact ⟨v',rfl,HCV.out,HBL.out⟩
   ·have e1:=from_at (z:=(n:Int)) (g:=g) (n:=n) (c:=c) (k:=n) (hz:=rfl) (hk:=Nat.le_refl _) (hc:=by omega)
    go_enter Tryz.func148,Tryz.ntmps148
    go_wp2_with (at_builtin;refine Lib.wpList_append_run _ rfl _ _ _ _ rfl _ _ rfl rfl v' w' HRA.out ?_)
    go_ret
    exact ⟨v',rfl,HCV.out,HBL.out⟩
set_option maxRecDepth 100000 in
set_option maxHeartbeats 4000000 in
theorem insert_room (g cap:Nat) (cur:Array Value) (L:List Ent) (x:Ent) (i vb B:Nat) (w:World) (hBg:B≤g) (hg:w.heap[g]?=some (.cells cur 188 (0,0))) (hcap:cap≤maxLen) (hcs:cur.size=cap * 2) (htk:cur.toList.take (L.length * 2)=flat encE L)
 (hx:BoxE encE w vb 188 x) (hne:vb≠g) (hi:i < L.length) (hr:L.length+1≤cap) :
 Calls Tryz.prog 148 #[.slice (some ⟨g,0,none⟩) L.length cap,.int .i64 (i:Int),.slice (some ⟨vb,0,none⟩) 1 1] w (InsOwn w B (.slice (some ⟨g,0,none⟩) L.length cap) (L.take i++x::L.drop i)):=by
 obtain ⟨M,hM⟩:∃ M,L.take i++x::L.drop i=M:=⟨_,rfl⟩
 obtain ⟨n,hn⟩:∃ n,L.length=n:=⟨_,rfl⟩
 have hML:M.length=n+1:=by rw [←hM,←hn];simp;omega
 obtain ⟨A,hA⟩:∃ A,(flat encE L).take (i * 2)=A:=⟨_,rfl⟩
 obtain ⟨D,hD⟩:∃ D,(flat encE L).drop (i * 2)=D:=⟨_,rfl⟩
 have hFM:flat encE M=A++((encE.cs x)++D):=by rw [←hM,ins_cells,hA,hD]
 have hFL:flat encE L=A++D:=by rw [←hA,←hD,List.take_append_drop]
 have hFlen:=gen_length L
 rw [hn] at hFlen htk hi hr ⊢
 have hAl:A.length=i * 2:=by rw [←hA,List.length_take,hFlen];omega
 have hDl:D.length=(n - i) * 2:=by rw [←hD,List.length_drop,hFlen];omega
 obtain ⟨S,hS⟩:∃ S,cur.toList.drop (n * 2)=S:=⟨_,rfl⟩
 have hcur:cur.toList=A++(D++S):=by rw [←List.take_append_drop (n * 2) cur.toList,htk,hS,hFL,List.append_assoc]
 have hSl:S.length=(cap - n) * 2:=by rw [←hS,List.length_drop,Array.length_toList,hcs];omega
 have hXl:(encE.cs x).length=2:=rfl
 have hg':w.heap[g]?=some (.cells (A++(D++S)).toArray 188 (0,0)):=by rw [←hcur];simpa using hg
 have hDone:∀ v∈D,v.oneCell'=true:=fun v hv=>flat_ones L v (by rw [hFL];simp [hv])
 have HG:=Lib.hid hg'
 have HX:=Lib.hid hx
 have HM:=Lib.hid hM
 have HOV:=Lib.hid (fun off lb cb=>overlaps_no w vb g off lb cb x cur hne hx hg (by rw [hcs];omega))
 have HSRC:Hid (∀ (w':World),w'.heap[g]?=w.heap[g]?→∀ (j:Nat) v,D[j]?=some v→w'.cell? ((⟨g,i * 2,none⟩:Addr).add j)=some v):=Lib.hid (fun w' hw' j v hj=>by
  rw [add_off,cell_of_row _ g (i * 2+j) _ 188 (0,0) (hw'.trans hg')]
  simp only [List.getElem?_toArray]
  rw [←hAl,List.getElem?_append_right (by omega),Nat.add_sub_cancel_left,List.getElem?_append_left (List.getElem?_eq_some_iff.1 hj).1]
  exact hj)
 have HL:=Lib.hid (And.intro hML (And.intro hFM (And.intro hAl (And.intro hDl (And.intro hSl hDone)))))
 rw [hM]
 unfold maxLen at hcap
 have e0:=fun wq=>from_at (w:=wq) (z:=(i:Int)) (g:=g) (n:=n) (c:=cap) (k:=i) (hz:=rfl) (hk:=by omega) (hc:=by omega)
 have e1:=fun wq=>upto_at (w:=wq) (z:=(n:Int)+1) (g:=g) (n:=n) (c:=cap) (k:=n+1) (hz:=by omega) (hk:=by omega)
 have e2:=fun wq=>from_at (w:=wq) (z:=(i:Int)+1) (g:=g) (n:=n+1) (c:=cap) (k:=i+1) (hz:=by omega) (hk:=by omega) (hc:=by omega)
 have e3:=fun wq=>from_at (w:=wq) (z:=(i:Int)) (g:=g) (n:=n+1) (c:=cap) (k:=i) (hz:=rfl) (hk:=by omega) (hc:=by omega)
 have hz1:¬ ((i:Int)=(n:Int)):=by omega
 have hz2:¬ ((cap:Int) < (n:Int)+1):=by omega
 have hw1:IntKind.i64.wrap ((i:Int)+1)=(i:Int)+1:=by rw [IntKind.wrap_i64];omega
 have hov:=HOV.out
 clear hFlen hcur hS hFL hA hD hn hM hML hFM hAl hDl hSl hXl hg hg' hDone htk hcs hx HOV
 go_enter Tryz.func148,Tryz.ntmps148
 go_wp2_with (simp only [hov])
 go_region_law (refine step_copyK rfl (.tmp 73) (.tmp 76) 27 27 rfl 188 Tryz.underlying27 2 ins_sz (some ⟨g,(i+1) * 2,none⟩) (some ⟨g,i * 2,none⟩) (n+1 - (i+1)) (cap - (i+1)) (n+1 - i) (cap - i) (by simp [Act.eval,Act.put]) (by simp [Act.eval,Act.put]) g ((i+1) * 2) (A++(D++S)) 188 HG.out D (n - i) (by simp only [Nat.min_def];split <;> omega) HL.out.2.2.2.1 rfl ⟨g,i * 2,none⟩ rfl (HSRC.out _ rfl) (by have h:=HL.out;simp only [List.length_append];omega) HL.out.2.2.2.2.2 ?_;intro w1 hg1 hgr1)
 have HG1:=Lib.hid hg1.out
 have HGR1:=Lib.hid hgr1
 have HX1:Hid (BoxE encE w1 vb 188 x):=Lib.hid (by
  have hb:=HX.out
  have hlt:vb < w.heap.size:=(Array.getElem?_eq_some_iff.1 hb).1
  exact (hgr1.block vb hlt (fun e=>hne (Option.some.inj e))).trans hb)
 clear hg1 hgr1
 go_wp2_with (refine wpList_copyK rfl (.tmp 80) (.tmp 81) 27 27 rfl 188 Tryz.underlying27 2 ins_sz _ _ _ _ _ _ rfl rfl g (i * 2) (splice (A++(D++S)) ((i+1) * 2) D) 188 HG1.out (encE.cs x) 1 (by simp only [Nat.min_def];split <;> omega) rfl rfl ⟨vb,0,none⟩ rfl (fun j u hj=>by rw [add_off];exact HX1.out.at0 j u hj) (by have h:=HL.out;rw [length_splice _ _ _ (by simp only [List.length_append];omega)];simp only [List.length_append];show _+2≤_;omega) (encE.one x) ?_;intro w2 hg2 hgr2)
 have HF:Hid (w2.ownsRow B 188 2 (.slice (some ⟨g,0,none⟩) (n+1) cap) M.length (flat encE M)):=Lib.hid (by
  obtain ⟨hML,hFM,hAl,hDl,hSl,_⟩:=HL.out
  have hsp:splice (splice (A++(D++S)) ((i+1) * 2) D) (i * 2) (encE.cs x)=A++((encE.cs x)++(D++(D++S).drop (2+D.length))):=by
   rw [show (i+1) * 2=A.length+(encE.cs x).length by rw [hAl];show _=_+2;omega,show i * 2=A.length from hAl.symm]
   exact splice_back A (encE.cs x) D (D++S) (by simp only [List.length_append];show 2+_≤_;omega)
  have hh:=hg2.out
  rw [hsp] at hh
  have own:w2.ownsRow B 188 2 (.slice (some ⟨g,0,none⟩) M.length cap) M.length (flat encE M):=by
   refine ⟨gen_length M,.inr ⟨g,cap,_,rfl,hBg,hh,by omega,by unfold maxLen;omega,?_,?_⟩⟩
   ·simp only [List.size_toArray,List.length_append,List.length_drop]
    show _+(2+_)=_
    omega
   ·rw [hFM,hML]
    have:(A++((encE.cs x)++D)).length=(n+1) * 2:=by simp only [List.length_append];show _+(2+_)=_;omega
    rw [←this,show A++((encE.cs x)++(D++(D++S).drop (2+D.length)))=(A++((encE.cs x)++D))++(D++S).drop (2+D.length) by simp]
    exact List.take_left
  rw [←hML]
  exact own)
 have HBL:Hid (w.grownBy w2 (some g)):=Lib.hid (((grownBy_drewN w 1 (some g)).trans HGR1.out).trans hgr2)
 clear hg2 hgr2
 go_ret
 exact ⟨_,rfl,HF.out,HBL.out⟩
set_option maxRecDepth 100000 in
set_option maxHeartbeats 4000000 in
theorem insert_grow (g cap:Nat) (cur:Array Value) (L:List Ent) (x:Ent) (i vb B:Nat) (w:World) (hg:w.heap[g]?=some (.cells cur 188 (0,0))) (hcap:cap≤maxLen) (hcs:cur.size=cap * 2) (htk:cur.toList.take (L.length * 2)=flat encE L)
 (hB:B≤w.heap.size) (hx:BoxE encE w vb 188 x) (hi:i < L.length) (hnc:L.length≤cap) (hr:cap < L.length+1) (hL:L.length≤1000) :
 Calls Tryz.prog 148 #[.slice (some ⟨g,0,none⟩) L.length cap,.int .i64 (i:Int),.slice (some ⟨vb,0,none⟩) 1 1] w (InsOwn w B (.slice (some ⟨g,0,none⟩) L.length cap) (L.take i++x::L.drop i)):=by
 obtain ⟨M,hM⟩:∃ M,L.take i++x::L.drop i=M:=⟨_,rfl⟩
 obtain ⟨n,hn⟩:∃ n,L.length=n:=⟨_,rfl⟩
 have hML:M.length=n+1:=by rw [←hM,←hn];simp;omega
 obtain ⟨A,hA⟩:∃ A,(flat encE L).take (i * 2)=A:=⟨_,rfl⟩
 obtain ⟨D,hD⟩:∃ D,(flat encE L).drop (i * 2)=D:=⟨_,rfl⟩
 have hFM:flat encE M=A++((encE.cs x)++D):=by rw [←hM,ins_cells,hA,hD]
 have hFL:flat encE L=A++D:=by rw [←hA,←hD,List.take_append_drop]
 have hFlen:=gen_length L
 rw [hn] at hFlen htk hi hr hnc hL ⊢
 obtain rfl:cap=n:=by omega
 have hAl:A.length=i * 2:=by rw [←hA,List.length_take,hFlen];omega
 have hDl:D.length=(cap - i) * 2:=by rw [←hD,List.length_drop,hFlen];omega
 have hcur:cur.toList=A++D:=by rw [←hFL,←htk,List.take_of_length_le (by rw [Array.length_toList,hcs];exact Nat.le_refl _)]
 have hg':w.heap[g]?=some (.cells (A++D).toArray 188 (0,0)):=by rw [←hcur];simpa using hg
 have hDone:∀ v∈D,v.oneCell'=true:=fun v hv=>flat_ones L v (by rw [hFL];simp [hv])
 obtain ⟨i0,hi0,hz0,hz1,hz2⟩:=info_parts gen_info
 have hgl:g < w.heap.size:=(Array.getElem?_eq_some_iff.1 hg).1
 have hvl:vb < w.heap.size:=(Array.getElem?_eq_some_iff.1 hx).1
 have hAt:∀ (j:Nat) v,A[j]?=some v→w.cell? ((⟨g,0,none⟩:Addr).add j)=some v:=fun j v hj=>by
  rw [add_off,Nat.zero_add,cell_of_row _ g j _ 188 (0,0) hg']
  simp only [List.getElem?_toArray]
  rw [List.getElem?_append_left (List.getElem?_eq_some_iff.1 hj).1];exact hj
 have hold:(Builtin.firstCells i0.size i (.slice (some ⟨g,0,none⟩) i cap)).run Tryz.prog w.drew=.ok A.toArray w.drew:=by
  rw [hz1];exact run_firstCells_some w.drew 2 i ⟨g,0,none⟩ i cap A hAl hAt
 have hk:i+(cap+1 - i)=cap+1:=by omega
 have hrz:∀ ty,(Builtin.append_ #[27,3] ty #[.slice (some ⟨g,0,none⟩) i cap,.int .i64 ((cap+1 - i:Nat):Int)]).run Tryz.prog w=_:=fun ty =>
  Lib.run_append_grow_zeros w 27 3 ty 188 i0 _ .i64 .i64 Tryz.underlying27 Tryz.underlying3 hi0 hz0 (some ⟨g,0,none⟩) i cap A hold (cap+1 - i) (by omega) (by omega) (by omega) (by omega) (by rw [hz2];omega) (by rw [hz2,hk];exact growslice_fits (by omega) (by omega))
 rw [hk] at hrz
 obtain ⟨G,hG⟩:∃ G,grownCap w (cap+1) cap 188=G:=⟨_,rfl⟩
 have hGge:cap+1≤G:=by rw [←hG];exact grownCap_ge w _ _ _
 have hGle:G≤maxLen:=by rw [←hG];exact grownCap_le_maxLen w _ _ _ (by unfold maxLen;omega)
 rw [hG] at hrz
 obtain ⟨Z,hZ⟩:∃ Z:List Value,(Builtin.zeroCells (Value.agg #[.string ⟨#[]⟩,.string ⟨#[]⟩]).cells (cap+1 - i)++Builtin.zeroCells (Value.agg #[.string ⟨#[]⟩,.string ⟨#[]⟩]).cells (G - (cap+1))).toList=Z:=⟨_,rfl⟩
 have hZl:Z.length=(cap+1 - i) * 2+(G - (cap+1)) * 2:=by rw [←hZ];simp [Builtin.zeroCells,Value.cells]
 obtain ⟨W1,hW1⟩:∃ W1,w.drew.alloc (.cells (A++Z).toArray 188)=W1:=⟨_,rfl⟩
 have hrow:(A.toArray++Builtin.zeroCells (Value.agg #[.string ⟨#[]⟩,.string ⟨#[]⟩]).cells (cap+1 - i)++Builtin.zeroCells (Value.agg #[.string ⟨#[]⟩,.string ⟨#[]⟩]).cells (G - (cap+1)))=(A++Z).toArray:=by
  rw [←hZ];apply Array.ext';simp
 rw [hrow,hW1] at hrz
 have hG1:W1.heap[w.heap.size]?=some (.cells (A++Z).toArray 188 (0,0)):=by rw [←hW1];exact heap_alloc_new w.drew _
 have hB1:Below w.heap.size w W1:=by rw [←hW1];exact (below_drewN (Below.refl w.heap.size w) 1).alloc (Nat.le_refl _) _
 have HG1:=Lib.hid hG1
 have HB1:=Lib.hid hB1
 have HX1:Hid (BoxE encE W1 vb 188 x):=Lib.hid (hx.keep hB1 hvl)
 have HGO:Hid (W1.heap[g]?=some (.cells (A++D).toArray 188 (0,0))):=Lib.hid ((hB1.block g hgl).trans hg')
 have HL:=Lib.hid (And.intro hML (And.intro hFM (And.intro hAl (And.intro hDl (And.intro hZl hDone)))))
 have HRZ:=Lib.hid (hrz 27)
 rw [hM]
 unfold maxLen at hcap hGle
 have hki:((cap:Int)+1 - (i:Int))=((cap+1 - i:Nat):Int):=by omega
 have HKI:=Lib.hid hki
 have e0:=fun wq=>from_at (w:=wq) (z:=(i:Int)) (g:=g) (n:=cap) (c:=cap) (k:=i) (hz:=rfl) (hk:=by omega) (hc:=by omega)
 have e1:=fun wq=>upto_at (w:=wq) (z:=(i:Int)) (g:=g) (n:=cap) (c:=cap) (k:=i) (hz:=rfl) (hk:=by omega)
 have e2:=fun wq=>from_at (w:=wq) (z:=(i:Int)+1) (g:=w.heap.size) (n:=cap+1) (c:=G) (k:=i+1) (hz:=by omega) (hk:=by omega) (hc:=by omega)
 have e3:=fun wq=>from_at (w:=wq) (z:=(i:Int)) (g:=w.heap.size) (n:=cap+1) (c:=G) (k:=i) (hz:=rfl) (hk:=by omega) (hc:=by omega)
 have hz1':¬ ((i:Int)=(cap:Int)):=by omega
 have hz2':((cap:Int) < (cap:Int)+1):=by omega
 have hw1:IntKind.i64.wrap ((i:Int)+1)=(i:Int)+1:=by rw [IntKind.wrap_i64];omega
 have HGL:=Lib.hid hgl
 clear hFlen hcur hFL hA hD hn hM hML hFM hAl hDl hg hg' hDone htk hcs hx hZ hZl hW1 hrow hrz hG1 hB1 hG hold hAt hi0 hz0 hz1 hz2 hk hki hgl hvl
 go_enter Tryz.func148,Tryz.ntmps148
 go_wp2_with (first
  | (at_builtin;refine Lib.wpList_append_run _ rfl _ _ _ _ rfl _ _ rfl rfl _ W1 (by rw [HKI.out];exact HRZ.out) ?_)
  | (refine wpList_copyK rfl (.tmp 43) (.tmp 44) 27 27 rfl 188 Tryz.underlying27 2 ins_sz _ _ _ _ _ _ rfl rfl w.heap.size (i * 2) (A++Z) 188 HG1.out (encE.cs x) 1 (by simp only [Nat.min_def];split <;> omega) rfl rfl ⟨vb,0,none⟩ rfl (fun j u hj=>by rw [add_off];exact HX1.out.at0 j u hj) (by have h:=HL.out;simp only [List.length_append];show _+2≤_;omega) (encE.one x) ?_;intro w2 hg2 hgr2))
 have HG2:=Lib.hid hg2.out
 have HGR2:=Lib.hid hgr2
 have HGO2:Hid (w2.heap[g]?=some (.cells (A++D).toArray 188 (0,0))):=Lib.hid ((hgr2.block g (Nat.lt_of_lt_of_le HGL.out HB1.out.size) (fun e=>by have:=Option.some.inj e;have:=HGL.out;omega)).trans HGO.out)
 have HSRC:Hid (∀ (j:Nat) v,D[j]?=some v→w2.cell? ((⟨g,i * 2,none⟩:Addr).add j)=some v):=Lib.hid (fun j v hj=>by
  rw [add_off,cell_of_row _ g (i * 2+j) _ 188 (0,0) HGO2.out]
  simp only [List.getElem?_toArray]
  rw [←HL.out.2.2.1,List.getElem?_append_right (by omega),Nat.add_sub_cancel_left]
  exact hj)
 clear hg2 hgr2
 go_region_law (refine step_copyK rfl (.tmp 50) (.tmp 53) 27 27 rfl 188 Tryz.underlying27 2 ins_sz (some ⟨w.heap.size,(i+1) * 2,none⟩) (some ⟨g,i * 2,none⟩) (cap+1 - (i+1)) (G - (i+1)) (cap - i) (cap - i) (by simp [Act.eval,Act.put]) (by simp [Act.eval,Act.put]) w.heap.size ((i+1) * 2) (splice (A++Z) (i * 2) (encE.cs x)) 188 HG2.out D (cap - i) (by simp only [Nat.min_def];split <;> omega) HL.out.2.2.2.1 rfl ⟨g,i * 2,none⟩ rfl HSRC.out (by have h:=HL.out;rw [length_splice _ _ _ (by simp only [List.length_append];show _+2≤_;omega)];simp only [List.length_append];omega) HL.out.2.2.2.2.2 ?_;intro w3 hg3 hgr3)
 have HF:Hid (w3.ownsRow B 188 2 (.slice (some ⟨w.heap.size,0,none⟩) (cap+1) G) M.length (flat encE M)):=Lib.hid (by
  obtain ⟨hML,hFM,hAl,hDl,hZl,_⟩:=HL.out
  have hsp:splice (splice (A++Z) (i * 2) (encE.cs x)) ((i+1) * 2) D=A++((encE.cs x)++(D++Z.drop (2+D.length))):=by
   rw [show (i+1) * 2=A.length+(encE.cs x).length by rw [hAl];show _=_+2;omega,show i * 2=A.length from hAl.symm]
   exact splice_fwd A (encE.cs x) D Z (by show 2+_≤_;omega)
  have hh:=hg3.out
  rw [hsp] at hh
  have own:w3.ownsRow w.heap.size 188 2 (.slice (some ⟨w.heap.size,0,none⟩) M.length G) M.length (flat encE M):=by
   refine ⟨gen_length M,.inr ⟨w.heap.size,G,_,rfl,Nat.le_refl _,hh,by omega,by unfold maxLen;omega,?_,?_⟩⟩
   ·simp only [List.size_toArray,List.length_append,List.length_drop]
    show _+(2+_)=_
    omega
   ·rw [hFM,hML]
    have:(A++((encE.cs x)++D)).length=(cap+1) * 2:=by simp only [List.length_append];show _+(2+_)=_;omega
    rw [←this,show A++((encE.cs x)++(D++Z.drop (2+D.length)))=(A++((encE.cs x)++D))++Z.drop (2+D.length) by simp]
    exact List.take_left
  rw [←hML]
  exact row_base own hB)
 have HBL:Hid (w.grownBy w3 (some g)):=Lib.hid (((grownBy_of_below HB1.out (some g)).andThen HGR2.out (fun j hj=>.inl (by cases hj;exact Nat.le_refl _))).andThen ((grownBy_drewN w2 1 (some w.heap.size)).trans hgr3) (fun j hj=>.inl (by cases hj;exact Nat.le_refl _)))
 clear hg3 hgr3
 go_wp2
 go_ret
 exact ⟨_,rfl,HF.out,HBL.out⟩
theorem insert_own (v:Value) (L:List Ent) (x:Ent) (i vb B:Nat) (w:World) (h:w.ownsRow B 188 2 v L.length (flat encE L)) (hB:B≤w.heap.size) (hx:BoxE encE w vb 188 x) (hne:v.ownBlock≠some vb) (hi:i≤L.length) (hL:L.length≤1000) :
 Calls Tryz.prog 148 #[v,.int .i64 (i:Int),.slice (some ⟨vb,0,none⟩) 1 1] w (InsOwn w B v (L.take i++x::L.drop i)):=by
 by_cases hie:i=L.length
 ·subst hie;exact insert_end v L x vb B w h hB hx hL
 ·rcases h.2 with ⟨rfl,hn⟩ | ⟨g,cap,cur,rfl,hBg,hg,hnc,hcm,hcs,htk⟩
  ·omega
  ·by_cases hr:L.length+1≤cap
   ·exact insert_room g cap cur L x i vb B w hBg hg hcm hcs htk hx (fun e=>hne (by rw [e];rfl)) (by omega) hr
   ·exact insert_grow g cap cur L x i vb B w hg hcm hcs htk hB hx (by omega) hnc (by omega) hL
end Go.Proofs.YtdegffffcbhjbaaGreatDoor.Un.En
end
section
namespace Go.Proofs.YtdegffffcbhjbaaGreatDoor.Un.En
open Go.RowKit
theorem row_slice9 {W:World} {B:Nat} {e:TypeId} {s:Nat} {v:Value} {n:Nat} {xs:List Value} (h:W.ownsRow B e s v n xs):∃ a c,v=.slice a n c:=by
 rcases h.2 with ⟨rfl,rfl⟩ | ⟨g,cap,cur,rfl,_⟩
 ·exact ⟨none,0,rfl⟩
 ·exact ⟨_,_,rfl⟩
def PutTold (w:World) (B:Nat) (v:Value) (M:List Ent) (n m:Nat) (e:Ending) (w':World):Prop :=
 ∃ p9 n9 c9,e=.returned (.tuple #[.slice p9 n9 c9,.int .i64 (if m≤n then 4 else 0)])∧w.grownBy w' v.ownBlock∧(¬ m≤n→w'.ownsRow B 188 2 (.slice p9 n9 c9) M.length (flat encE M))
set_option maxRecDepth 100000 in
set_option maxHeartbeats 4000000 in
theorem put_any (v:Value) (L:List Ent) (x:Ent) (m B:Nat) (w:World) (h:w.ownsRow B 188 2 v L.length (flat encE L)) (hB:B≤w.heap.size) (hr:G.riseK Ent.code L=true) (hL:L.length≤1000) :
 Calls Tryz.prog 108 #[v,aggE x,.int .i64 (m:Int),.func (.func 109) #[] #[]] w (PutTold w B v (G.insK Ent.code L x) L.length m):=by
 have HB0:=Lib.hid ((Below.refl w.heap.size w).alloc (Nat.le_refl _) (.cells (encE.cs x).toArray 188))
 have HX0:=Lib.hid (BoxE.new encE w x 188)
 have HO0:=Lib.hid (h.alloc (.cells (encE.cs x).toArray 188))
 have HV0:=Lib.hid (els_of_own HO0.out)
 have hlt:∀ g,v.ownBlock=some g→g < w.heap.size:=fun g e=>(h.lt g e).2
 have HLT:=Lib.hid hlt
 have hv:∃ p c,v=.slice p L.length c∧L.length≤c∧c≤maxLen:=by
  obtain ⟨p,c,e,h1,h2,_⟩:=els_of_own h
  exact ⟨p,c,e,h1,h2⟩
 obtain ⟨p,c,rfl,hcap,hcm⟩:=hv
 have HR:=Lib.hid hr
 have HL:=Lib.hid hL
 have HSE:=Lib.hid (search_any (.slice p L.length c) L x (w.alloc (.cells (encE.cs x).toArray 188)) HV0.out hr hL)
 have HPL:=Lib.hid (G.placeK_le (key:=Ent.code) L (Ent.code x))
 have hins:G.insK Ent.code L x=L.take (G.placeK Ent.code L (Ent.code x))++x::L.drop (G.placeK Ent.code L (Ent.code x)):=rfl
 obtain ⟨M,hM⟩:∃ M,G.insK Ent.code L x=M:=⟨_,rfl⟩
 obtain ⟨pl,hpl⟩:∃ pl,G.placeK Ent.code L (Ent.code x)=pl:=⟨_,rfl⟩
 obtain ⟨is,his⟩:∃ is,G.isK Ent.code L (Ent.code x)=is:=⟨_,rfl⟩
 rw [hM,hpl] at hins
 rw [hpl,his] at HSE
 rw [hpl] at HPL
 rw [hM]
 have HM:=Lib.hid hins
 obtain ⟨n,hn⟩:∃ n,L.length=n:=⟨_,rfl⟩
 have HN:=Lib.hid hn
 rw [hn] at HSE hcap hL ⊢
 unfold maxLen at hcm
 clear h hlt hr hpl his hM hins hn
 by_cases hmn:m≤n
 ·have HMN:=Lib.hid hmn
  go_enter Tryz.func108,Tryz.ntmps108
  go_wp2
  go_ret2
  exact ⟨p,n,c,by rw [if_pos HMN.out];rfl,World.grownBy_alloc _ _ _,fun h=>absurd HMN.out h⟩
 ·have HMN:=Lib.hid hmn
  obtain ⟨c0,c1⟩:=ent2 HX0.out.at0
  go_enter Tryz.func108,Tryz.ntmps108
  go_wp2_with fail
  refine HSE.out.mono ?_
  rintro e w2 ⟨rfl,hb2⟩
  have HO2:=Lib.hid (row_below HO0.out hb2)
  have HX2:=Lib.hid (HX0.out.kept hb2)
  have HG2:Hid (w.grownBy w2 (Value.slice p n c).ownBlock):=Lib.hid ((World.grownBy_alloc w _ _).trans (grownBy_of_below hb2 _))
  have HS2:Hid (w.heap.size < w2.heap.size):=Lib.hid (by have:=hb2.size;rw [World.size_alloc] at this;omega)
  clear hb2 c0 c1
  obtain ⟨c0,c1⟩:=ent2 HX2.out.at0
  go_wp2_with fail
  clear c0 c1
  refine (insert_own (.slice p n c) L x pl w2.heap.size B (w2.alloc (.cells (encE.cs x).toArray 188)) (by rw [←HN.out];rw [HN.out] at HO2 ⊢;exact HO2.out.alloc _) (by rw [World.size_alloc];have:=HS2.out;omega) (BoxE.new encE w2 x 188) (fun e=>by have:=HLT.out _ (by rw [HN.out];exact e);have:=HS2.out;omega) HPL.out HL.out).mono ?_
  rintro e w9 ⟨v9,rfl,ho9,hg9⟩
  rw [←HM.out] at ho9
  obtain ⟨p9,c9,rfl⟩:=row_slice9 ho9
  have HO9:=Lib.hid ho9
  have HG9:Hid (w.grownBy w9 (Value.slice p n c).ownBlock):=Lib.hid ((HG2.out.trans (World.grownBy_alloc w2 _ _)).trans hg9)
  clear ho9 hg9
  go_wp2
  go_ret2
  exact ⟨p9,M.length,c9,by rw [if_neg HMN.out];rfl,HG9.out,fun _=>HO9.out⟩
end Go.Proofs.YtdegffffcbhjbaaGreatDoor.Un.En
end
section
namespace Go.Proofs.YtdegffffcbhjbaaGreatDoor.Un
open Go.RowKit
theorem orI_cmp (x y:Lin):orI (Fl.cmpB x.acc y.acc) (Fl.cmpB x.flow y.flow)=cmpN x y:=rfl
theorem two_new (w:World) (x y:Int) (t:TypeId):(w.alloc (.cells #[.int .i64 x,.int .i64 y] t)).cell? ⟨w.heap.size,0,none⟩=some (.int .i64 x)∧(w.alloc (.cells #[.int .i64 x,.int .i64 y] t)).cell? ⟨w.heap.size,1,none⟩=some (.int .i64 y):=by
 constructor
 ·rw [cell_of_row _ w.heap.size 0 _ t (0,0) (heap_alloc_new w _)];rfl
 ·rw [cell_of_row _ w.heap.size 1 _ t (0,0) (heap_alloc_new w _)];rfl
set_option maxHeartbeats 4000000 in
set_option maxRecDepth 100000 in
theorem againstN_any (x y:Lin) (w:World) :
 Calls Tryz.prog 111 #[aggN x,aggN y] w fun e w'=>e=.returned (.int .i64 (cmpN x y))∧Below w.heap.size w w':=by
 have HB:=Lib.hid (((Below.refl w.heap.size w).alloc (Nat.le_refl _) (.cells #[.string x.acc,.string x.flow,.string x.goal] 207)).alloc (by simp) (.cells #[.string y.acc,.string y.flow,.string y.goal] 207))
 obtain ⟨r,hr⟩:∃ r,cmpN x y=r:=⟨_,rfl⟩
 have hA:=orI_cmp x y
 rw [hr] at hA ⊢
 have HA:=Lib.hid hA
 clear hr hA
 obtain ⟨W1,hW1⟩:∃ W1,(w.alloc (.cells #[.string x.acc,.string x.flow,.string x.goal] 207)).alloc (.cells #[.string y.acc,.string y.flow,.string y.goal] 207)=W1:=⟨_,rfl⟩
 obtain ⟨W2,hW2⟩:∃ W2,W1.drew=W2:=⟨_,rfl⟩
 have bx:BoxE encL W2 w.heap.size 207 x:=by
  rw [←hW2,←hW1]
  have hb:=(Below.refl (w.alloc (.cells #[.string x.acc,.string x.flow,.string x.goal] 207)).heap.size (w.alloc (.cells #[.string x.acc,.string x.flow,.string x.goal] 207))).alloc (Nat.le_refl _) (.cells #[.string y.acc,.string y.flow,.string y.goal] 207)
  exact (BoxE.new encL w x 207).kept ⟨hb.os,hb.tape,hb.output,hb.size,hb.block⟩
 have bY:BoxE encL W2 (w.heap.size+1) 207 y:=by
  rw [←hW2,←hW1]
  have:=BoxE.new encL (w.alloc (.cells #[.string x.acc,.string x.flow,.string x.goal] 207)) y 207
  rw [World.size_alloc] at this
  exact this
 have HB2:Hid (Below w.heap.size w W2):=Lib.hid (by
  rw [←hW2,←hW1]
  exact ⟨HB.out.os,HB.out.tape,HB.out.output,HB.out.size,HB.out.block⟩)
 have k0:=bx.at0 0 _ rfl
 have k1:=bx.at0 1 _ rfl
 have k2:=bY.at0 0 _ rfl
 have k3:=bY.at0 1 _ rfl
 simp only [Nat.add_zero] at k0 k1 k2 k3
 clear bx bY HB
 go_enter Tryz.func111,Tryz.ntmps111
 go_wp2_with fail
 refine wp_region_still_tail 10 (by kernel_rfl) (by kernel_rfl) ?_
 simp only [List.take_succ_cons,List.take_zero,List.drop_succ_cons,List.drop_zero]
 rw [show ({ heap:=W1.heap,tape:=W1.tape,drawn:=W1.drawn+1,os:=W1.os,output:=W1.output }:World)=W2 from hW2]
 clear hW1 hW2
 repeat still_step
 still_call (Fl.compare_any _ _ _)
 repeat still_step
 still_call (Fl.compare_any _ _ _)
 refine wpStill_nil ?_
 go_wp2_with (go_at_call 99;refine (cmpOr_any _ _ _ _ (two_new _ _ _ _).1 (two_new _ _ _ _).2).mono ?_;rintro e w' ⟨rfl,rfl⟩)
 go_ret
 exact ⟨by rw [←HA.out];rfl,HB2.out.alloc HB2.out.size _⟩
end Go.Proofs.YtdegffffcbhjbaaGreatDoor.Un
end
