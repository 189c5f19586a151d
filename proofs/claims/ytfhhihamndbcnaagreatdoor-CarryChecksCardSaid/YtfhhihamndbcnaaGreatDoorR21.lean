/- Base FaOpen FaOurs -/
import Derived.Test.YtfhhihamndbcnaaGreatDoorRows
import Derived.Test.YtfhhihamndbcnaaGreatDoorR09
import Derived.Test.YtfhhihamndbcnaaGreatDoorR11
section
namespace Go.Proofs.YtfhhihamndbcnaaGreatDoor
open Go.RowKit
theorem in_of_wf_i64 {a:Int} (h:(Lit.int .i64 a).wf=true):In64 a:=by
 have e1:IntKind.i64.min=-9223372036854775808:=rfl
 have e2:IntKind.i64.max=9223372036854775807:=rfl
 simp [Lit.wf,e1,e2] at h
 exact h
end Go.Proofs.YtfhhihamndbcnaaGreatDoor
end
section
namespace Go.Proofs.YtfhhihamndbcnaaGreatDoor.Fa
open Go.ChangeShapes Go.WideShapes Go.ChangeAt Go.RowKit Go.Deep
set_option maxRecDepth 100000
def encK2:Enc { k:Key // In64 k.m } where
 cs k:=encK.cs k.1
 k:=5
 len k:=encK.len k.1
 pos:=by decide
 one k:=encK.one k.1
section
variable {H:Type} {enc:TypeId × Value→H} {W:World} {base:Nat} {sp:Nat→Bool} {held:Bool}
theorem key_cells (fuel:Nat) (cs:List Value) (x:DataW H × List MemPlace) (h:DataW.trod enc Tryz.prog W base sp held fuel 74 cs=some x):∃ a:{ k:Key // In64 k.m },cs=encK2.cs a:=by
 obtain ⟨xs,n,_,_,hl,hxl,hg⟩:=DataW.trod_struct Tryz.underlying74 h
 have hC:Tryz.prog.cellsOf 74=5:=by kernel_rfl
 have cS:Tryz.prog.cellsOf 9=1:=by kernel_rfl
 have cI:Tryz.prog.cellsOf 3=1:=by kernel_rfl
 match cs,hl.trans hC,xs,hxl with
 | [c0,c1,c2,c3,c4],_,[y0,y1,y2,y3,y4],_ =>
   have g0:=hg 0 _ rfl
   have g1:=hg 1 _ rfl
   have g2:=hg 2 _ rfl
   have g3:=hg 3 _ rfl
   have g4:=hg 4 _ rfl
   simp [cS,cI] at g0 g1 g2 g3 g4
   obtain ⟨s0,e0,_,z0⟩:=DataW.trod_string Tryz.underlying9 g0
   obtain ⟨s1,e1,_,z1⟩:=DataW.trod_string Tryz.underlying9 g1
   obtain ⟨s2,e2,_,z2⟩:=DataW.trod_string Tryz.underlying9 g2
   obtain ⟨s3,e3,_,z3⟩:=DataW.trod_string Tryz.underlying9 g3
   obtain ⟨i4,e4,_,z4⟩:=DataW.trod_int Tryz.underlying3 g4
   simp at e0 e1 e2 e3 e4
   subst e0 e1 e2 e3 e4
   exact ⟨⟨⟨s0,s1,s2,s3,i4⟩,in_of_wf_i64 z4⟩,rfl⟩
end
end Go.Proofs.YtfhhihamndbcnaaGreatDoor.Fa
end
section
namespace Go.Proofs.YtfhhihamndbcnaaGreatDoor.Fa
open Go.RowKit
theorem infoT:InfoE Tryz.prog 41 62 encF:=.of (z:=.agg #[.string ⟨#[]⟩,.string ⟨#[]⟩,.string ⟨#[]⟩,.string ⟨#[]⟩,.int .i64 0,.int .i64 0]) (n:=80) Tryz.underlying41 (by kernel_rfl) rfl (by decide)
set_option maxRecDepth 100000 in
set_option maxHeartbeats 4000000 in
theorem theirs_any (v:Value) (c:List Fact) (w:World) (h:FactsV w v c) (hL:c.length≤100000) :
 Calls Tryz.prog 13 #[v] w fun e' w'=>∃ u,e'=.returned u∧w'.ownsRow w.heap.size 62 6 u c.length (flat encF c)∧Below w.heap.size w w':=by
 have HV:=Lib.hid h
 obtain ⟨p,cp,rfl,hcap,hm,_,_⟩:=h
 obtain ⟨n,hn⟩:∃ n,c.length=n:=⟨_,rfl⟩
 rw [hn] at hcap hL HV ⊢
 have HN:=Lib.hid hn
 unfold maxLen at hm
 clear hn
 go_enter Tryz.func13,Tryz.ntmps13
 go_wp2
 go_loopw [3,8] (fun s3 s8 wr=>∃ i:Nat,s8=.int .i64 (i:Int)∧i≤n∧Hid (wr.ownsRow w.heap.size 62 6 s3 (c.take i).length (flat encF (c.take i)))∧Hid (Below w.heap.size w wr)) (fun _ s8 _=>n - (intOf s8).toNat)
 case atStart=>exact ⟨0,rfl,Nat.zero_le _,World.ownsRow_nil _ _ _ _,Lib.hid (Below.refl _ _)⟩
 case round =>
  obtain ⟨i,rfl,hin,HO,HB⟩:=hrel
  by_cases hlt:i < n
  ·obtain ⟨x,hx⟩:∃ x,c[i]?=some x:=⟨_,List.getElem?_eq_getElem (by rw [HN.out];exact hlt)⟩
   obtain ⟨b,o,rfl,hat⟩:=ElsV.at_ HV.out hx
   obtain ⟨r0,r1,r2,r3,r4,r5⟩:=fact6 (hat.keep HB.out hat.lt)
   simp only [show encF.k=6 from rfl] at r0 r1 r2 r3 r4 r5
   have HTK:Hid (c.take (i+1)=c.take i++[x]):=Lib.hid (by rw [List.take_add_one,hx];rfl)
   have HLI:Hid ((c.take i).length≤i):=Lib.hid (by rw [List.length_take];exact Nat.min_le_left _ _)
   have HB2:Hid (Below w.heap.size w (wr.alloc (.cells #[.string x.key.e,.string x.key.a,.string x.key.f,.string x.key.p,.int .i64 x.key.m,.int .i64 x.amt] 79))):=Lib.hid (HB.out.alloc HB.out.size _)
   have HO2:=Lib.hid (HO.out.alloc (.cells #[.string x.key.e,.string x.key.a,.string x.key.f,.string x.key.p,.int .i64 x.key.m,.int .i64 x.amt] 79))
   clear hx hat
   go_wp2_with (at_builtin;refine wpList_append_el (E:=encF) rfl _ _ 41 62 rfl infoT w.heap.size (c.take i) x (wr.heap.size+1) (HO2.out.alloc _) rfl (el_new1 _ _ _ _) (by have:=HB.out.size;simp;omega) (by have:=HLI.out;omega) ?_;intro v9 w9 hr9 hb9 hg9)
   have HR9:=Lib.hid hr9
   have HB9:Hid (Below w.heap.size w w9):=Lib.hid ((HB2.out.alloc (by have:=HB.out.size;simp;omega) _).trans hb9)
   clear hr9 hb9 hg9
   go_wp2
   go_roundw
   case rel=>exact ⟨i+1,by go_num,by omega,by rw [HTK.out];exact HR9,HB9⟩
   case measure=>simp [intOf];omega
  ·obtain rfl:i=n:=by omega
   have HO3:=HO.out
   rw [List.take_of_length_le (by rw [HN.out];exact Nat.le_refl _),HN.out] at HO3
   have HO4:=Lib.hid HO3
   clear HO3 HO
   go_wp2
   go_ret
   exact ⟨_,rfl,HO4.out,HB.out⟩
def shortB (x:Fact):Bool:=decide (x.key.e.size≤40) && decide (x.key.a.size≤40) && decide (x.key.f.size≤40) && decide (x.key.p.size≤40)
def fewL (c:List Fact):Bool:=c.all shortB && decide (c.length≤150)
theorem all_upto {α:Type} {p:α→Bool} {c:List α} {n:Nat} (hn:c.length=n) (h:∀ (j:Nat) (x:α),j < n→c[j]?=some x→p x=true):c.all p=true:=by
 rw [List.all_eq_true]
 intro x hx
 obtain ⟨j,hj,rfl⟩:=List.getElem_of_mem hx
 exact h j _ (by omega) (List.getElem?_eq_getElem hj)
theorem all_not {α:Type} {p:α→Bool} {c:List α} {i:Nat} {x:α} (hx:c[i]?=some x) (h:p x=false):c.all p=false:=by
 rw [←Bool.not_eq_true,List.all_eq_true]
 intro ha
 rw [ha x (List.mem_of_getElem? hx)] at h
 cases h
set_option maxRecDepth 100000 in
set_option maxHeartbeats 4000000 in
theorem few_any (v:Value) (c:List Fact) (w:World) (h:FactsV w v c) :
 Calls Tryz.prog 10 #[v] w fun e' w'=>e'=.returned (.bool (fewL c))∧Below w.heap.size w w':=by
 have HV:=Lib.hid h
 obtain ⟨p,cp,rfl,hcap,hm,_,_⟩:=h
 obtain ⟨n,hn⟩:∃ n,c.length=n:=⟨_,rfl⟩
 rw [hn] at hcap HV ⊢
 have HN:=Lib.hid hn
 obtain ⟨S,hS⟩:∃ S,fewL c=S:=⟨_,rfl⟩
 rw [hS]
 have HS:=Lib.hid hS
 unfold maxLen at hm
 clear hn hS
 go_enter Tryz.func10,Tryz.ntmps10
 go_wp2
 go_loopw [8] (fun s8 wr=>∃ i:Nat,s8=.int .i64 (i:Int)∧i≤n∧Hid (∀ (j:Nat) (x:Fact),j < i→c[j]?=some x→shortB x=true)∧Hid (Below w.heap.size w wr)) (fun s8 _=>n - (intOf s8).toNat)
 case atStart=>exact ⟨0,rfl,Nat.zero_le _,Lib.hid (fun j x hj=>absurd hj (Nat.not_lt_zero _)),Lib.hid (Below.refl _ _)⟩
 case round =>
  obtain ⟨i,rfl,hin,HO,HB⟩:=hrel
  by_cases hlt:i < n
  ·obtain ⟨x,hx⟩:∃ x,c[i]?=some x:=⟨_,List.getElem?_eq_getElem (by rw [HN.out];exact hlt)⟩
   obtain ⟨b,o,rfl,hat⟩:=ElsV.at_ HV.out hx
   obtain ⟨r0,r1,r2,r3,r4,r5⟩:=fact6 (hat.keep HB.out hat.lt)
   simp only [show encF.k=6 from rfl] at r0 r1 r2 r3 r4 r5
   have HB2:Hid (Below w.heap.size w ((wr.alloc (.cells #[.string x.key.e,.string x.key.a,.string x.key.f,.string x.key.p,.int .i64 x.key.m,.int .i64 x.amt] 79)).alloc (.cells #[.string x.key.e,.string x.key.a,.string x.key.f,.string x.key.p,.int .i64 x.key.m] 74))):=Lib.hid ((HB.out.alloc HB.out.size _).alloc (by have:=HB.out.size;simp;omega) _)
   have HX:=Lib.hid hx
   clear hx hat
   have out:shortB x=false→Hid (S=false):=fun hs=>Lib.hid (by rw [←HS.out];unfold fewL;rw [all_not HX.out hs];rfl)
   have OUT:=Lib.hid out
   have nxt:shortB x=true→Hid (∀ (j:Nat) (y:Fact),j < i+1→c[j]?=some y→shortB y=true):=fun hs=>Lib.hid (fun j y hj hy=>by
    rcases Nat.lt_or_ge j i with hl | hl
    ·exact HO.out j y hl hy
    ·obtain rfl:j=i:=by omega
     rw [HX.out] at hy;cases hy;exact hs)
   have NXT:=Lib.hid nxt
   clear out nxt
   by_cases h1:x.key.e.size≤40
   ·have g1:¬ (40:Int) < (x.key.e.size:Int):=by omega
    by_cases h2:x.key.a.size≤40
    ·have g2:¬ (40:Int) < (x.key.a.size:Int):=by omega
     by_cases h3:x.key.f.size≤40
     ·have g3:¬ (40:Int) < (x.key.f.size:Int):=by omega
      by_cases h4:x.key.p.size≤40
      ·have g4:¬ (40:Int) < (x.key.p.size:Int):=by omega
       have HN1:=NXT.out (by simp [shortB,h1,h2,h3,h4])
       go_wp2
       go_roundw
       case rel=>exact ⟨i+1,by go_num,by omega,HN1,HB2⟩
       case measure=>simp [intOf];omega
      ·have g4:(40:Int) < (x.key.p.size:Int):=by omega
       have HS1:=OUT.out (by simp [shortB,h4])
       obtain rfl:S=false:=HS1.out
       go_wp2
       go_ret
       exact ⟨rfl,HB2.out⟩
     ·have g3:(40:Int) < (x.key.f.size:Int):=by omega
      have HS1:=OUT.out (by simp [shortB,h3])
      obtain rfl:S=false:=HS1.out
      go_wp2
      go_ret
      exact ⟨rfl,HB2.out⟩
    ·have g2:(40:Int) < (x.key.a.size:Int):=by omega
     have HS1:=OUT.out (by simp [shortB,h2])
     obtain rfl:S=false:=HS1.out
     go_wp2
     go_ret
     exact ⟨rfl,HB2.out⟩
   ·have g1:(40:Int) < (x.key.e.size:Int):=by omega
    have HS1:=OUT.out (by simp [shortB,h1])
    obtain rfl:S=false:=HS1.out
    go_wp2
    go_ret
    exact ⟨rfl,HB2.out⟩
  ·obtain rfl:i=n:=by omega
   have hS:S=decide ((i:Int)≤150):=by
    rw [←HS.out]
    unfold fewL
    rw [all_upto HN.out HO.out,HN.out,Bool.true_and]
    by_cases h:i≤150
    ·rw [decide_eq_true h,decide_eq_true (show (i:Int)≤150 by omega)]
    ·rw [decide_eq_false h,decide_eq_false (show ¬ (i:Int)≤150 by omega)]
   subst hS
   go_wp2
   go_ret
   exact ⟨rfl,HB.out⟩
end Go.Proofs.YtfhhihamndbcnaaGreatDoor.Fa
end
