/- CentPlain FaPlain FaGet FaFacts PkFacts CoOpen CoPlain CoSmall CoFacts CoGiven -/
import Derived.Test.YtdhfpgjnjlcciaaGreatDoorQ31
section
namespace Go.Proofs.YtdhfpgjnjlcciaaGreatDoor
open Go.RowKit (wrap64)
theorem zgW (l:List Int):∀ n:Int,fit n=true→fit (zo n l).1=true:=by
 induction l with
 | nil=>intro n h;exact h
 | cons a r ih =>
   intro n h
   cases hf:fit (n+a) with
   | false=>rw [QA r hf];decide
   | true=>rw [yS r hf];exact ih _ hf
end Go.Proofs.YtdhfpgjnjlcciaaGreatDoor
end
section
namespace Go.Proofs.YtdhfpgjnjlcciaaGreatDoor.Fa
theorem zhv (x:List (Key × List Int)):(runG x).1.length≤x.length:=by
 induction x with
 | nil=>simp [runG]
 | cons g r ih =>
   unfold runG putF
   (repeat' split) <;> simp <;> omega
theorem y6 (l:List Fact):(ofL l).1.length≤l.length:=by
 have h1:=zhv (grps l)
 have h2:=yp l
 unfold ofL
 unfold grps at h1 ⊢
 rw [List.length_map] at h1
 omega
end Go.Proofs.YtdhfpgjnjlcciaaGreatDoor.Fa
end
section
namespace Go.Proofs.YtdhfpgjnjlcciaaGreatDoor.Fa
open Go.RowKit
def getL (c:List Fact) (k:Key):Int:=match c.find? fun f=>decide (f.key=k) with
 | some f=>f.amt
 | none=>0
theorem zck {c:List Fact} (h:RiseF c) {x y:Fact} (hx:x∈c) (hy:y∈c) (e:x.key=y.key):x=y:=by
 obtain ⟨i,hi,rfl⟩:=List.getElem_of_mem hx
 obtain ⟨j,hj,rfl⟩:=List.getElem_of_mem hy
 rcases Nat.lt_trichotomy i j with h1 | h1 | h1
 ·exact absurd e (yD (List.pairwise_iff_getElem.1 h i j hi hj h1))
 ·subst h1;rfl
 ·exact absurd e.symm (yD (List.pairwise_iff_getElem.1 h j i hj hi h1))
theorem Qe {c:List Fact} (h:RiseF c) {x:Fact} (hx:x∈c):getL c x.key=x.amt:=by
 unfold getL
 cases hf:c.find? fun f=>decide (f.key=x.key) with
 | none=>exact absurd (List.find?_eq_none.1 hf x hx) (by simp)
 | some y =>
   have h1:=List.mem_of_find?_eq_some hf
   have h2:y.key=x.key:=by have:=List.find?_some hf;simpa using this
   rw [zck h h1 hx h2]
theorem Jk {c:List Fact} {k:Key} (h:∀ x∈c,x.key≠k):getL c k=0:=by
 unfold getL
 rw [List.find?_eq_none.2 fun x hx=>by simpa using h x hx]
end Go.Proofs.YtdhfpgjnjlcciaaGreatDoor.Fa
end
section
namespace Go.Proofs.YtdhfpgjnjlcciaaGreatDoor.Fa
def isum (l:List Fact) (k:Key):Int:=(amts l k).sum
def cube (l:List Fact):List Fact:=(keysL l).flatMap fun k=>putF k (isum l k)
theorem Yi {l:List Fact} {k:Key} (h:k ∉ keysL l):isum l k=0:=by
 have:amts l k=[]:=by
  unfold amts
  rw [List.map_eq_nil_iff,List.filter_eq_nil_iff]
  intro f hf e
  exact h (mem_keys.2 ⟨f,hf,of_decide_eq_true e⟩)
 unfold isum
 rw [this];rfl
theorem jB {l:List Fact} {f:Fact}:f∈cube l ↔ f.amt=isum l f.key∧f.amt≠0:=by
 unfold cube
 rw [List.mem_flatMap]
 constructor
 ·rintro ⟨k,_,hf⟩
  unfold putF at hf
  split at hf
  ·cases hf
  ·simp at hf;subst hf
   exact ⟨rfl,by assumption⟩
 ·rintro ⟨h1,h2⟩
  refine ⟨f.key,?_,?_⟩
  ·by_cases c:f.key∈keysL l
   ·exact c
   ·rw [Yi c] at h1;exact absurd h1 h2
  ·rw [←h1]
   unfold putF
   rw [if_neg h2]
   exact List.mem_singleton.2 rfl
theorem kP (l:List Fact):RiseF (cube l):=by
 unfold RiseF cube
 rw [List.pairwise_flatMap]
 refine ⟨fun k _=>?_,?_⟩
 ·unfold putF;split <;> simp
 ·refine List.Pairwise.imp ?_ (j9 l)
  intro k k' hlt x hx y hy
  unfold putF at hx hy
  split at hx
  ·cases hx
  ·split at hy
   ·cases hy
   ·simp at hx hy;subst hx;subst hy;exact hlt
theorem xT (f:Fact) (l:List Fact) (k:Key):isum (f::l) k=(if f.key=k then f.amt else 0)+isum l k:=by
 unfold isum amts
 rw [List.filter_cons]
 by_cases h:f.key=k <;> simp [h]
theorem XL {c:List Fact} (h:RiseF c) (k:Key):isum c k=getL c k:=by
 induction c with
 | nil=>rfl
 | cons f c ih =>
   obtain ⟨h1,h2⟩:=List.pairwise_cons.1 h
   rw [xT]
   by_cases e:f.key=k
   ·subst e
    rw [if_pos rfl,Qe h (List.mem_cons_self ..),ih h2,Jk fun x hx e=>yD (h1 x hx) e.symm]
    omega
   ·rw [if_neg e,ih h2,Int.zero_add]
    unfold getL
    rw [List.find?_cons_of_neg (by simpa using e)]
theorem zg3 (l:List Fact):∀ f∈cube l,f.amt≠0:=fun _ hf=>(jB.1 hf).2
end Go.Proofs.YtdhfpgjnjlcciaaGreatDoor.Fa
end
section
namespace Go.Proofs.YtdhfpgjnjlcciaaGreatDoor.Pk
open Go.RowKit Go.Proofs.YtdhfpgjnjlcciaaGreatDoor.Un Go.Proofs.YtdhfpgjnjlcciaaGreatDoor.Fa
theorem QN:∀ (ns:List Int) (n:Int),((zo n ns).2=0∧(zo n ns).1=n+ns.sum)∨(zo n ns).2=2
 | [],n=>.inl ⟨rfl,by simp [zo]⟩
 | a::r,n=>by
   cases hf:fit (n+a) with
   | false=>rw [QA r hf];exact .inr rfl
   | true =>
     rw [yS r hf]
     rcases QN r (n+a) with ⟨h1,h2⟩ | h
     ·exact .inl ⟨h1,by rw [h2,List.sum_cons];omega⟩
     ·exact .inr h
theorem zaw:∀ (G:List (Key × List Int)),((runG G).2=0∧okG G)∨((runG G).2=2∧(runG G).1=[])
 | []=>.inl ⟨rfl,fun _ h=>by cases h⟩
 | g::r=>by
   unfold runG
   rcases QN g.2 0 with ⟨h1,_⟩ | h1
   ·rw [if_pos h1]
    rcases zaw r with ⟨h2,h3⟩ | ⟨h2,h3⟩
    ·rw [if_pos h2]
     exact .inl ⟨rfl,fun x hx=>by
      rcases List.mem_cons.1 hx with rfl | hx
      ·exact h1
      ·exact h3 x hx⟩
    ·rw [if_neg (by rw [h2];decide)]
     exact .inr ⟨h2,rfl⟩
   ·rw [if_neg (by rw [h1];decide)]
    exact .inr ⟨h1,rfl⟩
theorem Zu (l:List Fact):ofL l=(cube l,0)∨ofL l=([],2):=by
 rcases zaw (grps l) with ⟨h1,h2⟩ | ⟨h1,h2⟩
 ·left
  unfold ofL
  rw [Yt _ h2]
  unfold accG cube grps
  rw [List.flatMap_map]
  suffices e:(fun k=>putF k (zo 0 (amts l k)).1)=fun k=>putF k (isum l k) by
   show ((keysL l).flatMap (fun k=>putF k (zo 0 (amts l k)).1),(0:Int))=_
   rw [e]
  funext k
  by_cases hk:k∈keysL l
  ·have:=h2 (k,amts l k) (by unfold grps;exact List.mem_map.2 ⟨k,hk,rfl⟩)
   rcases QN (amts l k) 0 with ⟨_,h4⟩ | h4
   ·show putF k (zo 0 (amts l k)).1=putF k (isum l k)
    rw [h4,Int.zero_add];rfl
   ·rw [show (zo 0 (k,amts l k).2).2=2 from h4] at this
    cases this
  ·have:amts l k=[]:=by
    unfold amts
    rw [List.map_eq_nil_iff,List.filter_eq_nil_iff]
    intro f hf e
    exact hk (mem_keys.2 ⟨f,hf,of_decide_eq_true e⟩)
   show putF k (zo 0 (amts l k)).1=putF k (isum l k)
   unfold isum
   rw [this];rfl
 ·right
  unfold ofL
  exact Prod.ext h2 h1
theorem Jl {l:List Fact} {f:Fact} (h:f∈cube l):∃ g∈l,g.key=f.key:=by
 obtain ⟨h1,h2⟩:=jB.1 h
 by_cases hk:f.key∈keysL l
 ·exact mem_keys.1 hk
 ·rw [Yi hk] at h1;exact absurd h1 h2
end Go.Proofs.YtdhfpgjnjlcciaaGreatDoor.Pk
end
section
namespace Go.Proofs.YtdhfpgjnjlcciaaGreatDoor.Co
open Go.ChangeShapes Go.WideShapes Go.ChangeAt Go.RowKit Go.Deep
set_option maxRecDepth 100000
section
variable {H:Type} {enc:TypeId × Value→H} {W:World} {base:Nat} {sp:Nat→Bool} {held:Bool}
theorem Qb {r:Reach} {b0:Nat} {v:Value} {d:DataW H} {p:List MemPlace} (hv:Value.okWide Tryz.prog W r b0 68 v) (h:DataW.Trod enc Tryz.prog W base sp held 68 v d p):∃ a b:ByteArray,v=.agg #[.string a,.string b]∧a.size≤maxLen∧b.size≤maxLen:=by
 have hC:Tryz.prog.cellsOf 68=2:=by kernel_rfl
 have cS:Tryz.prog.cellsOf 9=1:=by kernel_rfl
 obtain ⟨cs,rfl,hs⟩:=okWide_struct Tryz.underlying68 hv
 obtain ⟨fuel,hf⟩:=h
 obtain ⟨xs,n,_,_,hl,hxl,hg⟩:=DataW.trod_struct Tryz.underlying68 hf
 obtain ⟨cs⟩:=cs
 have hl':cs.length=2:=hl.trans hC
 match cs,hl',xs,hxl with
 | [c0,c1],_,[y0,y1],_ =>
   have g0:=hg 0 _ rfl
   have g1:=hg 1 _ rfl
   simp [cS,Value.cells] at g0 g1
   obtain ⟨s0,e0,_,z0⟩:=DataW.trod_string Tryz.underlying9 g0
   obtain ⟨s1,e1,_,z1⟩:=DataW.trod_string Tryz.underlying9 g1
   simp at e0 e1
   subst e0 e1
   exact ⟨s0,s1,rfl,z0,z1⟩
end
end Go.Proofs.YtdhfpgjnjlcciaaGreatDoor.Co
end
section
namespace Go.Proofs.YtdhfpgjnjlcciaaGreatDoor.Co
open Go.RowKit Go.Proofs.YtdhfpgjnjlcciaaGreatDoor.Un Go.Proofs.YtdhfpgjnjlcciaaGreatDoor.Fa Go.Proofs.YtdhfpgjnjlcciaaGreatDoor.Pk
def ssum:List (Bool × Int)→Int
 | []=>0
 | (s,x)::r=>(if s then x else -x)+ssum r
theorem zfS (s:Bool) (x:Int) (r:List (Bool × Int)):ssum ((s,x)::r)=(if s then x else -x)+ssum r:=rfl
theorem JM:∀ (l:List (Bool × Int)) (n:Int),((walkS n l).2=0∧(walkS n l).1=n+ssum l)∨walkS n l=(0,2)
 | [],n=>.inl ⟨rfl,by simp [walkS,ssum]⟩
 | (s,x)::r,n=>by
   cases hf:fit (stp n s x) with
   | false=>exact .inr (jq r hf)
   | true =>
     rw [qW r hf]
     rcases JM r (stp n s x) with ⟨h1,h2⟩ | h
     ·refine .inl ⟨h1,?_⟩
      rw [h2,zfS]
      unfold stp
      cases s <;> simp <;> omega
     ·exact .inr h
theorem x7 (M:Mast) (c:List Fact) (p:Key):((gapP M c p).2=0∧(gapP M c p).1=ssum (gapL M c p))∨gapP M c p=(0,2):=by
 rcases JM (gapL M c p) 0 with ⟨h1,h2⟩ | h
 ·exact .inl ⟨h1,by unfold gapP;rw [h2];omega⟩
 ·exact .inr h
end Go.Proofs.YtdhfpgjnjlcciaaGreatDoor.Co
end
section
namespace Go.Proofs.YtdhfpgjnjlcciaaGreatDoor.Co
open Go.RowKit Go.Proofs.YtdhfpgjnjlcciaaGreatDoor.Un Go.Proofs.YtdhfpgjnjlcciaaGreatDoor.Fa Go.Proofs.YtdhfpgjnjlcciaaGreatDoor.Pk
theorem XK {M:Mast} {k:Key} (h:inM M k=true):cnt M k=true:=by
 unfold inM at h
 unfold cnt
 simp only [Bool.and_eq_true] at h ⊢
 exact ⟨h.1.1.2,h.1.2⟩
theorem zaJ {M:Mast} {k:Key} (h:checkE M k=0):inM M k=true:=by
 cases hi:inM M k with
 | true=>rfl
 | false=>rw [yf hi] at h;cases h
theorem zbq {M:Mast} {l:List Fact} (h:∀ f∈l,cnt M f.key=true):AllC M (cube l):=fun f hf=>by
 obtain ⟨x,hx,e⟩:=Jl hf
 rw [←e];exact h x hx
theorem Vw {M:Mast} {l:List Fact} (h:∀ f∈l,cnt M f.key=true):AllC M (ofL l).1:=by
 rcases Zu l with e | e
 ·rw [e];exact zbq h
 ·rw [e];exact fun f hf=>by cases hf
section
variable {M:Mast} (h:SmallM false M)
include h
end
section
variable {M:Mast} (h:SmallM false M)
include h
end
end Go.Proofs.YtdhfpgjnjlcciaaGreatDoor.Co
end
section
namespace Go.Proofs.YtdhfpgjnjlcciaaGreatDoor.Co
open Go.RowKit Go.Proofs.YtdhfpgjnjlcciaaGreatDoor.Un Go.Proofs.YtdhfpgjnjlcciaaGreatDoor.Fa Go.Proofs.YtdhfpgjnjlcciaaGreatDoor.Pk
theorem XM:∀ (G:List (Key × List Int)),∀ f∈(runG G).1,In64 f.amt
 | [],f,h=>by cases h
 | g::r,f,h=>by
   simp only [runG] at h
   split at h
   ·split at h
    ·rcases List.mem_append.1 h with h | h
     ·unfold putF at h
      split at h
      ·cases h
      ·rw [List.mem_singleton] at h
       subst h
       exact (qz _).1 (zgW _ 0 (by decide))
     ·exact XM r f h
    ·cases h
   ·cases h
theorem ZW (l:List Fact):∀ f∈(ofL l).1,In64 f.amt:=XM _
structure IsCube (c:List Fact):Prop where
 rise:RiseF c
 nz:∀ f∈c,f.amt≠0
 fit:∀ f∈c,In64 f.amt
theorem XE {l:List Fact} (h:(ofL l).2=0):IsCube (ofL l).1∧(ofL l).1=cube l:=by
 have hi:=ZW l
 rcases Zu l with e | e
 ·rw [e] at hi ⊢
  exact ⟨⟨kP l,zg3 l,hi⟩,rfl⟩
 ·rw [e] at h;cases h
end Go.Proofs.YtdhfpgjnjlcciaaGreatDoor.Co
end
section
namespace Go.Proofs.YtdhfpgjnjlcciaaGreatDoor.Co
open Go.RowKit Go.Proofs.YtdhfpgjnjlcciaaGreatDoor.Un Go.Proofs.YtdhfpgjnjlcciaaGreatDoor.Fa Go.Proofs.YtdhfpgjnjlcciaaGreatDoor.Pk
structure GivB (w:World) (b:Nat) (s0 s1:ByteArray):Prop where
 c0:w.cell? ⟨b,0,none⟩=some (.string s0)
 c1:w.cell? ⟨b,1,none⟩=some (.string s1)
theorem GivB.kept {w w':World} {b:Nat} {s0 s1:ByteArray} (h:GivB w b s0 s1) (hb:Below w.heap.size w w'):GivB w' b s0 s1 :=
 ⟨(hb.cell (p:=⟨b,0,none⟩) (World.block_lt_of_cell? w _ h.c0)).trans h.c0,(hb.cell (p:=⟨b,1,none⟩) (World.block_lt_of_cell? w _ h.c1)).trans h.c1⟩
theorem Z4 (w:World) (s0 s1:ByteArray) (t:TypeId):GivB (w.alloc (.cells #[.string s0,.string s1] t)) w.heap.size s0 s1 :=
 ⟨by rw [cell_of_row _ w.heap.size 0 _ t (0,0) (heap_alloc_new w _)];rfl,by rw [cell_of_row _ w.heap.size 1 _ t (0,0) (heap_alloc_new w _)];rfl⟩
structure Parsed (M:Mast) (c:List Fact):Prop where
 cube:IsCube c
 all:AllC M c
 len:c.length≤400
theorem x5 {M:Mast} {s:ByteArray} {c:List Fact} (h:parseP M s=(c,0)) (hs:s.size≤4000):Parsed M c:=by
 rcases J4 M s with ⟨T,_,_,h3,h4,h5⟩ | ⟨h1,_⟩
 ·rw [h] at h5
  have h0:(ofL T.facts).2=0:=by rw [←h5]
  have hc:=(XE h0).1
  have ha:AllC M (ofL T.facts).1:=Vw fun f hf=>XK (zaJ (h3.ok f hf).2.1)
  have hl:=Fa.y6 T.facts
  rw [←h5] at hc ha hl
  exact ⟨hc,ha,by simp only at hl;omega⟩
 ·rw [h] at h1;exact absurd rfl h1
theorem Parsed.giv {M:Mast} {c:List Fact} (h:Parsed M c) (hs:Sane M) {W:World} {ch f e l v:Value} (hm:MastIn W ch f e l M) (hv:FactsV W v c):Giv W ch f e l v M c :=
 ⟨hm,Fl.qm hs.fl,by have:=hs.lf;omega,hv,by have:=h.len;omega,h.cube.fit⟩
end Go.Proofs.YtdhfpgjnjlcciaaGreatDoor.Co
end
