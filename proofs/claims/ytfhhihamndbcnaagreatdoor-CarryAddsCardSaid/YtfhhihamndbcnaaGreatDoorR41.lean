/- FaFacts PkFacts CoPlain CyRows CyEqual FaAdd -/
import Derived.Ground.Names8Prog
import Derived.Shelf.Spec.SlicesGrow
import Derived.Test.YtfhhihamndbcnaaGreatDoorR20
import Derived.Test.YtfhhihamndbcnaaGreatDoorR32
section
namespace Go.Proofs.YtfhhihamndbcnaaGreatDoor.Fa
def isum (l:List Fact) (k:Key):Int:=(amts l k).sum
def cube (l:List Fact):List Fact:=(keysL l).flatMap fun k=>putF k (isum l k)
theorem isum_no {l:List Fact} {k:Key} (h:k ∉ keysL l):isum l k=0:=by
 have:amts l k=[]:=by
  unfold amts
  rw [List.map_eq_nil_iff,List.filter_eq_nil_iff]
  intro f hf e
  exact h (mem_keys.2 ⟨f,hf,of_decide_eq_true e⟩)
 unfold isum
 rw [this];rfl
theorem mem_cube {l:List Fact} {f:Fact}:f∈cube l ↔ f.amt=isum l f.key∧f.amt≠0:=by
 unfold cube
 rw [List.mem_flatMap]
 constructor
 ·rintro ⟨k,_,hf⟩
  unfold putF at hf
  split at hf
  ·cases hf
  ·simp at hf;subst hf
   exact ⟨rfl,by assumption⟩
 ·rintro ⟨h1,h2⟩
  refine ⟨f.key,?_,?_⟩
  ·by_cases c:f.key∈keysL l
   ·exact c
   ·rw [isum_no c] at h1;exact absurd h1 h2
  ·rw [←h1]
   unfold putF
   rw [if_neg h2]
   exact List.mem_singleton.2 rfl
theorem cube_rise (l:List Fact):RiseF (cube l):=by
 unfold RiseF cube
 rw [List.pairwise_flatMap]
 refine ⟨fun k _=>?_,?_⟩
 ·unfold putF;split <;> simp
 ·refine List.Pairwise.imp ?_ (rise_keys l)
  intro k k' hlt x hx y hy
  unfold putF at hx hy
  split at hx
  ·cases hx
  ·split at hy
   ·cases hy
   ·simp at hx hy;subst hx;subst hy;exact hlt
theorem riseF_uniq_list {c d:List Fact} (hc:RiseF c) (hd:RiseF d) (h:∀ f,f∈c ↔ f∈d):c=d :=
 pairs_uniq (T:=fun x y:Fact=>ltK x.key y.key) (fun _=>ltK_irr _) (fun h1 h2=>ltK_trans h1 h2) hc hd h
theorem isum_nil (k:Key):isum [] k=0:=rfl
theorem isum_cons (f:Fact) (l:List Fact) (k:Key):isum (f::l) k=(if f.key=k then f.amt else 0)+isum l k:=by
 unfold isum amts
 rw [List.filter_cons]
 by_cases h:f.key=k <;> simp [h]
theorem isum_rise {c:List Fact} (h:RiseF c) (k:Key):isum c k=getL c k:=by
 induction c with
 | nil=>rfl
 | cons f c ih =>
   obtain ⟨h1,h2⟩:=List.pairwise_cons.1 h
   rw [isum_cons]
   by_cases e:f.key=k
   ·subst e
    rw [if_pos rfl,getL_mem h (List.mem_cons_self ..),ih h2,getL_no fun x hx e=>ltK_ne (h1 x hx) e.symm]
    omega
   ·rw [if_neg e,ih h2,Int.zero_add]
    unfold getL
    rw [List.find?_cons_of_neg (by simpa using e)]
theorem cube_self {c:List Fact} (h:RiseF c) (h0:∀ f∈c,f.amt≠0):cube c=c :=
 riseF_uniq_list (cube_rise c) h fun f=>by
  rw [mem_cube,isum_rise h]
  constructor
  ·rintro ⟨h1,h2⟩
   by_cases hk:∃ x∈c,x.key=f.key
   ·obtain ⟨x,hx,e⟩:=hk
    rw [←e,getL_mem h hx] at h1
    have:x=f:=by
     cases x;cases f
     simp only at e h1
     rw [e,h1]
    rwa [←this]
   ·rw [getL_no fun x hx e=>hk ⟨x,hx,e⟩] at h1
    exact absurd h1 h2
  ·intro hf
   exact ⟨(getL_mem h hf).symm,h0 f hf⟩
theorem cube_nz (l:List Fact):∀ f∈cube l,f.amt≠0:=fun _ hf=>(mem_cube.1 hf).2
theorem amts_rise {c:List Fact} (h:RiseF c) (k:Key):(amts c k).length≤1:=by
 induction c with
 | nil=>simp [amts]
 | cons f c ih =>
   obtain ⟨h1,h2⟩:=List.pairwise_cons.1 h
   unfold amts
   rw [List.filter_cons]
   by_cases e:f.key=k
   ·subst e
    have:(c.filter fun x=>decide (x.key=f.key))=[]:=by
     rw [List.filter_eq_nil_iff]
     intro x hx e
     exact ltK_ne (h1 x hx) (of_decide_eq_true e).symm
    simp [this]
   ·simp only [e,decide_false,Bool.false_eq_true,if_false]
    exact ih h2
abbrev B1:Int:=675539944105574400
end Go.Proofs.YtfhhihamndbcnaaGreatDoor.Fa
end
section
namespace Go.Proofs.YtfhhihamndbcnaaGreatDoor.Pk
open Go.RowKit Go.Proofs.YtfhhihamndbcnaaGreatDoor.Un Go.Proofs.YtfhhihamndbcnaaGreatDoor.Fa
theorem sumFrom_ways:∀ (ns:List Int) (n:Int),((sumFrom n ns).2=0∧(sumFrom n ns).1=n+ns.sum)∨(sumFrom n ns).2=2
 | [],n=>.inl ⟨rfl,by simp [sumFrom]⟩
 | a::r,n=>by
   cases hf:fit (n+a) with
   | false=>rw [sumFrom_no r hf];exact .inr rfl
   | true =>
     rw [sumFrom_yes r hf]
     rcases sumFrom_ways r (n+a) with ⟨h1,h2⟩ | h
     ·exact .inl ⟨h1,by rw [h2,List.sum_cons];omega⟩
     ·exact .inr h
theorem runG_ways:∀ (G:List (Key × List Int)),((runG G).2=0∧okG G)∨((runG G).2=2∧(runG G).1=[])
 | []=>.inl ⟨rfl,fun _ h=>by cases h⟩
 | g::r=>by
   unfold runG
   rcases sumFrom_ways g.2 0 with ⟨h1,_⟩ | h1
   ·rw [if_pos h1]
    rcases runG_ways r with ⟨h2,h3⟩ | ⟨h2,h3⟩
    ·rw [if_pos h2]
     exact .inl ⟨rfl,fun x hx=>by
      rcases List.mem_cons.1 hx with rfl | hx
      ·exact h1
      ·exact h3 x hx⟩
    ·rw [if_neg (by rw [h2];decide)]
     exact .inr ⟨h2,rfl⟩
   ·rw [if_neg (by rw [h1];decide)]
    exact .inr ⟨h1,rfl⟩
theorem ofL_ways (l:List Fact):ofL l=(cube l,0)∨ofL l=([],2):=by
 rcases runG_ways (grps l) with ⟨h1,h2⟩ | ⟨h1,h2⟩
 ·left
  unfold ofL
  rw [run_end _ h2]
  unfold accG cube grps
  rw [List.flatMap_map]
  suffices e:(fun k=>putF k (sumFrom 0 (amts l k)).1)=fun k=>putF k (isum l k) by
   show ((keysL l).flatMap (fun k=>putF k (sumFrom 0 (amts l k)).1),(0:Int))=_
   rw [e]
  funext k
  by_cases hk:k∈keysL l
  ·have:=h2 (k,amts l k) (by unfold grps;exact List.mem_map.2 ⟨k,hk,rfl⟩)
   rcases sumFrom_ways (amts l k) 0 with ⟨_,h4⟩ | h4
   ·show putF k (sumFrom 0 (amts l k)).1=putF k (isum l k)
    rw [h4,Int.zero_add];rfl
   ·rw [show (sumFrom 0 (k,amts l k).2).2=2 from h4] at this
    cases this
  ·have:amts l k=[]:=by
    unfold amts
    rw [List.map_eq_nil_iff,List.filter_eq_nil_iff]
    intro f hf e
    exact hk (mem_keys.2 ⟨f,hf,of_decide_eq_true e⟩)
   show putF k (sumFrom 0 (amts l k)).1=putF k (isum l k)
   unfold isum
   rw [this];rfl
 ·right
  unfold ofL
  exact Prod.ext h2 h1
theorem cube_key {l:List Fact} {f:Fact} (h:f∈cube l):∃ g∈l,g.key=f.key:=by
 obtain ⟨h1,h2⟩:=mem_cube.1 h
 by_cases hk:f.key∈keysL l
 ·exact mem_keys.1 hk
 ·rw [isum_no hk] at h1;exact absurd h1 h2
theorem parseP_ways (M:Mast) (s:ByteArray) :
 (∃ T,linE s.data.toList=0∧runP M st0 (wordsT s)=(T,0)∧Had M T∧T.facts.length * 10≤s.size+1∧parseP M s=ofL T.facts)∨((parseP M s).2≠0∧(parseP M s).1=[]∧((runP M st0 (wordsT s)).2≠0∨linE s.data.toList≠0)):=by
 unfold parseP
 by_cases h0:linE s.data.toList=0
 ·rw [if_pos h0]
  cases hr:runP M st0 (wordsT s) with
  | mk T n =>
    by_cases hn:n=0
    ·subst hn
     left
     exact ⟨T,h0,rfl,(Had.zero M).run _ hr,text_few hr,endP_ok T⟩
    ·right
     rw [endP_no T hn]
     exact ⟨hn,rfl,.inl hn⟩
 ·rw [if_neg h0]
  exact .inr ⟨h0,rfl,.inr h0⟩
def wordsF (L:List (List UInt8)):List (List ByteArray):=L.flatMap fun x=>if wordsL x=[] then [] else [(wordsL x).map mkB]
end Go.Proofs.YtfhhihamndbcnaaGreatDoor.Pk
end
section
namespace Go.Proofs.YtfhhihamndbcnaaGreatDoor.Co
open Go.RowKit Go.Proofs.YtfhhihamndbcnaaGreatDoor.Un Go.Proofs.YtfhhihamndbcnaaGreatDoor.Fa Go.Proofs.YtfhhihamndbcnaaGreatDoor.Pk
def cnt (M:Mast) (k:Key):Bool:=hasA M.chart k.a && hasFl M k.f
def clsF (M:Mast) (c:ByteArray):Int:=((findL M.chart c).getD zeroA).cls
def plc (k:Key):Key:=⟨k.e,k.a,emp,k.p,0⟩
def stp (n:Int) (s:Bool) (x:Int):Int:=if s=true then n+x else n - x
def walkS (n:Int):List (Bool × Int)→Int × Int
 | []=>(n,0)
 | (s,x)::r=>if fit (stp n s x)=true then walkS (stp n s x) r else (0,2)
def inGap (M:Mast) (p k:Key):Bool:=cnt M k && decide (plc k=p)
def gapL (M:Mast) (c:List Fact) (p:Key):List (Bool × Int):=(c.filter fun f=>inGap M p f.key).map fun f=>(decide (kindF M f.key.f=4),f.amt)
def gapP (M:Mast) (c:List Fact) (p:Key):Int × Int:=walkS 0 (gapL M c p)
def inWeigh (M:Mast) (e:ByteArray) (n:Int) (k:Key):Bool:=cnt M k && decide (kindF M k.f=n) && (decide (e=emp) || decide (k.e=e))
def weighL (M:Mast) (c:List Fact) (e:ByteArray) (n:Int):List (Bool × Int):=(c.filter fun f=>inWeigh M e n f.key).map fun f=>(decide (clsF M f.key.a=0),f.amt)
def weighP (M:Mast) (c:List Fact) (e:ByteArray) (n:Int):Int × Int:=walkS 0 (weighL M c e n)
def places (c:List Fact):List Key:=keysL (c.map fun f=>⟨plc f.key,0⟩)
def balP (M:Mast) (c:List Fact) (e:ByteArray):Int :=
 if (weighP M c e 0).2≠0 then (weighP M c e 0).2 else if (weighP M c e 0).1≠0 then 9
 else if (weighP M c e 4).2≠0 then (weighP M c e 4).2 else if (weighP M c e 4).1≠0 then 9 else 0
def checkGo (M:Mast) (c:List Fact):List Key→Int
 | []=>0
 | p::r =>
   if (gapP M c p).2≠0 then (gapP M c p).2 else if (gapP M c p).1≠0 then 8
   else if r.head?.map Key.e=some p.e then checkGo M c r
   else if balP M c p.e≠0 then balP M c p.e else checkGo M c r
def checkP (M:Mast) (c:List Fact):Int:=checkGo M c (places c)
def lin (g:Key→Int) (l:List Fact):Int:=(l.map fun f=>g f.key * f.amt).sum
end Go.Proofs.YtfhhihamndbcnaaGreatDoor.Co
end
section
namespace Go.Proofs.YtfhhihamndbcnaaGreatDoor.Cy
open Go.RowKit Go.Proofs.YtfhhihamndbcnaaGreatDoor.Fa
def ApartE (v u:Value):Prop:=v.ownBlock=none∨u.ownBlock=none∨v.ownBlock≠u.ownBlock
theorem ApartE.symm {v u:Value} (h:ApartE v u):ApartE u v:=by
 rcases h with h | h | h
 ·exact .inr (.inl h)
 ·exact .inl h
 ·exact .inr (.inr fun e=>h e.symm)
theorem own_beside {w w':World} {B:Nat} {e:TypeId} {s n:Nat} {v u:Value} {xs:List Value} (h:w.ownsRow B e s u n xs) (hg:w.grownBy w' v.ownBlock) (ha:ApartE v u):w'.ownsRow B e s u n xs:=by
 refine World.ownsRow.kept h hg ?_
 rcases ha with h1 | h1 | h1
 ·rw [h1]
  cases hu:u.ownBlock with
  | none=>exact .inl rfl
  | some g=>exact .inr (by simp)
 ·exact .inl h1
 ·exact .inr fun e'=>h1 e'.symm
theorem wpList_append_two {α:Type} {E:Enc α} {P:Program} {ops:Array Oper} {rest:List Oper} {o:Oper} {a:Act} {w:World} {Q:Exit→Act→World→Prop} (hgd:o.guard=none) (s x:Operand) (t e:TypeId) (ho:o.op=.call { callee:=.builtin .append,args:=#[s,x],argTypes:=#[t,t] }) (HI:InfoE P t e E)
 (B:Nat) (L:List α) (y:α) (g:Nat) (hrow:w.ownsRow B e E.k (a.eval s) L.length (flat E L)) (hx:a.eval x=.slice (some ⟨g,0,none⟩) 1 1) (hc:ElAt E w g 0 y) (hB:B≤w.heap.size) (hL:L.length≤1000000)
 (u:Value) (M:List α) (hu:w.ownsRow B e E.k u M.length (flat E M)) (hap:ApartE (a.eval s) u)
 (h:∀ v' w',w'.ownsRow B e E.k v' (L++[y]).length (flat E (L++[y]))→w'.ownsRow B e E.k u M.length (flat E M)→ApartE v' u→Below B w w'→wpList P ops Q rest (a.put o.dst v') w'):wpList P ops Q (o::rest) a w:=by
 obtain ⟨i,z,n,hi,hz,hs,hn,hzs,hb⟩:=HI.info
 refine wpList_append_own_at w hgd s x t ho B e i z E.k n HI.under hi hz hs hn hzs E.pos _ _ _ rfl hrow ⟨g,0,none⟩ 1 1 (E.cs y) hx (by rw [E.len,Nat.one_mul]) (fun j u hj=>by rw [add_off];exact hc j u hj) (E.one y) (by unfold maxLen;omega) ?_ hB ?_
 ·exact Nat.le_trans (Nat.mul_le_mul (Nat.add_le_add_right hL 1) hb) (by decide)
 ·intro v' w' h1 h2 _ h4
  refine h v' w' (by rw [flat_append,flat_one,List.length_append];exact h1) (own_beside hu h2 hap) ?_ (below_grown (Below.refl _ _) hB hrow h2)
  rcases h4 with h4 | h4
  ·unfold ApartE;rw [h4];exact hap
  ·unfold ApartE
   rw [h4]
   cases hb:u.ownBlock with
   | none=>exact .inr (.inl rfl)
   | some g =>
     have:=(World.ownsRow.lt hu g hb).2
     exact .inr (.inr (by simp;omega))
theorem flat_cell {α:Type} (E:Enc α) {L:List α} {i:Nat} {x y:α} {j:Nat} {v:Value} (hx:L[i]?=some x) (hj:j < E.k) (h:(E.cs x).set j v=E.cs y):(flat E L).set (i * E.k+j) v=flat E (L.set i y):=by
 obtain ⟨hi,rfl⟩:=List.getElem?_eq_some_iff.1 hx
 have e:L=L.take i++L[i]::L.drop (i+1):=by rw [←List.drop_eq_getElem_cons hi,List.take_append_drop]
 have e2:L.set i y=L.take i++y::L.drop (i+1):=by rw [List.set_eq_take_append_cons_drop,if_pos hi]
 have h1:(flat E (L.take i)).length=i * E.k:=by rw [flat_length,List.length_take,Nat.min_eq_left (by omega)]
 conv=>lhs;rw [e]
 rw [flat_append,flat_cons,List.set_append_right _ _ (by omega),h1,Nat.add_sub_cancel_left,List.set_append_left _ _ (by rw [E.len];exact hj),h,e2,flat_append,flat_cons]
theorem own_block {w:World} {B:Nat} {e:TypeId} {s n:Nat} {v:Value} {xs:List Value} (h:w.ownsRow B e s v n xs) (hn:0 < n):∃ g c,v=.slice (some ⟨g,0,none⟩) n c∧B≤g∧g < w.heap.size∧n≤c∧c≤maxLen∧∀ j,w.frozen? ⟨g,j,none⟩=false:=by
 rcases h.2 with ⟨_,h0⟩ | ⟨g,cap,cur,rfl,hB,hg,hnc,hcm,_⟩
 ·omega
 ·exact ⟨g,cap,rfl,hB,(Array.getElem?_eq_some_iff.1 hg).1,hnc,hcm,fun j=>by simp [World.frozen?,hg]⟩
end Go.Proofs.YtfhhihamndbcnaaGreatDoor.Cy
end
section
namespace Go.Proofs.YtfhhihamndbcnaaGreatDoor.Cy
open Go.RowKit Go.Proofs.YtfhhihamndbcnaaGreatDoor.Fa
set_option maxRecDepth 100000 in
set_option maxHeartbeats 2000000 in
theorem cloneC_any (v:Value) (L:List Fact) (w:World) (h:ElsV encF w v L) (hL:L.length≤1000) :
 Calls Tryz.prog 57 #[v] w (Go.Proofs.YtfhhihamndbcnaaGreatDoor.Fa.RowTold w L):=by
 have HV:=Lib.hid h
 obtain ⟨p,c,rfl,hcap,hm,hp,hc⟩:=h
 have hq:∀ (w:World) (a:Option Addr) (n c n' c':Nat),(binOp .eql 42 (.slice a n c) (.slice none n' c')).run Tryz.prog w=.ok (.bool a.isNone) w:=fun w a n c n' c'=>Lib.run_eql_slice_nil w _ _ a n c n' c' Tryz.underlying42
 obtain ⟨i0,hi,hz0,hz1,hz2⟩:=info_parts gen_info
 have HI:=Lib.hid (And.intro hi (And.intro hz0 (And.intro hz1 hz2)))
 clear hi hz0 hz1 hz2 hc
 unfold maxLen at hm
 cases p with
 | none =>
   have h0:=hp rfl
   have:L=[]:=List.eq_nil_of_length_eq_zero (by omega)
   subst this
   clear HV hp
   go_enter Tryz.func57,Tryz.ntmps57
   go_wp2
   go_ret
   exact ⟨_,rfl,World.ownsRow_nil _ _ _ _,Below.refl _ _⟩
 | some ad =>
   have HC:Hid (∀ (j:Nat) u,(flat encF L)[j]?=some u→w.cell? (ad.add j)=some u):=Lib.hid (fun j u hj=>by
    by_cases hne:L=[]
    ·subst hne;simp [flat] at hj
    ·obtain ⟨b,o,e,_,hcell⟩:=HV.out.cells hne
     cases e
     rw [add_off];exact hcell j u hj)
   obtain ⟨n,hn⟩:∃ n,L.length=n:=⟨_,rfl⟩
   have HN:=Lib.hid hn
   rw [hn] at hcap hL ⊢
   clear hn hp HV
   go_enter Tryz.func57,Tryz.ntmps57
   go_wp2_with (at_builtin;refine wpList_append_own _ rfl _ _ 42 rfl w.heap.size 62 i0 (.agg #[.string ⟨#[]⟩,.string ⟨#[]⟩,.string ⟨#[]⟩,.string ⟨#[]⟩,.int .i64 0,.int .i64 0]) 6 80 Tryz.underlying42 HI.out.1 HI.out.2.1 HI.out.2.2.1 HI.out.2.2.2 rfl (by decide) _ _ _ rfl (World.ownsRow_made w #[] 0 (Nat.le_refl _) (Nat.zero_le _) (by simp)) ad n c (flat encF L) rfl ?qc1 ?qc2 ?qc3 ?qc4 ?qc5 ?qc6 ?_)
   case qc1=>rw [gen_length,HN.out]
   case qc2=>exact fun j u hj=>Lib.cell?_alloc_some _ (HC.out j u hj)
   case qc3=>exact flat_ones L
   case qc4=>rw [Nat.zero_add];unfold maxLen;omega
   case qc5=>rw [Nat.zero_add];omega
   case qc6=>simp
   intro v' w1 hown hgrow hnil
   have HOW:Hid (w1.ownsRow w.heap.size 62 6 v' L.length (flat encF L)):=Lib.hid (by rw [HN.out];simpa using hown)
   have HBL:=Lib.hid (((Below.refl _ w).alloc (Nat.le_refl _) (.cells #[] 62)).grown hgrow (by simp) (by intro k hk;simp [Value.ownBlock] at hk;omega))
   clear hown hgrow hnil
   go_wp2
   go_ret
   exact ⟨v',rfl,HOW.out,HBL.out⟩
theorem in_key (a b:Key) (w:World):Sem.run Tryz.prog (Op.equalIn 9999 60 (aggK a) (aggK b)) w=.ok (eqK a b) w:=by
 have hS:Tryz.prog.underlying 60=some (.struct (Tryz.prog.fieldsOf 60)):=by kernel_rfl
 have hp:Tryz.prog.stoodInHeld 60=false:=by kernel_rfl
 rw [show (9999:Nat)=9998+1 from rfl,run_equalIn_agg w 9998 60 _ _ hS hp,←eqKs_eq]
 simp only [Program.fieldsOf,Tryz.underlying60]
 go_simp
 unfold eqKs
 by_cases h0:a.e.toList=b.e.toList
 ·by_cases h1:a.a.toList=b.a.toList
  ·by_cases h2:a.f.toList=b.f.toList
   ·by_cases h3:a.p.toList=b.p.toList
    ·by_cases h4:a.m=b.m <;> simp [h0,h1,h2,h3,h4]
    ·simp [h0,h1,h2,h3]
   ·simp [h0,h1,h2]
  ·simp [h0,h1]
 ·simp [h0]
theorem neq_fact (a b:Fact) (w:World):Sem.run Tryz.prog (binOp .neq 62 (Go.Proofs.YtfhhihamndbcnaaGreatDoor.Fa.aggF a) (Go.Proofs.YtfhhihamndbcnaaGreatDoor.Fa.aggF b)) w=.ok (.bool (!eqF a b)) w:=by
 have hS:Tryz.prog.underlying 62=some (.struct (Tryz.prog.fieldsOf 62)):=by kernel_rfl
 have hp:Tryz.prog.stoodInHeld 62=false:=by kernel_rfl
 have hn:=in_key a.key b.key w
 have hi:Sem.run Tryz.prog (Op.equalIn 9999 2 (.int .i64 a.amt) (.int .i64 b.amt)) w=.ok (a.amt==b.amt) w:=run_equalIn_int w 9998 2 .i64 .i64 _ _ Tryz.underlying2
 rw [run_neq_struct,show (10000:Nat)=9999+1 from rfl,run_equalIn_agg w 9999 62 _ _ hS hp,eqF_eq]
 clear hS hp
 simp only [Program.fieldsOf,Tryz.underlying62]
 have pk:∀ x:Fact,Sem.run Tryz.prog (part 60 #[.string x.key.e,.string x.key.a,.string x.key.f,.string x.key.p,.int .i64 x.key.m,.int .i64 x.amt] 0) w=.ok (aggK x.key) w:=fun x=>by go_simp
 have pi:∀ x:Fact,Sem.run Tryz.prog (part 2 #[.string x.key.e,.string x.key.a,.string x.key.f,.string x.key.p,.int .i64 x.key.m,.int .i64 x.amt] 5) w=.ok (.int .i64 x.amt) w:=fun x=>by go_simp
 have e1:¬ ("Key" = "_"):=by decide
 have e2:¬ ("Amount" = "_"):=by decide
 simp only [Op.eqFields,ne_eq,e1,e2,not_false_eq_true,if_true,Sem.run_bind,pk,hn,Result.andThen]
 generalize (a.amt==b.amt)=r at hi ⊢
 cases eqK a.key b.key <;> cases r <;> simp [Sem.run_bind,pi,hi,Result.andThen]
theorem guard_fact:Tryz.prog.eqGuardType Tryz.prog.depth 62=false:=by kernel_rfl
set_option maxRecDepth 100000 in
set_option maxHeartbeats 4000000 in
theorem equalF_any (va vb:Value) (a b:List Fact) (w:World) (ha:FactsV w va a) (hb:FactsV w vb b) :
 Calls Tryz.prog 37 #[va,vb] w fun e' w'=>e'=.returned (.bool (sameL a b))∧Below w.heap.size w w':=by
 have HA:=Lib.hid ha
 have HB:=Lib.hid hb
 obtain ⟨pa,ca,rfl,hcap,hm,_,_⟩:=ha
 obtain ⟨pb,cb,rfl,hcapb,hmb,_,_⟩:=hb
 obtain ⟨na,hna⟩:∃ n,a.length=n:=⟨_,rfl⟩
 obtain ⟨nb,hnb⟩:∃ n,b.length=n:=⟨_,rfl⟩
 rw [hna] at hcap HA ⊢
 rw [hnb] at hcapb HB ⊢
 have HNA:=Lib.hid hna
 have HNB:=Lib.hid hnb
 obtain ⟨S,hS⟩:∃ S,sameL a b=S:=⟨_,rfl⟩
 rw [hS]
 have HS:=Lib.hid hS
 unfold maxLen at hm hmb
 clear hna hnb hS
 by_cases hn:na=nb
 ·subst hn
  have hne:((na:Int) != (na:Int))=false:=by simp
  go_enter Tryz.func37,Tryz.ntmps37
  go_wp2
  go_loopw [13] (fun s13 wr=>∃ i:Nat,s13=.int .i64 (i:Int)∧i≤na∧Hid (a.take i=b.take i)∧Hid (Below w.heap.size w wr)) (fun s13 _=>na - (intOf s13).toNat)
  case atStart=>exact ⟨0,rfl,Nat.zero_le _,Lib.hid rfl,Lib.hid (Below.refl _ _)⟩
  case round =>
   obtain ⟨i,rfl,hin,HO,HBW⟩:=hrel
   by_cases hlt:i < na
   ·obtain ⟨x,hx⟩:∃ x,a[i]?=some x:=⟨_,List.getElem?_eq_getElem (by rw [HNA.out];exact hlt)⟩
    obtain ⟨y,hy⟩:∃ y,b[i]?=some y:=⟨_,List.getElem?_eq_getElem (by rw [HNB.out];exact hlt)⟩
    obtain ⟨b1,o1,rfl,hat1⟩:=ElsV.at_ HA.out hx
    obtain ⟨b2,o2,rfl,hat2⟩:=ElsV.at_ HB.out hy
    obtain ⟨r0,r1,r2,r3,r4,r5⟩:=fact6 (hat1.keep HBW.out hat1.lt)
    obtain ⟨s0,s1,s2,s3,s4,s5⟩:=fact6 (hat2.keep HBW.out hat2.lt)
    simp only [show encF.k=6 from rfl] at r0 r1 r2 r3 r4 r5 s0 s1 s2 s3 s4 s5
    have gq:=guard_fact
    have hq:=neq_fact x y
    have HX:=Lib.hid (And.intro hx hy)
    clear hx hy hat1 hat2
    cases he:eqF x y with
    | true =>
      have hxy:x=y:=of_decide_eq_true he
      have HT:Hid (a.take (i+1)=b.take (i+1)):=Lib.hid (by rw [List.take_add_one,List.take_add_one,HO.out,HX.out.1,HX.out.2,hxy])
      rw [he] at hq
      clear he hxy
      go_wp2_with fail
      go_big_quiet (fail)
      have HB3:=Lib.hid (belowN HBW.out nq)
      clear r0 r1 r2 r3 r4 r5 s0 s1 s2 s3 s4 s5 hq gq
      go_wp2
      go_roundw
      case rel=>exact ⟨i+1,by go_num,by omega,HT,HB3⟩
      case measure=>simp [intOf];omega
    | false =>
      have hxy:x≠y:=of_decide_eq_false he
      obtain rfl:S=false:=by
       rw [←HS.out]
       refine decide_eq_false fun e=>hxy ?_
       have h1:=HX.out.1
       rw [e,HX.out.2] at h1
       exact (Option.some.inj h1).symm
      rw [he] at hq
      clear he hxy
      go_wp2_with fail
      go_big_quiet (fail)
      have HB3:=Lib.hid (belowN HBW.out nq)
      clear r0 r1 r2 r3 r4 r5 s0 s1 s2 s3 s4 s5 hq gq
      go_wp2
      go_ret
      exact ⟨rfl,HB3.out⟩
   ·obtain rfl:i=na:=by omega
    obtain rfl:S=true:=by
     rw [←HS.out]
     have h1:=HO.out
     rw [List.take_of_length_le (by rw [HNA.out];exact Nat.le_refl _),List.take_of_length_le (by rw [HNB.out];exact Nat.le_refl _)] at h1
     exact decide_eq_true h1
    go_wp2
    go_ret
    exact ⟨rfl,HBW.out⟩
 ·have hne:((na:Int) != (nb:Int))=true:=by rw [bne_iff_ne];omega
  obtain rfl:S=false:=by
   rw [←HS.out]
   exact decide_eq_false fun e=>hn (by rw [←HNA.out,e,HNB.out])
  go_enter Tryz.func37,Tryz.ntmps37
  go_wp2
  go_ret
  exact ⟨rfl,Below.refl _ _⟩
end Go.Proofs.YtfhhihamndbcnaaGreatDoor.Cy
end
section
namespace Go.Proofs.YtfhhihamndbcnaaGreatDoor.Fa
open Go.Shelf Go.RowKit
def growRen:Go.Shelf.Ren:=⟨fun | 4=>75 | n=>n,fun | 25=>62 | 22=>42 | 20=>20 | 9=>9 | 4=>4 | 3=>3 | 0=>0 | n=>n,fun | n=>n⟩
theorem growL:Go.Proofs.Lays8.n4 Tryz.prog growRen:={
 mixed:=by kernel_rfl
 f4:=⟨Tryz.f75.name,by decide,Tryz.func75.trans (congrArg some (by kernel_rfl))⟩
 t0:=Tryz.underlying0
 a0:=Tryz.isAgg0
 z0:=Tryz.sizeOf0
 v0:=Tryz.zeroValue0
 t3:=Tryz.underlying3
 a3:=Tryz.isAgg3
 z3:=Tryz.sizeOf3
 v3:=Tryz.zeroValue3
 t4:=Tryz.underlying4
 a4:=Tryz.isAgg4
 z4:=Tryz.sizeOf4
 v4:=Tryz.zeroValue4
 t9:=Tryz.underlying9
 a9:=Tryz.isAgg9
 z9:=Tryz.sizeOf9
 v9:=Tryz.zeroValue9
 t20:=Tryz.underlying20
 a20:=Tryz.isAgg20
 z20:=Tryz.sizeOf20
 v20:=Tryz.zeroValue20
 t22:=Tryz.underlying42
 a22:=Tryz.isAgg42
 z22:=Tryz.sizeOf42
 v22:=Tryz.zeroValue42 }
theorem info_fact:(Tryz.prog.info? 62).map (fun i=>(i.zero,i.size,i.bytes))=some (some (.agg #[.string ⟨#[]⟩,.string ⟨#[]⟩,.string ⟨#[]⟩,.string ⟨#[]⟩,.int .i64 0,.int .i64 0]),6,80):=by kernel_rfl
theorem grow_any (n:Nat) (w:World) (hn:n≤2000) :
 Calls Tryz.prog 75 #[.slice none 0 0,.int .i64 n] w fun e w'=>∃ v,e=.returned v∧w'.ownsRow w.heap.size 62 6 v 0 []∧Below w.heap.size w w':=by
 obtain ⟨i0,hi,hz0,hz1,hz2⟩:=info_parts info_fact
 by_cases h0:n=0
 ·subst h0
  refine (Any8.slices_Grow_room growL none 0 0 0 w (Nat.le_refl _) (by omega) (by omega) (Nat.le_refl _)).mono ?_
  rintro e w' ⟨rfl,rfl⟩
  exact ⟨_,rfl,World.ownsRow_nil _ _ _ _,Below.refl _ _⟩
 ·refine (Any8.slices_Grow_grow growL i0 _ hi hz0 (by rw [hz1];decide) none 0 0 n [] w (Nat.le_refl _) (by omega) (by rw [hz2];omega) (by omega) (by simp) (fun _=>rfl) (fun a e=>by cases e)).mono ?_
  rintro e w' ⟨rfl,rfl⟩
  refine ⟨_,rfl,⟨rfl,.inr ⟨w.heap.size,_,_,rfl,Nat.le_refl _,heap_alloc_new w.drew _,Nat.zero_le _,grownCap_le_maxLen _ _ _ _ (by unfold maxLen;omega),?_,by simp⟩⟩,?_⟩
  ·have hg:=grownCap_ge w (0+n) 0 62
   show (_++_++_:Array Value).size=grownCap w (0+n) 0 62 * 6
   rw [Array.size_append,Array.size_append,size_zeroCells,size_zeroCells]
   simp only [List.size_toArray,List.length_nil]
   show 0+(0+n - 0) * 6+(grownCap w (0+n) 0 62 - (0+n)) * 6=_
   omega
  ·have:=(Below.refl w.heap.size w.drew).alloc (o:=.cells ([].toArray++Builtin.zeroCells (Value.cells (.agg #[.string ⟨#[]⟩,.string ⟨#[]⟩,.string ⟨#[]⟩,.string ⟨#[]⟩,.int .i64 0,.int .i64 0])) (0+n - 0)++Builtin.zeroCells (Value.cells (.agg #[.string ⟨#[]⟩,.string ⟨#[]⟩,.string ⟨#[]⟩,.string ⟨#[]⟩,.int .i64 0,.int .i64 0])) (grownCap w (0+n) 0 62 - (0+n))) 62) (Nat.le_refl _)
   exact ⟨this.os,this.tape,this.output,this.size,this.block⟩
section
variable {α:Type} {E:Enc α} {P:Program} {ops:Array Oper} {rest:List Oper} {o:Oper} {a:Act} {w:World} {Q:Exit→Act→World→Prop}
theorem wpList_append_els (hgd:o.guard=none) (s x:Operand) (t e:TypeId) (ho:o.op=.call { callee:=.builtin .append,args:=#[s,x],argTypes:=#[t,t] }) (HI:InfoE P t e E)
 (B:Nat) (L M:List α) (hrow:w.ownsRow B e E.k (a.eval s) L.length (flat E L)) (hx:ElsV E w (a.eval x) M) (hB:B≤w.heap.size) (hL:L.length+M.length≤1000000)
 (h:∀ v' w',w'.ownsRow B e E.k v' (L++M).length (flat E (L++M))→Below B w w'→wpList P ops Q rest (a.put o.dst v') w'):wpList P ops Q (o::rest) a w:=by
 obtain ⟨i,z,m,hi,hz,hs,hn,hzs,hb⟩:=HI.info
 obtain ⟨p,c,ev,hcap,hm,hpn,hc⟩:=id hx
 cases p with
 | none =>
   have h0:=hpn rfl
   have:M=[]:=List.eq_nil_of_length_eq_zero (by omega)
   subst this
   subst h0
   refine wpList_append_own_none hgd s x t ho B e i E.k HI.under hi _ _ _ rfl hrow ev ?_
   exact h _ _ (by rw [List.append_nil];exact hrow) (Below.refl _ _)
 | some ad =>
   refine wpList_append_own w hgd s x t ho B e i z E.k m HI.under hi hz hs hn hzs E.pos _ _ _ rfl hrow ad M.length c (flat E M) ev (flat_length M) (fun j u hj=>?_) (flat_ones M) (by unfold maxLen;omega) (Nat.le_trans (Nat.mul_le_mul hL hb) (by decide)) hB ?_
   ·by_cases hne:M=[]
    ·subst hne;simp [flat] at hj
    ·rw [ev] at hx
     obtain ⟨b,of,e,_,hcell⟩:=hx.cells hne
     cases e
     rw [add_off];exact hcell j u hj
   ·intro v' w' h1 h2 _
    exact h v' w' (by rw [flat_append,List.length_append];exact h1) (below_grown (Below.refl _ _) hB hrow h2)
end
set_option maxRecDepth 100000 in
set_option maxHeartbeats 4000000 in
theorem concat_any (g:Nat) (va vb:Value) (A B:List Fact) (w:World) (ha:w.cell? ⟨g,0,none⟩=some va) (hb:w.cell? ⟨g,1,none⟩=some vb) (hA:FactsV w va A) (hB:FactsV w vb B) (hLA:A.length≤1000) (hLB:B.length≤1000) :
 Calls Tryz.prog 50 #[.slice (some ⟨g,0,none⟩) 2 2] w fun e w'=>∃ v,e=.returned v∧w'.ownsRow w.heap.size 62 6 v (A++B).length (flat encF (A++B))∧Below w.heap.size w w':=by
 have HA:=Lib.hid hA
 have HB:=Lib.hid hB
 obtain ⟨pa,ca,rfl,_,_,_,_⟩:=hA
 obtain ⟨pb,cb,rfl,_,_,_,_⟩:=hB
 obtain ⟨na,hna⟩:∃ n,A.length=n:=⟨_,rfl⟩
 obtain ⟨nb,hnb⟩:∃ n,B.length=n:=⟨_,rfl⟩
 rw [hna] at ha hLA HA
 rw [hnb] at hb hLB HB
 have HNA:=Lib.hid hna
 have HNB:=Lib.hid hnb
 have hlt:=World.block_lt_of_cell? w _ ha
 have HG:=Lib.hid (grow_any (na+nb) w (by omega))
 have h1:¬ (na:Int) < 0:=by omega
 have h2:¬ (na:Int)+(nb:Int) < 0:=by omega
 rw [show ((na+nb:Nat):Int)=(na:Int)+(nb:Int) by omega] at HG
 have hca:=Lib.hid ha
 have hcb:=Lib.hid hb
 clear hna hnb
 go_enter Tryz.func50,Tryz.ntmps50
 go_wp2
 refine wp_loop_rounds 3 ?_
 rw [rounds_succ]
 go_wp2
 rw [rounds_succ]
 go_wp2
 rw [rounds_succ]
 go_wp2_with fail
 refine HG.out.mono ?_
 rintro e w1 ⟨v1,rfl,hr1,hb1⟩
 clear ha hb
 have hc0:=(hb1.cell (p:=⟨g,0,none⟩) hlt).trans hca.out
 have hc1:=(hb1.cell (p:=⟨g,1,none⟩) hlt).trans hcb.out
 have HR1:Hid (w1.ownsRow w.heap.size 62 6 v1 ([]:List Fact).length (flat encF [])):=hr1
 have HB1:=Lib.hid hb1
 have HA1:=Lib.hid (HA.out.keep hb1)
 have HBB1:=Lib.hid (HB.out.keep hb1)
 clear hr1 hb1
 go_wp2
 refine wp_loop_rounds 3 ?_
 rw [rounds_succ]
 go_wp2_with (at_builtin;refine wpList_append_els (E:=encF) rfl _ _ 42 62 rfl infoF w.heap.size [] A HR1.out HA1.out HB1.out.size (by simp;have:=HNA.out;omega) ?_;intro v2 w2 hr2 hb2)
 have hc21:=(hb2.cell (p:=⟨g,1,none⟩) hlt).trans hc1
 have HR2:Hid (w2.ownsRow w.heap.size 62 6 v2 A.length (flat encF A)):=Lib.hid (by have:=hr2;rw [List.nil_append] at this;exact this)
 have HBB2:Hid (FactsV w2 (.slice pb nb cb) B):=Lib.hid (HB.out.keep (HB1.out.trans hb2))
 have HB2:=Lib.hid (HB1.out.trans hb2)
 clear hr2 hb2 hc0 hc1
 go_wp2
 rw [rounds_succ]
 go_wp2_with (at_builtin;refine wpList_append_els (E:=encF) rfl _ _ 42 62 rfl infoF w.heap.size A B HR2.out HBB2.out HB2.out.size (by have:=HNA.out;have:=HNB.out;omega) ?_;intro v3 w3 hr3 hb3)
 have HR3:=Lib.hid hr3
 have HB3:=Lib.hid (HB2.out.trans hb3)
 clear hr3 hb3 hc21
 go_wp2
 rw [rounds_succ]
 go_wp2
 go_ret
 exact ⟨_,rfl,HR3.out,HB3.out⟩
theorem two_new (w:World) (x y:Value) (t:TypeId):(w.alloc (.cells #[x,y] t)).cell? ⟨w.heap.size,0,none⟩=some x∧(w.alloc (.cells #[x,y] t)).cell? ⟨w.heap.size,1,none⟩=some y:=by
 constructor
 ·rw [cell_of_row _ w.heap.size 0 _ t (0,0) (heap_alloc_new w _)];rfl
 ·rw [cell_of_row _ w.heap.size 1 _ t (0,0) (heap_alloc_new w _)];rfl
set_option maxRecDepth 100000 in
set_option maxHeartbeats 4000000 in
theorem add_new (va vb:Value) (A B:List Fact) (w:World) (hA:FactsV w va A) (hB:FactsV w vb B) (hzA:∀ f∈A,In64 f.amt) (hzB:∀ f∈B,In64 f.amt) (hLAB:A.length+B.length≤1000) :
 Calls Tryz.prog 26 #[va,vb] w (CubeNew w (ofL (A++B))):=by
 have hb0:=(Below.refl w.heap.size w).alloc (Nat.le_refl _) (.cells #[va,vb] 42)
 have HC:=Lib.hid (concat_any w.heap.size va vb A B (w.alloc (.cells #[va,vb] 42)) (two_new _ _ _ _).1 (two_new _ _ _ _).2 (hA.keep hb0) (hB.keep hb0) (by omega) (by omega))
 have HO:=Lib.hid (fun v w' (h:FactsV w' v (A++B))=>of_new v (A++B) w' h (fun f hf=>(List.mem_append.1 hf).elim (hzA f) (hzB f)) (by simp;omega))
 have HB0:=Lib.hid hb0
 obtain ⟨R,hR⟩:∃ R,ofL (A++B)=R:=⟨_,rfl⟩
 rw [hR] at HO ⊢
 obtain ⟨pa,ca,rfl,_,_,_,_⟩:=hA
 obtain ⟨pb,cb,rfl,_,_,_,_⟩:=hB
 obtain ⟨na,hna⟩:∃ n,A.length=n:=⟨_,rfl⟩
 obtain ⟨nb,hnb⟩:∃ n,B.length=n:=⟨_,rfl⟩
 rw [hna,hnb] at HC HB0
 rw [hna,hnb]
 clear hb0 hzA hzB hLAB hR hna hnb
 go_enter Tryz.func26,Tryz.ntmps26
 go_wp2_with fail
 refine HC.out.mono ?_
 rintro e w1 ⟨v1,rfl,hr1,hb1⟩
 have HO1:=Lib.hid (HO.out v1 w1 (els_of_own hr1))
 have HB1:=Lib.hid (HB0.out.trans (hb1.mono HB0.out.size))
 clear hr1 hb1
 go_wp2_with fail
 refine HO1.out.mono ?_
 rintro e w2 ⟨u,rfl,hu,hb2,hn2⟩
 have HU:=Lib.hid hu
 have HNU:=Lib.hid (hn2.mono HB1.out.size)
 have HB2:=Lib.hid (HB1.out.trans (hb2.mono HB1.out.size))
 clear hu hb2 hn2
 go_wp2
 go_ret2
 exact ⟨u,rfl,HU.out,HB2.out,HNU.out⟩
theorem add_many (va vb:Value) (A B:List Fact) (w:World) (hA:FactsV w va A) (hB:FactsV w vb B) (hzA:∀ f∈A,In64 f.amt) (hzB:∀ f∈B,In64 f.amt) (hLAB:A.length+B.length≤1000) :
 Calls Tryz.prog 26 #[va,vb] w (CubeTold w (ofL (A++B))):=(add_new va vb A B w hA hB hzA hzB hLAB).mono fun _ _ h=>h.told
end Go.Proofs.YtfhhihamndbcnaaGreatDoor.Fa
end
