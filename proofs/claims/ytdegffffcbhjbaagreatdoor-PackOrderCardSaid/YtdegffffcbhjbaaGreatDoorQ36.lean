/- LexMem LexJoin UnitText UnitBackP LexRjoin PkOpen PkBlocks PkBlkMem PkBlk PkOrder PackOrder -/
import Derived.Test.YtdegffffcbhjbaaGreatDoorQ27
import Derived.Test.YtdegffffcbhjbaaGreatDoorQ31
import Derived.Test.YtdegffffcbhjbaaGreatDoorQ32
section
namespace Go.Proofs.YtdegffffcbhjbaaGreatDoor
open Go.RowKit
theorem LinesV.keep {w w':World} {v:Value} {L:List (Int × List ByteArray)} (h:LinesV w v L) (hb:Below w.heap.size w w'):LinesV w' v L:=by
 obtain ⟨a,c,e,h2,hc⟩:=h
 exact ⟨a,c,e,h2,fun i x hx=>by
  obtain ⟨b,o,u,ea,h3,h4,h5⟩:=hc i x hx
  exact ⟨b,o,u,ea,(hb.cell (World.block_lt_of_cell? w _ h3)).trans h3,(hb.cell (World.block_lt_of_cell? w _ h4)).trans h4,h5.keep hb⟩⟩
end Go.Proofs.YtdegffffcbhjbaaGreatDoor
end
section
namespace Go.Proofs.YtdegffffcbhjbaaGreatDoor
open Go.RowKit
def joinL (L:List (Int × List ByteArray)):List UInt8:=L.flatMap fun x=>lineL x.2++[10]
theorem joinL_snoc (L:List (Int × List ByteArray)) (n:Int) (ws:List ByteArray):joinL (L++[(n,ws)])=joinL L++(lineL ws++[10]):=by simp [joinL]
end Go.Proofs.YtdegffffcbhjbaaGreatDoor
end
section
namespace Go.Proofs.YtdegffffcbhjbaaGreatDoor.Un
open Go.RowKit
theorem joinL_text (L:List (Int × List ByteArray)):joinL L=textW (L.map (·.2)):=by
 unfold joinL textW
 rw [List.flatMap_map]
end Go.Proofs.YtdegffffcbhjbaaGreatDoor.Un
end
section
namespace Go.Proofs.YtdegffffcbhjbaaGreatDoor.Un
open Go.RowKit
theorem szL_perm {l k:List (List ByteArray)} (h:l.Perm k):szL l=szL k:=by
 unfold szL
 exact (h.map szW).sum_nat
end Go.Proofs.YtdegffffcbhjbaaGreatDoor.Un
end
section
namespace Go.Proofs.YtdegffffcbhjbaaGreatDoor
open Go.RowKit
theorem lineL_snoc (ws:List ByteArray) (x:ByteArray):lineL (ws++[x])=(if ws=[] then [] else lineL ws++[32])++x.data.toList:=by
 induction ws with
 | nil=>simp [lineL,Lib.join,List.intercalate]
 | cons y r ih =>
   have e:∀ (z:ByteArray) (l:List ByteArray),l≠[]→lineL (z::l)=z.data.toList++([32]++lineL l):=fun z l hl=>by
    cases l with
    | nil=>exact absurd rfl hl
    | cons a b=>simp [lineL,Lib.join,List.intercalate]
   rw [List.cons_append,e y (r++[x]) (by simp),ih]
   cases r with
   | nil=>simp [lineL,Lib.join,List.intercalate]
   | cons a b=>rw [e y (a::b) (by simp)];simp
theorem lineL_length (ws:List ByteArray) (h:∀ y∈ws,y.size≤100):(lineL ws).length≤101 * ws.length:=by
 induction ws with
 | nil=>simp [lineL,Lib.join,List.intercalate]
 | cons y r ih =>
   have h1:=h y (List.mem_cons_self ..)
   have h2:=ih fun z hz=>h z (List.mem_cons_of_mem _ hz)
   have hz:=size_list y
   cases r with
   | nil=>simp [lineL,Lib.join,List.intercalate];omega
   | cons a b =>
     have e:lineL (y::a::b)=y.data.toList++([32]++lineL (a::b)):=by simp [lineL,Lib.join,List.intercalate]
     rw [e]
     simp only [List.length_append,List.length_cons,List.length_nil] at h2 ⊢
     omega
theorem joinL_length (L:List (Int × List ByteArray)) (h:∀ x∈L,x.2.length≤60∧∀ y∈x.2,y.size≤100):(joinL L).length≤6100 * L.length:=by
 induction L with
 | nil=>simp [joinL]
 | cons x r ih =>
   have h1:=h x (List.mem_cons_self ..)
   have h2:=ih fun z hz=>h z (List.mem_cons_of_mem _ hz)
   have h3:=lineL_length x.2 h1.2
   have e:joinL (x::r)=(lineL x.2++[10])++joinL r:=by simp [joinL]
   rw [e]
   simp only [List.length_append,List.length_cons,List.length_nil]
   omega
theorem take_mem {α:Type} {L:List α} {k:Nat} {x:α} (h:x∈L.take k):x∈L:=List.mem_of_mem_take h
def RJoinAt (L:List (Int × List ByteArray)) (s3 s4:Value):Prop :=
 ∃ (i:Nat) (t:ByteArray),i≤L.length∧s4=.int .i64 (i:Int)∧s3=.string t∧t.data.toList=joinL (L.take i)
def RLineAt (T:List UInt8) (ws:List ByteArray) (s3 s5:Value):Prop :=
 ∃ (j:Nat) (t:ByteArray),j≤ws.length∧s5=.int .i64 (j:Int)∧s3=.string t∧t.data.toList=T++lineL (ws.take j)
set_option maxRecDepth 100000 in
set_option maxHeartbeats 2000000 in
theorem rjoin_at (v:Value) (L:List (Int × List ByteArray)) (w:World) (h:LinesV w v L) (f1:L.length≤10000) (f2:∀ x∈L,x.2.length≤60∧∀ y∈x.2,y.size≤100) :
 Calls Tryz.prog 23 #[v] w fun e w'=>e=.returned (.string (mkB (joinL L)))∧w=w':=by
 obtain ⟨a,c,rfl,hm,hc⟩:=h
 have HF2:=Lib.hid f2
 have HC:=Lib.hid hc
 obtain ⟨n,hn⟩:∃ n,L.length=n:=⟨_,rfl⟩
 obtain ⟨R,hR⟩:∃ R,mkB (joinL L)=R:=⟨_,rfl⟩
 rw [hn] at f1 ⊢
 rw [hR]
 have HN:=Lib.hid hn
 have HR:=Lib.hid hR
 clear hc f2 hm hn hR
 go_enter Tryz.func23,Tryz.ntmps23
 go_wp2
 go_loop [3,4] (fun s3 s4=>RJoinAt L s3 s4) (fun _ s4=>n - (intOf s4).toNat)
 case atStart=>exact ⟨0,⟨#[]⟩,Nat.zero_le _,rfl,rfl,rfl⟩
 case round =>
  obtain ⟨i,t,hi,rfl,rfl,ht⟩:=hrel
  rw [HN.out] at hi
  have hb:=joinL_length (L.take i) fun x hx=>HF2.out x (take_mem hx)
  rw [←ht,size_list] at hb
  have hts:t.size≤61000000:=by
   have:(L.take i).length≤10000:=by rw [List.length_take];omega
   omega
  have HT:=Lib.hid ht
  clear ht hb
  by_cases hlt:i < n
  ·have hil:i < L.length:=by rw [HN.out];exact hlt
   obtain ⟨⟨x,ws⟩,hget⟩:∃ y,L[i]?=some y:=⟨_,List.getElem?_eq_getElem hil⟩
   obtain ⟨g1,g2⟩:=HF2.out _ (List.mem_of_getElem? hget)
   dsimp only at g1 g2
   have HTK:Hid (L.take (i+1)=L.take i++[(x,ws)]):=Lib.hid (by rw [take_at L i hil];rw [List.getElem?_eq_getElem hil] at hget;rw [Option.some.inj hget])
   obtain ⟨b1,o1,u1,rfl,d1,d2,s1⟩:=HC.out i _ hget
   obtain ⟨a1,k1,rfl,_,m1,e1⟩:=s1
   dsimp only at d2 e1 m1
   clear hget d1 m1
   have E1:=Lib.hid e1
   have G2:=Lib.hid g2
   obtain ⟨nw,hnw⟩:∃ nw,ws.length=nw:=⟨_,rfl⟩
   rw [hnw] at d2 g1
   have HNW:=Lib.hid hnw
   clear e1 g2 hnw
   go_wp2
   go_loop [3,5] (fun s3 s5=>RLineAt (joinL (L.take i)) ws s3 s5) (fun _ s5=>nw - (intOf s5).toNat)
   case atStart=>exact ⟨0,t,Nat.zero_le _,rfl,rfl,by rw [HT.out];simp [lineL,Lib.join,List.intercalate]⟩
   case round =>
    obtain ⟨j,t2,hj,rfl,rfl,ht2⟩:=hrel
    rw [HNW.out] at hj
    have hb2:=lineL_length (ws.take j) fun y hy=>G2.out y (take_mem hy)
    have hl2:=congrArg List.length ht2
    rw [List.length_append,←HT.out,size_list,size_list] at hl2
    have ht2s:t2.size≤61007000:=by
     have:(ws.take j).length≤60:=by rw [List.length_take];omega
     omega
    have HT2:=Lib.hid ht2
    clear ht2 hb2 hl2
    by_cases hjt:j < nw
    ·have hjl:j < ws.length:=by rw [HNW.out];exact hjt
     obtain ⟨y,hy⟩:∃ y,ws[j]?=some y:=⟨_,List.getElem?_eq_getElem hjl⟩
     obtain ⟨b3,o3,rfl,q1⟩:=E1.out j y hy
     have hys:y.size≤100:=G2.out y (List.mem_of_getElem? hy)
     have HTJ:Hid (ws.take (j+1)=ws.take j++[y]):=Lib.hid (by rw [take_at ws j hjl];rw [List.getElem?_eq_getElem hjl] at hy;rw [Option.some.inj hy])
     clear hy
     by_cases h0:0 < j
     ·have z1:¬ 9223372036854775807 < t2.size+1:=by omega
      have z2:¬ 9223372036854775807 < t2.size+1+y.size:=by omega
      have hne:Hid (ws.take j≠[]):=Lib.hid fun e=>by
       have:=congrArg List.length e
       rw [List.length_take,List.length_nil] at this
       omega
      go_wp2
      go_round
      case rel=>exact ⟨j+1,t2++⟨#[32]⟩++y,by omega,by go_num,rfl,by rw [HTJ.out,lineL_snoc,if_neg hne.out];simp [ByteArray.data_append,HT2.out]⟩
      case measure=>simp [intOf];omega
     ·obtain rfl:j=0:=by omega
      rw [Nat.add_zero] at q1
      have z2:¬ 9223372036854775807 < t2.size+y.size:=by omega
      go_wp2
      go_round
      case rel=>exact ⟨1,t2++y,by omega,by go_num,rfl,by rw [HTJ.out,lineL_snoc];simp [ByteArray.data_append,HT2.out,lineL,Lib.join,List.intercalate]⟩
      case measure=>simp [intOf];omega
    ·have z1:¬ 9223372036854775807 < t2.size+1:=by omega
     have HWT:Hid (ws.take j=ws):=Lib.hid (List.take_of_length_le (by rw [HNW.out];omega))
     go_wp2
     go_round
     case rel=>exact ⟨i+1,t2++⟨#[10]⟩,by omega,by go_num,rfl,by rw [HTK.out,joinL_snoc];simp [ByteArray.data_append,HT2.out,HWT.out]⟩
     case measure=>simp [intOf];omega
  ·have HE:Hid (t=R):=Lib.hid (by
    rw [←HR.out,←mkB_list t,HT.out,List.take_of_length_le (by rw [HN.out];omega)])
   rw [HE.out]
   go_wp2
   go_ret
   exact ⟨rfl,rfl⟩
end Go.Proofs.YtdegffffcbhjbaaGreatDoor
end
section
namespace Go.Proofs.YtdegffffcbhjbaaGreatDoor.Pk
open Go.ChangeShapes Go.WideShapes Go.ChangeAt Go.RowKit Go.Deep Go.Proofs.YtdegffffcbhjbaaGreatDoor.Un
set_option maxRecDepth 100000
section
variable {H:Type} {enc:TypeId × Value→H} {W:World} {base:Nat} {sp:Nat→Bool} {held:Bool}
theorem two_open {r:Reach} {b0:Nat} {v:Value} {d:DataW H} {p:List MemPlace} (hv:Value.okWide Tryz.prog W r b0 63 v) (h:DataW.Trod enc Tryz.prog W base sp held 63 v d p):∃ a b:Int,v=.agg #[.int .u8 a,.int .u8 b]∧InU8 a∧InU8 b:=by
 have hC:Tryz.prog.cellsOf 63=2:=by kernel_rfl
 have c1:Tryz.prog.cellsOf 5=1:=by kernel_rfl
 simp only [Value.okWide,Tryz.underlying63] at hv
 obtain ⟨cs,rfl,hs,_⟩:=hv
 obtain ⟨fuel,hf⟩:=h
 obtain ⟨xs,n,_,_,hl,hxl,hg⟩:=DataW.trod_array Tryz.underlying63 hf
 rw [hC] at hs
 obtain ⟨cs⟩:=cs
 match cs,hs,xs,hxl with
 | [a0,a1],_,[y0,y1],_ =>
   have g0:=hg 0 (by decide)
   have g1:=hg 1 (by decide)
   simp [c1,Value.cells] at g0 g1
   obtain ⟨i0,e0,_,z0⟩:=DataW.trod_int Tryz.underlying5 g0
   obtain ⟨i1,e1,_,z1⟩:=DataW.trod_int Tryz.underlying5 g1
   simp at e0 e1
   subst e0 e1
   exact ⟨i0,i1,rfl,in_of_wf_u8 z0,in_of_wf_u8 z1⟩
end
end Go.Proofs.YtdegffffcbhjbaaGreatDoor.Pk
end
section
namespace Go.Proofs.YtdegffffcbhjbaaGreatDoor.Pk
open Go.RowKit Go.Proofs.YtdegffffcbhjbaaGreatDoor.Un Go.Proofs.YtdegffffcbhjbaaGreatDoor.Fa
def rotL {α:Type} (k:Nat) (l:List α):List α:=l.drop (k % l.length)++l.take (k % l.length)
theorem rot_perm {α:Type} (k:Nat) (l:List α):(rotL k l).Perm l:=by
 unfold rotL
 exact List.perm_append_comm.trans (by rw [List.take_append_drop])
theorem rot_length {α:Type} (k:Nat) (l:List α):(rotL k l).length=l.length:=(rot_perm k l).length_eq
theorem rot_at {α:Type} (k i:Nat) (l:List α) (h:i < l.length):(rotL k l)[i]?=l[(i+k) % l.length]?:=by
 unfold rotL
 have hr:k % l.length < l.length:=Nat.mod_lt _ (by omega)
 obtain ⟨r,hr'⟩:∃ r,k % l.length=r:=⟨_,rfl⟩
 have e:(i+k) % l.length=if i+r < l.length then i+r else i+r - l.length:=by
  rw [Nat.add_mod,Nat.mod_eq_of_lt h,hr']
  split
  ·exact Nat.mod_eq_of_lt (by assumption)
  ·rw [Nat.mod_eq_sub_mod (by omega),Nat.mod_eq_of_lt (by omega)]
 rw [e]
 rw [hr'] at hr ⊢
 by_cases h1:i+r < l.length
 ·rw [if_pos h1,List.getElem?_append_left (by rw [List.length_drop];omega),List.getElem?_drop,Nat.add_comm]
 ·rw [if_neg h1,List.getElem?_append_right (by rw [List.length_drop];omega),List.length_drop,List.getElem?_take,if_pos (by omega)]
  congr 1;omega
theorem rot_map {α β:Type} (f:α→β) (k:Nat) (l:List α):(rotL k l).map f=rotL k (l.map f):=by
 unfold rotL
 rw [List.map_append,List.map_drop,List.map_take,List.length_map]
theorem flat_perm {α β:Type} (f:α→List β) {l l':List α} (h:l.Perm l'):(l.flatMap f).Perm (l'.flatMap f):=by
 induction h with
 | nil=>exact .refl _
 | cons x _ ih=>rw [List.flatMap_cons,List.flatMap_cons];exact ih.append_left _
 | swap x y l =>
   rw [List.flatMap_cons,List.flatMap_cons,List.flatMap_cons,List.flatMap_cons,←List.append_assoc,←List.append_assoc]
   exact List.perm_append_comm.append_right _
 | trans _ _ ih1 ih2=>exact ih1.trans ih2
theorem flat_perm2 {α β:Type} {f g:α→List β}:∀ (l:List α),(∀ x∈l,(f x).Perm (g x))→(l.flatMap f).Perm (l.flatMap g)
 | [],_=>.refl _
 | x::l,h=>by
   rw [List.flatMap_cons,List.flatMap_cons]
   exact (h x (List.mem_cons_self ..)).append (flat_perm2 l fun y hy=>h y (List.mem_cons_of_mem _ hy))
abbrev Ln:Type:=Int × List ByteArray
def isFct (x:Ln):Bool:=decide (wd x.2 0=tFact)
def stepB (out:List (List Ln)) (x:Ln):List (List Ln) :=
 if isFct x=false∨out=[] then out++[[x]] else out.dropLast++[out.getLastD []++[x]]
def blocksL (l:List Ln):List (List Ln):=l.foldl stepB []
theorem blocks_snoc (l:List Ln) (x:Ln):blocksL (l++[x])=stepB (blocksL l) x:=by simp [blocksL,List.foldl_append]
theorem last_split {α:Type} {out:List (List α)} (h:out≠[]):out.dropLast++[out.getLastD []]=out:=by
 rw [List.getLastD_eq_getLast?,List.getLast?_eq_some_getLast h,Option.getD_some]
 exact List.dropLast_concat_getLast h
theorem step_flat (out:List (List Ln)) (x:Ln):(stepB out x).flatten=out.flatten++[x]:=by
 unfold stepB
 split
 ·simp
 ·rename_i h
  have hne:out≠[]:=fun e=>h (.inr e)
  conv=>rhs;rw [←last_split hne]
  simp
theorem blocks_flat':∀ (l:List Ln) (out:List (List Ln)),(l.foldl stepB out).flatten=out.flatten++l
 | [],out=>by simp
 | x::l,out=>by rw [List.foldl_cons,blocks_flat' l,step_flat];simp
theorem blocks_flat (l:List Ln):(blocksL l).flatten=l:=by unfold blocksL;rw [blocks_flat'];rfl
def ShapeB (out:List (List Ln)):Prop:=∀ b∈out,∃ h fs,b=h::fs∧isFct h=false∧∀ f∈fs,isFct f=true
theorem step_ne (out:List (List Ln)) (x:Ln):stepB out x≠[]:=by
 unfold stepB;split <;> simp
theorem step_shape {out:List (List Ln)} {x:Ln} (h:ShapeB out) (hx:out≠[]∨isFct x=false):ShapeB (stepB out x):=by
 unfold stepB
 cases hf:isFct x with
 | false =>
   rw [if_pos (.inl rfl)]
   intro b hb
   rcases List.mem_append.1 hb with hb | hb
   ·exact h b hb
   ·rw [List.mem_singleton.1 hb]
    exact ⟨x,[],rfl,hf,fun _ h=>by cases h⟩
 | true =>
   have hne:out≠[]:=hx.resolve_right (by rw [hf];simp)
   rw [if_neg (by simp [hne])]
   intro b hb
   have hs:=last_split hne
   rcases List.mem_append.1 hb with hb | hb
   ·exact h b (by rw [←hs];exact List.mem_append_left _ hb)
   ·rw [List.mem_singleton.1 hb]
    obtain ⟨g,fs,e,h1,h2⟩:=h (out.getLastD []) (by
     have hmm:=List.mem_append_right out.dropLast (List.mem_singleton.2 (rfl:out.getLastD []=out.getLastD []))
     rwa [hs] at hmm)
    refine ⟨g,fs++[x],by rw [e];rfl,h1,fun f hf'=>?_⟩
    rcases List.mem_append.1 hf' with hf' | hf'
    ·exact h2 f hf'
    ·rw [List.mem_singleton.1 hf'];exact hf
theorem blocks_shape':∀ (l:List Ln) (out:List (List Ln)),ShapeB out→(out≠[]∨∀ x,l.head?=some x→isFct x=false)→ShapeB (l.foldl stepB out)
 | [],out,h,_=>h
 | x::l,out,h,hx=>by
   rw [List.foldl_cons]
   refine blocks_shape' l _ (step_shape h ?_) (.inl (step_ne _ _))
   rcases hx with hx | hx
   ·exact .inl hx
   ·exact .inr (hx x rfl)
theorem blocks_shape {l:List Ln} (h:∀ x,l.head?=some x→isFct x=false):ShapeB (blocksL l) :=
 blocks_shape' l [] (fun _ hb=>by cases hb) (.inr h)
theorem blocks_le:∀ (l:List Ln) (out:List (List Ln)),(l.foldl stepB out).length≤out.length+l.length
 | [],out=>by simp
 | x::l,out=>by
   rw [List.foldl_cons]
   have ih:=blocks_le l (stepB out x)
   have:(stepB out x).length≤out.length+1:=by
    unfold stepB
    split
    ·simp
    ·rename_i h
     have hne:out≠[]:=fun e=>h (.inr e)
     have:=List.length_pos_iff.2 hne
     rw [List.length_append,List.length_dropLast,List.length_singleton];omega
   rw [List.length_cons];omega
abbrev Ws:Type:=List ByteArray
def headOk (M:Mast) (h:Ws):Prop:=(wd h 0=tPackage∨wd h 0=tJournal)∧h.length=2∧begE M (wd h 1)=0
def hdS (h:Ws):St:=⟨wd h 1,if wd h 0=tPackage then 0 else 1,[],[]⟩
def factOk (M:Mast) (h f:Ws):Prop:=wd f 0=tFact∧f.length=5∧factE M (hdS h) f=0
def okB (M:Mast) (b:List Ws):Prop:=∃ h fs,b=h::fs∧headOk M h∧∀ f∈fs,factOk M h f
def factsB:List Ws→List Fact
 | []=>[]
 | h::fs=>fs.map (factV (hdS h))
def packB:List Ws→List ByteArray
 | []=>[]
 | h::_=>if wd h 0=tPackage then [wd h 1] else []
theorem hd_pack {h:Ws} (h1:wd h 0=tPackage):(hdS h).mrk=0:=by
 show (if wd h 0=tPackage then (0:Int) else 1)=0
 exact if_pos h1
theorem hd_other {h:Ws} (h1:wd h 0≠tPackage):(hdS h).mrk=1:=by
 show (if wd h 0=tPackage then (0:Int) else 1)=1
 exact if_neg h1
theorem pack_pack {h:Ws} (fs:List Ws) (h1:wd h 0=tPackage):packB (h::fs)=[wd h 1]:=by
 show (if wd h 0=tPackage then [wd h 1] else [])=_
 exact if_pos h1
theorem pack_other {h:Ws} (fs:List Ws) (h1:wd h 0≠tPackage):packB (h::fs)=[]:=by
 show (if wd h 0=tPackage then [wd h 1] else [])=_
 exact if_neg h1
theorem key_like {S T:St} (h1:S.ent=T.ent) (h2:S.mrk=T.mrk) (f:Ws):keyF S f=keyF T f:=by unfold keyF;rw [h1,h2]
theorem factE_like {M:Mast} {S T:St} (h1:S.ent=T.ent) (h2:S.mrk=T.mrk) (f:Ws):factE M S f=factE M T f:=by unfold factE;rw [key_like h1 h2,h1]
theorem factV_like {S T:St} (h1:S.ent=T.ent) (h2:S.mrk=T.mrk) (f:Ws):factV S f=factV T f:=by unfold factV;rw [key_like h1 h2]
theorem lineE_fact {M:Mast} {S:St} {f:Ws} (h1:wd f 0=tFact) (h2:f.length=5):lineE M S f=factE M S f:=by
 have n1:wd f 0≠tPackage:=by rw [h1];exact tP_F.symm
 have n2:wd f 0≠tJournal:=by rw [h1];exact tJ_F.symm
 unfold lineE
 rw [if_neg n1,if_neg n2,if_pos h1,if_pos h2]
theorem lineV_fact {S:St} {f:Ws} (h1:wd f 0=tFact):lineV S f=⟨S.ent,S.mrk,S.had,S.facts++[factV S f]⟩:=by
 have n1:wd f 0≠tPackage:=by rw [h1];exact tP_F.symm
 have n2:wd f 0≠tJournal:=by rw [h1];exact tJ_F.symm
 unfold lineV
 rw [if_neg n1,if_neg n2]
theorem run_facts {M:Mast} {h:Ws}:∀ (fs:List Ws) {S:St},S.ent=(hdS h).ent→S.mrk=(hdS h).mrk→(∀ f∈fs,factOk M h f) →
 runP M S fs=(⟨S.ent,S.mrk,S.had,S.facts++fs.map (factV (hdS h))⟩,0)
 | [],S,_,_,_=>by simp [runP]
 | f::fs,S,h1,h2,hf=>by
   obtain ⟨f1,f2,f3⟩:=hf f (List.mem_cons_self ..)
   have he:lineE M S f=0:=by rw [lineE_fact f1 f2,factE_like h1 h2];exact f3
   rw [runP_cons fs he,lineV_fact f1,run_facts fs (S:=⟨S.ent,S.mrk,S.had,S.facts++[factV S f]⟩) h1 h2 (fun g hg=>hf g (List.mem_cons_of_mem _ hg))]
   rw [factV_like h1 h2,List.map_cons,List.append_assoc];rfl
theorem run_block {M:Mast} {h:Ws} {fs:List Ws} {S:St} (hh:headOk M h) (hf:∀ f∈fs,factOk M h f) (hp:wd h 0=tPackage→wd h 1 ∉ S.had) :
 runP M S (h::fs)=(⟨wd h 1,(hdS h).mrk,S.had++packB (h::fs),S.facts++factsB (h::fs)⟩,0):=by
 obtain ⟨h1,h2,h3⟩:=hh
 have he:lineE M S h=0:=by
  unfold lineE
  rcases h1 with h1 | h1
  ·rw [if_pos h1,if_pos h2,if_pos h3,if_neg (by rw [Bool.not_eq_true];exact hadB_no.2 (hp h1))]
  ·rw [if_neg (by rw [h1];exact tP_J.symm),if_pos h1,if_pos h2];exact h3
 rw [runP_cons fs he]
 have hv:lineV S h=⟨wd h 1,(hdS h).mrk,S.had++packB (h::fs),S.facts⟩:=by
  rcases h1 with h1 | h1
  ·rw [hd_pack h1,pack_pack fs h1];unfold lineV;rw [if_pos h1]
  ·have n:wd h 0≠tPackage:=by rw [h1];exact tP_J.symm
   rw [hd_other n,pack_other fs n,List.append_nil];unfold lineV;rw [if_neg n,if_pos h1]
 rw [hv,run_facts fs (S:=⟨wd h 1,(hdS h).mrk,S.had++packB (h::fs),S.facts⟩) (h:=h) rfl rfl hf];rfl
theorem run_blocks {M:Mast}:∀ (bs:List (List Ws)) {S:St},(∀ b∈bs,okB M b)→(S.had++bs.flatMap packB).Nodup→∃ T,runP M S bs.flatten=(T,0)∧T.facts=S.facts++bs.flatMap factsB
 | [],S,_,_=>⟨S,rfl,by simp⟩
 | b::bs,S,hb,hn=>by
   obtain ⟨h,fs,rfl,hh,hf⟩:=hb b (List.mem_cons_self ..)
   have h1:=run_block (S:=S) hh hf (fun e hm=>by
    rw [List.flatMap_cons] at hn
    have h2:=(List.nodup_append.1 hn).2.2 _ hm (wd h 1) (List.mem_append_left _ (by rw [pack_pack fs e];exact List.mem_singleton.2 rfl))
    exact h2 rfl)
   rw [List.flatten_cons,runP_append _ _ h1]
   obtain ⟨T,h2,h3⟩:=run_blocks bs (S:=⟨wd h 1,(hdS h).mrk,S.had++packB (h::fs),S.facts++factsB (h::fs)⟩) (fun x hx=>hb x (List.mem_cons_of_mem _ hx)) (by rw [List.append_assoc,←List.flatMap_cons];exact hn)
   exact ⟨T,h2,by rw [h3,List.flatMap_cons,List.append_assoc]⟩
theorem facts_ok {M:Mast} {h:Ws} {rest:List Ws} {T:St}:∀ (fs:List Ws) {S:St},S.ent=(hdS h).ent→S.mrk=(hdS h).mrk→(∀ f∈fs,wd f 0=tFact)→runP M S (fs++rest)=(T,0) →
 (∀ f∈fs,factOk M h f)∧runP M ⟨S.ent,S.mrk,S.had,S.facts++fs.map (factV (hdS h))⟩ rest=(T,0)
 | [],S,_,_,_,hr=>⟨fun _ hf=>(by cases hf),by simpa using hr⟩
 | f::fs,S,h1,h2,hf,hr=>by
   have f1:=hf f (List.mem_cons_self ..)
   by_cases he:lineE M S f=0
   ·rw [List.cons_append,runP_cons _ he,lineV_fact f1] at hr
    obtain ⟨i1,i2⟩:=facts_ok fs (S:=⟨S.ent,S.mrk,S.had,S.facts++[factV S f]⟩) h1 h2 (fun g hg=>hf g (List.mem_cons_of_mem _ hg)) hr
    have f2:f.length=5:=by
     rcases line_ways he with ⟨e,_⟩ | ⟨e,_⟩ | ⟨_,e,_⟩
     ·rw [f1] at e;exact absurd e.symm tP_F
     ·rw [f1] at e;exact absurd e.symm tJ_F
     ·exact e
    refine ⟨fun g hg=>?_,?_⟩
    ·rcases List.mem_cons.1 hg with rfl | hg
     ·exact ⟨f1,f2,by rw [lineE_fact f1 f2,factE_like h1 h2] at he;exact he⟩
     ·exact i1 g hg
    ·rw [factV_like h1 h2] at i2
     rw [List.map_cons]
     rw [List.append_assoc] at i2
     exact i2
   ·rw [List.cons_append,runP_stop _ he] at hr
    exact absurd (Prod.mk.inj hr).2 he
theorem blocks_ok {M:Mast} {T:St}:∀ (bs:List (List Ws)) {S:St},(∀ b∈bs,∃ h fs,b=h::fs∧wd h 0≠tFact∧∀ f∈fs,wd f 0=tFact)→runP M S bs.flatten=(T,0) →
 (∀ b∈bs,okB M b)∧(S.had.Nodup→(S.had++bs.flatMap packB).Nodup)∧T.facts=S.facts++bs.flatMap factsB
 | [],S,_,hr=>by
   simp only [List.flatten_nil,runP,Prod.mk.injEq] at hr
   rw [←hr.1]
   exact ⟨fun _ hb=>(by cases hb),fun h=>(by simpa using h),(by simp)⟩
 | b::bs,S,hb,hr=>by
   obtain ⟨h,fs,rfl,h0,hf⟩:=hb b (List.mem_cons_self ..)
   rw [List.flatten_cons,List.cons_append] at hr
   by_cases he:lineE M S h=0
   ·rw [runP_cons _ he] at hr
    have hcore:headOk M h∧(wd h 0=tPackage→wd h 1 ∉ S.had)∧lineV S h=⟨wd h 1,(hdS h).mrk,S.had++packB (h::fs),S.facts⟩:=by
     rcases line_ways he with ⟨e1,e2,e3,e4,e5⟩ | ⟨e1,e2,e3,e4⟩ | ⟨e1,_⟩
     ·refine ⟨⟨.inl e1,e2,e3⟩,fun _=>e4,?_⟩
      rw [e5,hd_pack e1,pack_pack fs e1]
     ·have n:wd h 0≠tPackage:=by rw [e1];exact tP_J.symm
      refine ⟨⟨.inr e1,e2,e3⟩,fun e=>absurd e n,?_⟩
      rw [e4,hd_other n,pack_other fs n,List.append_nil]
     ·exact absurd e1 h0
    obtain ⟨c1,c2,c3⟩:=hcore
    rw [c3] at hr
    obtain ⟨f1,f2⟩:=facts_ok (h:=h) (S:=⟨wd h 1,(hdS h).mrk,S.had++packB (h::fs),S.facts⟩) fs rfl rfl hf hr
    obtain ⟨i1,i2,i3⟩:=blocks_ok bs (fun x hx=>hb x (List.mem_cons_of_mem _ hx)) f2
    refine ⟨fun x hx=>?_,fun hn=>?_,?_⟩
    ·rcases List.mem_cons.1 hx with rfl | hx
     ·exact ⟨h,fs,rfl,c1,f1⟩
     ·exact i1 x hx
    ·rw [List.flatMap_cons,←List.append_assoc]
     refine i2 ?_
     rw [List.nodup_append]
     refine ⟨hn,?_,fun x hx y hy e=>?_⟩
     ·by_cases hq:wd h 0=tPackage
      ·rw [pack_pack fs hq];simp
      ·rw [pack_other fs hq];simp
     by_cases hq:wd h 0=tPackage
     ·rw [pack_pack fs hq] at hy
      rw [List.mem_singleton.1 hy] at e
      exact c2 hq (by rw [←e];exact hx)
     ·rw [pack_other fs hq] at hy;cases hy
    ·rw [i3,List.flatMap_cons,←List.append_assoc];rfl
   ·rw [runP_stop _ he] at hr
    exact absurd (Prod.mk.inj hr).2 he
def turnB {α:Type} (k:Nat):List α→List α
 | []=>[]
 | h::fs=>h::rotL k fs
def turnL {α:Type} (i k:Nat) (bs:List (List α)):List α:=((rotL i bs).map (turnB k)).flatten
theorem turnB_perm {α:Type} (k:Nat) (b:List α):(turnB k b).Perm b:=by
 cases b with
 | nil=>exact .refl _
 | cons h fs=>exact (rot_perm k fs).cons h
theorem turnL_perm {α:Type} (i k:Nat) (bs:List (List α)):(turnL i k bs).Perm bs.flatten:=by
 unfold turnL
 rw [←List.flatMap_def,←List.flatMap_id]
 exact (flat_perm _ (rot_perm i bs)).trans (flat_perm2 bs fun b _=>turnB_perm k b)
theorem turnB_map {α β:Type} (f:α→β) (k:Nat) (b:List α):(turnB k b).map f=turnB k (b.map f):=by
 cases b with
 | nil=>rfl
 | cons h fs=>simp only [turnB,List.map_cons,rot_map]
theorem turnL_map {α β:Type} (f:α→β) (i k:Nat) (bs:List (List α)):(turnL i k bs).map f=turnL i k (bs.map (List.map f)):=by
 unfold turnL
 rw [List.map_flatten,List.map_map,←rot_map,List.map_map]
 congr 1
 refine List.map_congr_left fun b _=>?_
 exact turnB_map f k b
theorem turnB_ok {M:Mast} (k:Nat) {b:List Ws} (h:okB M b):okB M (turnB k b)∧(factsB (turnB k b)).Perm (factsB b)∧packB (turnB k b)=packB b:=by
 obtain ⟨g,fs,rfl,h1,h2⟩:=h
 exact ⟨⟨g,rotL k fs,rfl,h1,fun f hf=>h2 f ((rot_perm k fs).mem_iff.1 hf)⟩,(rot_perm k fs).map _,rfl⟩
theorem turn_run {M:Mast} {bs:List (List Ws)} (i k:Nat) (hb:∀ b∈bs,okB M b) (hn:(bs.flatMap packB).Nodup):∃ T,runP M st0 (turnL i k bs)=(T,0)∧T.facts.Perm (bs.flatMap factsB):=by
 have hb':∀ b∈rotL i bs,okB M b:=fun b h=>hb b ((rot_perm i bs).mem_iff.1 h)
 have e1:((rotL i bs).map (turnB k)).flatMap packB=(rotL i bs).flatMap packB:=by
  rw [List.flatMap_map]
  generalize rotL i bs=cs at hb'
  induction cs with
  | nil=>rfl
  | cons b cs ih=>rw [List.flatMap_cons,List.flatMap_cons,(turnB_ok k (hb' b (List.mem_cons_self ..))).2.2,ih fun x hx=>hb' x (List.mem_cons_of_mem _ hx)]
 obtain ⟨T,h1,h2⟩:=run_blocks ((rotL i bs).map (turnB k)) (S:=st0) (fun b h=>by
  obtain ⟨c,hc,rfl⟩:=List.mem_map.1 h
  exact (turnB_ok k (hb' c hc)).1) (by
  rw [e1,show st0.had=[] from rfl,List.nil_append]
  exact ((flat_perm packB (rot_perm i bs)).nodup_iff).2 hn)
 refine ⟨T,h1,?_⟩
 rw [h2,show st0.facts=[] from rfl,List.nil_append,List.flatMap_map]
 exact (flat_perm2 _ fun b h=>(turnB_ok k (hb' b h)).2.1).trans (flat_perm factsB (rot_perm i bs))
theorem isum_perm' {l l':List Fact} (h:l.Perm l') (k:Key):isum l k=isum l' k:=by
 induction h with
 | nil=>rfl
 | cons x _ ih=>rw [isum_cons,isum_cons,ih]
 | swap x y l=>rw [isum_cons,isum_cons,isum_cons,isum_cons];omega
 | trans _ _ ih1 ih2=>exact ih1.trans ih2
theorem num_le:∀ (l:List UInt8) (n:Nat),digs l=true→num n l+1≤(n+1) * 10 ^ l.length
 | [],n,_=>by simp [num]
 | c::r,n,h=>by
   rw [digs_cons,Bool.and_eq_true,dig_iff] at h
   have ih:=num_le r (n * 10+(c.toNat - 48)) h.2
   rw [num_cons,List.length_cons,Nat.pow_succ]
   refine Nat.le_trans ih ?_
   rw [Nat.mul_comm (10 ^ r.length) 10,←Nat.mul_assoc]
   exact Nat.mul_le_mul_right _ (by omega)
theorem val_le {l:List UInt8} (hw:whole l=true) (hl:l.length≤15):-1000000000000000≤val l∧val l≤1000000000000000:=by
 have key:∀ r:List UInt8,digs r=true→r.length≤15→num 0 r≤1000000000000000:=fun r hd hr=>by
  have h1:=num_le r 0 hd
  have h2:10 ^ r.length≤10 ^ 15:=Nat.pow_le_pow_right (by omega) hr
  omega
 cases l with
 | nil=>cases hw
 | cons c r =>
   by_cases h45:c=45
   ·subst h45
    rw [val_minus]
    rw [whole_minus] at hw
    obtain ⟨c',r',e,_,hd⟩:=plainNum_cons hw
    rw [←e] at hd
    have:=key r hd (by simp at hl;omega)
    omega
   ·rw [val_other r h45]
    have:=key _ (whole_digs h45 hw) hl
    omega
theorem parseV_le {l:List UInt8} (hl:l.length≤15):-1000000000000000≤parseV l∧parseV l≤1000000000000000:=by
 unfold parseV
 split
 ·rename_i hw
  split
  ·exact val_le hw hl
  ·omega
 ·omega
theorem turned_same {M:Mast} {bs:List (List Ws)} (i k:Nat) {T:St} (hsh:∀ b∈bs,∃ h fs,b=h::fs∧wd h 0≠tFact∧∀ f∈fs,wd f 0=tFact)
 (hr:runP M st0 bs.flatten=(T,0)) (hs:∀ b∈bs,∀ f∈b,wd f 0=tFact→(wd f 4).size≤15) (hn:T.facts.length≤1000) :
 endP (runP M st0 (turnL i k bs))=ofL T.facts:=by
 obtain ⟨h1,h2,h3⟩:=blocks_ok bs hsh hr
 rw [show st0.had=[] from rfl,List.nil_append] at h2
 rw [show st0.facts=[] from rfl,List.nil_append] at h3
 obtain ⟨T',h4,h5⟩:=turn_run i k h1 (h2 List.nodup_nil)
 rw [h4,endP_ok]
 have hB:Bnd 1000000000000000 T.facts:=by
  intro f hf
  rw [h3] at hf
  obtain ⟨b,hb,hf⟩:=List.mem_flatMap.1 hf
  obtain ⟨g,fs,rfl,_,h7⟩:=h1 b hb
  unfold factsB at hf
  obtain ⟨x,hx,rfl⟩:=List.mem_map.1 hf
  have:=hs _ hb x (List.mem_cons_of_mem _ hx) (h7 x hx).1
  exact parseV_le (by rw [size_list];exact this)
 rw [←h3] at h5
 have hB':Bnd 1000000000000000 T'.facts:=fun f hf=>hB f (h5.mem_iff.1 hf)
 have hl:T'.facts.length=T.facts.length:=h5.length_eq
 rw [ofL_fit (by decide) hB (m:=1000) (fun k=>Nat.le_trans (amts_length _ _) hn) (by decide),ofL_fit (by decide) hB' (m:=1000) (fun k=>Nat.le_trans (amts_length _ _) (by omega)) (by decide)]
 congr 1
 refine cube_eq fun k=>?_
 exact isum_perm' h5 k
end Go.Proofs.YtdegffffcbhjbaaGreatDoor.Pk
end
section
namespace Go.Proofs.YtdegffffcbhjbaaGreatDoor.Pk
open Go.RowKit Go.Maps Go.Proofs.YtdegffffcbhjbaaGreatDoor.Un
structure Sl where
 p:Option Addr
 n:Nat
 c:Nat
abbrev nilSl:Sl:=⟨none,0,0⟩
abbrev Sl.val (s:Sl):Value:=.slice s.p s.n s.c
def encSl:Enc Sl where
 cs s:=[.slice s.p s.n s.c]
 k:=1
 len _:=rfl
 pos:=by decide
 one a v hv:=by simp at hv;rw [hv];rfl
structure LV where
 num:Int
 sl:Sl
def encLV:Enc LV where
 cs x:=[.int .i64 x.num,.slice x.sl.p x.sl.n x.sl.c]
 k:=2
 len _:=rfl
 pos:=by decide
 one a v hv:=by simp at hv;rcases hv with rfl | rfl <;> rfl
theorem infoLn:InfoE Tryz.prog 64 69 encLV:=.of (z:=.agg #[.int .i64 0,.slice none 0 0]) (n:=32) Tryz.underlying64 (by kernel_rfl) rfl (by decide)
theorem infoBk:InfoE Tryz.prog 72 69 encLV:=.of (z:=.agg #[.int .i64 0,.slice none 0 0]) (n:=32) Tryz.underlying72 (by kernel_rfl) rfl (by decide)
theorem infoBs:InfoE Tryz.prog 70 72 encSl:=.of (z:=.slice none 0 0) (n:=24) Tryz.underlying70 (by kernel_rfl) rfl (by decide)
theorem two_lv {w:World} {b o:Nat} {x:LV} (h:ElAt encLV w b o x):w.cell? ⟨b,o,none⟩=some (.int .i64 x.num)∧w.cell? ⟨b,o+1,none⟩=some (.slice x.sl.p x.sl.n x.sl.c):=⟨h 0 _ rfl,h 1 _ rfl⟩
def LnIs (w0:World) (x:LV) (y:Ln):Prop:=x.num=y.1∧StrsV w0 x.sl.val y.2
def LnsAre (w0:World) (X:List LV) (Y:List Ln):Prop:=X.length=Y.length∧∀ (i:Nat) (x:LV) (y:Ln),X[i]?=some x→Y[i]?=some y→LnIs w0 x y
theorem LnsAre.nil (w0:World):LnsAre w0 [] []:=⟨rfl,fun i x y h=>by simp at h⟩
theorem LnsAre.snoc {w0:World} {X:List LV} {Y:List Ln} {x:LV} {y:Ln} (h:LnsAre w0 X Y) (hx:LnIs w0 x y):LnsAre w0 (X++[x]) (Y++[y]):=by
 refine ⟨by rw [List.length_append,List.length_append,h.1];rfl,fun i a b ha hb=>?_⟩
 by_cases hi:i < X.length
 ·rw [List.getElem?_append_left hi] at ha
  rw [List.getElem?_append_left (by rw [←h.1];exact hi)] at hb
  exact h.2 i a b ha hb
 ·have e:i=X.length:=by
   have:=(List.getElem?_eq_some_iff.1 ha).1
   rw [List.length_append,List.length_singleton] at this;omega
  subst e
  rw [List.getElem?_append_right (Nat.le_refl _),Nat.sub_self] at ha
  rw [List.getElem?_append_right (by rw [h.1];exact Nat.le_refl _),h.1,Nat.sub_self] at hb
  cases ha;cases hb
  exact hx
theorem lines_own {w0 w:World} {B:Nat} {v:Value} {X:List LV} {Y:List Ln} (h:w.ownsRow B 69 2 v X.length (flat encLV X)) (hl:LnsAre w0 X Y) (hb:Below w0.heap.size w0 w):LinesV w v Y:=by
 obtain ⟨p,c,e,h1,h2,h3,hc⟩:=els_of_own (E:=encLV) h
 refine ⟨p,c,by rw [e,hl.1],by rw [←hl.1];omega,fun i y hy=>?_⟩
 obtain ⟨x,hx⟩:∃ x,X[i]?=some x:=⟨_,List.getElem?_eq_getElem (by rw [hl.1];exact (List.getElem?_eq_some_iff.1 hy).1)⟩
 obtain ⟨b,o,e',hat⟩:=hc i x hx
 obtain ⟨t0,t1⟩:=two_lv hat
 obtain ⟨i1,i2⟩:=hl.2 i x y hx hy
 refine ⟨b,o,x.sl.val,e',?_,t1,i2.keep hb⟩
 rw [←i1];exact t0
theorem own_raise {w:World} {B B':Nat} {e:TypeId} {s n:Nat} {v:Value} {xs:List Value} (h:w.ownsRow B e s v n xs) (hb:∀ g,v.ownBlock=some g→B'≤g):w.ownsRow B' e s v n xs:=by
 refine ⟨h.1,?_⟩
 rcases h.2 with h2 | ⟨g,cap,cur,rfl,_,rest⟩
 ·exact .inl h2
 ·exact .inr ⟨g,cap,cur,rfl,hb g rfl,rest⟩
structure BlkAt (w0 w:World) (B Bk:Nat) (v:Value) (SL:List Sl) (bs:List (List Ln)):Prop where
 out:w.ownsRow B 72 1 v SL.length (flat encSl SL)
 len:SL.length=bs.length
 inn:∀ (i:Nat) (s:Sl) (b:List Ln),SL[i]?=some s→bs[i]?=some b→∃ X,w.ownsRow B 69 2 s.val X.length (flat encLV X)∧LnsAre w0 X b
 low:∀ (i:Nat) (s:Sl) (g:Nat),SL[i]?=some s→i+1 < SL.length→s.val.ownBlock=some g→g < Bk
 hi:∀ (s:Sl) (g:Nat),SL[SL.length - 1]?=some s→s.val.ownBlock=some g→Bk≤g
 bk:B≤Bk∧Bk≤w.heap.size
theorem BlkAt.zero (w0 w:World) (B:Nat) (hB:B≤w.heap.size):BlkAt w0 w B B (.slice none 0 0) [] [] :=
 ⟨World.ownsRow_nil _ _ _ _,rfl,fun i s b h=>by simp at h,fun i s g h=>by simp at h,fun s g h=>by simp at h,Nat.le_refl _,hB⟩
theorem BlkAt.below {w0 w w':World} {B Bk:Nat} {v:Value} {SL:List Sl} {bs:List (List Ln)} (h:BlkAt w0 w B Bk v SL bs) (hb:Below w.heap.size w w'):BlkAt w0 w' B Bk v SL bs :=
 ⟨row_below h.out hb,h.len,(fun i s b h1 h2=>(h.inn i s b h1 h2).elim fun X hX=>⟨X,row_below hX.1 hb,hX.2⟩),h.low,h.hi,h.bk.1,Nat.le_trans h.bk.2 hb.size⟩
theorem BlkAt.push {w0 w w':World} {B Bk:Nat} {v v':Value} {SL:List Sl} {bs:List (List Ln)} (h:BlkAt w0 w B Bk v SL bs) (hg:w.grownBy w' v.ownBlock)
 (hr:w'.ownsRow B 72 1 v' (SL++[nilSl]).length (flat encSl (SL++[nilSl]))):BlkAt w0 w' B w'.heap.size v' (SL++[nilSl]) (bs++[[]]):=by
 have hk:∀ (i:Nat) (s:Sl) (b:List Ln),SL[i]?=some s→bs[i]?=some b→∃ X,w'.ownsRow B 69 2 s.val X.length (flat encLV X)∧LnsAre w0 X b:=fun i s b h1 h2=>by
  obtain ⟨X,h3,h4⟩:=h.inn i s b h1 h2
  exact ⟨X,h3.kept hg (own_apart (by decide) h.out h3),h4⟩
 refine ⟨hr,by rw [List.length_append,List.length_append,h.len];rfl,fun i s b h1 h2=>?_,fun i s g h1 h2 h3=>?_,fun s g h1 h2=>?_,Nat.le_trans (Nat.le_trans h.bk.1 h.bk.2) hg.size,Nat.le_refl _⟩
 ·by_cases hi:i < SL.length
  ·rw [List.getElem?_append_left hi] at h1
   rw [List.getElem?_append_left (by rw [←h.len];exact hi)] at h2
   exact hk i s b h1 h2
  ·have e:i=SL.length:=by
    have:=(List.getElem?_eq_some_iff.1 h1).1
    rw [List.length_append,List.length_singleton] at this;omega
   subst e
   rw [List.getElem?_append_right (Nat.le_refl _),Nat.sub_self] at h1
   rw [List.getElem?_append_right (by rw [h.len];exact Nat.le_refl _),h.len,Nat.sub_self] at h2
   cases h1;cases h2
   exact ⟨[],World.ownsRow_nil _ _ _ _,LnsAre.nil w0⟩
 ·rw [List.length_append,List.length_singleton] at h2
  have hi:i < SL.length:=by omega
  rw [List.getElem?_append_left hi] at h1
  obtain ⟨X,h4,_⟩:=h.inn i s (bs[i]'(by rw [←h.len];exact hi)) h1 (List.getElem?_eq_getElem _)
  have:=(h4.lt _ h3).2
  exact Nat.lt_of_lt_of_le this hg.size
 ·rw [List.length_append,List.length_singleton,Nat.add_sub_cancel,List.getElem?_append_right (Nat.le_refl _),Nat.sub_self] at h1
  cases h1
  simp [Value.ownBlock] at h2
theorem last_at {α:Type} {l:List α} {x:α} (h:l[l.length - 1]?=some x):l=l.dropLast++[x]:=by
 have hne:l≠[]:=fun e=>by subst e;simp at h
 rw [←List.getLast?_eq_getElem?] at h
 rw [List.getLast?_eq_some_getLast hne] at h
 cases h
 exact (List.dropLast_concat_getLast hne).symm
theorem BlkAt.more {w0 w w':World} {B Bk g n c:Nat} {SL:List Sl} {bs:List (List Ln)} {s t:Sl} {b:List Ln} {x:LV} {y:Ln} {X:List LV} (h:BlkAt w0 w B Bk (.slice (some ⟨g,0,none⟩) n c) SL bs) (hs:SL[SL.length - 1]?=some s) (hb:bs[bs.length - 1]?=some b) (hX:LnsAre w0 X b)
 (hx:LnIs w0 x y) (hg:w.grownBy w' s.val.ownBlock) (hr:w'.ownsRow Bk 69 2 t.val (X++[x]).length (flat encLV (X++[x]))) :
 BlkAt w0 (w'.setCell ⟨g,SL.length - 1,none⟩ t.val) B Bk (.slice (some ⟨g,0,none⟩) n c) (SL.dropLast++[t]) (bs.dropLast++[b++[y]])∧w'.frozen? ⟨g,SL.length - 1,none⟩=false∧w'.cell? ⟨g,SL.length - 1,none⟩=some s.val:=by
 have eS:=last_at hs
 have eB:=last_at hb
 have hS1:0 < SL.length:=by have:=(List.getElem?_eq_some_iff.1 hs).1;omega
 obtain ⟨Xo,hXo,_⟩:=h.inn _ s b hs (by rw [h.len];exact hb)
 have ho:=h.out.kept hg (own_apart (by decide) hXo h.out)
 have en:n=SL.length:=by
  rcases h.out.2 with ⟨h',_⟩ | ⟨g',cap,cur,h',_⟩
  ·cases h'
  ·cases h';rfl
 subst en
 obtain ⟨o1,o2⟩:=World.ownsRow.stored ho (SL.length - 1) t.val
 have e1:(flat encSl SL).set (SL.length - 1) t.val=flat encSl (SL.dropLast++[t]):=by
  have:=Fa.putL_flat encSl SL (SL.length - 1) t (by omega)
  rw [show encSl.k=1 from rfl,Nat.mul_one] at this
  rw [show (flat encSl SL).set (SL.length - 1) t.val=Fa.putL (flat encSl SL) (SL.length - 1) (encSl.cs t) from rfl,this]
  congr 1
  rw [List.set_eq_take_append_cons_drop,if_pos (by omega),show SL.length - 1+1=SL.length by omega,List.drop_length,List.dropLast_eq_take]
 have el:(SL.dropLast++[t]).length=SL.length:=by rw [List.length_append,List.length_dropLast,List.length_singleton];omega
 have elb:(bs.dropLast++[b++[y]]).length=bs.length:=by
  have h1:=h.len
  rw [h1] at hS1
  rw [List.length_append,List.length_dropLast,List.length_singleton];omega
 rw [e1] at o1
 have hsame:∀ (i:Nat) (u:Sl),(SL.dropLast++[t])[i]?=some u→i+1 < SL.length→SL[i]?=some u:=fun i u hu hi=>by
  rw [List.getElem?_append_left (by rw [List.length_dropLast];omega)] at hu
  rw [eS,List.getElem?_append_left (by rw [List.length_dropLast];omega)]
  exact hu
 have hsameB:∀ (i:Nat) (u:List Ln),(bs.dropLast++[b++[y]])[i]?=some u→i+1 < SL.length→bs[i]?=some u:=fun i u hu hi=>by
  have:=h.len
  rw [List.getElem?_append_left (by rw [List.length_dropLast];omega)] at hu
  rw [eB,List.getElem?_append_left (by rw [List.length_dropLast];omega)]
  exact hu
 have hlastS:∀ (u:Sl),(SL.dropLast++[t])[SL.length - 1]?=some u→u=t:=fun u hu=>by
  rw [List.getElem?_append_right (by rw [List.length_dropLast];exact Nat.le_refl _),List.length_dropLast,Nat.sub_self] at hu
  exact (Option.some.inj hu).symm
 have hlastB:∀ (u:List Ln),(bs.dropLast++[b++[y]])[SL.length - 1]?=some u→u=b++[y]:=fun u hu=>by
  rw [h.len,List.getElem?_append_right (by rw [List.length_dropLast];exact Nat.le_refl _),List.length_dropLast,Nat.sub_self] at hu
  exact (Option.some.inj hu).symm
 have hbl:∀ gl,t.val.ownBlock=some gl→Bk≤gl:=fun gl hgl=>(hr.lt gl hgl).1
 refine ⟨⟨by rw [el];exact o1,by rw [el,elb,h.len],fun i u bb h1 h2=>?_,fun i u gl h1 h2 h3=>?_,fun u gl h1 h2=>?_,h.bk.1,?_⟩,?_,?_⟩
 ·by_cases hi:i+1 < SL.length
  ·have h1':=hsame i u h1 hi
   obtain ⟨Xi,h3,h4⟩:=h.inn i u bb h1' (hsameB i bb h2 hi)
   have h5:u.val.ownBlock=none∨u.val.ownBlock≠s.val.ownBlock:=by
    cases hu:u.val.ownBlock with
    | none=>exact .inl rfl
    | some gu =>
      refine .inr fun e=>?_
      have k1:=h.low i u gu h1' hi hu
      have k2:=h.hi s gu hs e.symm
      omega
   have h6:=h3.kept hg h5
   exact ⟨Xi,h6.kept o2 (own_apart (by decide) ho h6),h4⟩
  ·have hlt:=(List.getElem?_eq_some_iff.1 h1).1
   rw [el] at hlt
   have ei:i=SL.length - 1:=by omega
   subst ei
   obtain rfl:=hlastS u h1
   obtain rfl:=hlastB bb h2
   exact ⟨X++[x],(own_raise hr (fun gl hgl=>Nat.le_trans h.bk.1 (hbl gl hgl))).kept o2 (own_apart (by decide) ho hr),hX.snoc hx⟩
 ·rw [el] at h2
  exact h.low i u gl (hsame i u h1 h2) h2 h3
 ·rw [el] at h1
  obtain rfl:=hlastS u h1
  exact hbl gl h2
 ·exact Nat.le_trans (Nat.le_trans h.bk.2 hg.size) o2.size
 ·rcases ho.2 with ⟨h',_⟩ | ⟨g',cap',cur,h',_,hgg,_⟩
  ·cases h'
  ·cases h';simp [World.frozen?,hgg]
 ·have:=ho.cells (g:=g) rfl (SL.length - 1) s.val (by
   have:=flat_at (E:=encSl) SL (SL.length - 1) s hs 0 _ rfl
   rwa [show encSl.k=1 from rfl,Nat.mul_one,Nat.add_zero] at this)
  rwa [add_off,Nat.zero_add] at this
end Go.Proofs.YtdegffffcbhjbaaGreatDoor.Pk
end
section
namespace Go.Proofs.YtdegffffcbhjbaaGreatDoor.Pk
open Go.RowKit Go.Maps Go.Proofs.YtdegffffcbhjbaaGreatDoor.Un
def outOne (out:List (List Ln)) (x:Ln):List (List Ln):=if isFct x=false∨out=[] then out++[[]] else out
theorem step_two (out:List (List Ln)) (x:Ln):stepB out x=(outOne out x).dropLast++[(outOne out x).getLastD []++[x]]:=by
 unfold stepB outOne
 split
 ·simp
 ·rfl
def BlocksTold (w0 w:World) (B:Nat) (bs:List (List Ln)) (en:Ending) (w':World):Prop:=∃ Bk SL p c,en=.returned (.slice p SL.length c)∧BlkAt w0 w' B Bk (.slice p SL.length c) SL bs∧Below w.heap.size w w'
theorem len_flatten {α:Type}:∀ (l:List (List α)) (b:List α),b∈l→b.length≤l.flatten.length
 | a::l,b,h=>by
   rw [List.flatten_cons,List.length_append]
   rcases List.mem_cons.1 h with rfl | h
   ·omega
   ·have:=len_flatten l b h
    omega
theorem own_some {w:World} {B:Nat} {e:TypeId} {s n:Nat} {v:Value} {xs:List Value} (h:w.ownsRow B e s v n xs) (hn:0 < n):∃ g c,v=.slice (some ⟨g,0,none⟩) n c:=by
 rcases h.2 with ⟨_,h2⟩ | ⟨g,cap,cur,rfl,_⟩
 ·omega
 ·exact ⟨g,cap,rfl⟩
theorem el_newSl (w:World) (o:Obj) (t:TypeId):ElAt encSl ((w.alloc o).alloc (.cells #[.slice none 0 0] t)) (w.heap.size+1) 0 nilSl:=by
 have:=el_new encSl (w.alloc o) nilSl t
 rwa [World.size_alloc] at this
set_option maxRecDepth 100000 in
set_option maxHeartbeats 16000000 in
theorem blocks_any (v:Value) (L:List Ln) (w:World) (h:LinesV w v L) (hw:∀ x∈L,0 < x.2.length) (hL:L.length≤100000) :
 Calls Tryz.prog 22 #[v] w (BlocksTold w w w.heap.size (blocksL L)):=by
 obtain ⟨p,cp,rfl,hmx,hc⟩:=h
 have HC:=Lib.hid hc
 have HW:=Lib.hid hw
 obtain ⟨n,hn⟩:∃ n,L.length=n:=⟨_,rfl⟩
 rw [hn] at hmx hL ⊢
 have HN:=Lib.hid hn
 unfold maxLen at hmx
 clear hc hn hw
 go_enter Tryz.func22,Tryz.ntmps22
 go_wp2
 go_loopw [3,8] (fun s3 s8 wr=>∃ i:Nat,i≤n∧s8=.int .i64 (i:Int)∧Hid (∃ Bk SL,BlkAt w wr w.heap.size Bk s3 SL (blocksL (L.take i)))∧Hid (Below w.heap.size w wr)) (fun _ s8 _=>n - (intOf s8).toNat)
 case atStart=>exact ⟨0,Nat.zero_le _,rfl,Lib.hid ⟨_,[],BlkAt.zero w w w.heap.size (Nat.le_refl _)⟩,Lib.hid (Below.refl _ _)⟩
 case round =>
  obtain ⟨i,hi,rfl,HA,HB⟩:=hrel
  obtain ⟨Bk,SL,hat⟩:=HA.out
  obtain ⟨po,co,mo,hvo⟩:=own_sl hat.out
  have hlen:mo=SL.length:=by
   rcases hat.out.2 with ⟨h',h2⟩ | ⟨g',cap,cur,h',_⟩
   ·rw [hvo] at h';cases h';exact h2.symm
   ·rw [hvo] at h';cases h';rfl
  subst hlen
  subst hvo
  have HAT:=Lib.hid hat
  have hbl:=blocks_le (L.take i) []
  have hsl:SL.length≤i:=by
   rw [hat.len]
   have:(L.take i).length≤i:=by rw [List.length_take];exact Nat.min_le_left _ _
   simp only [List.length_nil,Nat.zero_add] at hbl
   exact Nat.le_trans hbl this
  clear hat HA hbl
  by_cases hlt:i < n
  rotate_left
  ·obtain rfl:i=n:=by omega
   have HE:Hid (BlkAt w wr w.heap.size Bk (.slice po SL.length co) SL (blocksL L)):=Lib.hid (by
    have:=HAT.out
    rwa [List.take_of_length_le (by rw [HN.out];exact Nat.le_refl _)] at this)
   clear HAT
   go_wp2
   go_ret
   exact ⟨Bk,SL,po,co,rfl,HE.out,HB.out⟩
  obtain ⟨⟨ln,ws⟩,hx⟩:∃ x,L[i]?=some x:=⟨_,List.getElem?_eq_getElem (by rw [HN.out];exact hlt)⟩
  obtain ⟨b,o,u,rfl,d0,d1,hu⟩:=HC.out i _ hx
  dsimp only at d0 d1 hu
  have hw0:=HW.out _ (List.mem_of_getElem? hx)
  dsimp only at hw0
  obtain ⟨t0,ht0⟩:∃ x,ws[0]?=some x:=⟨_,List.getElem?_eq_getElem hw0⟩
  have hwd:wd ws 0=t0:=wd_of ht0
  have q1:=qFact t0
  have HU:=Lib.hid hu
  obtain ⟨pu,cu,rfl,hcu,hmu,hcw⟩:=hu
  obtain ⟨gu,ou,rfl,w0⟩:=hcw 0 t0 ht0
  rw [Nat.add_zero] at w0
  have y0:=(HB.out.cell (World.block_lt_of_cell? w _ w0)).trans w0
  have e0:=(HB.out.cell (World.block_lt_of_cell? w _ d0)).trans d0
  have e1:=(HB.out.cell (World.block_lt_of_cell? w _ d1)).trans d1
  obtain ⟨nw,hnw⟩:∃ nw,ws.length=nw:=⟨_,rfl⟩
  rw [hnw] at e1 HU
  have hnp:0 < nw:=by omega
  have HTK:Hid (blocksL (L.take (i+1))=stepB (blocksL (L.take i)) (ln,ws)):=Lib.hid (by
   rw [List.take_add_one,hx]
   exact blocks_snoc _ _)
  have HIF:Hid (isFct (ln,ws)=decide (t0=tFact)):=Lib.hid (by unfold isFct;rw [hwd])
  have HLN:Hid (LnIs w ⟨ln,⟨some ⟨gu,ou,none⟩,nw,cu⟩⟩ (ln,ws)):=Lib.hid ⟨rfl,HU.out⟩
  have hbx:=(Below.refl wr.heap.size wr).alloc (Nat.le_refl _) (.cells #[.int .i64 ln,.slice (some ⟨gu,ou,none⟩) nw cu] 69)
  have HXB:Hid (BoxE encLV (wr.alloc (.cells #[.int .i64 ln,.slice (some ⟨gu,ou,none⟩) nw cu] 69)) wr.heap.size 69 ⟨ln,⟨some ⟨gu,ou,none⟩,nw,cu⟩⟩):=Lib.hid (BoxE.new encLV wr ⟨ln,⟨some ⟨gu,ou,none⟩,nw,cu⟩⟩ 69)
  have HA1:=Lib.hid (HAT.out.below hbx)
  have HB1:=Lib.hid (HB.out.alloc HB.out.size (.cells #[.int .i64 ln,.slice (some ⟨gu,ou,none⟩) nw cu] 69))
  have HLT0:Hid (∀ (i:Nat) (s:Sl) (g:Nat),SL[i]?=some s→s.val.ownBlock=some g→g < wr.heap.size):=Lib.hid (fun j s g h1 h2=>by
   obtain ⟨X,h3,_⟩:=HAT.out.inn j s ((blocksL (L.take i))[j]'(by rw [←HAT.out.len];exact (List.getElem?_eq_some_iff.1 h1).1)) h1 (List.getElem?_eq_getElem _)
   exact (h3.lt g h2).2)
  have HXN:Hid (∀ (X:List LV) (b:List Ln),b∈outOne (blocksL (L.take i)) (ln,ws)→LnsAre w X b→X.length≤100000):=Lib.hid (fun X b hb hX=>by
   rw [hX.1]
   have h1:=blocks_flat (L.take i)
   have h2:b.length≤i:=by
    unfold outOne at hb
    have h3:b∈blocksL (L.take i)→b.length≤i:=fun h=>by
     have h4:=List.length_take_le i L
     rw [←h1] at h4
     exact Nat.le_trans (len_flatten _ _ h) h4
    split at hb
    ·rcases List.mem_append.1 hb with h | h
     ·exact h3 h
     ·rw [List.mem_singleton.1 h];exact Nat.zero_le _
    ·exact h3 hb
   omega)
  have y1:=(hbx.cell (World.block_lt_of_cell? _ _ y0)).trans y0
  clear hx hwd d0 d1 hcw hcu hmu hw0 ht0 hnw w0 HAT hbx
  by_cases hnew:isFct (ln,ws)=false∨blocksL (L.take i)=[]
  ·have HBS0:Hid (blocksL (L.take i)++[[]]=outOne (blocksL (L.take i)) (ln,ws)):=Lib.hid (by unfold outOne;rw [if_pos hnew])
   have hway:(t0≠tFact)∨(t0=tFact∧SL.length=0):=by
    by_cases h1:t0=tFact
    ·refine .inr ⟨h1,?_⟩
     rcases hnew with h2 | h2
     ·rw [HIF.out,decide_eq_true h1] at h2;cases h2
     ·rw [HA1.out.len,h2];rfl
    ·exact .inl h1
   clear hnew
   rcases hway with hf | ⟨hf,hz⟩
   ·rw [decide_eq_false hf] at q1
    clear hf
    go_wp2_with (first
     | (at_builtin;go_must (refine wpList_append_el (E:=encSl) rfl _ _ 70 72 rfl infoBs w.heap.size SL nilSl (wr.heap.size+1) (HA1.out.out.alloc _) rfl (el_newSl _ _ _) (by have:=HB.out.size;simp;omega) (by omega) ?_);intro v9 W2 hr9 hb9 hg9;have HR9:=Lib.hid hr9;have HB9:=Lib.hid hb9;have HG9:=Lib.hid hg9;clear hr9 hb9 hg9)
     | fail)
    clear e0 e1 y0 y1
    have hbn:=(Below.refl (wr.alloc (.cells #[.int .i64 ln,.slice (some ⟨gu,ou,none⟩) nw cu] 69)).heap.size (wr.alloc (.cells #[.int .i64 ln,.slice (some ⟨gu,ou,none⟩) nw cu] 69))).alloc (Nat.le_refl _) (.cells #[.slice none 0 0] 72)
    have hA2:=(HA1.out.below hbn).push HG9.out HR9.out
    have HX2:=Lib.hid (box_append (HXB.out.kept hbn) (HA1.out.below hbn).out (by decide) HG9.out)
    have HB2:=Lib.hid ((HB1.out.alloc HB1.out.size (.cells #[.slice none 0 0] 72)).trans HB9.out)
    obtain ⟨SL2,hSL2⟩:∃ S,SL++[nilSl]=S:=⟨_,rfl⟩
    obtain ⟨k,hk0⟩:∃ k,SL.length=k:=⟨_,rfl⟩
    have hk:SL2.length=k+1:=by rw [←hSL2,List.length_append,hk0];rfl
    have HLT:Hid (∀ (s:Sl),SL2[SL2.length - 1]?=some s→∀ j,s.val.ownBlock=some j→j < wr.heap.size):=Lib.hid (fun s h1 j h2=>by
     rw [←hSL2,List.length_append,List.length_singleton,Nat.add_sub_cancel,List.getElem?_append_right (Nat.le_refl _),Nat.sub_self] at h1
     cases h1
     simp [Value.ownBlock] at h2)
    obtain ⟨bs2,hbs2⟩:∃ b,blocksL (L.take i)++[[]]=b:=⟨_,rfl⟩
    have HBS:=HBS0
    rw [hSL2,hbs2] at hA2
    rw [hbs2] at HBS
    obtain ⟨Bk2,hBk2⟩:∃ B,W2.heap.size=B:=⟨_,rfl⟩
    rw [hBk2] at hA2
    have hr9:=HR9.out
    rw [hSL2,hk] at hr9
    obtain ⟨go,co2,e2⟩:=own_some hr9 (by omega)
    subst e2
    have HA2:=Lib.hid hA2
    obtain ⟨g0,hg0⟩:∃ g,wr.heap.size=g:=⟨_,rfl⟩
    rw [hg0] at HX2 HLT ⊢
    have hkc:k≤i:=by omega
    clear hbn hA2 hSL2 hbs2 hBk2 hr9 hg0 HR9 HB9 HG9 hk0
    obtain ⟨s,hs⟩:∃ s,SL2[SL2.length - 1]?=some s:=⟨_,List.getElem?_eq_getElem (by omega)⟩
    obtain ⟨b0,hb0⟩:∃ b,bs2[bs2.length - 1]?=some b:=⟨_,List.getElem?_eq_getElem (by rw [←HA2.out.len];omega)⟩
    obtain ⟨X,hX,hXl⟩:=HA2.out.inn _ s b0 hs (by rw [HA2.out.len];exact hb0)
    have hrow:=own_raise (B':=Bk2) hX (HA2.out.hi s · hs)
    have hXlen:X.length≤100000:=HXN.out X b0 (by rw [←HBS.out];exact List.mem_of_getElem? hb0) hXl
    have hc9:W2.cell? ⟨go,k,none⟩=some (.slice s.p s.n s.c):=by
     have:=HA2.out.out.cells (g:=go) rfl (SL2.length - 1) s.val (by
      have:=flat_at (E:=encSl) SL2 (SL2.length - 1) s hs 0 _ rfl
      rwa [show encSl.k=1 from rfl,Nat.mul_one,Nat.add_zero] at this)
     rwa [add_off,Nat.zero_add,show SL2.length - 1=k by omega] at this
    have hso:∀ j,s.val.ownBlock=some j→j < g0:=HLT.out s hs
    have hgo:go≠g0:=fun e0=>by
     rcases boxE_apart HX2.out HA2.out.out (by decide) with h1 | h1
     ·simp [Value.ownBlock] at h1
     ·exact h1 (by simp [Value.ownBlock,e0])
    have hgB:w.heap.size≤go:=(HA2.out.out.lt go rfl).1
    have HGB:=Lib.hid hgB
    have HROW:=Lib.hid hrow
    have HS:=Lib.hid hs
    have HB0:=Lib.hid hb0
    have HXL:=Lib.hid hXl
    have HXLEN:=Lib.hid hXlen
    have HSO:=Lib.hid hso
    obtain ⟨l0,l1⟩:=two_lv HX2.out.at0
    simp only [Nat.zero_add] at l0 l1
    have hok:g0≠go∧some g0≠s.val.ownBlock:=⟨fun e=>hgo e.symm,fun e=>by have:=hso g0 e.symm;omega⟩
    have r0:=fun q:Leave (fun j=>j≠go∧some j≠s.val.ownBlock) W2=>cell_leave l0 hok q
    have r1:=fun q:Leave (fun j=>j≠go∧some j≠s.val.ownBlock) W2=>cell_leave l1 hok q
    have HC9:=Lib.hid hc9
    clear l0 l1 hok hrow hs hb0 hXl hXlen hX hso hgo hgB hc9
    refine wp_region_plan_if (S:=fun w'=>∃ q:Leave (fun j=>j≠go∧some j≠s.val.ownBlock) W2,w'=q.its) (.two [0,1,2,3,4,5,6,7,8,10] 9 (.one [] 11 (.one [] 12 (.one [13] 14 (.last [])))) 11 (.one [] 9 (.one [] 12 (.one [13] 14 (.last []))))) (by kernel_rfl) (by kernel_rfl) (fun d _ _ _ _ h=>by cases d <;> exact h) ⟨⟨W2.drew,fun _ _ _=>rfl⟩,rfl⟩ ?_
    obtain ⟨wz,hwz⟩:∃ wz,W2.drew=wz:=⟨_,rfl⟩
    rw [hwz]
    have HQ3:Hid (Below W2.heap.size W2 wz):=Lib.hid (by rw [←hwz];exact ⟨rfl,rfl,rfl,Nat.le_refl _,fun _ _=>rfl⟩)
    have HSZ:Hid (W2.heap.size≤wz.heap.size):=Lib.hid HQ3.out.size
    clear hwz
    have HBQ:=Lib.hid (HB2.out.trans (HQ3.out.mono HB2.out.size))
    have HBA:=Lib.hid (HBQ.out.alloc HBQ.out.size (.cells #[.int .i64 ln,.slice (some ⟨gu,ou,none⟩) nw cu] 69))
    have hbz:=(Below.refl wz.heap.size wz).alloc (Nat.le_refl _) (.cells #[.int .i64 ln,.slice (some ⟨gu,ou,none⟩) nw cu] 69)
    have HRZ:=Lib.hid (row_below (row_below HROW.out HQ3.out) hbz)
    have HAZ:=Lib.hid ((HA2.out.below HQ3.out).below hbz)
    have HEL:Hid (ElAt encLV (wz.alloc (.cells #[.int .i64 ln,.slice (some ⟨gu,ou,none⟩) nw cu] 69)) wz.heap.size 0 ⟨ln,⟨some ⟨gu,ou,none⟩,nw,cu⟩⟩):=Lib.hid (el_new encLV wz ⟨ln,⟨some ⟨gu,ou,none⟩,nw,cu⟩⟩ 69)
    have z9:=(HQ3.out.cell (World.block_lt_of_cell? _ _ HC9.out)).trans HC9.out
    have x9:=(hbz.cell (World.block_lt_of_cell? _ _ z9)).trans z9
    have HBK:Hid (Bk2≤(wz.alloc (.cells #[.int .i64 ln,.slice (some ⟨gu,ou,none⟩) nw cu] 69)).heap.size):=Lib.hid HAZ.out.bk.2
    clear hbz
    have hkb:k≤200000:=by omega
    simp only [wpPlan,pick,nth]
    repeat (go_big_quiet_step (fail))
    refine wpQuiet_nil ?_
    clear r0 r1
    refine ⟨?_,?_⟩
    ·intro K hK
     refine alone_want (by kernel_rfl) ?_
     go_big_op
     refine hK _ _ (leave_in fun j _ hjl=>HQ3.out.block j hjl) ?_
     clear hK K
     refine wpQuiet_nil ?_
     intro K hK
     refine alone_want (by kernel_rfl) ?_
     go_big_op
     refine hK _ _ (leave_in fun j _ hjl=>(heap_alloc_old _ _ (by have:=HSZ.out;omega)).trans (HQ3.out.block j hjl)) ?_
     clear hK K
     refine wpQuiet_nil ?_
     intro K hK
     refine alone_want (by kernel_rfl) ?_
     refine wp_append_el (E:=encLV) (.tmp 34) (.tmp 36) 72 69 rfl infoBk Bk2 (.slice s.p s.n s.c) X ⟨ln,⟨some ⟨gu,ou,none⟩,nw,cu⟩⟩ wz.heap.size rfl HRZ.out rfl HEL.out HBK.out (by have:=HXLEN.out;omega) ?_
     intro v2 wa hr2 hb2 hg2
     have HG2:=Lib.hid hg2
     obtain ⟨p2,q2,m2,hv2⟩:=own_sl hr2
     subst hv2
     have hmore:=HAZ.out.more (t:=⟨p2,m2,q2⟩) HS.out HB0.out HXL.out HLN.out hg2 hr2
     rw [show SL2.length - 1=k by omega] at hmore
     obtain ⟨hma,fz,c9⟩:=hmore
     have HMA:=Lib.hid hma
     have HBW:=Lib.hid (HBA.out.trans (hb2.mono (HAZ.out.bk.1)))
     refine hK _ _ (leave_in fun j hj hjl=>?_) ?_
     ·rw [hg2.block j (by rw [World.size_alloc];have:=HSZ.out;omega) (fun e0=>hj.2 e0)]
      exact ((heap_alloc_old _ _ (by have:=HSZ.out;omega)).trans (HQ3.out.block j hjl))
     clear hK K hb2 hr2 hg2 hma
     simp only [Act.put,List.setIfInBounds_toArray,List.set_cons_zero,List.set_cons_succ]
     repeat (go_big_quiet_step (fail))
     refine wpQuiet_nil ?_
     intro K hK
     refine alone_want (by kernel_rfl) ?_
     go_big_op
     refine hK _ _ (leave_in fun j hj hjl=>?_) ?_
     ·rw [Below.heap_setCell _ _ _ _ (fun e0=>hj.1 e0),HG2.out.block j (by rw [World.size_alloc];have:=HSZ.out;omega) (fun e0=>hj.2 e0)]
      exact ((heap_alloc_old _ _ (by have:=HSZ.out;omega)).trans (HQ3.out.block j hjl))
     clear hK K
     refine wpQuiet_nil ?_
     have HNX:Hid (∃ Bk SL,BlkAt w (wa.setCell ⟨go,k,none⟩ (.slice p2 m2 q2)) w.heap.size Bk (.slice (some ⟨go,0,none⟩) (k+1) co2) SL (blocksL (L.take (i+1)))):=Lib.hid ⟨_,_,by
      have:=HMA.out
      rw [HTK.out,step_two,←HBS.out,List.getLastD_eq_getLast?,List.getLast?_eq_getElem?,HB0.out,Option.getD_some]
      exact this⟩
     have HBN:=Lib.hid (HBW.out.setCell (p:=⟨go,k,none⟩) HGB.out (.slice p2 m2 q2))
     clear z9 x9 c9 fz
     go_wp2
     go_roundw
     case rel=>exact ⟨i+1,by omega,by go_num,HNX,HBN⟩
     case measure=>simp [intOf];omega
    ·intro K hK
     refine alone_want (by kernel_rfl) ?_
     go_big_op
     refine hK _ _ (leave_in fun j _ hjl=>(heap_alloc_old _ _ (by have:=HSZ.out;omega)).trans (HQ3.out.block j hjl)) ?_
     clear hK K
     refine wpQuiet_nil ?_
     intro K hK
     refine alone_want (by kernel_rfl) ?_
     go_big_op
     refine hK _ _ (leave_in fun j _ hjl=>(heap_alloc_old _ _ (by have:=HSZ.out;omega)).trans (HQ3.out.block j hjl)) ?_
     clear hK K
     refine wpQuiet_nil ?_
     intro K hK
     refine alone_want (by kernel_rfl) ?_
     refine wp_append_el (E:=encLV) (.tmp 34) (.tmp 36) 72 69 rfl infoBk Bk2 (.slice s.p s.n s.c) X ⟨ln,⟨some ⟨gu,ou,none⟩,nw,cu⟩⟩ wz.heap.size rfl HRZ.out rfl HEL.out HBK.out (by have:=HXLEN.out;omega) ?_
     intro v2 wa hr2 hb2 hg2
     have HG2:=Lib.hid hg2
     obtain ⟨p2,q2,m2,hv2⟩:=own_sl hr2
     subst hv2
     have hmore:=HAZ.out.more (t:=⟨p2,m2,q2⟩) HS.out HB0.out HXL.out HLN.out hg2 hr2
     rw [show SL2.length - 1=k by omega] at hmore
     obtain ⟨hma,fz,c9⟩:=hmore
     have HMA:=Lib.hid hma
     have HBW:=Lib.hid (HBA.out.trans (hb2.mono (HAZ.out.bk.1)))
     refine hK _ _ (leave_in fun j hj hjl=>?_) ?_
     ·rw [hg2.block j (by rw [World.size_alloc];have:=HSZ.out;omega) (fun e0=>hj.2 e0)]
      exact ((heap_alloc_old _ _ (by have:=HSZ.out;omega)).trans (HQ3.out.block j hjl))
     clear hK K hb2 hr2 hg2 hma
     simp only [Act.put,List.setIfInBounds_toArray,List.set_cons_zero,List.set_cons_succ]
     repeat (go_big_quiet_step (fail))
     refine wpQuiet_nil ?_
     intro K hK
     refine alone_want (by kernel_rfl) ?_
     go_big_op
     refine hK _ _ (leave_in fun j hj hjl=>?_) ?_
     ·rw [Below.heap_setCell _ _ _ _ (fun e0=>hj.1 e0),HG2.out.block j (by rw [World.size_alloc];have:=HSZ.out;omega) (fun e0=>hj.2 e0)]
      exact ((heap_alloc_old _ _ (by have:=HSZ.out;omega)).trans (HQ3.out.block j hjl))
     clear hK K
     refine wpQuiet_nil ?_
     have HNX:Hid (∃ Bk SL,BlkAt w (wa.setCell ⟨go,k,none⟩ (.slice p2 m2 q2)) w.heap.size Bk (.slice (some ⟨go,0,none⟩) (k+1) co2) SL (blocksL (L.take (i+1)))):=Lib.hid ⟨_,_,by
      have:=HMA.out
      rw [HTK.out,step_two,←HBS.out,List.getLastD_eq_getLast?,List.getLast?_eq_getElem?,HB0.out,Option.getD_some]
      exact this⟩
     have HBN:=Lib.hid (HBW.out.setCell (p:=⟨go,k,none⟩) HGB.out (.slice p2 m2 q2))
     clear z9 x9 c9 fz
     go_wp2
     go_roundw
     case rel=>exact ⟨i+1,by omega,by go_num,HNX,HBN⟩
     case measure=>simp [intOf];omega
   ·rw [decide_eq_true hf] at q1
    have hz':((SL.length:Int)==0)=true:=by rw [hz];rfl
    clear hf
    go_wp2_with (first
     | (at_builtin;go_must (refine wpList_append_el (E:=encSl) rfl _ _ 70 72 rfl infoBs w.heap.size SL nilSl (wr.heap.size+1) (HA1.out.out.alloc _) rfl (el_newSl _ _ _) (by have:=HB.out.size;simp;omega) (by omega) ?_);intro v9 W2 hr9 hb9 hg9;have HR9:=Lib.hid hr9;have HB9:=Lib.hid hb9;have HG9:=Lib.hid hg9;clear hr9 hb9 hg9)
     | fail)
    clear e0 e1 y0 y1
    have hbn:=(Below.refl (wr.alloc (.cells #[.int .i64 ln,.slice (some ⟨gu,ou,none⟩) nw cu] 69)).heap.size (wr.alloc (.cells #[.int .i64 ln,.slice (some ⟨gu,ou,none⟩) nw cu] 69))).alloc (Nat.le_refl _) (.cells #[.slice none 0 0] 72)
    have hA2:=(HA1.out.below hbn).push HG9.out HR9.out
    have HX2:=Lib.hid (box_append (HXB.out.kept hbn) (HA1.out.below hbn).out (by decide) HG9.out)
    have HB2:=Lib.hid ((HB1.out.alloc HB1.out.size (.cells #[.slice none 0 0] 72)).trans HB9.out)
    obtain ⟨SL2,hSL2⟩:∃ S,SL++[nilSl]=S:=⟨_,rfl⟩
    obtain ⟨k,hk0⟩:∃ k,SL.length=k:=⟨_,rfl⟩
    have hk:SL2.length=k+1:=by rw [←hSL2,List.length_append,hk0];rfl
    have HLT:Hid (∀ (s:Sl),SL2[SL2.length - 1]?=some s→∀ j,s.val.ownBlock=some j→j < wr.heap.size):=Lib.hid (fun s h1 j h2=>by
     rw [←hSL2,List.length_append,List.length_singleton,Nat.add_sub_cancel,List.getElem?_append_right (Nat.le_refl _),Nat.sub_self] at h1
     cases h1
     simp [Value.ownBlock] at h2)
    obtain ⟨bs2,hbs2⟩:∃ b,blocksL (L.take i)++[[]]=b:=⟨_,rfl⟩
    have HBS:=HBS0
    rw [hSL2,hbs2] at hA2
    rw [hbs2] at HBS
    obtain ⟨Bk2,hBk2⟩:∃ B,W2.heap.size=B:=⟨_,rfl⟩
    rw [hBk2] at hA2
    have hr9:=HR9.out
    rw [hSL2,hk] at hr9
    obtain ⟨go,co2,e2⟩:=own_some hr9 (by omega)
    subst e2
    have HA2:=Lib.hid hA2
    obtain ⟨g0,hg0⟩:∃ g,wr.heap.size=g:=⟨_,rfl⟩
    rw [hg0] at HX2 HLT ⊢
    have hkc:k≤i:=by omega
    clear hbn hA2 hSL2 hbs2 hBk2 hr9 hg0 HR9 HB9 HG9 hk0
    obtain ⟨s,hs⟩:∃ s,SL2[SL2.length - 1]?=some s:=⟨_,List.getElem?_eq_getElem (by omega)⟩
    obtain ⟨b0,hb0⟩:∃ b,bs2[bs2.length - 1]?=some b:=⟨_,List.getElem?_eq_getElem (by rw [←HA2.out.len];omega)⟩
    obtain ⟨X,hX,hXl⟩:=HA2.out.inn _ s b0 hs (by rw [HA2.out.len];exact hb0)
    have hrow:=own_raise (B':=Bk2) hX (HA2.out.hi s · hs)
    have hXlen:X.length≤100000:=HXN.out X b0 (by rw [←HBS.out];exact List.mem_of_getElem? hb0) hXl
    have hc9:W2.cell? ⟨go,k,none⟩=some (.slice s.p s.n s.c):=by
     have:=HA2.out.out.cells (g:=go) rfl (SL2.length - 1) s.val (by
      have:=flat_at (E:=encSl) SL2 (SL2.length - 1) s hs 0 _ rfl
      rwa [show encSl.k=1 from rfl,Nat.mul_one,Nat.add_zero] at this)
     rwa [add_off,Nat.zero_add,show SL2.length - 1=k by omega] at this
    have hso:∀ j,s.val.ownBlock=some j→j < g0:=HLT.out s hs
    have hgo:go≠g0:=fun e0=>by
     rcases boxE_apart HX2.out HA2.out.out (by decide) with h1 | h1
     ·simp [Value.ownBlock] at h1
     ·exact h1 (by simp [Value.ownBlock,e0])
    have hgB:w.heap.size≤go:=(HA2.out.out.lt go rfl).1
    have HGB:=Lib.hid hgB
    have HROW:=Lib.hid hrow
    have HS:=Lib.hid hs
    have HB0:=Lib.hid hb0
    have HXL:=Lib.hid hXl
    have HXLEN:=Lib.hid hXlen
    have HSO:=Lib.hid hso
    obtain ⟨l0,l1⟩:=two_lv HX2.out.at0
    simp only [Nat.zero_add] at l0 l1
    have hok:g0≠go∧some g0≠s.val.ownBlock:=⟨fun e=>hgo e.symm,fun e=>by have:=hso g0 e.symm;omega⟩
    have r0:=fun q:Leave (fun j=>j≠go∧some j≠s.val.ownBlock) W2=>cell_leave l0 hok q
    have r1:=fun q:Leave (fun j=>j≠go∧some j≠s.val.ownBlock) W2=>cell_leave l1 hok q
    have HC9:=Lib.hid hc9
    clear l0 l1 hok hrow hs hb0 hXl hXlen hX hso hgo hgB hc9
    refine wp_region_plan_if (S:=fun w'=>∃ q:Leave (fun j=>j≠go∧some j≠s.val.ownBlock) W2,w'=q.its) (.two [0,1,2,3,4,5,6,7,8,10] 9 (.one [] 11 (.one [] 12 (.one [13] 14 (.last [])))) 11 (.one [] 9 (.one [] 12 (.one [13] 14 (.last []))))) (by kernel_rfl) (by kernel_rfl) (fun d _ _ _ _ h=>by cases d <;> exact h) ⟨⟨W2.drew,fun _ _ _=>rfl⟩,rfl⟩ ?_
    obtain ⟨wz,hwz⟩:∃ wz,W2.drew=wz:=⟨_,rfl⟩
    rw [hwz]
    have HQ3:Hid (Below W2.heap.size W2 wz):=Lib.hid (by rw [←hwz];exact ⟨rfl,rfl,rfl,Nat.le_refl _,fun _ _=>rfl⟩)
    have HSZ:Hid (W2.heap.size≤wz.heap.size):=Lib.hid HQ3.out.size
    clear hwz
    have HBQ:=Lib.hid (HB2.out.trans (HQ3.out.mono HB2.out.size))
    have HBA:=Lib.hid (HBQ.out.alloc HBQ.out.size (.cells #[.int .i64 ln,.slice (some ⟨gu,ou,none⟩) nw cu] 69))
    have hbz:=(Below.refl wz.heap.size wz).alloc (Nat.le_refl _) (.cells #[.int .i64 ln,.slice (some ⟨gu,ou,none⟩) nw cu] 69)
    have HRZ:=Lib.hid (row_below (row_below HROW.out HQ3.out) hbz)
    have HAZ:=Lib.hid ((HA2.out.below HQ3.out).below hbz)
    have HEL:Hid (ElAt encLV (wz.alloc (.cells #[.int .i64 ln,.slice (some ⟨gu,ou,none⟩) nw cu] 69)) wz.heap.size 0 ⟨ln,⟨some ⟨gu,ou,none⟩,nw,cu⟩⟩):=Lib.hid (el_new encLV wz ⟨ln,⟨some ⟨gu,ou,none⟩,nw,cu⟩⟩ 69)
    have z9:=(HQ3.out.cell (World.block_lt_of_cell? _ _ HC9.out)).trans HC9.out
    have x9:=(hbz.cell (World.block_lt_of_cell? _ _ z9)).trans z9
    have HBK:Hid (Bk2≤(wz.alloc (.cells #[.int .i64 ln,.slice (some ⟨gu,ou,none⟩) nw cu] 69)).heap.size):=Lib.hid HAZ.out.bk.2
    clear hbz
    have hkb:k≤200000:=by omega
    simp only [wpPlan,pick,nth]
    repeat (go_big_quiet_step (fail))
    refine wpQuiet_nil ?_
    clear r0 r1
    refine ⟨?_,?_⟩
    ·intro K hK
     refine alone_want (by kernel_rfl) ?_
     go_big_op
     refine hK _ _ (leave_in fun j _ hjl=>HQ3.out.block j hjl) ?_
     clear hK K
     refine wpQuiet_nil ?_
     intro K hK
     refine alone_want (by kernel_rfl) ?_
     go_big_op
     refine hK _ _ (leave_in fun j _ hjl=>(heap_alloc_old _ _ (by have:=HSZ.out;omega)).trans (HQ3.out.block j hjl)) ?_
     clear hK K
     refine wpQuiet_nil ?_
     intro K hK
     refine alone_want (by kernel_rfl) ?_
     refine wp_append_el (E:=encLV) (.tmp 34) (.tmp 36) 72 69 rfl infoBk Bk2 (.slice s.p s.n s.c) X ⟨ln,⟨some ⟨gu,ou,none⟩,nw,cu⟩⟩ wz.heap.size rfl HRZ.out rfl HEL.out HBK.out (by have:=HXLEN.out;omega) ?_
     intro v2 wa hr2 hb2 hg2
     have HG2:=Lib.hid hg2
     obtain ⟨p2,q2,m2,hv2⟩:=own_sl hr2
     subst hv2
     have hmore:=HAZ.out.more (t:=⟨p2,m2,q2⟩) HS.out HB0.out HXL.out HLN.out hg2 hr2
     rw [show SL2.length - 1=k by omega] at hmore
     obtain ⟨hma,fz,c9⟩:=hmore
     have HMA:=Lib.hid hma
     have HBW:=Lib.hid (HBA.out.trans (hb2.mono (HAZ.out.bk.1)))
     refine hK _ _ (leave_in fun j hj hjl=>?_) ?_
     ·rw [hg2.block j (by rw [World.size_alloc];have:=HSZ.out;omega) (fun e0=>hj.2 e0)]
      exact ((heap_alloc_old _ _ (by have:=HSZ.out;omega)).trans (HQ3.out.block j hjl))
     clear hK K hb2 hr2 hg2 hma
     simp only [Act.put,List.setIfInBounds_toArray,List.set_cons_zero,List.set_cons_succ]
     repeat (go_big_quiet_step (fail))
     refine wpQuiet_nil ?_
     intro K hK
     refine alone_want (by kernel_rfl) ?_
     go_big_op
     refine hK _ _ (leave_in fun j hj hjl=>?_) ?_
     ·rw [Below.heap_setCell _ _ _ _ (fun e0=>hj.1 e0),HG2.out.block j (by rw [World.size_alloc];have:=HSZ.out;omega) (fun e0=>hj.2 e0)]
      exact ((heap_alloc_old _ _ (by have:=HSZ.out;omega)).trans (HQ3.out.block j hjl))
     clear hK K
     refine wpQuiet_nil ?_
     have HNX:Hid (∃ Bk SL,BlkAt w (wa.setCell ⟨go,k,none⟩ (.slice p2 m2 q2)) w.heap.size Bk (.slice (some ⟨go,0,none⟩) (k+1) co2) SL (blocksL (L.take (i+1)))):=Lib.hid ⟨_,_,by
      have:=HMA.out
      rw [HTK.out,step_two,←HBS.out,List.getLastD_eq_getLast?,List.getLast?_eq_getElem?,HB0.out,Option.getD_some]
      exact this⟩
     have HBN:=Lib.hid (HBW.out.setCell (p:=⟨go,k,none⟩) HGB.out (.slice p2 m2 q2))
     clear z9 x9 c9 fz
     go_wp2
     go_roundw
     case rel=>exact ⟨i+1,by omega,by go_num,HNX,HBN⟩
     case measure=>simp [intOf];omega
    ·intro K hK
     refine alone_want (by kernel_rfl) ?_
     go_big_op
     refine hK _ _ (leave_in fun j _ hjl=>(heap_alloc_old _ _ (by have:=HSZ.out;omega)).trans (HQ3.out.block j hjl)) ?_
     clear hK K
     refine wpQuiet_nil ?_
     intro K hK
     refine alone_want (by kernel_rfl) ?_
     go_big_op
     refine hK _ _ (leave_in fun j _ hjl=>(heap_alloc_old _ _ (by have:=HSZ.out;omega)).trans (HQ3.out.block j hjl)) ?_
     clear hK K
     refine wpQuiet_nil ?_
     intro K hK
     refine alone_want (by kernel_rfl) ?_
     refine wp_append_el (E:=encLV) (.tmp 34) (.tmp 36) 72 69 rfl infoBk Bk2 (.slice s.p s.n s.c) X ⟨ln,⟨some ⟨gu,ou,none⟩,nw,cu⟩⟩ wz.heap.size rfl HRZ.out rfl HEL.out HBK.out (by have:=HXLEN.out;omega) ?_
     intro v2 wa hr2 hb2 hg2
     have HG2:=Lib.hid hg2
     obtain ⟨p2,q2,m2,hv2⟩:=own_sl hr2
     subst hv2
     have hmore:=HAZ.out.more (t:=⟨p2,m2,q2⟩) HS.out HB0.out HXL.out HLN.out hg2 hr2
     rw [show SL2.length - 1=k by omega] at hmore
     obtain ⟨hma,fz,c9⟩:=hmore
     have HMA:=Lib.hid hma
     have HBW:=Lib.hid (HBA.out.trans (hb2.mono (HAZ.out.bk.1)))
     refine hK _ _ (leave_in fun j hj hjl=>?_) ?_
     ·rw [hg2.block j (by rw [World.size_alloc];have:=HSZ.out;omega) (fun e0=>hj.2 e0)]
      exact ((heap_alloc_old _ _ (by have:=HSZ.out;omega)).trans (HQ3.out.block j hjl))
     clear hK K hb2 hr2 hg2 hma
     simp only [Act.put,List.setIfInBounds_toArray,List.set_cons_zero,List.set_cons_succ]
     repeat (go_big_quiet_step (fail))
     refine wpQuiet_nil ?_
     intro K hK
     refine alone_want (by kernel_rfl) ?_
     go_big_op
     refine hK _ _ (leave_in fun j hj hjl=>?_) ?_
     ·rw [Below.heap_setCell _ _ _ _ (fun e0=>hj.1 e0),HG2.out.block j (by rw [World.size_alloc];have:=HSZ.out;omega) (fun e0=>hj.2 e0)]
      exact ((heap_alloc_old _ _ (by have:=HSZ.out;omega)).trans (HQ3.out.block j hjl))
     clear hK K
     refine wpQuiet_nil ?_
     have HNX:Hid (∃ Bk SL,BlkAt w (wa.setCell ⟨go,k,none⟩ (.slice p2 m2 q2)) w.heap.size Bk (.slice (some ⟨go,0,none⟩) (k+1) co2) SL (blocksL (L.take (i+1)))):=Lib.hid ⟨_,_,by
      have:=HMA.out
      rw [HTK.out,step_two,←HBS.out,List.getLastD_eq_getLast?,List.getLast?_eq_getElem?,HB0.out,Option.getD_some]
      exact this⟩
     have HBN:=Lib.hid (HBW.out.setCell (p:=⟨go,k,none⟩) HGB.out (.slice p2 m2 q2))
     clear z9 x9 c9 fz
     go_wp2
     go_roundw
     case rel=>exact ⟨i+1,by omega,by go_num,HNX,HBN⟩
     case measure=>simp [intOf];omega
  ·have HBS:Hid (blocksL (L.take i)=outOne (blocksL (L.take i)) (ln,ws)):=Lib.hid (by unfold outOne;rw [if_neg hnew])
   have hf:t0=tFact:=by
    by_cases h1:t0=tFact
    ·exact h1
    ·exact absurd (.inl (by rw [HIF.out,decide_eq_false h1])) hnew
   have hpos:0 < SL.length:=by
    rw [HA1.out.len]
    exact List.length_pos_iff.2 (fun e=>hnew (.inr e))
   rw [decide_eq_true hf] at q1
   have hz':((SL.length:Int)==0)=false:=by rw [beq_eq_false_iff_ne];omega
   clear hnew hf
   go_wp2_with fail
   clear e0 e1 y0 y1
   obtain ⟨go,co2,e2⟩:=own_some HA1.out.out hpos
   obtain ⟨rfl,_,rfl⟩:po=some ⟨go,0,none⟩∧True∧co=co2:=by cases e2;exact ⟨rfl,trivial,rfl⟩
   clear e2
   obtain ⟨k,hk⟩:∃ k,SL.length=k+1:=⟨SL.length - 1,by omega⟩
   obtain ⟨W2,hW2⟩:∃ W,wr.alloc (.cells #[.int .i64 ln,.slice (some ⟨gu,ou,none⟩) nw cu] 69)=W:=⟨_,rfl⟩
   rw [hW2] at HA1 HXB HB1 ⊢
   obtain ⟨g0,hg0⟩:∃ g,wr.heap.size=g:=⟨_,rfl⟩
   rw [hg0] at HXB HLT0 ⊢
   clear hW2 hg0
   obtain ⟨SL2,hSL2⟩:∃ S,SL=S:=⟨_,rfl⟩
   rw [hSL2] at HA1 HLT0 hk hsl ⊢
   clear hSL2 hpos hz'
   have HA2:Hid (BlkAt w W2 w.heap.size Bk (.slice (some ⟨go,0,none⟩) (k+1) co) SL2 (blocksL (L.take i))):=Lib.hid (by have:=HA1.out;rwa [hk] at this)
   rw [hk]
   obtain ⟨bs2,hbs2⟩:∃ b,blocksL (L.take i)=b:=⟨_,rfl⟩
   rw [hbs2] at HA2
   have HBS':Hid (bs2=outOne (blocksL (L.take i)) (ln,ws)):=Lib.hid (by rw [←hbs2];exact HBS.out)
   have HLT:Hid (∀ (s:Sl),SL2[SL2.length - 1]?=some s→∀ j,s.val.ownBlock=some j→j < g0):=Lib.hid (fun s h1 j h2=>HLT0.out _ s j h1 h2)
   have HX2:=HXB
   have HB2:=HB1
   clear hbs2 HA1 HLT0 HBS
   obtain ⟨s,hs⟩:∃ s,SL2[SL2.length - 1]?=some s:=⟨_,List.getElem?_eq_getElem (by omega)⟩
   obtain ⟨b0,hb0⟩:∃ b,bs2[bs2.length - 1]?=some b:=⟨_,List.getElem?_eq_getElem (by rw [←HA2.out.len];omega)⟩
   obtain ⟨X,hX,hXl⟩:=HA2.out.inn _ s b0 hs (by rw [HA2.out.len];exact hb0)
   have hrow:=own_raise (B':=Bk) hX (HA2.out.hi s · hs)
   have hXlen:X.length≤100000:=HXN.out X b0 (by rw [←HBS'.out];exact List.mem_of_getElem? hb0) hXl
   have hc9:W2.cell? ⟨go,k,none⟩=some (.slice s.p s.n s.c):=by
    have:=HA2.out.out.cells (g:=go) rfl (SL2.length - 1) s.val (by
     have:=flat_at (E:=encSl) SL2 (SL2.length - 1) s hs 0 _ rfl
     rwa [show encSl.k=1 from rfl,Nat.mul_one,Nat.add_zero] at this)
    rwa [add_off,Nat.zero_add,show SL2.length - 1=k by omega] at this
   have hso:∀ j,s.val.ownBlock=some j→j < g0:=HLT.out s hs
   have hgo:go≠g0:=fun e0=>by
    rcases boxE_apart HX2.out HA2.out.out (by decide) with h1 | h1
    ·simp [Value.ownBlock] at h1
    ·exact h1 (by simp [Value.ownBlock,e0])
   have hgB:w.heap.size≤go:=(HA2.out.out.lt go rfl).1
   have HGB:=Lib.hid hgB
   have HROW:=Lib.hid hrow
   have HS:=Lib.hid hs
   have HB0:=Lib.hid hb0
   have HXL:=Lib.hid hXl
   have HXLEN:=Lib.hid hXlen
   have HSO:=Lib.hid hso
   obtain ⟨l0,l1⟩:=two_lv HX2.out.at0
   simp only [Nat.zero_add] at l0 l1
   have hok:g0≠go∧some g0≠s.val.ownBlock:=⟨fun e=>hgo e.symm,fun e=>by have:=hso g0 e.symm;omega⟩
   have r0:=fun q:Leave (fun j=>j≠go∧some j≠s.val.ownBlock) W2=>cell_leave l0 hok q
   have r1:=fun q:Leave (fun j=>j≠go∧some j≠s.val.ownBlock) W2=>cell_leave l1 hok q
   have HC9:=Lib.hid hc9
   clear l0 l1 hok hrow hs hb0 hXl hXlen hX hso hgo hgB hc9
   refine wp_region_plan_if (S:=fun w'=>∃ q:Leave (fun j=>j≠go∧some j≠s.val.ownBlock) W2,w'=q.its) (.two [0,1,2,3,4,5,6,7,8,10] 9 (.one [] 11 (.one [] 12 (.one [13] 14 (.last [])))) 11 (.one [] 9 (.one [] 12 (.one [13] 14 (.last []))))) (by kernel_rfl) (by kernel_rfl) (fun d _ _ _ _ h=>by cases d <;> exact h) ⟨⟨W2.drew,fun _ _ _=>rfl⟩,rfl⟩ ?_
   obtain ⟨wz,hwz⟩:∃ wz,W2.drew=wz:=⟨_,rfl⟩
   rw [hwz]
   have HQ3:Hid (Below W2.heap.size W2 wz):=Lib.hid (by rw [←hwz];exact ⟨rfl,rfl,rfl,Nat.le_refl _,fun _ _=>rfl⟩)
   have HSZ:Hid (W2.heap.size≤wz.heap.size):=Lib.hid HQ3.out.size
   clear hwz
   have HBQ:=Lib.hid (HB2.out.trans (HQ3.out.mono HB2.out.size))
   have HBA:=Lib.hid (HBQ.out.alloc HBQ.out.size (.cells #[.int .i64 ln,.slice (some ⟨gu,ou,none⟩) nw cu] 69))
   have hbz:=(Below.refl wz.heap.size wz).alloc (Nat.le_refl _) (.cells #[.int .i64 ln,.slice (some ⟨gu,ou,none⟩) nw cu] 69)
   have HRZ:=Lib.hid (row_below (row_below HROW.out HQ3.out) hbz)
   have HAZ:=Lib.hid ((HA2.out.below HQ3.out).below hbz)
   have HEL:Hid (ElAt encLV (wz.alloc (.cells #[.int .i64 ln,.slice (some ⟨gu,ou,none⟩) nw cu] 69)) wz.heap.size 0 ⟨ln,⟨some ⟨gu,ou,none⟩,nw,cu⟩⟩):=Lib.hid (el_new encLV wz ⟨ln,⟨some ⟨gu,ou,none⟩,nw,cu⟩⟩ 69)
   have z9:=(HQ3.out.cell (World.block_lt_of_cell? _ _ HC9.out)).trans HC9.out
   have x9:=(hbz.cell (World.block_lt_of_cell? _ _ z9)).trans z9
   have HBK:Hid (Bk≤(wz.alloc (.cells #[.int .i64 ln,.slice (some ⟨gu,ou,none⟩) nw cu] 69)).heap.size):=Lib.hid HAZ.out.bk.2
   clear hbz
   have hkb:k≤200000:=by omega
   simp only [wpPlan,pick,nth]
   repeat (go_big_quiet_step (fail))
   refine wpQuiet_nil ?_
   clear r0 r1
   refine ⟨?_,?_⟩
   ·intro K hK
    refine alone_want (by kernel_rfl) ?_
    go_big_op
    refine hK _ _ (leave_in fun j _ hjl=>HQ3.out.block j hjl) ?_
    clear hK K
    refine wpQuiet_nil ?_
    intro K hK
    refine alone_want (by kernel_rfl) ?_
    go_big_op
    refine hK _ _ (leave_in fun j _ hjl=>(heap_alloc_old _ _ (by have:=HSZ.out;omega)).trans (HQ3.out.block j hjl)) ?_
    clear hK K
    refine wpQuiet_nil ?_
    intro K hK
    refine alone_want (by kernel_rfl) ?_
    refine wp_append_el (E:=encLV) (.tmp 34) (.tmp 36) 72 69 rfl infoBk Bk (.slice s.p s.n s.c) X ⟨ln,⟨some ⟨gu,ou,none⟩,nw,cu⟩⟩ wz.heap.size rfl HRZ.out rfl HEL.out HBK.out (by have:=HXLEN.out;omega) ?_
    intro v2 wa hr2 hb2 hg2
    have HG2:=Lib.hid hg2
    obtain ⟨p2,q2,m2,hv2⟩:=own_sl hr2
    subst hv2
    have hmore:=HAZ.out.more (t:=⟨p2,m2,q2⟩) HS.out HB0.out HXL.out HLN.out hg2 hr2
    rw [show SL2.length - 1=k by omega] at hmore
    obtain ⟨hma,fz,c9⟩:=hmore
    have HMA:=Lib.hid hma
    have HBW:=Lib.hid (HBA.out.trans (hb2.mono (HAZ.out.bk.1)))
    refine hK _ _ (leave_in fun j hj hjl=>?_) ?_
    ·rw [hg2.block j (by rw [World.size_alloc];have:=HSZ.out;omega) (fun e0=>hj.2 e0)]
     exact ((heap_alloc_old _ _ (by have:=HSZ.out;omega)).trans (HQ3.out.block j hjl))
    clear hK K hb2 hr2 hg2 hma
    simp only [Act.put,List.setIfInBounds_toArray,List.set_cons_zero,List.set_cons_succ]
    repeat (go_big_quiet_step (fail))
    refine wpQuiet_nil ?_
    intro K hK
    refine alone_want (by kernel_rfl) ?_
    go_big_op
    refine hK _ _ (leave_in fun j hj hjl=>?_) ?_
    ·rw [Below.heap_setCell _ _ _ _ (fun e0=>hj.1 e0),HG2.out.block j (by rw [World.size_alloc];have:=HSZ.out;omega) (fun e0=>hj.2 e0)]
     exact ((heap_alloc_old _ _ (by have:=HSZ.out;omega)).trans (HQ3.out.block j hjl))
    clear hK K
    refine wpQuiet_nil ?_
    have HNX:Hid (∃ Bk SL,BlkAt w (wa.setCell ⟨go,k,none⟩ (.slice p2 m2 q2)) w.heap.size Bk (.slice (some ⟨go,0,none⟩) (k+1) co) SL (blocksL (L.take (i+1)))):=Lib.hid ⟨_,_,by
     have:=HMA.out
     rw [HTK.out,step_two,←HBS'.out,List.getLastD_eq_getLast?,List.getLast?_eq_getElem?,HB0.out,Option.getD_some]
     exact this⟩
    have HBN:=Lib.hid (HBW.out.setCell (p:=⟨go,k,none⟩) HGB.out (.slice p2 m2 q2))
    clear z9 x9 c9 fz
    go_wp2
    go_roundw
    case rel=>exact ⟨i+1,by omega,by go_num,HNX,HBN⟩
    case measure=>simp [intOf];omega
   ·intro K hK
    refine alone_want (by kernel_rfl) ?_
    go_big_op
    refine hK _ _ (leave_in fun j _ hjl=>(heap_alloc_old _ _ (by have:=HSZ.out;omega)).trans (HQ3.out.block j hjl)) ?_
    clear hK K
    refine wpQuiet_nil ?_
    intro K hK
    refine alone_want (by kernel_rfl) ?_
    go_big_op
    refine hK _ _ (leave_in fun j _ hjl=>(heap_alloc_old _ _ (by have:=HSZ.out;omega)).trans (HQ3.out.block j hjl)) ?_
    clear hK K
    refine wpQuiet_nil ?_
    intro K hK
    refine alone_want (by kernel_rfl) ?_
    refine wp_append_el (E:=encLV) (.tmp 34) (.tmp 36) 72 69 rfl infoBk Bk (.slice s.p s.n s.c) X ⟨ln,⟨some ⟨gu,ou,none⟩,nw,cu⟩⟩ wz.heap.size rfl HRZ.out rfl HEL.out HBK.out (by have:=HXLEN.out;omega) ?_
    intro v2 wa hr2 hb2 hg2
    have HG2:=Lib.hid hg2
    obtain ⟨p2,q2,m2,hv2⟩:=own_sl hr2
    subst hv2
    have hmore:=HAZ.out.more (t:=⟨p2,m2,q2⟩) HS.out HB0.out HXL.out HLN.out hg2 hr2
    rw [show SL2.length - 1=k by omega] at hmore
    obtain ⟨hma,fz,c9⟩:=hmore
    have HMA:=Lib.hid hma
    have HBW:=Lib.hid (HBA.out.trans (hb2.mono (HAZ.out.bk.1)))
    refine hK _ _ (leave_in fun j hj hjl=>?_) ?_
    ·rw [hg2.block j (by rw [World.size_alloc];have:=HSZ.out;omega) (fun e0=>hj.2 e0)]
     exact ((heap_alloc_old _ _ (by have:=HSZ.out;omega)).trans (HQ3.out.block j hjl))
    clear hK K hb2 hr2 hg2 hma
    simp only [Act.put,List.setIfInBounds_toArray,List.set_cons_zero,List.set_cons_succ]
    repeat (go_big_quiet_step (fail))
    refine wpQuiet_nil ?_
    intro K hK
    refine alone_want (by kernel_rfl) ?_
    go_big_op
    refine hK _ _ (leave_in fun j hj hjl=>?_) ?_
    ·rw [Below.heap_setCell _ _ _ _ (fun e0=>hj.1 e0),HG2.out.block j (by rw [World.size_alloc];have:=HSZ.out;omega) (fun e0=>hj.2 e0)]
     exact ((heap_alloc_old _ _ (by have:=HSZ.out;omega)).trans (HQ3.out.block j hjl))
    clear hK K
    refine wpQuiet_nil ?_
    have HNX:Hid (∃ Bk SL,BlkAt w (wa.setCell ⟨go,k,none⟩ (.slice p2 m2 q2)) w.heap.size Bk (.slice (some ⟨go,0,none⟩) (k+1) co) SL (blocksL (L.take (i+1)))):=Lib.hid ⟨_,_,by
     have:=HMA.out
     rw [HTK.out,step_two,←HBS'.out,List.getLastD_eq_getLast?,List.getLast?_eq_getElem?,HB0.out,Option.getD_some]
     exact this⟩
    have HBN:=Lib.hid (HBW.out.setCell (p:=⟨go,k,none⟩) HGB.out (.slice p2 m2 q2))
    clear z9 x9 c9 fz
    go_wp2
    go_roundw
    case rel=>exact ⟨i+1,by omega,by go_num,HNX,HBN⟩
    case measure=>simp [intOf];omega
end Go.Proofs.YtdegffffcbhjbaaGreatDoor.Pk
end
section
namespace Go.Proofs.YtdegffffcbhjbaaGreatDoor.Pk
open Go.RowKit Go.Proofs.YtdegffffcbhjbaaGreatDoor.Un
theorem nm_size {s:ByteArray} (h:nmB s=true):s.size≤12:=by
 unfold nmB nameL at h
 rw [←size_list]
 cases hs:s.data.toList with
 | nil=>simp
 | cons c r =>
   rw [hs] at h
   simp only [Bool.and_eq_true,decide_eq_true_eq] at h
   omega
def FormOk (ws:Ws):Prop:=(wd ws 0=tFact∧ws.length=5∧∀ y∈ws,y=wd ws 4∨y.size≤100)∨(wd ws 0≠tFact∧ws.length=2∧∀ y∈ws,y.size≤100)
theorem five {ws:Ws} (h:ws.length=5):∃ a b c d e,ws=[a,b,c,d,e]:=by
 match ws,h with
 | [a,b,c,d,e],_=>exact ⟨a,b,c,d,e,rfl⟩
theorem two {ws:Ws} (h:ws.length=2):∃ a b,ws=[a,b]:=by
 match ws,h with
 | [a,b],_=>exact ⟨a,b,rfl⟩
theorem beg_size {M:Mast} {x:ByteArray} (h:begE M x=0):x.size≤100:=by
 have:=nm_size (begE_zero.1 h).1
 omega
theorem line_form {M:Mast} {S:St} {ws:Ws} (h:lineE M S ws=0):FormOk ws:=by
 rcases line_ways h with ⟨h1,h2,h3,_⟩ | ⟨h1,h2,h3,_⟩ | ⟨h1,h2,h3,_⟩
 ·obtain ⟨a,b,rfl⟩:=two h2
  obtain rfl:a=tPackage:=h1
  refine .inr ⟨tP_F,rfl,fun y hy=>?_⟩
  simp only [List.mem_cons,List.not_mem_nil,or_false] at hy
  rcases hy with rfl | rfl
  ·decide
  ·exact beg_size h3
 ·obtain ⟨a,b,rfl⟩:=two h2
  obtain rfl:a=tJournal:=h1
  refine .inr ⟨tJ_F,rfl,fun y hy=>?_⟩
  simp only [List.mem_cons,List.not_mem_nil,or_false] at hy
  rcases hy with rfl | rfl
  ·decide
  ·exact beg_size h3
 ·obtain ⟨t,a,b,q,am,rfl⟩:=five h2
  obtain rfl:t=tFact:=h1
  obtain ⟨_,h4,_,_⟩:=factE_zero h3
  unfold namedK at h4
  simp only [Bool.and_eq_true,Bool.or_eq_true] at h4
  have ha:a.size≤12:=nm_size (s:=a) h4.1.1
  have hb:b.size≤12:=nm_size (s:=b) h4.1.2
  have hq:q.size≤12:=by
   have h5:(!isP (keyF S [tFact,a,b,q,am]))=true∨nmB (parB q)=true:=h4.2
   by_cases hd:q=tDash
   ·rw [hd];decide
   ·have hpb:parB q=q:=by unfold parB;rw [if_neg hd]
    rcases h5 with h5 | h5
    ·have h6:parB q=emp:=by
      unfold isP at h5
      have:(keyF S [tFact,a,b,q,am]).p=parB q:=rfl
      rw [this] at h5
      simpa using h5
     rw [hpb] at h6
     rw [h6];decide
    ·rw [hpb] at h5;exact nm_size h5
  refine .inl ⟨rfl,rfl,fun y hy=>?_⟩
  simp only [List.mem_cons,List.not_mem_nil,or_false] at hy
  rcases hy with rfl | rfl | rfl | rfl | rfl
  ·exact .inr (by decide)
  ·exact .inr (by omega)
  ·exact .inr (by omega)
  ·exact .inr (by omega)
  ·exact .inl rfl
theorem forms {M:Mast}:∀ (l:List Ws) {S T:St},runP M S l=(T,0)→∀ ws∈l,FormOk ws
 | [],_,_,_,ws,h=>by cases h
 | a::l,S,T,hr,ws,h=>by
   by_cases he:lineE M S a=0
   ·rcases List.mem_cons.1 h with rfl | h
    ·exact line_form he
    ·rw [runP_cons _ he] at hr
     exact forms l hr ws h
   ·rw [runP_stop _ he] at hr
    exact absurd (Prod.mk.inj hr).2 he
theorem head_form {M:Mast} {T:St} {x:Ws} {l:List Ws} (hr:runP M st0 (x::l)=(T,0)):wd x 0≠tFact:=by
 by_cases he:lineE M st0 x=0
 ·intro hf
  rcases line_ways he with ⟨h1,_⟩ | ⟨h1,_⟩ | ⟨_,_,h3,_⟩
  ·rw [hf] at h1;exact absurd h1.symm tP_F
  ·rw [hf] at h1;exact absurd h1.symm tJ_F
  ·exact absurd rfl (factE_zero h3).1
 ·rw [runP_stop _ he] at hr
  exact absurd (Prod.mk.inj hr).2 he
theorem szL_perm {l l':List Ws} (h:l.Perm l'):szL l=szL l':=by
 unfold szL
 exact (h.map szW).sum_nat
structure OrderP (M:Mast) (s:ByteArray) (L:List Ln) (C:List Fa.Fact):Prop where
 lines:wordsT s=L.map (·.2)
 told:parseP M s=(C,0)
 size:s.size≤4000
 some:∀ x∈L,wd x.2 0=tFact→(wd x.2 4).size≤15
theorem order_run {M:Mast} {s:ByteArray} {L:List Ln} {C:List Fa.Fact} (hl:wordsT s=L.map (·.2)) (ht:parseP M s=(C,0)):∃ T,runP M st0 (L.map (·.2))=(T,0)∧(C,(0:Int))=Fa.ofL T.facts∧T.facts.length * 10≤s.size+1:=by
 rcases parseP_ways M s with ⟨T,h1,h2,h3,h4,h5⟩ | ⟨h1,_⟩
 ·rw [hl] at h2
  exact ⟨T,h2,by rw [←ht,h5],h4⟩
 ·rw [ht] at h1;exact absurd rfl h1
section
variable {M:Mast} {s:ByteArray} {L:List Ln} {C:List Fa.Fact}
theorem OrderP.shape (h:OrderP M s L C):ShapeB (blocksL L):=by
 obtain ⟨T,hr,_⟩:=order_run h.lines h.told
 refine blocks_shape fun x hx=>?_
 cases L with
 | nil=>cases hx
 | cons y r =>
   cases hx
   unfold isFct
   rw [decide_eq_false (head_form hr)]
theorem OrderP.same (h:OrderP M s L C) (i k:Nat):parseP M (mkB (joinL (turnL i k (blocksL L))))=(C,0)∧(mkB (joinL (turnL i k (blocksL L)))).size≤9000∧(turnL i k (blocksL L)).length≤10000∧∀ x∈turnL i k (blocksL L),x.2.length≤60∧∀ y∈x.2,y.size≤100:=by
 obtain ⟨T,hr,hC,hn⟩:=order_run h.lines h.told
 have hsz:=h.size
 have hbw:((blocksL L).map (List.map (·.2))).flatten=L.map (·.2):=by
  rw [←List.map_flatten,blocks_flat]
 have hperm:(turnL i k (blocksL L)).Perm L:=by
  have:=turnL_perm i k (blocksL L)
  rwa [blocks_flat] at this
 have hpw:((turnL i k (blocksL L)).map (·.2)).Perm (L.map (·.2)):=hperm.map _
 have hszL:szL ((turnL i k (blocksL L)).map (·.2))≤s.size+1:=by
  rw [szL_perm hpw,←h.lines]
  exact text_size s
 have hright:∀ ws∈(turnL i k (blocksL L)).map (·.2),rightW ws:=fun ws hw=>text_right s ws (by rw [h.lines];exact hpw.mem_iff.1 hw)
 have hts:=turned_same (M:=M) (bs:=(blocksL L).map (List.map (·.2))) i k (T:=T) (fun b hb=>by
  obtain ⟨b',hb',rfl⟩:=List.mem_map.1 hb
  obtain ⟨x,fs,rfl,h1,h2⟩:=h.shape b' hb'
  refine ⟨x.2,fs.map (·.2),rfl,of_decide_eq_false h1,fun f hf=>?_⟩
  obtain ⟨f',hf',rfl⟩:=List.mem_map.1 hf
  exact of_decide_eq_true (h2 f' hf')) (by rw [hbw];exact hr) (fun b hb f hf hft=>by
  obtain ⟨b',hb',rfl⟩:=List.mem_map.1 hb
  obtain ⟨f',hf',rfl⟩:=List.mem_map.1 hf
  refine h.some f' ?_ hft
  have:=blocks_flat L
  rw [←this]
  exact List.mem_flatten.2 ⟨b',hb',hf'⟩) (by omega)
 rw [←turnL_map] at hts
 refine ⟨?_,?_,?_,fun x hx=>?_⟩
 ·rw [joinL_text,text_parse hright (by omega),hts,hC]
 ·rw [mkB_size,joinL_text,textW_length];exact Nat.le_trans hszL (by omega)
 ·have h1:(turnL i k (blocksL L)).length≤szL ((turnL i k (blocksL L)).map (·.2)):=by
   have key:∀ (l:List Ln),l.length≤szL (l.map (·.2)):=by
    intro l
    induction l with
    | nil=>exact Nat.zero_le _
    | cons a r ih =>
      have e:szL ((a::r).map (·.2))=szW a.2+szL (r.map (·.2)):=by simp [szL]
      rw [e]
      unfold szW
      rw [List.length_cons]
      omega
   exact key _
  omega
 ·have hxL:x∈L:=hperm.mem_iff.1 hx
  rcases forms _ hr x.2 (List.mem_map.2 ⟨x,hxL,rfl⟩) with ⟨h1,h2,h3⟩ | ⟨_,h2,h3⟩
  ·refine ⟨by omega,fun y hy=>?_⟩
   rcases h3 y hy with rfl | h4
   ·have:=h.some x hxL h1
    omega
   ·exact h4
  ·exact ⟨by omega,h3⟩
end
end Go.Proofs.YtdegffffcbhjbaaGreatDoor.Pk
end
section
namespace Go.Proofs.YtdegffffcbhjbaaGreatDoor.Pk
open Go.RowKit Go.Maps Go.Proofs.YtdegffffcbhjbaaGreatDoor.Un
theorem rlines_huge (s:ByteArray) (w:World) (h:20000 < s.size) (hs:s.size≤maxLen) :
 Calls Tryz.prog 21 #[.string s] w (LinesPost w [] 4):=by
 unfold maxLen at hs
 go_enter Tryz.func21,Tryz.ntmps21
 go_wp2
 go_ret2
 exact (LinesHad.none w w (Below.refl _ _) 4).post
theorem rlines_every (s:ByteArray) (w:World) (hs:s.size≤maxLen) :
 Calls Tryz.prog 21 #[.string s] w (LinesPost w (asB (linV s.data.toList)) (linE s.data.toList)):=by
 by_cases h:20000 < s.size
 ·obtain ⟨e1,e2⟩:=linE_big s.data.toList (by rw [size_list];exact h)
  rw [e1,e2]
  exact rlines_huge s w h hs
 ·exact rlines_any s w (by omega)
theorem flat_take_le {α:Type}:∀ (l:List (List α)) (i:Nat),(l.take i).flatten.length≤l.flatten.length
 | [],i=>by simp
 | a::l,0=>by simp
 | a::l,i+1=>by
   rw [List.take_succ_cons,List.flatten_cons,List.flatten_cons,List.length_append,List.length_append]
   have:=flat_take_le l i
   omega
def outY (k0 k1:Nat) (bs:List (List Ln)) (i:Nat):List Ln:=(((rotL k0 bs).take i).map (turnB k1)).flatten
theorem outY_zero (k0 k1:Nat) (bs:List (List Ln)):outY k0 k1 bs 0=[]:=by simp [outY]
theorem outY_all (k0 k1:Nat) (bs:List (List Ln)) (m:Nat) (hm:bs.length=m):outY k0 k1 bs m=turnL k0 k1 bs:=by
 unfold outY turnL
 rw [List.take_of_length_le (by rw [rot_length,hm];exact Nat.le_refl _)]
theorem outY_le (k0 k1:Nat) (bs:List (List Ln)) (i:Nat):(outY k0 k1 bs i).length≤(turnL k0 k1 bs).length:=by
 unfold outY turnL
 rw [List.map_take]
 exact flat_take_le _ _
theorem outY_step (k0 k1:Nat) (bs:List (List Ln)) (i:Nat) (hi:i < bs.length) {h:Ln} {fs:List Ln} (hb:bs[(i+k0) % bs.length]?=some (h::fs)):outY k0 k1 bs (i+1)=outY k0 k1 bs i++h::rotL k1 fs:=by
 unfold outY
 have h1:=rot_at k0 i bs hi
 rw [hb] at h1
 rw [List.take_add_one,h1,List.map_append,List.flatten_append]
 simp [turnB]
theorem blk_u:Tryz.prog.underlying 72=some (.slice (Tryz.prog.elem 72)):=by kernel_rfl
theorem blk_s (w:World):(sizeOf (Tryz.prog.elem 72)).run Tryz.prog w=.ok 2 w:=by kernel_rfl
theorem blk_tail (g q c:Nat) (hc:q+1≤c):∃ pv cv,(∀ w',(Instr.slice 72 (.slice (some ⟨g,0,none⟩) (q+1) c) (some (.int .i64 1)) none none).run Tryz.prog w'=.ok (.slice pv q cv) w')∧(0 < q→pv=some ⟨g,2,none⟩):=by
 by_cases h1:c=1
 ·have hq:q=0:=by omega
  subst h1 hq
  refine ⟨some ⟨g,0,none⟩,0,fun w'=>?_,fun h=>by omega⟩
  rw [run_slice_l w' _ _ _ _ blk_u .i64 1 (by omega) (by omega),blk_s]
  simp [Result.andThen,sliced]
 ·refine ⟨some ⟨g,2,none⟩,c - 1,fun w'=>?_,fun _=>rfl⟩
  rw [run_slice_l w' _ _ _ _ blk_u .i64 1 (by omega) (by omega),blk_s]
  simp [Result.andThen,sliced,h1,Addr.add]
set_option maxRecDepth 100000 in
set_option maxHeartbeats 32000000 in
theorem packOrder_walk (s0 s1:ByteArray) (a0 a1:Int) (w:World) (_hs0:s0.size≤maxLen) (hs1':s1.size≤maxLen) (ha0:InU8 a0) (ha1:InU8 a1) (hU:LaidP w):Calls Tryz.prog 6 #[.string s0,.string s1,.agg #[.int .u8 a0,.int .u8 a1]] w fun en w'=>en=.returned (.bool true)∧Below w.heap.size w w':=by
 obtain ⟨k0,rfl⟩:∃ k:Nat,a0=k:=⟨a0.toNat,by have:=ha0.1;omega⟩
 obtain ⟨k1,rfl⟩:∃ k:Nat,a1=k:=⟨a1.toNat,by have:=ha1.1;omega⟩
 have hk0:k0≤255:=by have:=ha0.2;omega
 have hk1:k1≤255:=by have:=ha1.2;omega
 have hb0:=(Below.refl w.heap.size w).alloc (Nat.le_refl _) (.cells #[.int .u8 (k0:Int),.int .u8 (k1:Int)] 63)
 have hc0:(w.alloc (.cells #[.int .u8 (k0:Int),.int .u8 (k1:Int)] 63)).cell? ⟨w.heap.size,0,none⟩=some (.int .u8 (k0:Int)):=by rw [World.cell?_alloc_at _ _ _ _ rfl];rfl
 have hc1:(w.alloc (.cells #[.int .u8 (k0:Int),.int .u8 (k1:Int)] 63)).cell? ⟨w.heap.size,1,none⟩=some (.int .u8 (k1:Int)):=by rw [World.cell?_alloc_at _ _ _ _ rfl];rfl
 obtain ⟨W0,hW0⟩:∃ W0,w.alloc (.cells #[.int .u8 (k0:Int),.int .u8 (k1:Int)] 63)=W0:=⟨_,rfl⟩
 rw [hW0] at hb0 hc0 hc1
 have HB0:=Lib.hid hb0
 have HC0:=Lib.hid hc0
 have HC1:=Lib.hid hc1
 have HL:=Lib.hid (hU.keep hb0)
 have HLN:=Lib.hid (fun W=>rlines_every s1 W hs1')
 obtain ⟨L,hL⟩:∃ L,asB (linV s1.data.toList)=L:=⟨_,rfl⟩
 have HWT:Hid (wordsT s1=L.map (·.2)):=Lib.hid (by unfold wordsT;rw [hL])
 have HWP:=Lib.hid (words_pos s1)
 rw [HWT.out] at HWP
 obtain ⟨E,hE⟩:∃ E,linE s1.data.toList=E:=⟨_,rfl⟩
 have HLE:=Lib.hid hE
 simp only [hL,hE] at HLN
 have hsz:s1.size≤9223372036854775807:=by unfold maxLen at hs1';omega
 have HLL:Hid (s1.size≤4000→L.length≤4001):=Lib.hid (fun hsm=>by
  rw [←hL,asB_length]
  unfold linV
  split
  ·simp
  ·split
   ·unfold linesL
    have h1:=numP_length (enumL 1 (linesGo [] s1.data.toList))
    rw [enumL_length] at h1
    have h2:=linesGo_length [] s1.data.toList
    rw [size_list] at h2
    omega
   ·simp)
 clear hU hb0 hc0 hc1 _hs0 hs1' ha0 ha1 hL hE
 go_enter Tryz.func6,Tryz.ntmps6
 go_wp2_with fail
 refine (alive11_any _ HL.out).mono ?_
 rintro en w1 ⟨rfl,hb1⟩
 have HB1:=Lib.hid hb1
 have HL1:=Lib.hid (HL.out.keep hb1)
 clear hb1
 go_wp2_with fail
 refine (master_any s0 _ HL1.out.1 HL1.out.2.1).mono ?_
 rintro en w2 ⟨M,c,f,e,l,c',f',e',l',is,rfl,hm,hm',hb2,his⟩
 obtain ⟨pc,cc,pf,cf,pe,ce,pl,cl,rfl,rfl,rfl,rfl⟩:=shapes hm
 obtain ⟨pc',cc',pf',cf',pe',ce',pl',cl',rfl,rfl,rfl,rfl⟩:=shapes hm'
 have HM2:=Lib.hid hm
 have HM2':=Lib.hid hm'
 have HB2:=Lib.hid (HB1.out.trans (hb2.mono HB1.out.size))
 have HL2:=Lib.hid (HL1.out.keep hb2)
 have HIS:=Lib.hid his
 clear hm hm' hb2 his HB1 HL1
 cases is with
 | false =>
   go_wp2_with (first
    | (refine wpList_store_mast rfl 30 (.tmp 7) (.tmp 28) rfl w2.heap.size nil4 nil4 nil4 nil4 (.slice pc M.chart.length cc) (.slice pf M.flows.length cf) (.slice pe M.ents.length ce) (.slice pl M.lines.length cl) zeroM M 30 rfl rfl (start1 w2) ⟨rfl,rfl,rfl,rfl⟩ (by kernel_rfl) ?_;intro w3 hb3 hg3;have HX3:=Lib.hid hb3;have HG3:=Lib.hid hg3;clear hb3 hg3)
    | (refine wpList_store_mast rfl 36 (.tmp 8) (.tmp 29) rfl (w2.heap.size+1) nil4 nil4 nil4 nil4 (.slice pc' M.chart.length cc') (.slice pf' M.flows.length cf') (.slice pe' M.ents.length ce') (.slice pl' M.lines.length cl') zeroM M 36 rfl rfl (start_keep HG3.out) ⟨rfl,rfl,rfl,rfl⟩ (by kernel_rfl) ?_;intro w4 hb4 hg4;have HT4:=Lib.hid (two_of HM2.out HM2'.out HX3.out HG3.out hb4 hg4);clear hb4 hg4)
    | fail)
   have HB4:=Lib.hid (HB2.out.trans (HT4.out.bel.mono HB2.out.size))
   refine (HLN.out _).mono ?_
   rintro en w5 ⟨v5,rfl,hl5,hb5⟩
   have HB5:=Lib.hid (HB4.out.trans (hb5.mono HB4.out.size))
   clear hl5 hb5
   go_wp2
   go_ret
   exact ⟨rfl,HB0.out.trans (HB5.out.mono HB0.out.size)⟩
 | true =>
 go_wp2_with (first
  | (refine wpList_store_mast rfl 30 (.tmp 7) (.tmp 28) rfl w2.heap.size nil4 nil4 nil4 nil4 (.slice pc M.chart.length cc) (.slice pf M.flows.length cf) (.slice pe M.ents.length ce) (.slice pl M.lines.length cl) zeroM M 30 rfl rfl (start1 w2) ⟨rfl,rfl,rfl,rfl⟩ (by kernel_rfl) ?_;intro w3 hb3 hg3;have HX3:=Lib.hid hb3;have HG3:=Lib.hid hg3;clear hb3 hg3)
  | (refine wpList_store_mast rfl 36 (.tmp 8) (.tmp 29) rfl (w2.heap.size+1) nil4 nil4 nil4 nil4 (.slice pc' M.chart.length cc') (.slice pf' M.flows.length cf') (.slice pe' M.ents.length ce') (.slice pl' M.lines.length cl') zeroM M 36 rfl rfl (start_keep HG3.out) ⟨rfl,rfl,rfl,rfl⟩ (by kernel_rfl) ?_;intro w4 hb4 hg4;have HT4:=Lib.hid (two_of HM2.out HM2'.out HX3.out HG3.out hb4 hg4);clear hb4 hg4)
  | fail)
 have HB4:=Lib.hid (HB2.out.trans (HT4.out.bel.mono HB2.out.size))
 have HL4:=Lib.hid (HL2.out.keep HT4.out.bel)
 clear HM2 HM2' HB2 HL2 HX3 HG3
 refine (HLN.out _).mono ?_
 rintro en w5 ⟨v5,rfl,hl5,hb5⟩
 have HB5:=Lib.hid (HB4.out.trans (hb5.mono HB4.out.size))
 have HT5:=Lib.hid (HT4.out.keep hb5)
 have HL5:=Lib.hid (HL4.out.keep hb5)
 have HV5:=Lib.hid hl5
 clear hl5 hb5 HB4 HT4 HL4 HLN
 by_cases hs1:4000 < s1.size
 ·go_wp2
  go_ret
  exact ⟨rfl,HB0.out.trans (HB5.out.mono HB0.out.size)⟩
 by_cases hE0:E=0
 rotate_left
 ·have hE':(E != 0)=true:=by simp [hE0]
  clear hE0
  go_wp2
  go_ret
  exact ⟨rfl,HB0.out.trans (HB5.out.mono HB0.out.size)⟩
 subst hE0
 have hR:=(HIS.out (by first | trivial | rfl)).1
 have hsn:=hR.inv.sane
 have HPP:=Lib.hid (fun s (hs:s.size≤9000) W h hL=>pparse_any (.slice pc M.chart.length cc) (.slice pf M.flows.length cf) (.slice pe M.ents.length ce) (.slice pl M.lines.length cl) M s W h hsn hL hs)
 obtain ⟨C,hC⟩:∃ C,(parseP M s1).1=C:=⟨_,rfl⟩
 obtain ⟨N,hN⟩:∃ N,(parseP M s1).2=N:=⟨_,rfl⟩
 have HPE:Hid (parseP M s1=(C,N)):=Lib.hid (by rw [←hC,←hN])
 have HP1:=Lib.hid (HPP.out s1 (by omega) _ HT5.out.mast HL5.out.2.2)
 rw [HPE.out] at HP1
 have hfew:C.length≤1000:=by
  rw [←hC]
  rcases parseP_ways M s1 with ⟨T,_,_,h3,h4,h5⟩ | ⟨_,h1,_⟩
  ·rw [h5]
   have hl:=Fa.ofL_length T.facts
   omega
  ·rw [h1];simp
 have HFW:=Lib.hid hfew
 have HS1:Hid (s1.size≤4000):=Lib.hid (by omega)
 have hLL:=HLL.out HS1.out
 unfold Fa.CubeTold at HP1
 dsimp only at HP1
 clear hC hN hR hsn hfew HLL HLE
 obtain ⟨n0,n1,n2,n3,n4,n5,n6,n7,n8⟩:=HT5.out.nine
 go_wp2_with fail
 clear n0 n1 n2 n3 n4 n5 n6 n7 n8 hs1
 refine HP1.out.mono ?_
 rintro en w6 ⟨vC6,rfl,hf6,hb6⟩
 have HB6:=Lib.hid (HB5.out.trans (hb6.mono HB5.out.size))
 have HT6:=Lib.hid (HT5.out.keep hb6)
 have HL6:=Lib.hid (HL5.out.keep hb6)
 have HV6:=Lib.hid (LinesV.keep HV5.out hb6)
 have HF6:=Lib.hid hf6
 clear hf6 hb6 HB5 HT5 HL5 HV5 HP1
 by_cases hN0:N=0
 rotate_left
 ·have hN':(N != 0)=true:=by simp [hN0]
  clear hN0
  go_wp2
  go_ret
  exact ⟨rfl,HB0.out.trans (HB6.out.mono HB0.out.size)⟩
 subst hN0
 have HFO:Hid (∀ x∈L,FormOk x.2):=Lib.hid (by
  obtain ⟨T,hr,_⟩:=order_run HWT.out HPE.out
  exact fun x hx=>forms _ hr x.2 (List.mem_map.2 ⟨x,hx,rfl⟩))
 obtain ⟨p,cp,hv5,hmx,hc⟩:=HV6.out
 subst hv5
 have HC:=Lib.hid hc
 obtain ⟨n,hn⟩:∃ n,L.length=n:=⟨_,rfl⟩
 rw [hn] at hLL hmx HV6 ⊢
 have HN:=Lib.hid hn
 unfold maxLen at hmx
 clear hc hn
 go_wp2
 go_loopw [57] (fun s57 wr=>∃ i:Nat,i≤n∧s57=.int .i64 (i:Int)∧Hid (∀ (j:Nat) (x:Ln),j < i→L[j]?=some x→wd x.2 0=tFact→(wd x.2 4).size≤15)∧Hid (Below w6.heap.size w6 wr)) (fun s57 _=>n - (intOf s57).toNat)
 case atStart=>exact ⟨0,Nat.zero_le _,rfl,Lib.hid (fun j x hj=>by omega),Lib.hid (Below.refl _ _)⟩
 case round =>
  obtain ⟨i,hi,rfl,HSO,HBR⟩:=hrel
  by_cases hlt:i < n
  ·obtain ⟨⟨ln,ws⟩,hx⟩:∃ x,L[i]?=some x:=⟨_,List.getElem?_eq_getElem (by rw [HN.out];exact hlt)⟩
   obtain ⟨b,o,u,rfl,d0,d1,hu⟩:=HC.out i _ hx
   have hfo:=HFO.out _ (List.mem_of_getElem? hx)
   dsimp only at d0 d1 hu hfo
   obtain ⟨pu,cu,rfl,hcu,hmu,hcw⟩:=hu
   have HX:=Lib.hid hx
   have HBN:=Lib.hid (HBR.out.alloc HBR.out.size (.cells #[.int .i64 ln,.slice pu ws.length cu] 69))
   rcases hfo with ⟨hf,h5,_⟩ | ⟨hf,h2,_⟩
   ·obtain ⟨t,y1,y2,y3,y4,rfl⟩:=five h5
    obtain rfl:t=tFact:=hf
    obtain ⟨gu,ou,rfl,z0⟩:=hcw 0 tFact rfl
    obtain ⟨g',o',e1,z4⟩:=hcw 4 y4 rfl
    cases e1
    rw [Nat.add_zero] at z0
    have e0:=(HBR.out.cell (World.block_lt_of_cell? w6 _ d0)).trans d0
    have e1:=(HBR.out.cell (World.block_lt_of_cell? w6 _ d1)).trans d1
    have m0:=(HBN.out.cell (World.block_lt_of_cell? w6 _ z0)).trans z0
    have m4:=(HBN.out.cell (World.block_lt_of_cell? w6 _ z4)).trans z4
    have q1:=qFact tFact
    rw [decide_eq_true rfl] at q1
    simp only [List.length_cons,List.length_nil,Nat.zero_add,Nat.reduceAdd] at e1 m0 m4 HBN
    clear hx d0 d1 hcw hcu hmu z0 z4 h5
    by_cases hbig:15 < y4.size
    ·go_wp2
     go_ret
     exact ⟨rfl,HB0.out.trans ((HB6.out.trans (HBN.out.mono HB6.out.size)).mono HB0.out.size)⟩
    ·have HSN:Hid (∀ (j:Nat) (x:Ln),j < i+1→L[j]?=some x→wd x.2 0=tFact→(wd x.2 4).size≤15):=Lib.hid (fun j x hj hx hf=>by
      by_cases hji:j < i
      ·exact HSO.out j x hji hx hf
      ·obtain rfl:j=i:=by omega
       rw [HX.out] at hx
       have ex:=Option.some.inj hx
       rw [←ex]
       show y4.size≤15
       omega)
     go_wp2
     go_roundw
     case rel=>exact ⟨i+1,by omega,by go_num,HSN,HBN⟩
     case measure=>simp [intOf];omega
   ·obtain ⟨t,y1,rfl⟩:=two h2
    have hf':t≠tFact:=hf
    obtain ⟨gu,ou,rfl,z0⟩:=hcw 0 t rfl
    rw [Nat.add_zero] at z0
    have e0:=(HBR.out.cell (World.block_lt_of_cell? w6 _ d0)).trans d0
    have e1:=(HBR.out.cell (World.block_lt_of_cell? w6 _ d1)).trans d1
    have m0:=(HBN.out.cell (World.block_lt_of_cell? w6 _ z0)).trans z0
    have q1:=qFact t
    rw [decide_eq_false hf'] at q1
    simp only [List.length_cons,List.length_nil,Nat.zero_add,Nat.reduceAdd] at e1 m0 HBN
    have HSN:Hid (∀ (j:Nat) (x:Ln),j < i+1→L[j]?=some x→wd x.2 0=tFact→(wd x.2 4).size≤15):=Lib.hid (fun j x hj hx2 hf2=>by
     by_cases hji:j < i
     ·exact HSO.out j x hji hx2 hf2
     ·have ej:j=i:=by omega
      rw [ej,HX.out] at hx2
      have ex:=Option.some.inj hx2
      subst ex
      exact absurd (show t=tFact from hf2) hf')
    clear hx d0 d1 hcw hcu hmu z0 h2 hf hf'
    go_wp2
    go_roundw
    case rel=>exact ⟨i+1,by omega,by go_num,HSN,HBN⟩
    case measure=>simp [intOf];omega
  obtain rfl:i=n:=by omega
  rename World=>wl
  have HOP:Hid (OrderP M s1 L C):=Lib.hid ⟨HWT.out,HPE.out,HS1.out,fun x hx hf=>by
   obtain ⟨j,hj,rfl⟩:=List.getElem_of_mem hx
   exact HSO.out j _ (by rw [←HN.out];exact hj) (List.getElem?_eq_getElem hj) hf⟩
  have HB7:=Lib.hid (HB6.out.trans (HBR.out.mono HB6.out.size))
  have HT7:=Lib.hid (HT6.out.keep HBR.out)
  have HL7:=Lib.hid (HL6.out.keep HBR.out)
  have HF7:=Lib.hid (ElsV.keep HF6.out HBR.out)
  have HV7:=Lib.hid (LinesV.keep HV6.out HBR.out)
  have HBK:=Lib.hid (blocks_any _ L wl HV7.out (fun x hx=>by
   have:=HWP.out x.2 (List.mem_map.2 ⟨x,hx,rfl⟩)
   exact this) (by rw [HN.out];omega))
  go_wp2_with fail
  refine HBK.out.mono ?_
  rintro en wb ⟨Bk,SL,pb,cb,rfl,hat,hbb⟩
  have HBX:=Lib.hid (HB7.out.trans (hbb.mono HB7.out.size))
  have HTX:=Lib.hid (HT7.out.keep hbb)
  have HLX:=Lib.hid (HL7.out.keep hbb)
  have HFX:=Lib.hid (ElsV.keep HF7.out hbb)
  have HAT:=Lib.hid hat
  have HBB:=Lib.hid hbb
  obtain ⟨m,hm⟩:∃ m,SL.length=m:=⟨_,rfl⟩
  have hmb:m≤5000:=by
   rw [←hm,hat.len]
   have h1:=blocks_le L []
   have h2:=HN.out
   simp only [List.length_nil,Nat.zero_add] at h1
   unfold blocksL
   omega
  rw [hm] at HAT ⊢
  have HM:=Lib.hid hm
  have HST:Hid (∃ X,wb.ownsRow wb.heap.size 69 2 (.slice none 0 0) X.length (flat encLV X)∧LnsAre wl X (outY k0 k1 (blocksL L) 0)):=Lib.hid ⟨[],World.ownsRow_nil _ _ _ _,by rw [outY_zero];exact LnsAre.nil wl⟩
  clear hat hbb hm HB6 HT6 HL6 HF6 HV6 HB7 HT7 HL7 HF7 HV7 HBK HSO HC hlt
  go_wp2
  go_loopw [17,79] (fun s17 s79 wx=>∃ i:Nat,i≤m∧s79=.int .i64 (i:Int)∧Hid (∃ X,wx.ownsRow wb.heap.size 69 2 s17 X.length (flat encLV X)∧LnsAre wl X (outY k0 k1 (blocksL L) i))∧Hid (Below wb.heap.size wb wx)) (fun _ s79 _=>m - (intOf s79).toNat)
  case atStart=>exact ⟨0,Nat.zero_le _,rfl,HST,Lib.hid (Below.refl _ _)⟩
  case round =>
   obtain ⟨i,hi,rfl,HXA,HBR⟩:=hrel
   obtain ⟨X,hXr,hXl⟩:=HXA.out
   have hlb:(blocksL L).length=m:=by rw [←HM.out];exact HAT.out.len.symm
   have HYL:Hid (X.length≤10000):=Lib.hid (by rw [hXl.1];exact Nat.le_trans (outY_le k0 k1 (blocksL L) i) (HOP.out.same k0 k1).2.2.1)
   have HXR:=Lib.hid hXr
   have HXL:=Lib.hid hXl
   obtain ⟨px,cx,mx,hvx⟩:=own_sl hXr
   subst hvx
   clear hXr hXl HXA HST
   by_cases hlt:i < m
   rotate_left
   ·obtain rfl:i=m:=by omega
    rw [outY_all k0 k1 (blocksL L) i hlb] at HXL
    obtain ⟨hs1,hs2,hs3,hs4⟩:=HOP.out.same k0 k1
    have HLV:=Lib.hid (fun W (hW:Below wr.heap.size wr W)=>lines_own (row_below HXR.out hW) HXL.out ((HBB.out.trans (HBR.out.mono HBB.out.size)).trans (hW.mono (by have:=HBB.out.size;have:=HBR.out.size;omega))))
    have hxl:X.length=(turnL k0 k1 (blocksL L)).length:=HXL.out.1
    obtain ⟨Y,hY⟩:∃ Y,turnL k0 k1 (blocksL L)=Y:=⟨_,rfl⟩
    rw [hY] at hs1 hs2 hs3 hs4 hxl
    simp only [hY] at HLV
    have HJ:=Lib.hid (fun v W h=>rjoin_at v Y W h hs3 hs4)
    have HPJ:=Lib.hid (fun W h hL=>HPP.out (mkB (joinL Y)) hs2 W h hL)
    rw [hs1] at HPJ
    unfold Fa.CubeTold at HPJ
    dsimp only at HPJ
    obtain ⟨J,hJ⟩:∃ J,mkB (joinL Y)=J:=⟨_,rfl⟩
    simp only [hJ] at HJ HPJ
    have HTR:=Lib.hid (HTX.out.keep HBR.out)
    have HLR:=Lib.hid (HLX.out.keep HBR.out)
    have HFR:=Lib.hid (ElsV.keep HFX.out HBR.out)
    have HBZ:=Lib.hid (HBX.out.trans (HBR.out.mono HBX.out.size))
    obtain ⟨n0,n1,n2,n3,n4,n5,n6,n7,n8⟩:=HTR.out.nine
    have r0:=fun p:Past wr=>cell_past n0 p
    have r1:=fun p:Past wr=>cell_past n1 p
    have r2:=fun p:Past wr=>cell_past n2 p
    have r3:=fun p:Past wr=>cell_past n3 p
    have r4:=fun p:Past wr=>cell_past n4 p
    have r5:=fun p:Past wr=>cell_past n5 p
    have r6:=fun p:Past wr=>cell_past n6 p
    have r7:=fun p:Past wr=>cell_past n7 p
    have r8:=fun p:Past wr=>cell_past n8 p
    clear n0 n1 n2 n3 n4 n5 n6 n7 n8 hs1 hs2 hs3 hs4 hY hJ HXL HTX HLX HFX
    go_wp2_with fail
    refine wp_region_plan (.one [0,1] 2 (.one [] 3 (.last [4,5,6,7,8]))) (by kernel_rfl) (by kernel_rfl) (fun d _ _ _ _ h=>by cases d <;> exact h) ?_
    obtain ⟨wx,hwx⟩:∃ wx,wr.drew=wx:=⟨_,rfl⟩
    rw [hwx]
    have HDX:Hid (Below wr.heap.size wr wx):=Lib.hid (by rw [←hwx];exact ⟨rfl,rfl,rfl,Nat.le_refl _,fun _ _=>rfl⟩)
    clear hwx
    simp only [wpPlan,pick,nth]
    repeat (go_big_quiet_step (fail))
    refine wpQuiet_nil ?_
    clear r0 r1 r2 r3 r4 r5 r6 r7 r8
    intro K hK
    refine alone_want (by kernel_rfl) ?_
    go_big_op
    refine (HJ.out _ _ (HLV.out wx HDX.out)).mono ?_
    rintro en w' ⟨rfl,rfl⟩
    refine hK _ _ (past_in HDX.out) ?_
    clear hK K
    refine wpQuiet_nil ?_
    intro K hK
    refine alone_want (by kernel_rfl) ?_
    go_big_op
    refine (HPJ.out wx (HTR.out.keep HDX.out).mast (HLR.out.keep HDX.out).2.2).mono ?_
    rintro en w8 ⟨vC8,rfl,hf8,hb8⟩
    have HD8:=Lib.hid (HDX.out.trans (hb8.mono HDX.out.size))
    have HF8:=Lib.hid hf8
    refine hK _ _ (past_in HD8.out) ?_
    clear hK K hb8 hf8
    repeat (go_big_quiet_step (fail))
    refine wpQuiet_nil ?_
    have HB8:=Lib.hid (HBZ.out.trans (HD8.out.mono HBZ.out.size))
    have HFS:=Lib.hid (ElsV.keep HFR.out HD8.out)
    clear HJ HPJ HLV HTR HLR HFR HBZ HDX HD8 HXR
    go_wp2_with fail
    refine (Fa.ours_any vC6 C w8 HFS.out (by have:=HFW.out;omega)).mono ?_
    rintro en w9 ⟨u9,rfl,ho9,hb9⟩
    have HB9:=Lib.hid (HB8.out.trans (hb9.mono HB8.out.size))
    have HV9:=Lib.hid (els_of_own (E:=Fa.encF) ho9)
    have HF9:=Lib.hid (ElsV.keep HF8.out hb9)
    clear ho9 hb9 HB8 HF8 HFS
    go_wp2_with fail
    refine (Fa.ours_any vC8 C w9 HF9.out (by have:=HFW.out;omega)).mono ?_
    rintro en wa ⟨ua,rfl,hoa,hba⟩
    have HBA:=Lib.hid (HB9.out.trans (hba.mono HB9.out.size))
    have HVA:=Lib.hid (els_of_own (E:=Fa.encF) hoa)
    have HV9b:=Lib.hid (ElsV.keep HV9.out hba)
    clear hoa hba HB9 HV9 HF9
    go_wp2_with fail
    refine (Fa.same_any u9 ua C C wa HV9b.out HVA.out).mono ?_
    rintro en wc ⟨rfl,hbc⟩
    have HBC:=Lib.hid (HBA.out.trans (hbc.mono HBA.out.size))
    rw [show Fa.sameL C C=true from decide_eq_true rfl]
    clear hbc
    go_wp2
    go_ret
    exact ⟨rfl,HB0.out.trans (HBC.out.mono HB0.out.size)⟩
   obtain ⟨r,hr⟩:∃ r,(i+k0) % m=r:=⟨_,rfl⟩
   have hrm:r < m:=by rw [←hr];exact Nat.mod_lt _ (by omega)
   have hrr:(((i:Int)+(k0:Int)) % (m:Int))=(r:Int):=by rw [←hr];norm_cast
   obtain ⟨s,hs⟩:∃ s,SL[r]?=some s:=⟨_,List.getElem?_eq_getElem (by rw [HM.out];exact hrm)⟩
   obtain ⟨bb,hb⟩:∃ b,(blocksL L)[r]?=some b:=⟨_,List.getElem?_eq_getElem (by rw [hlb];exact hrm)⟩
   obtain ⟨hd,fs,rfl,_,_⟩:=HOP.out.shape bb (List.mem_of_getElem? hb)
   have HSTEP:Hid (outY k0 k1 (blocksL L) (i+1)=outY k0 k1 (blocksL L) i++hd::rotL k1 fs):=Lib.hid (outY_step k0 k1 (blocksL L) i (by rw [hlb];exact hlt) (by rw [hlb,hr];exact hb))
   obtain ⟨XB,hxb,hxbl⟩:=HAT.out.inn r s _ hs hb
   obtain ⟨q,hq⟩:∃ q,fs.length=q:=⟨_,rfl⟩
   have hxn:XB.length=q+1:=by rw [hxbl.1,List.length_cons,hq]
   have hqb:q≤100000:=by
    have h1:=len_flatten (blocksL L) _ (List.mem_of_getElem? hb)
    rw [blocks_flat,HN.out,List.length_cons] at h1
    omega
   obtain ⟨go,co,e0⟩:=own_some HAT.out.out (by rw [HM.out];omega)
   cases e0
   have c9:wb.cell? ⟨go,r,none⟩=some (.slice s.p s.n s.c):=by
    have:=HAT.out.out.cells (g:=go) (by rw [HM.out];rfl) r s.val (by
     have:=flat_at (E:=encSl) SL r s hs 0 _ rfl
     rwa [show encSl.k=1 from rfl,Nat.mul_one,Nat.add_zero] at this)
    rwa [add_off,Nat.zero_add] at this
   obtain ⟨gs,cs,e1⟩:=own_some hxb (by rw [hxn];omega)
   rw [hxn] at e1
   have hsn:s.n=q+1:=by cases s;cases e1;rfl
   have hsp:s.p=some ⟨gs,0,none⟩:=by cases s;cases e1;rfl
   have hcq:q+1≤s.c:=by
    obtain ⟨_,c',e2,h2,_⟩:=els_of_own (E:=encLV) hxb
    rw [hxn] at h2
    have:s.c=c':=by cases s;cases e2;rfl
    omega
   have HXB:=Lib.hid (els_of_own (E:=encLV) hxb)
   have hgs:gs < wb.heap.size:=(hxb.lt gs (by show (Value.slice s.p s.n s.c).ownBlock=some gs;rw [hsp];rfl)).2
   have HGS:=Lib.hid hgs
   have HXBL:=Lib.hid hxbl
   have HXN:=Lib.hid hxn
   obtain ⟨xh,hxh⟩:∃ x,XB[0]?=some x:=⟨_,List.getElem?_eq_getElem (by rw [hxn];omega)⟩
   have HXH:=Lib.hid (hxbl.2 0 xh hd hxh rfl)
   have hcell:∀ (j:Nat) (x:LV),XB[j]?=some x→ElAt encLV wb gs (j * 2) x:=fun j x hx=>by
    obtain ⟨_,_,e2,_,_,_,hcc⟩:=HXB.out
    obtain ⟨b',o',e3,hat⟩:=hcc j x hx
    have e4:Value.slice s.p s.n s.c=_:=e2
    rw [hsp] at e4
    injection e4 with e5 _ _
    subst e5
    cases e3
    rwa [Nat.zero_add] at hat
   have HCELL:=Lib.hid hcell
   have h0a:=(hcell 0 xh hxh).keep HBR.out hgs
   obtain ⟨z0,z1⟩:=two_lv h0a
   simp only [Nat.zero_mul,Nat.zero_add] at z0 z1
   have y9:=(HBR.out.cell (World.block_lt_of_cell? _ _ c9)).trans c9
   rw [hsn,hsp] at y9
   have hbw:=HBX.out.trans (HBR.out.mono HBX.out.size)
   have b0:=(hbw.cell (World.block_lt_of_cell? _ _ HC0.out)).trans HC0.out
   obtain ⟨pv,cv,hsl,hpv⟩:=blk_tail gs q s.c hcq
   have HPV:=Lib.hid hpv
   have HSL:=Lib.hid hsl
   have HXA:=Lib.hid (HXR.out.alloc (.cells #[.int .i64 xh.num,.slice xh.sl.p xh.sl.n xh.sl.c] 69))
   have HBA:=Lib.hid (HBR.out.alloc HBR.out.size (.cells #[.int .i64 xh.num,.slice xh.sl.p xh.sl.n xh.sl.c] 69))
   have HELH:Hid (ElAt encLV (wr.alloc (.cells #[.int .i64 xh.num,.slice xh.sl.p xh.sl.n xh.sl.c] 69)) wr.heap.size 0 xh):=Lib.hid (el_new encLV wr xh 69)
   have HSB:Hid (wb.heap.size≤(wr.alloc (.cells #[.int .i64 xh.num,.slice xh.sl.p xh.sl.n xh.sl.c] 69)).heap.size):=Lib.hid HBA.out.size
   clear hs hb hxb hxbl hxn hgs hcell h0a hbw hpv hxh c9 hr hlb e1
   go_wp2_with (first
    | (at_builtin;go_must (refine wpList_append_el (E:=encLV) rfl _ _ 64 69 rfl infoLn wb.heap.size X xh wr.heap.size HXA.out rfl HELH.out HSB.out (by have:=HYL.out;omega) ?_);intro v9 w9 hr9 hb9 hg9;have HR9:=Lib.hid hr9;have HB9:=Lib.hid (HBA.out.trans hb9);clear hr9 hb9 hg9)
    | fail)
   obtain ⟨p9,c9,m9,e9⟩:=own_sl HR9.out
   subst e9
   obtain ⟨X9,hX9⟩:∃ Y,X++[xh]=Y:=⟨_,rfl⟩
   rw [hX9] at HR9
   have HST2:Hid (∃ X,w9.ownsRow wb.heap.size 69 2 (.slice p9 m9 c9) X.length (flat encLV X)∧LnsAre wl X (outY k0 k1 (blocksL L) i++hd::(rotL k1 fs).take 0)):=Lib.hid ⟨X9,HR9.out,by rw [←hX9];exact HXL.out.snoc HXH.out⟩
   have HQ:=Lib.hid hq
   have HRB:=Lib.hid hrr
   clear hX9 HXA HBA HELH HSB HYL z0 z1 y9 b0 hsl hrr HXR HXL hq
   rename World=>w9
   go_loopw [17,102] (fun s17 s102 wy=>∃ k:Nat,k≤q∧s102=.int .i64 (k:Int)∧Hid (∃ X,wy.ownsRow wb.heap.size 69 2 s17 X.length (flat encLV X)∧LnsAre wl X (outY k0 k1 (blocksL L) i++hd::(rotL k1 fs).take k))∧Hid (Below wb.heap.size wb wy)) (fun _ s102 _=>q - (intOf s102).toNat)
   case atStart=>exact ⟨0,Nat.zero_le _,rfl,HST2,HB9⟩
   case round =>
    obtain ⟨k,hk,rfl,HXA,HBR2⟩:=hrel
    obtain ⟨X,hXr,hXl⟩:=HXA.out
    have hrl:(rotL k1 fs).length=q:=by rw [rot_length,HQ.out]
    have HYL:Hid (X.length≤200000):=Lib.hid (by
     have h1:=outY_le k0 k1 (blocksL L) i
     have h2:=(HOP.out.same k0 k1).2.2.1
     rw [hXl.1,List.length_append,List.length_cons,List.length_take]
     have:=Nat.min_le_left k (rotL k1 fs).length
     omega)
    have HXR:=Lib.hid hXr
    have HXL:=Lib.hid hXl
    obtain ⟨px,cx,mx,hvx⟩:=own_sl hXr
    subst hvx
    clear hXr hXl HXA HST2
    by_cases hlt2:k < q
    rotate_left
    ·obtain rfl:k=q:=by omega
     have HNX:Hid (∃ X,wr.ownsRow wb.heap.size 69 2 (.slice px mx cx) X.length (flat encLV X)∧LnsAre wl X (outY k0 k1 (blocksL L) (i+1))):=Lib.hid ⟨X,HXR.out,by
      have:=HXL.out
      rw [List.take_of_length_le (by rw [hrl];exact Nat.le_refl _)] at this
      rw [HSTEP.out];exact this⟩
     go_wp2
     go_roundw
     case rel=>exact ⟨i+1,by omega,by go_num,HNX,HBR2⟩
     case measure=>simp [intOf];omega
    obtain ⟨r2,hr2⟩:∃ r,(k+k1) % q=r:=⟨_,rfl⟩
    have hrm2:r2 < q:=by rw [←hr2];exact Nat.mod_lt _ (by omega)
    have hrr2:(((k:Int)+(k1:Int)) % (q:Int))=(r2:Int):=by rw [←hr2];norm_cast
    obtain ⟨f,hf⟩:∃ f,fs[r2]?=some f:=⟨_,List.getElem?_eq_getElem (by rw [HQ.out];exact hrm2)⟩
    obtain ⟨xf,hxf⟩:∃ x,XB[r2+1]?=some x:=⟨_,List.getElem?_eq_getElem (by rw [HXN.out];omega)⟩
    have HXF:=Lib.hid (HXBL.out.2 (r2+1) xf f hxf (by rw [List.getElem?_cons_succ];exact hf))
    have HTK:Hid ((rotL k1 fs).take (k+1)=(rotL k1 fs).take k++[f]):=Lib.hid (by
     have h1:=rot_at k1 k fs (by rw [HQ.out];exact hlt2)
     rw [HQ.out,hr2,hf] at h1
     rw [List.take_add_one,h1];rfl)
    have hfe:=(HCELL.out (r2+1) xf hxf).keep HBR2.out HGS.out
    rw [show (r2+1) * 2=2+r2 * 2 by omega] at hfe
    obtain ⟨z0,z1⟩:=two_lv hfe
    have hbw:=HBX.out.trans (HBR2.out.mono HBX.out.size)
    have b1:=(hbw.cell (World.block_lt_of_cell? _ _ HC1.out)).trans HC1.out
    have hpv:=HPV.out (by omega)
    subst hpv
    go_wp2_with fail
    have hsl:=HSL.out
    have t0:=fun p:Leave (fun j=>j < wb.heap.size) wr=>cell_leave z0 HGS.out p
    have t1:=fun p:Leave (fun j=>j < wb.heap.size) wr=>cell_leave z1 HGS.out p
    have t2:=fun p:Leave (fun j=>j < wb.heap.size) wr=>cell_leave b1 (show w.heap.size < wb.heap.size from Nat.lt_of_lt_of_le (World.block_lt_of_cell? _ _ HC1.out) HBX.out.size) p
    clear z0 z1 b1 hbw hfe hf hxf hr2
    refine wp_region_plan_if (S:=fun w'=>∃ p:Leave (fun j=>j < wb.heap.size) wr,w'=p.its) (.one [0,1,2,3,4,5,6,7,8,9,10,11,12,13] 14 (.one [] 15 (.last [16]))) (by kernel_rfl) (by kernel_rfl) (fun d _ _ _ _ h=>by cases d <;> exact h) ⟨⟨wr.drew,fun _ _ _=>rfl⟩,rfl⟩ ?_
    obtain ⟨wz,hwz⟩:∃ wz,wr.drew=wz:=⟨_,rfl⟩
    rw [hwz]
    have HQ3:Hid (Below wr.heap.size wr wz):=Lib.hid (by rw [←hwz];exact ⟨rfl,rfl,rfl,Nat.le_refl _,fun _ _=>rfl⟩)
    have HSZ:Hid (wr.heap.size≤wz.heap.size):=Lib.hid HQ3.out.size
    have HSW:Hid (wb.heap.size≤wr.heap.size):=Lib.hid HBR2.out.size
    clear hwz
    have hbq:=HBR2.out.trans (HQ3.out.mono HBR2.out.size)
    have HBA:=Lib.hid (hbq.alloc hbq.size (.cells #[.int .i64 xf.num,.slice xf.sl.p xf.sl.n xf.sl.c] 69))
    have HXA:=Lib.hid ((row_below HXR.out HQ3.out).alloc (.cells #[.int .i64 xf.num,.slice xf.sl.p xf.sl.n xf.sl.c] 69))
    have HEL:Hid (ElAt encLV (wz.alloc (.cells #[.int .i64 xf.num,.slice xf.sl.p xf.sl.n xf.sl.c] 69)) wz.heap.size 0 xf):=Lib.hid (el_new encLV wz xf 69)
    have HSB:Hid (wb.heap.size≤(wz.alloc (.cells #[.int .i64 xf.num,.slice xf.sl.p xf.sl.n xf.sl.c] 69)).heap.size):=Lib.hid HBA.out.size
    clear hbq
    simp only [wpPlan,pick,nth]
    repeat (go_big_quiet_step (fail))
    refine wpQuiet_nil ?_
    clear t0 t1 t2 hsl
    intro K hK
    refine alone_want (by kernel_rfl) ?_
    go_big_op
    refine hK _ _ (leave_in fun j hj hjl=>(heap_alloc_old _ _ (by have:=HSZ.out;omega)).trans (HQ3.out.block j hjl)) ?_
    clear hK K
    refine wpQuiet_nil ?_
    intro K hK
    refine alone_want (by kernel_rfl) ?_
    refine wp_append_el (E:=encLV) (.tmp 105) (.tmp 119) 64 69 rfl infoLn wb.heap.size (.slice px mx cx) X xf wz.heap.size rfl HXA.out rfl HEL.out HSB.out (by have:=HYL.out;omega) ?_
    intro v2 wa hr2 hb2 hg2
    refine hK _ _ (leave_in fun j hj hjl=>?_) ?_
    ·rw [hb2.block j hj]
     exact ((heap_alloc_old _ _ (by have:=HSZ.out;omega)).trans (HQ3.out.block j hjl))
    clear hK K
    obtain ⟨p2,q2,m2,hv2⟩:=own_sl hr2
    subst hv2
    have HNX:Hid (∃ X,wa.ownsRow wb.heap.size 69 2 (.slice p2 m2 q2) X.length (flat encLV X)∧LnsAre wl X (outY k0 k1 (blocksL L) i++hd::(rotL k1 fs).take (k+1))):=Lib.hid ⟨X++[xf],hr2,by
     rw [HTK.out]
     have:=HXL.out.snoc HXF.out
     rwa [List.append_assoc] at this⟩
    have HBN:=Lib.hid (HBA.out.trans hb2)
    clear hb2 hr2 hg2
    simp only [Act.put,List.setIfInBounds_toArray,List.set_cons_zero,List.set_cons_succ]
    repeat (go_big_quiet_step (fail))
    refine wpQuiet_nil ?_
    go_wp2
    go_roundw
    case rel=>exact ⟨k+1,by omega,by go_num,HNX,HBN⟩
    case measure=>simp [intOf];omega
end Go.Proofs.YtdegffffcbhjbaaGreatDoor.Pk
end
