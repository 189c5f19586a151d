/- Base UnitHad UnitTurn CsLines -/
import Derived.Test.YthcpglnmhimepaaGreatDoorS49
import Derived.Test.YthcpglnmhimepaaGreatDoorS50
section
namespace Go.Proofs.YthcpglnmhimepaaGreatDoor
open Go.RowKit
def InU8 (a:Int):Prop:=0≤a∧a≤255
theorem in_of_wf_u8 {a:Int} (h:(Lit.int .u8 a).wf=true):InU8 a:=by
 have e1:IntKind.u8.min=0:=rfl
 have e2:IntKind.u8.max=255:=rfl
 simp [Lit.wf,e1,e2] at h
 exact h
end Go.Proofs.YthcpglnmhimepaaGreatDoor
end
section
namespace Go.Proofs.YthcpglnmhimepaaGreatDoor.Un
open Go.RowKit
theorem info_hline:(Tryz.prog.info? 68).map (fun i=>(i.zero,i.size,i.bytes))=some (some (.agg #[.int .i64 0,.slice none 0 0]),2,32):=by kernel_rfl
end Go.Proofs.YthcpglnmhimepaaGreatDoor.Un
end
section
namespace Go.Proofs.YthcpglnmhimepaaGreatDoor.Un
open Go.RowKit
theorem flatL_append (A B:List (Int × Value)):flatL (A++B)=flatL A++flatL B:=by simp [flatL]
def HadPart (W:World) (Bw:Nat) (ad:Addr) (L:List (Int × List ByteArray)):Prop :=
 ∃ LV,(∀ (j:Nat) (u:Value),(flatL LV)[j]?=some u→W.cell? (ad.add j)=some u)∧WordsOwn W Bw 9 LV L
theorem words_append {W:World} {Bw:Nat} {e:TypeId} {A B:List (Int × Value)} {K L:List (Int × List ByteArray)} (h:WordsOwn W Bw e A K) (h':WordsOwn W Bw e B L):WordsOwn W Bw e (A++B) (K++L):=by
 refine ⟨by rw [List.length_append,List.length_append,h.1,h'.1],fun i x y hx hy=>?_⟩
 by_cases hi:i < A.length
 ·rw [List.getElem?_append_left hi] at hx
  rw [List.getElem?_append_left (by rw [←h.1];exact hi)] at hy
  exact h.2 i x y hx hy
 ·rw [List.getElem?_append_right (by omega)] at hx
  rw [List.getElem?_append_right (by rw [←h.1];omega),←h.1] at hy
  exact h'.2 _ x y hx hy
theorem part_ones {W:World} {Bw:Nat} {e:TypeId} {LV:List (Int × Value)} {L:List (Int × List ByteArray)} (h:WordsOwn W Bw e LV L):∀ v∈flatL LV,v.oneCell'=true:=fun v hv=>by
 obtain ⟨x,hx,hv⟩:=List.mem_flatMap.1 hv
 simp at hv
 rcases hv with rfl | rfl
 ·rfl
 ·obtain ⟨i,hi,e1⟩:=List.getElem_of_mem hx
  obtain ⟨y,hy⟩:∃ y,L[i]?=some y:=⟨_,List.getElem?_eq_getElem (by rw [←h.1];exact hi)⟩
  obtain ⟨_,e2⟩:=h.2 i x _ (by rw [List.getElem?_eq_getElem hi,e1]) hy
  rcases e2.2 with ⟨e3,_⟩ | ⟨g',cap,cur,e3,_⟩
  ·rw [e3];rfl
  ·rw [e3];rfl
theorem wp_append_part {o:Oper} {a:Act} {w:World} {K:Act→World→Prop} {Q:Exit→Act→World→Prop} (s x:Operand) (ho:o.op=.call { callee:=.builtin .append,args:=#[s,x],argTypes:=#[60,60] })
 (B Bw:Nat) (v:Value) (C L:List (Int × List ByteArray)) (ad:Addr) (m c:Nat) (hs:a.eval s=v) (hrow:HadAt w B Bw v C) (hx:a.eval x=.slice (some ad) m c) (hm:L.length=m) (hp:HadPart w Bw ad L) (hB:B≤w.heap.size) (hK:C.length+m≤200000)
 (h:∀ v' w',HadAt w' B Bw v' (C++L)→Below B w w'→w.grownBy w' v.ownBlock→K (a.put o.dst v') w'):o.wp Tryz.prog a w K Q:=by
 obtain ⟨LV,h1,h2⟩:=hrow
 obtain ⟨PV,p1,p2⟩:=hp
 have hlen:LV.length=C.length:=h2.1
 have hlen':PV.length=m:=by rw [p2.1,hm]
 obtain ⟨i,hi,hz,hsz,hby⟩:=info_parts info_hline
 refine wp_append_own w s x 60 ho B 68 i _ 2 32 Tryz.underlying60 hi hz hsz hby rfl (by decide) v LV.length (flatL LV) hs h1 ad m c (flatL PV) hx (by rw [flatL_length,hlen']) p1 (part_ones p2) (by unfold maxLen;omega) (by omega) hB ?_
 intro v' w' h3 h4 _
 have hk:∀ (q:Value) (m:Nat) (xs:List Value),w.ownsRow Bw 9 1 q m xs→w'.ownsRow Bw 9 1 q m xs:=fun q m xs hq=>hq.kept h4 (row_apart h1 hq (by decide))
 refine h v' w' ⟨LV++PV,?_,words_append (h2.mono hk) (p2.mono hk)⟩ (below_grown (Below.refl _ _) hB h1 h4) h4
 rw [flatL_append,List.length_append,hlen'];exact h3
end Go.Proofs.YthcpglnmhimepaaGreatDoor.Un
end
section
namespace Go.Proofs.YthcpglnmhimepaaGreatDoor.Cs
open Go.RowKit Go.Proofs.YthcpglnmhimepaaGreatDoor.Un Go.Proofs.YthcpglnmhimepaaGreatDoor.Pk
open Go.Lib (itoa)
theorem had_ne {W:World} {B Bw:Nat} {v:Value} {L:List (Int × List ByteArray)} {g:Nat} {cs:Array Value} {t:TypeId} {fr:Nat × Nat} (h:HadAt W B Bw v L) (hb:W.heap[g]?=some (.cells cs t fr)) (hne:t≠68):some g≠v.ownBlock:=by
 obtain ⟨LV,h1,_⟩:=h
 exact fun e=>box_apart hb h1 hne e.symm
theorem back_few {M:Mast} {s:ByteArray} {T:List Crs} (hr:runC M [] (wordsT s)=(T,0)) {L K:List (Int × List ByteArray)} (hW:wordsT s=L.map (·.2)) (hp:K.Perm L):∀ x∈K,x.2.length≤60∧∀ y∈x.2,y.size≤100:=fun x hx=>by
 have hxw:x.2∈wordsT s:=by rw [hW];exact List.mem_map.2 ⟨x,hp.mem_iff.1 hx,rfl⟩
 obtain ⟨_,h2,h3⟩:=line_few ((run_zero_of hr).good x.2 hxw)
 exact ⟨by omega,h3⟩
theorem print_nil:printC []=⟨#[]⟩:=rfl
end Go.Proofs.YthcpglnmhimepaaGreatDoor.Cs
end
