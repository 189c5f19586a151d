/- PkTwo CsGiven -/
import Derived.Test.YthcpglnmhimepaaGreatDoorS37
import Derived.Test.YthcpglnmhimepaaGreatDoorS39
import Derived.Test.YthcpglnmhimepaaGreatDoorS44
section
namespace Go.Proofs.YthcpglnmhimepaaGreatDoor.Pk
open Go.RowKit Go.Maps Go.Proofs.YthcpglnmhimepaaGreatDoor.Un
theorem start1 (w:World):BoxM (rzeroBox (zeroBox w)) w.heap.size 30 nil4 nil4 nil4 nil4 zeroM:=(box_start w).kept ((Below.refl _ _).alloc (Nat.le_refl _) _)
theorem start2 (w:World):BoxM (rzeroBox (zeroBox w)) (w.heap.size+1) 36 nil4 nil4 nil4 nil4 zeroM:=by
 have:=rbox_start (zeroBox w)
 rw [World.size_alloc] at this
 exact this
theorem start_keep {w w3:World} (g3:(rzeroBox (zeroBox w)).grownBy w3 (some w.heap.size)):BoxM w3 (w.heap.size+1) 36 nil4 nil4 nil4 nil4 zeroM :=
 (g3.block _ (start2 w).lt (fun e0=>by have:=Option.some.inj e0;omega)).trans (start2 w)
structure TwoM (w0 w:World) (c f e l c' f' e' l':Value) (M:Mast):Prop where
 bel:Below w0.heap.size w0 w
 mast:MastIn w c f e l M
 mast':MastIn w c' f' e' l' M
 nine:NineAt w w0.heap.size c f e l M
 nine':NineAt w (w0.heap.size+1) c' f' e' l' M
theorem two_of {w w3 w4:World} {c f e l c' f' e' l':Value} {M:Mast} (hm:MastIn w c f e l M) (hm':MastIn w c' f' e' l' M) (h3:BoxM w3 w.heap.size 30 c f e l M) (g3:(rzeroBox (zeroBox w)).grownBy w3 (some w.heap.size))
 (h4:BoxM w4 (w.heap.size+1) 36 c' f' e' l' M) (g4:w3.grownBy w4 (some (w.heap.size+1))):TwoM w w4 c f e l c' f' e' l' M:=by
 have b0:Below w.heap.size w (rzeroBox (zeroBox w)):=((Below.refl w.heap.size w).alloc (Nat.le_refl _) _).alloc (by rw [World.size_alloc];omega) _
 have b3:=b0.grown g3 b0.size (fun j hj=>by cases hj;exact Nat.le_refl _)
 have b4:=b3.grown g4 b3.size (fun j hj=>by cases hj;omega)
 refine ⟨b4,hm.keep b4,hm'.keep b4,?_,h4.nine⟩
 exact BoxM.nine ((g4.block _ h3.lt (fun e0=>by have:=Option.some.inj e0;omega)).trans h3)
theorem TwoM.keep {w0 w w':World} {c f e l c' f' e' l':Value} {M:Mast} (h:TwoM w0 w c f e l c' f' e' l' M) (hb:Below w.heap.size w w'):TwoM w0 w' c f e l c' f' e' l' M :=
 ⟨h.bel.trans (hb.mono h.bel.size),h.mast.keep hb,h.mast'.keep hb,h.nine.kept hb,h.nine'.kept hb⟩
end Go.Proofs.YthcpglnmhimepaaGreatDoor.Pk
end
section
namespace Go.Proofs.YthcpglnmhimepaaGreatDoor.Cs
open Go.RowKit Go.Proofs.YthcpglnmhimepaaGreatDoor.Un Go.Proofs.YthcpglnmhimepaaGreatDoor.Pk
structure MastOk (M:Mast):Prop where
 rise:riseK Fl.Flow.code M.flows=true
 few:M.flows.length≤60
 kind:∀ f,hasFl M f=true→0≤kindF M f∧kindF M f < 5
 self:∀ f∈M.flows,hasFl M f.code=true∧kindF M f.code=f.kind
theorem mast_ok {s:ByteArray} {M:Mast} (h:RightOf s M):MastOk M:=by
 have hr:=Fl.rise_codes h.inv.sane.fl
 have hk:∀ f∈M.flows,0≤f.kind∧f.kind < 5:=fun f hf=>by
  have:=(Fl.right_parts (h.inv.rightF f hf)).2
  omega
 refine ⟨hr,h.inv.sane.lf,fun c hc=>?_,fun f hf=>?_⟩
 ·unfold hasFl at hc
  unfold kindF
  cases hf:Fl.findF M.flows c with
  | none=>rw [hf] at hc;cases hc
  | some y=>exact hk y (findK_mem hf).2
 ·obtain ⟨_,_,x,h1,h2⟩:=Fl.kind_of hr (Fl.mem_of.2 ⟨f,hf,rfl,rfl⟩)
  unfold hasFl kindF
  rw [h1]
  exact ⟨rfl,h2⟩
structure TabOk (M:Mast) (L:List Crs):Prop where
 rise:G.riseK Crs.key L=true
 few:L.length≤500
 num:∀ x∈L,In64 x.num∧In64 x.den
 szl:szL (L.map wordsX)≤20000
 doc:∀ ws∈L.map wordsX,ws.length≤60∧∀ y∈ws,y.size≤100
 no:∀ f,kindF M f≠1→kindF M f≠3→∀ c,rateO L (tFlow,f,c)=none
structure TabRd (M:Mast) (L:List Crs):Prop where
 rise:G.riseK Crs.key L=true
 few:L.length≤500
 no:∀ f,kindF M f≠1→kindF M f≠3→∀ c,rateO L (tFlow,f,c)=none
theorem TabOk.rd {M:Mast} {L:List Crs} (h:TabOk M L):TabRd M L:=⟨h.rise,h.few,h.no⟩
theorem TabOk.nil (M:Mast):TabOk M []:=⟨rfl,by simp,fun _ h=>(by cases h),by decide,fun _ h=>(by cases h),fun _ _ _ _=>rfl⟩
theorem right_in64 {n d:Int} (h:rightB n d=true):In64 n∧In64 d:=by
 obtain ⟨⟨n1,n2⟩,⟨d1,d2⟩,_⟩:=(rightB_iff n d).1 h
 unfold In64
 omega
theorem sort_size {M:Mast} {x:Crs} (h:RightX M x):x.sort.size≤7:=by
 rcases h.sort with ⟨h1,_⟩ | ⟨h1,_⟩
 ·unfold simB at h1
  simp only [Bool.or_eq_true,decide_eq_true_eq] at h1
  rcases h1 with (e | e) | e <;> rw [e] <;> decide
 ·rw [h1];decide
theorem words_doc {M:Mast} {x:Crs} (h:RightX M x):(wordsX x).length≤60∧∀ y∈wordsX x,y.size≤100:=by
 have h1:=sort_size h
 have h2:=(nm_size h.cur).2
 have h3:(mkB (prt x.num x.den)).size≤21:=by rw [mkB_size];exact prt_len h.rate
 unfold wordsX
 by_cases hf:x.sort=tFlow
 ·rw [if_pos hf]
  have h4:x.flw.size≤100:=by
   rcases h.sort with ⟨hs,_⟩ | ⟨_,hn⟩
   ·exact absurd hf (sim_flow hs)
   ·have:=(nm_size hn).2;omega
  refine ⟨by simp,fun y hy=>?_⟩
  simp only [List.mem_cons,List.not_mem_nil,or_false] at hy
  rcases hy with rfl | rfl | rfl | rfl <;> omega
 ·rw [if_neg hf]
  refine ⟨by simp,fun y hy=>?_⟩
  simp only [List.mem_cons,List.not_mem_nil,or_false] at hy
  rcases hy with rfl | rfl | rfl <;> omega
theorem tab_inv {M:Mast} {s:ByteArray} {L:List Crs} (hi:Inv M (wordsT s) L) (hs:s.size≤4000):TabOk M L:=by
 have hr:=hi.rightX
 refine ⟨hi.rise,hi.len,fun x hx=>right_in64 (hr x hx).rate,?_,fun ws hw=>?_,fun f h1 h3 c=>hi.flow_none h1 h3 c⟩
 ·have h1:szL (L.map wordsX)=szL (((wordsT s).map readV).map wordsX):=szL_perm' (hi.perm.map wordsX)
  have h2:=words_szL (M:=M) hi.good
  have h3:=text_size s
  omega
 ·obtain ⟨x,hx,rfl⟩:=List.mem_map.1 hw
  exact words_doc (hr x hx)
theorem tab_ok (M:Mast) (s:ByteArray) (hs:s.size≤4000):TabOk M (parseC M s).1:=by
 rcases parse_ways M s with ⟨L,h1,_,h3⟩ | ⟨h1,_⟩
 ·rw [h3];exact tab_inv (run_zero_of h1) hs
 ·rw [h1];exact TabOk.nil M
theorem pparse_ok {c f e l:Value} {M:Mast} (s:ByteArray) (w:World) (hm:MastIn w c f e l M) (ho:MastOk M) (hs:s.size≤29000) (hL:LaidP w):Calls Tryz.prog 12 #[aggM c f e l M,.string s] w (Ta.PTold w (parseC M s)) :=
 Ta.parse_any c f e l M s w hm ho.rise (by have:=ho.few;omega) hs hL.2.2
theorem pprint_ok {v:Value} {M:Mast} {L:List Crs} (w:World) (hV:TabV w v L) (ho:TabOk M L) (hL:LaidP w):Calls Tryz.prog 14 #[.agg #[v]] w fun en w'=>en=.returned (.string (printC L))∧Below w.heap.size w w' :=
 Ta.print_any v L w hV (by have:=ho.few;omega) ho.num (by have:=ho.szl;omega) hL.2.2
theorem pof_ok {cv fv e l v:Value} {M:Mast} {L:List Crs} (c f:ByteArray) (w:World) (hm:MastIn w cv fv e l M) (ho:MastOk M) (hV:TabV w v L) (ht:TabRd M L):Calls Tryz.prog 16 #[aggM cv fv e l M,.agg #[v],.string c,.string f] w fun en w'=>en=.returned (.tuple #[.agg #[.int .i64 (ofC M L c f).1.1,.int .i64 (ofC M L c f).1.2],.int .i64 (ofC M L c f).2])∧Below w.heap.size w w' :=
 Ta.of_any cv fv e l v M L c f w hm ho.rise (by have:=ho.few;omega) hV ht.rise (by have:=ht.few;omega) (ho.kind f) (fun h1 h3=>ht.no f h1 h3 c)
theorem tab_slice {w:World} {v:Value} {L:List Crs} (h:TabV w v L):∃ p c,v=.slice p L.length c:=by
 obtain ⟨p,c,e,_⟩:=h
 exact ⟨p,c,e⟩
theorem tab_keep {w w':World} {v:Value} {L:List Crs} (h:TabV w v L) (hb:Below w.heap.size w w'):TabV w' v L:=h.keep hb
end Go.Proofs.YthcpglnmhimepaaGreatDoor.Cs
end
