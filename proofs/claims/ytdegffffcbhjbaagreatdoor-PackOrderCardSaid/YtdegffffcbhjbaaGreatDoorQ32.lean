/- LexRlines PkDocMem -/
import Derived.Laws.ResultCell
import Derived.Test.YtdegffffcbhjbaaGreatDoorQ22
import Derived.Test.YtdegffffcbhjbaaGreatDoorQ25
section
namespace Go.Proofs.YtdegffffcbhjbaaGreatDoor
open Go.RowKit
theorem LinesHad.post {w:World} {L:List (Int × List ByteArray)} {c:Int} {e:Ending} {w':World} (h:LinesHad w L c e w'):LinesPost w L c e w':=by
 obtain ⟨v,LV,he,h1,h2,hb⟩:=h
 exact ⟨v,he,lines_of_in h1 h2.isIn,hb⟩
theorem rlines_any (s:ByteArray) (w:World) (hs:s.size≤30000) :
 Calls Tryz.prog 21 #[.string s] w (LinesPost w (asB (linV s.data.toList)) (linE s.data.toList)) :=
 (rlines_had s w hs).mono fun _ _ h=>h.post
end Go.Proofs.YtdegffffcbhjbaaGreatDoor
end
section
namespace Go.Proofs.YtdegffffcbhjbaaGreatDoor.Pk
open Go.RowKit Go.Maps Go.Proofs.YtdegffffcbhjbaaGreatDoor.Un
def encT:Enc ByteArray where
 cs s:=[.string s]
 k:=1
 len _:=rfl
 pos:=by decide
 one a v hv:=by simp at hv;rw [hv];rfl
structure PV where
 pf:Option Addr
 nf:Nat
 cf:Nat
 ent:ByteArray
 mrk:Int
 ph:Option Addr
 nh:Nat
 ch:Nat
abbrev PV.vf (x:PV):Value:=.slice x.pf x.nf x.cf
abbrev PV.vh (x:PV):Value:=.slice x.ph x.nh x.ch
def encV:Enc PV where
 cs x:=[.slice x.pf x.nf x.cf,.string x.ent,.int .i64 x.mrk,.slice x.ph x.nh x.ch]
 k:=4
 len _:=rfl
 pos:=by decide
 one a v hv:=by simp at hv;rcases hv with rfl | rfl | rfl | rfl <;> rfl
abbrev vCells (x:PV):Array Value:=#[.slice x.pf x.nf x.cf,.string x.ent,.int .i64 x.mrk,.slice x.ph x.nh x.ch]
abbrev aggV (x:PV):Value:=.agg #[.slice x.pf x.nf x.cf,.string x.ent,.int .i64 x.mrk,.slice x.ph x.nh x.ch]
def zeroV:PV:=⟨none,0,0,⟨#[]⟩,0,none,0,0⟩
theorem four_v {w:World} {b o:Nat} {x:PV} (h:ElAt encV w b o x):w.cell? ⟨b,o,none⟩=some (.slice x.pf x.nf x.cf)∧w.cell? ⟨b,o+1,none⟩=some (.string x.ent)∧w.cell? ⟨b,o+2,none⟩=some (.int .i64 x.mrk)∧w.cell? ⟨b,o+3,none⟩=some (.slice x.ph x.nh x.ch):=⟨h 0 _ rfl,h 1 _ rfl,h 2 _ rfl,h 3 _ rfl⟩
structure PD (w:World) (B:Nat) (x:PV) (S:St):Prop where
 facts:w.ownsRow B 53 6 x.vf S.facts.length (flat Fa.encF S.facts)
 had:w.ownsRow B 9 1 x.vh S.had.length (flat encT S.had)
 ent:x.ent=S.ent
 mrk:x.mrk=S.mrk
theorem PD.below {w w':World} {B:Nat} {x:PV} {S:St} (h:PD w B x S) (hb:Below w.heap.size w w'):PD w' B x S:=⟨row_below h.facts hb,row_below h.had hb,h.ent,h.mrk⟩
theorem own_apart {w:World} {B B':Nat} {e e':TypeId} {s s' n n':Nat} {v v':Value} {xs xs':List Value} (hne:e≠e') (h:w.ownsRow B e s v n xs) (h':w.ownsRow B' e' s' v' n' xs'):v'.ownBlock=none∨v'.ownBlock≠v.ownBlock:=by
 rcases h'.2 with ⟨rfl,_⟩ | ⟨g',cap',cur',rfl,_,hg',_⟩
 ·exact .inl rfl
 ·refine .inr fun e0=>?_
  rcases h.2 with ⟨rfl,_⟩ | ⟨g,cap,cur,rfl,_,hg,_⟩
  ·simp [Value.ownBlock] at e0
  ·have e1:g'=g:=by simpa [Value.ownBlock] using e0
   subst e1
   rw [hg] at hg'
   simp at hg'
   exact hne hg'.2
theorem box_vf {W:World} {g:Nat} {t:TypeId} {x:PV} (h:BoxE encV W g t x) (p:Option Addr) (n c:Nat):BoxE encV (W.setCell ⟨g,0,none⟩ (.slice p n c)) g t { x with pf:=p,nf:=n,cf:=c }:=by
 unfold BoxE at h ⊢
 rw [Joins.block_setCell h]
 rfl
theorem box_alive {α:Type} {E:Enc α} {W:World} {g:Nat} {t:TypeId} {k:α} (h:BoxE E W g t k) (o:Nat):W.frozen? ⟨g,o,none⟩=false:=by simp [World.frozen?,show W.heap[g]?=_ from h]
theorem set_grown (W:World) (g i:Nat) (v:Value):W.grownBy (W.setCell ⟨g,i,none⟩ v) (some g):=⟨rfl,rfl,rfl,by simp [World.setCell],fun k _ hk=>Below.heap_setCell W _ v k (fun e=>hk (by rw [e]))⟩
theorem boxE_apart {α:Type} {E:Enc α} {W:World} {g B:Nat} {t e:TypeId} {a:α} {s n:Nat} {v:Value} {xs:List Value} (hb:BoxE E W g t a) (h:W.ownsRow B e s v n xs) (hne:t≠e):v.ownBlock=none∨v.ownBlock≠some g:=by
 rcases h.2 with ⟨rfl,_⟩ | ⟨g',cap',cur',rfl,_,hg',_⟩
 ·exact .inl rfl
 ·refine .inr fun e0=>?_
  have e1:g'=g:=by simpa [Value.ownBlock] using e0
  subst e1
  have hb':W.heap[g']?=some (.cells (E.cs a).toArray t (0,0)):=hb
  rw [hb'] at hg'
  simp at hg'
  exact hne hg'.2
theorem PD.boxed {W W':World} {g B:Nat} {y:PV} {x:PV} {S:St} (h:PD W B x S) (hb:BoxE encV W g 94 y) (hg:W.grownBy W' (some g)):PD W' B x S :=
 ⟨h.facts.kept hg (boxE_apart hb h.facts (by decide)),h.had.kept hg (boxE_apart hb h.had (by decide)),h.ent,h.mrk⟩
theorem box_beside {α:Type} {E:Enc α} {W W':World} {g g':Nat} {t:TypeId} {a:α} (h:BoxE E W g t a) (hg:W.grownBy W' (some g')) (hne:g≠g'):BoxE E W' g t a :=
 (hg.block g h.lt (fun e=>hne (Option.some.inj e))).trans h
theorem box_append {α:Type} {E:Enc α} {W W':World} {g B:Nat} {t e:TypeId} {a:α} {s n:Nat} {v:Value} {xs:List Value} (hb:BoxE E W g t a) (h:W.ownsRow B e s v n xs) (hne:t≠e) (hg:W.grownBy W' v.ownBlock):BoxE E W' g t a:=by
 refine (hg.block g hb.lt fun e0=>?_).trans hb
 rcases boxE_apart hb h hne with h1 | h1
 ·rw [h1] at e0;cases e0
 ·exact h1 e0.symm
theorem fact_put {w wa:World} {B g:Nat} {x y:PV} {S:St} {f:Fa.Fact} {p2:Option Addr} {m2 q2:Nat} (h:PD w B x S) (hb:BoxE encV w g 94 y) (hf:y.vh=x.vh) (hg:w.grownBy wa x.vf.ownBlock)
 (hr:wa.ownsRow B 53 6 (.slice p2 m2 q2) (S.facts++[f]).length (flat Fa.encF (S.facts++[f]))) :
 BoxE encV wa g 94 y∧BoxE encV (wa.setCell ⟨g,0,none⟩ (.slice p2 m2 q2)) g 94 { y with pf:=p2,nf:=m2,cf:=q2 }∧PD (wa.setCell ⟨g,0,none⟩ (.slice p2 m2 q2)) B { y with pf:=p2,nf:=m2,cf:=q2 } ⟨y.ent,y.mrk,S.had,S.facts++[f]⟩:=by
 have h1:=box_append hb h.facts (by decide) hg
 have hfr:=h.had.kept hg (own_apart (by decide) h.facts h.had)
 have hs:=set_grown wa g 0 (.slice p2 m2 q2)
 refine ⟨h1,box_vf h1 p2 m2 q2,?_,?_,rfl,rfl⟩
 ·exact hr.kept hs (boxE_apart h1 hr (by decide))
 ·show World.ownsRow _ B 9 1 y.vh S.had.length _
  rw [hf]
  exact hfr.kept hs (boxE_apart h1 hfr (by decide))
def TurnTold (W:World) (B:Nat) (S':St) (E:Int) (en:Ending) (w':World):Prop:=∃ x',en=.returned (.tuple #[aggV x',.int .i64 E])∧Below B W w'∧(E=0→PD w' B x' S')
end Go.Proofs.YtdegffffcbhjbaaGreatDoor.Pk
end
