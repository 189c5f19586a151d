/- MapKeys Segs LexCut LexIter LexLines CentAdd CentSum -/
import Derived.Handy
import Derived.LoopIn
import Derived.LoopNIn
import Derived.Maps.AppendAt
import Derived.Maps.Ext
import Derived.Maps.Own
import Derived.Maps.OwnOps
import Derived.Maps.OwnSet
import Derived.Maps.RangeWalk
import Derived.OrdersHeld
import Derived.OwnWalk
import Derived.OwnWalkIn
import Derived.RangeFuncBound
import Derived.RangeFuncCalls
import Derived.RangeFuncLeaves
import Derived.RangeFuncNested
import Derived.RegionTactic
import Derived.Shelf.Abstract
import Derived.Shelf.RegionOpen
import Derived.Shelf.Strings.OnBuilder
import Derived.StringKeys
import Derived.TacticsInMore
import Derived.Test.YtfhhihamndbcnaaGreatDoorR03
import Derived.Test.YtfhhihamndbcnaaGreatDoorR04
import Derived.Test.YtfhhihamndbcnaaGreatDoorR05
section
namespace Go.Proofs.YtfhhihamndbcnaaGreatDoor
open Go.RowKit Go.Maps
theorem data_inj {x y:ByteArray} (h:x.data.toList=y.data.toList):x=y:=by rw [←mkB_list x,h,mkB_list]
def kS (s:ByteArray):Lit:=.string s.data.toList
theorem kS_inj {x y:ByteArray} (h:kS x=kS y):x=y:=data_inj (by unfold kS at h;simpa using h)
theorem kS_key (s:ByteArray):WideAt.IsKeyLit (kS s):=trivial
theorem law9:Keyed Tryz.prog 9:=string_keyed Tryz.underlying9
end Go.Proofs.YtfhhihamndbcnaaGreatDoor
end
section
namespace Go.Proofs.YtfhhihamndbcnaaGreatDoor
open Go.RowKit
def looksOnly (o:Oper):Bool :=
 match o.op with
 | .move _ | .assign _ | .load .. | .binOp .. | .unOp .. | .convert .. | .fieldAddr .. | .field .. | .indexAddr .. | .index .. | .extract .. | .slice .. | .lookup .. | .makeInterface .. | .box .. | .build .. | .pick ..=>true
 | .nilCheck _=>true
 | .call c=>match c.callee with
   | .builtin .len=>true
   | .builtin .cap=>true
   | _=>false
 | _=>false
theorem next_value {α:Type} (P:Program) (s:Sem α) (g:α→Value) (w w':World) (n:Next) (h:(do pure (Next.value (g (←s))):Sem Next).run P w=.ok n w'):∃ v,n=.value v:=by
 simp only [Sem.run_bind] at h
 cases hs:s.run P w with
 | ok x w1 =>
   rw [hs] at h
   simp only [Result.andThen_ok,Sem.run_pure] at h
   cases h
   exact ⟨_,rfl⟩
 | halt x w1=>rw [hs] at h;simp [Result.andThen] at h
theorem nil_halts (P:Program) (w:World):∃ x,(runtimePanic .nilDeref:Sem Next).run P w=.halt x w:=⟨_,rfl⟩
theorem looks_value {P:Program} {ρ:Operand→Value} {o:Oper} {w w':World} {n:Next} (hl:looksOnly o=true) (h:(execOp ρ o).run P w=.ok n w'):∃ v,n=.value v:=by
 obtain ⟨dst,op,type,pos,after,guard⟩:=o
 cases op <;> simp only [looksOnly,Bool.false_eq_true] at hl <;> simp only [execOp] at h
 case move x=>simp only [Sem.run_pure] at h;cases h;exact ⟨_,rfl⟩
 case assign x=>simp only [Sem.run_pure] at h;cases h;exact ⟨_,rfl⟩
 case nilCheck x =>
  split at h
  all_goals first
   | (simp only [Sem.run_pure] at h;cases h;exact ⟨_,rfl⟩)
   | (obtain ⟨x,hx⟩:=nil_halts P w;rw [hx] at h;cases h;done)
   | skip
  split at h
  ·obtain ⟨x,hx⟩:=nil_halts P w;rw [hx] at h;cases h
  ·rename_i t u _
   simp only [Sem.run_bind] at h
   have hp:(program:Sem Program).run P w=.ok P w:=rfl
   rw [hp] at h
   simp only [Result.andThen_ok] at h
   revert h
   generalize (nilAhead (P.types.size+Made.depth) t u _).run P w=r
   intro h
   cases r with
   | halt x w1=>simp [Result.andThen] at h
   | ok b w1 =>
     simp only [Result.andThen_ok] at h
     split at h
     ·simp only [Sem.run_bind,run_unsupported] at h
      simp [Result.andThen] at h
     ·simp only [Sem.run_pure] at h;cases h;exact ⟨_,rfl⟩
  ·simp only [Sem.run_pure] at h;cases h;exact ⟨_,rfl⟩
 case call c =>
  split at hl
  ·rename_i hc
   simp only [resolve,hc,invoke,builtin,Sem.run_bind,Sem.run_pure,Result.andThen_ok] at h
   exact next_value P _ id _ _ _ (by simpa only [Sem.run_bind,Sem.run_pure,id] using h)
  ·rename_i hc
   simp only [resolve,hc,invoke,builtin,Sem.run_bind,Sem.run_pure,Result.andThen_ok] at h
   exact next_value P _ id _ _ _ (by simpa only [Sem.run_bind,Sem.run_pure,id] using h)
  ·cases hl
 all_goals exact next_value P _ _ _ _ _ h
section
variable {P:Program} {md:Region.Mode} {ops:Array Oper} {Q:Exit→Act→World→Prop} {S:World→Prop}
theorem yieldsIf_of_quiet {o:Oper} {a:Act} {v:Value} (hl:looksOnly o=true) (hw:Region.wanted o (yielded ops a.tmps)=true) (h:∀ w,S w→o.quietAt P a S w v):YieldsIf P ops S o v a:=by
 refine .inl ⟨hw,fun w hs=>?_⟩
 have h1:=h w hs
 unfold Oper.quietAt at h1
 cases hr:(execOp a.eval o).run P w with
 | ok n w' =>
   rw [hr] at h1
   obtain ⟨u,rfl⟩:=looks_value hl hr
   obtain ⟨rfl,rfl⟩:=h1
   rfl
 | halt x w'=>rw [hr] at h1;exact h1.elim
def nth:List Oper→Nat→List Oper→List Oper
 | [],_,more=>more
 | o::_,0,more=>o::more
 | _::l,i+1,more=>nth l i more
def pick (l:List Oper):List Nat→List Oper
 | []=>[]
 | i::r=>nth l i (pick l r)
theorem nth_eq {o:Oper}:∀ (l:List Oper) (i:Nat) (more:List Oper),l[i]?=some o→nth l i more=o::more
 | [],_,_,h=>by simp at h
 | x::l,0,more,h=>by simp at h;subst h;rfl
 | x::l,i+1,more,h=>by simp at h;exact nth_eq l i more h
def marked (listed:Array Bool):List Nat→Array Bool
 | []=>listed
 | i::r=>marked (listed.setIfInBounds i true) r
def sweepB (md:Region.Mode) (ops:Array Oper):List Nat→Array Bool→Bool
 | [],_=>true
 | i::r,listed=>((ops[i]?).map looksOnly).getD false && Region.free md ops listed i && (Region.ready md ops listed).contains i && sweepB md ops r (listed.setIfInBounds i true)
theorem sweep {l:List Oper} (hs:Region.noSelect l.toArray=true) (hQ:∀ d v c a w,Q (.panic c) (Act.put a d v) w→Q (.panic c) a w) {R:Act→Prop} {w:World} (hS:S w) :
 ∀ (q:List Nat) (fuel:Nat) (listed:Array Bool) (a:Act),sweepB md l.toArray q listed=true→wpQuiet P l.toArray S R (pick l q) a →
   (∀ a',R a'→wpAnyH P md l.toArray Q S fuel (marked listed q) a' w)→wpAnyH P md l.toArray Q S (fuel+q.length) listed a w
 | [],_,_,_,_,h,hr=>hr _ h
 | i::r,fuel,listed,a,hB,h,hr=>by
   simp only [sweepB,Bool.and_eq_true] at hB
   obtain ⟨⟨⟨hl,hf⟩,hc⟩,hB'⟩:=hB
   obtain ⟨o,ho⟩:∃ o,l.toArray[i]?=some o:=by
    cases he:l.toArray[i]? with
    | none=>rw [he] at hl;simp at hl
    | some o=>exact ⟨o,rfl⟩
   rw [ho] at hl
   simp only [Option.map_some,Option.getD_some] at hl
   have hp:pick l (i::r)=o::pick l r:=nth_eq l i _ (by simpa using ho)
   rw [hp] at h
   have hlen:fuel+(i::r).length=(fuel+r.length)+1:=by simp;omega
   rw [hlen]
   unfold wpQuiet at h
   by_cases hw:Region.wanted o (yielded l.toArray a.tmps)=true
   ·rw [if_pos hw] at h
    obtain ⟨v,hv,hk⟩:=h
    exact wpAnyH_take ho hs hf hc (fun c a' w'=>hQ _ _ c a' w') (yieldsIf_of_quiet hl hw hv) hS (sweep hs hQ hS r fuel _ _ hB' hk hr)
   ·rw [if_neg hw] at h
    exact wpAnyH_take ho hs hf hc (fun c a' w'=>hQ _ _ c a' w') (.inr ⟨by simpa using hw,rfl⟩) hS (sweep hs hQ hS r fuel _ _ hB' h hr)
def alone (P:Program) (ops:Array Oper) (Q:Exit→Act→World→Prop) (K:Act→World→Prop) (a:Act) (w:World):List Oper→Prop
 | []=>False
 | o::_=>if Region.wanted o (yielded ops a.tmps) then o.wp P a w K Q else K (a.put o.dst undef) w
inductive Plan where
 | last (q:List Nat)
 | one (q:List Nat) (k:Nat) (n:Plan)
 | two (q:List Nat) (k1:Nat) (n1:Plan) (k2:Nat) (n2:Plan)
def wpPlan (P:Program) (l:List Oper) (Q:Exit→Act→World→Prop) (S:World→Prop):Plan→Act→World→Prop
 | .last q,a,w=>wpQuiet P l.toArray S (fun a'=>Q .normal a' w) (pick l q) a
 | .one q k n,a,w=>wpQuiet P l.toArray S (fun a'=>∀ K:Act→World→Prop,(∀ a2 w2,S w2→wpPlan P l Q S n a2 w2→K a2 w2)→alone P l.toArray Q K a' w (nth l k [])) (pick l q) a
 | .two q k1 n1 k2 n2,a,w=>wpQuiet P l.toArray S (fun a'=>(∀ K:Act→World→Prop,(∀ a2 w2,S w2→wpPlan P l Q S n1 a2 w2→K a2 w2)→alone P l.toArray Q K a' w (nth l k1 []))∧(∀ K:Act→World→Prop,(∀ a2 w2,S w2→wpPlan P l Q S n2 a2 w2→K a2 w2)→alone P l.toArray Q K a' w (nth l k2 []))) (pick l q) a
def planN:Plan→Nat
 | .last q=>q.length
 | .one q _ n=>planN n+1+q.length
 | .two q _ n _ _=>planN n+1+q.length
def planB (md:Region.Mode) (ops:Array Oper):Plan→Array Bool→Bool
 | .last q,listed=>sweepB md ops q listed && (Region.ready md ops (marked listed q)).isEmpty
 | .one q k n,listed=>sweepB md ops q listed && decide (Region.ready md ops (marked listed q)=[k]) && planB md ops n ((marked listed q).setIfInBounds k true)
 | .two q k1 n1 k2 n2,listed=>sweepB md ops q listed && decide (Region.ready md ops (marked listed q)=[k1,k2]) && (planN n1==planN n2) && planB md ops n1 ((marked listed q).setIfInBounds k1 true) && planB md ops n2 ((marked listed q).setIfInBounds k2 true)
theorem op_alone {l:List Oper} {i:Nat} {K:Act→World→Prop} {a:Act} {w:World} {listed:Array Bool} (hr:i∈Region.ready md l.toArray listed) (hk:alone P l.toArray Q K a w (nth l i [])):wpOp P l.toArray Q i K a w:=by
 obtain ⟨_,o,ho,_⟩:=mem_ready.1 hr
 rw [nth_eq l i [] (by simpa using ho)] at hk
 unfold wpOp
 simp only [ho]
 simp only [alone] at hk
 split
 ·rename_i hw;rw [if_pos hw] at hk;exact .inl hk
 ·rename_i hw;rw [if_neg hw] at hk;exact hk
theorem any_of_plan {l:List Oper} (hs:Region.noSelect l.toArray=true) (hQ:∀ d v c a w,Q (.panic c) (Act.put a d v) w→Q (.panic c) a w) :
 ∀ (p:Plan) (listed:Array Bool) (a:Act) (w:World),planB md l.toArray p listed=true→S w→wpPlan P l Q S p a w→wpAnyH P md l.toArray Q S (planN p) listed a w
 | .last q,listed,a,w,hB,hS,h=>by
   simp only [planB,Bool.and_eq_true,List.isEmpty_iff] at hB
   have:=sweep (md:=md) hs hQ hS q 0 listed a hB.1 h (fun a' ha=>wpAnyH_done hB.2 ha 0)
   simpa [planN] using this
 | .one q k n,listed,a,w,hB,hS,h=>by
   simp only [planB,Bool.and_eq_true,decide_eq_true_eq] at hB
   obtain ⟨⟨h1,h2⟩,h3⟩:=hB
   refine sweep (md:=md) hs hQ hS q (planN n+1) listed a h1 h (fun a' ha=>?_)
   refine wpAnyH_all h2 (by simp) (fun i hi=>?_)
   simp only [List.mem_singleton] at hi
   subst hi
   exact op_alone (by rw [h2];simp) (ha _ (fun a2 w2 hs2 h4=>⟨hs2,any_of_plan hs hQ n _ a2 w2 h3 hs2 h4⟩))
 | .two q k1 n1 k2 n2,listed,a,w,hB,hS,h=>by
   simp only [planB,Bool.and_eq_true,decide_eq_true_eq,beq_iff_eq] at hB
   obtain ⟨⟨⟨⟨h1,h2⟩,hn⟩,h3⟩,h4⟩:=hB
   refine sweep (md:=md) hs hQ hS q (planN n1+1) listed a h1 h (fun a' ha=>?_)
   refine wpAnyH_all h2 (by simp) (fun i hi=>?_)
   simp only [List.mem_cons,List.not_mem_nil,or_false] at hi
   rcases hi with rfl | rfl
   ·exact op_alone (by rw [h2];simp) (ha.1 _ (fun a2 w2 hs2 h5=>⟨hs2,any_of_plan hs hQ n1 _ a2 w2 h3 hs2 h5⟩))
   ·rw [hn]
    exact op_alone (by rw [h2];simp) (ha.2 _ (fun a2 w2 hs2 h5=>⟨hs2,any_of_plan hs hQ n2 _ a2 w2 h4 hs2 h5⟩))
structure Since (B:Nat) (w:World) where
 goal:World
 below:Below B w goal
instance (B:Nat) (w:World):Nonempty (Since B w):=⟨⟨w,Below.refl _ _⟩⟩
theorem cell_since {B:Nat} {w:World} {ad:Addr} {v:Value} (h:w.cell? ad=some v) (hB:ad.block < B) (p:Since B w):p.goal.cell? ad=some v:=(p.below.cell hB).trans h
theorem since_in {B:Nat} {w0 w:World} (h:Below B w0 w):∃ p:Since B w0,w=p.goal:=⟨⟨w,h⟩,rfl⟩
theorem wp_region_plan_if {id:Nat} {l:List Oper} {a:Act} {w:World} (p:Plan) (hm:P.follows .mixedOrders=true)
 (hs:(Region.noSelect l.toArray && planB .any l.toArray p (Array.replicate l.toArray.size false) && (planN p==l.toArray.size))=true)
 (hQ:∀ d v c a w,Q (.panic c) (Act.put a d v) w→Q (.panic c) a w) (hS:S w.drew)
 (h:wpPlan P l Q S p a w.drew):(Code.region id l.toArray true).wp P Q a w:=by
 simp only [Bool.and_eq_true,beq_iff_eq] at hs
 refine wp_region_held (S:=S) hm ?_
 have:=any_of_plan (P:=P) hs.1.1 hQ p _ a w.drew hs.1.2 (S:=S) hS h
 rw [hs.2] at this
 exact this
theorem wp_region_plan {id:Nat} {l:List Oper} {a:Act} {w:World} (p:Plan) (hm:P.follows .mixedOrders=true)
 (hs:(Region.noSelect l.toArray && planB .any l.toArray p (Array.replicate l.toArray.size false) && (planN p==l.toArray.size))=true)
 (hQ:∀ d v c a w,Q (.panic c) (Act.put a d v) w→Q (.panic c) a w)
 (h:wpPlan P l Q (fun w'=>∃ p:Past w,w'=p.goal) p a w.drew):(Code.region id l.toArray true).wp P Q a w :=
 wp_region_plan_if p hm hs hQ ⟨⟨w.drew,⟨rfl,rfl,rfl,Nat.le_refl _,fun _ _=>rfl⟩⟩,rfl⟩ h
theorem wp_region_since (B:Nat) {id:Nat} {l:List Oper} {a:Act} {w:World} (p:Plan) (hm:P.follows .mixedOrders=true)
 (hs:(Region.noSelect l.toArray && planB .any l.toArray p (Array.replicate l.toArray.size false) && (planN p==l.toArray.size))=true)
 (hQ:∀ d v c a w,Q (.panic c) (Act.put a d v) w→Q (.panic c) a w)
 (h:wpPlan P l Q (fun w'=>∃ p:Since B w,w'=p.goal) p a w.drew):(Code.region id l.toArray true).wp P Q a w :=
 wp_region_plan_if p hm hs hQ ⟨⟨w.drew,⟨rfl,rfl,rfl,Nat.le_refl _,fun _ _=>rfl⟩⟩,rfl⟩ h
end
theorem alone_want {P:Program} {ops:Array Oper} {Q:Exit→Act→World→Prop} {K:Act→World→Prop} {a:Act} {w:World} {o:Oper} {l:List Oper} (hw:Region.wanted o (yielded ops a.tmps)=true) (h:o.wp P a w K Q):alone P ops Q K a w (o::l):=by
 simp only [alone];rw [if_pos hw];exact h
theorem past_in {w0 w:World} (h:Below w0.heap.size w0 w):∃ p:Past w0,w=p.goal:=⟨⟨w,h⟩,rfl⟩
end Go.Proofs.YtfhhihamndbcnaaGreatDoor
end
section
namespace Go.Proofs.YtfhhihamndbcnaaGreatDoor
open Go.RowKit Go.Shelf
set_option maxHeartbeats 400000 in
theorem liteCut_miss (d:UInt8) (s:ByteArray) (w:World) (h:Lib.indexByte s.data.toList d=-1) :
 Calls Tryz.prog 131 #[.string s,.string ⟨#[d]⟩] w fun e w'=>e=.returned (.tuple #[.string s,.string ⟨#[]⟩,.bool false])∧w=w':=by
 have H:=Lib.hid h
 clear h
 go_enter Tryz.func131,Tryz.ntmps131
 go_wp2_with fail
 refine (Tryz.stringslite_Index_one s d _).mono ?_
 rintro e w' ⟨rfl,rfl⟩
 rw [H.out]
 go_wp2
 go_ret3
 exact ⟨rfl,rfl⟩
set_option maxHeartbeats 400000 in
theorem liteCut_hit (d:UInt8) (s:ByteArray) (i:Nat) (w:World) (h:Lib.indexByte s.data.toList d=(i:Int)) (hi:i < s.size) (hs:s.size≤maxLen) :
 Calls Tryz.prog 131 #[.string s,.string ⟨#[d]⟩] w fun e w'=>e=.returned (.tuple #[.string (s.extract 0 i),.string (s.extract (i+1) s.size),.bool true])∧∃ n,w'=w.drewN n:=by
 have H:=Lib.hid h
 clear h
 unfold maxLen at hs
 have c1:(0:Int)≤↑i:=by omega
 have c2:(↑i:Int)≤↑s.size:=by omega
 have c3:(0:Int)≤↑i+1:=by omega
 have c4:(↑i+1:Int)≤↑s.size:=by omega
 have c5:IntKind.i64.wrap (↑i+1)=↑i+1:=IntWalk.i64_in _ (by omega)
 have c6:((↑i:Int)+1).toNat=i+1:=by omega
 go_enter Tryz.func131,Tryz.ntmps131
 go_wp2_with fail
 refine (Tryz.stringslite_Index_one s d _).mono ?_
 rintro e w' ⟨rfl,rfl⟩
 rw [H.out]
 go_wp2
 go_region
 go_wp2
 go_ret3
 exact ⟨rfl,1,rfl⟩
set_option maxHeartbeats 400000 in
theorem cut_miss (d:UInt8) (s:ByteArray) (w:World) (h:Lib.indexByte s.data.toList d=-1) :
 Calls Tryz.prog 96 #[.string s,.string ⟨#[d]⟩] w fun e w'=>e=.returned (.tuple #[.string s,.string ⟨#[]⟩,.bool false])∧w=w':=by
 have H:=Lib.hid h
 clear h
 go_enter Tryz.func96,Tryz.ntmps96
 go_wp2_with fail
 refine (liteCut_miss d s _ H.out).mono ?_
 rintro e w' ⟨rfl,rfl⟩
 go_wp2
 go_ret3
 exact ⟨rfl,rfl⟩
set_option maxHeartbeats 400000 in
theorem cut_hit (d:UInt8) (s:ByteArray) (i:Nat) (w:World) (h:Lib.indexByte s.data.toList d=(i:Int)) (hi:i < s.size) (hs:s.size≤maxLen) :
 Calls Tryz.prog 96 #[.string s,.string ⟨#[d]⟩] w fun e w'=>e=.returned (.tuple #[.string (s.extract 0 i),.string (s.extract (i+1) s.size),.bool true])∧∃ n,w'=w.drewN n:=by
 have H:=Lib.hid h
 have HI:=Lib.hid hi
 have HS:=Lib.hid hs
 clear h hi hs
 go_enter Tryz.func96,Tryz.ntmps96
 go_wp2_with fail
 refine (liteCut_hit d s i _ H.out HI.out HS.out).mono ?_
 rintro e w' ⟨rfl,n,rfl⟩
 go_wp2
 go_ret3
 exact ⟨rfl,n,rfl⟩
def WordsPost (w:World) (ws:List ByteArray) (e:Ending) (w':World):Prop :=
 ∃ A,e=.returned (.slice (some ⟨A,0,none⟩) ws.length ws.length)∧w.heap.size≤A ∧
   w'.ownsRow w.heap.size 9 1 (.slice (some ⟨A,0,none⟩) ws.length ws.length) ws.length (ws.map Value.string)∧Below w.heap.size w w'
theorem between_pred (w:World):PredAtRunes Tryz.prog 98 #[] gapR w:=fun W x hx _ =>
 (between_any x W hx).mono fun _ _ ⟨he,hw⟩=>⟨he,0,hw.symm⟩
theorem fields_any (s:ByteArray) (w:World) (hs:s.size≤30000) (ha:∀ c∈s.data.toList,c.toNat < 128) :
 Calls Tryz.prog 97 #[.string s,.func (.func 98) #[] #[]] w (WordsPost w ((fieldsGo [] s.data.toList).map mkB)):=by
 rw [←fields_plain s ha]
 exact Tryz.strings_FieldsFunc_runes 98 #[] (enters_of Tryz.func98 (by kernel_rfl) rfl) gapR s w (by omega) (between_pred w)
theorem WordsPost.from {w w0:World} {ws:List ByteArray} {e:Ending} {w':World} (h:WordsPost w0 ws e w') (hb:Below w.heap.size w w0) (hz:w0.heap.size=w.heap.size):WordsPost w ws e w':=by
 obtain ⟨A,he,hA,ho,hb'⟩:=h
 rw [hz] at hA ho hb'
 exact ⟨A,he,hA,ho,hb.trans hb'⟩
set_option maxHeartbeats 400000 in
theorem wordsOf_any (s:ByteArray) (w:World) (hs:s.size≤30000) (ha:∀ c∈s.data.toList,c.toNat < 128) :
 Calls Tryz.prog 63 #[.string s] w (WordsPost w ((wordsL s.data.toList).map mkB)):=by
 rcases cut_cases 35 s.data.toList with ⟨h1,h2⟩ | ⟨i,h1,h2,h3,h4⟩
 ·have e0:wordsL s.data.toList=fieldsGo [] s.data.toList:=by unfold wordsL;rw [said_none _ h2]
  rw [e0]
  have H:=Lib.hid h1
  have HA:=Lib.hid ha
  have HF:=Lib.hid (fields_any s w hs ha)
  clear h1 h2 e0 ha
  obtain ⟨ws,hws⟩:∃ ws,(fieldsGo [] s.data.toList).map mkB=ws:=⟨_,rfl⟩
  rw [hws] at HF ⊢
  clear hws
  go_enter Tryz.func63,Tryz.ntmps63
  go_wp2_with fail
  refine (cut_miss 35 s _ H.out).mono ?_
  rintro e w' ⟨rfl,rfl⟩
  go_wp2_with fail
  refine HF.out.mono ?_
  rintro e w1 ⟨A,rfl,hA,ho,hb⟩
  go_wp2
  go_ret
  exact ⟨A,rfl,hA,ho,hb⟩
 ·have hi:i < s.size:=by rw [←size_list];exact h2
  have e0:wordsL s.data.toList=fieldsGo [] (s.data.toList.take i):=by
   unfold wordsL
   have:said s.data.toList=s.data.toList.take i:=by
    conv=>lhs;rw [h4]
    exact said_mark _ _ h3
   rw [this]
  rw [e0]
  have hx:(s.extract 0 i).data.toList=s.data.toList.take i:=by rw [piece_ahead,mkB_data]
  have hz:(s.extract 0 i).size≤30000:=by rw [←size_list,hx,List.length_take];have:=size_list s;omega
  have ha':∀ c∈(s.extract 0 i).data.toList,c.toNat < 128:=fun c hc=>ha c (by rw [hx] at hc;exact List.mem_of_mem_take hc)
  have HF:Hid (∀ n,Calls Tryz.prog 97 #[.string (s.extract 0 i),.func (.func 98) #[] #[]] (w.drewN n) (WordsPost w ((fieldsGo [] (s.data.toList.take i)).map mkB))):=Lib.hid fun n=>by
   have:=fields_any (s.extract 0 i) (w.drewN n) hz ha'
   rw [hx] at this
   exact this.mono fun e w' h=>h.from (below_drewN (Below.refl _ _) n) (by simp)
  have H:=Lib.hid h1
  have HI:=Lib.hid hi
  have HS:Hid (s.size≤maxLen):=Lib.hid (by unfold maxLen;omega)
  clear h1 h2 h3 h4 hi e0 hx hz ha' ha hs
  obtain ⟨ws,hws⟩:∃ ws,(fieldsGo [] (s.data.toList.take i)).map mkB=ws:=⟨_,rfl⟩
  rw [hws] at HF ⊢
  clear hws
  obtain ⟨u,hu⟩:∃ u,s.extract 0 i=u:=⟨_,rfl⟩
  obtain ⟨v,hv⟩:∃ v,s.extract (i+1) s.size=v:=⟨_,rfl⟩
  rw [hu] at HF
  have HU:=Lib.hid (And.intro hu hv)
  clear hu hv
  go_enter Tryz.func63,Tryz.ntmps63
  go_wp2_with fail
  refine (cut_hit 35 s i _ H.out HI.out HS.out).mono ?_
  rintro e w' ⟨rfl,n,rfl⟩
  rw [HU.out.1,HU.out.2]
  go_wp2_with fail
  refine (HF.out n).mono ?_
  rintro e w1 ⟨A,rfl,hA,ho,hb⟩
  go_wp2
  go_ret
  exact ⟨A,rfl,hA,ho,hb⟩
end Go.Proofs.YtfhhihamndbcnaaGreatDoor
end
section
namespace Go.Proofs.YtfhhihamndbcnaaGreatDoor
open Go.RowKit Go.Shelf
attribute [local go_sem] Oper.semAt_some
def LineX:Type:={ x:Nat × List UInt8 // x.1≤30001∧x.2.length≤20000∧okL x.2=true }
def LineX.n (x:LineX):Nat:=x.1.1
def LineX.l (x:LineX):List UInt8:=x.1.2
def LineX.pair (x:LineX):Nat × List UInt8:=(x.n,x.l)
def encX (x:LineX):Array Value:=#[.int .i64 (x.n:Int),.string (mkB x.l)]
theorem linesX:∀ (L:List (List UInt8)) (n:Nat),n+L.length≤30001→(∀ x∈L,okL x=true∧x.length≤20000)→∃ xs:List LineX,xs.map LineX.pair=enumL n L
 | [],_,_,_=>⟨[],rfl⟩
 | x::r,n,h,hx=>by
   simp at h
   obtain ⟨xs,hxs⟩:=linesX r (n+1) (by omega) fun y hy=>hx y (List.mem_cons_of_mem _ hy)
   have h1:=hx x (List.mem_cons_self ..)
   have y:{ y:LineX // y.pair=(n,x) }:=⟨⟨(n,x),by simp;omega,h1.2,h1.1⟩,rfl⟩
   exact ⟨y.1::xs,by rw [List.map_cons,hxs,y.2];rfl⟩
theorem grown_drewN (w:World) (n:Nat):w.grownBy (w.drewN n) none:=by
 have h:=below_drewN (Below.refl w.heap.size w) n
 exact ⟨h.os,h.tape,h.output,h.size,fun j hj _=>h.block j hj⟩
def restOf:Value→Value→Nat
 | .string r,.bool true=>r.size+1
 | _,_=>0
def IterAt (J:List LineX→World→Prop) (xs:List LineX) (s3 s4 s5:Value) (wr:World):Prop :=
 ∃ (pre post:List LineX) (r:ByteArray) (m:Bool) (n:Nat),s3=.string r∧s4=.bool m∧s5=.int .i64 (n:Int)∧xs=pre++post ∧
   (m=true→post.map LineX.pair=enumL n (linesGo [] r.data.toList))∧(m=false→post=[])∧r.size≤20000∧n+post.length≤30001∧J pre wr
set_option maxRecDepth 100000 in
set_option maxHeartbeats 2000000 in
theorem iter_in (n:Nat) (hn:1≤n) (l Bn n₀:Nat) (s:ByteArray) (hs:s.size≤20000) (xs:List LineX) (hxs:xs.map LineX.pair=enumL 1 (linesGo [] s.data.toList)) (J Jx:List LineX→World→Prop)
 (hJ:∀ q A k,J q A→J q (A.drewN k))
 (hY:∀ pre x W,J pre W→pre.length < xs.length→YieldAt Fence.wide (n - 1) Tryz.prog l (encX x) W fun e W' =>
  (e=.returned (.bool true)∧J (pre++[x]) W'∧Below n₀ W W')∨(e=.returned (.bool false)∧Jx (pre++[x]) W'))
 (W:World) (hBn:W.cell? ⟨Bn,0,none⟩=some (.string s)) (h0:J [] W) :
 CallsIn Fence.wide n Tryz.prog 95 #[.func (.yield l) #[] #[],.pointer (some ⟨Bn,0,none⟩)] W fun e W'=>(∃ v,e=.returned v) ∧
  ((∃ ys,ys=xs∧J ys W')∨(∃ pre,pre <+: xs∧Jx pre W')):=by
 have hlen:1+xs.length≤30001:=by
  have h1:=congrArg List.length hxs
  rw [List.length_map,enumL_length] at h1
  have h2:=linesGo_length [] s.data.toList
  rw [size_list] at h2
  omega
 have HX:=Lib.hid hxs
 have HL:=Lib.hid hlen
 have HJ:=Lib.hid hJ
 have HY:=Lib.hid hY
 clear hxs hlen hJ hY
 refine callsIn_of_wp Tryz.func95 rfl trivial ?_ rfl
 simp only [Tryz.ntmps95,List.size_toArray,List.length_cons,List.length_nil,Nat.reduceAdd,Nat.reduceSub,Array.replicate_succ,Array.replicate_zero,List.push_toArray,List.append_toArray,List.nil_append,List.cons_append]
 gi_wp2
 gi_loopw [3,4,5] (fun s3 s4 s5 wr=>IterAt J xs s3 s4 s5 wr) (fun s3 s4 _ _=>restOf s3 s4)
 case atStart =>
  exact ⟨[],xs,s,true,1,rfl,rfl,rfl,rfl,fun _=>HX.out,(fun h=>by cases h),hs,HL.out,h0⟩
 case round =>
  obtain ⟨pre,post,r,m,k,rfl,rfl,rfl,hx,hm,hf,hr,hk,hJs⟩:=hrel
  cases m with
  | false =>
    obtain rfl:=hf rfl
    have HXX:=Lib.hid hx
    clear hx hm hf hk
    gi_wp2
    go_end0
    exact ⟨⟨_,rfl⟩,.inl ⟨pre,by rw [HXX.out];simp,hJs⟩⟩
  | true =>
    have hkb:k≤30001:=by omega
    replace hm:=hm rfl
    clear hf
    rcases cut_cases 10 r.data.toList with ⟨h1,h2⟩ | ⟨i,h1,h2,h3,h4⟩
    ·rw [linesGo_last _ h2] at hm
     obtain ⟨x,rfl⟩:∃ x,post=[x]:=by
      have:=congrArg List.length hm
      simp [enumL] at this
      exact List.length_eq_one_iff.1 this
     have hxp:x.pair=(k,r.data.toList):=by simpa [enumL] using hm
     have hxn:x.n=k:=congrArg Prod.fst hxp
     have hxl:mkB x.l=r:=by rw [show x.l=r.data.toList from congrArg Prod.snd hxp,mkB_list]
     obtain ⟨fn,tmps,assign,body,hy,hR⟩:=HY.out pre x wr hJs (by rw [hx];simp)
     unfold encX at hy
     rw [hxn,hxl] at hy
     have HXX:=Lib.hid hx
     have H:=Lib.hid h1
     have HK:=Lib.hid hk
     clear hx h1 h2 hm hxp hxn hxl hk
     gi_wp2_with (refine ⟨trivial,?_⟩;gi_at_call 96;refine (callsIn_wide.2 (cut_miss 10 r _ H.out)).mono ?_;rintro e w' ⟨rfl,rfl⟩)
     refine hR.mono ?_
     rintro e W3 (⟨rfl,hJ3,hk3⟩ | ⟨rfl,hJx3⟩)
     ·gi_wp2
      go_roundw
      case rel=>exact ⟨pre++[x],[],⟨#[]⟩,false,k+1,rfl,rfl,by simp,by rw [HXX.out];simp,(fun h=>by cases h),fun _=>rfl,by decide,by have:=HK.out;simp at this ⊢;omega,hJ3⟩
      case measure=>simp [restOf]
     ·gi_wp2
      refine bodyPost_ret (results_none rfl _ _ _) rfl ?_
      exact ⟨⟨_,rfl⟩,.inr ⟨pre++[x],⟨[],by rw [HXX.out];simp⟩,hJx3⟩⟩
    ·have hi:i < r.size:=by rw [←size_list];exact h2
     have hcut:linesGo [] r.data.toList=r.data.toList.take i::linesGo [] (r.data.toList.drop (i+1)):=by
      conv=>lhs;rw [h4]
      exact linesGo_cut _ _ h3
     rw [hcut] at hm
     obtain ⟨x,post',rfl⟩:∃ x post',post=x::post':=by
      cases post with
      | nil=>simp [enumL] at hm
      | cons x p=>exact ⟨x,p,rfl⟩
     simp only [enumL,List.map_cons,List.cons.injEq] at hm
     obtain ⟨hxp,hpost⟩:=hm
     have hxn:x.n=k:=congrArg Prod.fst hxp
     have hxl:mkB x.l=r.extract 0 i:=by rw [show x.l=_ from congrArg Prod.snd hxp,piece_ahead]
     obtain ⟨u,hu⟩:∃ u,r.extract 0 i=u:=⟨_,rfl⟩
     obtain ⟨v,hv⟩:∃ v,r.extract (i+1) r.size=v:=⟨_,rfl⟩
     rw [hu] at hxl
     have hvl:v.data.toList=r.data.toList.drop (i+1):=by rw [←hv,piece_behind,mkB_data]
     have hvs:v.size < r.size:=by rw [←size_list,hvl,List.length_drop,size_list];omega
     rw [←hvl] at hpost
     have HUV:=Lib.hid (And.intro hu hv)
     have HC:=Lib.hid (fun w=>cut_hit 10 r i w h1 hi (by unfold maxLen;omega))
     have HYY:=Lib.hid (fun q=>HY.out pre x (wr.drewN q) (HJ.out _ _ q hJs) (by rw [hx];simp))
     have HXX:=Lib.hid hx
     have HK:=Lib.hid hk
     have HP:=Lib.hid hpost
     have HN:=Lib.hid (And.intro hxn hxl)
     clear hx h1 h2 h3 h4 hcut hxp hxn hxl hk hpost hvl hu hv hi
     gi_wp2_with (refine ⟨trivial,?_⟩;gi_at_call 96;refine (callsIn_wide.2 (HC.out _)).mono ?_;rintro e w' ⟨rfl,q,rfl⟩;rw [HUV.out.1,HUV.out.2];obtain ⟨fn,tmps,assign,body,hy,hR⟩:=HYY.out q;unfold encX at hy;rw [HN.out.1,HN.out.2] at hy)
     refine hR.mono ?_
     rintro e W3 (⟨rfl,hJ3,hk3⟩ | ⟨rfl,hJx3⟩)
     ·gi_wp2
      go_roundw
      case rel=>exact ⟨pre++[x],post',v,true,k+1,rfl,rfl,by simp,by rw [HXX.out];simp,fun _=>HP.out,(fun h=>by cases h),by omega,by have:=HK.out;simp at this ⊢;omega,hJ3⟩
      case measure=>simp [restOf];omega
     ·gi_wp2
      refine bodyPost_ret (results_none rfl _ _ _) rfl ?_
      exact ⟨⟨_,rfl⟩,.inr ⟨pre++[x],⟨post',by rw [HXX.out];simp⟩,hJx3⟩⟩
set_option maxHeartbeats 1000000 in
theorem numbered_in (n:Nat) (s:ByteArray) (w:World) :
 CallsIn Fence.wide n Tryz.prog 62 #[.string s] w fun e w'=>e=.returned (.func (.func 95) #[] #[.pointer (some ⟨w.heap.size,0,none⟩)])∧w'=w.alloc (.cells #[.string s] 9):=by
 refine callsIn_of_wp Tryz.func62 rfl trivial ?_ rfl
 simp only [Tryz.ntmps62,List.size_toArray,List.length_cons,List.length_nil,Nat.reduceAdd,Nat.reduceSub,Array.replicate_succ,Array.replicate_zero,List.push_toArray,List.append_toArray,List.nil_append,List.cons_append]
 gi_wp2
 go_ret
 exact ⟨rfl,rfl⟩
theorem iter_stops (n:Nat) (hn:1≤n) (Bn n₀:Nat) (s:ByteArray) (hs:s.size≤20000) (xs:List LineX) (hxs:xs.map LineX.pair=enumL 1 (linesGo [] s.data.toList)) (w:World) (hBn:Bn < w.heap.size) (hc:w.cell? ⟨Bn,0,none⟩=some (.string s)) :
 SeqStopsK Fence.wide n Tryz.prog 95 #[.pointer (some ⟨Bn,0,none⟩)] encX (Below n₀) (fun ys=>ys=xs) (fun pre=>pre <+: xs) xs.length w:=fun l J Jx W hW hJ _ hY h0 =>
 iter_in n hn l Bn n₀ s hs xs hxs J Jx (fun q A k h=>hJ q A _ none h (grown_drewN A k) (fun r e=>by cases e)) hY W ((hW.cell (p:=⟨Bn,0,none⟩) hBn).trans hc) h0
end Go.Proofs.YtfhhihamndbcnaaGreatDoor
end
section
namespace Go.Proofs.YtfhhihamndbcnaaGreatDoor
open Go.RowKit Go.Shelf
attribute [local go_sem] Oper.semAt_some
def LinesPost (w:World) (L:List (Int × List ByteArray)) (c:Int) (e:Ending) (w':World):Prop :=
 ∃ v,e=.returned (.tuple #[v,.int .i64 c])∧LinesV w' v L∧Below w.heap.size w w'
theorem info_line:(Tryz.prog.info? 104).map (fun i=>(i.zero,i.size,i.bytes))=some (some (.agg #[.int .i64 0,.slice none 0 0]),2,32):=by kernel_rfl
theorem linE_big (l:List UInt8) (h:20000 < l.length):linE l=4∧linV l=[]:=by simp [linE,linV,h]
theorem linE_bad (l:List UInt8) (h:l.length≤20000) (ho:okL l=false):linE l=5∧linV l=[]:=by simp [linE,linV,Nat.not_lt.2 h,ho]
theorem linE_ok (l:List UInt8) (h:l.length≤20000) (ho:okL l=true):linE l=0∧linV l=linesL l:=by simp [linE,linV,Nat.not_lt.2 h,ho]
def linesOf (pre:List LineX):List (Int × List ByteArray):=asB (numP (pre.map LineX.pair))
theorem linesOf_hit (pre:List LineX) (x:LineX) (h:wordsL x.l≠[]):linesOf (pre++[x])=linesOf pre++[((x.n:Int),(wordsL x.l).map mkB)]:=by
 unfold linesOf
 rw [List.map_append,List.map_cons,List.map_nil,numP_hit _ _ (by exact h),asB_append]
 rfl
theorem linesOf_miss (pre:List LineX) (x:LineX) (h:wordsL x.l=[]):linesOf (pre++[x])=linesOf pre:=by
 unfold linesOf
 rw [List.map_append,List.map_cons,List.map_nil,numP_miss _ _ (by exact h)]
theorem linesOf_length (pre:List LineX):(linesOf pre).length≤pre.length:=by
 unfold linesOf
 rw [asB_length]
 have:=numP_length (pre.map LineX.pair)
 simpa using this
def LinesI (w:World) (pre:List LineX) (W:World):Prop :=
 ∃ v LV,Boxed W w.heap.size 96 v∧W.ownsRow w.heap.size 104 2 v LV.length (flatL LV)∧WordsOwn W w.heap.size 9 LV (linesOf pre)
theorem linesI_own (w:World):Own (LinesI w):=by
 rintro s X Y row ⟨v,LV,hv,hr,hw⟩ hg hrow
 refine ⟨v,LV,hv.kept hg (fun e'=>?_),row_uncells hr hg hrow,hw.mono fun u n xs hu=>row_uncells hu hg hrow⟩
 obtain ⟨o,ho,hc⟩:=hrow _ e'.symm
 rw [show X.heap[w.heap.size]?=_ from hv] at ho;cases ho;cases hc
theorem lines_big (s:ByteArray) (w:World) (h:20000 < s.size) (hs:s.size≤30000) :
 Calls Tryz.prog 38 #[.string s] w (LinesPost w [] 4):=by
 go_enter Tryz.func38,Tryz.ntmps38
 go_wp2
 go_ret2
 exact ⟨_,rfl,LinesV.nil _,Below.refl _ _⟩
theorem lines_bad (s:ByteArray) (w:World) (hs:s.size≤20000) (ho:okL s.data.toList=false) :
 Calls Tryz.prog 38 #[.string s] w (LinesPost w [] 5):=by
 have HO:=Lib.hid ho
 have HS:Hid (s.size≤maxLen):=Lib.hid (by unfold maxLen;omega)
 clear ho
 have h1:¬ 20000 < s.size:=by omega
 go_enter Tryz.func38,Tryz.ntmps38
 go_wp2_with fail
 refine (readable_any s _ HS.out).mono ?_
 rintro e w' ⟨rfl,rfl⟩
 rw [HO.out]
 go_wp2
 go_ret2
 exact ⟨_,rfl,LinesV.nil _,Below.refl _ _⟩
set_option maxRecDepth 100000 in
set_option maxHeartbeats 2000000 in
theorem lines_good (s:ByteArray) (w:World) (hs:s.size≤20000) (ho:okL s.data.toList=true) :
 Calls Tryz.prog 38 #[.string s] w (LinesPost w (asB (linesL s.data.toList)) 0):=by
 have hall:=linesGo_all okB [] s.data.toList rfl ho
 have hlen:=linesGo_length [] s.data.toList
 have hsl:=size_list s
 obtain ⟨xs,hxs⟩:=linesX (linesGo [] s.data.toList) 1 (by omega) fun x hx=>⟨(hall x hx).1,by have:=(hall x hx).2;simp at this;omega⟩
 have hres:linesOf xs=asB (linesL s.data.toList):=by unfold linesOf linesL;rw [hxs]
 have hxl:xs.length≤20001:=by
  have h1:=congrArg List.length hxs
  rw [List.length_map,enumL_length] at h1
  omega
 rw [←hres]
 have HX:=Lib.hid hxs
 have HO:=Lib.hid ho
 have HS:Hid (s.size≤maxLen):=Lib.hid (by unfold maxLen;omega)
 have HXL:=Lib.hid hxl
 clear hall hlen hsl hxs hres ho hxl
 have h1:¬ 20000 < s.size:=by omega
 obtain ⟨i0,hi,hz0,hz1,hz2⟩:=info_parts info_line
 have HI:=Lib.hid (And.intro hi (And.intro hz0 (And.intro hz1 hz2)))
 clear hi hz0 hz1 hz2
 refine (callsIn_wide (n:=3)).1 ?_
 refine callsIn_of_wp_marks Tryz.func38 rfl trivial ?_ rfl
 simp only [Tryz.ntmps38,List.size_toArray,List.length_cons,List.length_nil,Nat.reduceAdd,Nat.reduceSub,Array.replicate_succ,Array.replicate_zero,List.push_toArray,List.append_toArray,List.nil_append,List.cons_append]
 gi_wp2_with (first
  | (refine ⟨trivial,?_⟩;gi_at_call 61;refine (callsIn_wide.2 (readable_any s _ HS.out)).mono ?_;rintro e w' ⟨rfl,rfl⟩;rw [HO.out])
  | (refine ⟨trivial,?_⟩;gi_at_call 62;refine (numbered_in _ s _).mono ?_;rintro e w' ⟨rfl,rfl⟩))
 have bO:=Boxed.new w 96 (.slice none 0 0)
 have bN:=Boxed.new (w.alloc (.cells #[.slice none 0 0] 96)) 9 (.string s)
 rw [World.size_alloc] at bN
 have hB0:Below w.heap.size w ((w.alloc (.cells #[.slice none 0 0] 96)).alloc (.cells #[.string s] 9)):=((Below.refl _ w).alloc (Nat.le_refl _) _).alloc (by simp) _
 refine wpIn_rangeFunc_ownG rfl (by decide) (gf:=95) (lb:=#[.pointer (some ⟨w.heap.size+1,0,none⟩)]) rfl trivial (enters_of Tryz.func95 (by kernel_rfl) rfl)
  (iter_stops 2 (by decide) (w.heap.size+1) w.heap.size s hs xs HX.out _ (by simp) bN.cell) belowK_t (belowK_b (by simp;omega)) (Below.refl _ _) (fun _=>rfl)
  (fun pre W=>LinesI w pre W∧Below w.heap.size w W)
  (fun _ _ _=>False)
  (OwnFrom.and (Own.from (linesI_own w) _) (ownFrom_below (Nat.le_refl _) (by simp;omega)))
  (fun _ _ _ _ _ hs _ _=>hs)
  ⟨⟨_,[],bO.alloc _,World.ownsRow_nil _ _ _ _,WordsOwn.nil _ _ _⟩,hB0⟩
  (fun x=>{ tmps:=#[.string s,undef,.slice none 0 0,.int .i64 0,.pointer (some ⟨w.heap.size,0,none⟩),.int .i64 (x.n:Int),.string (mkB x.l),undef,.string s,.int .i64 (s.size:Int),.bool (decide ((20000:Int) < (s.size:Int))),.string s,.bool true,.bool false,.string s,.func (.func 95) #[] #[.pointer (some ⟨w.heap.size+1,0,none⟩)],.int .i64 (x.n:Int),.string (mkB x.l),undef,undef,undef,undef,undef,undef,undef,undef,undef,undef,undef,undef],defers:=[] }) ?assign ?body ?done ?stop
 case assign =>
  intro l x W K hK
  simp only [encX]
  gi_wp2
  exact hK
 case body =>
  rintro l pre x W ⟨⟨v,LV,hv,hrow,hw⟩,hB⟩ hlt
  have hWd:∀ W,Calls Tryz.prog 63 #[.string (mkB x.l)] W (WordsPost W ((wordsL x.l).map mkB)):=fun W=>by
   have:=wordsOf_any (mkB x.l) W (by rw [mkB_size];have:=x.2.2.1;show x.1.2.length≤_;omega) (fun c hc=>by
    rw [mkB_data] at hc
    have:=List.all_eq_true.1 x.2.2.2 c hc
    rw [okB_dec] at this
    have:=of_decide_eq_true this
    omega)
   rwa [mkB_data] at this
  have hpl:LV.length≤pre.length:=by rw [hw.1];exact linesOf_length pre
  have hll:LV.length≤20001:=by have:=HXL.out;omega
  have HH:=linesOf_hit pre x
  have HM:=linesOf_miss pre x
  by_cases hws:wordsL x.l=[]
  ·have HE:=Lib.hid (HM hws)
   rw [hws] at hWd
   have HW:=Lib.hid hWd
   clear hWd HH HM hws hpl hll
   gi_wp2_with (refine ⟨trivial,?_⟩;gi_at_call 63;refine (CallsIn.inRound l (callsIn_wide.2 (HW.out _))).mono ?_;rintro e W1 ⟨A,rfl,hA,ho,hb⟩;simp only [List.map_nil,List.length_nil])
   exact ⟨keepsFrom_below _ hb,hb.mono hB.size,⟨v,LV,boxed_below hv hb,row_below hrow hb,by rw [HE.out];exact hw.mono fun u n xs hu=>row_below hu hb⟩,hB.trans (hb.mono hB.size)⟩
  ·have HE:=Lib.hid (HH hws)
   have hpos:0 < ((wordsL x.l).map mkB).length:=by rw [List.length_map];exact List.length_pos_iff.2 hws
   obtain ⟨ws,hwsd⟩:∃ ws,(wordsL x.l).map mkB=ws:=⟨_,rfl⟩
   rw [hwsd] at hWd hpos HE
   have HW:=Lib.hid hWd
   clear hWd HH HM hws hpl hwsd
   gi_wp2_with (first
    | (refine ⟨trivial,?_⟩;gi_at_call 63;refine (CallsIn.inRound l (callsIn_wide.2 (HW.out _))).mono ?_;rintro e W1 ⟨A,rfl,hA,ho,hb⟩;have hv1:=boxed_below hv hb;have hc1:=hv1.cell;have hrow1:=row_below hrow hb;have hw1:Hid _:=Lib.hid (hw.mono fun u n xs hu=>row_below hu hb);have hsz:w.heap.size≤W1.heap.size:=Nat.le_trans hB.size hb.size)
    | (gi_at_builtin;refine wpListIn_append_own _ rfl _ _ 96 rfl w.heap.size 104 i0 (.agg #[.int .i64 0,.slice none 0 0]) 2 32 Tryz.underlying96 HI.out.1 HI.out.2.1 HI.out.2.2.1 HI.out.2.2.2 rfl (by decide) _ _ _ rfl (hrow1.alloc _) ⟨W1.heap.size,0,none⟩ 1 1 [.int .i64 (x.n:Int),.slice (some ⟨A,0,none⟩) ws.length ws.length] rfl rfl (cell_two_new' _ _ _ _) (by intro u hu;simp at hu;rcases hu with rfl | rfl <;> rfl) (by unfold maxLen;omega) (by omega) (by simp;omega) ?_;intro v' w1 hown' hgrow _;obtain ⟨g',cap',rfl⟩:=ownsRow_succ hown';obtain ⟨hv2,hv3,hr3,hk3,hb3⟩:=hv1.appended (by decide) hrow1 hsz (Nat.le_refl _) hown' hgrow;have hc2:=hv2.cell;have hf2:=hv2.frozen))
   have hK9:∀ (u:Value) (n:Nat) (xs:List Value),W1.ownsRow w.heap.size 9 1 u n xs→(w1.setCell ⟨w.heap.size,0,none⟩ (.slice (some ⟨g',0,none⟩) (LV.length+1) cap')).ownsRow w.heap.size 9 1 u n xs:=fun u n xs hu=>by
    have hu1:=(hu.alloc (.cells #[.int .i64 (x.n:Int),.slice (some ⟨A,0,none⟩) ws.length ws.length] 104)).kept hgrow (row_apart hrow1 hu (by decide))
    exact hu1.kept (grownBy_setCell' w1 w.heap.size _) (.inr (hv2.not_row (by decide) hu1).symm)
   refine ⟨(keepsFrom_below _ hb).trans (hk3.from _),(hb.mono hB.size).trans hb3,⟨_,LV++[((x.n:Int),.slice (some ⟨A,0,none⟩) ws.length ws.length)],hv3,?_,?_⟩,hB.trans ((hb.mono hB.size).trans hb3)⟩
   ·rw [flatL_snoc,List.length_append]
    exact hr3
   ·rw [HE.out]
    exact (hw1.out.mono hK9).snoc _ _ _ (hK9 _ _ _ (row_base ho hB.size))
 case done =>
  rintro D ys W hD rfl ⟨⟨v,LV,hv,hrow,hw⟩,hB⟩ hK
  have hc:=hv.cell
  have hL:=Lib.hid (fun W' (h1:W'.ownsRow w.heap.size 104 2 v LV.length (flatL LV)) (h2:WordsOwn W' w.heap.size 9 LV (linesOf ys))=>lines_of_in h1 h2.isIn)
  gi_wp2
  refine ⟨by simp,.inl ⟨_,_,rfl,run_takeDeferred hK,?_⟩⟩
  refine ⟨.tuple #[v,.int .i64 0],by simp [results,Tryz.results38,go_sem],v,rfl,hL.out _ (ownsRow_putObj hrow _ hK rfl) (hw.mono fun u n xs hu=>ownsRow_putObj hu _ hK rfl),hB.trans (belowK_b (w:=w) (Nat.le_refl _) W D _ _ (by simp at hD;omega) hK rfl rfl)⟩
 case stop =>
  rintro D c pre W _ _ h _
  exact h.elim
theorem lines_any (s:ByteArray) (w:World) (hs:s.size≤30000) :
 Calls Tryz.prog 38 #[.string s] w (LinesPost w (asB (linV s.data.toList)) (linE s.data.toList)):=by
 have hl:=size_list s
 by_cases h:20000 < s.size
 ·obtain ⟨e1,e2⟩:=linE_big s.data.toList (by omega)
  rw [e1,e2]
  exact lines_big s w h hs
 ·cases ho:okL s.data.toList with
  | false =>
    obtain ⟨e1,e2⟩:=linE_bad s.data.toList (by omega) ho
    rw [e1,e2]
    exact lines_bad s w (by omega) ho
  | true =>
    obtain ⟨e1,e2⟩:=linE_ok s.data.toList (by omega) ho
    rw [e1,e2]
    exact lines_good s w (by omega) ho
end Go.Proofs.YtfhhihamndbcnaaGreatDoor
end
section
namespace Go.Proofs.YtfhhihamndbcnaaGreatDoor
open Go.RowKit
set_option maxHeartbeats 400000 in
theorem cadd_any (a b:Int) (w:World) (ha:In64 a) (hb:In64 b) :
 Calls Tryz.prog 72 #[.int .i64 a,.int .i64 b] w fun e w'=>e=.returned (.tuple #[.int .i64 (addCV a b),.int .i64 (addCE a b)])∧w=w':=by
 obtain ⟨a1,a2⟩:=ha
 obtain ⟨b1,b2⟩:=hb
 cases hf:fit (a+b) with
 | true =>
   rw [addV_yes hf,addE_yes hf]
   obtain ⟨s1,s2⟩:=(fit_iff _).1 hf
   clear hf
   go_enter Tryz.func72,Tryz.ntmps72
   go_wp2
   all_goals
    go_ret2
    exact ⟨rfl,rfl⟩
 | false =>
   rw [addV_no hf,addE_no hf]
   rcases (fit_no _).1 hf with h | h
   ·obtain ⟨h1,h2⟩:=add_under a1 b1 h
    clear hf
    go_enter Tryz.func72,Tryz.ntmps72
    go_wp2
    all_goals
     go_ret2
     exact ⟨rfl,rfl⟩
   ·obtain ⟨h1,h2⟩:=add_over a2 b2 h
    clear hf
    go_enter Tryz.func72,Tryz.ntmps72
    go_wp2
    all_goals
     go_ret2
     exact ⟨rfl,rfl⟩
set_option maxHeartbeats 400000 in
theorem radd_any (a b:Int) (w:World) (ha:In64 a) (hb:In64 b) :
 Calls Tryz.prog 94 #[.int .i64 a,.int .i64 b] w fun e w'=>e=.returned (.tuple #[.int .i64 (addCV a b),.int .i64 (addCE a b)])∧w=w':=by
 obtain ⟨a1,a2⟩:=ha
 obtain ⟨b1,b2⟩:=hb
 cases hf:fit (a+b) with
 | true =>
   rw [addV_yes hf,addE_yes hf]
   obtain ⟨s1,s2⟩:=(fit_iff _).1 hf
   clear hf
   go_enter Tryz.func94,Tryz.ntmps94
   go_wp2
   all_goals
    go_ret2
    exact ⟨rfl,rfl⟩
 | false =>
   rw [addV_no hf,addE_no hf]
   rcases (fit_no _).1 hf with h | h
   ·obtain ⟨h1,h2⟩:=add_under a1 b1 h
    clear hf
    go_enter Tryz.func94,Tryz.ntmps94
    go_wp2
    all_goals
     go_ret2
     exact ⟨rfl,rfl⟩
   ·obtain ⟨h1,h2⟩:=add_over a2 b2 h
    clear hf
    go_enter Tryz.func94,Tryz.ntmps94
    go_wp2
    all_goals
     go_ret2
     exact ⟨rfl,rfl⟩
end Go.Proofs.YtfhhihamndbcnaaGreatDoor
end
section
namespace Go.Proofs.YtfhhihamndbcnaaGreatDoor
open Go.RowKit
theorem sum_step (l:List Int) (k:Nat) (n:Int) (hk:k < l.length):sumFrom n (l.drop k)=sumFrom n (l.getD k 0::l.drop (k+1)):=by
 rw [List.drop_eq_getElem_cons hk,getD_at l k hk]
set_option maxHeartbeats 400000 in
theorem sum_any (a:Option Addr) (n c:Nat) (l:List Int) (w:World) (h:RowIs .i64 w a n l) (hz:∀ x∈l,In64 x) :
 Calls Tryz.prog 66 #[.slice a n c] w fun e w'=>e=.returned (.tuple #[.int .i64 (sumFrom 0 l).1,.int .i64 (sumFrom 0 l).2])∧w=w':=by
 have hm:=h.max
 unfold maxLen at hm
 have H:=Lib.hid h
 have HZ:=Lib.hid hz
 clear h hz
 go_enter Tryz.func66,Tryz.ntmps66
 go_wp2
 go_loop [4,11] (fun s i=>∃ k:Nat,∃ x:Int,k≤n∧i=.int .i64 k∧s=.int .i64 x∧In64 x∧sumFrom 0 l=sumFrom x (l.drop k)) (fun _ i=>n - (intOf i).toNat)
 case atStart=>exact ⟨0,0,Nat.zero_le _,rfl,rfl,⟨by omega,by omega⟩,rfl⟩
 case round =>
  obtain ⟨k,x,hk,rfl,rfl,hx,hs⟩:=hrel
  have HS:=Lib.hid hs
  clear hs
  by_cases hlt:k < n
  ·obtain ⟨b,o,rfl,hc⟩:=H.out.cell k hlt
   have hin:In64 (l.getD k 0):=by
    have hl:=H.out.len
    rw [getD_at l k (by omega)]
    exact HZ.out _ (List.getElem_mem _)
   cases hf:fit (x+l.getD k 0) with
   | true =>
     have HF:=Lib.hid hf
     clear hf
     generalize hy:l.getD k 0=y at *
     have HY:=Lib.hid hy
     clear hy
     go_wp2_with (go_at_call 72;refine (cadd_any x y _ hx hin).mono ?_;rintro e w' ⟨rfl,rfl⟩;rw [addV_yes HF.out,addE_yes HF.out])
     go_round
     case rel=>exact ⟨k+1,x+y,by omega,by go_num,rfl,in64_of_fit HF.out,by rw [HS.out,sum_step l k x (by rw [H.out.len];exact hlt),HY.out,sumFrom_yes _ HF.out]⟩
     case measure=>simp [intOf];omega
   | false =>
     have HF:=Lib.hid hf
     clear hf
     generalize hy:l.getD k 0=y at *
     have HY:=Lib.hid hy
     clear hy
     have hfin:sumFrom 0 l=(0,2):=by rw [HS.out,sum_step l k x (by rw [H.out.len];exact hlt),HY.out,sumFrom_no _ HF.out]
     have HFIN:=Lib.hid hfin
     clear hfin
     go_wp2_with (go_at_call 72;refine (cadd_any x y _ hx hin).mono ?_;rintro e w' ⟨rfl,rfl⟩;rw [addV_no HF.out,addE_no HF.out])
     go_ret2
     rw [HFIN.out]
     exact ⟨rfl,rfl⟩
  ·have hfin:sumFrom 0 l=(x,0):=by
    rw [HS.out,List.drop_of_length_le (by rw [H.out.len];omega)];rfl
   have HFIN:=Lib.hid hfin
   clear hfin
   go_wp2
   go_ret2
   rw [HFIN.out]
   exact ⟨rfl,rfl⟩
set_option maxHeartbeats 400000 in
theorem rsum_any (a:Option Addr) (n c:Nat) (l:List Int) (w:World) (h:RowIs .i64 w a n l) (hz:∀ x∈l,In64 x) :
 Calls Tryz.prog 59 #[.slice a n c] w fun e w'=>e=.returned (.tuple #[.int .i64 (sumFrom 0 l).1,.int .i64 (sumFrom 0 l).2])∧w=w':=by
 have hm:=h.max
 unfold maxLen at hm
 have H:=Lib.hid h
 have HZ:=Lib.hid hz
 clear h hz
 go_enter Tryz.func59,Tryz.ntmps59
 go_wp2
 go_loop [4,5] (fun s i=>∃ k:Nat,∃ x:Int,k≤n∧i=.int .i64 k∧s=.int .i64 x∧In64 x∧sumFrom 0 l=sumFrom x (l.drop k)) (fun _ i=>n - (intOf i).toNat)
 case atStart=>exact ⟨0,0,Nat.zero_le _,rfl,rfl,⟨by omega,by omega⟩,rfl⟩
 case round =>
  obtain ⟨k,x,hk,rfl,rfl,hx,hs⟩:=hrel
  have HS:=Lib.hid hs
  clear hs
  by_cases hlt:k < n
  ·obtain ⟨b,o,rfl,hc⟩:=H.out.cell k hlt
   have hin:In64 (l.getD k 0):=by
    have hl:=H.out.len
    rw [getD_at l k (by omega)]
    exact HZ.out _ (List.getElem_mem _)
   cases hf:fit (x+l.getD k 0) with
   | true =>
     have HF:=Lib.hid hf
     clear hf
     generalize hy:l.getD k 0=y at *
     have HY:=Lib.hid hy
     clear hy
     go_wp2_with (go_at_call 94;refine (radd_any x y _ hx hin).mono ?_;rintro e w' ⟨rfl,rfl⟩;rw [addV_yes HF.out,addE_yes HF.out])
     go_round
     case rel=>exact ⟨k+1,x+y,by omega,by go_num,rfl,in64_of_fit HF.out,by rw [HS.out,sum_step l k x (by rw [H.out.len];exact hlt),HY.out,sumFrom_yes _ HF.out]⟩
     case measure=>simp [intOf];omega
   | false =>
     have HF:=Lib.hid hf
     clear hf
     generalize hy:l.getD k 0=y at *
     have HY:=Lib.hid hy
     clear hy
     have hfin:sumFrom 0 l=(0,2):=by rw [HS.out,sum_step l k x (by rw [H.out.len];exact hlt),HY.out,sumFrom_no _ HF.out]
     have HFIN:=Lib.hid hfin
     clear hfin
     go_wp2_with (go_at_call 94;refine (radd_any x y _ hx hin).mono ?_;rintro e w' ⟨rfl,rfl⟩;rw [addV_no HF.out,addE_no HF.out])
     go_ret2
     rw [HFIN.out]
     exact ⟨rfl,rfl⟩
  ·have hfin:sumFrom 0 l=(x,0):=by
    rw [HS.out,List.drop_of_length_le (by rw [H.out.len];omega)];rfl
   have HFIN:=Lib.hid hfin
   clear hfin
   go_wp2
   go_ret2
   rw [HFIN.out]
   exact ⟨rfl,rfl⟩
end Go.Proofs.YtfhhihamndbcnaaGreatDoor
end
