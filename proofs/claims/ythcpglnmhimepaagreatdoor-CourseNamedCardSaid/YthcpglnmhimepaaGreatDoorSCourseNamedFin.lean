/- CourseNamed, proved: for any texts, each line of a table that was read is the rate that it says. Conditions: the listed variables hold what the program's text lays in them (the card ties that); no other. -/
import Derived.ChangeOld
import Derived.ShutString
import Derived.Test.YthcpglnmhimepaaGreatDoorCards
import Derived.Test.YthcpglnmhimepaaGreatDoorTie
import Derived.Test.YthcpglnmhimepaaGreatDoorS57







namespace Go.Proofs.YthcpglnmhimepaaGreatDoor
open Go.ChangeShapes Go.WideShapes Go.ChangeAt Go.RowKit Go.Joins
open Go.ChangeMaps (open_string shut_string)
open Go.Proofs.YthcpglnmhimepaaGreatDoor.Pk
open Go.Proofs.YthcpglnmhimepaaGreatDoor.Cs
set_option maxRecDepth 100000 in
theorem courseNamed_lifted (os:Os) (started:os.Started) (H:Type) (enc:TypeId × Value→H) :
 ReturnsInHanded {} Tryz.checked os 9 .any (fun w args=>(Rows.courseNamedSpec.pre enc Tryz.prog Tryz.f9 [] false w args∧laidMetH Tryz.prog listed w)∧sizedMet enc Tryz.prog Tryz.f9 (OpenSpec.ofChange Rows.courseNamedSpec) false w args)
  (Rows.courseNamedSpec.post enc Tryz.prog Tryz.f9 false true false false):=by
 refine returnsInHanded_of_change_and (C:=Tryz.checked) (X:=fun w _=>laidMetH Tryz.prog listed w) (fun _ _ _ hh h=>h.of_heap hh) own started (by kernel_rfl) Tryz.func9
  (ChangeSpec.witness_shaped (enc:=enc) (C:=Tryz.checked) (os:=os) (X:=fun w _=>laidMetH Tryz.prog listed w) false (World.doorLaid Tryz.prog 400 os) #[.string ⟨#[]⟩,.string ⟨#[]⟩] 8 rfl (World.shaped_of_RefB (by kernel_rfl) (by kernel_rfl)) (by kernel_rfl) (by kernel_rfl) (by kernel_rfl) (door_met os _)) ?_
 intro W base args ds gs before hval0 hW _ _ hL _
 have hval:∀ (j:Nat) t v,Tryz.f9.params[j]?=some t→args[j]?=some v→Value.okWide Tryz.prog W .any base t v:=hval0
 have hW':=hW
 obtain ⟨p,q,hA0,hV,rfl,hfz,hnd⟩:=hW
 have hA:DataW.TrodAll enc Tryz.prog W 0 (fun _=>true) true Tryz.f9.params.toList args.toList ds p:=hA0
 rw [Tryz.params9] at hA hval
 obtain ⟨v0,vs0,d0,ds0,p0,q0,hargs,rfl,rfl,h0,r0⟩:=trodAll_cons hA
 obtain ⟨v1,vs1,d1,ds1,p1,q1,rfl,rfl,rfl,h1,r1⟩:=trodAll_cons r0
 obtain ⟨rfl,rfl,rfl⟩:=trodAll_nil r1
 obtain rfl:args=#[v0,v1]:=by cases args;simp_all
 obtain ⟨rfl,rfl⟩:=trodVars_none hV
 obtain ⟨s0,rfl,rfl,rfl,hs0⟩:=open_string Tryz.underlying9 (hval 0 9 v0 rfl rfl) h0
 obtain ⟨s1,rfl,rfl,rfl,hs1⟩:=open_string Tryz.underlying9 (hval 1 9 v1 rfl rfl) h1
 clear hA0 hval0
 refine (courseNamed_walk s0 s1 W hs0 hs1 (of_laid hL)).mono fun e W' ⟨he,bel⟩=>?_
 subst he
 exact ⟨_,rfl,_,_,_,[],_,[],hW',trodAll_mk1 (shut_bool Tryz.underlying4 _),(trodAll_cons_mk (shut_string Tryz.underlying9 hs0) (trodAll_cons_mk (shut_string Tryz.underlying9 hs1) trodAll_mk0)),rfl,bel.frame _,fun h=>by cases h⟩
theorem courseNamed_in:(Rows.courseNamedRow.inPlace==Tryz.checked.prog.inPlace 9)=true:=by kernel_rfl
theorem courseNamed_un:(Rows.courseNamedRow.unfollowed==Tryz.checked.prog.unfollowed 9)=true:=by kernel_rfl
theorem courseNamed_rec:(Rows.courseNamedRow.recurses==Tryz.checked.prog.recurses 9)=true:=by kernel_rfl
theorem courseNamed_nam:(Rows.courseNamedRow.named==Tryz.checked.prog.varsNamed 9)=true:=by kernel_rfl
theorem courseNamed_closed:joinedFacts Tryz.checked.prog 9 Tryz.f9 Rows.courseNamedSpec Rows.courseNamedRow=true:=by
 unfold joinedFacts
 rw [courseNamed_in,courseNamed_un,courseNamed_rec,courseNamed_nam]
 kernel_rfl
theorem courseNamed_said:Rows.CourseNamedSaid :=
 OpenClaim.holds_of_wide 9 Tryz.f9 rfl rfl rfl rfl rfl rfl rfl ⟨rfl,rfl,rfl,rfl,rfl⟩ rfl rfl rfl rfl rfl (by kernel_rfl) Tryz.func9 courseNamed_closed
  (of_decide_eq_true (by kernel_rfl)) (by unfold Func.isWrapper;first | (rw [if_pos (by decide +kernel)];kernel_rfl) | (rw [if_neg (by decide +kernel)];exact ⟨rfl,rfl⟩))
  (fun os started H enc _=>courseNamed_lifted os started H enc)
theorem courseNamed_holds:Rows.CourseNamedCardSaid :=
 Claim7.holds_tied_plain_at .later [] Rows.courseNamedCard.laidKinds true Rows.courseNamedCard.stood.harness Rows.courseNamedCard.stood.looks
  courseNamed_said (fun _ h=>by cases h) (by kernel_rfl) (fun _ h=>by cases h) courseNamed_row_tie rfl ⟨rfl,rfl⟩ (by kernel_rfl) rfl
  (fun f fn hf hfn=>by
   obtain rfl:f=9:=Option.some.inj ((show Tryz.prog.funcNamed Rows.courseNamedRow.func=some 9 by kernel_rfl).symm.trans hf) |>.symm
   obtain rfl:fn=Tryz.f9:=(Option.some.inj (Tryz.func9.symm.trans hfn)).symm
   exact ⟨by kernel_rfl,fun j t ht=>by
    rw [Tryz.params9] at ht
    have hm:t∈[9,9]:=by simpa using Array.mem_of_getElem? ht
    have hall:([9,9].all fun u=>!Tryz.prog.wantsStandIn u)=true:=by kernel_rfl
    exact (show Tryz.prog.wantsStandIn t=false by simpa using List.all_eq_true.1 hall t hm)⟩)
  (by kernel_rfl)
end Go.Proofs.YthcpglnmhimepaaGreatDoor
