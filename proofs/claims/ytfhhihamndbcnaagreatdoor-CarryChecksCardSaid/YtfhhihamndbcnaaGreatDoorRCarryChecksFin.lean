/- CarryChecks, proved: for any texts, any key and any small amount, a fact of opening more, or less, is told by a check. Conditions: the listed variables hold what the program's text lays in them (the card ties that); no other. -/
import Derived.ChangeOld
import Derived.ShutString
import Derived.Test.YtfhhihamndbcnaaGreatDoorCards
import Derived.Test.YtfhhihamndbcnaaGreatDoorTie
import Derived.Test.YtfhhihamndbcnaaGreatDoorR56







namespace Go.Proofs.YtfhhihamndbcnaaGreatDoor
open Go.ChangeShapes Go.WideShapes Go.ChangeAt Go.RowKit Go.Joins
open Go.ChangeMaps (open_string shut_string)
open Go.Proofs.YtfhhihamndbcnaaGreatDoor.Pk
open Go.Proofs.YtfhhihamndbcnaaGreatDoor.Cy
set_option maxRecDepth 100000 in
theorem carryChecks_lifted (os:Os) (started:os.Started) (H:Type) (enc:TypeId × Value→H) :
 ReturnsInHanded {} Tryz.checked os 7 .any (fun w args=>(Rows.carryChecksSpec.pre enc Tryz.prog Tryz.f7 [] false w args∧laidMetH Tryz.prog listed w)∧sizedMet enc Tryz.prog Tryz.f7 (OpenSpec.ofChange Rows.carryChecksSpec) false w args)
  (Rows.carryChecksSpec.post enc Tryz.prog Tryz.f7 false true false false):=by
 refine returnsInHanded_of_change_and (C:=Tryz.checked) (X:=fun w _=>laidMetH Tryz.prog listed w) (fun _ _ _ hh h=>h.of_heap hh) own started (by kernel_rfl) Tryz.func7
  (ChangeSpec.witness_shaped (enc:=enc) (C:=Tryz.checked) (os:=os) (X:=fun w _=>laidMetH Tryz.prog listed w) false (World.doorLaid Tryz.prog 400 os) #[.string ⟨#[]⟩,.string ⟨#[]⟩,.agg #[.string ⟨#[]⟩,.string ⟨#[]⟩,.string ⟨#[]⟩,.string ⟨#[]⟩,.int .i64 0,.int .i16 0]] 8 rfl (World.shaped_of_RefB (by kernel_rfl) (by kernel_rfl)) (by kernel_rfl) (by kernel_rfl) (by kernel_rfl) (door_met os _)) ?_
 intro W base args ds gs before hval0 hW _ _ hL _
 have hval:∀ (j:Nat) t v,Tryz.f7.params[j]?=some t→args[j]?=some v→Value.okWide Tryz.prog W .any base t v:=hval0
 have hW':=hW
 obtain ⟨p,q,hA0,hV,rfl,hfz,hnd⟩:=hW
 have hA:DataW.TrodAll enc Tryz.prog W 0 (fun _=>true) true Tryz.f7.params.toList args.toList ds p:=hA0
 rw [Tryz.params7] at hA hval
 obtain ⟨v0,vs0,d0,ds0,p0,q0,hargs,rfl,rfl,h0,r0⟩:=trodAll_cons hA
 obtain ⟨v1,vs1,d1,ds1,p1,q1,rfl,rfl,rfl,h1,r1⟩:=trodAll_cons r0
 obtain ⟨v2,vs2,d2,ds2,p2,q2,rfl,rfl,rfl,h2,r2⟩:=trodAll_cons r1
 obtain ⟨rfl,rfl,rfl⟩:=trodAll_nil r2
 obtain rfl:args=#[v0,v1,v2]:=by cases args;simp_all
 obtain ⟨rfl,rfl⟩:=trodVars_none hV
 obtain ⟨s0,rfl,rfl,rfl,hs0⟩:=open_string Tryz.underlying9 (hval 0 9 v0 rfl rfl) h0
 obtain ⟨s1,rfl,rfl,rfl,hs1⟩:=open_string Tryz.underlying9 (hval 1 9 v1 rfl rfl) h1
 have k2:=h2
 have lt2:∀ x∈p2,x.block < W.heap.size:=by obtain ⟨m,hm⟩:=k2;exact DataW.trod_lt m _ _ _ hm
 obtain ⟨a2x,a2y,rfl,z2x,z2y⟩:=Cy.more_open (hval 2 77 v2 rfl rfl) h2
 clear hA0 hval0
 refine (carryChecks_walk s0 s1 a2x a2y W hs0 hs1 z2x z2y (of_laid hL)).mono fun e W' ⟨he,bel⟩=>?_
 subst he
 exact ⟨_,rfl,_,_,_,[],_,[],hW',trodAll_mk1 (shut_bool Tryz.underlying4 _),(trodAll_cons_mk (shut_string Tryz.underlying9 hs0) (trodAll_cons_mk (shut_string Tryz.underlying9 hs1) (trodAll_cons_mk (Below.trod laidOut (by kernel_rfl) (of_decide_eq_true (by kernel_rfl)) k2 bel lt2) trodAll_mk0))),rfl,bel.frame _,fun h=>by cases h⟩
theorem carryChecks_in:(Rows.carryChecksRow.inPlace==Tryz.checked.prog.inPlace 7)=true:=by kernel_rfl
theorem carryChecks_un:(Rows.carryChecksRow.unfollowed==Tryz.checked.prog.unfollowed 7)=true:=by kernel_rfl
theorem carryChecks_rec:(Rows.carryChecksRow.recurses==Tryz.checked.prog.recurses 7)=true:=by kernel_rfl
theorem carryChecks_nam:(Rows.carryChecksRow.named==Tryz.checked.prog.varsNamed 7)=true:=by kernel_rfl
theorem carryChecks_closed:joinedFacts Tryz.checked.prog 7 Tryz.f7 Rows.carryChecksSpec Rows.carryChecksRow=true:=by
 unfold joinedFacts
 rw [carryChecks_in,carryChecks_un,carryChecks_rec,carryChecks_nam]
 kernel_rfl
theorem carryChecks_said:Rows.CarryChecksSaid :=
 OpenClaim.holds_of_wide 7 Tryz.f7 rfl rfl rfl rfl rfl rfl rfl ⟨rfl,rfl,rfl,rfl,rfl⟩ rfl rfl rfl rfl rfl (by kernel_rfl) Tryz.func7 carryChecks_closed
  (of_decide_eq_true (by kernel_rfl)) (by unfold Func.isWrapper;first | (rw [if_pos (by decide +kernel)];kernel_rfl) | (rw [if_neg (by decide +kernel)];exact ⟨rfl,rfl⟩))
  (fun os started H enc _=>carryChecks_lifted os started H enc)
theorem carryChecks_holds:Rows.CarryChecksCardSaid :=
 Claim7.holds_tied_plain_at .later [] Rows.carryChecksCard.laidKinds true Rows.carryChecksCard.stood.harness Rows.carryChecksCard.stood.looks
  carryChecks_said (fun _ h=>by cases h) (by kernel_rfl) (fun _ h=>by cases h) carryChecks_row_tie rfl ⟨rfl,rfl⟩ (by kernel_rfl) rfl
  (fun f fn hf hfn=>by
   obtain rfl:f=7:=Option.some.inj ((show Tryz.prog.funcNamed Rows.carryChecksRow.func=some 7 by kernel_rfl).symm.trans hf) |>.symm
   obtain rfl:fn=Tryz.f7:=(Option.some.inj (Tryz.func7.symm.trans hfn)).symm
   exact ⟨by kernel_rfl,fun j t ht=>by
    rw [Tryz.params7] at ht
    have hm:t∈[9,9,77]:=by simpa using Array.mem_of_getElem? ht
    have hall:([9,9,77].all fun u=>!Tryz.prog.wantsStandIn u)=true:=by kernel_rfl
    exact (show Tryz.prog.wantsStandIn t=false by simpa using List.all_eq_true.1 hall t hm)⟩)
  (by kernel_rfl)
end Go.Proofs.YtfhhihamndbcnaaGreatDoor
