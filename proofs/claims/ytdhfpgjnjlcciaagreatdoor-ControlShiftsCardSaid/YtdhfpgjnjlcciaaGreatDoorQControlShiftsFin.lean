/- ControlShifts, proved: to a cube that was read, as much more on opening and closing leaves each gap, and what an entity weighs by movements. Conditions: the listed variables hold what the program's text lays in them (the card ties that); no other. -/
import Derived.ChangeOld
import Derived.ShutString
import Derived.Test.YtdhfpgjnjlcciaaGreatDoorCards
import Derived.Test.YtdhfpgjnjlcciaaGreatDoorTie
import Derived.Test.YtdhfpgjnjlcciaaGreatDoorQ47







namespace Go.Proofs.YtdhfpgjnjlcciaaGreatDoor
open Go.ChangeShapes Go.WideShapes Go.ChangeAt Go.RowKit Go.Joins
open Go.ChangeMaps (open_string shut_string)
open Go.Proofs.YtdhfpgjnjlcciaaGreatDoor.Pk
open Go.Proofs.YtdhfpgjnjlcciaaGreatDoor.Co
set_option maxRecDepth 100000 in
theorem zco (os:Os) (started:os.Started) (H:Type) (enc:TypeId × Value→H) :
 ReturnsInHanded {} Tryz.checked os 7 .any (fun w args=>(Rows.controlShiftsSpec.pre enc Tryz.prog Tryz.f7 [] false w args∧laidMetH Tryz.prog listed w)∧sizedMet enc Tryz.prog Tryz.f7 (OpenSpec.ofChange Rows.controlShiftsSpec) false w args)
  (Rows.controlShiftsSpec.post enc Tryz.prog Tryz.f7 false true false false):=by
 refine returnsInHanded_of_change_and (C:=Tryz.checked) (X:=fun w _=>laidMetH Tryz.prog listed w) (fun _ _ _ hh h=>h.of_heap hh) own started (by kernel_rfl) Tryz.func7
  (ChangeSpec.witness_shaped (enc:=enc) (C:=Tryz.checked) (os:=os) (X:=fun w _=>laidMetH Tryz.prog listed w) false (World.doorLaid Tryz.prog 400 os) #[.agg #[.string ⟨#[]⟩,.string ⟨#[]⟩],.agg #[.string ⟨#[]⟩,.string ⟨#[]⟩,.string ⟨#[]⟩,.string ⟨#[]⟩,.int .i64 0],.int .i32 0] 8 rfl (World.shaped_of_RefB (by kernel_rfl) (by kernel_rfl)) (by kernel_rfl) (by kernel_rfl) (by kernel_rfl) (vp os _)) ?_
 intro W base args ds gs before hval0 hW _ _ hL _
 have hval:∀ (j:Nat) t v,Tryz.f7.params[j]?=some t→args[j]?=some v→Value.okWide Tryz.prog W .any base t v:=hval0
 have hW':=hW
 obtain ⟨p,q,hA0,hV,rfl,hfz,hnd⟩:=hW
 have hA:DataW.TrodAll enc Tryz.prog W 0 (fun _=>true) true Tryz.f7.params.toList args.toList ds p:=hA0
 rw [Tryz.params7] at hA hval
 obtain ⟨v0,vs0,d0,ds0,p0,q0,hargs,rfl,rfl,h0,r0⟩:=trodAll_cons hA
 obtain ⟨v1,vs1,d1,ds1,p1,q1,rfl,rfl,rfl,h1,r1⟩:=trodAll_cons r0
 obtain ⟨v2,vs2,d2,ds2,p2,q2,rfl,rfl,rfl,h2,r2⟩:=trodAll_cons r1
 obtain ⟨rfl,rfl,rfl⟩:=trodAll_nil r2
 obtain rfl:args=#[v0,v1,v2]:=by cases args;simp_all
 obtain ⟨rfl,rfl⟩:=trodVars_none hV
 have k0:=h0
 have lt0:∀ x∈p0,x.block < W.heap.size:=by obtain ⟨m,hm⟩:=k0;exact DataW.trod_lt m _ _ _ hm
 obtain ⟨a0x,a0y,rfl,z0x,z0y⟩:=Co.Qb (hval 0 68 v0 rfl rfl) h0
 have k1:=h1
 have lt1:∀ x∈p1,x.block < W.heap.size:=by obtain ⟨m,hm⟩:=k1;exact DataW.trod_lt m _ _ _ hm
 obtain ⟨a1,rfl,z1⟩:=Fa.Jw (hval 1 24 v1 rfl rfl) h1
 obtain ⟨a2,rfl,rfl,rfl,wa2⟩:=open_int Tryz.underlying21 (hval 2 21 v2 rfl rfl) h2
 clear hA0 hval0
 refine (zdY a0x a0y a1 a2 W z0x z0y z1 (V3 wa2) (xH hL)).mono fun e W' ⟨he,bel⟩=>?_
 subst he
 exact ⟨_,rfl,_,_,_,[],_,[],hW',trodAll_mk1 (shut_bool Tryz.underlying4 _),(trodAll_cons_mk (Below.trod laidOut (by kernel_rfl) (of_decide_eq_true (by kernel_rfl)) k0 bel lt0) (trodAll_cons_mk (Below.trod laidOut (by kernel_rfl) (of_decide_eq_true (by kernel_rfl)) k1 bel lt1) (trodAll_cons_mk (shut_int Tryz.underlying21 wa2) trodAll_mk0))),rfl,bel.frame _,fun h=>by cases h⟩
theorem zaO:(Rows.controlShiftsRow.inPlace==Tryz.checked.prog.inPlace 7)=true:=by kernel_rfl
theorem zio:(Rows.controlShiftsRow.unfollowed==Tryz.checked.prog.unfollowed 7)=true:=by kernel_rfl
theorem zdp:(Rows.controlShiftsRow.recurses==Tryz.checked.prog.recurses 7)=true:=by kernel_rfl
theorem zd1:(Rows.controlShiftsRow.named==Tryz.checked.prog.varsNamed 7)=true:=by kernel_rfl
theorem zb8:joinedFacts Tryz.checked.prog 7 Tryz.f7 Rows.controlShiftsSpec Rows.controlShiftsRow=true:=by
 unfold joinedFacts
 rw [zaO,zio,zdp,zd1]
 kernel_rfl
theorem zeW:Rows.ControlShiftsSaid :=
 OpenClaim.holds_of_wide 7 Tryz.f7 rfl rfl rfl rfl rfl rfl rfl ⟨rfl,rfl,rfl,rfl,rfl⟩ rfl rfl rfl rfl rfl (by kernel_rfl) Tryz.func7 zb8
  (of_decide_eq_true (by kernel_rfl)) (by unfold Func.isWrapper;first | (rw [if_pos (by decide +kernel)];kernel_rfl) | (rw [if_neg (by decide +kernel)];exact ⟨rfl,rfl⟩))
  (fun os started H enc _=>zco os started H enc)
theorem controlShifts_holds:Rows.ControlShiftsCardSaid :=
 Claim7.holds_tied_plain_at .later [] Rows.controlShiftsCard.laidKinds true Rows.controlShiftsCard.stood.harness Rows.controlShiftsCard.stood.looks
  zeW (fun _ h=>by cases h) (by kernel_rfl) (fun _ h=>by cases h) controlShifts_row_tie rfl ⟨rfl,rfl⟩ (by kernel_rfl) rfl
  (fun f fn hf hfn=>by
   obtain rfl:f=7:=Option.some.inj ((show Tryz.prog.funcNamed Rows.controlShiftsRow.func=some 7 by kernel_rfl).symm.trans hf) |>.symm
   obtain rfl:fn=Tryz.f7:=(Option.some.inj (Tryz.func7.symm.trans hfn)).symm
   exact ⟨by kernel_rfl,fun j t ht=>by
    rw [Tryz.params7] at ht
    have hm:t∈[68,24,21]:=by simpa using Array.mem_of_getElem? ht
    have hall:([68,24,21].all fun u=>!Tryz.prog.wantsStandIn u)=true:=by kernel_rfl
    exact (show Tryz.prog.wantsStandIn t=false by simpa using List.all_eq_true.1 hall t hm)⟩)
  (by kernel_rfl)
end Go.Proofs.YtdhfpgjnjlcciaaGreatDoor
