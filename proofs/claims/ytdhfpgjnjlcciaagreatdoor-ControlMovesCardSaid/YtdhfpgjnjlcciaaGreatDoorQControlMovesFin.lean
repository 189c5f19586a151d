/- ControlMoves, proved: to a cube that was read, a movement and the same with the other sign leave every gap, and one alone is a gap of just that. Conditions: the listed variables hold what the program's text lays in them (the card ties that); no other. -/
import Derived.ChangeOld
import Derived.ShutString
import Derived.Test.YtdhfpgjnjlcciaaGreatDoorCards
import Derived.Test.YtdhfpgjnjlcciaaGreatDoorTie
import Derived.Test.YtdhfpgjnjlcciaaGreatDoorQ45







namespace Go.Proofs.YtdhfpgjnjlcciaaGreatDoor
open Go.ChangeShapes Go.WideShapes Go.ChangeAt Go.RowKit Go.Joins
open Go.ChangeMaps (open_string shut_string)
open Go.Proofs.YtdhfpgjnjlcciaaGreatDoor.Pk
open Go.Proofs.YtdhfpgjnjlcciaaGreatDoor.Co
set_option maxRecDepth 100000 in
theorem zho (os:Os) (started:os.Started) (H:Type) (enc:TypeId × Value→H) :
 ReturnsInHanded {} Tryz.checked os 6 .any (fun w args=>(Rows.controlMovesSpec.pre enc Tryz.prog Tryz.f6 [] false w args∧laidMetH Tryz.prog listed w)∧sizedMet enc Tryz.prog Tryz.f6 (OpenSpec.ofChange Rows.controlMovesSpec) false w args)
  (Rows.controlMovesSpec.post enc Tryz.prog Tryz.f6 false true false false):=by
 refine returnsInHanded_of_change_and (C:=Tryz.checked) (X:=fun w _=>laidMetH Tryz.prog listed w) (fun _ _ _ hh h=>h.of_heap hh) own started (by kernel_rfl) Tryz.func6
  (ChangeSpec.witness_shaped (enc:=enc) (C:=Tryz.checked) (os:=os) (X:=fun w _=>laidMetH Tryz.prog listed w) false (World.doorLaid Tryz.prog 400 os) #[.agg #[.string ⟨#[]⟩,.string ⟨#[]⟩],.agg #[.string ⟨#[]⟩,.string ⟨#[]⟩,.string ⟨#[]⟩,.string ⟨#[]⟩,.int .i64 0],.int .i32 0] 8 rfl (World.shaped_of_RefB (by kernel_rfl) (by kernel_rfl)) (by kernel_rfl) (by kernel_rfl) (by kernel_rfl) (vp os _)) ?_
 intro W base args ds gs before hval0 hW _ _ hL _
 have hval:∀ (j:Nat) t v,Tryz.f6.params[j]?=some t→args[j]?=some v→Value.okWide Tryz.prog W .any base t v:=hval0
 have hW':=hW
 obtain ⟨p,q,hA0,hV,rfl,hfz,hnd⟩:=hW
 have hA:DataW.TrodAll enc Tryz.prog W 0 (fun _=>true) true Tryz.f6.params.toList args.toList ds p:=hA0
 rw [Tryz.params6] at hA hval
 obtain ⟨v0,vs0,d0,ds0,p0,q0,hargs,rfl,rfl,h0,r0⟩:=trodAll_cons hA
 obtain ⟨v1,vs1,d1,ds1,p1,q1,rfl,rfl,rfl,h1,r1⟩:=trodAll_cons r0
 obtain ⟨v2,vs2,d2,ds2,p2,q2,rfl,rfl,rfl,h2,r2⟩:=trodAll_cons r1
 obtain ⟨rfl,rfl,rfl⟩:=trodAll_nil r2
 obtain rfl:args=#[v0,v1,v2]:=by cases args;simp_all
 obtain ⟨rfl,rfl⟩:=trodVars_none hV
 have k0:=h0
 have lt0:∀ x∈p0,x.block < W.heap.size:=by obtain ⟨m,hm⟩:=k0;exact DataW.trod_lt m _ _ _ hm
 obtain ⟨a0x,a0y,rfl,z0x,z0y⟩:=Co.Qb (hval 0 68 v0 rfl rfl) h0
 have k1:=h1
 have lt1:∀ x∈p1,x.block < W.heap.size:=by obtain ⟨m,hm⟩:=k1;exact DataW.trod_lt m _ _ _ hm
 obtain ⟨a1,rfl,z1⟩:=Fa.Jw (hval 1 24 v1 rfl rfl) h1
 obtain ⟨a2,rfl,rfl,rfl,wa2⟩:=open_int Tryz.underlying21 (hval 2 21 v2 rfl rfl) h2
 clear hA0 hval0
 refine (zgm a0x a0y a1 a2 W z0x z0y z1 (V3 wa2) (xH hL)).mono fun e W' ⟨he,bel⟩=>?_
 subst he
 exact ⟨_,rfl,_,_,_,[],_,[],hW',trodAll_mk1 (shut_bool Tryz.underlying4 _),(trodAll_cons_mk (Below.trod laidOut (by kernel_rfl) (of_decide_eq_true (by kernel_rfl)) k0 bel lt0) (trodAll_cons_mk (Below.trod laidOut (by kernel_rfl) (of_decide_eq_true (by kernel_rfl)) k1 bel lt1) (trodAll_cons_mk (shut_int Tryz.underlying21 wa2) trodAll_mk0))),rfl,bel.frame _,fun h=>by cases h⟩
theorem zhb:(Rows.controlMovesRow.inPlace==Tryz.checked.prog.inPlace 6)=true:=by kernel_rfl
theorem zaV:(Rows.controlMovesRow.unfollowed==Tryz.checked.prog.unfollowed 6)=true:=by kernel_rfl
theorem zgc:(Rows.controlMovesRow.recurses==Tryz.checked.prog.recurses 6)=true:=by kernel_rfl
theorem zi6:(Rows.controlMovesRow.named==Tryz.checked.prog.varsNamed 6)=true:=by kernel_rfl
theorem zcC:joinedFacts Tryz.checked.prog 6 Tryz.f6 Rows.controlMovesSpec Rows.controlMovesRow=true:=by
 unfold joinedFacts
 rw [zhb,zaV,zgc,zi6]
 kernel_rfl
theorem zit:Rows.ControlMovesSaid :=
 OpenClaim.holds_of_wide 6 Tryz.f6 rfl rfl rfl rfl rfl rfl rfl ⟨rfl,rfl,rfl,rfl,rfl⟩ rfl rfl rfl rfl rfl (by kernel_rfl) Tryz.func6 zcC
  (of_decide_eq_true (by kernel_rfl)) (by unfold Func.isWrapper;first | (rw [if_pos (by decide +kernel)];kernel_rfl) | (rw [if_neg (by decide +kernel)];exact ⟨rfl,rfl⟩))
  (fun os started H enc _=>zho os started H enc)
theorem controlMoves_holds:Rows.ControlMovesCardSaid :=
 Claim7.holds_tied_plain_at .later [] Rows.controlMovesCard.laidKinds true Rows.controlMovesCard.stood.harness Rows.controlMovesCard.stood.looks
  zit (fun _ h=>by cases h) (by kernel_rfl) (fun _ h=>by cases h) controlMoves_row_tie rfl ⟨rfl,rfl⟩ (by kernel_rfl) rfl
  (fun f fn hf hfn=>by
   obtain rfl:f=6:=Option.some.inj ((show Tryz.prog.funcNamed Rows.controlMovesRow.func=some 6 by kernel_rfl).symm.trans hf) |>.symm
   obtain rfl:fn=Tryz.f6:=(Option.some.inj (Tryz.func6.symm.trans hfn)).symm
   exact ⟨by kernel_rfl,fun j t ht=>by
    rw [Tryz.params6] at ht
    have hm:t∈[68,24,21]:=by simpa using Array.mem_of_getElem? ht
    have hall:([68,24,21].all fun u=>!Tryz.prog.wantsStandIn u)=true:=by kernel_rfl
    exact (show Tryz.prog.wantsStandIn t=false by simpa using List.all_eq_true.1 hall t hm)⟩)
  (by kernel_rfl)
end Go.Proofs.YtdhfpgjnjlcciaaGreatDoor
