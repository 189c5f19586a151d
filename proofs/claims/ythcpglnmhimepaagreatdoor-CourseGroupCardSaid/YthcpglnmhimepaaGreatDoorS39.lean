/- PkLaid LaidOpen -/
import Derived.Test.YthcpglnmhimepaaGreatDoorRows
import Derived.Test.YthcpglnmhimepaaGreatDoorS38
section
namespace Go.Proofs.YthcpglnmhimepaaGreatDoor.Pk
open Go.RowKit Go.Maps Go.Proofs.YthcpglnmhimepaaGreatDoor.Un
def LaidP (w:World):Prop:=Laid w∧Fl.Laid w∧LaidC w
theorem LaidP.keep {w w':World} (h:LaidP w) (hb:Below w.heap.size w w'):LaidP w':=⟨h.1.below hb (Nat.le_refl _),h.2.1.below hb (Nat.le_refl _),h.2.2.below hb⟩
def SmallPTold (b:Bool) (w:World) (en:Ending) (w':World):Prop:=∃ M c f e l,SmallM b M∧en=.returned (.tuple #[aggM c f e l M,.int .i64 0])∧MastIn w' c f e l M∧Below w.heap.size w w'
theorem parse_smallP (b:Bool) (s:ByteArray) (hs:s=mkB (textW (smallP b))) (w:World) (hl:LaidP w):Calls Tryz.prog 21 #[.string s] w (SmallPTold b w):=by
 subst hs
 obtain ⟨M,hM,hS⟩:=smallP_parse b
 have:=Un.parse_any (mkB (textW (smallP b))) w (by rw [mkB_size,textW_length];have:=smallP_size b;omega) hl.1 hl.2.1
 rw [hM] at this
 refine this.mono ?_
 rintro en w' ⟨v,rfl,⟨c,f,e,l,rfl,hm⟩,hb⟩
 exact ⟨M,c,f,e,l,hS,rfl,hm,hb⟩
end Go.Proofs.YthcpglnmhimepaaGreatDoor.Pk
end
section
namespace Go.Proofs.YthcpglnmhimepaaGreatDoor.Pk
open Go.ChangeShapes Go.WideShapes Go.ChangeAt Go.RowKit Go.Deep Go.Proofs.YthcpglnmhimepaaGreatDoor.Un
theorem own:ownKnob Tryz.prog.godebug=none:=by kernel_rfl
abbrev listed:List (String × DataW Unit):=Rows.courseTellsRow.laid
theorem door_met (os:Os) (args:Array Value):laidMetH Tryz.prog listed ((World.doorLaid Tryz.prog 400 os).forCall (fun _ _=>0) ⟨#[],args,[]⟩).memory :=
 laidMetH_of_parts3 (fuel:=8) (laidMet_of_run' 8 (by kernel_rfl) (by kernel_rfl)) (by kernel_rfl) (by kernel_rfl)
theorem pow_data:Rows.laid_internal_strconv_uint64pow10 (H:=Unit)=Lib.tabData .u64 Lib.pow10Tab:=by kernel_rfl
theorem tPow:(Tryz.prog.globals[3]?).map (·.type)=some 293:=by kernel_rfl
theorem tRng:(Tryz.prog.globals[5]?).map (·.type)=some 134:=by kernel_rfl
theorem cPow:Tryz.prog.cellsOf 293=20:=by kernel_rfl
theorem cU64:Tryz.prog.cellsOf 147=1:=by kernel_rfl
theorem cErrS:Tryz.prog.cellsOf 309=1:=by kernel_rfl
theorem star : "*" ++ "errors.errorString" = "*errors.errorString":=by decide
theorem rowErr (u:TypeId) (h:Tryz.prog.typeName? 3 u=some "*errors.errorString"):u=307 :=
 typeName_ptr_named (nm := "errors.errorString") (by rw [star];kernel_rfl) (by kernel_rfl) (by decide) u (by rw [star];exact h)
theorem gCls:Tryz.prog.globalNamed "comptroller/chart.classWords"=some 1:=by kernel_rfl
theorem tCls:(Tryz.prog.globals[1]?).map (·.type)=some 264:=by kernel_rfl
theorem cCls:Tryz.prog.cellsOf 264=3:=by kernel_rfl
theorem gKin:Tryz.prog.globalNamed "comptroller/flow.kindWords"=some 2:=by kernel_rfl
theorem tKin:(Tryz.prog.globals[2]?).map (·.type)=some 267:=by kernel_rfl
theorem cKin:Tryz.prog.cellsOf 267=5:=by kernel_rfl
theorem cStr:Tryz.prog.cellsOf 9=1:=by kernel_rfl
theorem of_laid {W:World} (h:laidMetH Tryz.prog listed W):LaidP W:=by
 rw [MakeChecks.laidMetH_plain _ _ _ (by kernel_rfl)] at h
 have hp:laidMet Tryz.prog (("internal/strconv.uint64pow10",Lib.tabData .u64 Lib.pow10Tab)::[("strconv.ErrRange",Rows.laid_strconv_ErrRange),("strconv.ErrSyntax",Rows.laid_strconv_ErrSyntax),("comptroller/chart.classWords",.agg ([[97,115,115,101,116],[108,105,97,98,105,108,105,116,121],[101,113,117,105,116,121]].map fun z=>.lit (.string z))),("comptroller/flow.kindWords",.agg ([[111,112,101,110],[109,111,118,101],[102,120],[115,99,111,112,101],[99,108,111,115,101]].map fun z=>.lit (.string z)))]) W:=by
  rw [←pow_data];exact h.tail.tail
 have h2:laidMet Tryz.prog [("comptroller/chart.classWords",.agg ([[97,115,115,101,116],[108,105,97,98,105,108,105,116,121],[101,113,117,105,116,121]].map fun z=>.lit (.string z))),("comptroller/flow.kindWords",.agg ([[111,112,101,110],[109,111,118,101],[102,120],[115,99,111,112,101],[99,108,111,115,101]].map fun z=>.lit (.string z)))] W:=h.tail.tail.tail.tail.tail
 have h3:=h2.tail
 refine ⟨?_,?_,?_⟩
 ·obtain ⟨ps,⟨g',t',cs,fuel,p,q,hg',ht',hvar,hd,_,_⟩,_⟩:=h2
  obtain rfl:=Option.some.inj (gCls.symm.trans hg')
  obtain rfl:=Option.some.inj (tCls.symm.trans ht')
  have hc:=cells_of_texts Tryz.underlying264 Tryz.underlying9 cStr cCls hd
  have hv:=World.var?_cell gCls hvar
  refine ⟨?_,?_,?_⟩
  ·rw [hv 0];show _=some (Value.string (mkB [97,115,115,101,116]));simpa using hc 0 _ rfl
  ·rw [hv 1];show _=some (Value.string (mkB [108,105,97,98,105,108,105,116,121]));simpa using hc 1 _ rfl
  ·rw [hv 2];show _=some (Value.string (mkB [101,113,117,105,116,121]));simpa using hc 2 _ rfl
 ·obtain ⟨ps,⟨g',t',cs,fuel,p,q,hg',ht',hvar,hd,_,_⟩,_⟩:=h3
  obtain rfl:=Option.some.inj (gKin.symm.trans hg')
  obtain rfl:=Option.some.inj (tKin.symm.trans ht')
  have hc:=cells_of_texts Tryz.underlying267 Tryz.underlying9 cStr cKin hd
  have hv:=World.var?_cell gKin hvar
  refine ⟨?_,?_,?_,?_,?_⟩
  ·rw [hv 0];show _=some (Value.string (mkB [111,112,101,110]));simpa using hc 0 _ rfl
  ·rw [hv 1];show _=some (Value.string (mkB [109,111,118,101]));simpa using hc 1 _ rfl
  ·rw [hv 2];show _=some (Value.string (mkB [102,120]));simpa using hc 2 _ rfl
  ·rw [hv 3];show _=some (Value.string (mkB [115,99,111,112,101]));simpa using hc 3 _ rfl
  ·rw [hv 4];show _=some (Value.string (mkB [99,108,111,115,101]));simpa using hc 4 _ rfl
 ·refine ⟨Lib.tabIs_of_head gPow tPow Tryz.underlying293 Tryz.underlying147 cU64 cPow hp,?_⟩
  obtain ⟨a0,s0,hv0,-,-,-⟩:=laid_sentinel hp.tail gRng tRng Tryz.underlying134 rowErr Tryz.underlying307 Tryz.underlying309 rfl rfl Tryz.underlying9 cErrS cStr
  exact ⟨_,_,hv0⟩
end Go.Proofs.YthcpglnmhimepaaGreatDoor.Pk
end
