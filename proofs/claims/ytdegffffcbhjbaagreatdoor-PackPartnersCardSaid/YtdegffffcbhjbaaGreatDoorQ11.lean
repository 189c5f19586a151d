/- PkAlive Open ElsOpen PkOpen -/
import Derived.Deep.Fields
import Derived.Deep.SlicePairs
import Derived.Deep.Slices
import Derived.Deep.Strs
import Derived.LaidMore
import Derived.OpenShut
import Derived.ProofKit
import Derived.Stop.Joined
import Derived.Stop.LaidErr
import Derived.Test.YtdegffffcbhjbaaGreatDoorRows
import Derived.Test.YtdegffffcbhjbaaGreatDoorQ10
section
namespace Go.Proofs.YtdegffffcbhjbaaGreatDoor.Pk
open Go.RowKit Go.Maps Go.Proofs.YtdegffffcbhjbaaGreatDoor.Un
def LaidP (w:World):Prop:=Laid w∧Fl.Laid w∧LaidC w
theorem LaidP.keep {w w':World} (h:LaidP w) (hb:Below w.heap.size w w'):LaidP w':=⟨h.1.below hb (Nat.le_refl _),h.2.1.below hb (Nat.le_refl _),h.2.2.below hb⟩
def SmallPTold (b:Bool) (w:World) (en:Ending) (w':World):Prop:=∃ M c f e l,SmallM b M∧en=.returned (.tuple #[aggM c f e l M,.int .i64 0])∧MastIn w' c f e l M∧Below w.heap.size w w'
theorem parse_smallP (b:Bool) (s:ByteArray) (hs:s=mkB (textW (smallP b))) (w:World) (hl:LaidP w):Calls Tryz.prog 25 #[.string s] w (SmallPTold b w):=by
 subst hs
 obtain ⟨M,hM,hS⟩:=smallP_parse b
 have:=Un.parse_any (mkB (textW (smallP b))) w (by rw [mkB_size,textW_length];have:=smallP_size b;omega) hl.1 hl.2.1
 rw [hM] at this
 refine this.mono ?_
 rintro en w' ⟨v,rfl,⟨c,f,e,l,rfl,hm⟩,hb⟩
 exact ⟨M,c,f,e,l,hS,rfl,hm,hb⟩
set_option maxRecDepth 100000 in
set_option maxHeartbeats 16000000 in
theorem alive11_any (w:World) (hl:LaidP w):Calls Tryz.prog 10 #[] w fun en w'=>en=.returned (.bool true)∧Below w.heap.size w w':=by
 have HL:=Lib.hid hl
 clear hl
 go_enter Tryz.func10,Tryz.ntmps10
 go_wp2_with fail
 refine (parse_smallP false _ (by kernel_rfl) _ HL.out).mono ?_
 rintro en w1 ⟨M,c,f,e,l,hS,rfl,hm,hb1⟩
 obtain ⟨pc,cc,pf,cf,pe,ce,pl,cl,rfl,rfl,rfl,rfl⟩:=shapes hm
 have HS:=Lib.hid hS
 have hb2:=(Below.refl w1.heap.size w1).alloc (Nat.le_refl _) (.cells (cellsM (.slice pc M.chart.length cc) (.slice pf M.flows.length cf) (.slice pe M.ents.length ce) (.slice pl M.lines.length cl) M) 30)
 have HB2:=Lib.hid (hb1.trans (hb2.mono hb1.size))
 have HM2:=Lib.hid (hm.keep hb2)
 have HN2:=Lib.hid (nine_new w1 (.slice pc M.chart.length cc) (.slice pf M.flows.length cf) (.slice pe M.ents.length ce) (.slice pl M.lines.length cl) M 30)
 have HL2:=Lib.hid (HL.out.keep HB2.out)
 have HP1:=Lib.hid (fun W h hL=>by
  have:=pparse_any (.slice pc M.chart.length cc) (.slice pf M.flows.length cf) (.slice pe M.ents.length ce) (.slice pl M.lines.length cl) M aliveT W h hS.sane hL (by decide)
  rw [alive_parse hS] at this
  exact this)
 have HP2:=Lib.hid (fun W h hL=>by
  have:=pparse_any (.slice pc M.chart.length cc) (.slice pf M.flows.length cf) (.slice pe M.ents.length ce) (.slice pl M.lines.length cl) M noneT W h hS.sane hL (by decide)
  rw [none_parse hS] at this
  exact this)
 have HP3:=Lib.hid (fun W h hL=>by
  have:=pparse_any (.slice pc M.chart.length cc) (.slice pf M.flows.length cf) (.slice pe M.ents.length ce) (.slice pl M.lines.length cl) M loneT W h hS.sane hL (by decide)
  rw [lone_parse M] at this
  exact this)
 have HCK:=Lib.hid (fun W h=>by
  have:=check_any (.slice pc M.chart.length cc) (.slice pf M.flows.length cf) (.slice pe M.ents.length ce) (.slice pl M.lines.length cl) M ⟨⟨xE1,xa,xF8,emp,0⟩,0⟩ W h (Fl.rise_codes hS.sane.fl) (by have:=hS.sane.lf;omega)
  rw [show checkE M (⟨⟨xE1,xa,xF8,emp,0⟩,0⟩:Fa.Fact).key=8 by show checkE M ⟨xE1,xa,xF8,emp,0⟩=8;rw [hS.check hS.e1 hS.f8];rfl] at this
  exact this)
 clear hm hb1 hb2 hS
 obtain ⟨k0,k1,k2,k3,k4,k5,k6,k7,k8⟩:=HN2.out
 go_wp2_with fail
 clear k0 k1 k2 k3 k4 k5 k6 k7 k8
 refine (HP1.out _ HM2.out HL2.out.2.2).mono ?_
 rintro en w3 ⟨u3,rfl,hf3,hb3⟩
 have HB3:=Lib.hid (HB2.out.trans (hb3.mono HB2.out.size))
 have HM3:=Lib.hid (HM2.out.keep hb3)
 have HN3:=Lib.hid (HN2.out.kept hb3)
 have HL3:=Lib.hid (HL2.out.keep hb3)
 have HF3:=Lib.hid hf3
 clear hb3 hf3 HB2 HM2 HN2 HL2
 obtain ⟨k0,k1,k2,k3,k4,k5,k6,k7,k8⟩:=HN3.out
 go_wp2_with fail
 clear k0 k1 k2 k3 k4 k5 k6 k7 k8
 refine (HP2.out _ HM3.out HL3.out.2.2).mono ?_
 rintro en w4 ⟨u4,rfl,hf4,hb4⟩
 have HB4:=Lib.hid (HB3.out.trans (hb4.mono HB3.out.size))
 have HM4:=Lib.hid (HM3.out.keep hb4)
 have HN4:=Lib.hid (HN3.out.kept hb4)
 have HL4:=Lib.hid (HL3.out.keep hb4)
 have HF4:=Lib.hid (ElsV.keep HF3.out hb4)
 clear hb4 hf4 HB3 HM3 HN3 HL3 HF3
 obtain ⟨k0,k1,k2,k3,k4,k5,k6,k7,k8⟩:=HN4.out
 go_wp2_with fail
 clear k0 k1 k2 k3 k4 k5 k6 k7 k8
 refine (HP3.out _ HM4.out HL4.out.2.2).mono ?_
 rintro en w5 ⟨u5,rfl,hf5,hb5⟩
 have hb6:=hb5.alloc hb5.size (.cells #[.string ⟨#[69,49]⟩,.string ⟨#[97]⟩,.string ⟨#[70,56]⟩,.string ⟨#[]⟩,.int .i64 0] 56)
 have HB6:=Lib.hid (HB4.out.trans (hb6.mono HB4.out.size))
 have HM6:=Lib.hid (HM4.out.keep hb6)
 have HN6:=Lib.hid (HN4.out.kept hb6)
 have HF6:=Lib.hid (ElsV.keep HF4.out hb6)
 obtain ⟨y0,y1,y2,y3,y4⟩:=Fa.key5 (el_new Fa.encK w5 (⟨⟨#[69,49]⟩,⟨#[97]⟩,⟨#[70,56]⟩,⟨#[]⟩,0⟩:Fa.Key) 56)
 simp only [Nat.zero_add] at y0 y1 y2 y3 y4
 clear hb5 hf5 hb6 HB4 HM4 HN4 HL4 HF4
 obtain ⟨k0,k1,k2,k3,k4,k5,k6,k7,k8⟩:=HN6.out
 obtain ⟨p6,c6,rfl,hcap,hmx,_,hc⟩:=HF6.out
 obtain ⟨b,o,rfl,hat⟩:=hc 0 _ rfl
 obtain ⟨b',o',e1,hat'⟩:=hc 1 _ rfl
 cases e1
 obtain ⟨f0,f1,f2,f3,f4,f5⟩:=Fa.fact6 hat
 obtain ⟨g0,g1,g2,g3,g4,g5⟩:=Fa.fact6 hat'
 simp only [show Fa.encF.k=6 from rfl,Nat.zero_mul,Nat.one_mul,Nat.add_zero] at f0 f1 f2 f3 f4 f5 g0 g1 g2 g3 g4 g5
 have hlen:aliveC.length=2:=rfl
 simp only [hlen] at hcap hmx ⊢
 clear hc hat hat'
 go_wp2_with fail
 clear k0 k1 k2 k3 k4 k5 k6 k7 k8 y0 y1 y2 y3 y4 f0 f1 f2 f3 f4 f5 g0 g1 g2 g3 g4 g5
 refine (HCK.out _ HM6.out).mono ?_
 rintro en w7 ⟨rfl,hb7⟩
 have HB7:=Lib.hid (HB6.out.trans (hb7.mono HB6.out.size))
 clear hb7
 go_wp2
 go_ret
 exact ⟨rfl,HB7.out⟩
end Go.Proofs.YtdegffffcbhjbaaGreatDoor.Pk
end
section
namespace Go.Proofs.YtdegffffcbhjbaaGreatDoor
open Go.ChangeShapes Go.WideShapes Go.ChangeAt Go.RowKit
theorem laidOut:laidOutB Tryz.prog=true:=by kernel_rfl
end Go.Proofs.YtdegffffcbhjbaaGreatDoor
end
section
namespace Go.Proofs.YtdegffffcbhjbaaGreatDoor
open Go.ChangeShapes Go.WideShapes Go.ChangeAt Go.RowKit Go.Deep
section
variable {H:Type} {enc:TypeId × Value→H} {P:Program} {W:World} {base:Nat} {sp:Nat→Bool} {held:Bool}
end
theorem cells_of_texts {H:Type} {enc:TypeId × Value→H} {P:Program} {w:World} {base:Nat} {sp:Nat→Bool} {held:Bool} {fuel:Nat} {t e:TypeId} {n:Nat} {cs:List Value} {zs:List (List UInt8)} {p:List MemPlace}
 (ht:P.underlying t=some (.array n e)) (he:P.underlying e=some .string) (hce:P.cellsOf e=1) (hct:P.cellsOf t=n)
 (h:DataW.trod enc P w base sp held fuel t cs=some (.agg (zs.map fun z=>.lit (.string z)),p)):∀ (i:Nat) z,zs[i]?=some z→cs[i]?=some (.string (mkB z)):=by
 cases fuel with
 | zero=>simp [DataW.trod] at h
 | succ fuel =>
   simp only [DataW.trod,ht,hce,hct,Nat.mul_one] at h
   split at h
   ·obtain ⟨xs,hm,hx⟩:=Option.map_eq_some_iff.1 h
    have hxs:xs.map (·.1)=zs.map fun z=>(DataW.lit (.string z):DataW H):=by simpa using congrArg Prod.fst hx
    have hxl:xs.length=n:=by simpa using Lib.mapM_length hm
    have hzl:zs.length=n:=by
     have:=congrArg List.length hxs
     simp at this
     omega
    intro i z hz
    have hi:i < n:=by rw [←hzl];exact (List.getElem?_eq_some_iff.1 hz).1
    obtain ⟨b,hb,hf⟩:=Lib.mapM_at hm i i (by simp [hi])
    obtain ⟨s,hc,rfl,_⟩:=DataW.trod_string he hf
    have h1:cs[i]?=some (.string s):=by
     have:=congrArg (·[0]?) hc
     simpa [List.getElem?_take,List.getElem?_drop] using this
    have h2:(xs.map (·.1))[i]?=some (DataW.lit (.string s.data.toList):DataW H):=by simp [hb]
    rw [hxs] at h2
    simp only [List.getElem?_map,hz,Option.map_some,Option.some.injEq,DataW.lit.injEq,Lit.string.injEq] at h2
    rw [h1,h2,mkB_list]
   ·cases h
end Go.Proofs.YtdegffffcbhjbaaGreatDoor
end
section
namespace Go.Proofs.YtdegffffcbhjbaaGreatDoor.Pk
open Go.ChangeShapes Go.WideShapes Go.ChangeAt Go.RowKit Go.Deep Go.Proofs.YtdegffffcbhjbaaGreatDoor.Un
theorem own:ownKnob Tryz.prog.godebug=none:=by kernel_rfl
abbrev listed:List (String × DataW Unit):=Rows.packTellsRow.laid
theorem door_met (os:Os) (args:Array Value):laidMetH Tryz.prog listed ((World.doorLaid Tryz.prog 400 os).forCall (fun _ _=>0) ⟨#[],args,[]⟩).memory :=
 laidMetH_of_parts3 (fuel:=8) (laidMet_of_run' 8 (by kernel_rfl) (by kernel_rfl)) (by kernel_rfl) (by kernel_rfl)
theorem pow_data:Rows.laid_internal_strconv_uint64pow10 (H:=Unit)=Lib.tabData .u64 Lib.pow10Tab:=by kernel_rfl
theorem tPow:(Tryz.prog.globals[5]?).map (·.type)=some 302:=by kernel_rfl
theorem tRng:(Tryz.prog.globals[4]?).map (·.type)=some 254:=by kernel_rfl
theorem cPow:Tryz.prog.cellsOf 302=20:=by kernel_rfl
theorem cU64:Tryz.prog.cellsOf 276=1:=by kernel_rfl
theorem cErrS:Tryz.prog.cellsOf 294=1:=by kernel_rfl
theorem star : "*" ++ "errors.errorString" = "*errors.errorString":=by decide
theorem rowErr (u:TypeId) (h:Tryz.prog.typeName? 3 u=some "*errors.errorString"):u=292 :=
 typeName_ptr_named (nm := "errors.errorString") (by rw [star];kernel_rfl) (by kernel_rfl) (by decide) u (by rw [star];exact h)
theorem gCls:Tryz.prog.globalNamed "comptroller/chart.classWords"=some 1:=by kernel_rfl
theorem tCls:(Tryz.prog.globals[1]?).map (·.type)=some 259:=by kernel_rfl
theorem cCls:Tryz.prog.cellsOf 259=3:=by kernel_rfl
theorem gKin:Tryz.prog.globalNamed "comptroller/flow.kindWords"=some 2:=by kernel_rfl
theorem tKin:(Tryz.prog.globals[2]?).map (·.type)=some 262:=by kernel_rfl
theorem cKin:Tryz.prog.cellsOf 262=5:=by kernel_rfl
theorem cStr:Tryz.prog.cellsOf 9=1:=by kernel_rfl
theorem of_laid {W:World} (h:laidMetH Tryz.prog listed W):LaidP W:=by
 rw [MakeChecks.laidMetH_plain _ _ _ (by kernel_rfl)] at h
 have hp:laidMet Tryz.prog (("internal/strconv.uint64pow10",Lib.tabData .u64 Lib.pow10Tab)::[("strconv.ErrRange",Rows.laid_strconv_ErrRange),("strconv.ErrSyntax",Rows.laid_strconv_ErrSyntax),("comptroller/chart.classWords",.agg ([[97,115,115,101,116],[108,105,97,98,105,108,105,116,121],[101,113,117,105,116,121]].map fun z=>.lit (.string z))),("comptroller/flow.kindWords",.agg ([[111,112,101,110],[109,111,118,101],[102,120],[115,99,111,112,101],[99,108,111,115,101]].map fun z=>.lit (.string z)))]) W:=by
  rw [←pow_data];exact h.tail.tail
 have h2:laidMet Tryz.prog [("comptroller/chart.classWords",.agg ([[97,115,115,101,116],[108,105,97,98,105,108,105,116,121],[101,113,117,105,116,121]].map fun z=>.lit (.string z))),("comptroller/flow.kindWords",.agg ([[111,112,101,110],[109,111,118,101],[102,120],[115,99,111,112,101],[99,108,111,115,101]].map fun z=>.lit (.string z)))] W:=h.tail.tail.tail.tail.tail
 have h3:=h2.tail
 refine ⟨?_,?_,?_⟩
 ·obtain ⟨ps,⟨g',t',cs,fuel,p,q,hg',ht',hvar,hd,_,_⟩,_⟩:=h2
  obtain rfl:=Option.some.inj (gCls.symm.trans hg')
  obtain rfl:=Option.some.inj (tCls.symm.trans ht')
  have hc:=cells_of_texts Tryz.underlying259 Tryz.underlying9 cStr cCls hd
  have hv:=World.var?_cell gCls hvar
  refine ⟨?_,?_,?_⟩
  ·rw [hv 0];show _=some (Value.string (mkB [97,115,115,101,116]));simpa using hc 0 _ rfl
  ·rw [hv 1];show _=some (Value.string (mkB [108,105,97,98,105,108,105,116,121]));simpa using hc 1 _ rfl
  ·rw [hv 2];show _=some (Value.string (mkB [101,113,117,105,116,121]));simpa using hc 2 _ rfl
 ·obtain ⟨ps,⟨g',t',cs,fuel,p,q,hg',ht',hvar,hd,_,_⟩,_⟩:=h3
  obtain rfl:=Option.some.inj (gKin.symm.trans hg')
  obtain rfl:=Option.some.inj (tKin.symm.trans ht')
  have hc:=cells_of_texts Tryz.underlying262 Tryz.underlying9 cStr cKin hd
  have hv:=World.var?_cell gKin hvar
  refine ⟨?_,?_,?_,?_,?_⟩
  ·rw [hv 0];show _=some (Value.string (mkB [111,112,101,110]));simpa using hc 0 _ rfl
  ·rw [hv 1];show _=some (Value.string (mkB [109,111,118,101]));simpa using hc 1 _ rfl
  ·rw [hv 2];show _=some (Value.string (mkB [102,120]));simpa using hc 2 _ rfl
  ·rw [hv 3];show _=some (Value.string (mkB [115,99,111,112,101]));simpa using hc 3 _ rfl
  ·rw [hv 4];show _=some (Value.string (mkB [99,108,111,115,101]));simpa using hc 4 _ rfl
 ·refine ⟨Lib.tabIs_of_head gPow tPow Tryz.underlying302 Tryz.underlying276 cU64 cPow hp,?_⟩
  obtain ⟨a0,s0,hv0,-,-,-⟩:=laid_sentinel hp.tail gRng tRng Tryz.underlying254 rowErr Tryz.underlying292 Tryz.underlying294 rfl rfl Tryz.underlying9 cErrS cStr
  exact ⟨_,_,hv0⟩
set_option maxRecDepth 100000
section
variable {H:Type} {enc:TypeId × Value→H} {W:World} {base:Nat} {sp:Nat→Bool} {held:Bool}
end
end Go.Proofs.YtdegffffcbhjbaaGreatDoor.Pk
end
