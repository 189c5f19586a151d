/- PkOpen CoPlain CoMem -/
import Derived.Test.YtdhfpgjnjlcciaaGreatDoorRows
import Derived.Test.YtdhfpgjnjlcciaaGreatDoorQ27
section
namespace Go.Proofs.YtdhfpgjnjlcciaaGreatDoor.Pk
open Go.ChangeShapes Go.WideShapes Go.ChangeAt Go.RowKit Go.Deep Go.Proofs.YtdhfpgjnjlcciaaGreatDoor.Un
theorem own:ownKnob Tryz.prog.godebug=none:=by kernel_rfl
abbrev listed:List (String × DataW Unit):=Rows.controlTellsRow.laid
theorem vp (os:Os) (args:Array Value):laidMetH Tryz.prog listed ((World.doorLaid Tryz.prog 400 os).forCall (fun _ _=>0) ⟨#[],args,[]⟩).memory :=
 laidMetH_of_parts3 (fuel:=8) (laidMet_of_run' 8 (by kernel_rfl) (by kernel_rfl)) (by kernel_rfl) (by kernel_rfl)
theorem zgO:Rows.laid_internal_strconv_uint64pow10 (H:=Unit)=Lib.tabData .u64 Lib.pow10Tab:=by kernel_rfl
theorem tPow:(Tryz.prog.globals[5]?).map (·.type)=some 348:=by kernel_rfl
theorem tRng:(Tryz.prog.globals[4]?).map (·.type)=some 297:=by kernel_rfl
theorem cPow:Tryz.prog.cellsOf 348=20:=by kernel_rfl
theorem cU64:Tryz.prog.cellsOf 265=1:=by kernel_rfl
theorem cErrS:Tryz.prog.cellsOf 341=1:=by kernel_rfl
theorem star : "*" ++ "errors.errorString" = "*errors.errorString":=by decide
theorem rowErr (u:TypeId) (h:Tryz.prog.typeName? 3 u=some "*errors.errorString"):u=339 :=
 typeName_ptr_named (nm := "errors.errorString") (by rw [star];kernel_rfl) (by kernel_rfl) (by decide) u (by rw [star];exact h)
theorem gCls:Tryz.prog.globalNamed "comptroller/chart.classWords"=some 1:=by kernel_rfl
theorem tCls:(Tryz.prog.globals[1]?).map (·.type)=some 303:=by kernel_rfl
theorem cCls:Tryz.prog.cellsOf 303=3:=by kernel_rfl
theorem gKin:Tryz.prog.globalNamed "comptroller/flow.kindWords"=some 2:=by kernel_rfl
theorem tKin:(Tryz.prog.globals[2]?).map (·.type)=some 306:=by kernel_rfl
theorem cKin:Tryz.prog.cellsOf 306=5:=by kernel_rfl
theorem cStr:Tryz.prog.cellsOf 9=1:=by kernel_rfl
theorem xH {W:World} (h:laidMetH Tryz.prog listed W):LaidP W:=by
 rw [MakeChecks.laidMetH_plain _ _ _ (by kernel_rfl)] at h
 have hp:laidMet Tryz.prog (("internal/strconv.uint64pow10",Lib.tabData .u64 Lib.pow10Tab)::[("strconv.ErrRange",Rows.laid_strconv_ErrRange),("strconv.ErrSyntax",Rows.laid_strconv_ErrSyntax),("comptroller/chart.classWords",.agg ([[97,115,115,101,116],[108,105,97,98,105,108,105,116,121],[101,113,117,105,116,121]].map fun z=>.lit (.string z))),("comptroller/flow.kindWords",.agg ([[111,112,101,110],[109,111,118,101],[102,120],[115,99,111,112,101],[99,108,111,115,101]].map fun z=>.lit (.string z)))]) W:=by
  rw [←zgO];exact h.tail.tail
 have h2:laidMet Tryz.prog [("comptroller/chart.classWords",.agg ([[97,115,115,101,116],[108,105,97,98,105,108,105,116,121],[101,113,117,105,116,121]].map fun z=>.lit (.string z))),("comptroller/flow.kindWords",.agg ([[111,112,101,110],[109,111,118,101],[102,120],[115,99,111,112,101],[99,108,111,115,101]].map fun z=>.lit (.string z)))] W:=h.tail.tail.tail.tail.tail
 have h3:=h2.tail
 refine ⟨?_,?_,?_⟩
 ·obtain ⟨ps,⟨g',t',cs,fuel,p,q,hg',ht',hvar,hd,_,_⟩,_⟩:=h2
  obtain rfl:=Option.some.inj (gCls.symm.trans hg')
  obtain rfl:=Option.some.inj (tCls.symm.trans ht')
  have hc:=XG Tryz.underlying303 Tryz.underlying9 cStr cCls hd
  have hv:=World.var?_cell gCls hvar
  refine ⟨?_,?_,?_⟩
  ·rw [hv 0];show _=some (Value.string (mkB [97,115,115,101,116]));simpa using hc 0 _ rfl
  ·rw [hv 1];show _=some (Value.string (mkB [108,105,97,98,105,108,105,116,121]));simpa using hc 1 _ rfl
  ·rw [hv 2];show _=some (Value.string (mkB [101,113,117,105,116,121]));simpa using hc 2 _ rfl
 ·obtain ⟨ps,⟨g',t',cs,fuel,p,q,hg',ht',hvar,hd,_,_⟩,_⟩:=h3
  obtain rfl:=Option.some.inj (gKin.symm.trans hg')
  obtain rfl:=Option.some.inj (tKin.symm.trans ht')
  have hc:=XG Tryz.underlying306 Tryz.underlying9 cStr cKin hd
  have hv:=World.var?_cell gKin hvar
  refine ⟨?_,?_,?_,?_,?_⟩
  ·rw [hv 0];show _=some (Value.string (mkB [111,112,101,110]));simpa using hc 0 _ rfl
  ·rw [hv 1];show _=some (Value.string (mkB [109,111,118,101]));simpa using hc 1 _ rfl
  ·rw [hv 2];show _=some (Value.string (mkB [102,120]));simpa using hc 2 _ rfl
  ·rw [hv 3];show _=some (Value.string (mkB [115,99,111,112,101]));simpa using hc 3 _ rfl
  ·rw [hv 4];show _=some (Value.string (mkB [99,108,111,115,101]));simpa using hc 4 _ rfl
 ·refine ⟨Lib.tabIs_of_head gPow tPow Tryz.underlying348 Tryz.underlying265 cU64 cPow hp,?_⟩
  obtain ⟨a0,s0,hv0,-,-,-⟩:=laid_sentinel hp.tail gRng tRng Tryz.underlying297 rowErr Tryz.underlying339 Tryz.underlying341 rfl rfl Tryz.underlying9 cErrS cStr
  exact ⟨_,_,hv0⟩
set_option maxRecDepth 100000
section
variable {H:Type} {enc:TypeId × Value→H} {W:World} {base:Nat} {sp:Nat→Bool} {held:Bool}
end
end Go.Proofs.YtdhfpgjnjlcciaaGreatDoor.Pk
end
section
namespace Go.Proofs.YtdhfpgjnjlcciaaGreatDoor.Co
open Go.RowKit Go.Proofs.YtdhfpgjnjlcciaaGreatDoor.Un Go.Proofs.YtdhfpgjnjlcciaaGreatDoor.Fa Go.Proofs.YtdhfpgjnjlcciaaGreatDoor.Pk
def cnt (M:Mast) (k:Key):Bool:=hasA M.chart k.a && hasFl M k.f
def clsF (M:Mast) (c:ByteArray):Int:=((findL M.chart c).getD zeroA).cls
def plc (k:Key):Key:=⟨k.e,k.a,emp,k.p,0⟩
def stp (n:Int) (s:Bool) (x:Int):Int:=if s=true then n+x else n - x
def walkS (n:Int):List (Bool × Int)→Int × Int
 | []=>(n,0)
 | (s,x)::r=>if fit (stp n s x)=true then walkS (stp n s x) r else (0,2)
theorem qW {n x:Int} {s:Bool} (r:List (Bool × Int)) (h:fit (stp n s x)=true):walkS n ((s,x)::r)=walkS (stp n s x) r:=by rw [walkS,if_pos h]
theorem jq {n x:Int} {s:Bool} (r:List (Bool × Int)) (h:fit (stp n s x)=false):walkS n ((s,x)::r)=(0,2):=by rw [walkS,if_neg (by rw [h];simp)]
def inGap (M:Mast) (p k:Key):Bool:=cnt M k && decide (plc k=p)
def gapL (M:Mast) (c:List Fact) (p:Key):List (Bool × Int):=(c.filter fun f=>inGap M p f.key).map fun f=>(decide (kindF M f.key.f=4),f.amt)
def gapP (M:Mast) (c:List Fact) (p:Key):Int × Int:=walkS 0 (gapL M c p)
def ql (M:Mast) (e:ByteArray) (n:Int) (k:Key):Bool:=cnt M k && decide (kindF M k.f=n) && (decide (e=emp) || decide (k.e=e))
def weighL (M:Mast) (c:List Fact) (e:ByteArray) (n:Int):List (Bool × Int):=(c.filter fun f=>ql M e n f.key).map fun f=>(decide (clsF M f.key.a=0),f.amt)
def weighP (M:Mast) (c:List Fact) (e:ByteArray) (n:Int):Int × Int:=walkS 0 (weighL M c e n)
def places (c:List Fact):List Key:=keysL (c.map fun f=>⟨plc f.key,0⟩)
def balP (M:Mast) (c:List Fact) (e:ByteArray):Int :=
 if (weighP M c e 0).2≠0 then (weighP M c e 0).2 else if (weighP M c e 0).1≠0 then 9
 else if (weighP M c e 4).2≠0 then (weighP M c e 4).2 else if (weighP M c e 4).1≠0 then 9 else 0
def zB (M:Mast) (c:List Fact):List Key→Int
 | []=>0
 | p::r =>
   if (gapP M c p).2≠0 then (gapP M c p).2 else if (gapP M c p).1≠0 then 8
   else if r.head?.map Key.e=some p.e then zB M c r
   else if balP M c p.e≠0 then balP M c p.e else zB M c r
def moveF (M:Mast):Option ByteArray:=(Fl.ofF M.flows 1).head?
def fixF (mv:ByteArray) (p:Key) (n:Int):Fact:=⟨⟨p.e,p.a,mv,p.p,1⟩,n⟩
def fixGo (M:Mast) (c:List Fact) (lim:Int):List Key→List Fact × Int
 | []=>([],0)
 | p::r =>
   if (gapP M c p).2≠0 then ([],(gapP M c p).2)
   else if (gapP M c p).1=0 then fixGo M c lim r
   else if lim < (gapP M c p).1∨(gapP M c p).1 < -lim∨moveF M=none then ([],8)
   else if (fixGo M c lim r).2=0 then (fixF ((moveF M).getD emp) p (gapP M c p).1::(fixGo M c lim r).1,0) else ([],(fixGo M c lim r).2)
theorem zaA:∀ (l:List (Bool × Int)) (n:Int),fit n=true→fit (walkS n l).1=true
 | [],n,h=>h
 | (s,x)::r,n,h=>by
   cases hf:fit (stp n s x) with
   | false=>rw [jq r hf];decide
   | true=>rw [qW r hf];exact zaA r _ hf
def lin (g:Key→Int) (l:List Fact):Int:=(l.map fun f=>g f.key * f.amt).sum
theorem vm {c:List Fact} {p:Key}:p∈places c ↔ ∃ f∈c,plc f.key=p:=by
 unfold places
 rw [mem_keys]
 constructor
 ·rintro ⟨f,hf,e⟩
  obtain ⟨x,hx,rfl⟩:=List.mem_map.1 hf
  exact ⟨x,hx,e⟩
 ·rintro ⟨f,hf,e⟩
  exact ⟨_,List.mem_map.2 ⟨f,hf,rfl⟩,e⟩
theorem vY {c:List Fact} {p:Key} (h:p∈places c):plc p=p:=by
 obtain ⟨f,_,e⟩:=vm.1 h
 rw [←e];rfl
end Go.Proofs.YtdhfpgjnjlcciaaGreatDoor.Co
end
section
namespace Go.Proofs.YtdhfpgjnjlcciaaGreatDoor.Co
open Go.RowKit Go.Proofs.YtdhfpgjnjlcciaaGreatDoor.Un Go.Proofs.YtdhfpgjnjlcciaaGreatDoor.Fa Go.Proofs.YtdhfpgjnjlcciaaGreatDoor.Pk
structure CF where
 f:Fact
 k:Int
 c:Int
def encC:Enc CF where
 cs x:=[.string x.f.key.e,.string x.f.key.a,.string x.f.key.f,.string x.f.key.p,.int .i64 x.f.key.m,.int .i64 x.f.amt,.int .i64 x.k,.int .i64 x.c]
 k:=8
 len _:=rfl
 pos:=by decide
 one:=by intro k v hv;simp at hv;rcases hv with rfl | rfl | rfl | rfl | rfl | rfl | rfl | rfl <;> rfl
abbrev aggC (x:CF):Value:=.agg #[.string x.f.key.e,.string x.f.key.a,.string x.f.key.f,.string x.f.key.p,.int .i64 x.f.key.m,.int .i64 x.f.amt,.int .i64 x.k,.int .i64 x.c]
def encP:Enc Key where
 cs k:=[.string k.e,.string k.a,.string k.p]
 k:=3
 len _:=rfl
 pos:=by decide
 one:=by intro k v hv;simp at hv;rcases hv with rfl | rfl | rfl <;> rfl
abbrev aggP (k:Key):Value:=.agg #[.string k.e,.string k.a,.string k.p]
abbrev jM (w:World) (v:Value) (L:List Key):Prop:=ElsV encP w v L
theorem place3 {w:World} {b o:Nat} {k:Key} (h:ElAt encP w b o k):w.cell? ⟨b,o,none⟩=some (.string k.e)∧w.cell? ⟨b,o+1,none⟩=some (.string k.a)∧w.cell? ⟨b,o+2,none⟩=some (.string k.p):=⟨h 0 _ rfl,h 1 _ rfl,h 2 _ rfl⟩
theorem cf8 {w:World} {b o:Nat} {x:CF} (h:ElAt encC w b o x):w.cell? ⟨b,o,none⟩=some (.string x.f.key.e)∧w.cell? ⟨b,o+1,none⟩=some (.string x.f.key.a)∧w.cell? ⟨b,o+2,none⟩=some (.string x.f.key.f)∧w.cell? ⟨b,o+3,none⟩=some (.string x.f.key.p)∧w.cell? ⟨b,o+4,none⟩=some (.int .i64 x.f.key.m)∧w.cell? ⟨b,o+5,none⟩=some (.int .i64 x.f.amt)∧w.cell? ⟨b,o+6,none⟩=some (.int .i64 x.k)∧w.cell? ⟨b,o+7,none⟩=some (.int .i64 x.c):=⟨h 0 _ rfl,h 1 _ rfl,h 2 _ rfl,h 3 _ rfl,h 4 _ rfl,h 5 _ rfl,h 6 _ rfl,h 7 _ rfl⟩
def zeroK:Key:=⟨⟨#[]⟩,⟨#[]⟩,⟨#[]⟩,⟨#[]⟩,0⟩
def zeroF6:Fact:=⟨zeroK,0⟩
def zeroC:CF:=⟨zeroF6,0,0⟩
set_option maxRecDepth 100000 in
set_option maxHeartbeats 1000000 in
theorem Jn (k:Key) (w:World):Calls Tryz.prog 32 #[aggK k] w fun e w'=>e=.returned (aggP k)∧Below w.heap.size w w':=by
 have hb1:=(Below.refl w.heap.size w).alloc (Nat.le_refl _) (.cells #[.string k.e,.string k.a,.string k.f,.string k.p,.int .i64 k.m] 74)
 have HB:=Lib.hid (hb1.alloc hb1.size (.cells #[.string k.e,.string k.a,.string k.p] 91))
 have e3:=place3 ((BoxE.new encP (w.alloc (.cells #[.string k.e,.string k.a,.string k.f,.string k.p,.int .i64 k.m] 74)) k 91).at0)
 obtain ⟨e0,e1,e2⟩:=e3
 rw [World.size_alloc] at e0 e1 e2
 simp only [Nat.zero_add] at e0 e1 e2
 clear hb1
 have E0:=Lib.hid e0
 have E1:=Lib.hid e1
 have E2:=Lib.hid e2
 clear e0 e1 e2
 go_enter Tryz.func32,Tryz.ntmps32
 go_wp2
 exact bodyPost_ret (v:=aggP k) (by
  have e0:=E0.out
  have e1:=E1.out
  have e2:=E2.out
  simp only [encP] at e0 e1 e2
  simp [results,Tryz.results32,go_sem,e0,e1,e2]) rfl ⟨rfl,HB.out⟩
set_option maxRecDepth 100000 in
set_option maxHeartbeats 1000000 in
theorem zbO (x:CF) (w:World):Calls Tryz.prog 35 #[aggC x] w fun e w'=>e=.returned (.bool (x.k==4))∧Below w.heap.size w w':=by
 have HB:=Lib.hid ((Below.refl w.heap.size w).alloc (Nat.le_refl _) (.cells #[.string x.f.key.e,.string x.f.key.a,.string x.f.key.f,.string x.f.key.p,.int .i64 x.f.key.m,.int .i64 x.f.amt,.int .i64 x.k,.int .i64 x.c] 100))
 go_enter Tryz.func35,Tryz.ntmps35
 go_wp2
 go_ret
 exact ⟨rfl,HB.out⟩
set_option maxRecDepth 100000 in
set_option maxHeartbeats 1000000 in
theorem zcf (x:CF) (w:World):Calls Tryz.prog 43 #[aggC x] w fun e w'=>e=.returned (.bool (x.c==0))∧Below w.heap.size w w':=by
 have HB:=Lib.hid ((Below.refl w.heap.size w).alloc (Nat.le_refl _) (.cells #[.string x.f.key.e,.string x.f.key.a,.string x.f.key.f,.string x.f.key.p,.int .i64 x.f.key.m,.int .i64 x.f.amt,.int .i64 x.k,.int .i64 x.c] 100))
 go_enter Tryz.func43,Tryz.ntmps43
 go_wp2
 go_ret
 exact ⟨rfl,HB.out⟩
def cfOf (M:Mast) (f:Fact):CF:=⟨f,kindF M f.key.f,clsF M f.key.a⟩
set_option maxRecDepth 100000 in
set_option maxHeartbeats 8000000 in
theorem zcd (c f e l:Value) (M:Mast) (x:Fact) (w:World) (h:MastIn w c f e l M) (hr:riseK Fl.Flow.code M.flows=true) (hlf:M.flows.length≤1000) :
 Calls Tryz.prog 68 #[aggM c f e l M,Fa.aggF x] w fun en w'=>en=.returned (.tuple #[if cnt M x.key=true then aggC (cfOf M x) else aggC zeroC,.bool (cnt M x.key)])∧Below w.heap.size w w':=by
 obtain ⟨pc,cc,pf,cf,pe,ce,pl,cl,rfl,rfl,rfl,rfl⟩:=shapes h
 have hb1:=(Below.refl w.heap.size w).alloc (Nat.le_refl _) (.cells (cellsM (.slice pc M.chart.length cc) (.slice pf M.flows.length cf) (.slice pe M.ents.length ce) (.slice pl M.lines.length cl) M) 33)
 have hn1:=zM w (.slice pc M.chart.length cc) (.slice pf M.flows.length cf) (.slice pe M.ents.length ce) (.slice pl M.lines.length cl) M 33
 obtain ⟨W1,hW1⟩:∃ W1,w.alloc (.cells (cellsM (.slice pc M.chart.length cc) (.slice pf M.flows.length cf) (.slice pe M.ents.length ce) (.slice pl M.lines.length cl) M) 33)=W1:=⟨_,rfl⟩
 rw [hW1] at hb1 hn1
 have hs1:W1.heap.size=w.heap.size+1:=by rw [←hW1,World.size_alloc]
 have hb2:=(Below.refl W1.heap.size W1).alloc (Nat.le_refl _) (.cells (fCells x) 76)
 obtain ⟨W2,hW2⟩:∃ W2,W1.alloc (.cells (fCells x) 76)=W2:=⟨_,rfl⟩
 have hx2:ElAt encF W2 W1.heap.size 0 x:=by rw [←hW2];exact zf encF W1 x _
 have hs2:W2.heap.size=W1.heap.size+1:=by rw [←hW2,World.size_alloc]
 rw [hW2] at hb2
 have hb3:=(Below.refl W2.heap.size W2).alloc (Nat.le_refl _) (.cells (encC.cs zeroC).toArray 100)
 have hz3:=BoxE.new encC W2 zeroC 100
 obtain ⟨W3,hW3⟩:∃ W3,W2.alloc (.cells (encC.cs zeroC).toArray 100)=W3:=⟨_,rfl⟩
 rw [hW3] at hb3 hz3
 have hb13:Below W1.heap.size W1 W3:=hb2.trans (hb3.mono hb2.size)
 have hb03:Below w.heap.size w W3:=hb1.trans (hb13.mono hb1.size)
 have HB3:=Lib.hid hb03
 have HM3:=Lib.hid (h.keep hb03)
 have HN3:=Lib.hid (hn1.kept hb13)
 have HX3:=Lib.hid (hx2.keep hb3 hx2.lt)
 have HZ3:=Lib.hid hz3
 have HS:=Lib.hid (show W2.heap.size=w.heap.size+1+1 by rw [hs2,hs1])
 have HS1:=Lib.hid hs1
 have HCF:=Lib.hid (fun W h=>jh (.slice pc M.chart.length cc) M.chart x.key.a W h)
 have HFK:=Lib.hid (fun W h=>Fl.QJ (.slice pf M.flows.length cf) M.flows x.key.f W h hr hlf)
 obtain ⟨A,hA⟩:∃ A,findV (findL M.chart x.key.a)=A:=⟨_,rfl⟩
 obtain ⟨AI,hAI⟩:∃ I,(findL M.chart x.key.a).isSome=I:=⟨_,rfl⟩
 obtain ⟨K,hK⟩:∃ K,Fl.kindL M.flows x.key.f=K:=⟨_,rfl⟩
 obtain ⟨FI,hFI⟩:∃ I,isK Fl.Flow.code M.flows x.key.f=I:=⟨_,rfl⟩
 simp only [hA,hAI] at HCF
 simp only [hK,hFI] at HFK
 have HCN:Hid (cnt M x.key=(AI && FI)):=Lib.hid (by
  unfold cnt hasA hasFl
  rw [hAI,←(jE hr x.key.f).1,hFI])
 have HCO:Hid (cfOf M x=⟨x,K,A.cls⟩):=Lib.hid (by
  unfold cfOf clsF
  rw [←hK,Kq hr,←hA];rfl)
 obtain ⟨N,hN⟩:∃ N,cnt M x.key=N:=⟨_,rfl⟩
 rw [hN] at HCN ⊢
 rw [HCO.out]
 clear hA hAI hK hFI hN hr hlf hb1 hb2 hb3 hb13 hb03 h hn1 hx2 hz3 HCO hs1 hs2
 obtain ⟨k0,k1,k2,k3,k4,k5,k6,k7,k8⟩:=HN3.out
 obtain ⟨f0,f1,f2,f3,f4,f5⟩:=fact6 HX3.out
 simp only [Nat.zero_add] at f0 f1 f2 f3 f4 f5
 have hW3':W2.alloc (.cells #[.string ⟨#[]⟩,.string ⟨#[]⟩,.string ⟨#[]⟩,.string ⟨#[]⟩,.int .i64 0,.int .i64 0,.int .i64 0,.int .i64 0] 100)=W3:=hW3
 go_enter Tryz.func68,Tryz.ntmps68
 go_wp2_with fail
 clear k0 k1 k2 k3 k4 k5 k6 k7 k8 f0 f1 f2 f3 f4 f5 hW1 hW2 hW3 hW3'
 refine (HFK.out _ HM3.out.flows).mono ?_
 rintro en w4 ⟨rfl,hb4⟩
 have HB4:=Lib.hid (HB3.out.trans (hb4.mono HB3.out.size))
 have HM4:=Lib.hid (HM3.out.keep hb4)
 have HN4:=Lib.hid (HN3.out.kept hb4)
 have HX4:=Lib.hid (HX3.out.keep hb4 HX3.out.lt)
 have HZ4:=Lib.hid (HZ3.out.keep hb4 HZ3.out.lt)
 clear hb4 HB3 HM3 HN3 HX3 HZ3 HFK
 obtain ⟨k0,k1,k2,k3,k4,k5,k6,k7,k8⟩:=HN4.out
 obtain ⟨f0,f1,f2,f3,f4,f5⟩:=fact6 HX4.out
 simp only [Nat.zero_add] at f0 f1 f2 f3 f4 f5
 go_wp2_with fail
 clear k0 k1 k2 k3 k4 k5 k6 k7 k8 f0 f1 f2 f3 f4 f5
 refine (HCF.out _ HM4.out.chart).mono ?_
 rintro en w5 ⟨rfl,hb5⟩
 have hb6:=hb5.alloc hb5.size (.cells #[.string A.code,.int .i64 A.cls,.bool A.cash,.bool A.both,.string A.fixed,.bool A.worn] 129)
 have HB6:=Lib.hid (HB4.out.trans (hb6.mono HB4.out.size))
 have HX6:=Lib.hid (HX4.out.keep hb6 HX4.out.lt)
 have HZ6:=Lib.hid (HZ4.out.keep hb6 HZ4.out.lt)
 have HA6:=Lib.hid (BoxA.new w5 A 129)
 clear hb5 hb6 HB4 HM4 HN4 HX4 HZ4 HCF
 obtain ⟨f0,f1,f2,f3,f4,f5⟩:=fact6 HX6.out
 simp only [Nat.zero_add] at f0 f1 f2 f3 f4 f5
 obtain ⟨z0,z1,z2,z3,z4,z5⟩:=HA6.out.facts
 cases FI with
 | false =>
   have hn:N=false:=by rw [HCN.out];simp
   subst hn
   cases AI with
   | false =>
     go_wp2_with (refine zY rfl 100 (.tmp 4) (.tmp 34) rfl W2.heap.size zeroC zeroC 100 rfl rfl HZ6.out (by kernel_rfl) ?_;intro w7 hb7 hg7)
     have HF:=Lib.hid (HB6.out.grown hg7 HB6.out.size (fun j hj=>by cases hj;have:=HS.out;omega))
     obtain ⟨e0,e1,e2,e3,e4,e5,e6,e7⟩:=cf8 hb7.at0
     simp only [Nat.zero_add] at e0 e1 e2 e3 e4 e5 e6 e7
     clear hb7 hg7
     exact bodyPost_ret (v:=.tuple #[aggC zeroC,.bool false]) (by simp [results,Tryz.results68,go_sem,e0,e1,e2,e3,e4,e5,e6,e7]) rfl ⟨rfl,HF.out⟩
   | true =>
     go_wp2_with (refine zY rfl 100 (.tmp 4) (.tmp 34) rfl W2.heap.size zeroC zeroC 100 rfl rfl HZ6.out (by kernel_rfl) ?_;intro w7 hb7 hg7)
     have HF:=Lib.hid (HB6.out.grown hg7 HB6.out.size (fun j hj=>by cases hj;have:=HS.out;omega))
     obtain ⟨e0,e1,e2,e3,e4,e5,e6,e7⟩:=cf8 hb7.at0
     simp only [Nat.zero_add] at e0 e1 e2 e3 e4 e5 e6 e7
     clear hb7 hg7
     exact bodyPost_ret (v:=.tuple #[aggC zeroC,.bool false]) (by simp [results,Tryz.results68,go_sem,e0,e1,e2,e3,e4,e5,e6,e7]) rfl ⟨rfl,HF.out⟩
 | true =>
   cases AI with
   | false =>
     have hn:N=false:=by rw [HCN.out];rfl
     subst hn
     go_wp2_with (refine zY rfl 100 (.tmp 4) (.tmp 34) rfl W2.heap.size zeroC zeroC 100 rfl rfl HZ6.out (by kernel_rfl) ?_;intro w7 hb7 hg7)
     have HF:=Lib.hid (HB6.out.grown hg7 HB6.out.size (fun j hj=>by cases hj;have:=HS.out;omega))
     obtain ⟨e0,e1,e2,e3,e4,e5,e6,e7⟩:=cf8 hb7.at0
     simp only [Nat.zero_add] at e0 e1 e2 e3 e4 e5 e6 e7
     clear hb7 hg7
     exact bodyPost_ret (v:=.tuple #[aggC zeroC,.bool false]) (by simp [results,Tryz.results68,go_sem,e0,e1,e2,e3,e4,e5,e6,e7]) rfl ⟨rfl,HF.out⟩
   | true =>
     have hn:N=true:=by rw [HCN.out];rfl
     subst hn
     go_wp2_with (refine zY rfl 100 (.tmp 4) (.tmp 39) rfl W2.heap.size zeroC ⟨x,K,A.cls⟩ 100 rfl rfl HZ6.out (by kernel_rfl) ?_;intro w7 hb7 hg7)
     have HF:=Lib.hid (HB6.out.grown hg7 HB6.out.size (fun j hj=>by cases hj;have:=HS.out;omega))
     obtain ⟨e0,e1,e2,e3,e4,e5,e6,e7⟩:=cf8 hb7.at0
     simp only [Nat.zero_add] at e0 e1 e2 e3 e4 e5 e6 e7
     clear hb7 hg7
     exact bodyPost_ret (v:=.tuple #[aggC ⟨x,K,A.cls⟩,.bool true]) (by simp [results,Tryz.results68,go_sem,e0,e1,e2,e3,e4,e5,e6,e7]) rfl ⟨rfl,HF.out⟩
end Go.Proofs.YtdhfpgjnjlcciaaGreatDoor.Co
end
