/- UnitKeepA UnitReadC UnitParseA FlowDocWords -/
import Derived.Test.YtdhfpgjnjlcciaaGreatDoorQ10
import Derived.Test.YtdhfpgjnjlcciaaGreatDoorQ12
section
namespace Go.Proofs.YtdhfpgjnjlcciaaGreatDoor.Un
open Go.RowKit Go.Maps
theorem zdr (v:Value) (ws:List ByteArray) (W:World) (B R m n:Nat) (c f e l:Value) (D:DataW Unit) (M:Mast) (hv:StrsV W v ws) (hf:zj ws=true) (h:RdAt W B R m c f e l n D M) (hB:B≤W.heap.size) (hs:Sane M) :
 Calls Tryz.prog 90 #[.pointer (some ⟨R,0,none⟩),v] W (qQ W B R m n D (stepV M ws) (keepE M ws)):=by
 have l1:=hs.le
 have l2:=hs.ll
 rcases jk hf with ⟨h0,a,b,rfl,ha,hb⟩ | ⟨h0,a,b,d,rfl,ha,hb,hd⟩ | ⟨h0,a,h1,ha⟩
 ·exact zhM v a b W B R m n c f e l D M hv h hB hs.en (by omega)
 ·exact zb1 v a b d W B R m n c f e l D M hv h hB hs.li (by omega)
 ·rcases h0 with h0 | h0 | h0 | h0 | h0 <;> rw [h0] at h1 <;> subst h1
  ·exact zd5 v a W B R m n c f e l D M hv h
  ·exact zbN v a W B R m n c f e l D M hv h
  ·exact zb3 v a W B R m n c f e l D M hv h
  ·exact zh4 v a W B R m n c f e l D M hv h
  ·exact zcs v a W B R m n c f e l D M hv h
end Go.Proofs.YtdhfpgjnjlcciaaGreatDoor.Un
end
section
namespace Go.Proofs.YtdhfpgjnjlcciaaGreatDoor.Un
open Go.RowKit Go.Maps
theorem zji (v:Value) (ws:List ByteArray) (W0 W:World) (R m n:Nat) (c f e l:Value) (D:DataW Unit) (M:Mast) (hv0:StrsV W0 v ws) (h0:0 < ws.length) (hl:Laid W0) (hlf:Fl.Laid W0) (hb:Below W0.heap.size W0 W) (h:RdAt W W0.heap.size R m c f e l n D M) (hst:zT D M) (hs:Sane M) (hn:n < maxLen) :
 Calls Tryz.prog 59 #[.pointer (some ⟨R,0,none⟩),v] W (xV W W0.heap.size R m (n+1) (stepV M ws) (stepE M ws)):=by
 by_cases w1:wd ws 0=zb
 ·exact Q9 v ws W0 W R m n c f e l D M hv0 h0 hl hlf hb h hst hs (.inl w1)
 by_cases w2:wd ws 0=Fl.tFlow
 ·exact Q9 v ws W0 W R m n c f e l D M hv0 h0 hl hlf hb h hst hs (.inr (.inl w2))
 cases hf:zj ws with
 | false=>exact Q9 v ws W0 W R m n c f e l D M hv0 h0 hl hlf hb h hst hs (.inr (.inr hf))
 | true=>exact zfp v ws W0 W R m n c f e l D M hv0 hb h hst w1 w2 hf hn (fun X k D' hX hr hz=>zdr v ws X W0.heap.size R m k c f e l D' M hX hf hr hz hs)
end Go.Proofs.YtdhfpgjnjlcciaaGreatDoor.Un
end
section
namespace Go.Proofs.YtdhfpgjnjlcciaaGreatDoor.Un
open Go.RowKit Go.Maps
theorem yc (s:ByteArray) (w:World) (hs:s.size≤30000) (hl:Laid w) (hlf:Fl.Laid w) :
 Calls Tryz.prog 28 #[.string s] w (Jr w (parseM s).1 (parseM s).2) :=
 zgu (fun v ws W0 W R m n c f e l D M=>zji v ws W0 W R m n c f e l D M) s w hs hl hlf
end Go.Proofs.YtdhfpgjnjlcciaaGreatDoor.Un
end
section
namespace Go.Proofs.YtdhfpgjnjlcciaaGreatDoor.Fl
open Go.RowKit
theorem zgA (w:World):Calls Tryz.prog 181 #[] w fun e w'=>e=.returned (.slice (some ⟨w.heap.size,0,none⟩) 5 5)∧w'=w.alloc (.cells #[.string tOpen,.string tMove,.string tFx,.string tScope,.string tClose] 9):=by
 go_enter Tryz.func181,Tryz.ntmps181
 go_wp2
 go_ret
 exact ⟨rfl,rfl⟩
theorem zhN (w:World) (o:Obj) (x y z:ByteArray) (t:TypeId):StrsV ((w.alloc o).alloc (.cells #[.string x,.string y,.string z] t)) (.slice (some ⟨w.heap.size+1,0,none⟩) 3 3) [x,y,z]:=by
 have:=zbG (w.alloc o) x y z t
 rwa [World.size_alloc] at this
abbrev Qy:Obj:=.cells #[.string tOpen,.string tMove,.string tFx,.string tScope,.string tClose] 9
theorem zfG (w:World) (n:Nat) (h:n < 5):(w.alloc Qy).cell? ⟨w.heap.size,n,none⟩=some (.string (kindW (n:Int))):=by
 rw [cell_of_row _ w.heap.size n _ _ (0,0) (heap_alloc_new w _)]
 rcases (by omega:n=0∨n=1∨n=2∨n=3∨n=4) with rfl | rfl | rfl | rfl | rfl <;> rfl
set_option maxRecDepth 100000 in
set_option maxHeartbeats 8000000 in
theorem zfL (co:ByteArray) (k:Nat) (w:World) (hk:k < 5) (h:rightF ⟨co,(k:Int)⟩=true):Calls Tryz.prog 139 #[aggL ⟨co,(k:Int)⟩] w (Qc w [tFlow,co,kindW (k:Int)]):=by
 have HR:=Lib.hid (zV ⟨co,(k:Int)⟩)
 rw [h] at HR
 have HB:=Lib.hid ((Below.refl w.heap.size w).alloc (Nat.le_refl _) (.cells #[.string co,.int .i64 (k:Int)] 159))
 have HX0:=Lib.hid (BoxE.new encF w ⟨co,(k:Int)⟩ 159)
 clear h
 obtain ⟨kw,hkw⟩:∃ kw,kindW (k:Int)=kw:=⟨_,rfl⟩
 rw [hkw]
 have HKW:=Lib.hid hkw
 clear hkw
 go_enter Tryz.func139,Tryz.ntmps139
 go_wp2_with fail
 refine (HR.out _).mono ?_
 rintro e w1 ⟨rfl,hb1⟩
 have HB1:=Lib.hid (HB.out.trans (hb1.mono HB.out.size))
 have hlt:w.heap.size < w1.heap.size:=by have:=hb1.size;simp at this;omega
 have HX1:=Lib.hid (HX0.out.keep hb1 (by simp))
 obtain ⟨c0,c1⟩:=box HX1.out
 simp only at c0 c1
 clear hb1
 go_wp2_with fail
 have hb2:=(Below.refl w1.heap.size w1).alloc (Nat.le_refl _) Qy
 obtain ⟨d0,d1⟩:=box (HX1.out.keep hb2 hlt)
 simp only at d0 d1
 have HB2:=Lib.hid (HB1.out.trans (hb2.mono HB1.out.size))
 have hc:=zfG w1 k hk
 rw [HKW.out] at hc
 have hk5:(k:Int) < 5:=by omega
 clear hb2
 go_region_with (go_at_call 181;refine (zgA _).mono ?_;rintro e w' ⟨rfl,rfl⟩)
 all_goals
  go_wp2
  go_ret
  exact ⟨_,rfl,zhN w1 Qy tFlow co kw 9,Vd (HB2.out.alloc HB2.out.size _)⟩
set_option maxRecDepth 100000 in
set_option maxHeartbeats 4000000 in
theorem js (f:Flow) (w:World):Calls Tryz.prog 139 #[aggL f] w (Qc w (wordsF f)):=by
 cases h:rightF f with
 | false =>
   have HR:=Lib.hid (zV f)
   have HB:=Lib.hid ((Below.refl w.heap.size w).alloc (Nat.le_refl _) (.cells #[.string f.code,.int .i64 f.kind] 159))
   rw [h] at HR
   rw [xw h]
   clear h
   go_enter Tryz.func139,Tryz.ntmps139
   go_wp2_with fail
   refine (HR.out _).mono ?_
   rintro e w1 ⟨rfl,hb1⟩
   have HB1:=Lib.hid hb1
   clear hb1
   go_wp2
   go_ret
   exact ⟨_,rfl,StrsV.nil _,HB.out.trans (HB1.out.mono HB.out.size)⟩
 | true =>
   rw [xM h]
   obtain ⟨co,k⟩:=f
   have hk:=(qf h).2
   simp only at hk ⊢
   obtain ⟨n,rfl⟩:∃ n:Nat,k=(n:Int):=⟨k.toNat,by omega⟩
   exact zfL co n w (by omega) h
end Go.Proofs.YtdhfpgjnjlcciaaGreatDoor.Fl
end
