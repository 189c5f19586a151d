/- ChartRight2 -/
import Derived.Test.YthcpglnmhimepaaGreatDoorS09
namespace Go.Proofs.YthcpglnmhimepaaGreatDoor
open Go.RowKit
theorem name_is (s:ByteArray) (b:Bool) (h:nmB s=b) (w:World):Calls Tryz.prog 86 #[.string s] w fun e w'=>e=.returned (.bool b)∧w=w':=by
 rw [←h];exact name_at s w
theorem rname_is (s:ByteArray) (b:Bool) (h:nmB s=b) (w:World):Calls Tryz.prog 52 #[.string s] w fun e w'=>e=.returned (.bool b)∧w=w':=by
 rw [←h];exact rname_at s w
set_option maxRecDepth 100000 in
set_option maxHeartbeats 4000000 in
theorem right_any (a:Acct) (w:World):Calls Tryz.prog 141 #[aggA a] w fun e w'=>e=.returned (.bool (rightA a))∧Below w.heap.size w w':=by
 have HM0:=Lib.hid (marksFit_any a)
 obtain ⟨m,hm⟩:∃ m,marksA a=m:=⟨_,rfl⟩
 rw [hm] at HM0
 have HM:=Lib.hid hm
 clear hm
 have HB:=Lib.hid ((Below.refl w.heap.size w).alloc (Nat.le_refl _) (.cells #[.string a.code,.int .i64 a.cls,.bool a.cash,.bool a.both,.string a.fixed,.bool a.worn] 192))
 obtain ⟨r,hr⟩:∃ r,rightA a=r:=⟨_,rfl⟩
 rw [hr]
 have HR:=Lib.hid hr
 clear hr
 obtain ⟨co,cl,ca,mu,fi,wo⟩:=a
 simp only at HB HM0 HM HR ⊢
 cases hc:nmB co with
 | false =>
   have HC:=Lib.hid hc
   clear hc
   go_enter Tryz.func141,Tryz.ntmps141
   go_wp2_with (go_at_call 86;refine (name_is co _ HC.out _).mono ?_;rintro e w' ⟨rfl,rfl⟩)
   go_ret
   exact ⟨ret_bool (by rw [←HR.out];simp [rightA,HC.out]),HB.out⟩
 | true =>
   have HC:=Lib.hid hc
   clear hc
   by_cases h0:0≤cl
   ·by_cases h3:cl < 3
    ·go_enter Tryz.func141,Tryz.ntmps141
     go_wp2_with (go_at_call 86;refine (name_is co _ HC.out _).mono ?_;rintro e w' ⟨rfl,rfl⟩)
     refine (HM0.out _).mono ?_
     rintro e w1 ⟨rfl,hb1⟩
     have HB1:=Lib.hid hb1
     clear hb1
     go_wp2
     go_ret
     exact ⟨ret_bool (by rw [←HR.out];simp [rightA,HC.out,h0,h3,HM.out]),HB.out.trans (HB1.out.mono HB.out.size)⟩
    ·go_enter Tryz.func141,Tryz.ntmps141
     go_wp2_with (go_at_call 86;refine (name_is co _ HC.out _).mono ?_;rintro e w' ⟨rfl,rfl⟩)
     go_ret
     exact ⟨ret_bool (by rw [←HR.out];have:¬ cl < 3:=(by omega);simp [rightA,this]),HB.out⟩
   ·go_enter Tryz.func141,Tryz.ntmps141
    go_wp2_with (go_at_call 86;refine (name_is co _ HC.out _).mono ?_;rintro e w' ⟨rfl,rfl⟩)
    go_ret
    exact ⟨ret_bool (by rw [←HR.out];have:¬ 0≤cl:=(by omega);simp [rightA,this]),HB.out⟩
end Go.Proofs.YthcpglnmhimepaaGreatDoor
