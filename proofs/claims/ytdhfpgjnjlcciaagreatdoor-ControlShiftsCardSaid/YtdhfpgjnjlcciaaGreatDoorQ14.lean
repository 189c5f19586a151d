/- ChartDocRight -/
import Derived.Test.YtdhfpgjnjlcciaaGreatDoorQ06
namespace Go.Proofs.YtdhfpgjnjlcciaaGreatDoor
open Go.RowKit
set_option maxRecDepth 100000 in
set_option maxHeartbeats 8000000 in
theorem zV (a:Acct) (w:World):Calls Tryz.prog 135 #[aggA a] w fun e w'=>e=.returned (.bool (rightA a))∧Below w.heap.size w w':=by
 have HB:=Lib.hid ((Below.refl w.heap.size w).alloc (Nat.le_refl _) (.cells #[.string a.code,.int .i64 a.cls,.bool a.cash,.bool a.both,.string a.fixed,.bool a.worn] 151))
 obtain ⟨r,hr⟩:∃ r,rightA a=r:=⟨_,rfl⟩
 rw [hr]
 have HR:=Lib.hid hr
 clear hr
 obtain ⟨co,cl,ca,mu,fi,wo⟩:=a
 simp only at HB HR ⊢
 cases hc:nmB co with
 | false =>
   have HC:=Lib.hid hc
   clear hc
   go_enter Tryz.func135,Tryz.ntmps135
   go_wp2_with (go_at_call 180;refine (qO co _ HC.out _).mono ?_;rintro e w' ⟨rfl,rfl⟩)
   go_ret
   exact ⟨zk (by rw [←HR.out];simp [rightA,HC.out]),HB.out⟩
 | true =>
   have HC:=Lib.hid hc
   clear hc
   by_cases h0:cl < 0
   ·go_enter Tryz.func135,Tryz.ntmps135
    go_wp2_with (go_at_call 180;refine (qO co _ HC.out _).mono ?_;rintro e w' ⟨rfl,rfl⟩)
    go_ret
    exact ⟨zk (by rw [←HR.out];have:¬ 0≤cl:=(by omega);simp [rightA,this]),HB.out⟩
   ·by_cases h2:2 < cl
    ·go_enter Tryz.func135,Tryz.ntmps135
     go_wp2_with (go_at_call 180;refine (qO co _ HC.out _).mono ?_;rintro e w' ⟨rfl,rfl⟩)
     go_ret
     exact ⟨zk (by rw [←HR.out];have:¬ cl < 3:=(by omega);simp [rightA,this]),HB.out⟩
    ·by_cases hf:fi=⟨#[]⟩
     ·subst hf
      rcases (by omega:cl=0∨cl=1∨cl=2) with rfl | rfl | rfl
      all_goals
       clear h0 h2
       cases ca <;> cases mu <;> cases wo
       all_goals
        go_enter Tryz.func135,Tryz.ntmps135
        go_wp2_with (go_at_call 180;refine (qO co _ HC.out _).mono ?_;rintro e w' ⟨rfl,rfl⟩)
        go_ret
        exact ⟨zk (by rw [←HR.out];simp [rightA,marksA,HC.out,qT]),HB.out⟩
     ·have hn:=(ji fi).2 hf
      have HN:=Lib.hid hn
      unfold neB at hn
      rcases (by omega:cl=0∨cl=1∨cl=2) with rfl | rfl | rfl
      ·clear h0 h2
       cases hm:nmB fi <;> cases ca <;> cases mu <;> cases wo
       all_goals
        have HM:=Lib.hid hm
        clear hm
        go_enter Tryz.func135,Tryz.ntmps135
        go_wp2_with fail
        refine (qO co _ HC.out _).mono ?_
        rintro e w' ⟨rfl,rfl⟩
        go_wp2_with (go_at_call 180;refine (qO fi _ HM.out _).mono ?_;rintro e w' ⟨rfl,rfl⟩)
        go_ret
        exact ⟨zk (by rw [←HR.out];simp [rightA,marksA,HC.out,HM.out,HN.out]),HB.out⟩
      all_goals
       clear h0 h2
       cases ca <;> cases mu <;> cases wo
       all_goals
        go_enter Tryz.func135,Tryz.ntmps135
        go_wp2_with (go_at_call 180;refine (qO co _ HC.out _).mono ?_;rintro e w' ⟨rfl,rfl⟩)
        go_ret
        exact ⟨zk (by rw [←HR.out];cases hm:nmB fi <;> simp [rightA,marksA,HN.out,hm]),HB.out⟩
end Go.Proofs.YtdhfpgjnjlcciaaGreatDoor
