/- ChartRight -/
import Derived.WalkLawsBesides
import Derived.Test.YthcpglnmhimepaaGreatDoorS03
import Derived.Test.YthcpglnmhimepaaGreatDoorS04
namespace Go.Proofs.YthcpglnmhimepaaGreatDoor
open Go.RowKit
abbrev aggA (a:Acct):Value:=.agg #[.string a.code,.int .i64 a.cls,.bool a.cash,.bool a.both,.string a.fixed,.bool a.worn]
set_option maxRecDepth 100000 in
set_option maxHeartbeats 4000000 in
theorem marksFit_any (a:Acct) (w:World):Calls Tryz.prog 163 #[aggA a] w fun e w'=>e=.returned (.bool (marksA a))∧Below w.heap.size w w':=by
 obtain ⟨co,cl,ca,mu,fi,wo⟩:=a
 have HB:=Lib.hid ((Below.refl w.heap.size w).alloc (Nat.le_refl _) (.cells #[.string co,.int .i64 cl,.bool ca,.bool mu,.string fi,.bool wo] 192))
 obtain ⟨r,hr⟩:∃ r,marksA ⟨co,cl,ca,mu,fi,wo⟩=r:=⟨_,rfl⟩
 rw [hr]
 have HR:=Lib.hid hr
 clear hr
 by_cases hf:fi=⟨#[]⟩
 ·subst hf
  cases ca <;> cases mu <;> cases wo
  all_goals
   go_enter Tryz.func163,Tryz.ntmps163
   go_wp2
   go_ret
   exact ⟨ret_bool (by rw [←HR.out];simp [marksA,neB_empty]),HB.out⟩
 ·have hn:=(neB_iff fi).2 hf
  have HN:=Lib.hid hn
  unfold neB at hn
  cases hm:nmB fi <;> cases ca <;> cases mu <;> cases wo
  all_goals
   have HM:=Lib.hid hm
   clear hm
   go_enter Tryz.func163,Tryz.ntmps163
   go_wp2_with fail
   refine (name_at _ _).mono ?_
   rintro e w' ⟨rfl,rfl⟩
   rw [show nameL fi.data.toList=nmB fi from rfl,HM.out]
   go_wp2
   go_ret
   exact ⟨ret_bool (by rw [←HR.out];simp [marksA,HN.out,HM.out]),HB.out⟩
end Go.Proofs.YthcpglnmhimepaaGreatDoor
