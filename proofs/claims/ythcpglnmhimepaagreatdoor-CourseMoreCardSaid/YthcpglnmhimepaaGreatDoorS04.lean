/- LexDocName -/
import Derived.Test.YthcpglnmhimepaaGreatDoorS02
namespace Go.Proofs.YthcpglnmhimepaaGreatDoor
open Go.RowKit
set_option maxHeartbeats 2000000 in
theorem rname_at (s:ByteArray) (w:World) :
 Calls Tryz.prog 52 #[.string s] w fun e w'=>e=.returned (.bool (nameL s.data.toList))∧w=w':=by
 by_cases hl:0 < s.size∧s.size≤12
 ·obtain ⟨h0,h12⟩:=hl
  have HN:=Lib.hid (nameL_eq s h0 h12)
  cases hf:letB s[0].toNat with
  | false =>
    have HF:=Lib.hid hf
    clear hf
    have HR:Hid (nameL s.data.toList=false):=Lib.hid (by rw [HN.out,HF.out];rfl)
    have a1:¬ s.size < 1:=by omega
    have a2:¬ 12 < s.size:=by omega
    go_enter Tryz.func52,Tryz.ntmps52
    go_wp2_with fail
    refine (rletter_any _ _ (UInt8.toNat_lt _)).mono ?_
    rintro e w' ⟨rfl,rfl⟩
    rw [HF.out]
    go_wp2
    go_ret
    exact ⟨ret_bool HR.out.symm,rfl⟩
  | true =>
    have HF:=Lib.hid hf
    clear hf
    have HR:Hid (nameL s.data.toList=s.data.toList.all fun c=>inB c.toNat):=Lib.hid (by rw [HN.out,HF.out];rfl)
    clear HN
    have a1:¬ s.size < 1:=by omega
    have a2:¬ 12 < s.size:=by omega
    go_enter Tryz.func52,Tryz.ntmps52
    go_wp2_with fail
    refine (rletter_any _ _ (UInt8.toNat_lt _)).mono ?_
    rintro e w' ⟨rfl,rfl⟩
    rw [HF.out]
    go_wp2
    go_loop [3] (fun i=>∃ k:Nat,k≤s.size∧i=.int .i64 k∧(s.data.toList.take k).all (fun c=>inB c.toNat)=true) (fun i=>s.size - (intOf i).toNat)
    case atStart=>exact ⟨0,Nat.zero_le _,rfl,rfl⟩
    case round =>
     obtain ⟨k,hk,rfl,hd⟩:=hrel
     have HD:=Lib.hid hd
     clear hd
     by_cases hlt:k < s.size
     ·have hb:s[k].toNat < 256:=UInt8.toNat_lt _
      cases hc:letB s[k].toNat with
      | true =>
        have HC:=Lib.hid hc
        have hin:Hid (inB s[k].toNat=true):=Lib.hid (decide_eq_true (.inl (of_decide_eq_true hc)))
        clear hc
        go_wp2_with fail
        refine (rletter_any _ _ (UInt8.toNat_lt _)).mono ?_
        rintro e w' ⟨rfl,rfl⟩
        rw [HC.out]
        go_wp2
        go_round
        case rel=>exact ⟨k+1,by omega,by go_num,by rw [all_take _ s k hlt,HD.out,hin.out];rfl⟩
        case measure=>simp [intOf];omega
      | false =>
        have HC:=Lib.hid hc
        have hno:¬ (97≤s[k].toNat∧s[k].toNat≤122∨65≤s[k].toNat∧s[k].toNat≤90):=of_decide_eq_false hc
        have HNO:=Lib.hid hno
        clear hc hno
        go_wp2_with fail
        refine (rletter_any _ _ (UInt8.toNat_lt _)).mono ?_
        rintro e w' ⟨rfl,rfl⟩
        rw [HC.out]
        go_wp2
        all_goals
         have hno:=HNO.out
         try simp only [bne_eq_false_iff_eq,bne_iff_ne] at *
        all_goals first
         | (go_ret
            exact ⟨ret_bool (by rw [HR.out,all_no _ s k hlt (decide_eq_false (by omega))]),rfl⟩)
         | (go_round
            case rel=>exact ⟨k+1,by omega,by go_num,by rw [all_take _ s k hlt,HD.out];exact decide_eq_true (by omega)⟩
            case measure=>simp [intOf];omega)
     ·go_wp2
      go_ret
      exact ⟨ret_bool (by rw [HR.out,all_end _ s k hlt hk HD.out]),rfl⟩
 ·have HR:=Lib.hid (nameL_len s hl)
  rcases (by omega:s.size < 1∨(¬ s.size < 1∧12 < s.size)) with a1 | ⟨a1,a2⟩
  ·clear hl
   go_enter Tryz.func52,Tryz.ntmps52
   go_wp2
   go_ret
   exact ⟨ret_bool HR.out.symm,rfl⟩
  ·clear hl
   go_enter Tryz.func52,Tryz.ntmps52
   go_wp2
   go_ret
   exact ⟨ret_bool HR.out.symm,rfl⟩
theorem rname_any (s:ByteArray) (w:World) (_hs:s.size≤maxLen) :
 Calls Tryz.prog 52 #[.string s] w fun e w'=>e=.returned (.bool (nameL s.data.toList))∧w=w':=rname_at s w
end Go.Proofs.YthcpglnmhimepaaGreatDoor
