
/- The walks of cent.Add, cent.Sub, cent.Neg and of the document's own three: each hands back what the plain arithmetic says, and leaves memory as it was; amounts are any of 64 bits. -/
import Derived.Test.YtdnneognilffaaaGreatDoorProg
import Derived.Test.YtdnneognilffaaaGreatDoorCentPlain
import Derived.WalkKit
import Derived.WalkSpells
import Derived.Lib.Hide
namespace Go.Proofs.YtdnneognilffaaaGreatDoor
open Go.RowKit


set_option maxHeartbeats 400000 in
theorem rneg_any (a : Int) (w : World) (ha : In64 a) :
    Calls Tryz.prog 36 #[.int .i64 a] w fun e w' => e = .returned (.tuple #[.int .i64 (subV 0 a), .int .i64 (subE 0 a)]) ∧ w = w' := by
  obtain ⟨a1, a2⟩ := ha
  cases hf : fit (0 - a) with
  | true =>
    rw [subV_yes hf, subE_yes hf]
    obtain ⟨s1, s2⟩ := (fit_iff _).1 hf
    clear hf
    have hs : (0 : Int) - a = -a := by omega
    rw [hs]
    clear hs
    go_enter Tryz.func36, Tryz.ntmps36
    go_wp2
    all_goals
      go_ret2
      exact ⟨rfl, rfl⟩
  | false =>
    rw [subV_no hf, subE_no hf]
    have h : a = -9223372036854775808 := by
      rcases (fit_no _).1 hf with h | h <;> omega
    clear hf a1 a2
    subst h
    go_enter Tryz.func36, Tryz.ntmps36
    go_wp2
    all_goals
      go_ret2
      exact ⟨rfl, rfl⟩
end Go.Proofs.YtdnneognilffaaaGreatDoor
