
/- The walks of cent.Add, cent.Sub, cent.Neg and of the document's own three: each hands back what the plain arithmetic says, and leaves memory as it was; amounts are any of 64 bits. -/
import Derived.Test.YtimeebildbmhaaaProg
import Derived.Test.YtimeebildbmhaaaCentPlain
import Derived.WalkKit
import Derived.WalkSpells
import Derived.Lib.Hide
namespace Go.Proofs.Ytimeebildbmhaaa
open Go.RowKit


set_option maxHeartbeats 400000 in
theorem add_any (a b : Int) (w : World) (ha : In64 a) (hb : In64 b) :
    Calls Try.prog 46 #[.int .i64 a, .int .i64 b] w fun e w' => e = .returned (.tuple #[.int .i64 (addV a b), .int .i64 (addE a b)]) ∧ w = w' := by
  obtain ⟨a1, a2⟩ := ha
  obtain ⟨b1, b2⟩ := hb
  cases hf : fit (a + b) with
  | true =>
    rw [addV_yes hf, addE_yes hf]
    obtain ⟨s1, s2⟩ := (fit_iff _).1 hf
    clear hf
    go_enter Try.func46, Try.ntmps46
    go_wp2
    all_goals
      go_ret2
      exact ⟨rfl, rfl⟩
  | false =>
    rw [addV_no hf, addE_no hf]
    rcases (fit_no _).1 hf with h | h
    · obtain ⟨h1, h2⟩ := add_under a1 b1 h
      clear hf
      go_enter Try.func46, Try.ntmps46
      go_wp2
      all_goals
        go_ret2
        exact ⟨rfl, rfl⟩
    · obtain ⟨h1, h2⟩ := add_over a2 b2 h
      clear hf
      go_enter Try.func46, Try.ntmps46
      go_wp2
      all_goals
        go_ret2
        exact ⟨rfl, rfl⟩

set_option maxHeartbeats 400000 in
theorem radd_any (a b : Int) (w : World) (ha : In64 a) (hb : In64 b) :
    Calls Try.prog 47 #[.int .i64 a, .int .i64 b] w fun e w' => e = .returned (.tuple #[.int .i64 (addV a b), .int .i64 (addE a b)]) ∧ w = w' := by
  obtain ⟨a1, a2⟩ := ha
  obtain ⟨b1, b2⟩ := hb
  cases hf : fit (a + b) with
  | true =>
    rw [addV_yes hf, addE_yes hf]
    obtain ⟨s1, s2⟩ := (fit_iff _).1 hf
    clear hf
    go_enter Try.func47, Try.ntmps47
    go_wp2
    all_goals
      go_ret2
      exact ⟨rfl, rfl⟩
  | false =>
    rw [addV_no hf, addE_no hf]
    rcases (fit_no _).1 hf with h | h
    · obtain ⟨h1, h2⟩ := add_under a1 b1 h
      clear hf
      go_enter Try.func47, Try.ntmps47
      go_wp2
      all_goals
        go_ret2
        exact ⟨rfl, rfl⟩
    · obtain ⟨h1, h2⟩ := add_over a2 b2 h
      clear hf
      go_enter Try.func47, Try.ntmps47
      go_wp2
      all_goals
        go_ret2
        exact ⟨rfl, rfl⟩

end Go.Proofs.Ytimeebildbmhaaa
