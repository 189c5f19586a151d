/- The walks of cent.Add, cent.Sub, cent.Neg and of the document's own three: each hands back what the plain arithmetic says, and leaves memory as it was; amounts are any of 64 bits. -/
import Derived.Test.YthakilmimcgbiaaDoorProg
import Derived.Test.YthakilmimcgbiaaDoorCentPlain
import Derived.WalkKit
import Derived.WalkSpells
import Derived.Lib.Hide
namespace Go.Proofs.YthakilmimcgbiaaDoor
open Go.RowKit

/-- An amount of 64 bits. -/
def In64 (a : Int) : Prop := -9223372036854775808 ≤ a ∧ a ≤ 9223372036854775807
theorem in64_of_fit {a : Int} (h : fit a = true) : In64 a := (fit_iff a).1 h
theorem fit_of_in64 {a : Int} (h : In64 a) : fit a = true := (fit_iff a).2 h

set_option maxHeartbeats 400000 in
theorem add_any (a b : Int) (w : World) (ha : In64 a) (hb : In64 b) :
    Calls Tryd.prog 10 #[.int .i64 a, .int .i64 b] w fun e w' => e = .returned (.tuple #[.int .i64 (addV a b), .int .i64 (addE a b)]) ∧ w = w' := by
  obtain ⟨a1, a2⟩ := ha
  obtain ⟨b1, b2⟩ := hb
  cases hf : fit (a + b) with
  | true =>
    rw [addV_yes hf, addE_yes hf]
    obtain ⟨s1, s2⟩ := (fit_iff _).1 hf
    clear hf
    go_enter Tryd.func10, Tryd.ntmps10
    go_wp2
    all_goals
      go_ret2
      exact ⟨rfl, rfl⟩
  | false =>
    rw [addV_no hf, addE_no hf]
    rcases (fit_no _).1 hf with h | h
    · obtain ⟨h1, h2⟩ := add_under a1 b1 h
      clear hf
      go_enter Tryd.func10, Tryd.ntmps10
      go_wp2
      all_goals
        go_ret2
        exact ⟨rfl, rfl⟩
    · obtain ⟨h1, h2⟩ := add_over a2 b2 h
      clear hf
      go_enter Tryd.func10, Tryd.ntmps10
      go_wp2
      all_goals
        go_ret2
        exact ⟨rfl, rfl⟩

set_option maxHeartbeats 400000 in
theorem sub_any (a b : Int) (w : World) (ha : In64 a) (hb : In64 b) :
    Calls Tryd.prog 12 #[.int .i64 a, .int .i64 b] w fun e w' => e = .returned (.tuple #[.int .i64 (subV a b), .int .i64 (subE a b)]) ∧ w = w' := by
  obtain ⟨a1, a2⟩ := ha
  obtain ⟨b1, b2⟩ := hb
  cases hf : fit (a - b) with
  | true =>
    rw [subV_yes hf, subE_yes hf]
    obtain ⟨s1, s2⟩ := (fit_iff _).1 hf
    clear hf
    go_enter Tryd.func12, Tryd.ntmps12
    go_wp2
    all_goals
      go_ret2
      exact ⟨rfl, rfl⟩
  | false =>
    rw [subV_no hf, subE_no hf]
    rcases (fit_no _).1 hf with h | h
    · obtain ⟨h1, h2⟩ := sub_under a1 b2 h
      clear hf
      go_enter Tryd.func12, Tryd.ntmps12
      go_wp2
      all_goals
        go_ret2
        exact ⟨rfl, rfl⟩
    · obtain ⟨h1, h2⟩ := sub_over a2 b1 h
      clear hf
      go_enter Tryd.func12, Tryd.ntmps12
      go_wp2
      all_goals
        go_ret2
        exact ⟨rfl, rfl⟩

set_option maxHeartbeats 400000 in
theorem radd_any (a b : Int) (w : World) (ha : In64 a) (hb : In64 b) :
    Calls Tryd.prog 11 #[.int .i64 a, .int .i64 b] w fun e w' => e = .returned (.tuple #[.int .i64 (addV a b), .int .i64 (addE a b)]) ∧ w = w' := by
  obtain ⟨a1, a2⟩ := ha
  obtain ⟨b1, b2⟩ := hb
  cases hf : fit (a + b) with
  | true =>
    rw [addV_yes hf, addE_yes hf]
    obtain ⟨s1, s2⟩ := (fit_iff _).1 hf
    clear hf
    go_enter Tryd.func11, Tryd.ntmps11
    go_wp2
    all_goals
      go_ret2
      exact ⟨rfl, rfl⟩
  | false =>
    rw [addV_no hf, addE_no hf]
    rcases (fit_no _).1 hf with h | h
    · obtain ⟨h1, h2⟩ := add_under a1 b1 h
      clear hf
      go_enter Tryd.func11, Tryd.ntmps11
      go_wp2
      all_goals
        go_ret2
        exact ⟨rfl, rfl⟩
    · obtain ⟨h1, h2⟩ := add_over a2 b2 h
      clear hf
      go_enter Tryd.func11, Tryd.ntmps11
      go_wp2
      all_goals
        go_ret2
        exact ⟨rfl, rfl⟩

set_option maxHeartbeats 400000 in
theorem rsub_any (a b : Int) (w : World) (ha : In64 a) (hb : In64 b) :
    Calls Tryd.prog 13 #[.int .i64 a, .int .i64 b] w fun e w' => e = .returned (.tuple #[.int .i64 (subV a b), .int .i64 (subE a b)]) ∧ w = w' := by
  obtain ⟨a1, a2⟩ := ha
  obtain ⟨b1, b2⟩ := hb
  cases hf : fit (a - b) with
  | true =>
    rw [subV_yes hf, subE_yes hf]
    obtain ⟨s1, s2⟩ := (fit_iff _).1 hf
    clear hf
    go_enter Tryd.func13, Tryd.ntmps13
    go_wp2
    all_goals
      go_ret2
      exact ⟨rfl, rfl⟩
  | false =>
    rw [subV_no hf, subE_no hf]
    rcases (fit_no _).1 hf with h | h
    · obtain ⟨h1, h2⟩ := sub_under a1 b2 h
      clear hf
      go_enter Tryd.func13, Tryd.ntmps13
      go_wp2
      all_goals
        go_ret2
        exact ⟨rfl, rfl⟩
    · obtain ⟨h1, h2⟩ := sub_over a2 b1 h
      clear hf
      go_enter Tryd.func13, Tryd.ntmps13
      go_wp2
      all_goals
        go_ret2
        exact ⟨rfl, rfl⟩

set_option maxHeartbeats 400000 in
theorem neg_any (a : Int) (w : World) (ha : In64 a) :
    Calls Tryd.prog 14 #[.int .i64 a] w fun e w' => e = .returned (.tuple #[.int .i64 (subV 0 a), .int .i64 (subE 0 a)]) ∧ w = w' := by
  go_enter Tryd.func14, Tryd.ntmps14
  go_wp2_with (go_at_call 12; refine (sub_any 0 a _ ⟨by omega, by omega⟩ ha).mono ?_; rintro e w' ⟨rfl, rfl⟩)
  go_ret2
  exact ⟨rfl, rfl⟩

set_option maxHeartbeats 400000 in
theorem rneg_any (a : Int) (w : World) (ha : In64 a) :
    Calls Tryd.prog 15 #[.int .i64 a] w fun e w' => e = .returned (.tuple #[.int .i64 (subV 0 a), .int .i64 (subE 0 a)]) ∧ w = w' := by
  obtain ⟨a1, a2⟩ := ha
  cases hf : fit (0 - a) with
  | true =>
    rw [subV_yes hf, subE_yes hf]
    obtain ⟨s1, s2⟩ := (fit_iff _).1 hf
    clear hf
    have hs : (0 : Int) - a = -a := by omega
    rw [hs]
    clear hs
    go_enter Tryd.func15, Tryd.ntmps15
    go_wp2
    all_goals
      go_ret2
      exact ⟨rfl, rfl⟩
  | false =>
    rw [subV_no hf, subE_no hf]
    have h : a = -9223372036854775808 := by
      rcases (fit_no _).1 hf with h | h <;> omega
    clear hf a1 a2
    subst h
    go_enter Tryd.func15, Tryd.ntmps15
    go_wp2
    all_goals
      go_ret2
      exact ⟨rfl, rfl⟩
end Go.Proofs.YthakilmimcgbiaaDoor
