/- The walk of the law WideTells: for any three amounts of 64 bits it returns true, and memory that was there stays. -/
import Derived.Test.YtpcmaakpkemmbaaWideThree
import Derived.Test.YtpcmaakpkemmbaaRefExact
namespace Go.Proofs.Ytpcmaakpkemmbaa
open Go.RowKit

set_option maxHeartbeats 1000000 in
theorem wideTells_walk (a b c : Int) (w : World) (ha : In64 a) (hb : In64 b) (hc : In64 c) :
    Calls Try.prog 3 #[.agg #[.int .i64 a, .int .i64 b, .int .i64 c]] w fun e w' => e = .returned (.bool true) ∧ Below w.heap.size w w' := by
  have HA := Lib.hid ha
  have HB := Lib.hid hb
  have HC := Lib.hid hc
  clear ha hb hc
  obtain ⟨V, hV⟩ : ∃ V, mdV a b c = V := ⟨_, rfl⟩
  obtain ⟨E, hE⟩ : ∃ E, mdE a b c = E := ⟨_, rfl⟩
  obtain ⟨X, hX⟩ : ∃ X, exV a b c = X := ⟨_, rfl⟩
  obtain ⟨F, hF⟩ : ∃ F, exE a b c = F := ⟨_, rfl⟩
  obtain ⟨B, hB⟩ : ∃ B, exB a b c = B := ⟨_, rfl⟩
  have HM := Lib.hid (And.intro hV hE)
  have HX := Lib.hid (And.intro hX (And.intro hB hF))
  clear hV hE hX hF hB
  go_enter Try.func3, Try.ntmps3
  go_wp2_with fail
  refine (alive_any _).mono ?_
  rintro e w1 ⟨rfl, hb1⟩
  have T1 := Lib.hid ((ThreeAt.mk w a b c 23).keep hb1 (Nat.le_refl _))
  have HB1 := Lib.hid (((Below.refl w.heap.size w).alloc (Nat.le_refl _) _).trans (hb1.mono (by simp)))
  clear hb1
  obtain ⟨t0, t1, t2⟩ := T1.out
  go_wp2_with fail
  clear t0 t1 t2
  refine (mulDiv_any a b c _ HA.out HB.out HC.out).mono ?_
  rintro e w2 ⟨rfl, hb2⟩
  have T2 := Lib.hid (T1.out.keep hb2 (Nat.le_refl _))
  have HB2 := Lib.hid (HB1.out.trans (hb2.mono HB1.out.size))
  clear hb2
  rw [HM.out.1, HM.out.2]
  obtain ⟨t0, t1, t2⟩ := T2.out
  go_wp2_with fail
  clear t0 t1 t2
  refine (rmulDiv_any a b c _ HA.out HB.out HC.out).mono ?_
  rintro e w3 ⟨rfl, hb3⟩
  have T3 := Lib.hid (T2.out.keep hb3 (Nat.le_refl _))
  have HB3 := Lib.hid (HB2.out.trans (hb3.mono HB2.out.size))
  clear hb3
  rw [HM.out.1, HM.out.2]
  obtain ⟨t0, t1, t2⟩ := T3.out
  go_wp2_with fail
  clear t0 t1 t2
  refine (exact_any a b c _ HA.out HB.out HC.out).mono ?_
  rintro e w4 ⟨rfl, hb4⟩
  have T4 := Lib.hid (T3.out.keep hb4 (Nat.le_refl _))
  have HB4 := Lib.hid (HB3.out.trans (hb4.mono HB3.out.size))
  clear hb4
  rw [HX.out.1, HX.out.2.1, HX.out.2.2]
  obtain ⟨t0, t1, t2⟩ := T4.out
  go_wp2_with fail
  clear t0 t1 t2
  refine (rexact_any a b c _ HA.out HB.out HC.out).mono ?_
  rintro e w5 ⟨rfl, hb5⟩
  have T5 := Lib.hid (T4.out.keep hb5 (Nat.le_refl _))
  have HB5 := Lib.hid (HB4.out.trans (hb5.mono HB4.out.size))
  clear hb5
  rw [HX.out.1, HX.out.2.1, HX.out.2.2]
  go_wp2
  go_ret
  exact ⟨ret_true (by simp), HB5.out⟩
end Go.Proofs.Ytpcmaakpkemmbaa
