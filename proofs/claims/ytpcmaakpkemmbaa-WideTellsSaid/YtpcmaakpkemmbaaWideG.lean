/- The walks of wide.Gcd, of the document's own Gcd, and of the statements' own 'alive'. -/
import Derived.Test.YtpcmaakpkemmbaaWideCalls
namespace Go.Proofs.Ytpcmaakpkemmbaa
open Go.RowKit

/-- An integer of 32 bits. -/
def In32 (a : Int) : Prop := -2147483648 ≤ a ∧ a ≤ 2147483647
theorem in_of_wf_i64 {a : Int} (h : (Lit.int .i64 a).wf = true) : In64 a := by
  have e1 : IntKind.i64.min = -9223372036854775808 := rfl
  have e2 : IntKind.i64.max = 9223372036854775807 := rfl
  simp [Lit.wf, e1, e2] at h
  exact h
theorem in_of_wf_i32 {a : Int} (h : (Lit.int .i32 a).wf = true) : In32 a := by
  have e1 : IntKind.i32.min = -2147483648 := rfl
  have e2 : IntKind.i32.max = 2147483647 := rfl
  simp [Lit.wf, e1, e2] at h
  exact h

set_option maxHeartbeats 400000 in
theorem gcd_draws (a b : Int) (w : World) (ha : In64 a) (hb : In64 b) :
    Calls Try.prog 18 #[.int .i64 a, .int .i64 b] w fun e w' => e = .returned (.int .u64 ((Nat.gcd a.natAbs b.natAbs : Nat) : Int)) ∧ ∃ k, w' = w.drewN k := by
  have HA := Lib.hid ha
  have HB := Lib.hid hb
  have la := Lib.hid (abs_le ha)
  have lb := Lib.hid (abs_le hb)
  clear ha hb
  obtain ⟨G, hG⟩ : ∃ G : Nat, G = Nat.gcd a.natAbs b.natAbs := ⟨_, rfl⟩
  rw [← hG]
  have HG := Lib.hid hG.symm
  clear hG
  go_enter Try.func18, Try.ntmps18
  go_wp2_with fail
  refine (size_any a _ HA.out).mono ?_
  rintro e w' ⟨rfl, rfl⟩
  go_wp2_with fail
  refine (size_any b _ HB.out).mono ?_
  rintro e w' ⟨rfl, rfl⟩
  go_wp2_with fail
  go_loopw [5, 6] (fun x y wr => ∃ m n : Nat, x = .int .u64 m ∧ y = .int .u64 n ∧ Hid (Nat.gcd m n = G) ∧ m ≤ 9223372036854775808 ∧ n ≤ 9223372036854775808 ∧ ∃ k, wr = w.drewN k) (fun _ y _ => (intOf y).toNat)
  case atStart => exact ⟨a.natAbs, b.natAbs, rfl, rfl, HG, la.out, lb.out, 0, rfl⟩
  case round =>
    obtain ⟨m, n, rfl, rfl, hg, hm, hn, k, hbl⟩ := hrel
    have HBL := Lib.hid hbl
    clear hbl
    by_cases h : n = 0
    · subst h
      go_wp2
      go_ret
      exact ⟨ret_u64 (by have := hg.out; rw [Nat.gcd_zero_right] at this; rw [this]), k, HBL.out⟩
    · have h1 : ((n : Int) == 0) = false := by simp; omega
      have h2 : ((n : Int) != 0) = true := by simp; omega
      have h3 : (0 : Int) < n := by omega
      have h4 : m % n < n := Nat.mod_lt _ (by omega)
      have HM : Hid ((m : Int) % (n : Int) = ((m % n : Nat) : Int)) := Lib.hid (Int.natCast_emod m n).symm
      go_wp2
      go_quiet (fail)
      go_wp2
      go_roundw
      case rel => exact ⟨n, m % n, rfl, by first | rfl | rw [HM.out], Lib.hid ((Nat.gcd_comm n (m % n)).trans ((Nat.gcd_rec n m).symm.trans ((Nat.gcd_comm n m).trans hg.out))), hn, by omega, k + nq, by rw [HBL.out, World.drewN_drewN]⟩
      case measure => simp [intOf]; omega
theorem gcd_any (a b : Int) (w : World) (ha : In64 a) (hb : In64 b) :
    Calls Try.prog 18 #[.int .i64 a, .int .i64 b] w fun e w' => e = .returned (.int .u64 ((Nat.gcd a.natAbs b.natAbs : Nat) : Int)) ∧ Below w.heap.size w w' := by
  refine (gcd_draws a b w ha hb).mono ?_
  rintro e w' ⟨rfl, k, rfl⟩
  exact ⟨rfl, below_drewN (Below.refl _ _) _⟩

set_option maxHeartbeats 400000 in
theorem alive_any (w : World) :
    Calls Try.prog 11 #[] w fun e w' => e = .returned (.bool true) ∧ Below w.heap.size w w' := by
  go_enter Try.func11, Try.ntmps11
  go_wp2_with fail
  refine (mulDiv_any 7 1 2 _ ⟨by omega, by omega⟩ ⟨by omega, by omega⟩ ⟨by omega, by omega⟩).mono ?_
  rintro e w1 ⟨rfl, hb1⟩
  have HB1 := Lib.hid hb1
  clear hb1
  rw [show mdV 7 1 2 = 4 from by decide, show mdE 7 1 2 = 0 from by decide]
  go_wp2_with fail
  refine (mulDiv_any (-7) 1 2 _ ⟨by omega, by omega⟩ ⟨by omega, by omega⟩ ⟨by omega, by omega⟩).mono ?_
  rintro e w2 ⟨rfl, hb2⟩
  have HB2 := Lib.hid (HB1.out.trans (hb2.mono HB1.out.size))
  clear hb2
  rw [show mdV (-7) 1 2 = -4 from by decide, show mdE (-7) 1 2 = 0 from by decide]
  go_wp2_with fail
  refine (mulDiv_any 1 1 0 _ ⟨by omega, by omega⟩ ⟨by omega, by omega⟩ ⟨by omega, by omega⟩).mono ?_
  rintro e w3 ⟨rfl, hb3⟩
  have HB3 := Lib.hid (HB2.out.trans (hb3.mono HB2.out.size))
  clear hb3
  rw [show mdV 1 1 0 = 0 from by decide, show mdE 1 1 0 = 3 from by decide]
  go_wp2_with fail
  refine (exact_any 6 10 4 _ ⟨by omega, by omega⟩ ⟨by omega, by omega⟩ ⟨by omega, by omega⟩).mono ?_
  rintro e w4 ⟨rfl, hb4⟩
  have HB4 := Lib.hid (HB3.out.trans (hb4.mono HB3.out.size))
  clear hb4
  rw [show exV 6 10 4 = 15 from by decide, show exE 6 10 4 = 0 from by decide, show exB 6 10 4 = true from by decide]
  go_wp2_with fail
  refine (cmp_any 2 3 1 5 _ ⟨by omega, by omega⟩ ⟨by omega, by omega⟩ ⟨by omega, by omega⟩ ⟨by omega, by omega⟩).mono ?_
  rintro e w5 ⟨rfl, hb5⟩
  have HB5 := Lib.hid (HB4.out.trans (hb5.mono HB4.out.size))
  clear hb5
  rw [show cmpV 2 3 1 5 = 1 from by decide]
  go_wp2_with fail
  refine (gcd_any 12 (-18) _ ⟨by omega, by omega⟩ ⟨by omega, by omega⟩).mono ?_
  rintro e w6 ⟨rfl, hb6⟩
  have HB6 := Lib.hid (HB5.out.trans (hb6.mono HB5.out.size))
  clear hb6
  rw [show ((Nat.gcd (12 : Int).natAbs (-18 : Int).natAbs : Nat) : Int) = 6 from by decide]
  go_wp2
  go_ret
  exact ⟨rfl, HB6.out⟩
end Go.Proofs.Ytpcmaakpkemmbaa
