/- The walk of wide.Gcd. -/
import Derived.Test.YtikjjbimokajfaaDoorWideCalls
namespace Go.Proofs.YtikjjbimokajfaaDoor
open Go.RowKit


set_option maxHeartbeats 400000 in
theorem gcd_draws (a b : Int) (w : World) (ha : In64 a) (hb : In64 b) :
    Calls Tryd.prog 23 #[.int .i64 a, .int .i64 b] w fun e w' => e = .returned (.int .u64 ((Nat.gcd a.natAbs b.natAbs : Nat) : Int)) ∧ ∃ k, w' = w.drewN k := by
  have HA := Lib.hid ha
  have HB := Lib.hid hb
  have la := Lib.hid (abs_le ha)
  have lb := Lib.hid (abs_le hb)
  clear ha hb
  obtain ⟨G, hG⟩ : ∃ G : Nat, G = Nat.gcd a.natAbs b.natAbs := ⟨_, rfl⟩
  rw [← hG]
  have HG := Lib.hid hG.symm
  clear hG
  go_enter Tryd.func23, Tryd.ntmps23
  go_wp2_with fail
  refine (size_any a _ HA.out).mono ?_
  rintro e w' ⟨rfl, rfl⟩
  go_wp2_with fail
  refine (size_any b _ HB.out).mono ?_
  rintro e w' ⟨rfl, rfl⟩
  go_wp2_with fail
  go_loopw [5, 6] (fun x y wr => ∃ m n : Nat, x = .int .u64 m ∧ y = .int .u64 n ∧ Hid (Nat.gcd m n = G) ∧ m ≤ 9223372036854775808 ∧ n ≤ 9223372036854775808 ∧ ∃ k, wr = w.drewN k) (fun _ y _ => (intOf y).toNat)
  case atStart => exact ⟨a.natAbs, b.natAbs, rfl, rfl, HG, la.out, lb.out, 0, rfl⟩
  case round =>
    obtain ⟨m, n, rfl, rfl, hg, hm, hn, k, hbl⟩ := hrel
    have HBL := Lib.hid hbl
    clear hbl
    by_cases h : n = 0
    · subst h
      go_wp2
      go_ret
      exact ⟨ret_u64 (by have := hg.out; rw [Nat.gcd_zero_right] at this; rw [this]), k, HBL.out⟩
    · have h1 : ((n : Int) == 0) = false := by simp; omega
      have h2 : ((n : Int) != 0) = true := by simp; omega
      have h3 : (0 : Int) < n := by omega
      have h4 : m % n < n := Nat.mod_lt _ (by omega)
      have HM : Hid ((m : Int) % (n : Int) = ((m % n : Nat) : Int)) := Lib.hid (Int.natCast_emod m n).symm
      go_wp2
      go_quiet (fail)
      go_wp2
      go_roundw
      case rel => exact ⟨n, m % n, rfl, by first | rfl | rw [HM.out], Lib.hid ((Nat.gcd_comm n (m % n)).trans ((Nat.gcd_rec n m).symm.trans ((Nat.gcd_comm n m).trans hg.out))), hn, by omega, k + nq, by rw [HBL.out, World.drewN_drewN]⟩
      case measure => simp [intOf]; omega
theorem gcd_any (a b : Int) (w : World) (ha : In64 a) (hb : In64 b) :
    Calls Tryd.prog 23 #[.int .i64 a, .int .i64 b] w fun e w' => e = .returned (.int .u64 ((Nat.gcd a.natAbs b.natAbs : Nat) : Int)) ∧ Below w.heap.size w w' := by
  refine (gcd_draws a b w ha hb).mono ?_
  rintro e w' ⟨rfl, k, rfl⟩
  exact ⟨rfl, below_drewN (Below.refl _ _) _⟩

end Go.Proofs.YtikjjbimokajfaaDoor
