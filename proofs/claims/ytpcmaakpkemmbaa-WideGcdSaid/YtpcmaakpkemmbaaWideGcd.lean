/- The walk of the law WideGcd: for any two amounts of 64 bits it returns true, and memory that was there stays. -/
import Derived.Test.YtpcmaakpkemmbaaWideG
import Derived.Test.YtpcmaakpkemmbaaWideFacts
namespace Go.Proofs.Ytpcmaakpkemmbaa
open Go.RowKit

theorem gcd_is (a b : Int) (G : Nat) (w : World) (ha : In64 a) (hb : In64 b) (hG : Nat.gcd a.natAbs b.natAbs = G) :
    Calls Try.prog 18 #[.int .i64 a, .int .i64 b] w fun e w' => e = .returned (.int .u64 (G : Int)) ∧ ∃ k, w' = w.drewN k := by
  subst hG; exact gcd_draws a b w ha hb

set_option maxHeartbeats 1000000 in
theorem gcd_rest (a b A B : Int) (G : Nat) (w : World) (ha : In64 a) (hb : In64 b) (hG : Hid (Nat.gcd a.natAbs b.natAbs = G)) (h0 : 0 < G) (hG' : G ≤ 9223372036854775807)
    (ha' : (a == -9223372036854775808) = false) (hb' : (b == -9223372036854775808) = false) (hA : In64 A) (hB : In64 B) (e1 : a.tmod G = 0) (e2 : b.tmod G = 0) (e3 : a.tdiv G = A) (e4 : b.tdiv G = B) (hAB : Hid (Nat.gcd A.natAbs B.natAbs = 1)) :
    Calls Try.prog 8 #[.int .i64 a, .int .i64 b] w fun e w' => e = .returned (.bool true) ∧ Below w.heap.size w w' := by
  have HA := Lib.hid ha
  have HB := Lib.hid hb
  have HC := Lib.hid hA
  have HD := Lib.hid hB
  have g1 : ((G : Int) == 0) = false := by simp; omega
  have g2 : (0 : Int) < G := by omega
  have n0 : In64 (-a) := in64_neg ha (by simpa using ha')
  have n1 := n0.1
  have n2 := n0.2
  have HN := Lib.hid n0
  have e5 : IntKind.i64.wrap A = A := IntWalk.i64_in _ (by obtain ⟨_, _⟩ := hA; omega)
  have e6 : IntKind.i64.wrap B = B := IntWalk.i64_in _ (by obtain ⟨_, _⟩ := hB; omega)
  have e7 : IntKind.i64.wrap (-a) = -a := IntWalk.i64_in _ (by omega)
  have HG1 : Hid (Nat.gcd b.natAbs a.natAbs = G) := Lib.hid (by rw [Nat.gcd_comm]; exact hG.out)
  have HG2 : Hid (Nat.gcd (-a).natAbs b.natAbs = G) := Lib.hid (by rw [Int.natAbs_neg]; exact hG.out)
  clear ha hb hA hB n0
  go_enter Try.func8, Try.ntmps8
  go_wp2_with fail
  refine (alive_any _).mono ?_
  rintro e w1 ⟨rfl, hb1⟩
  have HB1 := Lib.hid hb1
  clear hb1
  go_wp2_with fail
  refine (gcd_is a b G _ HA.out HB.out hG.out).mono ?_
  rintro e w2 ⟨rfl, k, hk⟩
  have HB2 : Hid (Below w.heap.size w w2) := Lib.hid (by rw [hk]; exact below_drewN HB1.out k)
  clear hk
  go_wp2_with fail
  go_quiet (first
    | (with_reducible exact Calls.quiet_of (gcd_is A B 1 _ HC.out HD.out hAB.out))
    | (with_reducible exact Calls.quiet_of (gcd_is b a G _ HB.out HA.out HG1.out))
    | (with_reducible exact Calls.quiet_of (gcd_is (-a) b G _ HN.out HB.out HG2.out)))
  go_wp2
  go_ret
  exact ⟨rfl, below_drewN HB2.out _⟩

set_option maxHeartbeats 1000000 in
theorem gcd_edge (a b : Int) (G : Nat) (w : World) (ha : In64 a) (hb : In64 b) (hG : Hid (Nat.gcd a.natAbs b.natAbs = G)) (h0 : 0 < G) (h : (a == -9223372036854775808) = true ∨ ((a == -9223372036854775808) = false ∧ (b == -9223372036854775808) = true)) :
    Calls Try.prog 8 #[.int .i64 a, .int .i64 b] w fun e w' => e = .returned (.bool true) ∧ Below w.heap.size w w' := by
  have HA := Lib.hid ha
  have HB := Lib.hid hb
  have g1 : ((G : Int) == 0) = false := by simp; omega
  have g2 : ((G : Int) != 0) = true := by simp; omega
  clear ha hb
  rcases h with h | ⟨h, h'⟩
  all_goals
    go_enter Try.func8, Try.ntmps8
    go_wp2_with fail
    refine (alive_any _).mono ?_
    rintro e w1 ⟨rfl, hb1⟩
    have HB1 := Lib.hid hb1
    clear hb1
    go_wp2_with fail
    refine (gcd_is a b G _ HA.out HB.out hG.out).mono ?_
    rintro e w2 ⟨rfl, k, hk⟩
    have HB2 : Hid (Below w.heap.size w w2) := Lib.hid (by rw [hk]; exact below_drewN HB1.out k)
    clear hk
    go_wp2
    go_ret
    exact ⟨rfl, HB2.out⟩

set_option maxHeartbeats 1000000 in
theorem gcd_none (w : World) :
    Calls Try.prog 8 #[.int .i64 0, .int .i64 0] w fun e w' => e = .returned (.bool true) ∧ Below w.heap.size w w' := by
  go_enter Try.func8, Try.ntmps8
  go_wp2_with fail
  refine (alive_any _).mono ?_
  rintro e w1 ⟨rfl, hb1⟩
  have HB1 := Lib.hid hb1
  clear hb1
  go_wp2_with fail
  refine (gcd_is 0 0 0 _ ⟨by omega, by omega⟩ ⟨by omega, by omega⟩ rfl).mono ?_
  rintro e w2 ⟨rfl, k, hk⟩
  have HB2 : Hid (Below w.heap.size w w2) := Lib.hid (by rw [hk]; exact below_drewN HB1.out k)
  clear hk
  go_wp2
  go_ret
  exact ⟨rfl, HB2.out⟩

theorem wideGcd_walk (a b : Int) (w : World) (ha : In64 a) (hb : In64 b) :
    Calls Try.prog 8 #[.int .i64 a, .int .i64 b] w fun e w' => e = .returned (.bool true) ∧ Below w.heap.size w w' := by
  rcases Nat.eq_zero_or_pos (Nat.gcd a.natAbs b.natAbs) with h | h
  · obtain ⟨rfl, rfl⟩ := gcd_zero h
    exact gcd_none w
  · by_cases h1 : a = -9223372036854775808
    · exact gcd_edge a b _ w ha hb (Lib.hid rfl) h (.inl (by simpa using h1))
    · by_cases h2 : b = -9223372036854775808
      · exact gcd_edge a b _ w ha hb (Lib.hid rfl) h (.inr ⟨by simpa using h1, by simpa using h2⟩)
      · obtain ⟨f1, f2, f3⟩ := gcd_facts rfl h
        exact gcd_rest a b _ _ _ w ha hb (Lib.hid rfl) h (gcd_small rfl h ha hb h1 h2) (by simpa using h1) (by simpa using h2) (quot_in _ ha h1) (quot_in _ hb h2) f1 f2 rfl rfl (Lib.hid f3)
end Go.Proofs.Ytpcmaakpkemmbaa
