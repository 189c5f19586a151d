/- The walk of the law WideNear: for any three numbers of 32 bits it returns true, and memory that was there stays. -/
import Derived.Test.YtpcmaakpkemmbaaWideG
import Derived.Test.YtpcmaakpkemmbaaWideFacts
namespace Go.Proofs.Ytpcmaakpkemmbaa
open Go.RowKit

theorem ret_true {b : Bool} (h : b = true) : Ending.returned (.bool b) = .returned (.bool true) := by rw [h]

set_option maxHeartbeats 1000000 in
theorem wideNear_walk (a b c : Int) (w : World) (ha : In32 a) (hb : In32 b) (hc : In32 c) :
    Calls Try.prog 7 #[.int .i32 a, .int .i32 b, .int .i32 c] w fun e w' => e = .returned (.bool true) ∧ Below w.heap.size w w' := by
  obtain ⟨a1, a2⟩ := ha
  obtain ⟨b1, b2⟩ := hb
  obtain ⟨c1, c2⟩ := hc
  by_cases h0 : c = 0
  · subst h0
    go_enter Try.func7, Try.ntmps7
    go_wp2_with fail
    refine (alive_any _).mono ?_
    rintro e w1 ⟨rfl, hb1⟩
    go_wp2
    go_ret
    exact ⟨rfl, hb1⟩
  · have hp := prod32 a1 a2 b1 b2
    obtain ⟨n1, n2⟩ := near_fact (a := a) (b := b) h0
    have HE := Lib.hid (show mdE a b c = 0 by rw [mdE_eq h0, if_pos (near_bd hp)])
    have hv : mdV a b c = qQ a b c := by rw [mdV_eq h0, if_pos (near_bd hp)]
    obtain ⟨X, hX⟩ : ∃ X, X = mdV a b c := ⟨_, rfl⟩
    rw [← hv, ← hX] at n1 n2
    obtain ⟨P, EP⟩ : ∃ P, a * b = P := ⟨_, rfl⟩
    obtain ⟨M, EM⟩ : ∃ M, X * c = M := ⟨_, rfl⟩
    rw [EP] at hp n1 n2
    rw [EM] at n1 n2
    have HX := Lib.hid hX.symm
    clear hv hX
    have hz : (c == 0) = false := by simpa using h0
    have p1 : -4611686018427387904 ≤ P := by omega
    have p2 : P ≤ 4611686018427387904 := by omega
    have m1 : -4611686020574871552 ≤ M := by omega
    have m2 : M ≤ 4611686020574871552 := by omega
    go_enter Try.func7, Try.ntmps7
    go_wp2_with fail
    refine (alive_any _).mono ?_
    rintro e w1 ⟨rfl, hb1⟩
    have HB1 := Lib.hid hb1
    clear hb1
    go_wp2_with fail
    refine (mulDiv_any a b c _ ⟨by omega, by omega⟩ ⟨by omega, by omega⟩ ⟨by omega, by omega⟩).mono ?_
    rintro e w2 ⟨rfl, hb2⟩
    have HB2 := Lib.hid (HB1.out.trans (hb2.mono HB1.out.size))
    clear hb2
    rw [HE.out, HX.out]
    go_wp2_with fail
    all_goals
      clear EP EM
      first
        | (exfalso; omega)
        | (go_ret; exact ⟨ret_true (by first | rfl | (simp; omega)), HB2.out⟩)
end Go.Proofs.Ytpcmaakpkemmbaa
