/- The walk of the law RateChains: for any slice of integers it returns true, and memory that was there stays. -/
import Derived.Test.YtikjjbimokajfaaDoorRateAlive
namespace Go.Proofs.YtikjjbimokajfaaDoor
open Go.RowKit

set_option maxHeartbeats 1000000 in
theorem rateChains_walk (p : Option Addr) (n c : Nat) (l : List Int) (w : World) (h : RowIs .i64 w p n l) (hL : Laid w) :
    Calls Tryd.prog 4 #[.slice p n c] w fun e w' => e = .returned (.bool true) ∧ Below w.heap.size w w' := by
  have hm := h.max
  unfold maxLen at hm
  have H := Lib.hid h
  have HL := Lib.hid hL
  clear h hL
  by_cases hn : 200 < n
  · go_enter Tryd.func4, Tryd.ntmps4
    go_wp2_with fail
    refine (rateAlive_any _ HL.out).mono ?_
    rintro e w1 ⟨rfl, hb1⟩
    have HB1 := Lib.hid hb1
    clear hb1
    go_wp2
    go_ret
    exact ⟨rfl, HB1.out⟩
  · have hd : decide ((200 : Int) < (n : Int)) = false := by simp; omega
    obtain ⟨x, hx⟩ : ∃ x, (chain l).1 = x := ⟨_, rfl⟩
    obtain ⟨y, hy⟩ : ∃ y, (chain l).2 = y := ⟨_, rfl⟩
    have HX := Lib.hid (And.intro hx hy)
    clear hx hy
    go_enter Tryd.func4, Tryd.ntmps4
    go_wp2_with fail
    refine (rateAlive_any _ HL.out).mono ?_
    rintro e w1 ⟨rfl, hb1⟩
    have HB1 := Lib.hid hb1
    have H1 := Lib.hid (H.out.keep hb1 (Nat.le_refl _))
    clear hb1
    go_wp2_with fail
    refine (chain_any _ _ _ l _ H1.out).mono ?_
    rintro e w' ⟨rfl, rfl⟩
    rw [HX.out.1, HX.out.2]
    go_wp2_with fail
    refine (qchain_any _ _ _ l _ H1.out).mono ?_
    rintro e w' ⟨rfl, rfl⟩
    rw [HX.out.1, HX.out.2]
    go_wp2
    go_ret
    exact ⟨ret_true (by simp), HB1.out⟩
end Go.Proofs.YtikjjbimokajfaaDoor
