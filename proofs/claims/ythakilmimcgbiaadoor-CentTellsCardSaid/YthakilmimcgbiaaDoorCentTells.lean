/- The walk of the law CentTells: for any two amounts and any list of amounts of 64 bits it returns true, and memory that was there stays. -/
import Derived.Test.YthakilmimcgbiaaDoorCentAlive
namespace Go.Proofs.YthakilmimcgbiaaDoor
open Go.RowKit

theorem RowIs.below {k : IntKind} {w w' : World} {a : Option Addr} {n : Nat} {l : List Int} (h : RowIs k w a n l) (hb : Below w.heap.size w w') : RowIs k w' a n l :=
  ⟨h.len, h.max, fun i hi => by
    obtain ⟨b, o, e, hc⟩ := h.cell i hi
    exact ⟨b, o, e, (hb.cell (World.block_lt_of_cell? w _ hc)).trans hc⟩⟩

set_option maxHeartbeats 400000 in
theorem centTells_walk (a b : Int) (p : Option Addr) (n c : Nat) (l : List Int) (w : World) (ha : In64 a) (hb : In64 b) (hr : RowIs .i64 w p n l) (hz : ∀ x ∈ l, In64 x) (hL : Laid w) :
    Calls Tryd.prog 3 #[.int .i64 a, .int .i64 b, .slice p n c] w fun e w' => e = .returned (.bool true) ∧ Below w.heap.size w w' := by
  have hm := hr.max
  unfold maxLen at hm
  have HL := Lib.hid hL
  have HA := Lib.hid ha
  have HB := Lib.hid hb
  have HR := Lib.hid hr
  have HZ := Lib.hid hz
  clear hL ha hb hr hz
  by_cases hn : 300 < n
  · have hn' : (300 : Int) < (n : Int) := by omega
    go_enter Tryd.func3, Tryd.ntmps3
    go_wp2_with fail
    refine (alive_any _ HL.out).mono ?_
    rintro e w1 ⟨rfl, hb1⟩
    have HB1 := Lib.hid hb1
    clear hb1
    go_wp2
    go_ret
    exact ⟨rfl, HB1.out⟩
  · have hn' : (n : Int) ≤ 300 := by omega
    go_enter Tryd.func3, Tryd.ntmps3
    go_wp2_with fail
    refine (alive_any _ HL.out).mono ?_
    rintro e w1 ⟨rfl, hb1⟩
    have HB1 := Lib.hid hb1
    have HR1 := Lib.hid (HR.out.below hb1)
    clear hb1
    go_wp2_with fail
    refine (add_any _ _ _ HA.out HB.out).mono ?_
    rintro e w' ⟨rfl, rfl⟩
    go_wp2_with fail
    refine (radd_any _ _ _ HA.out HB.out).mono ?_
    rintro e w' ⟨rfl, rfl⟩
    go_wp2_with fail
    refine (sub_any _ _ _ HA.out HB.out).mono ?_
    rintro e w' ⟨rfl, rfl⟩
    go_wp2_with fail
    refine (rsub_any _ _ _ HA.out HB.out).mono ?_
    rintro e w' ⟨rfl, rfl⟩
    go_wp2_with fail
    refine (neg_any _ _ HA.out).mono ?_
    rintro e w' ⟨rfl, rfl⟩
    go_wp2_with fail
    refine (rneg_any _ _ HA.out).mono ?_
    rintro e w' ⟨rfl, rfl⟩
    go_wp2_with fail
    refine (sum_any _ _ _ l _ HR1.out HZ.out).mono ?_
    rintro e w' ⟨rfl, rfl⟩
    go_wp2_with fail
    refine (rsum_any _ _ _ l _ HR1.out HZ.out).mono ?_
    rintro e w' ⟨rfl, rfl⟩
    go_wp2
    go_ways
    go_ret
    exact ⟨rfl, HB1.out⟩
end Go.Proofs.YthakilmimcgbiaaDoor
