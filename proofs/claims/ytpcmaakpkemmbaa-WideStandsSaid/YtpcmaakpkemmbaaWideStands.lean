/- The walk of the law WideStands: for any four amounts of 64 bits it returns true, and memory that was there stays. -/
import Derived.Test.YtpcmaakpkemmbaaWideThree
import Derived.Test.YtpcmaakpkemmbaaRefCalls
import Derived.Test.YtpcmaakpkemmbaaRefCmp
namespace Go.Proofs.Ytpcmaakpkemmbaa
open Go.RowKit

section
variable {w0 w : World} {g : Nat} {a b c : Int}
theorem held_drew (h : (w.cell? ⟨g, 0, none⟩ = some (.int .i64 a) ∧ w.cell? ⟨g, 1, none⟩ = some (.int .i64 b) ∧ w.cell? ⟨g, 2, none⟩ = some (.int .i64 c)) ∧ Below w0.heap.size w0 w) :
    (w.drew.cell? ⟨g, 0, none⟩ = some (.int .i64 a) ∧ w.drew.cell? ⟨g, 1, none⟩ = some (.int .i64 b) ∧ w.drew.cell? ⟨g, 2, none⟩ = some (.int .i64 c)) ∧ Below w0.heap.size w0 w.drew := ⟨h.1, h.2.drew⟩
theorem held_end (h : (w.cell? ⟨g, 0, none⟩ = some (.int .i64 a) ∧ w.cell? ⟨g, 1, none⟩ = some (.int .i64 b) ∧ w.cell? ⟨g, 2, none⟩ = some (.int .i64 c)) ∧ Below w0.heap.size w0 w) : Below w0.heap.size w0 w := h.2
theorem held_below {w' : World} (h : (w.cell? ⟨g, 0, none⟩ = some (.int .i64 a) ∧ w.cell? ⟨g, 1, none⟩ = some (.int .i64 b) ∧ w.cell? ⟨g, 2, none⟩ = some (.int .i64 c)) ∧ Below w0.heap.size w0 w) (hb : Below w.heap.size w w') :
    (w'.cell? ⟨g, 0, none⟩ = some (.int .i64 a) ∧ w'.cell? ⟨g, 1, none⟩ = some (.int .i64 b) ∧ w'.cell? ⟨g, 2, none⟩ = some (.int .i64 c)) ∧ Below w0.heap.size w0 w' :=
  ⟨ThreeAt.keep h.1 hb (Nat.le_refl _), h.2.trans (hb.mono h.2.size)⟩
theorem cmp_held (p q r s Y : Int) (hp : In64 p) (hq : In64 q) (hr : In64 r) (hs : In64 s) (hY : cmpV p q r s = Y)
    (h : (w.cell? ⟨g, 0, none⟩ = some (.int .i64 a) ∧ w.cell? ⟨g, 1, none⟩ = some (.int .i64 b) ∧ w.cell? ⟨g, 2, none⟩ = some (.int .i64 c)) ∧ Below w0.heap.size w0 w) :
    Calls Try.prog 16 #[.int .i64 p, .int .i64 q, .int .i64 r, .int .i64 s] w fun e w' => e = .returned (.int .i64 Y) ∧
      ((w'.cell? ⟨g, 0, none⟩ = some (.int .i64 a) ∧ w'.cell? ⟨g, 1, none⟩ = some (.int .i64 b) ∧ w'.cell? ⟨g, 2, none⟩ = some (.int .i64 c)) ∧ Below w0.heap.size w0 w') := by
  subst hY
  refine (cmp_any p q r s w hp hq hr hs).mono ?_
  rintro e w' ⟨rfl, hb⟩
  exact ⟨rfl, held_below h hb⟩
theorem rcmp_held (p q r s Y : Int) (hp : In64 p) (hq : In64 q) (hr : In64 r) (hs : In64 s) (hY : cmpV p q r s = Y)
    (h : (w.cell? ⟨g, 0, none⟩ = some (.int .i64 a) ∧ w.cell? ⟨g, 1, none⟩ = some (.int .i64 b) ∧ w.cell? ⟨g, 2, none⟩ = some (.int .i64 c)) ∧ Below w0.heap.size w0 w) :
    Calls Try.prog 17 #[.int .i64 p, .int .i64 q, .int .i64 r, .int .i64 s] w fun e w' => e = .returned (.int .i64 Y) ∧
      ((w'.cell? ⟨g, 0, none⟩ = some (.int .i64 a) ∧ w'.cell? ⟨g, 1, none⟩ = some (.int .i64 b) ∧ w'.cell? ⟨g, 2, none⟩ = some (.int .i64 c)) ∧ Below w0.heap.size w0 w') := by
  subst hY
  refine (rcmp_any p q r s w hp hq hr hs).mono ?_
  rintro e w' ⟨rfl, hb⟩
  exact ⟨rfl, held_below h hb⟩
theorem gcd_held (p q : Int) (G : Nat) (hp : In64 p) (hq : In64 q) (hG : Nat.gcd p.natAbs q.natAbs = G)
    (h : (w.cell? ⟨g, 0, none⟩ = some (.int .i64 a) ∧ w.cell? ⟨g, 1, none⟩ = some (.int .i64 b) ∧ w.cell? ⟨g, 2, none⟩ = some (.int .i64 c)) ∧ Below w0.heap.size w0 w) :
    Calls Try.prog 18 #[.int .i64 p, .int .i64 q] w fun e w' => e = .returned (.int .u64 (G : Int)) ∧
      ((w'.cell? ⟨g, 0, none⟩ = some (.int .i64 a) ∧ w'.cell? ⟨g, 1, none⟩ = some (.int .i64 b) ∧ w'.cell? ⟨g, 2, none⟩ = some (.int .i64 c)) ∧ Below w0.heap.size w0 w') := by
  subst hG
  refine (gcd_any p q w hp hq).mono ?_
  rintro e w' ⟨rfl, hb⟩
  exact ⟨rfl, held_below h hb⟩
theorem rgcd_held (p q : Int) (G : Nat) (hp : In64 p) (hq : In64 q) (hG : Nat.gcd p.natAbs q.natAbs = G)
    (h : (w.cell? ⟨g, 0, none⟩ = some (.int .i64 a) ∧ w.cell? ⟨g, 1, none⟩ = some (.int .i64 b) ∧ w.cell? ⟨g, 2, none⟩ = some (.int .i64 c)) ∧ Below w0.heap.size w0 w) :
    Calls Try.prog 19 #[.int .i64 p, .int .i64 q] w fun e w' => e = .returned (.int .u64 (G : Int)) ∧
      ((w'.cell? ⟨g, 0, none⟩ = some (.int .i64 a) ∧ w'.cell? ⟨g, 1, none⟩ = some (.int .i64 b) ∧ w'.cell? ⟨g, 2, none⟩ = some (.int .i64 c)) ∧ Below w0.heap.size w0 w') := by
  subst hG
  refine (rgcd_any p q w hp hq).mono ?_
  rintro e w' ⟨rfl, rfl⟩
  exact ⟨rfl, h⟩
end

set_option maxHeartbeats 4000000 in
theorem wideStands_walk (a b c d : Int) (w : World) (ha : In64 a) (hb : In64 b) (hc : In64 c) (hd : In64 d) :
    Calls Try.prog 4 #[.agg #[.int .i64 a, .int .i64 b, .int .i64 c], .int .i64 d] w fun e w' => e = .returned (.bool true) ∧ Below w.heap.size w w' := by
  have HA := Lib.hid ha
  have HB := Lib.hid hb
  have HC := Lib.hid hc
  have HD := Lib.hid hd
  clear ha hb hc hd
  obtain ⟨Y, hY⟩ : ∃ Y, cmpV a b c d = Y := ⟨_, rfl⟩
  obtain ⟨G, hG⟩ : ∃ G, Nat.gcd a.natAbs b.natAbs = G := ⟨_, rfl⟩
  have KY := Lib.hid hY
  have KG := Lib.hid hG
  clear hY hG
  go_enter Try.func4, Try.ntmps4
  go_wp2_with fail
  refine (alive_any _).mono ?_
  rintro e w1 ⟨rfl, hb1⟩
  have T1 := (ThreeAt.mk w a b c 23).keep hb1 (Nat.le_refl _)
  have HB1 := (((Below.refl w.heap.size w).alloc (Nat.le_refl _) _).trans (hb1.mono (by simp)))
  clear hb1
  have hS : (w1.cell? ⟨w.heap.size, 0, none⟩ = some (.int .i64 a) ∧ w1.cell? ⟨w.heap.size, 1, none⟩ = some (.int .i64 b) ∧ w1.cell? ⟨w.heap.size, 2, none⟩ = some (.int .i64 c)) ∧ Below w.heap.size w w1 := ⟨T1, HB1⟩
  have HS := Lib.hid hS
  clear T1 HB1 hS
  go_wp2_with fail
  have hS := HS.out
  obtain ⟨⟨t0, t1, t2⟩, kb⟩ := HS.out
  go_region_held3 (fun w' => (w'.cell? ⟨w.heap.size, 0, none⟩ = some (.int .i64 a) ∧ w'.cell? ⟨w.heap.size, 1, none⟩ = some (.int .i64 b) ∧ w'.cell? ⟨w.heap.size, 2, none⟩ = some (.int .i64 c)) ∧ Below w.heap.size w w') (first | assumption | exact held_drew (by assumption) | fail)
    (first
      | (go_at_call 16; refine (cmp_held a b c d Y HA.out HB.out HC.out HD.out KY.out (by assumption)).mono ?_; rintro e wx ⟨rfl, hx⟩)
      | (go_at_call 17; refine (rcmp_held a b c d Y HA.out HB.out HC.out HD.out KY.out (by assumption)).mono ?_; rintro e wx ⟨rfl, hx⟩)
      | (go_at_call 18; refine (gcd_held a b G HA.out HB.out KG.out (by assumption)).mono ?_; rintro e wx ⟨rfl, hx⟩)
      | (go_at_call 19; refine (rgcd_held a b G HA.out HB.out KG.out (by assumption)).mono ?_; rintro e wx ⟨rfl, hx⟩)
      | fail)
  all_goals
    go_wp2
    go_ret
    first
      | exact ⟨rfl, held_end (g := w.heap.size) (a := a) (b := b) (c := c) (by assumption)⟩
      | exact ⟨rfl, held_end (held_drew (g := w.heap.size) (a := a) (b := b) (c := c) (by assumption))⟩
      | fail
end Go.Proofs.Ytpcmaakpkemmbaa
