/- The walk of the law WideSigns: for any three amounts of 64 bits it returns true, and memory that was there stays. -/
import Derived.Test.YtpcmaakpkemmbaaWideThree
namespace Go.Proofs.Ytpcmaakpkemmbaa
open Go.RowKit

/-- Three amounts, one behind the other, from a cell on. -/
def ThreeOff (w : World) (g o : Nat) (a b c : Int) : Prop :=
  w.cell? ⟨g, o, none⟩ = some (.int .i64 a) ∧ w.cell? ⟨g, o + 1, none⟩ = some (.int .i64 b) ∧ w.cell? ⟨g, o + 2, none⟩ = some (.int .i64 c)
/-- The three that WideSigns goes through. -/
def SignRows (w : World) (g : Nat) (a b c : Int) : Prop := ThreeOff w g 0 (-a) b c ∧ ThreeOff w g 3 a (-b) c ∧ ThreeOff w g 6 a b (-c)
theorem SignRows.mk (w : World) (a b c : Int) (t : TypeId) : SignRows (w.alloc (.cells #[.int .i64 (-a), .int .i64 b, .int .i64 c, .int .i64 a, .int .i64 (-b), .int .i64 c, .int .i64 a, .int .i64 b, .int .i64 (-c)] t)) w.heap.size a b c := by
  unfold SignRows ThreeOff; simp [World.cell?_alloc_new]
theorem ThreeOff.keep {w w' : World} {g o B : Nat} {a b c : Int} (h : ThreeOff w g o a b c) (hb : Below B w w') (hB : w.heap.size ≤ B) : ThreeOff w' g o a b c := by
  obtain ⟨h0, h1, h2⟩ := h
  have hg : g < B := Nat.lt_of_lt_of_le (World.block_lt_of_cell? w _ h0) hB
  exact ⟨(hb.cell (p := ⟨g, o, none⟩) hg).trans h0, (hb.cell (p := ⟨g, o + 1, none⟩) hg).trans h1, (hb.cell (p := ⟨g, o + 2, none⟩) hg).trans h2⟩
theorem SignRows.keep {w w' : World} {g B : Nat} {a b c : Int} (h : SignRows w g a b c) (hb : Below B w w') (hB : w.heap.size ≤ B) : SignRows w' g a b c :=
  ⟨h.1.keep hb hB, h.2.1.keep hb hB, h.2.2.keep hb hB⟩

/-- wide.MulDiv, where what it answers is known. -/
theorem mulDiv_is (a b c V E : Int) (w : World) (ha : In64 a) (hb : In64 b) (hc : In64 c) (h : mdV a b c = V ∧ mdE a b c = E) :
    Calls Try.prog 12 #[.int .i64 a, .int .i64 b, .int .i64 c] w fun e w' => e = .returned (.tuple #[.int .i64 V, .int .i64 E]) ∧ Below w.heap.size w w' := by
  obtain ⟨rfl, rfl⟩ := h; exact mulDiv_any a b c w ha hb hc

set_option maxHeartbeats 1000000 in
theorem signs_edge (a b c : Int) (w : World)
    (h : (a == -9223372036854775808) = true ∨ ((a == -9223372036854775808) = false ∧ (b == -9223372036854775808) = true) ∨ ((a == -9223372036854775808) = false ∧ (b == -9223372036854775808) = false ∧ (c == -9223372036854775808) = true) ∨ ((a == -9223372036854775808) = false ∧ (b == -9223372036854775808) = false ∧ (c == -9223372036854775808) = false ∧ (c == 0) = true)) :
    Calls Try.prog 5 #[.agg #[.int .i64 a, .int .i64 b, .int .i64 c]] w fun e w' => e = .returned (.bool true) ∧ Below w.heap.size w w' := by
  rcases h with h | ⟨h, h'⟩ | ⟨h, h', h''⟩ | ⟨h, h', h'', h3⟩
  all_goals
    go_enter Try.func5, Try.ntmps5
    go_wp2_with fail
    refine (alive_any _).mono ?_
    rintro e w1 ⟨rfl, hb1⟩
    have T1 := Lib.hid ((ThreeAt.mk w a b c 23).keep hb1 (Nat.le_refl _))
    have HB1 := Lib.hid (((Below.refl w.heap.size w).alloc (Nat.le_refl _) _).trans (hb1.mono (by simp)))
    clear hb1
    obtain ⟨t0, t1, t2⟩ := T1.out
    go_wp2
    go_ret
    exact ⟨rfl, HB1.out⟩

set_option maxHeartbeats 4000000 in
set_option maxRecDepth 100000 in
theorem signs_rest (a b c X E Z G : Int) (w : World) (ha : In64 a) (hb : In64 b) (hc : In64 c) (h1 : (a == -9223372036854775808) = false) (h2 : (b == -9223372036854775808) = false) (h3 : (c == -9223372036854775808) = false) (h4 : (c == 0) = false)
    (k1 : Hid (mdV a b c = X ∧ mdE a b c = E)) (k2 : Hid (mdV b a c = X ∧ mdE b a c = E)) (k3 : Hid (mdV (-a) b c = Z ∧ mdE (-a) b c = G)) (k4 : Hid (mdV a (-b) c = Z ∧ mdE a (-b) c = G)) (k5 : Hid (mdV a b (-c) = Z ∧ mdE a b (-c) = G))
    (kk : (E = 0 ∧ G = 0 ∧ Z = -X ∧ -9223372036854775807 ≤ X ∧ X ≤ 9223372036854775807) ∨ (E = 2 ∧ G = 2 ∧ X = 0 ∧ Z = 0) ∨ (E = 0 ∧ G = 2 ∧ X = -9223372036854775808 ∧ Z = 0) ∨ (E = 2 ∧ G = 0 ∧ X = 0 ∧ Z = -9223372036854775808)) :
    Calls Try.prog 5 #[.agg #[.int .i64 a, .int .i64 b, .int .i64 c]] w fun e w' => e = .returned (.bool true) ∧ Below w.heap.size w w' := by
  have NA := in64_neg ha (by simpa using h1)
  have NB := in64_neg hb (by simpa using h2)
  have NC := in64_neg hc (by simpa using h3)
  have HA := Lib.hid ha
  have HB := Lib.hid hb
  have HC := Lib.hid hc
  have HNA := Lib.hid NA
  have HNB := Lib.hid NB
  have HNC := Lib.hid NC
  have a1 := NA.1
  have a2 := NA.2
  have b1 := NB.1
  have b2 := NB.2
  have c1 := NC.1
  have c2 := NC.2
  clear ha hb hc NA NB NC
  go_enter Try.func5, Try.ntmps5
  go_wp2_with fail
  refine (alive_any _).mono ?_
  rintro e w1 ⟨rfl, hb1⟩
  have T1 := Lib.hid ((ThreeAt.mk w a b c 23).keep hb1 (Nat.le_refl _))
  have HB1 := Lib.hid (((Below.refl w.heap.size w).alloc (Nat.le_refl _) _).trans (hb1.mono (by simp)))
  clear hb1
  obtain ⟨t0, t1, t2⟩ := T1.out
  go_wp2_with fail
  clear t0 t1 t2
  refine (mulDiv_is a b c X E _ HA.out HB.out HC.out k1.out).mono ?_
  rintro e w2 ⟨rfl, hb2⟩
  have T2 := Lib.hid (T1.out.keep hb2 (Nat.le_refl _))
  have HB2 := Lib.hid (HB1.out.trans (hb2.mono HB1.out.size))
  clear hb2
  obtain ⟨t0, t1, t2⟩ := T2.out
  go_wp2_with fail
  clear t0 t1 t2
  refine (mulDiv_is b a c X E _ HB.out HA.out HC.out k2.out).mono ?_
  rintro e w3 ⟨rfl, hb3⟩
  have T3 := Lib.hid (T2.out.keep hb3 (Nat.le_refl _))
  have HB3 := Lib.hid (HB2.out.trans (hb3.mono HB2.out.size))
  clear hb3
  obtain ⟨t0, t1, t2⟩ := T3.out
  go_wp2_with fail
  clear t0 t1 t2
  go_loopw [85] (fun i wr => (i = .int .i64 0 ∨ i = .int .i64 1 ∨ i = .int .i64 2 ∨ i = .int .i64 3) ∧ Hid (SignRows wr w3.heap.size a b c) ∧ Hid (Below w.heap.size w wr)) (fun i _ => 3 - (intOf i).toNat)
  case atStart => exact ⟨.inl rfl, Lib.hid (SignRows.mk w3 a b c 23), Lib.hid (HB3.out.alloc HB3.out.size _)⟩
  case round =>
    obtain ⟨rfl | rfl | rfl | rfl, hrows, hbl⟩ := hrel
    · obtain ⟨t0, t1, t2⟩ := hrows.out.1
      go_wp2_with fail
      clear t0 t1 t2
      refine (mulDiv_is (-a) b c Z G _ HNA.out HB.out HC.out k3.out).mono ?_
      rintro e w5 ⟨rfl, hb5⟩
      have HB5 := Lib.hid (((Below.refl wr.heap.size wr).alloc (Nat.le_refl _) _).trans (hb5.mono (by simp)))
      clear hb5
      rcases kk with ⟨rfl, rfl, rfl, x1, x2⟩ | ⟨rfl, rfl, rfl, rfl⟩ | ⟨rfl, rfl, rfl, rfl⟩ | ⟨rfl, rfl, rfl, rfl⟩
      all_goals
        go_wp2
        go_roundw
        case rel => exact ⟨.inr (.inl rfl), Lib.hid (hrows.out.keep HB5.out (Nat.le_refl _)), Lib.hid (hbl.out.trans (HB5.out.mono hbl.out.size))⟩
        case measure => simp [intOf]
    · obtain ⟨t0, t1, t2⟩ := hrows.out.2.1
      go_wp2_with fail
      clear t0 t1 t2
      refine (mulDiv_is a (-b) c Z G _ HA.out HNB.out HC.out k4.out).mono ?_
      rintro e w5 ⟨rfl, hb5⟩
      have HB5 := Lib.hid (((Below.refl wr.heap.size wr).alloc (Nat.le_refl _) _).trans (hb5.mono (by simp)))
      clear hb5
      rcases kk with ⟨rfl, rfl, rfl, x1, x2⟩ | ⟨rfl, rfl, rfl, rfl⟩ | ⟨rfl, rfl, rfl, rfl⟩ | ⟨rfl, rfl, rfl, rfl⟩
      all_goals
        go_wp2
        go_roundw
        case rel => exact ⟨.inr (.inr (.inl rfl)), Lib.hid (hrows.out.keep HB5.out (Nat.le_refl _)), Lib.hid (hbl.out.trans (HB5.out.mono hbl.out.size))⟩
        case measure => simp [intOf]
    · obtain ⟨t0, t1, t2⟩ := hrows.out.2.2
      go_wp2_with fail
      clear t0 t1 t2
      refine (mulDiv_is a b (-c) Z G _ HA.out HB.out HNC.out k5.out).mono ?_
      rintro e w5 ⟨rfl, hb5⟩
      have HB5 := Lib.hid (((Below.refl wr.heap.size wr).alloc (Nat.le_refl _) _).trans (hb5.mono (by simp)))
      clear hb5
      rcases kk with ⟨rfl, rfl, rfl, x1, x2⟩ | ⟨rfl, rfl, rfl, rfl⟩ | ⟨rfl, rfl, rfl, rfl⟩ | ⟨rfl, rfl, rfl, rfl⟩
      all_goals
        go_wp2
        go_roundw
        case rel => exact ⟨.inr (.inr (.inr rfl)), Lib.hid (hrows.out.keep HB5.out (Nat.le_refl _)), Lib.hid (hbl.out.trans (HB5.out.mono hbl.out.size))⟩
        case measure => simp [intOf]
    · go_wp2
      go_ret
      exact ⟨rfl, hbl.out⟩

theorem wideSigns_walk (a b c : Int) (w : World) (ha : In64 a) (hb : In64 b) (hc : In64 c) :
    Calls Try.prog 5 #[.agg #[.int .i64 a, .int .i64 b, .int .i64 c]] w fun e w' => e = .returned (.bool true) ∧ Below w.heap.size w w' := by
  cases h1 : a == -9223372036854775808 with
  | true => exact signs_edge a b c w (.inl h1)
  | false =>
    cases h2 : b == -9223372036854775808 with
    | true => exact signs_edge a b c w (.inr (.inl ⟨h1, h2⟩))
    | false =>
      cases h3 : c == -9223372036854775808 with
      | true => exact signs_edge a b c w (.inr (.inr (.inl ⟨h1, h2, h3⟩)))
      | false =>
        cases h4 : c == 0 with
        | true => exact signs_edge a b c w (.inr (.inr (.inr ⟨h1, h2, h3, h4⟩)))
        | false =>
          obtain ⟨X, E, Z, G, k1, k2, k3, k4, k5, kk⟩ := signs_all (a := a) (b := b) (c := c) (by simpa using h4)
          exact signs_rest a b c X E Z G w ha hb hc h1 h2 h3 h4 (Lib.hid k1) (Lib.hid k2) (Lib.hid k3) (Lib.hid k4) (Lib.hid k5) kk
end Go.Proofs.Ytpcmaakpkemmbaa
