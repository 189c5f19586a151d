
/- The walks of the program's inner functions of layer 2: size, multiply, divide, farther, narrow, compareSizes: each hands back what plain arithmetic says; nothing that lay in memory changes. -/
import Derived.Test.YticcpcejdndplaaDivAny
import Derived.Test.YticcpcejdndplaaWidePlain
import Derived.WalkSmall
import Derived.Deep.QuietTactic
import Derived.BigQuiet
import Derived.Below
import Derived.Laws.Externs
namespace Go.Proofs.Yticcpcejdndplaa
open Go.RowKit

/-- A number of the program's own (a sign and two halves) that lies in a block of its own, and may be written to. -/
def NumAt (w : World) (g : Nat) (s : Bool) (n : Nat) : Prop :=
  (w.cell? ⟨g, 0, none⟩ = some (.bool s) ∧ w.cell? ⟨g, 1, none⟩ = some (.int .u64 (hi64 n)) ∧ w.cell? ⟨g, 2, none⟩ = some (.int .u64 (lo64 n))) ∧
    w.frozen? ⟨g, 0, none⟩ = false ∧ w.frozen? ⟨g, 1, none⟩ = false ∧ w.frozen? ⟨g, 2, none⟩ = false
theorem NumAt.mk (w : World) (s : Bool) (n : Nat) (t : TypeId) : NumAt (w.alloc (.cells #[.bool s, .int .u64 (hi64 n), .int .u64 (lo64 n)] t)) w.heap.size s n := by
  unfold NumAt; simp [go_sem]
theorem NumAt.keep {w w' : World} {g : Nat} {s : Bool} {n : Nat} (h : NumAt w g s n) (hb : Below w.heap.size w w') : NumAt w' g s n := by
  obtain ⟨⟨h0, h1, h2⟩, f0, f1, f2⟩ := h
  have hg : g < w.heap.size := World.block_lt_of_cell? w _ h0
  exact ⟨⟨(hb.cell (p := ⟨g, 0, none⟩) hg).trans h0, (hb.cell (p := ⟨g, 1, none⟩) hg).trans h1, (hb.cell (p := ⟨g, 2, none⟩) hg).trans h2⟩,
    (hb.frozen (p := ⟨g, 0, none⟩) hg).trans f0, (hb.frozen (p := ⟨g, 1, none⟩) hg).trans f1, (hb.frozen (p := ⟨g, 2, none⟩) hg).trans f2⟩
theorem ret_i64 {a b : Int} (h : a = b) : Ending.returned (.int .i64 a) = .returned (.int .i64 b) := by rw [h]
theorem ret_u64 {a b : Int} (h : a = b) : Ending.returned (.int .u64 a) = .returned (.int .u64 b) := by rw [h]

set_option maxHeartbeats 400000 in
theorem size_any (a : Int) (w : World) (ha : In64 a) :
    Calls Try.prog 36 #[.int .i64 a] w fun e w' => e = .returned (.int .u64 (a.natAbs : Int)) ∧ w = w' := by
  obtain ⟨a1, a2⟩ := ha
  by_cases h : a < 0
  · go_enter Try.func36, Try.ntmps36
    go_wp2
    go_ret
    exact ⟨ret_u64 (by simp only [IntKind.wrap_u64]; omega), rfl⟩
  · go_enter Try.func36, Try.ntmps36
    go_wp2
    go_ret
    exact ⟨ret_u64 (by omega), rfl⟩

set_option maxHeartbeats 400000 in
theorem div64_near (lo y : Nat) (w : World) (hy : 0 < y) (hy' : y < 18446744073709551616) (hlo : lo < 18446744073709551616) :
    Calls Try.prog 48 #[.int .u64 0, .int .u64 lo, .int .u64 y] w fun e w' => e = .returned (.tuple #[.int .u64 ((lo / y : Nat) : Int), .int .u64 ((lo % y : Nat) : Int)]) ∧ ∃ n, w' = w.drewN n := by
  have h1 : (y : Int) ≠ 0 := by omega
  have h2 : ((y : Int) == 0) = false := by simpa using h1
  have h3 : decide ((y : Int) ≤ 0) = false := by simp; omega
  go_enter Try.func48, Try.ntmps48
  go_wp2
  go_quiet (fail)
  go_wp2
  go_ret2
  have e1 : IntKind.u64.wrap ((lo : Int) / (y : Int)) = ((lo / y : Nat) : Int) := by
    rw [← Int.natCast_ediv]; exact wrap_nat rfl (Nat.lt_of_le_of_lt (Nat.div_le_self _ _) hlo)
  exact ⟨by simp only [Array.getD_eq_getD_getElem?]; simp [e1], _, rfl⟩

theorem div64_any (hi lo y : Nat) (w : World) (hy : hi < y) (hy' : y < 18446744073709551616) (hlo : lo < 18446744073709551616) :
    Calls Try.prog 48 #[.int .u64 hi, .int .u64 lo, .int .u64 y] w fun e w' => e = .returned (.tuple #[.int .u64 (((hi * 18446744073709551616 + lo) / y : Nat) : Int), .int .u64 (((hi * 18446744073709551616 + lo) % y : Nat) : Int)]) ∧ ∃ n, w' = w.drewN n := by
  rcases Nat.eq_zero_or_pos hi with rfl | h
  · rw [Nat.zero_mul, Nat.zero_add]
    exact div64_near lo y w hy hy' hlo
  · refine (div64_far hi lo y w h hy hy' hlo).mono ?_
    rintro e w' ⟨rfl, rfl⟩
    exact ⟨rfl, 0, rfl⟩

theorem mul64_any (a b : Int) (w : World) (ha : In64 a) (hb : In64 b) :
    Calls Try.prog 49 #[.int .u64 (a.natAbs : Int), .int .u64 (b.natAbs : Int)] w fun e w' => e = .returned (.tuple #[.int .u64 (hi64 (pSize a b)), .int .u64 (lo64 (pSize a b))]) ∧ w = w' := by
  have la := abs_le ha
  have lb := abs_le hb
  refine (Try.bits_Mul64 a.natAbs b.natAbs (by omega) (by omega) w).mono ?_
  rintro e w' ⟨rfl, rfl⟩
  exact ⟨rfl, rfl⟩

set_option maxHeartbeats 400000 in
theorem multiply_any (a b : Int) (w : World) (ha : In64 a) (hb : In64 b) :
    Calls Try.prog 35 #[.int .i64 a, .int .i64 b] w fun e w' => e = .returned (.agg #[.bool (pNeg a b), .int .u64 (hi64 (pSize a b)), .int .u64 (lo64 (pSize a b))]) ∧ Below w.heap.size w w' := by
  have HA := Lib.hid ha
  have HB := Lib.hid hb
  clear ha hb
  have core : ∀ s : Bool, Hid (s = (decide (a < 0) && decide (0 < b) || decide (0 < a) && decide (b < 0))) →
      Calls Try.prog 35 #[.int .i64 a, .int .i64 b] w fun e w' => e = .returned (.agg #[.bool s, .int .u64 (hi64 (pSize a b)), .int .u64 (lo64 (pSize a b))]) ∧ Below w.heap.size w w' := by
    intro s he
    go_enter Try.func35, Try.ntmps35
    go_wp2_with fail
    refine (size_any a _ HA.out).mono ?_
    rintro e w' ⟨rfl, rfl⟩
    go_wp2_with fail
    refine (size_any b _ HB.out).mono ?_
    rintro e w' ⟨rfl, rfl⟩
    go_wp2_with fail
    refine (mul64_any a b _ HA.out HB.out).mono ?_
    rintro e w' ⟨rfl, rfl⟩
    go_wp2_with fail
    all_goals
      refine bodyPost_ret (v := .agg #[.bool s, .int .u64 (hi64 (pSize a b)), .int .u64 (lo64 (pSize a b))]) (by simp [results, Try.results35, go_sem]; simp [he.out, *]; try omega) rfl ⟨rfl, (Below.refl _ _).alloc (Nat.le_refl _) _⟩
  refine core _ (Lib.hid ?_)
  cases h : pNeg a b with
  | true => have := pNeg_true.1 h; symm; simp; omega
  | false =>
    have : ¬ ((a < 0 ∧ 0 < b) ∨ (0 < a ∧ b < 0)) := fun h' => by rw [pNeg_true.2 h'] at h; cases h
    symm; simp; omega

/-- The quotient's upper half, and what is left of the upper half. -/
theorem div64_up (n C : Nat) (w : World) (h0 : 0 < C) (hC : C < 18446744073709551616) (hn : n ≤ 85070591730234615865843651857942052864) :
    Calls Try.prog 48 #[.int .u64 0, .int .u64 (hi64 n), .int .u64 (C : Int)] w fun e w' => e = .returned (.tuple #[.int .u64 (hi64 (n / C)), .int .u64 ((n / 18446744073709551616 % C : Nat) : Int)]) ∧ ∃ k, w' = w.drewN k := by
  obtain ⟨a, _, c⟩ := div_halves 18446744073709551616 (hi := n / 18446744073709551616) (lo := n % 18446744073709551616) h0 (Nat.mod_lt _ (by omega))
  rw [two_halves] at a
  obtain ⟨b, _⟩ := halves_of _ a.symm c
  unfold hi64
  rw [b]
  exact div64_near (n / 18446744073709551616) C w h0 hC (by omega)
/-- The quotient's lower half, and the rest. -/
theorem div64_low (n C : Nat) (w : World) (h0 : 0 < C) (hC : C < 18446744073709551616) :
    Calls Try.prog 48 #[.int .u64 ((n / 18446744073709551616 % C : Nat) : Int), .int .u64 (lo64 n), .int .u64 (C : Int)] w fun e w' => e = .returned (.tuple #[.int .u64 (lo64 (n / C)), .int .u64 ((n % C : Nat) : Int)]) ∧ ∃ k, w' = w.drewN k := by
  have hl : n % 18446744073709551616 < 18446744073709551616 := Nat.mod_lt _ (by omega)
  obtain ⟨a, d, c⟩ := div_halves 18446744073709551616 (hi := n / 18446744073709551616) (lo := n % 18446744073709551616) h0 hl
  rw [two_halves] at a d
  obtain ⟨_, b⟩ := halves_of _ a.symm c
  unfold lo64
  rw [b, d]
  exact div64_any (n / 18446744073709551616 % C) (n % 18446744073709551616) C w (Nat.mod_lt _ h0) hC hl

set_option maxHeartbeats 400000 in
theorem divide_any (s : Bool) (n : Nat) (c : Int) (w : World) (hn : n ≤ 85070591730234615865843651857942052864) (hc : In64 c) (h0 : c ≠ 0) :
    Calls Try.prog 34 #[.agg #[.bool s, .int .u64 (hi64 n), .int .u64 (lo64 n)], .int .i64 c] w fun e w' => e = .returned (.tuple #[.agg #[.bool (s != decide (c < 0)), .int .u64 (hi64 (n / c.natAbs)), .int .u64 (lo64 (n / c.natAbs))], .int .u64 ((n % c.natAbs : Nat) : Int)]) ∧ Below w.heap.size w w' := by
  have HC := Lib.hid hc
  have H0 : Hid (0 < c.natAbs) := Lib.hid (by omega)
  have HM : Hid (c.natAbs < 18446744073709551616) := Lib.hid (by have := abs_le hc; omega)
  have HN := Lib.hid hn
  clear hc h0 hn
  go_enter Try.func34, Try.ntmps34
  go_wp2_with fail
  refine (size_any c _ HC.out).mono ?_
  rintro e w' ⟨rfl, rfl⟩
  go_wp2_with fail
  refine (div64_up n c.natAbs _ H0.out HM.out HN.out).mono ?_
  rintro e w' ⟨rfl, k1, rfl⟩
  go_wp2_with fail
  refine (div64_low n c.natAbs _ H0.out HM.out).mono ?_
  rintro e w' ⟨rfl, k2, rfl⟩
  go_wp2_with fail
  refine bodyPost_ret (v := .tuple #[.agg #[.bool (s != decide (c < 0)), .int .u64 (hi64 (n / c.natAbs)), .int .u64 (lo64 (n / c.natAbs))], .int .u64 ((n % c.natAbs : Nat) : Int)]) (by simp [results, Try.results34, go_sem]; cases s <;> cases decide (c < 0) <;> rfl) rfl ⟨rfl, ?_⟩
  exact (((below_drewN (((Below.refl _ _).alloc (Nat.le_refl _) _).alloc (by simp) _) _).setCell (by simp) _).setCell (by simp) _).setCell (by simp) _

theorem add64_one (n : Nat) (w : World) :
    (callFunc 50 #[.int .u64 (lo64 n), .int .u64 1, .int .u64 0]).run Try.prog w =
      .ok (.value (.tuple #[.int .u64 (lo64 (n + 1)), .int .u64 (((n % 18446744073709551616 + 1) / 18446744073709551616 : Nat) : Int)])) w := by
  rw [run_callFunc_extern Try.func50 (by kernel_rfl) (by kernel_rfl) (by kernel_rfl) (e := add64Entry) (by kernel_rfl)]
  rw [← (up_halves (n := n)).2]
  rw [show (lo64 n) = (((n % 18446744073709551616 : Nat)) : Int) from rfl]
  rw [run_add64 _ 1 0 (by omega) (by omega) (by omega) (by omega)]
  simp only [Result.andThen]
  congr 5 <;> omega

set_option maxHeartbeats 400000 in
theorem farther_any (s : Bool) (n : Nat) (w : World) (hn : n ≤ 85070591730234615865843651857942052864) :
    Calls Try.prog 37 #[.agg #[.bool s, .int .u64 (hi64 n), .int .u64 (lo64 n)]] w fun e w' => e = .returned (.agg #[.bool s, .int .u64 (hi64 (n + 1)), .int .u64 (lo64 (n + 1))]) ∧ Below w.heap.size w w' := by
  obtain ⟨h1, h2⟩ := hi64_bd hn
  obtain ⟨o, ho⟩ : ∃ o : Nat, o = (n % 18446744073709551616 + 1) / 18446744073709551616 := ⟨_, rfl⟩
  have e1 := (up_halves (n := n)).1
  rw [← ho] at e1
  have e2 := add64_one n
  rw [← ho] at e2
  have ho1 : o ≤ 1 := by omega
  clear ho hn
  go_enter Try.func37, Try.ntmps37
  go_wp2_with (simp only [e2])
  refine bodyPost_ret (v := .agg #[.bool s, .int .u64 (hi64 (n + 1)), .int .u64 (lo64 (n + 1))]) (by simp [results, Try.results37, go_sem]) rfl ⟨rfl, ?_⟩
  exact (((Below.refl _ _).alloc (Nat.le_refl _) _).alloc (by simp) _)

set_option maxHeartbeats 400000 in
theorem narrow_any (s : Bool) (n : Nat) (w : World) :
    Calls Try.prog 38 #[.agg #[.bool s, .int .u64 (hi64 n), .int .u64 (lo64 n)]] w fun e w' => e = .returned (.tuple #[.int .i64 (narV s n), .int .i64 (narE s n)]) ∧ Below w.heap.size w w' := by
  cases hf : fit (sgnd s n) with
  | true =>
    obtain ⟨e1, e2, b1, b2⟩ := nar_small hf
    rw [show narV s n = sgnd s n from if_pos hf, show narE s n = 0 from if_pos hf]
    clear hf
    cases s with
    | true =>
      rw [show sgnd true n = -(n : Int) from if_pos rfl]
      clear b2
      by_cases hn : n = 9223372036854775808
      · subst hn
        have E3 : Hid (wrap64 (-wrap64 9223372036854775808) = -9223372036854775808) := Lib.hid (by unfold wrap64; omega)
        clear b1
        go_enter Try.func38, Try.ntmps38
        go_wp2
        go_ret2
        refine ⟨?_, (Below.refl _ _).alloc (Nat.le_refl _) _⟩
        show Ending.returned (.tuple #[.int .i64 (wrap64 (-wrap64 9223372036854775808)), .int .i64 0]) = _
        rw [E3.out]
        rfl
      have b3 : n ≤ 9223372036854775807 := by omega
      clear hn b1
      go_enter Try.func38, Try.ntmps38
      go_wp2
      all_goals
        go_ret2
        exact ⟨rfl, (Below.refl _ _).alloc (Nat.le_refl _) _⟩
    | false =>
      rw [show sgnd false n = (n : Int) from if_neg (by simp)]
      have b3 := b2 rfl
      clear b2
      go_enter Try.func38, Try.ntmps38
      go_wp2
      all_goals
        go_ret2
        exact ⟨rfl, (Below.refl _ _).alloc (Nat.le_refl _) _⟩
  | false =>
    rw [show narV s n = 0 from if_neg (by simp [hf]), show narE s n = 2 from if_neg (by simp [hf])]
    rcases nar_big hf with h | ⟨h, h1⟩ | ⟨h, h1, rfl⟩
    · have hb : (hi64 n == 0) = false := by simpa using h
      have hb' : (hi64 n != 0) = true := by simpa using h
      clear hf
      go_enter Try.func38, Try.ntmps38
      go_wp2
      all_goals
        go_ret2
        exact ⟨rfl, (Below.refl _ _).alloc (Nat.le_refl _) _⟩
    · clear hf
      go_enter Try.func38, Try.ntmps38
      go_wp2
      all_goals
        go_ret2
        exact ⟨rfl, (Below.refl _ _).alloc (Nat.le_refl _) _⟩
    · clear hf
      go_enter Try.func38, Try.ntmps38
      go_wp2
      all_goals
        go_ret2
        exact ⟨rfl, (Below.refl _ _).alloc (Nat.le_refl _) _⟩

end Go.Proofs.Yticcpcejdndplaa
