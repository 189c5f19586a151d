
/- The walks of the document's inner functions of layer 2: size, double, plus, less, bit: each hands back what plain arithmetic says; nothing that lay in memory changes. -/
import Derived.Test.YticcpcejdndplaaRefPlain
import Derived.Test.YticcpcejdndplaaWide
namespace Go.Proofs.Yticcpcejdndplaa
open Go.RowKit

set_option maxHeartbeats 400000 in
theorem rsize_any (a : Int) (w : World) (ha : In64 a) :
    Calls Try.prog 26 #[.int .i64 a] w fun e w' => e = .returned (.int .u64 (a.natAbs : Int)) ∧ w = w' := by
  obtain ⟨a1, a2⟩ := ha
  by_cases h : a < 0
  · go_enter Try.func26, Try.ntmps26
    go_wp2
    go_ret
    exact ⟨ret_u64 (by simp only [IntKind.wrap_u64]; omega), rfl⟩
  · go_enter Try.func26, Try.ntmps26
    go_wp2
    go_ret
    exact ⟨ret_u64 (by omega), rfl⟩

set_option maxHeartbeats 400000 in
theorem rdouble_any (n o : Nat) (w : World) (hn : n ≤ 85070591730234615865843651857942052864) (ho : o ≤ 1) :
    Calls Try.prog 43 #[.agg #[.int .u64 (hi64 n), .int .u64 (lo64 n)], .int .u64 (o : Int)] w fun e w' => e = .returned (.agg #[.int .u64 (hi64 (2 * n + o)), .int .u64 (lo64 (2 * n + o))]) ∧ Below w.heap.size w w' := by
  obtain ⟨E1, E2⟩ := halves_dbl hn ho
  obtain ⟨l1, l2⟩ := lo64_bd n
  generalize hH : hi64 (2 * n + o) = H at *
  generalize hL : lo64 (2 * n + o) = L at *
  generalize hi64 n = h at *
  generalize lo64 n = l at *
  clear hn hH hL
  go_enter Try.func43, Try.ntmps43
  go_wp2
  refine bodyPost_ret (v := .agg #[.int .u64 H, .int .u64 L]) (by simp [results, Try.results43, go_sem]) rfl ⟨rfl, ?_⟩
  exact (((Below.refl _ _).alloc (Nat.le_refl _) _).alloc (by simp) _)

set_option maxHeartbeats 400000 in
theorem rplus_any (n b : Nat) (w : World) (hn : n ≤ 85070591730234615865843651857942052864) (hb : b < 18446744073709551616) :
    Calls Try.prog 40 #[.agg #[.int .u64 (hi64 n), .int .u64 (lo64 n)], .int .u64 (b : Int)] w fun e w' => e = .returned (.agg #[.int .u64 (hi64 (n + b)), .int .u64 (lo64 (n + b))]) ∧ Below w.heap.size w w' := by
  obtain ⟨E1, E2, E3⟩ := halves_add (n := n) hb
  obtain ⟨h1, h2⟩ := hi64_bd hn
  by_cases hc : lo64 (n + b) < (b : Int)
  · have e2 := E2 hc
    rw [e2]
    clear E2 E3 hn e2
    generalize lo64 (n + b) = L at *
    generalize hi64 n = h at *
    go_enter Try.func40, Try.ntmps40
    go_wp2
    refine bodyPost_ret (v := .agg #[.int .u64 (h + 1), .int .u64 L]) (by simp [results, Try.results40, go_sem]) rfl ⟨rfl, ?_⟩
    exact ((((Below.refl _ _).alloc (Nat.le_refl _) _).alloc (by simp) _).alloc (by simp; omega) _)
  · have e2 := E3 hc
    rw [e2]
    clear E2 E3 hn e2
    generalize lo64 (n + b) = L at *
    generalize hi64 n = h at *
    go_enter Try.func40, Try.ntmps40
    go_wp2
    refine bodyPost_ret (v := .agg #[.int .u64 h, .int .u64 L]) (by simp [results, Try.results40, go_sem]) rfl ⟨rfl, ?_⟩
    exact ((((Below.refl _ _).alloc (Nat.le_refl _) _).alloc (by simp) _).alloc (by simp; omega) _)

theorem less_halves (m n : Nat) : decide (m < n) = (decide (hi64 m < hi64 n) || (hi64 m == hi64 n && decide (lo64 m < lo64 n))) := by
  rw [Bool.eq_iff_iff]
  simp only [Bool.or_eq_true, Bool.and_eq_true, decide_eq_true_eq, beq_iff_eq]
  unfold hi64 lo64; omega

set_option maxHeartbeats 400000 in
theorem rless_any (m n : Nat) (w : World) :
    Calls Try.prog 44 #[.agg #[.int .u64 (hi64 m), .int .u64 (lo64 m)], .agg #[.int .u64 (hi64 n), .int .u64 (lo64 n)]] w fun e w' => e = .returned (.bool (decide (m < n))) ∧ Below w.heap.size w w' := by
  rw [less_halves]
  generalize hi64 m = h1
  generalize lo64 m = l1
  generalize hi64 n = h2
  generalize lo64 n = l2
  rcases Int.lt_trichotomy h1 h2 with h | h | h
  · go_enter Try.func44, Try.ntmps44
    go_wp2
    go_ret
    exact ⟨ret_bool (by simp [h]), (((Below.refl _ _).alloc (Nat.le_refl _) _).alloc (by simp) _)⟩
  · subst h
    go_enter Try.func44, Try.ntmps44
    go_wp2
    go_ret
    exact ⟨ret_bool (by simp), (((Below.refl _ _).alloc (Nat.le_refl _) _).alloc (by simp) _)⟩
  · have hb : (h1 == h2) = false := by simp; omega
    have hd : decide (h1 < h2) = false := by simp; omega
    go_enter Try.func44, Try.ntmps44
    go_wp2
    go_ret
    exact ⟨ret_bool (by simp [hb, hd]), (((Below.refl _ _).alloc (Nat.le_refl _) _).alloc (by simp) _)⟩
end Go.Proofs.Yticcpcejdndplaa
