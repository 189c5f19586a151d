
/- The walks of the document's loops of layer 2: bit, times, by. -/
import Derived.Test.YticcpcejdndplaaRef
namespace Go.Proofs.Yticcpcejdndplaa
open Go.RowKit

theorem half_step {x X k : Nat} (h : x = X / 2 ^ k) : x / 2 = X / 2 ^ (k + 1) := by
  rw [h, Nat.pow_succ, Nat.div_div_eq_div_mul]

set_option maxHeartbeats 400000 in
theorem rbit_high (n i : Nat) (w : World) (hn : n ≤ 85070591730234615865843651857942052864) (hi : 64 ≤ i) (hi' : i < 128) :
    Calls Try.prog 51 #[.agg #[.int .u64 (hi64 n), .int .u64 (lo64 n)], .int .i64 (i : Int)] w fun e w' => e = .returned (.int .u64 ((n / 2 ^ i % 2 : Nat) : Int)) ∧ Below w.heap.size w w' := by
  rw [← bit_high hi]
  obtain ⟨X, hX⟩ : ∃ X : Nat, X = n / 18446744073709551616 := ⟨_, rfl⟩
  have LX : Hid (X ≤ 18446744073709551615) := Lib.hid (by omega)
  rw [← hX, show hi64 n = (X : Int) from by rw [hX]; rfl]
  generalize lo64 n = l
  obtain ⟨B, hB⟩ : ∃ B : Nat, B = X / 2 ^ (i - 64) % 2 := ⟨_, rfl⟩
  rw [← hB]
  have HB := Lib.hid hB
  clear hX hB
  have h1 : (64 : Int) ≤ (i : Int) := by omega
  go_enter Try.func51, Try.ntmps51
  go_wp2
  go_loop [5, 6] (fun x t => ∃ (y : Nat) (k : Nat), x = .int .u64 y ∧ t = .int .i64 k ∧ k ≤ i - 64 ∧ y ≤ 18446744073709551615 ∧ Hid (y = X / 2 ^ k)) (fun _ t => i - 64 - (intOf t).toNat)
  case atStart => exact ⟨X, 0, rfl, rfl, by omega, LX.out, Lib.hid (by simp)⟩
  case round =>
    obtain ⟨y, k, rfl, rfl, hk, hyb, hy⟩ := hrel
    by_cases hlt : k < i - 64
    · have h2 : (k : Int) < (i : Int) - 64 := by omega
      go_wp2
      go_round
      case rel => exact ⟨y / 2, k + 1, val_u64 (by omega), by go_num, by omega, by omega, Lib.hid (half_step hy.out)⟩
      case measure => simp [intOf]; omega
    · have h2 : (i : Int) - 64 ≤ (k : Int) := by omega
      have hke : k = i - 64 := by omega
      have HY : Hid (y % 2 = B) := Lib.hid (by rw [HB.out, hy.out, hke])
      clear hke
      go_wp2
      go_ret
      exact ⟨ret_u64 (by have := HY.out; omega), (Below.refl _ _).alloc (Nat.le_refl _) _⟩

set_option maxHeartbeats 400000 in
theorem rbit_low (n i : Nat) (w : World) (hi : i < 64) :
    Calls Try.prog 51 #[.agg #[.int .u64 (hi64 n), .int .u64 (lo64 n)], .int .i64 (i : Int)] w fun e w' => e = .returned (.int .u64 ((n / 2 ^ i % 2 : Nat) : Int)) ∧ Below w.heap.size w w' := by
  rw [← bit_low hi]
  obtain ⟨X, hX⟩ : ∃ X : Nat, X = n % 18446744073709551616 := ⟨_, rfl⟩
  have LX : Hid (X ≤ 18446744073709551615) := Lib.hid (by omega)
  rw [← hX, show lo64 n = (X : Int) from by rw [hX]; rfl]
  generalize hi64 n = l
  obtain ⟨B, hB⟩ : ∃ B : Nat, B = X / 2 ^ i % 2 := ⟨_, rfl⟩
  rw [← hB]
  have HB := Lib.hid hB
  clear hX hB
  have h1 : (i : Int) < 64 := by omega
  go_enter Try.func51, Try.ntmps51
  go_wp2
  go_loop [5, 6] (fun x t => ∃ (y : Nat) (k : Nat), x = .int .u64 y ∧ t = .int .i64 k ∧ k ≤ i ∧ y ≤ 18446744073709551615 ∧ Hid (y = X / 2 ^ k)) (fun _ t => i - (intOf t).toNat)
  case atStart => exact ⟨X, 0, rfl, rfl, by omega, LX.out, Lib.hid (by simp)⟩
  case round =>
    obtain ⟨y, k, rfl, rfl, hk, hyb, hy⟩ := hrel
    by_cases hlt : k < i
    · go_wp2
      go_round
      case rel => exact ⟨y / 2, k + 1, val_u64 (by omega), by go_num, by omega, by omega, Lib.hid (half_step hy.out)⟩
      case measure => simp [intOf]; omega
    · have hke : k = i := by omega
      have HY : Hid (y % 2 = B) := Lib.hid (by rw [HB.out, hy.out, hke])
      clear hke
      go_wp2
      go_ret
      exact ⟨ret_u64 (by have := HY.out; omega), (Below.refl _ _).alloc (Nat.le_refl _) _⟩

theorem rbit_any (n i : Nat) (w : World) (hn : n ≤ 85070591730234615865843651857942052864) (hi : i < 128) :
    Calls Try.prog 51 #[.agg #[.int .u64 (hi64 n), .int .u64 (lo64 n)], .int .i64 (i : Int)] w fun e w' => e = .returned (.int .u64 ((n / 2 ^ i % 2 : Nat) : Int)) ∧ Below w.heap.size w w' := by
  by_cases h : i < 64
  · exact rbit_low n i w h
  · exact rbit_high n i w hn (by omega) hi

/-- A number of two halves that lies in a block of its own. -/
def TwoAt (w : World) (g n : Nat) : Prop :=
  (w.cell? ⟨g, 0, none⟩ = some (.int .u64 (hi64 n)) ∧ w.cell? ⟨g, 1, none⟩ = some (.int .u64 (lo64 n))) ∧ w.frozen? ⟨g, 0, none⟩ = false ∧ w.frozen? ⟨g, 1, none⟩ = false
theorem TwoAt.mk (w : World) (n : Nat) (t : TypeId) : TwoAt (w.alloc (.cells #[.int .u64 (hi64 n), .int .u64 (lo64 n)] t)) w.heap.size n := by
  unfold TwoAt; simp [go_sem]
theorem TwoAt.lt {w : World} {g n : Nat} (h : TwoAt w g n) : g < w.heap.size := World.block_lt_of_cell? w _ h.1.1
theorem TwoAt.keep {w w' : World} {g n B : Nat} (h : TwoAt w g n) (hb : Below B w w') (hB : w.heap.size ≤ B) : TwoAt w' g n := by
  have hg : g < B := Nat.lt_of_lt_of_le h.lt hB
  obtain ⟨⟨h0, h1⟩, h2, h3⟩ := h
  exact ⟨⟨(hb.cell (p := ⟨g, 0, none⟩) hg).trans h0, (hb.cell (p := ⟨g, 1, none⟩) hg).trans h1⟩, (hb.frozen (p := ⟨g, 0, none⟩) hg).trans h2, (hb.frozen (p := ⟨g, 1, none⟩) hg).trans h3⟩
theorem TwoAt.set {w : World} {g m : Nat} (n : Nat) (h : TwoAt w g m) : TwoAt ((w.setCell ⟨g, 0, none⟩ (.int .u64 (hi64 n))).setCell ⟨g, 1, none⟩ (.int .u64 (lo64 n))) g n := by
  obtain ⟨⟨h0, h1⟩, h2, h3⟩ := h
  unfold TwoAt; simp [go_sem, h0, h1, h2, h3]
theorem TwoAt.other {w : World} {g g' m : Nat} (u v : Value) (h : TwoAt w g m) (hg : g ≠ g') : TwoAt ((w.setCell ⟨g', 0, none⟩ u).setCell ⟨g', 1, none⟩ v) g m := by
  obtain ⟨⟨h0, h1⟩, h2, h3⟩ := h
  unfold TwoAt; simp [go_sem, h0, h1, h2, h3]

theorem rdouble0_any (n : Nat) (w : World) (hn : n ≤ 85070591730234615865843651857942052864) :
    Calls Try.prog 43 #[.agg #[.int .u64 (hi64 n), .int .u64 (lo64 n)], .int .u64 0] w fun e w' => e = .returned (.agg #[.int .u64 (hi64 (2 * n)), .int .u64 (lo64 (2 * n))]) ∧ Below w.heap.size w w' := rdouble_any n 0 w hn (by omega)
theorem rdouble1_any (n : Nat) (w : World) (hn : n ≤ 85070591730234615865843651857942052864) :
    Calls Try.prog 43 #[.agg #[.int .u64 (hi64 n), .int .u64 (lo64 n)], .int .u64 1] w fun e w' => e = .returned (.agg #[.int .u64 (hi64 (2 * n + 1)), .int .u64 (lo64 (2 * n + 1))]) ∧ Below w.heap.size w w' := rdouble_any n 1 w hn (by omega)

/-- So many rounds are left: the next bit's worth, and the product of the bits that were. -/
def TimesAt (a b j p n : Nat) : Prop := p = 2 ^ j / 2 ∧ n = a / 2 ^ j * b
theorem TimesAt.bd {a b j p n : Nat} (h : TimesAt a b j p n) (ha : a ≤ 9223372036854775808) (hb : b ≤ 9223372036854775808) : n ≤ 85070591730234615865843651857942052864 := by
  rw [h.2]
  have h1 : a / 2 ^ j ≤ 9223372036854775808 := Nat.le_trans (Nat.div_le_self _ _) ha
  have := Nat.mul_le_mul h1 hb
  omega
theorem TimesAt.step {a b j p n : Nat} (h : TimesAt a b (j + 1) p n) : 0 < p ∧ (a / p % 2 = 1 → TimesAt a b j (p / 2) (2 * n + b)) ∧ (a / p % 2 = 0 → TimesAt a b j (p / 2) (2 * n)) := by
  obtain ⟨h1, h2⟩ := h
  have e : (2 : Nat) ^ (j + 1) / 2 = 2 ^ j := by rw [Nat.pow_succ, Nat.mul_div_cancel _ (by omega)]
  rw [e] at h1
  have hp : 0 < p := by rw [h1]; exact Nat.pow_pos (by omega)
  have h2' : n = a / (2 * p) * b := by rw [h2, h1, Nat.pow_succ, Nat.mul_comm 2]
  have st := times_step (k := a / p % 2) rfl h2'
  refine ⟨hp, fun hk => ⟨by rw [h1], ?_⟩, fun hk => ⟨by rw [h1], ?_⟩⟩
  · rw [hk, Nat.one_mul] at st; rw [← st, h1]
  · rw [hk, Nat.zero_mul, Nat.add_zero] at st; rw [← st, h1]

set_option maxHeartbeats 1000000 in
theorem rtimes_any (a b : Nat) (w : World) (ha : a ≤ 9223372036854775808) (hb : b ≤ 9223372036854775808) :
    Calls Try.prog 25 #[.int .u64 (a : Int), .int .u64 (b : Int)] w fun e w' => e = .returned (.agg #[.int .u64 (hi64 (a * b)), .int .u64 (lo64 (a * b))]) ∧ Below w.heap.size w w' := by
  have HA := Lib.hid ha
  have HB := Lib.hid hb
  have a1 : (a : Int) ≤ 9223372036854775808 := by omega
  clear ha hb
  have hz : hi64 0 = 0 := rfl
  have hz' : lo64 0 = 0 := rfl
  obtain ⟨N, hN⟩ : ∃ N : Nat, N = a * b := ⟨_, rfl⟩
  rw [← hN]
  have HN := Lib.hid hN
  clear hN
  go_enter Try.func25, Try.ntmps25
  go_wp2
  go_loopw [6, 7] (fun s t wr => ∃ (i p n : Nat), i ≤ 64 ∧ s = .int .u64 p ∧ t = .int .i64 (i : Int) ∧ p ≤ 9223372036854775808 ∧ Hid (TimesAt a b (64 - i) p n) ∧ Hid (TwoAt wr (w.heap.size + 1) n) ∧ Hid (TwoAt wr w.heap.size 0) ∧ Hid (Below w.heap.size w wr)) (fun _ t _ => 64 - (intOf t).toNat)
  case atStart =>
    refine ⟨0, 9223372036854775808, 0, by omega, rfl, by rfl, by omega, Lib.hid ⟨by decide, ?_⟩, Lib.hid ?_, Lib.hid ?_, Lib.hid ?_⟩
    · rw [Nat.div_eq_of_lt (by have := HA.out; omega), Nat.zero_mul]
    · have := TwoAt.mk (w.alloc (.cells #[.int .u64 (hi64 0), .int .u64 (lo64 0)] 60)) 0 60
      simpa [hz, hz'] using this
    · have := (TwoAt.mk w 0 60).keep ((Below.refl _ _).alloc (Nat.le_refl _) (.cells #[.int .u64 (hi64 0), .int .u64 (lo64 0)] 60)) (Nat.le_refl _)
      simpa [hz, hz'] using this
    · exact (((Below.refl _ _).alloc (Nat.le_refl _) _).alloc (by simp) _)
  case round =>
    obtain ⟨i, p, n, hi, rfl, rfl, hp, ht, T, R, hbl⟩ := hrel
    by_cases h0 : i = 64
    · have hn : N = n := by
        have := ht.out.2
        rw [h0] at this; rw [HN.out]; simpa using this.symm
      subst hn
      have d1 : decide ((i : Int) < 64) = false := by simp; omega
      clear h0 hi
      obtain ⟨⟨t0, t1⟩, t2, t3⟩ := T.out
      obtain ⟨⟨r0, r1⟩, r2, r3⟩ := R.out
      go_wp2
      refine bodyPost_ret (v := .agg #[.int .u64 (hi64 N), .int .u64 (lo64 N)]) (by simp [results, Try.results25, go_sem, *]) rfl ⟨rfl, ?_⟩
      exact (hbl.out.setCell (by simp) _).setCell (by simp) _
    · have ht' : TimesAt a b (63 - i + 1) p n := by rw [show 63 - i + 1 = 64 - i by omega]; exact ht.out
      obtain ⟨p0, s1, s0⟩ := ht'.step
      rw [show 63 - i = 64 - (i + 1) by omega] at s1 s0
      have hn := Lib.hid (ht.out.bd HA.out HB.out)
      have hb64 : Hid (b < 18446744073709551616) := Lib.hid (by have := HB.out; omega)
      have h2n : Hid (2 * n ≤ 85070591730234615865843651857942052864) := Lib.hid (by
        rcases Nat.mod_two_eq_zero_or_one (a / p) with h | h
        · exact (s0 h).bd HA.out HB.out
        · have := (s1 h).bd HA.out HB.out; omega)
      have d1 : (i : Int) < 64 := by omega
      have p1 : (0 : Int) < (p : Int) := by omega
      obtain ⟨D, hD⟩ : ∃ D : Nat, D = a / p := ⟨_, rfl⟩
      have dv : IntKind.u64.wrap ((a : Int) / (p : Int)) = (D : Int) := by
        rw [← Int.natCast_ediv, hD]; exact wrap_nat rfl (by have := Nat.div_le_self a p; have := HA.out; omega)
      obtain ⟨⟨t0, t1⟩, t2, t3⟩ := T.out
      by_cases hbit : a / p % 2 = 1
      · have b1 : ((D : Int) % 2 == 1) = true := by rw [hD]; simp; omega
        have S1 := Lib.hid (s1 hbit)
        clear s1 s0 hbit p0 hi ht' hD h0
        go_wp2_with fail
        clear t0 t1 t2 t3
        refine (rdouble0_any n _ hn.out).mono ?_
        rintro e w1 ⟨rfl, hb1⟩
        have T1 := Lib.hid (T.out.keep hb1 (Nat.le_refl _))
        have R1 := Lib.hid (R.out.keep hb1 (Nat.le_refl _))
        have HB1 := Lib.hid (hbl.out.trans (hb1.mono hbl.out.size))
        clear hb1
        obtain ⟨⟨t0, t1⟩, t2, t3⟩ := T1.out
        go_wp2_with fail
        clear t0 t1 t2 t3
        refine (rplus_any (2 * n) b _ h2n.out hb64.out).mono ?_
        rintro e w2 ⟨rfl, hb2⟩
        have T2 := Lib.hid ((T1.out.set (2 * n)).keep hb2 (by simp))
        have R2 := Lib.hid ((R1.out.other _ _ (by omega)).keep hb2 (by simp))
        have HB2 := Lib.hid (((HB1.out.setCell (by simp) _).setCell (by simp) _).trans (hb2.mono (by have := HB1.out.size; simp; omega)))
        clear hb2
        obtain ⟨⟨t0, t1⟩, t2, t3⟩ := T2.out
        go_wp2_with fail
        go_roundw
        case rel => exact ⟨i + 1, p / 2, 2 * n + b, by omega, val_u64 (by omega), by go_num, by omega, S1, Lib.hid (T2.out.set _), Lib.hid (R2.out.other _ _ (by omega)), Lib.hid ((HB2.out.setCell (by simp) _).setCell (by simp) _)⟩
        case measure => simp [intOf]; omega
      · have b1 : ((D : Int) % 2 == 1) = false := by rw [hD]; simp; omega
        have S1 := Lib.hid (s0 (by omega))
        clear s1 s0 hbit p0 hi ht' hD h0
        go_wp2_with fail
        clear t0 t1 t2 t3
        refine (rdouble0_any n _ hn.out).mono ?_
        rintro e w1 ⟨rfl, hb1⟩
        have T1 := Lib.hid (T.out.keep hb1 (Nat.le_refl _))
        have R1 := Lib.hid (R.out.keep hb1 (Nat.le_refl _))
        have HB1 := Lib.hid (hbl.out.trans (hb1.mono hbl.out.size))
        clear hb1
        obtain ⟨⟨t0, t1⟩, t2, t3⟩ := T1.out
        go_wp2_with fail
        go_roundw
        case rel => exact ⟨i + 1, p / 2, 2 * n, by omega, val_u64 (by omega), by go_num, by omega, S1, Lib.hid (T1.out.set _), Lib.hid (R1.out.other _ _ (by omega)), Lib.hid ((HB1.out.setCell (by simp) _).setCell (by simp) _)⟩
        case measure => simp [intOf]; omega
end Go.Proofs.Yticcpcejdndplaa
