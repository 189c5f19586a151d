
/- The walk of SplitEven: for any amount and any number of weights it returns true. -/
import Derived.Test.YticcpcejdndplaaSplitAlive
import Derived.Test.YticcpcejdndplaaSplitOne
import Derived.BigQuiet
namespace Go.Proofs.Yticcpcejdndplaa
open Go.RowKit

/-- Weights that are all 7. -/
def sevens (k : Nat) : List Int := List.replicate k 7
theorem sevens_len (k : Nat) : (sevens k).length = k := by simp [sevens]
theorem sevens_get {k i : Nat} (hi : i < k) : (sevens k).getD i 0 = 7 := by simp [sevens, List.getD, hi]
theorem sevens_mem {k : Nat} {x : Int} (hx : x ∈ sevens k) : x = 7 := List.eq_of_mem_replicate hx
theorem sevens_sum (k : Nat) : (sevens k).sum = 7 * k := by
  unfold sevens
  induction k with
  | zero => rfl
  | succ k ih => rw [List.replicate_succ, List.sum_cons, ih]; omega
theorem sevens_fine {k : Nat} (h0 : 0 < k) (hk : k ≤ 100) : tgE (sevens k) = 0 ∧ tgV (sevens k) = (sevens k).sum :=
  tg_fine (by rw [sevens_len]; exact hk) (fun x hx => by rw [sevens_mem hx]; omega) (by rw [sevens_sum]; omega) (by rw [sevens_sum]; omega)
/-- The first M parts have one more. -/
theorem even_parts {a : Int} {k : Nat} {p : Nat → Nat} (h0 : 0 < k) (hk : k ≤ 100) (hF : Firsts (rests a (sevens k)) k p) : ∃ (y : Int) (M : Nat), ∀ i, i < k → (partsOf a (sevens k) p).getD i 0 = y + if i < M then cmpI a 0 else 0 := by
  obtain ⟨hE, hV⟩ := sevens_fine h0 hk
  have hr : ∀ i, i < k → (rests a (sevens k)).getD i 0 = rstV a (tgV (sevens k)) 7 := fun i hi => by
    unfold rests; rw [getD_mapI _ _ _ (by rw [sevens_len]; exact hi), sevens_get hi]
  have hp := hF.same (fun i j hi hj => by rw [hr i hi, hr j hj])
  have hlen : (lows a (sevens k)).length = k := by unfold lows; rw [List.length_map, sevens_len]
  obtain ⟨h1, h2, h3, h4, h5⟩ := tg_ok hE
  have hm := more_lt (a := a) h2 h3 h4
  rw [sevens_len] at hm
  refine ⟨lowV a (tgV (sevens k)) 7, moreN a (tgV (sevens k)) (sevens k), fun i hi => ?_⟩
  unfold partsOf
  rw [outs_at (rs := rests a (sevens k)) (by rw [hlen]; exact hF) _ (by rw [hlen]; omega)]
  have e1 : (lows a (sevens k)).getD i 0 = lowV a (tgV (sevens k)) 7 := by unfold lows; rw [getD_mapI _ _ _ (by rw [sevens_len]; exact hi), sevens_get hi]
  have e2 : among p i (moreN a (tgV (sevens k)) (sevens k)) = true ↔ i < moreN a (tgV (sevens k)) (sevens k) := by
    rw [among_iff]
    constructor
    · rintro ⟨j, hj, e⟩
      rw [hp j (by omega)] at e
      omega
    · intro h
      exact ⟨i, h, hp i hi⟩
  rw [e1]
  by_cases c : i < moreN a (tgV (sevens k)) (sevens k)
  · rw [if_pos c, if_pos (e2.2 c)]
  · rw [if_neg c, if_neg (fun h => c (e2.1 h))]

set_option maxHeartbeats 3200000 in
theorem splitEven_walk (a n : Int) (w : World) (ha : In64 a) (hn : InU8 n) :
    Calls Try.prog 7 #[.int .i64 a, .int .u8 n] w fun e w' => e = .returned (.bool true) ∧ RowKit.Below w.heap.size w w' := by
  obtain ⟨n1, n2⟩ := hn
  obtain ⟨k, hk⟩ : ∃ k : Nat, (k : Int) = n % 100 + 1 := ⟨(n % 100 + 1).toNat, by omega⟩
  have k1 : 0 < k := by omega
  have k2 : k ≤ 100 := by omega
  have hmk := run_make_row' (P := Try.prog) 22 2 (.int .i64 0) 8 (by kernel_rfl) (by kernel_rfl) rfl .i64 .i64 k (by omega) (by omega)
  have HA := Lib.hid ha
  have HK := Lib.hid hk
  obtain ⟨a1, a2⟩ := ha
  clear hk
  go_enter Try.func7, Try.ntmps7
  go_wp2_with fail
  refine (alive_any _).mono ?_
  rintro e w1 ⟨rfl, hb1⟩
  have B1 := Lib.hid hb1
  clear hb1
  have ek : n % 100 + 1 = (k : Int) := HK.out.symm
  go_wp2
  have hrow := World.rowIs_made w1 (.int .i64 0) k 2
  have hbel : RowKit.Below w1.heap.size w1 (w1.alloc (.cells (madeCells #[.int .i64 0] k) 2)) := (Below.refl _ _).alloc (Nat.le_refl _) _
  generalize w1.alloc (.cells (madeCells #[.int .i64 0] k) 2) = w2 at hrow hbel ⊢
  obtain ⟨B, hB⟩ : ∃ B, B = w1.heap.size := ⟨_, rfl⟩
  rw [← hB] at hrow hbel ⊢
  have R1 := Lib.hid hrow
  have BL := Lib.hid hbel
  have EB := Lib.hid hB
  clear hrow hbel hmk hB
  go_loopg [22] k (fun kx v22 wr => ∃ i : Nat, v22 = .int .i64 (i : Int) ∧ i ≤ k ∧ k - i ≤ kx ∧ Hid (wr.rowIs B 2 k (fun j => .int .i64 (if j < i then (fun _ => (7 : Int)) j else 0))) ∧ Hid (RowKit.Below B w1 wr))
  case atStart => exact ⟨0, rfl, Nat.zero_le _, by omega, Lib.hid (R1.out.congr fun j _ => by rw [if_neg (by omega)]), BL⟩
  case round =>
    clear R1 BL
    obtain ⟨i, rfl, hik, hkx, R1, BL⟩ := hrel
    by_cases hlt : i < k
    · have hltz : (i : Int) < (k : Int) := by omega
      have c1 := R1.out.cell hlt
      have f1 := R1.out.frozen i
      have R2 := Lib.hid (row_step (f := fun _ => (7 : Int)) R1.out rfl)
      have B2 := Lib.hid (BL.out.setCell (p := ⟨B, i, none⟩) (by simp) (.int .i64 7))
      clear R1 BL
      go_wp2
      go_roundg (k - (i + 1))
      case measure => omega
      case rel => exact ⟨i + 1, by first | rfl | go_num, by omega, Nat.le_refl _, R2, B2⟩
    · have hltz : ¬ (i : Int) < (k : Int) := by omega
      obtain rfl : i = k := by omega
      have hR : RowIs .i64 wr (some ⟨B, 0, none⟩) i (sevens i) := rowIs_of_cells (sevens_len _) (by unfold maxLen; omega) (fun j hj => by
        rw [R1.out.cell hj, if_pos hj, sevens_get hj])
      obtain ⟨hE, hV⟩ := sevens_fine k1 k2
      have HBY := Lib.hid (by_ok a _ i i (sevens i) wr HA.out hR (fun x hx => by rw [sevens_mem hx]; exact ⟨by omega, by omega⟩) hE)
      have BA := Lib.hid (B1.out.trans (BL.out.mono (by rw [EB.out]; exact B1.out.size)))
      clear hR hE hV R1
      go_wp2_with fail
      refine HBY.out.mono ?_
      rintro e w3 ⟨pb, p, rfl, hpb, hF, hc, hb3⟩
      obtain ⟨y, M, hy⟩ := even_parts k1 k2 hF
      have HC : Hid (∀ j, j < i → w3.cell? ⟨pb, j, none⟩ = some (.int .i64 (y + if j < M then cmpI a 0 else 0))) := fun j hj => by rw [hc j hj, hy j hj]
      have B3 := Lib.hid (BA.out.trans (hb3.mono BA.out.size))
      have hkk : ((i : Int) != (i : Int)) = false := by simp
      clear hF hc hb3 hpb hy HBY BA BL
      go_wp2
      go_loopg [10] i (fun kx v10 wr => ∃ j q : Nat, v10 = .int .i64 (j : Int) ∧ 1 ≤ j ∧ j ≤ i ∧ i - j ≤ kx ∧ Hid (wr = w3.drewN q))
      case atStart => exact ⟨1, 0, rfl, Nat.le_refl _, by omega, by omega, rfl⟩
      case round =>
        obtain ⟨j, q, rfl, hj1, hji, hkx, HW⟩ := hrel
        by_cases hlt : j < i
        · have hltz2 : (j : Int) < (i : Int) := by omega
          have c0 : (w3.drewN q).cell? ⟨pb, 0, none⟩ = _ := HC.out 0 (by omega)
          obtain ⟨m, hm⟩ : ∃ m : Nat, j = m + 1 := ⟨j - 1, by omega⟩
          have hmj : (j : Int) - 1 = (m : Int) := by omega
          have c1 : (w3.drewN q).cell? ⟨pb, m, none⟩ = _ := HC.out m (by omega)
          have c2 : (w3.drewN q).cell? ⟨pb, j, none⟩ = _ := HC.out j (by omega)
          rw [← HW.out] at c0 c1 c2
          have hmi : m < i := by omega
          have h0i : 0 < i := by omega
          obtain ⟨x0, hx0⟩ : ∃ x, x = y + (if 0 < M then cmpI a 0 else 0) := ⟨_, rfl⟩
          obtain ⟨x1, hx1⟩ : ∃ x, x = y + (if m < M then cmpI a 0 else 0) := ⟨_, rfl⟩
          obtain ⟨x2, hx2⟩ : ∃ x, x = y + (if j < M then cmpI a 0 else 0) := ⟨_, rfl⟩
          rw [← hx0] at c0
          rw [← hx1] at c1
          rw [← hx2] at c2
          have hd : (0 ≤ a → 0 ≤ x1 - x2 ∧ x0 - x2 ≤ 1 ∧ 0 ≤ x0 - x2 ∧ x1 - x2 ≤ 1) ∧ (a < 0 → x1 - x2 ≤ 0 ∧ -1 ≤ x0 - x2 ∧ -1 ≤ x1 - x2 ∧ x0 - x2 ≤ 0) := by
            rw [hx0, hx1, hx2]
            rcases sgn_cases a with ⟨h2, h3⟩ | ⟨h2, h3⟩ | ⟨h2, h3⟩ <;> rw [h3] <;> (repeat' split) <;> omega
          have HM := Lib.hid hm
          clear hx0 hx1 hx2 hm
          by_cases hs : 0 ≤ a
          · obtain ⟨d1, d2, d3, d4⟩ := hd.1 hs
            have s0 : decide (a < 0) = false := by simp; omega
            have s1 : decide (x1 - x2 < 0) = false := by simp; omega
            have s2 : decide (1 < x0 - x2) = false := by simp; omega
            have s3 : -9223372036854775808 ≤ x1 - x2 ∧ x1 - x2 ≤ 9223372036854775807 := by omega
            have s4 : -9223372036854775808 ≤ x0 - x2 ∧ x0 - x2 ≤ 9223372036854775807 := by omega
            clear hd d1 d2 d3 d4
            go_wp2_with fail
            go_big_quiet (fail)
            have HW2 : Hid (wr.drewN nq = w3.drewN (q + nq)) := Lib.hid (by rw [HW.out, World.drewN_drewN])
            have c0' : (wr.drewN nq).cell? _ = _ := c0
            have c2' : (wr.drewN nq).cell? _ = _ := c2
            clear c0 c1 c2 HW
            generalize wr.drewN nq = wr at *
            generalize q + nq = q at *
            go_wp2_with fail
            go_big_quiet (fail)
            clear c0' c2'
            go_wp2
            go_roundg (i - (j + 1))
            case measure => omega
            case rel => exact ⟨j + 1, q + nq, by first | rfl | go_num, by omega, by omega, Nat.le_refl _, Lib.hid (by rw [HW2.out, World.drewN_drewN])⟩
          · obtain ⟨d1, d2, d3, d4⟩ := hd.2 (by omega)
            have t0 : decide (0 ≤ a) = false := by simpa using hs
            have s0 : a < 0 := by omega
            have s1 : decide (x2 < x1) = false := by simp; omega
            have s2 : decide (x0 - x2 < -1) = false := by simp; omega
            have s3 : -9223372036854775808 ≤ x1 - x2 ∧ x1 - x2 ≤ 9223372036854775807 := by omega
            have s4 : -9223372036854775808 ≤ x0 - x2 ∧ x0 - x2 ≤ 9223372036854775807 := by omega
            clear hd d1 d2 d3 d4 hs
            go_wp2_with fail
            go_big_quiet (fail)
            have HW2 : Hid (wr.drewN nq = w3.drewN (q + nq)) := Lib.hid (by rw [HW.out, World.drewN_drewN])
            have c0' : (wr.drewN nq).cell? _ = _ := c0
            have c2' : (wr.drewN nq).cell? _ = _ := c2
            clear c0 c1 c2 HW
            generalize wr.drewN nq = wr at *
            generalize q + nq = q at *
            go_wp2_with fail
            go_big_quiet (fail)
            clear c0' c2'
            go_wp2
            go_roundg (i - (j + 1))
            case measure => omega
            case rel => exact ⟨j + 1, q + nq, by first | rfl | go_num, by omega, by omega, Nat.le_refl _, Lib.hid (by rw [HW2.out, World.drewN_drewN])⟩
        · have hltz2 : ¬ (j : Int) < (i : Int) := by omega
          go_wp2
          go_ret
          exact ⟨rfl, by rw [HW.out]; exact below_drewN B3.out q⟩
end Go.Proofs.Yticcpcejdndplaa
