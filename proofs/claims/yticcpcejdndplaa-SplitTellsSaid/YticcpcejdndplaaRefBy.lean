
/- The walk of the document's division bit by bit. -/
import Derived.Test.YticcpcejdndplaaRefLoops
namespace Go.Proofs.Yticcpcejdndplaa
open Go.RowKit

/-- So many bits are left: the quotient and the rest of those that were. -/
def ByAt (n c j q r : Nat) : Prop := q = n / 2 ^ j / c ∧ r = n / 2 ^ j % c
theorem ByAt.lt {n c j q r : Nat} (h : ByAt n c j q r) (hc : 0 < c) : r < c := by rw [h.2]; exact Nat.mod_lt _ hc
theorem ByAt.le {n c j q r : Nat} (h : ByAt n c j q r) : q ≤ n := by rw [h.1]; exact Nat.le_trans (Nat.div_le_self _ _) (Nat.div_le_self _ _)
theorem ByAt.step {n c i q r b : Nat} (h : ByAt n c (i + 1) q r) (hb : b = n / 2 ^ i % 2) (hc : 0 < c) :
    (c ≤ 2 * r + b → ByAt n c i (2 * q + 1) (2 * r + b - c)) ∧ (¬ c ≤ 2 * r + b → ByAt n c i (2 * q) (2 * r + b)) := by_step hb h.1 h.2 hc

set_option maxHeartbeats 1000000 in
theorem rby_any (n c : Nat) (w : World) (hn : n ≤ 85070591730234615865843651857942052864) (hc : 0 < c) (hc' : c ≤ 9223372036854775808) :
    Calls Try.prog 39 #[.agg #[.int .u64 (hi64 n), .int .u64 (lo64 n)], .int .u64 (c : Int)] w fun e w' => e = .returned (.tuple #[.agg #[.int .u64 (hi64 (n / c)), .int .u64 (lo64 (n / c))], .int .u64 ((n % c : Nat) : Int)]) ∧ Below w.heap.size w w' := by
  have HN := Lib.hid hn
  have HC := Lib.hid hc
  have HC' := Lib.hid hc'
  have c1 : (c : Int) ≤ 9223372036854775808 := by omega
  clear hn hc hc'
  have hz : hi64 0 = 0 := rfl
  have hz' : lo64 0 = 0 := rfl
  obtain ⟨F, hF⟩ : ∃ F : Nat, F = n / c := ⟨_, rfl⟩
  obtain ⟨M, hM⟩ : ∃ M : Nat, M = n % c := ⟨_, rfl⟩
  rw [← hF, ← hM]
  have HF := Lib.hid hF
  have HM := Lib.hid hM
  clear hF hM
  go_enter Try.func39, Try.ntmps39
  go_wp2
  go_loopw [7, 8] (fun s t wr => ∃ (j q r : Nat), j ≤ 128 ∧ s = .int .u64 r ∧ t = .int .i64 ((j : Int) - 1) ∧ r < c ∧ Hid (ByAt n c j q r) ∧ Hid (TwoAt wr (w.heap.size + 2) q) ∧ Hid (TwoAt wr w.heap.size n) ∧ Hid (TwoAt wr (w.heap.size + 1) 0) ∧ Hid (Below w.heap.size w wr)) (fun _ t _ => (intOf t + 1).toNat)
  case atStart =>
    refine ⟨128, 0, 0, by omega, rfl, by rfl, HC.out, Lib.hid ⟨?_, ?_⟩, Lib.hid ?_, Lib.hid ?_, Lib.hid ?_, Lib.hid ?_⟩
    · rw [Nat.div_eq_of_lt (Nat.lt_of_le_of_lt HN.out (by decide)), Nat.zero_div]
    · rw [Nat.div_eq_of_lt (Nat.lt_of_le_of_lt HN.out (by decide)), Nat.zero_mod]
    · have := TwoAt.mk ((w.alloc (.cells #[.int .u64 (hi64 n), .int .u64 (lo64 n)] 60)).alloc (.cells #[.int .u64 (hi64 0), .int .u64 (lo64 0)] 60)) 0 60
      simpa [hz, hz'] using this
    · have := ((TwoAt.mk w n 60).keep ((Below.refl _ _).alloc (Nat.le_refl _) (.cells #[.int .u64 (hi64 0), .int .u64 (lo64 0)] 60)) (Nat.le_refl _)).keep ((Below.refl _ _).alloc (Nat.le_refl _) (.cells #[.int .u64 (hi64 0), .int .u64 (lo64 0)] 60)) (Nat.le_refl _)
      simpa [hz, hz'] using this
    · have := (TwoAt.mk (w.alloc (.cells #[.int .u64 (hi64 n), .int .u64 (lo64 n)] 60)) 0 60).keep ((Below.refl _ _).alloc (Nat.le_refl _) (.cells #[.int .u64 (hi64 0), .int .u64 (lo64 0)] 60)) (Nat.le_refl _)
      simpa [hz, hz'] using this
    · exact ((((Below.refl _ _).alloc (Nat.le_refl _) _).alloc (by simp) _).alloc (by simp; omega) _)
  case round =>
    obtain ⟨j, q, r, hj, rfl, rfl, hr, ht, T, P, R, hbl⟩ := hrel
    by_cases h0 : j = 0
    · subst h0
      have hq : F = q := by have := ht.out.1; rw [HF.out]; simpa using this.symm
      have hm : M = r := by have := ht.out.2; rw [HM.out]; simpa using this.symm
      subst hq hm
      obtain ⟨⟨t0, t1⟩, t2, t3⟩ := T.out
      obtain ⟨⟨r0, r1⟩, r2, r3⟩ := R.out
      go_wp2
      refine bodyPost_ret (v := .tuple #[.agg #[.int .u64 (hi64 F), .int .u64 (lo64 F)], .int .u64 (M : Int)]) (by simp [results, Try.results39, go_sem, *]) rfl ⟨rfl, ?_⟩
      exact (hbl.out.setCell (by simp) _).setCell (by simp) _
    · obtain ⟨i, rfl⟩ : ∃ i, j = i + 1 := ⟨j - 1, by omega⟩
      obtain ⟨B, hB⟩ : ∃ B : Nat, B = n / 2 ^ i % 2 := ⟨_, rfl⟩
      have st := ht.out.step hB HC.out
      have hB1 : B ≤ 1 := by omega
      have hi : i < 128 := by omega
      have ei : (((i + 1 : Nat) : Int) - 1) = (i : Int) := by omega
      have hq := Lib.hid (Nat.le_trans ht.out.le HN.out)
      have HBit := Lib.hid hB.symm
      have hrr : r ≤ 9223372036854775807 := by have := HC'.out; omega
      rw [ei]
      clear hB h0 hj
      obtain ⟨⟨q0, q1⟩, q2, q3⟩ := P.out
      go_wp2_with fail
      clear q0 q1 q2 q3
      refine (rbit_any n i _ HN.out hi).mono ?_
      rintro e w1 ⟨rfl, hb1⟩
      have T1 := Lib.hid (T.out.keep hb1 (Nat.le_refl _))
      have P1 := Lib.hid (P.out.keep hb1 (Nat.le_refl _))
      have R1 := Lib.hid (R.out.keep hb1 (Nat.le_refl _))
      have HB1 := Lib.hid (hbl.out.trans (hb1.mono hbl.out.size))
      clear hb1
      rw [HBit.out]
      obtain ⟨⟨t0, t1⟩, t2, t3⟩ := T1.out
      by_cases hge : c ≤ 2 * r + B
      · have S1 := Lib.hid (st.1 hge)
        have g1 : (c : Int) ≤ (r : Int) * 2 + (B : Int) := by omega
        have g2 := Lib.hid hge
        clear st hge ei
        go_wp2_with fail
        clear t0 t1 t2 t3
        refine (rdouble1_any q _ hq.out).mono ?_
        rintro e w2 ⟨rfl, hb2⟩
        have T2 := Lib.hid (T1.out.keep hb2 (Nat.le_refl _))
        have P2 := Lib.hid (P1.out.keep hb2 (Nat.le_refl _))
        have R2 := Lib.hid (R1.out.keep hb2 (Nat.le_refl _))
        have HB2 := Lib.hid (HB1.out.trans (hb2.mono HB1.out.size))
        clear hb2
        obtain ⟨⟨t0, t1⟩, t2, t3⟩ := T2.out
        go_wp2_with fail
        go_roundw
        case rel => exact ⟨i, 2 * q + 1, 2 * r + B - c, by omega, val_u64 (by have := g2.out; omega), rfl, by have := g2.out; omega, S1, Lib.hid (T2.out.set _), Lib.hid (P2.out.other _ _ (by omega)), Lib.hid (R2.out.other _ _ (by omega)), Lib.hid ((HB2.out.setCell (by simp <;> omega) _).setCell (by simp <;> omega) _)⟩
        case measure => simp [intOf] <;> omega
      · have S1 := Lib.hid (st.2 hge)
        have g1 : decide ((c : Int) ≤ (r : Int) * 2 + (B : Int)) = false := by simp; omega
        have g2 := Lib.hid hge
        clear st hge ei
        go_wp2_with fail
        clear t0 t1 t2 t3
        refine (rdouble0_any q _ hq.out).mono ?_
        rintro e w2 ⟨rfl, hb2⟩
        have T2 := Lib.hid (T1.out.keep hb2 (Nat.le_refl _))
        have P2 := Lib.hid (P1.out.keep hb2 (Nat.le_refl _))
        have R2 := Lib.hid (R1.out.keep hb2 (Nat.le_refl _))
        have HB2 := Lib.hid (HB1.out.trans (hb2.mono HB1.out.size))
        clear hb2
        obtain ⟨⟨t0, t1⟩, t2, t3⟩ := T2.out
        go_wp2_with fail
        go_roundw
        case rel => exact ⟨i, 2 * q, 2 * r + B, by omega, val_u64 (by omega), rfl, by have := g2.out; omega, S1, Lib.hid (T2.out.set _), Lib.hid (P2.out.other _ _ (by omega)), Lib.hid (R2.out.other _ _ (by omega)), Lib.hid ((HB2.out.setCell (by simp <;> omega) _).setCell (by simp <;> omega) _)⟩
        case measure => simp [intOf] <;> omega
end Go.Proofs.Yticcpcejdndplaa
