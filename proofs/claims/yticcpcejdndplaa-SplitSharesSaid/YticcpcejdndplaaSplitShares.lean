
/- The walk of SplitShares: for any amount and any parts it returns true. -/
import Derived.Test.YticcpcejdndplaaSplitAlive
namespace Go.Proofs.Yticcpcejdndplaa
open Go.RowKit

theorem share_whole {a : Int} (ha : In64 a) : mdV a 10000 10000 = a := by
  obtain ⟨hv, -⟩ := md_low (a := a) (w := 10000) (s := 10000) (by omega) (by omega) (by omega) ha
  have h1 := qr_eq a 10000 10000
  have h2 := rN_lt (a := a) (w := 10000) (s := 10000) (by omega)
  have e10 : Int.natAbs 10000 = 10000 := rfl
  rw [e10] at h1 h2
  have hu : upN a 10000 10000 = 0 := by
    unfold upN
    rw [if_neg]
    rw [e10]
    omega
  rw [hv, hu, Nat.add_zero]
  have : qN a 10000 10000 = a.natAbs := by omega
  rw [this, sgn_abs]
/-- What is left is the other share, or one off. -/
theorem share_other {a p : Int} (ha : In64 a) (h0 : 0 ≤ p) (h1 : p ≤ 10000) : ∃ d : Int, -1 ≤ d ∧ d ≤ 1 ∧ mdV a p 10000 - (a - mdV a (10000 - p) 10000) = d := by
  obtain ⟨hv, -⟩ := md_low (a := a) (w := p) (s := 10000) h0 h1 (by omega) ha
  obtain ⟨hv', -⟩ := md_low (a := a) (w := 10000 - p) (s := 10000) (by omega) (by omega) (by omega) ha
  have e1 := qr_eq a p 10000
  have e2 := qr_eq a (10000 - p) 10000
  have l1 := rN_lt (a := a) (w := p) (s := 10000) (by omega)
  have l2 := rN_lt (a := a) (w := 10000 - p) (s := 10000) (by omega)
  have e10 : Int.natAbs 10000 = 10000 := rfl
  rw [e10] at e1 e2 l1 l2
  have em : a.natAbs * p.natAbs + a.natAbs * (10000 - p).natAbs = a.natAbs * 10000 := by rw [← Nat.mul_add]; congr 1; omega
  refine ⟨_, ?_, ?_, rfl⟩
  all_goals
    rw [hv, hv']
    unfold upN
    rw [e10]
    rcases sgn_cases a with ⟨c2, c3⟩ | ⟨c2, c3⟩ | ⟨c2, c3⟩ <;> rw [c3] <;> (repeat' split) <;> omega

set_option maxHeartbeats 1600000 in
theorem splitShares_walk (a p : Int) (w : World) (ha : In64 a) (hp : InU16 p) :
    Calls Try.prog 6 #[.int .i64 a, .int .u16 p] w fun e w' => e = .returned (.bool true) ∧ RowKit.Below w.heap.size w w' := by
  obtain ⟨p1, p2⟩ := hp
  obtain ⟨P, hP⟩ : ∃ P, P = p % 10001 := ⟨_, rfl⟩
  have q1 : 0 ≤ P := by omega
  have q2 : P ≤ 10000 := by omega
  have S1 := fun W => share_ok a P W ha (by unfold shBad; simp; omega)
  have S2 := fun W => share_ok a (10000 - P) W ha (by unfold shBad; simp; omega)
  have S3 := fun W => share_ok a 10000 W ha (by decide)
  have b1 := share_md (p := P) ha (by unfold shBad; simp; omega)
  have b2 := share_md (p := 10000 - P) ha (by unfold shBad; simp; omega)
  obtain ⟨d, d1, d2, hd⟩ := share_other ha q1 q2
  rw [share_whole ha, Int.sub_self] at S3
  obtain ⟨x, hx⟩ : ∃ x, x = mdV a P 10000 := ⟨_, rfl⟩
  obtain ⟨y, hy⟩ : ∃ y, y = mdV a (10000 - P) 10000 := ⟨_, rfl⟩
  rw [← hx] at S1 b1 hd
  rw [← hy] at S2 b2 hd
  obtain ⟨z, hz⟩ : ∃ z, z = a - x := ⟨_, rfl⟩
  obtain ⟨v, hv⟩ : ∃ v, v = a - y := ⟨_, rfl⟩
  rw [← hz] at S1 b1
  rw [← hv] at S2 b2 hd
  unfold In64 at b1 b2 ha
  obtain ⟨⟨b11, b12⟩, ⟨b13, b14⟩⟩ := b1
  obtain ⟨⟨b21, b22⟩, ⟨b23, b24⟩⟩ := b2
  obtain ⟨a1, a2⟩ := ha
  have H1 := Lib.hid S1
  have H2 := Lib.hid S2
  have H3 := Lib.hid S3
  have t1 : (a != a) = false := by simp
  have t2 : (x + z != a) = false := by rw [bne_eq_false_iff_eq]; omega
  have t3 : (y + v != a) = false := by rw [bne_eq_false_iff_eq]; omega
  have t4 : ((x == v) || (x - v == 1) || (v - x == 1)) = true := by
    simp only [Bool.or_eq_true, beq_iff_eq]; omega
  have r1 : -9223372036854775808 ≤ x + z ∧ x + z ≤ 9223372036854775807 := by omega
  have r2 : -9223372036854775808 ≤ y + v ∧ y + v ≤ 9223372036854775807 := by omega
  obtain ⟨r11, r12⟩ := r1
  obtain ⟨r21, r22⟩ := r2
  have HT4 := Lib.hid t4
  have HD := Lib.hid hd
  have HP := Lib.hid hP
  clear S1 S2 S3 hx hy hz hv hP t4 hd
  go_enter Try.func6, Try.ntmps6
  go_wp2_with fail
  refine (alive_any _).mono ?_
  rintro e w1 ⟨rfl, hb1⟩
  have B1 := Lib.hid hb1
  clear hb1
  have eP : p % 10001 = P := HP.out.symm
  go_wp2_with fail
  refine (H1.out _).mono ?_
  rintro e w2 ⟨rfl, hb2⟩
  have B2 := Lib.hid (B1.out.trans (hb2.mono B1.out.size))
  clear hb2 B1
  go_wp2_with fail
  refine (H2.out _).mono ?_
  rintro e w3 ⟨rfl, hb3⟩
  have B3 := Lib.hid (B2.out.trans (hb3.mono B2.out.size))
  clear hb3 B2
  go_wp2_with fail
  refine (H3.out _).mono ?_
  rintro e w4 ⟨rfl, hb4⟩
  have B4 := Lib.hid (B3.out.trans (hb4.mono B3.out.size))
  clear hb4 B3
  by_cases c1 : x = v
  · have t5 : (x == v) = true := by rw [beq_iff_eq]; exact c1
    have C1 := Lib.hid c1
    clear c1
    go_wp2
    go_ret
    exact ⟨rfl, B4.out⟩
  · have t5 : (x == v) = false := by rw [beq_eq_false_iff_ne]; exact c1
    have C1 := Lib.hid c1
    clear c1
    by_cases c2 : x - v = 1
    · have t6 : (x - v == 1) = true := by rw [beq_iff_eq]; exact c2
      have r5 : -9223372036854775808 ≤ x - v ∧ x - v ≤ 9223372036854775807 := by omega
      obtain ⟨r51, r52⟩ := r5
      clear c2
      go_wp2
      go_ret
      exact ⟨rfl, B4.out⟩
    · have t6 : (x - v == 1) = false := by rw [beq_eq_false_iff_ne]; exact c2
      have t7 : (v - x == 1) = true := by rw [beq_iff_eq]; have := HD.out; have := C1.out; omega
      have r5 : -9223372036854775808 ≤ x - v ∧ x - v ≤ 9223372036854775807 := by have := HD.out; omega
      have r6 : -9223372036854775808 ≤ v - x ∧ v - x ≤ 9223372036854775807 := by have := HD.out; omega
      obtain ⟨r51, r52⟩ := r5
      obtain ⟨r61, r62⟩ := r6
      clear c2
      go_wp2
      go_ret
      exact ⟨rfl, B4.out⟩
end Go.Proofs.Yticcpcejdndplaa
