
/- The walk of the document's own Parse: at every text that memory holds it hands back what the plain facts say, and leaves memory as it was. -/
import Derived.Test.YtdnneognilffaaaGreatDoorCentRef
import Derived.Test.YtdnneognilffaaaGreatDoorCentAdd
namespace Go.Proofs.YtdnneognilffaaaGreatDoor
open Go.RowKit

theorem num_append (a b : List UInt8) (n : Nat) : num n (a ++ b) = num (num n a) b := by simp [num]
theorem num_take (s : ByteArray) (k : Nat) (h : k < s.size) (hd : digs s.data.toList = true) : ∃ d : Nat, s[k].toNat = 48 + d ∧ d ≤ 9 ∧ num 0 (s.data.toList.take (k + 1)) = num 0 (s.data.toList.take k) * 10 + d := by
  have h1 := digs_at _ k (by simpa using h) hd
  have h2 := (dig_iff _).1 h1
  have e : s.data.toList[k]'(by simpa using h) = s[k] := rfl
  rw [e] at h2
  refine ⟨s[k].toNat - 48, by omega, by omega, ?_⟩
  rw [List.take_succ_eq_append_getElem (by simpa using h), num_snoc]
  rfl
theorem num_over (s : ByteArray) (k : Nat) {b : Nat} (h : b < num 0 (s.data.toList.take k)) : b < num 0 s.data.toList := by
  have e := num_append (s.data.toList.take k) (s.data.toList.drop k) 0
  rw [List.take_append_drop] at e
  have := num_ge (s.data.toList.drop k) (num 0 (s.data.toList.take k))
  omega

/-- What is handed back of a number. -/
def numV (n : Int) : Int := if fit n = true then n else 0
def numE (n : Int) : Int := if fit n = true then 0 else 2
theorem ret_two {a b c d : Int} (h1 : a = b) (h2 : c = d) : Ending.returned (.tuple #[.int .i64 a, .int .i64 c]) = .returned (.tuple #[.int .i64 b, .int .i64 d]) := by rw [h1, h2]
theorem neg_big {u : Nat} (h : 9223372036854775808 < u) : numV (-(u : Int)) = 0 ∧ numE (-(u : Int)) = 2 := by
  have : fit (-(u : Int)) = false := (fit_no _).2 (by omega)
  simp [numV, numE, this]
theorem neg_ok {u : Nat} (h : u ≤ 9223372036854775808) : numV (-(u : Int)) = -(u : Int) ∧ numE (-(u : Int)) = 0 := by
  have : fit (-(u : Int)) = true := (fit_iff _).2 (by omega)
  simp [numV, numE, this]
theorem pos_big {u : Nat} (h : 9223372036854775808 < u) : numV (u : Int) = 0 ∧ numE (u : Int) = 2 := by
  have : fit (u : Int) = false := (fit_no _).2 (by omega)
  simp [numV, numE, this]
theorem pos_neg (u : Nat) : subV 0 (-(u : Int)) = numV (u : Int) ∧ subE 0 (-(u : Int)) = numE (u : Int) := by
  unfold subV subE numV numE
  rw [show (0 : Int) - -(u : Int) = u by omega]
  exact ⟨rfl, rfl⟩

set_option maxHeartbeats 1000000 in
theorem rparse_no (s : ByteArray) (w : World) (hs : s.size ≤ maxLen) (hw : whole s.data.toList = false) :
    Calls Tryz.prog 23 #[.string s] w fun e w' => e = .returned (.tuple #[.int .i64 0, .int .i64 5]) ∧ w = w' := by
  have HM := Lib.hid hs
  clear hs
  go_enter Tryz.func23, Tryz.ntmps23
  go_wp2_with (go_at_call 35; refine (form_any s _ HM.out).mono ?_; rintro e w' ⟨rfl, rfl⟩)
  go_ret2
  exact ⟨rfl, rfl⟩

set_option maxHeartbeats 1000000 in
theorem rparse_neg (s t : ByteArray) (w : World) (hs : s.size ≤ maxLen) (hp : 0 < s.size) (hw : whole s.data.toList = true) (h45 : ((s[0].toNat : Int) == 45) = true) (hx : s.extract 1 s.size = t) (hts : t.size ≤ maxLen) (hd : digs t.data.toList = true) :
    Calls Tryz.prog 23 #[.string s] w fun e w' => e = .returned (.tuple #[.int .i64 (numV (-(num 0 t.data.toList : Int))), .int .i64 (numE (-(num 0 t.data.toList : Int)))]) ∧ w = w' := by
  have HM := Lib.hid hs
  have HD := Lib.hid hd
  clear hd
  unfold maxLen at hs hts
  go_enter Tryz.func23, Tryz.ntmps23
  go_wp2_with (go_at_call 35; refine (form_any s _ HM.out).mono ?_; rintro e w' ⟨rfl, rfl⟩)
  go_loop [5, 6] (fun n i => ∃ k : Nat, ∃ m : Nat, k ≤ t.size ∧ i = .int .i64 k ∧ n = .int .i64 (-(m : Int)) ∧ m ≤ 9223372036854775808 ∧ num 0 (t.data.toList.take k) = m) (fun _ i => t.size - (intOf i).toNat)
  case atStart => exact ⟨0, 0, Nat.zero_le _, rfl, rfl, by omega, rfl⟩
  case round =>
    obtain ⟨k, m, hk, rfl, rfl, hm, hn⟩ := hrel
    have HN := Lib.hid hn
    clear hn
    by_cases hlt : k < t.size
    · obtain ⟨d, hd1, hd2, hd3⟩ := num_take t k hlt HD.out
      have c0 : (t[k].toNat : Int) - 48 = (d : Int) := by omega
      have c1 : (48 : Int) ≤ (t[k].toNat : Int) := by omega
      have c2 : (t[k].toNat : Int) ≤ 57 := by omega
      have HD1 := Lib.hid hd1
      have HD3 := Lib.hid (hd3.trans (by rw [HN.out]))
      clear hd1 hd3
      by_cases hov : m * 10 + d ≤ 9223372036854775808
      · have t1 : (-922337203685477580 : Int) ≤ -(m : Int) := by omega
        have t2 : (-9223372036854775808 : Int) + (d : Int) ≤ -(m : Int) * 10 := by omega
        go_wp2
        go_round
        case rel => exact ⟨k + 1, m * 10 + d, by omega, by go_num, by go_num, hov, HD3.out⟩
        case measure => simp [intOf]; omega
      · have hbig : 9223372036854775808 < num 0 t.data.toList := num_over t (k + 1) (by rw [HD3.out]; omega)
        have HBIG := Lib.hid hbig
        clear hbig
        by_cases hfst : 922337203685477580 < m
        · have t1 : -(m : Int) < -922337203685477580 := by omega
          go_wp2
          go_ret2
          exact ⟨ret_two (neg_big HBIG.out).1.symm (neg_big HBIG.out).2.symm, rfl⟩
        · have t1 : (-922337203685477580 : Int) ≤ -(m : Int) := by omega
          have t2 : -(m : Int) * 10 < (-9223372036854775808 : Int) + (d : Int) := by omega
          go_wp2
          go_ret2
          exact ⟨ret_two (neg_big HBIG.out).1.symm (neg_big HBIG.out).2.symm, rfl⟩
    · have hall : num 0 t.data.toList = m := by
        have := HN.out
        rwa [List.take_of_length_le (by simp; omega)] at this
      have HALL := Lib.hid hall
      clear hall
      go_wp2
      go_ret2
      rw [HALL.out]
      exact ⟨ret_two (neg_ok hm).1.symm (neg_ok hm).2.symm, rfl⟩

set_option maxHeartbeats 1000000 in
theorem rparse_pos (s : ByteArray) (w : World) (hs : s.size ≤ maxLen) (hp : 0 < s.size) (hw : whole s.data.toList = true) (h45 : ((s[0].toNat : Int) == 45) = false) (hd : digs s.data.toList = true) :
    Calls Tryz.prog 23 #[.string s] w fun e w' => e = .returned (.tuple #[.int .i64 (numV (num 0 s.data.toList : Int)), .int .i64 (numE (num 0 s.data.toList : Int))]) ∧ w = w' := by
  have HM := Lib.hid hs
  have HD := Lib.hid hd
  clear hd
  unfold maxLen at hs
  go_enter Tryz.func23, Tryz.ntmps23
  go_wp2_with (go_at_call 35; refine (form_any s _ HM.out).mono ?_; rintro e w' ⟨rfl, rfl⟩)
  go_loop [5, 6] (fun n i => ∃ k : Nat, ∃ m : Nat, k ≤ s.size ∧ i = .int .i64 k ∧ n = .int .i64 (-(m : Int)) ∧ m ≤ 9223372036854775808 ∧ num 0 (s.data.toList.take k) = m) (fun _ i => s.size - (intOf i).toNat)
  case atStart => exact ⟨0, 0, Nat.zero_le _, rfl, rfl, by omega, rfl⟩
  case round =>
    obtain ⟨k, m, hk, rfl, rfl, hm, hn⟩ := hrel
    have HN := Lib.hid hn
    clear hn
    by_cases hlt : k < s.size
    · obtain ⟨d, hd1, hd2, hd3⟩ := num_take s k hlt HD.out
      have c0 : (s[k].toNat : Int) - 48 = (d : Int) := by omega
      have c1 : (48 : Int) ≤ (s[k].toNat : Int) := by omega
      have c2 : (s[k].toNat : Int) ≤ 57 := by omega
      have HD1 := Lib.hid hd1
      have HD3 := Lib.hid (hd3.trans (by rw [HN.out]))
      clear hd1 hd3
      by_cases hov : m * 10 + d ≤ 9223372036854775808
      · have t1 : (-922337203685477580 : Int) ≤ -(m : Int) := by omega
        have t2 : (-9223372036854775808 : Int) + (d : Int) ≤ -(m : Int) * 10 := by omega
        go_wp2
        go_round
        case rel => exact ⟨k + 1, m * 10 + d, by omega, by go_num, by go_num, hov, HD3.out⟩
        case measure => simp [intOf]; omega
      · have hbig : 9223372036854775808 < num 0 s.data.toList := num_over s (k + 1) (by rw [HD3.out]; omega)
        have HBIG := Lib.hid hbig
        clear hbig
        by_cases hfst : 922337203685477580 < m
        · have t1 : -(m : Int) < -922337203685477580 := by omega
          go_wp2
          go_ret2
          exact ⟨ret_two (pos_big HBIG.out).1.symm (pos_big HBIG.out).2.symm, rfl⟩
        · have t1 : (-922337203685477580 : Int) ≤ -(m : Int) := by omega
          have t2 : -(m : Int) * 10 < (-9223372036854775808 : Int) + (d : Int) := by omega
          go_wp2
          go_ret2
          exact ⟨ret_two (pos_big HBIG.out).1.symm (pos_big HBIG.out).2.symm, rfl⟩
    · have hall : num 0 s.data.toList = m := by
        have := HN.out
        rwa [List.take_of_length_le (by simp; omega)] at this
      have HALL := Lib.hid hall
      clear hall
      go_wp2_with (go_at_call 36; refine (rneg_any _ _ ⟨by omega, by omega⟩).mono ?_; rintro e w' ⟨rfl, rfl⟩)
      go_ret2
      rw [HALL.out]
      exact ⟨ret_two (pos_neg m).1 (pos_neg m).2, rfl⟩

theorem parse_of_val (l : List UInt8) (h : whole l = true) : parseV l = numV (val l) ∧ parseE l = numE (val l) := by
  simp [parseV, parseE, numV, numE, h]
theorem rparse_any (s : ByteArray) (w : World) (hs : s.size ≤ maxLen) :
    Calls Tryz.prog 23 #[.string s] w fun e w' => e = .returned (.tuple #[.int .i64 (parseV s.data.toList), .int .i64 (parseE s.data.toList)]) ∧ w = w' := by
  cases hw : whole s.data.toList with
  | false =>
    have e1 : parseV s.data.toList = 0 := by simp [parseV, hw]
    have e2 : parseE s.data.toList = 5 := by simp [parseE, hw]
    rw [e1, e2]
    exact rparse_no s w hs hw
  | true =>
    rw [(parse_of_val _ hw).1, (parse_of_val _ hw).2]
    obtain ⟨⟨l⟩⟩ := s
    have hl : l.length ≤ maxLen := hs
    have hw' : whole l = true := hw
    show Calls Tryz.prog 23 #[.string ⟨l.toArray⟩] w fun e w' => e = .returned (.tuple #[.int .i64 (numV (val l)), .int .i64 (numE (val l))]) ∧ w = w'
    match l, hl, hw' with
    | [], _, hw' => cases hw'
    | c :: r, hl, hw' =>
      simp only [List.length_cons] at hl
      have h1 : (⟨(c :: r).toArray⟩ : ByteArray).size ≤ maxLen := by rw [size_of]; simp only [List.length_cons]; omega
      have h2 : 0 < (⟨(c :: r).toArray⟩ : ByteArray).size := by rw [size_of]; simp
      by_cases h45 : c = 45
      · subst h45
        have hx : (⟨(45 :: r).toArray⟩ : ByteArray).extract 1 (⟨(45 :: r).toArray⟩ : ByteArray).size = ⟨r.toArray⟩ := by
          rw [size_of]; exact extract_tail 45 r
        have hd : digs r = true := by
          have hp := hw'
          rw [whole_minus] at hp
          obtain ⟨c', r', e, _, hd⟩ := plainNum_cons hp
          rw [e]; exact hd
        exact rparse_neg ⟨(45 :: r).toArray⟩ ⟨r.toArray⟩ w h1 h2 hw' rfl hx (by rw [size_of]; omega) hd
      · rw [val_other r h45]
        exact rparse_pos ⟨(c :: r).toArray⟩ w h1 h2 hw' (beq_lit (n := 45) (toNat_ne h45)) (whole_digs h45 hw')
end Go.Proofs.YtdnneognilffaaaGreatDoor
