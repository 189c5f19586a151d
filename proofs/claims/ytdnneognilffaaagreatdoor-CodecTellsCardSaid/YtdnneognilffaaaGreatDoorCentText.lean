
/- The walks of cent.allDigits, cent.isWholeNumber, cent.Print and cent.Parse, over the library's own contracts for strconv: at every text of at most 300 bytes, and every amount of 64 bits, they hand back what the plain facts say; memory that was there stays. -/
import Derived.Test.YtdnneognilffaaaGreatDoorProg
import Derived.Test.YtdnneognilffaaaGreatDoorCentNum
import Derived.WalkKit
import Derived.WalkSpells
import Derived.Lib.Hide
import Derived.Test.YtdnneognilffaaaGreatDoorShelf
import Derived.WalkSmall
namespace Go.Proofs.YtdnneognilffaaaGreatDoor
open Go.RowKit

theorem digs_take (s : ByteArray) (k : Nat) (h : k < s.size) : digs (s.data.toList.take (k + 1)) = (digs (s.data.toList.take k) && dig s[k]) := by
  rw [List.take_succ_eq_append_getElem (by simpa using h), digs_snoc]; rfl
theorem digs_at (l : List UInt8) (k : Nat) (h : k < l.length) (hd : digs l = true) : dig l[k] = true := by
  unfold digs at hd
  exact List.all_eq_true.1 hd _ (List.getElem_mem h)

set_option maxHeartbeats 400000 in
theorem allDigits_any (s : ByteArray) (w : World) (hs : s.size ≤ maxLen) :
    Calls Tryz.prog 86 #[.string s] w fun e w' => e = .returned (.bool (digs s.data.toList)) ∧ w = w' := by
  unfold maxLen at hs
  go_enter Tryz.func86, Tryz.ntmps86
  go_wp2
  go_loop [6] (fun i => ∃ k : Nat, k ≤ s.size ∧ i = .int .i64 k ∧ digs (s.data.toList.take k) = true) (fun i => s.size - (intOf i).toNat)
  case atStart => exact ⟨0, Nat.zero_le _, rfl, rfl⟩
  case round =>
    obtain ⟨k, hk, rfl, hd⟩ := hrel
    have HD := Lib.hid hd
    clear hd
    by_cases hlt : k < s.size
    · cases hc : dig s[k] with
      | true =>
        have HC := Lib.hid hc
        obtain ⟨c1, c2⟩ := (dig_iff _).1 hc
        have c3 : (48 : Int) ≤ (s[k].toNat : Int) := by omega
        have c4 : (s[k].toNat : Int) ≤ 57 := by omega
        clear hc c1 c2
        go_wp2
        go_round
        case rel => exact ⟨k + 1, by omega, by go_num, by rw [digs_take s k hlt, HD.out, HC.out]; rfl⟩
        case measure => simp [intOf]; omega
      | false =>
        have hfin : digs s.data.toList = false := by
          cases h : digs s.data.toList with
          | false => rfl
          | true =>
            have := digs_at _ k (by simpa using hlt) h
            rw [← hc]; exact this.symm
        have HFIN := Lib.hid hfin
        clear hfin
        have hc' : ¬ (48 ≤ s[k].toNat ∧ s[k].toNat ≤ 57) := by rw [← dig_iff, hc]; simp
        clear hc
        by_cases c1 : 48 ≤ s[k].toNat
        · have c3 : (48 : Int) ≤ (s[k].toNat : Int) := by omega
          have c4 : (57 : Int) < (s[k].toNat : Int) := by omega
          clear hc' c1
          go_wp2
          go_ret
          exact ⟨ret_bool HFIN.out.symm, rfl⟩
        · have c3 : (s[k].toNat : Int) < 48 := by omega
          clear hc' c1
          go_wp2
          go_ret
          exact ⟨ret_bool HFIN.out.symm, rfl⟩
    · have hfin : digs s.data.toList = true := by
        have := HD.out
        rwa [List.take_of_length_le (by simp; omega)] at this
      have HFIN := Lib.hid hfin
      clear hfin
      go_wp2
      go_ret
      exact ⟨ret_bool HFIN.out.symm, rfl⟩
theorem beq_lit {c : UInt8} {n : Nat} (h : c.toNat ≠ n) : ((c.toNat : Int) == (n : Int)) = false := by
  rw [beq_eq_false_iff_ne]; omega
theorem bne_lit {c : UInt8} {n : Nat} (h : c.toNat ≠ n) : ((c.toNat : Int) != (n : Int)) = true := by
  rw [bne_iff_ne]; omega
theorem list_ne {c d : UInt8} {r : List UInt8} (h : c ≠ d) : ((c :: r) == [d]) = false := by
  rw [beq_eq_false_iff_ne]; intro e; injection e with e _; exact h e
theorem list_ne2 {c d e : UInt8} {r : List UInt8} : ((c :: d :: r) == [e]) = false := by
  rw [beq_eq_false_iff_ne]; intro h; injection h with _ h; cases h

theorem extract_tail (c : UInt8) (l : List UInt8) : (⟨(c :: l).toArray⟩ : ByteArray).extract 1 (l.length + 1) = ⟨l.toArray⟩ := by
  apply ByteArray.ext
  rw [ByteArray.data_extract]
  apply Array.ext'
  simp
theorem first_at (c : UInt8) (l : List UInt8) (h : 0 < (⟨(c :: l).toArray⟩ : ByteArray).size) : (⟨(c :: l).toArray⟩ : ByteArray)[0] = c := rfl
theorem size_pos (c : UInt8) (l : List UInt8) : 0 < (⟨(c :: l).toArray⟩ : ByteArray).size := by show 0 < (c :: l).toArray.size; simp
set_option maxHeartbeats 400000 in
theorem isWhole_nil (w : World) :
    Calls Tryz.prog 75 #[.string ⟨#[]⟩] w fun e w' => e = .returned (.bool (whole [])) ∧ w = w' := by
  go_enter Tryz.func75, Tryz.ntmps75
  go_wp2
  go_ret
  exact ⟨rfl, rfl⟩
set_option maxHeartbeats 400000 in
theorem isWhole_zero (w : World) :
    Calls Tryz.prog 75 #[.string ⟨#[48]⟩] w fun e w' => e = .returned (.bool (whole [48])) ∧ w = w' := by
  go_enter Tryz.func75, Tryz.ntmps75
  go_wp2
  go_ret
  exact ⟨rfl, rfl⟩
set_option maxHeartbeats 400000 in
theorem isWhole_minus (w : World) :
    Calls Tryz.prog 75 #[.string ⟨#[45]⟩] w fun e w' => e = .returned (.bool (whole [45])) ∧ w = w' := by
  go_enter Tryz.func75, Tryz.ntmps75
  go_wp2
  go_ret
  exact ⟨rfl, rfl⟩
set_option maxHeartbeats 400000 in
theorem isWhole_minus0 (r : List UInt8) (w : World) (hs : r.length + 2 ≤ maxLen) :
    Calls Tryz.prog 75 #[.string ⟨(45 :: 48 :: r).toArray⟩] w fun e w' => e = .returned (.bool (whole (45 :: 48 :: r))) ∧ w = w' := by
  unfold maxLen at hs
  have hx := extract_tail 45 (48 :: r)
  rw [show (48 :: r).length + 1 = r.length + 1 + 1 from rfl] at hx
  go_enter Tryz.func75, Tryz.ntmps75
  go_wp2
  go_ret
  exact ⟨rfl, rfl⟩
set_option maxHeartbeats 400000 in
theorem isWhole_minusd (d : UInt8) (r : List UInt8) (w : World) (hs : r.length + 2 ≤ maxLen) (hd : d ≠ 48) :
    Calls Tryz.prog 75 #[.string ⟨(45 :: d :: r).toArray⟩] w fun e w' => e = .returned (.bool (whole (45 :: d :: r))) ∧ w = w' := by
  have hfin : whole (45 :: d :: r) = digs (d :: r) := by rw [whole_minus]; simp [plainNum, hd]
  rw [hfin]
  clear hfin
  have hm : (⟨(d :: r).toArray⟩ : ByteArray).size ≤ maxLen := by show (d :: r).toArray.size ≤ maxLen; simp; omega
  unfold maxLen at hs
  have h1 : ((d.toNat : Int) != 48) = true := bne_lit (n := 48) (toNat_ne hd)
  have hx0 := first_at d r (size_pos d r)
  clear hd
  have hx := extract_tail 45 (d :: r)
  rw [show (d :: r).length + 1 = r.length + 1 + 1 from rfl] at hx
  go_enter Tryz.func75, Tryz.ntmps75
  go_wp2_with (go_at_call 86; refine (allDigits_any ⟨(d :: r).toArray⟩ _ hm).mono ?_; rintro e w' ⟨rfl, rfl⟩)
  go_ret
  exact ⟨rfl, rfl⟩
set_option maxHeartbeats 400000 in
theorem isWhole_0 (d : UInt8) (r : List UInt8) (w : World) (hs : r.length + 2 ≤ maxLen) :
    Calls Tryz.prog 75 #[.string ⟨(48 :: d :: r).toArray⟩] w fun e w' => e = .returned (.bool (whole (48 :: d :: r))) ∧ w = w' := by
  have hfin : whole (48 :: d :: r) = false := by rw [whole_other (d :: r) (by decide), list_ne2]; rfl
  rw [hfin]
  clear hfin
  unfold maxLen at hs
  have h0 : ((48 :: d :: r : List UInt8) == [48]) = false := list_ne2
  go_enter Tryz.func75, Tryz.ntmps75
  go_wp2
  go_ret
  exact ⟨rfl, rfl⟩
set_option maxHeartbeats 400000 in
theorem isWhole_d (d : UInt8) (r : List UInt8) (w : World) (hs : r.length + 1 ≤ maxLen) (hd : d ≠ 48) (hd' : d ≠ 45) :
    Calls Tryz.prog 75 #[.string ⟨(d :: r).toArray⟩] w fun e w' => e = .returned (.bool (whole (d :: r))) ∧ w = w' := by
  have h0 : ((d :: r : List UInt8) == [48]) = false := list_ne hd
  have hfin : whole (d :: r) = digs (d :: r) := by rw [whole_other r hd', h0]; simp [plainNum, hd]
  rw [hfin]
  clear hfin
  have hm : (⟨(d :: r).toArray⟩ : ByteArray).size ≤ maxLen := by show (d :: r).toArray.size ≤ maxLen; simp; omega
  unfold maxLen at hs
  have h1 : ((d.toNat : Int) != 48) = true := bne_lit (n := 48) (toNat_ne hd)
  have hx0 := first_at d r (size_pos d r)
  have h2 : ((d.toNat : Int) == 45) = false := beq_lit (n := 45) (toNat_ne hd')
  clear hd hd'
  go_enter Tryz.func75, Tryz.ntmps75
  go_wp2_with (go_at_call 86; refine (allDigits_any ⟨(d :: r).toArray⟩ _ hm).mono ?_; rintro e w' ⟨rfl, rfl⟩)
  go_ret
  exact ⟨rfl, rfl⟩
theorem isWhole_any (s : ByteArray) (w : World) (hs : s.size ≤ maxLen) :
    Calls Tryz.prog 75 #[.string s] w fun e w' => e = .returned (.bool (whole s.data.toList)) ∧ w = w' := by
  obtain ⟨⟨l⟩⟩ := s
  have hl : l.length ≤ maxLen := hs
  show Calls Tryz.prog 75 #[.string ⟨l.toArray⟩] w fun e w' => e = .returned (.bool (whole l)) ∧ w = w'
  match l, hl with
  | [], _ => exact isWhole_nil w
  | c :: r, hl =>
    simp only [List.length_cons] at hl
    by_cases h45 : c = 45
    · subst h45
      match r, hl with
      | [], _ => exact isWhole_minus w
      | d :: r, hl =>
        simp only [List.length_cons] at hl
        by_cases h48 : d = 48
        · subst h48; exact isWhole_minus0 r w (by omega)
        · exact isWhole_minusd d r w (by omega) h48
    · by_cases h48 : c = 48
      · subst h48
        match r, hl with
        | [], _ => exact isWhole_zero w
        | d :: r, hl =>
          simp only [List.length_cons] at hl
          exact isWhole_0 d r w (by omega)
      · exact isWhole_d c r w (by omega) h48 h45

/-! ### What the library's variables hold -/
/-- The table of powers of ten is the library's, and there is an error for what is out of range. -/
structure Laid (w : World) : Prop where
  tab : Lib.TabIs Tryz.prog w "internal/strconv.uint64pow10" .u64 Lib.pow10Tab
  rng : ∃ tp p, w.var? Tryz.prog "strconv.ErrRange" = some #[.iface tp p]
theorem gPow : Tryz.prog.globalNamed "internal/strconv.uint64pow10" = some 0 := by kernel_rfl
theorem gRng : Tryz.prog.globalNamed "strconv.ErrRange" = some 7 := by kernel_rfl
theorem var_lt {P : Program} {w : World} {n : String} {g : Nat} {cs : Array Value} (hg : P.globalNamed n = some g) (h : w.var? P n = some cs) : g < w.heap.size := by
  unfold World.var? at h
  rw [hg] at h
  simp only [Option.bind_some] at h
  rcases Nat.lt_or_ge g w.heap.size with hlt | hge
  · exact hlt
  · rw [Array.getElem?_eq_none hge] at h; cases h
theorem Laid.below {w w' : World} (h : Laid w) (hb : Below w.heap.size w w') : Laid w' := by
  obtain ⟨tp, p, hv⟩ := h.rng
  exact ⟨var?_below hb gPow (var_lt gPow h.tab) h.tab, tp, p, var?_below hb gRng (var_lt gRng hv) hv⟩

theorem fmt_any (a : Int) (w : World) (ha : In64 a) (hL : Laid w) :
    Calls Tryz.prog 27 #[.int .i64 a, .int .i64 10] w fun e w' => e = .returned (.string ⟨(Lib.itoa a).toArray⟩) ∧ Below w.heap.size w w' := by
  refine (Tryz.strconv_FormatInt_10 a ha.1 ha.2 w hL.tab).mono ?_
  rintro e w' ⟨rfl, k, os, rfl⟩
  refine ⟨rfl, rfl, rfl, rfl, ?_, fun j hj => ?_⟩
  · show w.heap.size ≤ (w.heap ++ os).size
    rw [Array.size_append]; omega
  · show (w.heap ++ os)[j]? = w.heap[j]?
    rw [Array.getElem?_append_left hj]

set_option maxHeartbeats 400000 in
theorem print_any (a : Int) (w : World) (ha : In64 a) (hL : Laid w) :
    Calls Tryz.prog 14 #[.int .i64 a] w fun e w' => e = .returned (.string ⟨(Lib.itoa a).toArray⟩) ∧ Below w.heap.size w w' := by
  have HL := Lib.hid hL
  clear hL
  go_enter Tryz.func14, Tryz.ntmps14
  go_wp2_with (go_at_call 27; refine (fmt_any a _ ha HL.out).mono ?_; rintro e w' ⟨rfl, hb⟩)
  go_ret
  exact ⟨rfl, hb⟩

theorem pint_ok (s : ByteArray) (w : World) (hs : s.size ≤ 1000000) (v : Int) (h : Lib.parseIntB 64 s.data.toList = .ok v) :
    Calls Tryz.prog 76 #[.string s, .int .i64 10, .int .i64 64] w fun e w' => e = .returned (.tuple #[.int .i64 v, .nilIface]) ∧ Below w.heap.size w w' := by
  refine (Tryz.strconv_ParseInt_10_at64_ok s (by omega) v h w).mono ?_
  rintro e w' ⟨rfl, rfl | ⟨t, rfl⟩⟩
  · exact ⟨rfl, Below.refl _ _⟩
  · exact ⟨rfl, Lib.bytesWorld_below _ _ _⟩
theorem pint_over (s : ByteArray) (w : World) (hs : s.size ≤ 1000000) (hL : Laid w) (h : Lib.parseIntB 64 s.data.toList = .range) :
    Calls Tryz.prog 76 #[.string s, .int .i64 10, .int .i64 64] w fun e w' => (∃ N, e = .returned (.tuple #[.int .i64 (Lib.intSat 64 s.data.toList), .iface 128 (.pointer (some ⟨N, 0, none⟩))])) ∧ Below w.heap.size w w' := by
  obtain ⟨tp, p, hv⟩ := hL.rng
  refine (Tryz.strconv_ParseInt_10_at64_range_var s (by omega) h tp p w hv).mono ?_
  rintro e w' ⟨N, rfl, _, _, hb⟩
  exact ⟨⟨N, rfl⟩, hb⟩

set_option maxHeartbeats 400000 in
theorem parse_long (s : ByteArray) (w : World) (hs : s.size ≤ 1000000) (hL : Laid w) :
    Calls Tryz.prog 58 #[.string s] w fun e w' => e = .returned (.tuple #[.int .i64 (parseV s.data.toList), .int .i64 (parseE s.data.toList)]) ∧ Below w.heap.size w w' := by
  have hm : s.size ≤ maxLen := by unfold maxLen; omega
  cases hw : whole s.data.toList with
  | false =>
    have e1 : parseV s.data.toList = 0 := by simp [parseV, hw]
    have e2 : parseE s.data.toList = 5 := by simp [parseE, hw]
    rw [e1, e2]
    clear e1 e2 hL
    go_enter Tryz.func58, Tryz.ntmps58
    go_wp2_with (go_at_call 75; refine (isWhole_any s _ hm).mono ?_; rintro e w' ⟨rfl, rfl⟩)
    go_ret2
    exact ⟨rfl, Below.refl _ _⟩
  | true =>
    have hp := parseInt_whole hw
    have HL := Lib.hid hL
    clear hL
    cases hf : fit (val s.data.toList) with
    | true =>
      have e1 : parseV s.data.toList = val s.data.toList := by simp [parseV, hw, hf]
      have e2 : parseE s.data.toList = 0 := by simp [parseE, hw, hf]
      rw [e1, e2]
      rw [hf, if_pos rfl] at hp
      clear e1 e2 hf
      have HP := Lib.hid hp
      clear hp
      go_enter Tryz.func58, Tryz.ntmps58
      go_wp2_with (first | (go_at_call 75; refine (isWhole_any s _ hm).mono ?_; rintro e w' ⟨rfl, rfl⟩) | (go_at_call 76; refine (pint_ok s _ hs _ HP.out).mono ?_; rintro e w' ⟨rfl, hb⟩))
      go_ret2
      exact ⟨rfl, hb⟩
    | false =>
      have e1 : parseV s.data.toList = 0 := by simp [parseV, hw, hf]
      have e2 : parseE s.data.toList = 2 := by simp [parseE, hw, hf]
      rw [e1, e2]
      rw [hf, if_neg (by decide)] at hp
      clear e1 e2 hf
      have HP := Lib.hid hp
      clear hp
      go_enter Tryz.func58, Tryz.ntmps58
      go_wp2_with (first | (go_at_call 75; refine (isWhole_any s _ hm).mono ?_; rintro e w' ⟨rfl, rfl⟩) | (go_at_call 76; refine (pint_over s _ hs HL.out HP.out).mono ?_; rintro e w' ⟨⟨N, rfl⟩, hb⟩))
      go_ret2
      exact ⟨rfl, hb⟩
theorem parse_any (s : ByteArray) (w : World) (hs : s.size ≤ 300) (hL : Laid w) :
    Calls Tryz.prog 58 #[.string s] w fun e w' => e = .returned (.tuple #[.int .i64 (parseV s.data.toList), .int .i64 (parseE s.data.toList)]) ∧ Below w.heap.size w w' := parse_long s w (by omega) hL
end Go.Proofs.YtdnneognilffaaaGreatDoor
