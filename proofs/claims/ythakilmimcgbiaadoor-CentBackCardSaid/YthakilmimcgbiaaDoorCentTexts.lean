/- The walks of the laws CentTexts and CentBack: for any amounts of 64 bits and any text they return true, and memory that was there stays. -/
import Derived.Test.YthakilmimcgbiaaDoorCentAlive
import Derived.Test.YthakilmimcgbiaaDoorCentRefPrint
namespace Go.Proofs.YthakilmimcgbiaaDoor
open Go.RowKit

theorem back_comm (a b : Int) : addV a b = addV b a := by unfold addV; rw [Int.add_comm]
theorem back_sub {a b : Int} (ha : fit a = true) (h : fit (a + b) = true) : subV (addV a b) b = a ∧ subE (addV a b) b = 0 := by
  rw [addV_yes h]
  unfold subV subE
  rw [show a + b - b = a by omega, ha]
  exact ⟨if_pos rfl, if_pos rfl⟩

theorem itoa_size {a : Int} (h : In64 a) : (ByteArray.mk (Lib.itoa a).toArray).size ≤ 300 := by
  rw [size_of]
  have := Lib.itoa_length_le a h.1 h.2
  omega
theorem parse_back {a : Int} (h : In64 a) : parseV (ByteArray.mk (Lib.itoa a).toArray).data.toList = a ∧ parseE (ByteArray.mk (Lib.itoa a).toArray).data.toList = 0 := parse_itoa (fit_of_in64 h)
theorem print_back {s : ByteArray} (h : parseE s.data.toList = 0) : (ByteArray.mk (Lib.itoa (parseV s.data.toList)).toArray) = s := by
  rw [itoa_parse h]

set_option maxHeartbeats 400000 in
theorem centTexts_walk (a : Int) (s : ByteArray) (w : World) (ha : In64 a) (hs : s.size ≤ maxLen) (hL : Laid w) :
    Calls Tryd.prog 4 #[.int .i64 a, .string s] w fun e w' => e = .returned (.bool true) ∧ Below w.heap.size w w' := by
  have HL := Lib.hid hL
  have HA := Lib.hid ha
  have HS := Lib.hid hs
  unfold maxLen at hs
  clear hL ha
  by_cases hn : 300 < s.size
  · go_enter Tryd.func4, Tryd.ntmps4
    go_wp2_with fail
    refine (alive_any _ HL.out).mono ?_
    rintro e w1 ⟨rfl, hb1⟩
    have HB1 := Lib.hid hb1
    clear hb1
    go_wp2
    go_ret
    exact ⟨rfl, HB1.out⟩
  · have hn' : s.size ≤ 300 := by omega
    have HN := Lib.hid hn'
    go_enter Tryd.func4, Tryd.ntmps4
    go_wp2_with fail
    refine (alive_any _ HL.out).mono ?_
    rintro e w1 ⟨rfl, hb1⟩
    have HB1 := Lib.hid hb1
    have HL1 := Lib.hid (HL.out.below hb1)
    clear hb1
    go_wp2_with fail
    refine (parse_any s _ HN.out HL1.out).mono ?_
    rintro e w2 ⟨rfl, hb2⟩
    have HB2 := Lib.hid (HB1.out.trans (hb2.mono HB1.out.size))
    have HL2 := Lib.hid (HL1.out.below hb2)
    clear hb2
    go_wp2_with fail
    refine (rparse_any s _ HS.out).mono ?_
    rintro e w' ⟨rfl, rfl⟩
    go_wp2_with fail
    refine (print_any a _ HA.out HL2.out).mono ?_
    rintro e w3 ⟨rfl, hb3⟩
    have HB3 := Lib.hid (HB2.out.trans (hb3.mono HB2.out.size))
    clear hb3
    go_wp2_with fail
    refine (rprint_any a _ HA.out).mono ?_
    rintro e w' ⟨rfl, rfl⟩
    go_wp2
    go_ret
    exact ⟨rfl, HB3.out⟩

set_option maxHeartbeats 400000 in
theorem centBack_walk (a b : Int) (s : ByteArray) (w : World) (ha : In64 a) (hb : In64 b) (hs : s.size ≤ maxLen) (hL : Laid w) :
    Calls Tryd.prog 5 #[.int .i64 a, .int .i64 b, .string s] w fun e w' => e = .returned (.bool true) ∧ Below w.heap.size w w' := by
  have HL := Lib.hid hL
  have HA := Lib.hid ha
  have HB := Lib.hid hb
  have HS := Lib.hid hs
  unfold maxLen at hs
  clear hL ha hb
  by_cases hn : 300 < s.size
  · go_enter Tryd.func5, Tryd.ntmps5
    go_wp2_with fail
    refine (alive_any _ HL.out).mono ?_
    rintro e w1 ⟨rfl, hb1⟩
    have HB1 := Lib.hid hb1
    clear hb1
    go_wp2
    go_ret
    exact ⟨rfl, HB1.out⟩
  · have hn' : s.size ≤ 300 := by omega
    have HN := Lib.hid hn'
    clear hn
    cases hf : fit (a + b) with
    | true =>
      have HF := Lib.hid hf
      have HFC := Lib.hid (show fit (b + a) = true by rw [Int.add_comm]; exact hf)
      clear hf
      go_enter Tryd.func5, Tryd.ntmps5
      go_wp2_with fail
      refine (alive_any _ HL.out).mono ?_
      rintro e w1 ⟨rfl, hb1⟩
      have HB1 := Lib.hid hb1
      have HL1 := Lib.hid (HL.out.below hb1)
      clear hb1
      go_wp2_with fail
      refine (add_any a b _ HA.out HB.out).mono ?_
      rintro e w' ⟨rfl, rfl⟩
      rw [addE_yes HF.out]
      go_wp2_with fail
      refine (add_any b a _ HB.out HA.out).mono ?_
      rintro e w' ⟨rfl, rfl⟩
      rw [back_comm b a, addE_yes (HFC.out)]
      go_wp2_with fail
      refine (sub_any _ b _ (in64_of_fit (fit_addV a b)) HB.out).mono ?_
      rintro e w' ⟨rfl, rfl⟩
      rw [(back_sub (fit_of_in64 HA.out) HF.out).1, (back_sub (fit_of_in64 HA.out) HF.out).2]
      go_wp2_with fail
      refine (print_any a _ HA.out HL1.out).mono ?_
      rintro e w2 ⟨rfl, hb2⟩
      have HB2 := Lib.hid (HB1.out.trans (hb2.mono HB1.out.size))
      have HL2 := Lib.hid (HL1.out.below hb2)
      clear hb2
      go_wp2_with fail
      refine (parse_any _ _ (itoa_size HA.out) HL2.out).mono ?_
      rintro e w3 ⟨rfl, hb3⟩
      have HB3 := Lib.hid (HB2.out.trans (hb3.mono HB2.out.size))
      have HL3 := Lib.hid (HL2.out.below hb3)
      clear hb3
      rw [(parse_back HA.out).1, (parse_back HA.out).2]
      go_wp2_with fail
      refine (parse_any s _ HN.out HL3.out).mono ?_
      rintro e w4 ⟨rfl, hb4⟩
      have HB4 := Lib.hid (HB3.out.trans (hb4.mono HB3.out.size))
      have HL4 := Lib.hid (HL3.out.below hb4)
      clear hb4
      cases hg : (parseE s.data.toList != 0) with
      | true =>
        go_wp2
        go_ret
        exact ⟨rfl, HB4.out⟩
      | false =>
        have hg0 : parseE s.data.toList = 0 := by simpa using hg
        have HG := Lib.hid hg0
        rw [hg0]
        clear hg hg0
        go_wp2_with fail
        refine (print_any _ _ (in64_of_fit (fit_parseV _)) HL4.out).mono ?_
        rintro e w5 ⟨rfl, hb5⟩
        have HB5 := Lib.hid (HB4.out.trans (hb5.mono HB4.out.size))
        clear hb5
        rw [print_back HG.out]
        go_wp2
        go_ret
        exact ⟨rfl, HB5.out⟩
    | false =>
      have HF := Lib.hid hf
      have HFC := Lib.hid (show fit (b + a) = false by rw [Int.add_comm]; exact hf)
      clear hf
      go_enter Tryd.func5, Tryd.ntmps5
      go_wp2_with fail
      refine (alive_any _ HL.out).mono ?_
      rintro e w1 ⟨rfl, hb1⟩
      have HB1 := Lib.hid hb1
      have HL1 := Lib.hid (HL.out.below hb1)
      clear hb1
      go_wp2_with fail
      refine (add_any a b _ HA.out HB.out).mono ?_
      rintro e w' ⟨rfl, rfl⟩
      rw [addE_no HF.out]
      go_wp2_with fail
      refine (add_any b a _ HB.out HA.out).mono ?_
      rintro e w' ⟨rfl, rfl⟩
      rw [back_comm b a, addE_no (HFC.out)]
      go_wp2_with fail
      refine (print_any a _ HA.out HL1.out).mono ?_
      rintro e w2 ⟨rfl, hb2⟩
      have HB2 := Lib.hid (HB1.out.trans (hb2.mono HB1.out.size))
      have HL2 := Lib.hid (HL1.out.below hb2)
      clear hb2
      go_wp2_with fail
      refine (parse_any _ _ (itoa_size HA.out) HL2.out).mono ?_
      rintro e w3 ⟨rfl, hb3⟩
      have HB3 := Lib.hid (HB2.out.trans (hb3.mono HB2.out.size))
      have HL3 := Lib.hid (HL2.out.below hb3)
      clear hb3
      rw [(parse_back HA.out).1, (parse_back HA.out).2]
      go_wp2_with fail
      refine (parse_any s _ HN.out HL3.out).mono ?_
      rintro e w4 ⟨rfl, hb4⟩
      have HB4 := Lib.hid (HB3.out.trans (hb4.mono HB3.out.size))
      have HL4 := Lib.hid (HL3.out.below hb4)
      clear hb4
      cases hg : (parseE s.data.toList != 0) with
      | true =>
        go_wp2
        go_ret
        exact ⟨rfl, HB4.out⟩
      | false =>
        have hg0 : parseE s.data.toList = 0 := by simpa using hg
        have HG := Lib.hid hg0
        rw [hg0]
        clear hg hg0
        go_wp2_with fail
        refine (print_any _ _ (in64_of_fit (fit_parseV _)) HL4.out).mono ?_
        rintro e w5 ⟨rfl, hb5⟩
        have HB5 := Lib.hid (HB4.out.trans (hb5.mono HB4.out.size))
        clear hb5
        rw [print_back HG.out]
        go_wp2
        go_ret
        exact ⟨rfl, HB5.out⟩
end Go.Proofs.YthakilmimcgbiaaDoor
