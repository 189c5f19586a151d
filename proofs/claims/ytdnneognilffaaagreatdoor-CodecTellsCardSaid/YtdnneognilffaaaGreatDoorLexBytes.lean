
/- The walks of lex.letter, lex.inName, lex.Name, lex.readable, lex.between, and of the document's letter and Name: they hand back what the plain facts say; nothing is changed. -/
import Derived.Test.YtdnneognilffaaaGreatDoorProg
import Derived.Test.YtdnneognilffaaaGreatDoorLexPlain
import Derived.Test.YtdnneognilffaaaGreatDoorLexFields
import Derived.Test.YtdnneognilffaaaGreatDoorBase
import Derived.WalkKit
import Derived.WalkSpells
import Derived.Lib.Hide
import Derived.WalkSmall
namespace Go.Proofs.YtdnneognilffaaaGreatDoor
open Go.RowKit

def letB (n : Nat) : Bool := decide (97 ≤ n ∧ n ≤ 122 ∨ 65 ≤ n ∧ n ≤ 90)
def inB (n : Nat) : Bool := decide ((97 ≤ n ∧ n ≤ 122 ∨ 65 ≤ n ∧ n ≤ 90) ∨ 48 ≤ n ∧ n ≤ 57 ∨ n = 46 ∨ n = 95 ∨ n = 45)
def nameL (l : List UInt8) : Bool := decide (1 ≤ l.length ∧ l.length ≤ 12) && letB (l.headD 0).toNat && l.all fun c => inB c.toNat
theorem ret_bdec {p : Prop} [Decidable p] {b : Bool} (h : b = true ↔ p) : Ending.returned (.bool b) = .returned (.bool (decide p)) := by
  congr 2; rw [Bool.eq_iff_iff]; simpa using h

set_option maxHeartbeats 400000 in
theorem letter_any (n : Nat) (w : World) (hn : n < 256) : Calls Tryz.prog 48 #[.int .u8 (n : Int)] w fun e w' => e = .returned (.bool (letB n)) ∧ w = w' := by
  go_enter Tryz.func48, Tryz.ntmps48
  go_wp2
  all_goals
    go_ret
    exact ⟨ret_bdec (by first | omega | (simp; omega)), rfl⟩
set_option maxHeartbeats 400000 in
theorem rletter_any (n : Nat) (w : World) (hn : n < 256) : Calls Tryz.prog 43 #[.int .u8 (n : Int)] w fun e w' => e = .returned (.bool (letB n)) ∧ w = w' := by
  go_enter Tryz.func43, Tryz.ntmps43
  go_wp2
  all_goals
    go_ret
    exact ⟨ret_bdec (by first | omega | (simp; omega)), rfl⟩
set_option maxHeartbeats 400000 in
theorem inName_any (n : Nat) (w : World) (hn : n < 256) : Calls Tryz.prog 49 #[.int .u8 (n : Int)] w fun e w' => e = .returned (.bool (inB n)) ∧ w = w' := by
  cases hl : letB n with
  | true =>
    have H := Lib.hid hl
    have hp : 97 ≤ n ∧ n ≤ 122 ∨ 65 ≤ n ∧ n ≤ 90 := of_decide_eq_true hl
    clear hl
    go_enter Tryz.func49, Tryz.ntmps49
    go_wp2_with fail
    refine (letter_any n _ hn).mono ?_
    rintro e w' ⟨rfl, rfl⟩
    rw [H.out]
    go_wp2
    all_goals
      go_ret
      exact ⟨ret_bdec (by first | omega | (simp; omega)), rfl⟩
  | false =>
    have H := Lib.hid hl
    have hp : ¬ (97 ≤ n ∧ n ≤ 122 ∨ 65 ≤ n ∧ n ≤ 90) := of_decide_eq_false hl
    clear hl
    go_enter Tryz.func49, Tryz.ntmps49
    go_wp2_with fail
    refine (letter_any n _ hn).mono ?_
    rintro e w' ⟨rfl, rfl⟩
    rw [H.out]
    go_wp2
    all_goals
      go_ret
      exact ⟨ret_bdec (by first | omega | (simp; omega)), rfl⟩

theorem all_take (p : UInt8 → Bool) (s : ByteArray) (k : Nat) (h : k < s.size) : (s.data.toList.take (k + 1)).all p = ((s.data.toList.take k).all p && p s[k]) := by
  rw [List.take_succ_eq_append_getElem (by rw [size_list]; exact h), List.all_append]; simp; rfl
theorem all_no (p : UInt8 → Bool) (s : ByteArray) (k : Nat) (h : k < s.size) (hp : p s[k] = false) : s.data.toList.all p = false := by
  cases h' : s.data.toList.all p with
  | false => rfl
  | true =>
    have := List.all_eq_true.1 h' s[k] (by
      have : s[k] = s.data.toList[k]'(by rw [size_list]; exact h) := by simp [ByteArray.getElem_eq_getElem_data]
      rw [this]; exact List.getElem_mem _)
    rw [← hp]; exact this.symm
theorem all_end (p : UInt8 → Bool) (s : ByteArray) (k : Nat) (h : ¬ k < s.size) (hk : k ≤ s.size) (ha : (s.data.toList.take k).all p = true) : s.data.toList.all p = true := by
  rwa [List.take_of_length_le (by rw [size_list]; omega)] at ha
theorem head_at (s : ByteArray) (h : 0 < s.size) : s.data.toList.headD 0 = s[0] := by
  have : s[0] = s.data.toList[0]'(by rw [size_list]; exact h) := by simp [ByteArray.getElem_eq_getElem_data]
  rw [this, List.headD_eq_head?_getD, List.head?_eq_getElem?, List.getElem?_eq_getElem (by rw [size_list]; exact h)]
  rfl
theorem nameL_eq (s : ByteArray) (h : 0 < s.size) (h2 : s.size ≤ 12) : nameL s.data.toList = (letB s[0].toNat && s.data.toList.all fun c => inB c.toNat) := by
  unfold nameL
  rw [head_at s h, size_list]
  have : decide (1 ≤ s.size ∧ s.size ≤ 12) = true := decide_eq_true (by omega)
  rw [this]; rfl
theorem nameL_len (s : ByteArray) (h : ¬ (0 < s.size ∧ s.size ≤ 12)) : nameL s.data.toList = false := by
  unfold nameL
  rw [size_list]
  have : decide (1 ≤ s.size ∧ s.size ≤ 12) = false := decide_eq_false (by omega)
  rw [this]; rfl

set_option maxHeartbeats 1000000 in
theorem name_at (s : ByteArray) (w : World) :
    Calls Tryz.prog 38 #[.string s] w fun e w' => e = .returned (.bool (nameL s.data.toList)) ∧ w = w' := by
  by_cases hl : 0 < s.size ∧ s.size ≤ 12
  · obtain ⟨h0, h12⟩ := hl
    have HN := Lib.hid (nameL_eq s h0 h12)
    cases hf : letB s[0].toNat with
    | false =>
      have HF := Lib.hid hf
      clear hf
      have HR : Hid (nameL s.data.toList = false) := Lib.hid (by rw [HN.out, HF.out]; rfl)
      have a1 : ¬ s.size < 1 := by omega
      have a2 : ¬ 12 < s.size := by omega
      go_enter Tryz.func38, Tryz.ntmps38
      go_wp2_with fail
      refine (letter_any _ _ (UInt8.toNat_lt _)).mono ?_
      rintro e w' ⟨rfl, rfl⟩
      rw [HF.out]
      go_wp2
      go_ret
      exact ⟨ret_bool HR.out.symm, rfl⟩
    | true =>
      have HF := Lib.hid hf
      clear hf
      have HR : Hid (nameL s.data.toList = s.data.toList.all fun c => inB c.toNat) := Lib.hid (by rw [HN.out, HF.out]; rfl)
      clear HN
      have a1 : ¬ s.size < 1 := by omega
      have a2 : ¬ 12 < s.size := by omega
      go_enter Tryz.func38, Tryz.ntmps38
      go_wp2_with fail
      refine (letter_any _ _ (UInt8.toNat_lt _)).mono ?_
      rintro e w' ⟨rfl, rfl⟩
      rw [HF.out]
      go_wp2
      go_loop [20] (fun i => ∃ k : Nat, k ≤ s.size ∧ i = .int .i64 k ∧ (s.data.toList.take k).all (fun c => inB c.toNat) = true) (fun i => s.size - (intOf i).toNat)
      case atStart => exact ⟨0, Nat.zero_le _, rfl, rfl⟩
      case round =>
        obtain ⟨k, hk, rfl, hd⟩ := hrel
        have HD := Lib.hid hd
        clear hd
        by_cases hlt : k < s.size
        · cases hc : inB s[k].toNat with
          | true =>
            have HC := Lib.hid hc
            clear hc
            go_wp2_with fail
            refine (inName_any _ _ (UInt8.toNat_lt _)).mono ?_
            rintro e w' ⟨rfl, rfl⟩
            rw [HC.out]
            go_wp2
            go_round
            case rel => exact ⟨k + 1, by omega, by go_num, by rw [all_take _ s k hlt, HD.out, HC.out]; rfl⟩
            case measure => simp [intOf]; omega
          | false =>
            have HC := Lib.hid hc
            clear hc
            go_wp2_with fail
            refine (inName_any _ _ (UInt8.toNat_lt _)).mono ?_
            rintro e w' ⟨rfl, rfl⟩
            rw [HC.out]
            go_wp2
            go_ret
            exact ⟨ret_bool (by rw [HR.out, all_no _ s k hlt HC.out]), rfl⟩
        · go_wp2
          go_ret
          exact ⟨ret_bool (by rw [HR.out, all_end _ s k hlt hk HD.out]), rfl⟩
  · have HR := Lib.hid (nameL_len s hl)
    rcases (by omega : s.size < 1 ∨ (¬ s.size < 1 ∧ 12 < s.size)) with a1 | ⟨a1, a2⟩
    · clear hl
      go_enter Tryz.func38, Tryz.ntmps38
      go_wp2
      go_ret
      exact ⟨ret_bool HR.out.symm, rfl⟩
    · clear hl
      go_enter Tryz.func38, Tryz.ntmps38
      go_wp2
      go_ret
      exact ⟨ret_bool HR.out.symm, rfl⟩
theorem name_any (s : ByteArray) (w : World) (_hs : s.size ≤ maxLen) :
    Calls Tryz.prog 38 #[.string s] w fun e w' => e = .returned (.bool (nameL s.data.toList)) ∧ w = w' := name_at s w
theorem okB_dec (c : UInt8) : okB c = decide (c.toNat = 9 ∨ c.toNat = 10 ∨ 32 ≤ c.toNat ∧ c.toNat ≤ 126) := by
  unfold okB
  rw [Bool.eq_iff_iff]
  simp [← UInt8.toNat_inj]
  omega
end Go.Proofs.YtdnneognilffaaaGreatDoor
