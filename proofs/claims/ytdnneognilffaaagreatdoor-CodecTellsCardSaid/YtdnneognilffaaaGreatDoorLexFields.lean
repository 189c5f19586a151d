
/- The words that strings.FieldsFunc hands back, of a text of bytes below 128, are the plain ones. No program in it. -/
import Derived.Test.YtdnneognilffaaaGreatDoorLexPlain
import Derived.Laws.RangeString
namespace Go.Proofs.YtdnneognilffaaaGreatDoor

def gapR (r : Nat) : Bool := r == 9 || r == 32
theorem gapR_byte (c : UInt8) : gapR c.toNat = gapB c := by
  unfold gapR gapB
  have e1 : (c.toNat == 9) = (c == 9) := by
    rw [Bool.eq_iff_iff]; simp [← UInt8.toNat_inj]
  have e2 : (c.toNat == 32) = (c == 32) := by
    rw [Bool.eq_iff_iff]; simp [← UInt8.toNat_inj]
  rw [e1, e2]
def pieceL (l : List UInt8) (x : Nat × Nat) : List UInt8 := (l.drop x.1).take (x.2 - x.1)
def openL (l : List UInt8) (st : Option Nat) (pos : Nat) : List UInt8 := match st with
  | some a => pieceL l (a, pos)
  | none => []
theorem pieceL_ne (l : List UInt8) (a b : Nat) (h : a < b) (hb : b ≤ l.length) : pieceL l (a, b) ≠ [] := by
  intro h0
  have := congrArg List.length h0
  simp [pieceL] at this
  omega
theorem pieceL_snoc (l : List UInt8) (a b : Nat) (h : a ≤ b) (hb : b < l.length) : pieceL l (a, b) ++ [l[b]] = pieceL l (a, b + 1) := by
  unfold pieceL
  have e : b + 1 - a = (b - a) + 1 := by omega
  rw [e, List.take_succ_eq_append_getElem (by simp; omega)]
  congr 2
  simp only [List.getElem_drop]
  congr 1
  omega
theorem spans_plain (s : ByteArray) (hs : ∀ c ∈ s.data.toList, c.toNat < 128) : ∀ (f pos : Nat) (st : Option Nat) (acc : List (Nat × Nat)), s.size ≤ pos + f → pos ≤ s.size → (∀ a, st = some a → a < pos) →
    (Lib.closeSpans s (Lib.spansFromP gapR s f pos st acc)).map (pieceL s.data.toList) = acc.map (pieceL s.data.toList) ++ fieldsGo (openL s.data.toList st pos) (s.data.toList.drop pos)
  | 0, pos, st, acc, h, hp, hst => by
    obtain rfl : pos = s.size := by omega
    have hd : s.data.toList.drop s.size = [] := List.drop_eq_nil_of_le (by rw [size_list]; exact Nat.le_refl _)
    rw [hd]
    cases st with
    | none => simp [Lib.spansFromP, Lib.closeSpans, openL, fieldsGo]
    | some a =>
      have := pieceL_ne s.data.toList a s.size (hst a rfl) (by rw [size_list]; exact Nat.le_refl _)
      simp [Lib.spansFromP, Lib.closeSpans, openL, fieldsGo, this]
  | f + 1, pos, st, acc, h, hp, hst => by
    by_cases hlt : pos < s.size
    · have hl : pos < s.data.toList.length := by rw [size_list]; exact hlt
      have hget : s[pos]'hlt = s.data.toList[pos]'hl := by simp [ByteArray.getElem_eq_getElem_data]
      have hdc := decode_ascii s pos hlt (by rw [hget]; exact hs _ (List.getElem_mem hl))
      rw [hget] at hdc
      have hdrop : s.data.toList.drop pos = s.data.toList[pos] :: s.data.toList.drop (pos + 1) := List.drop_eq_getElem_cons hl
      rw [hdrop]
      simp only [Lib.spansFromP, hlt, if_true, hdc, gapR_byte, fieldsGo]
      cases hg : gapB s.data.toList[pos] with
      | true =>
        cases st with
        | none =>
          simp only [if_true]
          rw [spans_plain s hs f (pos + 1) none acc (by omega) (by omega) (fun a h => by cases h)]
          simp [openL]
        | some a =>
          have hne := pieceL_ne s.data.toList a pos (hst a rfl) (by omega)
          simp only [if_true]
          rw [spans_plain s hs f (pos + 1) none _ (by omega) (by omega) (fun a h => by cases h)]
          simp [openL, hne]
      | false =>
        cases st with
        | none =>
          simp only [Bool.false_eq_true, if_false]
          rw [spans_plain s hs f (pos + 1) (some pos) acc (by omega) (by omega) (fun a h => by cases h; omega)]
          simp only [openL]
          rw [← pieceL_snoc s.data.toList pos pos (Nat.le_refl _) hl]
          simp [pieceL]
        | some a =>
          have ha := hst a rfl
          simp only [Bool.false_eq_true, if_false]
          rw [spans_plain s hs f (pos + 1) (some a) acc (by omega) (by omega) (fun b h => by cases h; omega)]
          simp only [openL]
          rw [← pieceL_snoc s.data.toList a pos (by omega) hl]
    · obtain rfl : pos = s.size := by omega
      have hd : s.data.toList.drop s.size = [] := List.drop_eq_nil_of_le (by rw [size_list]; exact Nat.le_refl _)
      rw [hd, Lib.spansFromP_end _ _ _ _ _ _ hlt]
      cases st with
      | none => simp [Lib.closeSpans, openL, fieldsGo]
      | some a =>
        have := pieceL_ne s.data.toList a s.size (hst a rfl) (by rw [size_list]; exact Nat.le_refl _)
        simp [Lib.closeSpans, openL, fieldsGo, this]
theorem fields_plain (s : ByteArray) (hs : ∀ c ∈ s.data.toList, c.toNat < 128) : Lib.goFieldsP gapR s = (fieldsGo [] s.data.toList).map mkB := by
  have h := spans_plain s hs s.size 0 none [] (by omega) (Nat.zero_le _) (fun a h => by cases h)
  simp only [List.map_nil, List.nil_append, openL, List.drop_zero] at h
  rw [← h, List.map_map]
  unfold Lib.goFieldsP Lib.spansOfP
  apply List.map_congr_left
  intro x _
  exact piece_mid s x.1 x.2
end Go.Proofs.YtdnneognilffaaaGreatDoor
