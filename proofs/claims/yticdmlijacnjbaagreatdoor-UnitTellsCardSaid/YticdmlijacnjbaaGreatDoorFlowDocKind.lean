
/- The walks of the document's Kind and Whole of flows. What was there stays. -/
import Derived.Test.YticdmlijacnjbaaGreatDoorM12
import Derived.Test.YticdmlijacnjbaaGreatDoorM04
import Derived.Lib.SlicesS
namespace Go.Proofs.YticdmlijacnjbaaGreatDoor.Un
open Go.RowKit

/-- What the document's Kind tells. -/
def kindO' (o : Option Fl.Flow) : Int := (o.getD Fl.zeroF).kind
theorem findK_first {α : Type} {key : α → ByteArray} {L : List α} {c : ByteArray} {i : Nat} {x : α} (hb : ∀ (j : Nat) (y : α), j < i → L[j]? = some y → key y ≠ c) (hx : L[i]? = some x) (h : key x = c) : findK key L c = some x := by
  induction L generalizing i with
  | nil => simp at hx
  | cons a L ih =>
    cases i with
    | zero =>
      simp at hx; subst hx
      simp only [findK]; rw [if_pos h]
    | succ i =>
      simp only [findK]
      rw [if_neg (hb 0 a (Nat.succ_pos _) rfl)]
      refine ih (i := i) (fun j y hj hy => hb (j + 1) y (by omega) (by simpa using hy)) (by simpa using hx)
theorem findK_nowhere {α : Type} {key : α → ByteArray} {L : List α} {c : ByteArray} (h : ∀ (j : Nat) (y : α), L[j]? = some y → key y ≠ c) : findK key L c = none :=
  findK_none fun y hy e => by
    obtain ⟨j, hj, rfl⟩ := List.getElem_of_mem hy
    exact h j _ (List.getElem?_eq_getElem hj) e
set_option maxRecDepth 100000 in
set_option maxHeartbeats 2000000 in
theorem rkind_any (v : Value) (L : List Fl.Flow) (code : ByteArray) (w : World) (h : Fl.FlowsV w v L) :
    Calls Tryz.prog 61 #[v, .string code] w fun e w' => e = .returned (.tuple #[.int .i64 (kindO' (Fl.findF L code)), .bool (Fl.findF L code).isSome]) ∧ Below w.heap.size w w' := by
  obtain ⟨a, c, rfl, hcap, hm, _, hc⟩ := h
  obtain ⟨n, hn⟩ : ∃ n, L.length = n := ⟨_, rfl⟩
  obtain ⟨r, hr⟩ : ∃ r, Fl.findF L code = r := ⟨_, rfl⟩
  rw [hn] at hcap ⊢
  rw [hr]
  have HC := Lib.hid hc
  have HN := Lib.hid hn
  have HR := Lib.hid hr
  unfold maxLen at hm
  clear hc hn hr
  obtain ⟨R, hR⟩ : ∃ R, kindO' r = R := ⟨_, rfl⟩
  obtain ⟨S, hS⟩ : ∃ S, r.isSome = S := ⟨_, rfl⟩
  rw [hR, hS]
  have HRV := Lib.hid hR
  have HSV := Lib.hid hS
  clear hR hS
  go_enter Tryz.func61, Tryz.ntmps61
  go_wp2
  go_loopw [6] (fun s6 wr => ∃ i : Nat, i ≤ n ∧ s6 = .int .i64 (i : Int) ∧ Below w.heap.size w wr ∧ Hid (∀ (j : Nat) (y : Fl.Flow), j < i → L[j]? = some y → y.code ≠ code)) (fun s6 _ => n - (intOf s6).toNat)
  case atStart => exact ⟨0, Nat.zero_le _, rfl, Below.refl _ _, Lib.hid fun j y hj => absurd hj (Nat.not_lt_zero _)⟩
  case round =>
    obtain ⟨i, hi, rfl, hnx, HNO⟩ := hrel
    by_cases hlt : i < n
    · obtain ⟨x, hx⟩ : ∃ x, L[i]? = some x := ⟨_, List.getElem?_eq_getElem (by rw [HN.out]; exact hlt)⟩
      obtain ⟨b, o, rfl, hat⟩ := HC.out i x hx
      obtain ⟨c0, c1⟩ := Fl.two (hat.keep hnx hat.lt)
      have HX := Lib.hid hx
      have HNX := Lib.hid hnx
      clear hx hat hnx
      cases hxe : (x.code.toList == code.toList) with
      | false =>
        have HXE := Lib.hid ((Lib.bytes_beq_false_iff x.code code).1 hxe)
        go_wp2
        go_roundw
        case rel => exact ⟨i + 1, by omega, by go_num, HNX.out, Lib.hid fun j y hj hy => by
          rcases Nat.lt_or_ge j i with h | h
          · exact HNO.out j y h hy
          · obtain rfl : j = i := by omega
            rw [HX.out] at hy; cases hy; exact HXE.out⟩
        case measure => simp [intOf]; omega
      | true =>
        have HXE := Lib.hid ((Lib.bytes_beq_iff x.code code).1 hxe)
        have hres : Hid (r = some x) := Lib.hid (by rw [← HR.out]; exact findK_first HNO.out HX.out HXE.out)
        go_wp2
        go_ret2
        rw [← HRV.out, ← HSV.out, hres.out]
        exact ⟨rfl, HNX.out⟩
    · have hres : Hid (r = none) := Lib.hid (by
        rw [← HR.out]
        refine findK_nowhere fun j y hy => HNO.out j y ?_ hy
        have := (List.getElem?_eq_some_iff.1 hy).1
        rw [HN.out] at this; omega)
      have HNX := Lib.hid hnx
      go_wp2
      go_ret2
      rw [← HRV.out, ← HSV.out, hres.out]
      exact ⟨rfl, HNX.out⟩
set_option maxRecDepth 100000 in
set_option maxHeartbeats 2000000 in
theorem rwhole_any (v : Value) (L : List Fl.Flow) (w : World) (h : Fl.FlowsV w v L) (hL : L.length ≤ 1000) :
    Calls Tryz.prog 62 #[v] w fun e w' => e = .returned (.bool (Fl.wholeTo L 5)) ∧ Below w.heap.size w w' := by
  have HV := Lib.hid h
  obtain ⟨R, hR⟩ : ∃ R, Fl.wholeTo L 5 = R := ⟨_, rfl⟩
  rw [hR]
  have HR := Lib.hid hR
  have HLL := Lib.hid hL
  obtain ⟨p, c, rfl, hcap, hm, _, hc⟩ := h
  obtain ⟨n, hn⟩ : ∃ n, L.length = n := ⟨_, rfl⟩
  rw [hn] at hcap HV ⊢
  unfold maxLen at hm
  clear hc hR hL hn
  go_enter Tryz.func62, Tryz.ntmps62
  go_wp2
  go_loopw [3] (fun s3 wr => ∃ k : Nat, k ≤ 5 ∧ s3 = .int .i64 (k : Int) ∧ Hid (Below w.heap.size w wr) ∧ Hid (Fl.wholeTo L k = true)) (fun s3 _ => 5 - (intOf s3).toNat)
  case atStart => exact ⟨0, by omega, rfl, Lib.hid (Below.refl _ _), Lib.hid rfl⟩
  case round =>
    obtain ⟨k, hk, rfl, HNX, HW⟩ := hrel
    by_cases h5 : k < 5
    · have hk5 : decide ((k : Int) < 5) = true := decide_eq_true (by omega)
      by_cases h1 : k = 1
      · subst h1
        have HW2 : Hid (Fl.wholeTo L 2 = true) := Lib.hid (by rw [Fl.wholeTo, HW.out]; rfl)
        go_wp2
        go_roundw
        case rel => exact ⟨2, by omega, by go_num, HNX, HW2⟩
        case measure => simp [intOf]
      · have hk1 : ((k : Int) != 1) = true := by simp; omega
        have HOF := Lib.hid (Fl.rof_any (.slice p n c) L (k : Int) wr (HV.out.keep HNX.out) HLL.out)
        obtain ⟨m, hmm⟩ : ∃ m, (Fl.ofF L (k : Int)).length = m := ⟨_, rfl⟩
        have HMM := Lib.hid hmm
        have HMB : Hid (m ≤ 1000) := Lib.hid (by rw [← hmm]; exact Nat.le_trans (Fl.ofF_len_le L _) HLL.out)
        have HWN : Hid (Fl.wholeTo L (k + 1) = decide (m = 1)) := Lib.hid (by rw [Fl.wholeTo, HW.out, decide_eq_false (p := (k : Int) = 1) (by omega), hmm]; rfl)
        clear hmm
        go_wp2_with fail
        refine HOF.out.mono ?_
        rintro en w1 ⟨v1, rfl, ⟨p1, c1, rfl, _, hm1, _⟩, hb1⟩
        rw [HMM.out] at hm1 ⊢
        have HNX1 := Lib.hid (HNX.out.trans (hb1.mono HNX.out.size))
        have hmb := HMB.out
        clear hb1
        by_cases hm0 : m = 1
        · subst hm0
          go_wp2
          go_roundw
          case rel => exact ⟨k + 1, by omega, by go_num, HNX1, Lib.hid (by rw [HWN.out]; rfl)⟩
          case measure => simp [intOf]; omega
        · have hmz : ((m : Int) != 1) = true := by simp; omega
          have HRF : Hid (R = false) := Lib.hid (by
            rw [← HR.out]
            have h0 : Fl.wholeTo L (k + 1) = false := by rw [HWN.out]; exact decide_eq_false hm0
            have hstep : ∀ q, Fl.wholeTo L q = false → Fl.wholeTo L (q + 1) = false := fun q hq => by rw [Fl.wholeTo, hq]; rfl
            rcases (by omega : k = 0 ∨ k = 1 ∨ k = 2 ∨ k = 3 ∨ k = 4) with rfl | rfl | rfl | rfl | rfl
            · exact hstep _ (hstep _ (hstep _ (hstep _ h0)))
            · exact hstep _ (hstep _ (hstep _ h0))
            · exact hstep _ (hstep _ h0)
            · exact hstep _ h0
            · exact h0)
          go_wp2
          go_ret
          exact ⟨ret_bool HRF.out.symm, HNX1.out⟩
    · obtain rfl : k = 5 := by omega
      have HRF : Hid (R = true) := Lib.hid (by rw [← HR.out, HW.out])
      go_wp2
      go_ret
      exact ⟨ret_bool HRF.out.symm, HNX.out⟩
end Go.Proofs.YticdmlijacnjbaaGreatDoor.Un
