
/- The walks of the document's names, single and special. What was there stays. -/
import Derived.Test.YticdmlijacnjbaaGreatDoorM18
import Derived.Test.YticdmlijacnjbaaGreatDoorM15
import Derived.Test.YticdmlijacnjbaaGreatDoorM10
namespace Go.Proofs.YticdmlijacnjbaaGreatDoor.Un
open Go.RowKit

set_option maxRecDepth 100000 in
set_option maxHeartbeats 4000000 in
theorem single_any (a b : ByteArray) (w : World) : Calls Tryz.prog 94 #[.string a, .string b] w fun en w' => en = .returned (.tuple #[.string (if a = emp then b else a), .int .i64 (oneE a)]) ∧ w' = w := by
  by_cases h : a = emp
  · subst h
    have e : oneE emp = 0 := by simp [oneE]
    rw [e, if_pos rfl]
    go_enter Tryz.func94, Tryz.ntmps94
    go_wp2
    go_ret2
    exact ⟨rfl, rfl⟩
  · have e : oneE a = 7 := by simp [oneE, h]
    rw [e, if_neg h]
    have hn : (!a.toList.isEmpty) = true := (neB_iff a).2 h
    go_enter Tryz.func94, Tryz.ntmps94
    go_wp2
    go_ret2
    exact ⟨rfl, rfl⟩
set_option maxRecDepth 100000 in
set_option maxHeartbeats 4000000 in
theorem rnames_any (v : Value) (ws : List ByteArray) (w : World) (h : StrsV w v ws) : Calls Tryz.prog 91 #[v] w fun en w' => en = .returned (.bool (namesW ws)) ∧ w' = w := by
  obtain ⟨p, c, rfl, hcap, hm, hc⟩ := h
  obtain ⟨n, hn⟩ : ∃ n, ws.length = n := ⟨_, rfl⟩
  obtain ⟨R, hR⟩ : ∃ R, namesW ws = R := ⟨_, rfl⟩
  rw [hR]
  have HR : Hid ((ws.drop 1).all nmB = R) := Lib.hid hR
  rw [hn] at hcap hm ⊢
  have HN := Lib.hid hn
  have HC := Lib.hid hc
  unfold maxLen at hm
  clear hc hn hR
  go_enter Tryz.func91, Tryz.ntmps91
  go_wp2
  go_loopw [3] (fun s3 wr => ∃ i : Nat, i ≤ n ∧ s3 = .int .i64 ((i : Int) + 1) ∧ wr = w ∧ Hid (SoFar nmB (ws.drop 1) i)) (fun s3 _ => n + 1 - (intOf s3).toNat)
  case atStart => exact ⟨0, Nat.zero_le _, rfl, rfl, Lib.hid (SoFar.zero _ _)⟩
  case round =>
    obtain ⟨i, hi, rfl, rfl, HS⟩ := hrel
    by_cases hlt : i + 1 < n
    · obtain ⟨x, hx⟩ : ∃ x, ws[i + 1]? = some x := ⟨_, List.getElem?_eq_getElem (by rw [HN.out]; exact hlt)⟩
      obtain ⟨b, o, rfl, k1⟩ := HC.out (i + 1) x hx
      have HX : Hid ((ws.drop 1)[i]? = some x) := Lib.hid (by rw [List.getElem?_drop, Nat.add_comm]; exact hx)
      have hltz : (i : Int) + 1 < (n : Int) := by omega
      have HNA : Hid (Calls Tryz.prog 98 #[.string x] wr fun e w' => e = .returned (.bool (nmB x)) ∧ wr = w') := Lib.hid (rname_at x wr)
      obtain ⟨B, hB⟩ : ∃ B, nmB x = B := ⟨_, rfl⟩
      rw [hB] at HNA
      have HB := Lib.hid hB
      clear hx hB
      go_wp2_with fail
      refine HNA.out.mono ?_
      rintro en w2 ⟨rfl, rfl⟩
      cases B with
      | false =>
        have HRF : Hid (R = false) := Lib.hid (by rw [← HR.out]; exact all_no HX.out HB.out)
        go_wp2
        go_ret
        exact ⟨by rw [HRF.out]; rfl, rfl⟩
      | true =>
        have HSN := Lib.hid (HS.out.next HX.out HB.out)
        go_wp2
        go_roundw
        case rel => exact ⟨i + 1, by omega, by first | rfl | go_num | (congr 1; omega), by first | rfl | trivial | simp, HSN⟩
        case measure => simp [intOf]; omega
    · have hltz : ¬ (i : Int) + 1 < (n : Int) := by omega
      have HRT : Hid (R = true) := Lib.hid (by rw [← HR.out]; exact HS.out.done (by rw [List.length_drop, HN.out]; omega))
      go_wp2
      go_ret
      exact ⟨by rw [HRT.out]; rfl, rfl⟩
/-- Is an account one of a class, and nothing beside? -/
def specA (a : Acct) (k : Int) : Bool := decide (a.cls = k) && !a.cash && !a.both && !neB a.fixed
set_option maxRecDepth 100000 in
set_option maxHeartbeats 4000000 in
theorem special_any (a : Acct) (k : Int) (w : World) : Calls Tryz.prog 63 #[aggF a, .int .i64 k] w fun en w' => en = .returned (.bool (specA a k)) ∧ Below w.heap.size w w' := by
  obtain ⟨code, cls, cash, both, fixed, worn⟩ := a
  have HB := Lib.hid ((Below.refl w.heap.size w).alloc (Nat.le_refl _) (.cells #[.string code, .int .i64 cls, .bool cash, .bool both, .string fixed, .bool worn] 99))
  obtain ⟨q0, q1, q2, q3, q4, q5⟩ := (BoxA.new w ⟨code, cls, cash, both, fixed, worn⟩ 99).facts
  dsimp only at q0 q1 q2 q3 q4 q5
  obtain ⟨R, hR⟩ : ∃ R, specA ⟨code, cls, cash, both, fixed, worn⟩ k = R := ⟨_, rfl⟩
  rw [hR]
  have HR : Hid ((decide (cls = k) && !cash && !both && !neB fixed) = R) := Lib.hid hR
  clear hR
  by_cases h1 : cls = k
  · have h1z : (cls == k) = true := by simpa using h1
    have HR1 : Hid ((!cash && !both && !neB fixed) = R) := Lib.hid (by rw [← HR.out, decide_eq_true h1]; rfl)
    clear h1
    cases cash with
    | true =>
      have HRF : Hid (R = false) := Lib.hid (by rw [← HR1.out]; rfl)
      go_enter Tryz.func63, Tryz.ntmps63
      go_wp2
      go_ret
      exact ⟨by rw [HRF.out]; rfl, HB.out⟩
    | false =>
      cases both with
      | true =>
        have HRF : Hid (R = false) := Lib.hid (by rw [← HR1.out]; rfl)
        go_enter Tryz.func63, Tryz.ntmps63
        go_wp2
        go_ret
        exact ⟨by rw [HRF.out]; rfl, HB.out⟩
      | false =>
        have HR2 : Hid ((!neB fixed) = R) := Lib.hid (by rw [← HR1.out]; rfl)
        by_cases hf : fixed = emp
        · subst hf
          have HRT : Hid (R = true) := Lib.hid (by rw [← HR2.out, neB_empty]; rfl)
          go_enter Tryz.func63, Tryz.ntmps63
          go_wp2
          go_ret
          exact ⟨by rw [HRT.out]; rfl, HB.out⟩
        · have hne : (!fixed.toList.isEmpty) = true := (neB_iff fixed).2 hf
          have HRF : Hid (R = false) := Lib.hid (by rw [← HR2.out]; unfold neB; rw [hne]; rfl)
          have hne2 : fixed.toList.isEmpty = false := by simpa using hne
          go_enter Tryz.func63, Tryz.ntmps63
          go_wp2
          go_ret
          exact ⟨by rw [HRF.out]; rfl, HB.out⟩
  · have h1z : (cls == k) = false := by simpa using h1
    have HRF : Hid (R = false) := Lib.hid (by rw [← HR.out, decide_eq_false h1]; rfl)
    clear h1
    go_enter Tryz.func63, Tryz.ntmps63
    go_wp2
    go_ret
    exact ⟨by rw [HRF.out]; rfl, HB.out⟩
end Go.Proofs.YticdmlijacnjbaaGreatDoor.Un
