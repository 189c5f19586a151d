
/- The walk of LexPicks: it returns true. -/
import Derived.Test.YtjinlldfniflbaaLexAlive
import Derived.Lib.SlicesS
namespace Go.Proofs.Ytjinlldfniflbaa
open Go.RowKit

theorem pick_from (s : ByteArray) : ∀ (ws : List ByteArray) (m : Nat), (Lib.idxFromS ws s m = -1 ∧ ∀ j : Nat, ws[j]? ≠ some s) ∨ ∃ k : Nat, Lib.idxFromS ws s m = ((m + k : Nat) : Int) ∧ ws[k]? = some s ∧ ∀ j, j < k → ws[j]? ≠ some s
  | [], m => .inl ⟨rfl, fun j h => by simp at h⟩
  | x :: r, m => by
    by_cases h : x = s
    · refine .inr ⟨0, by simp [Lib.idxFromS, h], by simp [h], fun j hj => absurd hj (Nat.not_lt_zero _)⟩
    · rcases pick_from s r (m + 1) with ⟨h1, h2⟩ | ⟨k, h1, h2, h3⟩
      · refine .inl ⟨by simp [Lib.idxFromS, h, h1], fun j hj => ?_⟩
        cases j with
        | zero => simp at hj; exact h hj
        | succ j => exact h2 j (by simpa using hj)
      · refine .inr ⟨k + 1, by rw [show Lib.idxFromS (x :: r) s m = Lib.idxFromS r s (m + 1) by simp [Lib.idxFromS, h], h1]; congr 1; omega, by simpa using h2, fun j hj h' => ?_⟩
        cases j with
        | zero => simp at h'; exact h h'
        | succ j => exact h3 j (by omega) (by simpa using h')
theorem pick_cases (s : ByteArray) (ws : List ByteArray) : (pickL ws s = -1 ∧ ∀ j : Nat, ws[j]? ≠ some s) ∨ ∃ k : Nat, pickL ws s = (k : Int) ∧ ws[k]? = some s ∧ ∀ j, j < k → ws[j]? ≠ some s := by
  rcases pick_from s ws 0 with h | ⟨k, h1, h2⟩
  · exact .inl h
  · exact .inr ⟨k, by rw [show pickL ws s = Lib.idxFromS ws s 0 from rfl, h1]; simp, h2⟩

set_option maxRecDepth 100000 in
set_option maxHeartbeats 2000000 in
theorem lexPicks_walk (s : ByteArray) (v : Value) (ws : List ByteArray) (w : World) (_hs : s.size ≤ maxLen) (h : StrsV w v ws) :
    Calls Try.prog 6 #[.string s, v] w fun e w' => e = .returned (.bool true) ∧ Below w.heap.size w w' := by
  have HV := Lib.hid h
  obtain ⟨a, c, rfl, hcap, hm, hc⟩ := h
  obtain ⟨n, hn⟩ : ∃ n, ws.length = n := ⟨_, rfl⟩
  rw [hn] at HV hm ⊢
  have HN := Lib.hid hn
  have HC := Lib.hid hc
  unfold maxLen at hm
  clear hn hc
  by_cases hbig : 60 < n
  · go_enter Try.func6, Try.ntmps6
    go_wp2_with fail
    refine (alive_any _).mono ?_
    rintro e w1 ⟨rfl, hb1⟩
    go_wp2
    go_ret
    exact ⟨rfl, hb1⟩
  · rcases pick_cases s ws with ⟨hk, hno⟩ | ⟨k, hk, hat, hno⟩
    · have HK := Lib.hid hk
      have HNO := Lib.hid hno
      clear hk hno
      go_enter Try.func6, Try.ntmps6
      go_wp2_with fail
      refine (alive_any _).mono ?_
      rintro e w1 ⟨rfl, hb1⟩
      go_wp2_with fail
      refine (pick_any s _ ws _ (HV.out.keep hb1)).mono ?_
      rintro e w2 ⟨rfl, rfl⟩
      rw [HK.out]
      have hnn : ¬ (n : Int) ≤ -1 := by omega
      go_wp2
      go_loop [38] (fun i => ∃ j : Nat, j ≤ n ∧ i = .int .i64 (j : Int)) (fun i => n - (intOf i).toNat)
      case atStart => exact ⟨0, Nat.zero_le _, rfl⟩
      case round =>
        obtain ⟨j, hj, rfl⟩ := hrel
        by_cases hlt : j < n
        · obtain ⟨x, hx⟩ : ∃ x, ws[j]? = some x := ⟨_, List.getElem?_eq_getElem (by rw [HN.out]; exact hlt)⟩
          obtain ⟨b, o, rfl, d⟩ := HC.out j x hx
          have d' := (hb1.cell (p := ⟨b, o + j, none⟩) (World.block_lt_of_cell? w _ d)).trans d
          have hne : (x.toList == s.toList) = false := (Lib.bytes_beq_false_iff x s).2 fun e => HNO.out j (by rw [hx, e])
          clear d hx
          go_wp2
          go_round
          case rel => exact ⟨j + 1, by omega, by go_num⟩
          case measure => simp [intOf]; omega
        · go_wp2
          go_ret
          exact ⟨rfl, hb1⟩
    · have hkn : k < n := by rw [← HN.out]; exact (List.getElem?_eq_some_iff.1 hat).1
      obtain ⟨b, o, ha, d⟩ := HC.out k s hat
      subst ha
      have HK := Lib.hid hk
      have HNO := Lib.hid hno
      clear hk hno hat
      have hbk := World.block_lt_of_cell? w _ d
      go_enter Try.func6, Try.ntmps6
      go_wp2_with fail
      refine (alive_any _).mono ?_
      rintro e w1 ⟨rfl, hb1⟩
      have d1 := (hb1.cell (p := ⟨b, o + k, none⟩) hbk).trans d
      go_wp2_with fail
      refine (pick_any s _ ws _ (HV.out.keep hb1)).mono ?_
      rintro e w2 ⟨rfl, rfl⟩
      rw [HK.out]
      have h1 : ¬ (k : Int) < -1 := by omega
      have h2 : ¬ (n : Int) ≤ (k : Int) := by omega
      have h3 : (0 : Int) ≤ (k : Int) := by omega
      go_wp2
      go_loop [38] (fun i => ∃ j : Nat, j ≤ n ∧ i = .int .i64 (j : Int)) (fun i => n - (intOf i).toNat)
      case atStart => exact ⟨0, Nat.zero_le _, rfl⟩
      case round =>
        obtain ⟨j, hj, rfl⟩ := hrel
        by_cases hlt : j < n
        · obtain ⟨x, hx⟩ : ∃ x, ws[j]? = some x := ⟨_, List.getElem?_eq_getElem (by rw [HN.out]; exact hlt)⟩
          obtain ⟨b', o', e', d2⟩ := HC.out j x hx
          injection e' with e'
          injection e' with e1 e2
          subst e1 e2
          have d' := (hb1.cell (p := ⟨b, o + j, none⟩) hbk).trans d2
          by_cases hjk : j < k
          · have hne : (x.toList == s.toList) = false := (Lib.bytes_beq_false_iff x s).2 fun e => HNO.out j hjk (by rw [hx, e])
            clear d2 hx
            go_wp2
            go_round
            case rel => exact ⟨j + 1, by omega, by go_num⟩
            case measure => simp [intOf]; omega
          · have h4 : ¬ (j : Int) < (k : Int) := by omega
            have h5 : ¬ (k : Int) < 0 := by omega
            clear d2 hx
            cases hxs : (x.toList == s.toList) with
            | true =>
              go_wp2
              go_round
              case rel => exact ⟨j + 1, by omega, by go_num⟩
              case measure => simp [intOf]; omega
            | false =>
              go_wp2
              go_round
              case rel => exact ⟨j + 1, by omega, by go_num⟩
              case measure => simp [intOf]; omega
        · go_wp2
          go_ret
          exact ⟨rfl, hb1⟩
end Go.Proofs.Ytjinlldfniflbaa
