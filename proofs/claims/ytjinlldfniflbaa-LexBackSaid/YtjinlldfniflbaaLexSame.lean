
/- The walk of the document's Same at lines that read alike: it returns true. -/
import Derived.Test.YtjinlldfniflbaaLexMem
import Derived.Test.YtjinlldfniflbaaProg
import Derived.WalkKit
import Derived.WalkSpells
import Derived.Lib.Hide
import Derived.OwnWalk
import Derived.Handy
import Derived.BigQuiet
import Derived.Deep.QuietTactic
import Derived.LoopTactic
import Derived.Deep.LoopGhost
namespace Go.Proofs.Ytjinlldfniflbaa
open Go.RowKit

theorem cell_drewN (w : World) (q : Nat) (p : Addr) : (w.drewN q).cell? p = w.cell? p := rfl
set_option maxRecDepth 100000 in
set_option maxHeartbeats 2000000 in
theorem lsame_true (v u : Value) (L : List (Int × List ByteArray)) (w : World) (h : LinesV w v L) (h' : LinesV w u L) :
    Calls Try.prog 13 #[v, u] w fun e w' => e = .returned (.bool true) ∧ ∃ q, w' = w.drewN q := by
  obtain ⟨a, c, rfl, hm, hc⟩ := h
  obtain ⟨a', c', rfl, _, hc'⟩ := h'
  obtain ⟨n, hn⟩ : ∃ n, L.length = n := ⟨_, rfl⟩
  rw [hn] at hm ⊢
  have H := Lib.hid hc
  have H' := Lib.hid hc'
  have HN := Lib.hid hn
  unfold maxLen at hm
  clear hc hc' hn
  have hnn : ((n : Int) != (n : Int)) = false := by simp
  go_enter Try.func13, Try.ntmps13
  go_wp2
  go_loopg [5] n (fun kx vi wr => ∃ i q : Nat, vi = .int .i64 (i : Int) ∧ i ≤ n ∧ n - i ≤ kx ∧ Hid (wr = w.drewN q))
  case atStart => exact ⟨0, 0, rfl, Nat.zero_le _, by omega, rfl⟩
  case round =>
    obtain ⟨i, q, rfl, hin, hkx, HW⟩ := hrel
    by_cases hlt : i < n
    · obtain ⟨⟨x, ws⟩, hget⟩ : ∃ y, L[i]? = some y := ⟨_, List.getElem?_eq_getElem (by rw [HN.out]; exact hlt)⟩
      obtain ⟨b1, o1, u1, rfl, d1, d2, s1⟩ := H.out i _ hget
      obtain ⟨b2, o2, u2, rfl, d3, d4, s2⟩ := H'.out i _ hget
      clear hget
      dsimp only at d1 d3 s1 s2
      obtain ⟨a1, k1, rfl, _, m1, e1⟩ := s1
      obtain ⟨a2, k2, rfl, _, _, e2⟩ := s2
      have E1 := Lib.hid e1
      have E2 := Lib.hid e2
      have D1 := Lib.hid d1
      have D2 := Lib.hid d2
      have D3 := Lib.hid d3
      have D4 := Lib.hid d4
      obtain ⟨nw, hnw⟩ : ∃ nw, ws.length = nw := ⟨_, rfl⟩
      rw [hnw] at d2 d4 m1 D2 D4
      have HNW := Lib.hid hnw
      unfold maxLen at m1
      rw [← cell_drewN w q, ← HW.out] at d1 d2 d3 d4
      clear e1 e2 hnw
      have hltz : (i : Int) < (n : Int) := by omega
      have hxx : (x != x) = false := by simp
      have hww : ((nw : Int) != (nw : Int)) = false := by simp
      go_wp2_with fail
      go_big_quiet (fail)
      clear d1 d2 d3 d4
      rename World => wa
      have HWA : Hid (wa.drewN nq = w.drewN (q + nq)) := Lib.hid (by rw [HW.out, World.drewN_drewN])
      go_wp2
      go_loopg [6] nw (fun kx vi wr => ∃ j q2 : Nat, vi = .int .i64 (j : Int) ∧ j ≤ nw ∧ nw - j ≤ kx ∧ Hid (wr = w.drewN q2))
      case atStart => exact ⟨0, q + nq, rfl, Nat.zero_le _, by omega, HWA⟩
      case round =>
        obtain ⟨j, q2, rfl, hjn, hky, HW2⟩ := hrel
        have d2 := D2.out
        have d4 := D4.out
        rw [← cell_drewN w q2, ← HW2.out] at d2 d4
        by_cases hjt : j < nw
        · obtain ⟨y, hget⟩ : ∃ y, ws[j]? = some y := ⟨_, List.getElem?_eq_getElem (by rw [HNW.out]; exact hjt)⟩
          obtain ⟨b3, o3, rfl, f1⟩ := E1.out j _ hget
          obtain ⟨b4, o4, rfl, f2⟩ := E2.out j _ hget
          clear hget
          rw [← cell_drewN w q2, ← HW2.out] at f1 f2
          have hjtz : (j : Int) < (nw : Int) := by omega
          go_wp2_with fail
          go_big_quiet (fail)
          clear d2 d4 f1 f2
          go_wp2
          go_roundg (nw - (j + 1))
          case measure => omega
          case rel => exact ⟨j + 1, q2 + nq, by first | rfl | go_num, by omega, Nat.le_refl _, Lib.hid (by rw [HW2.out, World.drewN_drewN])⟩
        · have hjtz : ¬ (j : Int) < (nw : Int) := by omega
          go_wp2
          go_roundg (n - (i + 1))
          case measure => omega
          case rel => exact ⟨i + 1, q2, by first | rfl | go_num, by omega, Nat.le_refl _, HW2⟩
    · have hltz : ¬ (i : Int) < (n : Int) := by omega
      go_wp2
      go_ret
      exact ⟨rfl, q, HW.out⟩
end Go.Proofs.Ytjinlldfniflbaa
