
/- The walk of the document's Same at rows that read alike, and of the statements' own check 'alive': it returns true. -/
import Derived.Test.YticcpcejdndplaaSplitBy
namespace Go.Proofs.Yticcpcejdndplaa
open Go.RowKit

theorem RowIs.drewN {k : IntKind} {w : World} {a : Option Addr} {n : Nat} {l : List Int} (h : RowIs k w a n l) (q : Nat) : RowIs k (w.drewN q) a n l := ⟨h.len, h.max, fun i hi => h.cell i hi⟩
theorem below_drewN {B : Nat} {a w : World} (h : RowKit.Below B a w) (q : Nat) : RowKit.Below B a (w.drewN q) := ⟨h.os, h.tape, h.output, h.size, h.block⟩
theorem rowIs_of_cells {w : World} {b n : Nat} {l : List Int} (hl : l.length = n) (hn : n ≤ maxLen) (h : ∀ k, k < n → w.cell? ⟨b, k, none⟩ = some (.int .i64 (l.getD k 0))) : RowIs .i64 w (some ⟨b, 0, none⟩) n l :=
  ⟨hl, hn, fun i hi => ⟨b, 0, rfl, by rw [Nat.zero_add]; exact h i hi⟩⟩

set_option maxHeartbeats 800000 in
theorem same_true (a b : Option Addr) (n c c' : Nat) (l : List Int) (w : World) (h : RowIs .i64 w a n l) (h' : RowIs .i64 w b n l) :
    Calls Try.prog 14 #[.slice a n c, .slice b n c'] w fun e w' => e = .returned (.bool true) ∧ ∃ q, w' = w.drewN q := by
  have hm := h.max
  unfold maxLen at hm
  have H := Lib.hid h
  have H' := Lib.hid h'
  have hnn : ((n : Int) != (n : Int)) = false := by simp
  clear h h'
  go_enter Try.func14, Try.ntmps14
  go_wp2
  go_loopg [5] n (fun kx vi wr => ∃ i q : Nat, vi = .int .i64 (i : Int) ∧ i ≤ n ∧ n - i ≤ kx ∧ Hid (wr = w.drewN q))
  case atStart => exact ⟨0, 0, rfl, Nat.zero_le _, by omega, rfl⟩
  case round =>
    obtain ⟨i, q, rfl, hin, hkx, HW⟩ := hrel
    by_cases hlt : i < n
    · obtain ⟨b1, o1, rfl, c1⟩ := (H.out.drewN q).cell i hlt
      obtain ⟨b2, o2, rfl, c2⟩ := (H'.out.drewN q).cell i hlt
      rw [← HW.out] at c1 c2
      have hltz : (i : Int) < (n : Int) := by omega
      generalize l.getD i 0 = x at c1 c2
      have hxx : (x != x) = false := by simp
      go_wp2_with fail
      go_quiet (fail)
      clear c1 c2
      go_wp2
      go_roundg (n - (i + 1))
      case measure => omega
      case rel => exact ⟨i + 1, q + nq, by first | rfl | go_num, by omega, Nat.le_refl _, Lib.hid (by rw [HW.out, World.drewN_drewN])⟩
    · have hltz : ¬ (i : Int) < (n : Int) := by omega
      go_wp2
      go_ret
      exact ⟨rfl, q, HW.out⟩

/-- Of rests that are all the same the order is that of their places. -/
theorem Firsts.same {rs : List Int} {n : Nat} {p : Nat → Nat} (h : Firsts rs n p) (hs : ∀ i j, i < n → j < n → rs.getD i 0 = rs.getD j 0) : ∀ k, k < n → p k = k := by
  have hid : Firsts rs n (fun k => k) := ⟨fun k hk => hk, fun i j h1 h2 => .inr ⟨hs i j (by omega) h2, h1⟩⟩
  exact h.one hid (fun i j _ _ => Iff.rfl)

theorem alive_parts {p : Nat → Nat} (h : Firsts (rests 10 [1, 1, 1]) 3 p) : partsOf 10 [1, 1, 1] p = [4, 3, 3] := by
  have e : rests 10 [1, 1, 1] = [1, 1, 1] := by decide
  rw [e] at h
  have h0 := h.same (fun i j hi hj => by
    have : ∀ k, k < 3 → ([1, 1, 1] : List Int).getD k 0 = 1 := by decide
    rw [this i hi, this j hj]) 0 (by omega)
  have e1 : lows 10 [1, 1, 1] = [3, 3, 3] := by decide
  have e2 : moreN 10 (tgV [1, 1, 1]) [1, 1, 1] = 1 := by decide
  have e3 : cmpI 10 0 = 1 := by decide
  unfold partsOf
  rw [e1, e2, e3]
  show ([3, 3, 3] : List Int).set (p 0) (([3, 3, 3] : List Int).getD (p 0) 0 + 1) = _
  rw [h0]
  rfl

set_option maxHeartbeats 1600000 in
theorem alive_any (w : World) : Calls Try.prog 9 #[] w fun e w' => e = .returned (.bool true) ∧ RowKit.Below w.heap.size w w' := by
  have hB := fun (ad : Option Addr) (W : World) (h : RowIs .i64 W ad 3 [1, 1, 1]) => by_ok 10 ad 3 3 [1, 1, 1] W ⟨by omega, by omega⟩ h (fun x hx => by simp at hx; subst hx; exact ⟨by omega, by omega⟩) (by decide)
  have hN := fun (W : World) => by_bad 1 none 0 0 [] W ⟨rfl, by unfold maxLen; omega, fun i hi => absurd hi (Nat.not_lt_zero _)⟩ (fun x hx => by cases hx) (by decide)
  have hS := fun (W : World) => share_ok (-7) 5000 W ⟨by omega, by omega⟩ (by decide)
  have e1 : mdV (-7) 5000 10000 = -4 := by decide
  have e2 : tgE [] = 3 := by decide
  rw [e1] at hS
  rw [e2] at hN
  have HB := Lib.hid hB
  have HN := Lib.hid hN
  have HS := Lib.hid hS
  clear hB hN hS e1 e2
  go_enter Try.func9, Try.ntmps9
  go_wp2_with fail
  refine (HB.out _ _ ?_).mono ?_
  · exact rowIs_new w 2 [1, 1, 1] (by unfold maxLen; decide)
  rintro e w1 ⟨pb, p, rfl, hpb, hF, hc, hb1⟩
  rw [alive_parts hF] at hc
  have R1 := Lib.hid (rowIs_of_cells (n := 3) (l := [4, 3, 3]) rfl (by unfold maxLen; omega) hc)
  have B1 := Lib.hid ((((Below.refl w.heap.size w).alloc (Nat.le_refl _) (.cells #[.int .i64 1, .int .i64 1, .int .i64 1] 2))).trans (hb1.mono (by simp)))
  have hw1 : w.heap.size ≤ w1.heap.size := B1.out.size
  clear hF hc hb1 hpb
  go_wp2_with fail
  refine (HS.out _).mono ?_
  rintro e w2 ⟨rfl, hb2⟩
  have R2 := Lib.hid (R1.out.keep hb2 (Nat.le_refl _))
  have B2 := Lib.hid (B1.out.trans (hb2.mono hw1))
  clear hb2 R1 B1
  go_wp2_with fail
  refine (HN.out _).mono ?_
  rintro e w3 ⟨rfl, rfl⟩
  go_wp2_with fail
  have hk := ((Below.refl w2.heap.size w2).alloc (Nat.le_refl _) (.cells #[.int .i64 4, .int .i64 3, .int .i64 3] 2))
  refine (same_true _ _ 3 _ _ [4, 3, 3] _ (R2.out.keep hk (Nat.le_refl _)) (rowIs_new w2 2 [4, 3, 3] (by unfold maxLen; decide))).mono ?_
  rintro e w4 ⟨rfl, q, rfl⟩
  go_wp2
  go_ret
  exact ⟨rfl, below_drewN (B2.out.alloc B2.out.size _) q⟩
end Go.Proofs.Yticcpcejdndplaa
