
/- The walk of the document's best: of the parts that were not taken yet the one with the greatest rest, of the same ones the first. -/
import Derived.Test.YticcpcejdndplaaSplitRef
namespace Go.Proofs.Yticcpcejdndplaa
open Go.RowKit

/-- The best of the first i, if there is one. -/
def BestTo (rs : List Int) (T : Nat → Bool) (i : Nat) (v : Value) : Prop :=
  (v = .int .i64 (-1) ∧ ∀ j, j < i → T j = true) ∨ ∃ b : Nat, v = .int .i64 (b : Int) ∧ b < i ∧ T b = false ∧ ∀ j, j < i → T j = false → j ≠ b → before rs b j
section
variable {rs : List Int} {T : Nat → Bool} {i : Nat} {v : Value}
theorem BestTo.skip (h : BestTo rs T i v) (ht : T i = true) : BestTo rs T (i + 1) v := by
  rcases h with ⟨h1, h2⟩ | ⟨b, h1, h2, h3, h4⟩
  · exact .inl ⟨h1, fun j hj => by
      by_cases c : j = i
      · rw [c]; exact ht
      · exact h2 j (by omega)⟩
  · exact .inr ⟨b, h1, by omega, h3, fun j hj hT hne => by
      by_cases c : j = i
      · rw [c, ht] at hT; cases hT
      · exact h4 j (by omega) hT hne⟩
theorem BestTo.first (h : ∀ j, j < i → T j = true) (ht : T i = false) : BestTo rs T (i + 1) (.int .i64 (i : Int)) :=
  .inr ⟨i, rfl, by omega, ht, fun j hj hT hne => by rw [h j (by omega)] at hT; cases hT⟩
theorem BestTo.take {b : Nat} (h4 : ∀ j, j < i → T j = false → j ≠ b → before rs b j) (ht : T i = false) (hlt : rs.getD b 0 < rs.getD i 0) : BestTo rs T (i + 1) (.int .i64 (i : Int)) :=
  .inr ⟨i, rfl, by omega, ht, fun j hj hT hne => by
    have hib : before rs i b := .inl hlt
    by_cases c : j = b
    · rw [c]; exact hib
    · exact before_trans _ _ _ _ hib (h4 j (by omega) hT c)⟩
theorem BestTo.stay {b : Nat} (hb : b < i) (h3 : T b = false) (h4 : ∀ j, j < i → T j = false → j ≠ b → before rs b j) (hle : ¬ rs.getD b 0 < rs.getD i 0) : BestTo rs T (i + 1) (.int .i64 (b : Int)) :=
  .inr ⟨b, rfl, by omega, h3, fun j hj hT hne => by
    by_cases c : j = i
    · subst c; unfold before; omega
    · exact h4 j (by omega) hT hne⟩
theorem BestTo.done {n k : Nat} {p : Nat → Nat} (hF : Firsts rs n p) (hk : k < n) (hT : ∀ j, T j = among p j k) (h : BestTo rs T n v) : v = .int .i64 ((p k : Nat) : Int) := by
  have hu : T (p k) = false := by
    rw [hT]
    cases hc : among p (p k) k with
    | false => rfl
    | true =>
      obtain ⟨j, j1, j2⟩ := (among_iff _ _ _).1 hc
      exact absurd j2 (hF.inj j k j1 hk)
  rcases h with ⟨_, h2⟩ | ⟨b, h1, h2, h3, h4⟩
  · rw [h2 _ (hF.1 k hk)] at hu; cases hu
  · by_cases c : b = p k
    · rw [h1, c]
    · exfalso
      have x1 := h4 (p k) (hF.1 k hk) hu (fun e => c e.symm)
      obtain ⟨m, hm, e⟩ := hF.onto h2
      have hmk : k < m := by
        rcases Nat.lt_trichotomy m k with g | g | g
        · rw [hT] at h3
          rw [(among_iff _ _ _).2 ⟨m, g, e⟩] at h3
          cases h3
        · rw [g] at e; exact absurd e.symm c
        · exact g
      have x2 := hF.2 k m hmk hm
      rw [e] at x2
      exact before_not _ _ _ x1 x2
end

set_option maxRecDepth 100000 in
set_option maxHeartbeats 3200000 in
theorem best_any (a s : Int) (ad : Option Addr) (n c : Nat) (l : List Int) (pd : Option Addr) (c2 : Nat) (tb c3 : Nat) (T : Nat → Bool) (w : World) (ha : In64 a) (hs : In64 s) (h0 : 0 < s) (hsv : s = tgV l) (hn : n ≤ 1000)
    (h : RowIs .i64 w ad n l) (hx : ∀ x ∈ l, 0 ≤ x ∧ x < s) (hp : RowIs .i64 w pd n (lows a l)) (ht : ∀ i, i < n → w.cell? ⟨tb, i, none⟩ = some (.bool (T i))) :
    Calls Try.prog 22 #[.int .i64 a, .slice ad n c, .int .i64 s, .slice pd n c2, .slice (some ⟨tb, 0, none⟩) n c3] w fun e w' => (∃ v, e = .returned v ∧ BestTo (rests a l) T n v) ∧ RowKit.Below w.heap.size w w' := by
  have HA := Lib.hid ha
  have HS := Lib.hid hs
  have HSV := Lib.hid hsv
  have HR := Lib.hid h
  have HX := Lib.hid hx
  have HP := Lib.hid hp
  have HT := Lib.hid ht
  have HN := Lib.hid h.len
  have hnm : n ≤ 1000 := hn
  clear ha hs hsv h hx hp ht hn
  go_enter Try.func22, Try.ntmps22
  go_wp2
  go_loopg [11, 12] n (fun kx v11 v12 wr => ∃ i : Nat, v12 = .int .i64 (i : Int) ∧ i ≤ n ∧ n - i ≤ kx ∧ Hid (BestTo (rests a l) T i v11) ∧ Hid (RowKit.Below w.heap.size w wr))
  case atStart => exact ⟨0, rfl, Nat.zero_le _, by omega, .inl ⟨rfl, fun j hj => absurd hj (Nat.not_lt_zero _)⟩, Lib.hid (Below.refl _ _)⟩
  case round =>
    obtain ⟨i, rfl, hin, hkx, HB, BL⟩ := hrel
    by_cases hlt : i < n
    · have hltz : (i : Int) < (n : Int) := by omega
      have k1 : wr.cell? ⟨tb, i, none⟩ = some (.bool (T i)) := by
        have h1 := HT.out i hlt
        exact (BL.out.cell (World.block_lt_of_cell? w _ h1)).trans h1
      have q1 := fun p : Past wr => cell_past k1 p
      clear k1
      cases hTi : T i with
      | true =>
        rw [hTi] at q1
        have HB2 := Lib.hid (HB.out.skip hTi)
        clear hTi HB
        go_wp2_with fail
        refine wp_region_past (by kernel_rfl) (by kernel_rfl) ?_
        repeat (go_big_quiet_step (fail))
        refine wpQuiet_nil ?_
        intro _ hw'
        obtain ⟨⟨w3, hb3⟩, rfl⟩ := hw'
        have BL2 := Lib.hid (BL.out.trans (hb3.mono BL.out.size))
        clear q1 hb3 BL
        go_wp2
        go_roundg (n - (i + 1))
        case measure => omega
        case rel => exact ⟨i + 1, by first | rfl | go_num, by omega, Nat.le_refl _, HB2, BL2⟩
      | false =>
        rw [hTi] at q1
        rcases HB.out with ⟨rfl, g2⟩ | ⟨b, rfl, g2, g3, g4⟩
        · have HB2 : Hid (BestTo (rests a l) T (i + 1) (.int .i64 (i : Int))) := Lib.hid (BestTo.first g2 hTi)
          clear hTi HB g2
          go_wp2_with fail
          refine wp_region_past (by kernel_rfl) (by kernel_rfl) ?_
          repeat (go_big_quiet_step (fail))
          refine wpQuiet_nil ?_
          intro _ hw'
          obtain ⟨⟨w3, hb3⟩, rfl⟩ := hw'
          have BL2 := Lib.hid (BL.out.trans (hb3.mono BL.out.size))
          clear q1 hb3 BL
          go_wp2
          go_roundg (n - (i + 1))
          case measure => omega
          case rel => exact ⟨i + 1, by first | rfl | go_num, by omega, Nat.le_refl _, HB2, BL2⟩
        · have hbn : b < n := by omega
          have hil : i < l.length := by rw [HN.out]; exact hlt
          have hbl : b < l.length := by rw [HN.out]; exact hbn
          obtain ⟨g, o, rfl, r1⟩ := HR.out.cell i hlt
          obtain ⟨g', o', hg', r2⟩ := HR.out.cell b hbn
          injection hg' with hg'
          injection hg' with e1 e2
          subst e1 e2
          obtain ⟨m, o2, rfl, r3⟩ := HP.out.cell i hlt
          obtain ⟨m', o3, hg', r4⟩ := HP.out.cell b hbn
          injection hg' with hg'
          injection hg' with e1 e2
          subst e1 e2
          have q2 := fun p : Past wr => cell_past ((BL.out.cell (World.block_lt_of_cell? w _ r1)).trans r1) p
          have q3 := fun p : Past wr => cell_past ((BL.out.cell (World.block_lt_of_cell? w _ r2)).trans r2) p
          have q4 := fun p : Past wr => cell_past ((BL.out.cell (World.block_lt_of_cell? w _ r3)).trans r3) p
          have q5 := fun p : Past wr => cell_past ((BL.out.cell (World.block_lt_of_cell? w _ r4)).trans r4) p
          clear r1 r2 r3 r4
          have y1 := HX.out _ (getD_mem hil)
          have y2 := HX.out _ (getD_mem hbl)
          have e1 : (lows a l).getD i 0 = lowV a s (l.getD i 0) := by unfold lows; rw [getD_mapI _ _ _ hil, HSV.out]
          have e2 : (lows a l).getD b 0 = lowV a s (l.getD b 0) := by unfold lows; rw [getD_mapI _ _ _ hbl, HSV.out]
          have e3 : (rests a l).getD i 0 = rstV a s (l.getD i 0) := by unfold rests; rw [getD_mapI _ _ _ hil, HSV.out]
          have e4 : (rests a l).getD b 0 = rstV a s (l.getD b 0) := by unfold rests; rw [getD_mapI _ _ _ hbl, HSV.out]
          rw [e1] at q4
          rw [e2] at q5
          have FU := Lib.hid (fun W => further_any a s (l.getD i 0) (l.getD b 0) W HA.out HS.out h0 y1.1 y1.2 y2.1 y2.2)
          rw [← e3, ← e4] at FU
          have tk := BestTo.take (rs := rests a l) g4 hTi
          have st := BestTo.stay (rs := rests a l) g2 g3 g4
          obtain ⟨x1, hx1⟩ : ∃ x, x = l.getD i 0 := ⟨_, rfl⟩
          obtain ⟨x2, hx2⟩ : ∃ x, x = l.getD b 0 := ⟨_, rfl⟩
          obtain ⟨z1, hz1⟩ : ∃ x, x = lowV a s (l.getD i 0) := ⟨_, rfl⟩
          obtain ⟨z2, hz2⟩ : ∃ x, x = lowV a s (l.getD b 0) := ⟨_, rfl⟩
          rw [← hz1] at FU q4
          rw [← hz2] at FU q5
          rw [← hx1] at FU q2
          rw [← hx2] at FU q3
          have hbz : decide ((b : Int) < 0) = false := by simp
          clear hx1 hx2 hz1 hz2 e1 e2 e3 e4 y1 y2 hTi g3 g4 HB
          by_cases hcmp : (rests a l).getD b 0 < (rests a l).getD i 0
          · have HB2 := Lib.hid (tk hcmp)
            have hd : decide ((rests a l).getD b 0 < (rests a l).getD i 0) = true := decide_eq_true hcmp
            rw [hd] at FU
            clear hd tk st hcmp
            go_wp2_with fail
            refine wp_region_past (by kernel_rfl) (by kernel_rfl) ?_
            repeat (go_big_quiet_step ((go_at_call 33; exact Calls.past_of (FU.out _))))
            refine wpQuiet_nil ?_
            intro _ hw'
            obtain ⟨⟨w3, hb3⟩, rfl⟩ := hw'
            have BL2 := Lib.hid (BL.out.trans (hb3.mono BL.out.size))
            clear q1 q2 q3 q4 q5 hb3 BL
            go_wp2
            go_roundg (n - (i + 1))
            case measure => omega
            case rel => exact ⟨i + 1, by first | rfl | go_num, by omega, Nat.le_refl _, HB2, BL2⟩
          · have HB2 := Lib.hid (st hcmp)
            have hd : decide ((rests a l).getD b 0 < (rests a l).getD i 0) = false := decide_eq_false hcmp
            rw [hd] at FU
            clear hd tk st hcmp
            go_wp2_with fail
            refine wp_region_past (by kernel_rfl) (by kernel_rfl) ?_
            repeat (go_big_quiet_step ((go_at_call 33; exact Calls.past_of (FU.out _))))
            refine wpQuiet_nil ?_
            intro _ hw'
            obtain ⟨⟨w3, hb3⟩, rfl⟩ := hw'
            have BL2 := Lib.hid (BL.out.trans (hb3.mono BL.out.size))
            clear q1 q2 q3 q4 q5 hb3 BL
            go_wp2
            go_roundg (n - (i + 1))
            case measure => omega
            case rel => exact ⟨i + 1, by first | rfl | go_num, by omega, Nat.le_refl _, HB2, BL2⟩
    · have hltz : ¬ (i : Int) < (n : Int) := by omega
      obtain rfl : i = n := by omega
      have HB2 := HB
      rename Value => v
      go_wp2
      go_ret
      exact ⟨⟨_, rfl, HB2.out⟩, BL.out⟩
end Go.Proofs.Yticcpcejdndplaa
