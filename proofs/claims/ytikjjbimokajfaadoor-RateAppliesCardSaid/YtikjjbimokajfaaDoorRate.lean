/- The walks of rate.inBounds, Right, Make, Apply, Cmp and of the document's own ones: each hands back what the plain facts say; memory that was there stays. -/
import Derived.Test.YtikjjbimokajfaaDoorRateFacts
import Derived.Test.YtikjjbimokajfaaDoorWideG
import Derived.RegionTactic
namespace Go.Proofs.YtikjjbimokajfaaDoor
open Go.RowKit

/-- A rate that a call has boxed, or laid. -/
def RateAt (w : World) (g : Nat) (n d : Int) : Prop := w.cell? ⟨g, 0, none⟩ = some (.int .i64 n) ∧ w.cell? ⟨g, 1, none⟩ = some (.int .i64 d)
theorem RateAt.mk (w : World) (n d : Int) (t : TypeId) : RateAt (w.alloc (.cells #[.int .i64 n, .int .i64 d] t)) w.heap.size n d := by
  unfold RateAt; simp [World.cell?_alloc_new]
theorem RateAt.lt {w : World} {g : Nat} {n d : Int} (h : RateAt w g n d) : g < w.heap.size := World.block_lt_of_cell? w _ h.1
theorem RateAt.keep {w w' : World} {g B : Nat} {n d : Int} (h : RateAt w g n d) (hb : Below B w w') (hB : w.heap.size ≤ B) : RateAt w' g n d := by
  have hg : g < B := Nat.lt_of_lt_of_le h.lt hB
  exact ⟨(hb.cell (p := ⟨g, 0, none⟩) hg).trans h.1, (hb.cell (p := ⟨g, 1, none⟩) hg).trans h.2⟩

/-- The same, and it may be written to. -/
def RateVar (w : World) (g : Nat) (n d : Int) : Prop := RateAt w g n d ∧ w.frozen? ⟨g, 0, none⟩ = false ∧ w.frozen? ⟨g, 1, none⟩ = false
theorem RateVar.mk (w : World) (n d : Int) (t : TypeId) : RateVar (w.alloc (.cells #[.int .i64 n, .int .i64 d] t)) w.heap.size n d := by
  refine ⟨RateAt.mk w n d t, ?_, ?_⟩ <;> simp [World.frozen?_alloc_new]
theorem RateVar.keep {w w' : World} {g B : Nat} {n d : Int} (h : RateVar w g n d) (hb : Below B w w') (hB : w.heap.size ≤ B) : RateVar w' g n d := by
  have hg : g < B := Nat.lt_of_lt_of_le h.1.lt hB
  exact ⟨h.1.keep hb hB, (hb.frozen (p := ⟨g, 0, none⟩) hg).trans h.2.1, (hb.frozen (p := ⟨g, 1, none⟩) hg).trans h.2.2⟩

theorem RateVar.set0 {w : World} {g : Nat} {n d : Int} (x : Int) (h : RateVar w g n d) : RateVar (w.setCell ⟨g, 0, none⟩ (.int .i64 x)) g x d := by
  obtain ⟨⟨h0, h1⟩, h2, h3⟩ := h
  unfold RateVar RateAt; simp [go_sem, h0, h1, h2, h3]
theorem RateVar.set1 {w : World} {g : Nat} {n d : Int} (x : Int) (h : RateVar w g n d) : RateVar (w.setCell ⟨g, 1, none⟩ (.int .i64 x)) g n x := by
  obtain ⟨⟨h0, h1⟩, h2, h3⟩ := h
  unfold RateVar RateAt; simp [go_sem, h0, h1, h2, h3]
theorem RateVar.other {w : World} {g g' o : Nat} {n d : Int} (u : Value) (h : RateVar w g n d) (hg : g ≠ g') : RateVar (w.setCell ⟨g', o, none⟩ u) g n d := by
  obtain ⟨⟨h0, h1⟩, h2, h3⟩ := h
  unfold RateVar RateAt; simp [go_sem, h0, h1, h2, h3]

set_option maxHeartbeats 400000 in
theorem inBounds_any (n : Int) (w : World) :
    Calls Tryd.prog 27 #[.int .i64 n] w fun e w' => e = .returned (.bool (bndB n)) ∧ w = w' := by
  by_cases h : 1 ≤ n
  · have hd : decide (1 ≤ n) = true := by simpa using h
    go_enter Tryd.func27, Tryd.ntmps27
    go_wp2
    go_ret
    exact ⟨ret_bool (by unfold bndB; rw [hd, Bool.true_and]), rfl⟩
  · have hd : decide (1 ≤ n) = false := by simpa using h
    go_enter Tryd.func27, Tryd.ntmps27
    go_wp2
    go_ret
    exact ⟨ret_bool (by unfold bndB; rw [hd, Bool.false_and]), rfl⟩

set_option maxHeartbeats 400000 in
theorem right_any (n d : Int) (w : World) (hn : In64 n) (hd : In64 d) :
    Calls Tryd.prog 15 #[.agg #[.int .i64 n, .int .i64 d]] w fun e w' => e = .returned (.bool (rightB n d)) ∧ Below w.heap.size w w' := by
  have HN := Lib.hid hn
  have HD := Lib.hid hd
  clear hn hd
  obtain ⟨G, hG⟩ : ∃ G : Nat, G = Nat.gcd n.natAbs d.natAbs := ⟨_, rfl⟩
  have HG := Lib.hid hG
  clear hG
  cases h1 : bndB n with
  | false =>
    have H1 := Lib.hid h1
    clear h1
    go_enter Tryd.func15, Tryd.ntmps15
    go_wp2_with fail
    refine (inBounds_any n _).mono ?_
    rintro e w' ⟨rfl, rfl⟩
    rw [H1.out]
    go_wp2
    go_ret
    exact ⟨ret_bool (by unfold rightB; rw [H1.out, Bool.false_and, Bool.false_and]), (Below.refl _ _).alloc (Nat.le_refl _) _⟩
  | true =>
    cases h2 : bndB d with
    | false =>
      have H1 := Lib.hid h1
      have H2 := Lib.hid h2
      clear h1 h2
      go_enter Tryd.func15, Tryd.ntmps15
      go_wp2_with fail
      refine (inBounds_any n _).mono ?_
      rintro e w' ⟨rfl, rfl⟩
      rw [H1.out]
      go_wp2_with fail
      refine (inBounds_any d _).mono ?_
      rintro e w' ⟨rfl, rfl⟩
      rw [H2.out]
      go_wp2
      go_ret
      exact ⟨ret_bool (by unfold rightB; rw [H1.out, H2.out]; rfl), (Below.refl _ _).alloc (Nat.le_refl _) _⟩
    | true =>
      have H1 := Lib.hid h1
      have H2 := Lib.hid h2
      clear h1 h2
      go_enter Tryd.func15, Tryd.ntmps15
      go_wp2_with fail
      refine (inBounds_any n _).mono ?_
      rintro e w' ⟨rfl, rfl⟩
      rw [H1.out]
      go_wp2_with fail
      refine (inBounds_any d _).mono ?_
      rintro e w' ⟨rfl, rfl⟩
      rw [H2.out]
      go_wp2_with fail
      refine (gcd_any n d _ HN.out HD.out).mono ?_
      rintro e w1 ⟨rfl, hb1⟩
      have HB1 := Lib.hid (((Below.refl w.heap.size w).alloc (Nat.le_refl _) _).trans (hb1.mono (by simp)))
      clear hb1
      rw [← HG.out]
      go_wp2
      go_ret
      refine ⟨ret_bool ?_, HB1.out⟩
      unfold rightB
      rw [H1.out, H2.out, ← HG.out, Bool.and_self, Bool.true_and, Bool.eq_iff_iff]
      simp only [beq_iff_eq]
      omega
end Go.Proofs.YtikjjbimokajfaaDoor
