
/- The walk of the document's Words of a flow: what the plain facts say, in new memory; what was there stays. -/
import Derived.Test.YtkacidoflmbjkaaDoorFlowWords
namespace Go.Proofs.YtkacidoflmbjkaaDoor.Fl
open Go.RowKit

theorem kinds_any (w : World) : Calls Tryd.prog 27 #[] w fun e w' => e = .returned (.slice (some ⟨w.heap.size, 0, none⟩) 5 5) ∧ w' = w.alloc (.cells #[.string tOpen, .string tMove, .string tFx, .string tScope, .string tClose] 9) := by
  go_enter Tryd.func27, Tryd.ntmps27
  go_wp2
  go_ret
  exact ⟨rfl, rfl⟩
theorem strs_three2 (w : World) (o : Obj) (x y z : ByteArray) (t : TypeId) : StrsV ((w.alloc o).alloc (.cells #[.string x, .string y, .string z] t)) (.slice (some ⟨w.heap.size + 1, 0, none⟩) 3 3) [x, y, z] := by
  have := strs_three (w.alloc o) x y z t
  rwa [World.size_alloc] at this
abbrev kindCells : Obj := .cells #[.string tOpen, .string tMove, .string tFx, .string tScope, .string tClose] 9
theorem kind_cell (w : World) (n : Nat) (h : n < 5) : (w.alloc kindCells).cell? ⟨w.heap.size, n, none⟩ = some (.string (kindW (n : Int))) := by
  rw [cell_of_row _ w.heap.size n _ _ (0, 0) (heap_alloc_new w _)]
  rcases (by omega : n = 0 ∨ n = 1 ∨ n = 2 ∨ n = 3 ∨ n = 4) with rfl | rfl | rfl | rfl | rfl <;> rfl
set_option maxRecDepth 100000 in
set_option maxHeartbeats 8000000 in
theorem rwords_ok (co : ByteArray) (k : Nat) (w : World) (hk : k < 5) (h : rightF ⟨co, (k : Int)⟩ = true) : Calls Tryd.prog 15 #[aggL ⟨co, (k : Int)⟩] w (StrsTold w [tFlow, co, kindW (k : Int)]) := by
  have HR := Lib.hid (rright_any ⟨co, (k : Int)⟩)
  rw [h] at HR
  have HB := Lib.hid ((Below.refl w.heap.size w).alloc (Nat.le_refl _) (.cells #[.string co, .int .i64 (k : Int)] 23))
  have HX0 := Lib.hid (BoxE.new encF w ⟨co, (k : Int)⟩ 23)
  clear h
  obtain ⟨kw, hkw⟩ : ∃ kw, kindW (k : Int) = kw := ⟨_, rfl⟩
  rw [hkw]
  have HKW := Lib.hid hkw
  clear hkw
  go_enter Tryd.func15, Tryd.ntmps15
  go_wp2_with fail
  refine (HR.out _).mono ?_
  rintro e w1 ⟨rfl, hb1⟩
  have HB1 := Lib.hid (HB.out.trans (hb1.mono HB.out.size))
  have hlt : w.heap.size < w1.heap.size := by have := hb1.size; simp at this; omega
  have HX1 := Lib.hid (HX0.out.keep hb1 (by simp))
  obtain ⟨c0, c1⟩ := box HX1.out
  simp only at c0 c1
  clear hb1
  go_wp2_with fail
  have hb2 := (Below.refl w1.heap.size w1).alloc (Nat.le_refl _) kindCells
  obtain ⟨d0, d1⟩ := box (HX1.out.keep hb2 hlt)
  simp only at d0 d1
  have HB2 := Lib.hid (HB1.out.trans (hb2.mono HB1.out.size))
  have hc := kind_cell w1 k hk
  rw [HKW.out] at hc
  have hk5 : (k : Int) < 5 := by omega
  clear hb2
  go_region_with (go_at_call 27; refine (kinds_any _).mono ?_; rintro e w' ⟨rfl, rfl⟩)
  all_goals
    go_wp2
    go_ret
    exact ⟨_, rfl, strs_three2 w1 kindCells tFlow co kw 9, below_drew' (HB2.out.alloc HB2.out.size _)⟩
set_option maxRecDepth 100000 in
set_option maxHeartbeats 4000000 in
theorem rwords_any (f : Flow) (w : World) : Calls Tryd.prog 15 #[aggL f] w (StrsTold w (wordsF f)) := by
  cases h : rightF f with
  | false =>
    have HR := Lib.hid (rright_any f)
    have HB := Lib.hid ((Below.refl w.heap.size w).alloc (Nat.le_refl _) (.cells #[.string f.code, .int .i64 f.kind] 23))
    rw [h] at HR
    rw [words_nil h]
    clear h
    go_enter Tryd.func15, Tryd.ntmps15
    go_wp2_with fail
    refine (HR.out _).mono ?_
    rintro e w1 ⟨rfl, hb1⟩
    have HB1 := Lib.hid hb1
    clear hb1
    go_wp2
    go_ret
    exact ⟨_, rfl, StrsV.nil _, HB.out.trans (HB1.out.mono HB.out.size)⟩
  | true =>
    rw [words_of h]
    obtain ⟨co, k⟩ := f
    have hk := (right_parts h).2
    simp only at hk ⊢
    obtain ⟨n, rfl⟩ : ∃ n : Nat, k = (n : Int) := ⟨k.toNat, by omega⟩
    exact rwords_ok co n w (by omega) h
end Go.Proofs.YtkacidoflmbjkaaDoor.Fl
