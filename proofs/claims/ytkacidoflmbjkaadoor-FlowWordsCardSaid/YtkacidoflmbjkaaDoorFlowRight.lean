
/- The walks of flow.Right and the document's Right: they hand back what the plain facts say; what was there stays. -/
import Derived.Test.YtkacidoflmbjkaaDoorFlowPlain
import Derived.Test.YtkacidoflmbjkaaDoorLexDocName
import Derived.Test.YtkacidoflmbjkaaDoorBase
import Derived.Test.YtkacidoflmbjkaaDoorProg
import Derived.WalkKit
import Derived.WalkSpells
import Derived.Lib.Hide
namespace Go.Proofs.YtkacidoflmbjkaaDoor.Fl
open Go.RowKit

theorem name_is (s : ByteArray) (b : Bool) (h : nmB s = b) (w : World) : Calls Tryd.prog 25 #[.string s] w fun e w' => e = .returned (.bool b) ∧ w = w' := by
  rw [← h]; exact name_at s w
theorem rname_is (s : ByteArray) (b : Bool) (h : nmB s = b) (w : World) : Calls Tryd.prog 26 #[.string s] w fun e w' => e = .returned (.bool b) ∧ w = w' := by
  rw [← h]; exact rname_at s w
set_option maxRecDepth 100000 in
set_option maxHeartbeats 4000000 in
theorem right_any (f : Flow) (w : World) : Calls Tryd.prog 11 #[aggL f] w fun e w' => e = .returned (.bool (rightF f)) ∧ Below w.heap.size w w' := by
  have HB := Lib.hid ((Below.refl w.heap.size w).alloc (Nat.le_refl _) (.cells #[.string f.code, .int .i64 f.kind] 28))
  obtain ⟨r, hr⟩ : ∃ r, rightF f = r := ⟨_, rfl⟩
  rw [hr]
  have HR := Lib.hid hr
  clear hr
  obtain ⟨co, k⟩ := f
  simp only at HB HR ⊢
  cases hc : nmB co with
  | false =>
    have HC := Lib.hid hc
    clear hc
    go_enter Tryd.func11, Tryd.ntmps11
    go_wp2_with (go_at_call 25; refine (name_is co _ HC.out _).mono ?_; rintro e w' ⟨rfl, rfl⟩)
    go_ret
    exact ⟨ret_bool (by rw [← HR.out]; simp [rightF, HC.out]), HB.out⟩
  | true =>
    have HC := Lib.hid hc
    clear hc
    by_cases h0 : 0 ≤ k
    · by_cases h5 : k < 5
      · go_enter Tryd.func11, Tryd.ntmps11
        go_wp2_with (go_at_call 25; refine (name_is co _ HC.out _).mono ?_; rintro e w' ⟨rfl, rfl⟩)
        go_ret
        exact ⟨ret_bool (by rw [← HR.out]; simp [rightF, HC.out, h0, h5]), HB.out⟩
      · go_enter Tryd.func11, Tryd.ntmps11
        go_wp2_with (go_at_call 25; refine (name_is co _ HC.out _).mono ?_; rintro e w' ⟨rfl, rfl⟩)
        go_ret
        exact ⟨ret_bool (by rw [← HR.out]; have : ¬ k < 5 := (by omega); simp [rightF, this]), HB.out⟩
    · go_enter Tryd.func11, Tryd.ntmps11
      go_wp2_with (go_at_call 25; refine (name_is co _ HC.out _).mono ?_; rintro e w' ⟨rfl, rfl⟩)
      go_ret
      exact ⟨ret_bool (by rw [← HR.out]; have : ¬ 0 ≤ k := (by omega); simp [rightF, this]), HB.out⟩
set_option maxRecDepth 100000 in
set_option maxHeartbeats 4000000 in
theorem rright_any (f : Flow) (w : World) : Calls Tryd.prog 12 #[aggL f] w fun e w' => e = .returned (.bool (rightF f)) ∧ Below w.heap.size w w' := by
  have HB := Lib.hid ((Below.refl w.heap.size w).alloc (Nat.le_refl _) (.cells #[.string f.code, .int .i64 f.kind] 23))
  obtain ⟨r, hr⟩ : ∃ r, rightF f = r := ⟨_, rfl⟩
  rw [hr]
  have HR := Lib.hid hr
  clear hr
  obtain ⟨co, k⟩ := f
  simp only at HB HR ⊢
  cases hc : nmB co with
  | false =>
    have HC := Lib.hid hc
    clear hc
    go_enter Tryd.func12, Tryd.ntmps12
    go_wp2_with (go_at_call 26; refine (rname_is co _ HC.out _).mono ?_; rintro e w' ⟨rfl, rfl⟩)
    go_ret
    exact ⟨ret_bool (by rw [← HR.out]; simp [rightF, HC.out]), HB.out⟩
  | true =>
    have HC := Lib.hid hc
    clear hc
    by_cases h0 : 0 ≤ k
    · by_cases h5 : k ≤ 4
      · go_enter Tryd.func12, Tryd.ntmps12
        go_wp2_with (go_at_call 26; refine (rname_is co _ HC.out _).mono ?_; rintro e w' ⟨rfl, rfl⟩)
        go_ret
        exact ⟨ret_bool (by rw [← HR.out]; have : k < 5 := (by omega); simp [rightF, HC.out, h0, this]), HB.out⟩
      · go_enter Tryd.func12, Tryd.ntmps12
        go_wp2_with (go_at_call 26; refine (rname_is co _ HC.out _).mono ?_; rintro e w' ⟨rfl, rfl⟩)
        go_ret
        exact ⟨ret_bool (by rw [← HR.out]; have : ¬ k < 5 := (by omega); simp [rightF, this]; omega), HB.out⟩
    · go_enter Tryd.func12, Tryd.ntmps12
      go_wp2_with (go_at_call 26; refine (rname_is co _ HC.out _).mono ?_; rintro e w' ⟨rfl, rfl⟩)
      go_ret
      exact ⟨ret_bool (by rw [← HR.out]; have : ¬ 0 ≤ k := (by omega); simp [rightF, this]), HB.out⟩
end Go.Proofs.YtkacidoflmbjkaaDoor.Fl
