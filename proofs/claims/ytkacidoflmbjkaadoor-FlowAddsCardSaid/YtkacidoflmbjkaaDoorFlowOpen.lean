
/- Flows, and slices of them, that came in, as the walks take them; from the listed variable to what the walks ask; and that the program's own start meets the list. -/
import Derived.Test.YtkacidoflmbjkaaDoorRows
import Derived.Test.YtkacidoflmbjkaaDoorFlowWords
import Derived.Test.YtkacidoflmbjkaaDoorElsOpen
namespace Go.Proofs.YtkacidoflmbjkaaDoor.Fl
open Go.ChangeShapes Go.WideShapes Go.ChangeAt Go.RowKit Go.Deep

section
variable {H : Type} {enc : TypeId × Value → H} {P : Program} {W : World} {base : Nat} {sp : Nat → Bool} {held : Bool}
/-- Two cells that read as a flow's fields are a flow's. -/
theorem flow_cells {e : TypeId} {f0 f1 : Field} (he : P.underlying e = some (.struct #[f0, f1])) (hone : oneCellFields P #[f0, f1] = true) (hC : P.cellsOf e = 2)
    (u0 : P.underlying f0.type = some .string) (u1 : P.underlying f1.type = some (.int .i64)) (fuel : Nat) (cs : List Value) (x : DataW H × List MemPlace)
    (h : DataW.trod enc P W base sp held fuel e cs = some x) : ∃ a : Flow, cs = encF.cs a := by
  obtain ⟨xs, n, _, _, hl, hxl, hg⟩ := DataW.trod_struct he h
  obtain ⟨o0, k0⟩ := hone_of hone 0 f0 rfl
  obtain ⟨o1, k1⟩ := hone_of hone 1 f1 rfl
  match cs, hl.trans hC, xs, hxl with
  | [c0, c1], _, [y0, y1], _ =>
    have g0 := hg 0 f0 rfl
    have g1 := hg 1 f1 rfl
    simp [o0, k0] at g0
    simp [o1, k1] at g1
    obtain ⟨s0, e0, _, z0⟩ := DataW.trod_string u0 g0
    obtain ⟨i1, e1, _, z1⟩ := DataW.trod_int u1 g1
    simp at e0 e1
    subst e0 e1
    exact ⟨⟨s0, i1⟩, rfl⟩
theorem flow_open {r : Reach} {b0 : Nat} {e : TypeId} {f0 f1 : Field} {v : Value} {d : DataW H} {p : List MemPlace} (he : P.underlying e = some (.struct #[f0, f1])) (hone : oneCellFields P #[f0, f1] = true) (hC : P.cellsOf e = 2)
    (u0 : P.underlying f0.type = some .string) (u1 : P.underlying f1.type = some (.int .i64)) (hv : Value.okWide P W r b0 e v) (h : DataW.Trod enc P W base sp held e v d p) : ∃ a : Flow, v = aggL a :=
  el_open (E := encF) he (flow_cells he hone hC u0 u1) hv h
theorem flows_open {t e : TypeId} {f0 f1 : Field} {a : Option Addr} {n c : Nat} {d : DataW H} {p : List MemPlace} (ht : P.underlying t = some (.slice e)) (he : P.underlying e = some (.struct #[f0, f1])) (hone : oneCellFields P #[f0, f1] = true) (hC : P.cellsOf e = 2)
    (u0 : P.underlying f0.type = some .string) (u1 : P.underlying f1.type = some (.int .i64)) (h : DataW.Trod enc P W base sp held t (.slice a n c) d p) : ∃ L, FlowsV W (.slice a n c) L :=
  els_open (E := encF) zeroF ht hC (flow_cells he hone hC u0 u1) h
end
theorem own : ownKnob Tryd.prog.godebug = none := by kernel_rfl
/-- What the rows list. -/
abbrev listed : List (String × DataW Unit) := Rows.flowWordsRow.laid
theorem door_met (os : Os) (args : Array Value) : laidMetH Tryd.prog listed ((World.doorLaid Tryd.prog 400 os).forCall (fun _ _ => 0) ⟨#[], args, []⟩).memory :=
  laidMetH_of_parts3 (fuel := 8) (laidMet_of_run' 8 (by kernel_rfl) (by kernel_rfl)) (by kernel_rfl) (by kernel_rfl)
theorem gKin : Tryd.prog.globalNamed "comptroller/flow.kindWords" = some 0 := by kernel_rfl
theorem tKin : (Tryd.prog.globals[0]?).map (·.type) = some 55 := by kernel_rfl
theorem cKin : Tryd.prog.cellsOf 55 = 5 := by kernel_rfl
theorem cStr : Tryd.prog.cellsOf 9 = 1 := by kernel_rfl
theorem of_laid {W : World} (h : laidMetH Tryd.prog listed W) : Laid W := by
  rw [MakeChecks.laidMetH_plain _ _ _ (by kernel_rfl)] at h
  have h3 : laidMet Tryd.prog [("comptroller/flow.kindWords", .agg ([[111, 112, 101, 110], [109, 111, 118, 101], [102, 120], [115, 99, 111, 112, 101], [99, 108, 111, 115, 101]].map fun z => .lit (.string z)))] W := h
  obtain ⟨ps, ⟨g', t', cs, fuel, p, q, hg', ht', hvar, hd, _, _⟩, _⟩ := h3
  obtain rfl := Option.some.inj (gKin.symm.trans hg')
  obtain rfl := Option.some.inj (tKin.symm.trans ht')
  have hc := cells_of_texts Tryd.underlying55 Tryd.underlying9 cStr cKin hd
  have hv := World.var?_cell gKin hvar
  refine ⟨?_, ?_, ?_, ?_, ?_⟩
  · rw [hv 0]; show _ = some (Value.string (mkB [111, 112, 101, 110])); simpa using hc 0 _ rfl
  · rw [hv 1]; show _ = some (Value.string (mkB [109, 111, 118, 101])); simpa using hc 1 _ rfl
  · rw [hv 2]; show _ = some (Value.string (mkB [102, 120])); simpa using hc 2 _ rfl
  · rw [hv 3]; show _ = some (Value.string (mkB [115, 99, 111, 112, 101])); simpa using hc 3 _ rfl
  · rw [hv 4]; show _ = some (Value.string (mkB [99, 108, 111, 115, 101])); simpa using hc 4 _ rfl
end Go.Proofs.YtkacidoflmbjkaaDoor.Fl
