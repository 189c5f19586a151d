
/- Keys and slices of facts that came in, as the walks take them. -/
import Derived.Test.YtdnneognilffaaaGreatDoorRows
import Derived.Test.YtdnneognilffaaaGreatDoorFaMem
import Derived.Test.YtdnneognilffaaaGreatDoorElsOpen
namespace Go.Proofs.YtdnneognilffaaaGreatDoor.Fa
open Go.ChangeShapes Go.WideShapes Go.ChangeAt Go.RowKit Go.Deep
set_option maxRecDepth 100000

/-- Keys, and facts, whose numbers are of 64 bits. -/
def encK2 : Enc { k : Key // In64 k.m } where
  cs k := encK.cs k.1
  k := 5
  len k := encK.len k.1
  pos := by decide
  one k := encK.one k.1
def encF2 : Enc { f : Fact // In64 f.key.m ∧ In64 f.amt } where
  cs f := encF.cs f.1
  k := 6
  len f := encF.len f.1
  pos := by decide
  one f := encF.one f.1
section
variable {H : Type} {enc : TypeId × Value → H} {W : World} {base : Nat} {sp : Nat → Bool} {held : Bool}
theorem key_cells (fuel : Nat) (cs : List Value) (x : DataW H × List MemPlace) (h : DataW.trod enc Tryz.prog W base sp held fuel 44 cs = some x) : ∃ a : { k : Key // In64 k.m }, cs = encK2.cs a := by
  obtain ⟨xs, n, _, _, hl, hxl, hg⟩ := DataW.trod_struct Tryz.underlying44 h
  have hC : Tryz.prog.cellsOf 44 = 5 := by kernel_rfl
  have cS : Tryz.prog.cellsOf 9 = 1 := by kernel_rfl
  have cI : Tryz.prog.cellsOf 3 = 1 := by kernel_rfl
  match cs, hl.trans hC, xs, hxl with
  | [c0, c1, c2, c3, c4], _, [y0, y1, y2, y3, y4], _ =>
    have g0 := hg 0 _ rfl
    have g1 := hg 1 _ rfl
    have g2 := hg 2 _ rfl
    have g3 := hg 3 _ rfl
    have g4 := hg 4 _ rfl
    simp [cS, cI] at g0 g1 g2 g3 g4
    obtain ⟨s0, e0, _, z0⟩ := DataW.trod_string Tryz.underlying9 g0
    obtain ⟨s1, e1, _, z1⟩ := DataW.trod_string Tryz.underlying9 g1
    obtain ⟨s2, e2, _, z2⟩ := DataW.trod_string Tryz.underlying9 g2
    obtain ⟨s3, e3, _, z3⟩ := DataW.trod_string Tryz.underlying9 g3
    obtain ⟨i4, e4, _, z4⟩ := DataW.trod_int Tryz.underlying3 g4
    simp at e0 e1 e2 e3 e4
    subst e0 e1 e2 e3 e4
    exact ⟨⟨⟨s0, s1, s2, s3, i4⟩, in_of_wf_i64 z4⟩, rfl⟩
theorem fact_cells (fuel : Nat) (cs : List Value) (x : DataW H × List MemPlace) (h : DataW.trod enc Tryz.prog W base sp held fuel 46 cs = some x) : ∃ a : { f : Fact // In64 f.key.m ∧ In64 f.amt }, cs = encF2.cs a := by
  obtain ⟨xs, n, _, _, hl, hxl, hg⟩ := DataW.trod_struct Tryz.underlying46 h
  have hC : Tryz.prog.cellsOf 46 = 6 := by kernel_rfl
  have cK : Tryz.prog.cellsOf 44 = 5 := by kernel_rfl
  have cI : Tryz.prog.cellsOf 2 = 1 := by kernel_rfl
  match cs, hl.trans hC, xs, hxl with
  | [c0, c1, c2, c3, c4, c5], _, [y0, y1], _ =>
    have g0 := hg 0 _ rfl
    have g1 := hg 1 _ rfl
    simp [cK, cI] at g0 g1
    obtain ⟨k, hk⟩ := key_cells _ _ _ g0
    obtain ⟨i5, e5, _, z5⟩ := DataW.trod_int Tryz.underlying2 g1
    simp at e5
    subst e5
    have hk' : [c0, c1, c2, c3, c4] = [Value.string k.1.e, .string k.1.a, .string k.1.f, .string k.1.p, .int .i64 k.1.m] := hk
    simp only [List.cons.injEq, and_true] at hk'
    obtain ⟨rfl, rfl, rfl, rfl, rfl⟩ := hk'
    exact ⟨⟨⟨k.1, i5⟩, k.2, in_of_wf_i64 z5⟩, rfl⟩
theorem key_open {r : Reach} {b0 : Nat} {v : Value} {d : DataW H} {p : List MemPlace} (hv : Value.okWide Tryz.prog W r b0 44 v) (h : DataW.Trod enc Tryz.prog W base sp held 44 v d p) : ∃ a : Key, v = aggK a ∧ In64 a.m := by
  obtain ⟨a, rfl⟩ := el_open (E := encK2) Tryz.underlying44 key_cells hv h
  exact ⟨a.1, rfl, a.2⟩
theorem facts_open {a : Option Addr} {n c : Nat} {d : DataW H} {p : List MemPlace} (h : DataW.Trod enc Tryz.prog W base sp held 22 (.slice a n c) d p) : ∃ L, FactsV W (.slice a n c) L ∧ ∀ f ∈ L, In64 f.key.m ∧ In64 f.amt := by
  obtain ⟨L, hL⟩ := els_open (E := encF2) ⟨⟨⟨⟨#[]⟩, ⟨#[]⟩, ⟨#[]⟩, ⟨#[]⟩, 0⟩, 0⟩, ⟨by decide, by decide⟩, ⟨by decide, by decide⟩⟩ Tryz.underlying22 (by kernel_rfl) fact_cells h
  refine ⟨L.map Subtype.val, hL.map (F := encF) Subtype.val rfl (fun _ => rfl), fun f hf => ?_⟩
  obtain ⟨x, _, rfl⟩ := List.mem_map.1 hf
  exact x.2
end
end Go.Proofs.YtdnneognilffaaaGreatDoor.Fa
