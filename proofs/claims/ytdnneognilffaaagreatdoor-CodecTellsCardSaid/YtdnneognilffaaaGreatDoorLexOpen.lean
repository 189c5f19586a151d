
/- Slices of texts, and of lines, that came in, as the walks take them. -/
import Derived.Test.YtdnneognilffaaaGreatDoorLexMem
import Derived.Test.YtdnneognilffaaaGreatDoorOpen
import Derived.Deep.Strs
import Derived.Deep.SlicePairs
namespace Go.Proofs.YtdnneognilffaaaGreatDoor
open Go.ChangeShapes Go.WideShapes Go.ChangeAt Go.RowKit

section
variable {H : Type} {enc : TypeId × Value → H} {P : Program} {W : World} {base : Nat} {sp : Nat → Bool} {held : Bool}
theorem strs_open1 {t e : TypeId} {fuel : Nat} {v : Value} {x : DataW H × List MemPlace} (ht : P.underlying t = some (.slice e)) (he : P.underlying e = some .string) (hc : P.cellsOf e = 1)
    (h : DataW.trod enc P W base sp held fuel t [v] = some x) : ∃ ws, StrsV W v ws := by
  rcases Go.Deep.open_strs ht he hc h with ⟨hcs, _⟩ | ⟨a, len, cap, m, Sx, hcs, _, hl, hm, hmm, _, hcell⟩
  · simp at hcs
    subst hcs
    exact ⟨[], StrsV.nil W⟩
  · simp at hcs
    subst hcs
    have hlm : len ≤ m := by rw [hmm]; split <;> omega
    clear hmm
    refine ⟨(List.range len).map Sx, some a, cap, by simp, by simpa using hl, by simp; omega, fun i x hx => ?_⟩
    have hi : i < len := by
      have := (List.getElem?_eq_some_iff.1 hx).1
      simpa using this
    have hx' : x = Sx i := by
      rw [List.getElem?_map, List.getElem?_range hi] at hx
      simpa using hx.symm
    subst hx'
    have h1 := (hcell i (by omega)).1
    obtain ⟨b, o, s⟩ := a
    have hs : s = none := by
      have := World.cell?_spot (hcell 0 (by omega)).1
      simpa [Addr.add] using this
    subst hs
    exact ⟨b, o, rfl, by rw [← add_off]; exact h1⟩
theorem strs_open {t e : TypeId} {a : Option Addr} {n c : Nat} {d : DataW H} {p : List MemPlace} (ht : P.underlying t = some (.slice e)) (he : P.underlying e = some .string) (hc : P.cellsOf e = 1)
    (h : DataW.Trod enc P W base sp held t (.slice a n c) d p) : ∃ ws, StrsV W (.slice a n c) ws := by
  obtain ⟨fuel, hf⟩ := h
  exact strs_open1 ht he hc hf
theorem lines_open {t e q r : TypeId} {f0 f1 : Field} {a : Option Addr} {n c : Nat} {d : DataW H} {p : List MemPlace} (ht : P.underlying t = some (.slice e)) (he : P.underlying e = some (.struct #[f0, f1]))
    (ce : P.cellsOf e = 2) (o0 : f0.offset = 0) (o1 : f1.offset = 1) (c0 : P.cellsOf f0.type = 1) (c1 : P.cellsOf f1.type = 1) (h0 : P.underlying f0.type = some (.int .i64)) (h1 : f1.type = q) (hq : P.underlying q = some (.slice r)) (hr : P.underlying r = some .string) (cr : P.cellsOf r = 1)
    (h : DataW.Trod enc P W base sp held t (.slice a n c) d p) : ∃ L, LinesV W (.slice a n c) L := by
  obtain ⟨fuel, hf⟩ := h
  rcases Go.Deep.open_slice_pairs ht he ce o0 o1 c0 c1 hf with ⟨hcs, _⟩ | ⟨a', len, cap, m, k, V0, V1, D0, D1, P0, P1, hcs, _, hl, hm, hmm, _, hcell⟩
  · simp [Value.cells] at hcs
    obtain ⟨rfl, rfl, rfl⟩ := hcs
    exact ⟨[], LinesV.nil W⟩
  · simp [Value.cells] at hcs
    obtain ⟨rfl, rfl, rfl⟩ := hcs
    have hlm : n ≤ m := by rw [hmm]; split <;> omega
    clear hmm
    have each : ∀ i, i < n → ∃ y : Int × List ByteArray, V0 i = .int .i64 y.1 ∧ StrsV W (V1 i) y.2 := fun i hi => by
      obtain ⟨_, _, t0, t1⟩ := hcell i (by omega)
      obtain ⟨z, e0, _, _⟩ := DataW.trod_int h0 t0
      rw [h1] at t1
      obtain ⟨ws, hws⟩ := strs_open1 hq hr cr t1
      exact ⟨(z, ws), by simpa using e0, hws⟩
    obtain ⟨F, hF⟩ := Go.Deep.choose_lt each
    refine ⟨(List.range n).map F, some a', c, by simp, by simp; omega, fun i x hx => ?_⟩
    have hi : i < n := by
      have := (List.getElem?_eq_some_iff.1 hx).1
      simpa using this
    have hx' : x = F i := by
      rw [List.getElem?_map, List.getElem?_range hi] at hx
      simpa using hx.symm
    subst hx'
    obtain ⟨d0, d1, _, _⟩ := hcell i (by omega)
    rw [(hF i hi).1] at d0
    obtain ⟨b, o, s⟩ := a'
    have hs : s = none := by
      have := World.cell?_spot (hcell 0 (by omega)).1
      simpa [Addr.add] using this
    subst hs
    rw [add_off] at d0 d1
    exact ⟨b, o, _, rfl, d0, by rw [Nat.add_assoc]; exact d1, (hF i hi).2⟩
end
end Go.Proofs.YtdnneognilffaaaGreatDoor
