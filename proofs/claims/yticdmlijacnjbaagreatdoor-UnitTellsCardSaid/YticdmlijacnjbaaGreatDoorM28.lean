/- UnitTold; Open; LexOpen; ElsOpen; UnitOpen: texts put together (each begins with what it is). -/
import Derived.Test.YticdmlijacnjbaaGreatDoorM27
import Derived.Test.YticdmlijacnjbaaGreatDoorProg
import Derived.Test.YticdmlijacnjbaaGreatDoorM31
import Derived.ProofKit
import Derived.LaidMore
import Derived.OpenShut
import Derived.Test.YticdmlijacnjbaaGreatDoorM03
import Derived.Deep.Strs
import Derived.Deep.SlicePairs
import Derived.Stop.Joined
import Derived.Stop.LaidErr
import Derived.Lib.LaidTab
import Derived.Deep.Fields
import Derived.Deep.Slices
import Derived.Test.YticdmlijacnjbaaGreatDoorRows
/- What Parse tells of any text, in one place for the statements' walks. -/
namespace Go.Proofs.YticdmlijacnjbaaGreatDoor.Un
open Go.RowKit

/-- The words of the classes and of the kinds lie where they should. -/
def LaidU (w : World) : Prop := Laid w ∧ Fl.Laid w
/-- Master data of a text that is right. -/
structure RightOf (s : ByteArray) (M : Mast) : Prop where
  run : runM zeroM (wordsT s) = (M, 0)
  inv : Inv (wordsT s) M
  all : allE M = 0
  lin : linE s.data.toList = 0
theorem RightOf.acc {s : ByteArray} {M : Mast} (h : RightOf s M) : ∀ x ∈ M.lines, x.acc.size ≤ 100 := fun x hx => by
  obtain ⟨_, _, hl, _⟩ := allE_parts h.all
  have h1 := List.all_eq_true.1 hl x hx
  unfold lineN hasA at h1
  rw [Bool.and_eq_true] at h1
  obtain ⟨y, hy⟩ := Option.isSome_iff_exists.1 h1.1
  obtain ⟨h2, h3⟩ := find_mem hy
  have := (nm_size (right_parts (h.inv.right y h3)).1).2
  rw [← h2]; omega
theorem RightOf.code {s : ByteArray} {M : Mast} (h : RightOf s M) : ∀ x ∈ M.chart, x.code.size ≤ 100 := fun x hx => by
  have := (nm_size (right_parts (h.inv.right x hx)).1).2
  omega
theorem RightOf.size {s : ByteArray} {M : Mast} (h : RightOf s M) : szL (outM M) ≤ s.size + 1 := by
  rw [← szL_perm (out_perm h.run h.all)]; exact text_size s
def ParseTold (s : ByteArray) (w : World) (en : Ending) (w' : World) : Prop :=
  ∃ M c f e l, ∃ n : Int, en = .returned (.tuple #[aggM c f e l M, .int .i64 n]) ∧ MastIn w' c f e l M ∧ Below w.heap.size w w' ∧ ((n = 0 ∧ RightOf s M) ∨ (n ≠ 0 ∧ M = zeroM))
theorem parse_told (s : ByteArray) (w : World) (hs : s.size ≤ 30000) (hl : Laid w) (hlf : Fl.Laid w) : Calls Tryz.prog 11 #[.string s] w (ParseTold s w) := by
  refine (parse_any s w hs hl hlf).mono ?_
  rintro en w' ⟨v, rfl, ⟨c, f, e, l, rfl, hm⟩, hb⟩
  refine ⟨_, c, f, e, l, _, rfl, hm, hb, ?_⟩
  rcases parse_ways s with ⟨M, h1, h2, h3, h4, h5⟩ | ⟨h1, h2⟩
  · rw [h4]; exact .inl ⟨rfl, h1, h2, h3, h5⟩
  · exact .inr ⟨h2, h1⟩
theorem str_self (x : ByteArray) : (x.toList == x.toList) = true := by simp
end Go.Proofs.YticdmlijacnjbaaGreatDoor.Un
/- Slices of integers that came in, as the walks take them. -/
namespace Go.Proofs.YticdmlijacnjbaaGreatDoor
open Go.ChangeShapes Go.WideShapes Go.ChangeAt Go.RowKit

def In16 (a : Int) : Prop := -32768 ≤ a ∧ a ≤ 32767
theorem in_of_wf_i16 {a : Int} (h : (Lit.int .i16 a).wf = true) : In16 a := by
  have e1 : IntKind.i16.min = -32768 := rfl
  have e2 : IntKind.i16.max = 32767 := rfl
  simp [Lit.wf, e1, e2] at h
  exact h
theorem laidOut : laidOutB Tryz.prog = true := by kernel_rfl
/-- A slice of integers that came in, as the walks take it. -/
theorem rowA_open {H : Type} {enc : TypeId × Value → H} {P : Program} {W : World} {base : Nat} {sp : Nat → Bool} {held : Bool} {t e : TypeId} {k : IntKind} {a : Option Addr} {n c : Nat} {d : DataW H} {p : List MemPlace}
    (ht : P.underlying t = some (.slice e)) (he : P.underlying e = some (.int k)) (hc : P.cellsOf e = 1) (h : DataW.Trod enc P W base sp held t (.slice a n c) d p) :
    ∃ l, RowA k W (.slice a n c) l ∧ n ≤ c ∧ ∀ x ∈ l, (Lit.int k x).wf = true := by
  obtain ⟨fuel, hf⟩ := h
  rcases open_ints ht he hc hf with ⟨hcs, _⟩ | ⟨x, l, c, zs, hcs, _, hl, hm, hz, _, hcell, hwz⟩
  · simp [Value.cells] at hcs
    obtain ⟨rfl, rfl, rfl⟩ := hcs
    exact ⟨[], .inl ⟨rfl, rfl⟩, Nat.le_refl _, fun x hx => by cases hx⟩
  · simp [Value.cells] at hcs
    obtain ⟨rfl, rfl, rfl⟩ := hcs
    have hzl : n ≤ zs.length := by rw [hz]; split <;> omega
    clear hz
    have hlen : (zs.take n).length = n := by simp; omega
    refine ⟨zs.take n, .inr ⟨x, c, by rw [hlen], by omega, fun i hi => ?_⟩, hl, fun x hx => hwz x (List.mem_of_mem_take hx)⟩
    rw [hlen] at hi
    rw [hcell i (by omega)]
    simp [List.getD, hi]
end Go.Proofs.YticdmlijacnjbaaGreatDoor
/- Slices of texts, and of lines, that came in, as the walks take them. -/
namespace Go.Proofs.YticdmlijacnjbaaGreatDoor
open Go.ChangeShapes Go.WideShapes Go.ChangeAt Go.RowKit

section
variable {H : Type} {enc : TypeId × Value → H} {P : Program} {W : World} {base : Nat} {sp : Nat → Bool} {held : Bool}
theorem strs_open1 {t e : TypeId} {fuel : Nat} {v : Value} {x : DataW H × List MemPlace} (ht : P.underlying t = some (.slice e)) (he : P.underlying e = some .string) (hc : P.cellsOf e = 1)
    (h : DataW.trod enc P W base sp held fuel t [v] = some x) : ∃ ws, StrsV W v ws := by
  rcases Go.Deep.open_strs ht he hc h with ⟨hcs, _⟩ | ⟨a, len, cap, m, Sx, hcs, _, hl, hm, hmm, _, hcell⟩
  · simp at hcs
    subst hcs
    exact ⟨[], StrsV.nil W⟩
  · simp at hcs
    subst hcs
    have hlm : len ≤ m := by rw [hmm]; split <;> omega
    clear hmm
    refine ⟨(List.range len).map Sx, some a, cap, by simp, by simpa using hl, by simp; omega, fun i x hx => ?_⟩
    have hi : i < len := by
      have := (List.getElem?_eq_some_iff.1 hx).1
      simpa using this
    have hx' : x = Sx i := by
      rw [List.getElem?_map, List.getElem?_range hi] at hx
      simpa using hx.symm
    subst hx'
    have h1 := (hcell i (by omega)).1
    obtain ⟨b, o, s⟩ := a
    have hs : s = none := by
      have := World.cell?_spot (hcell 0 (by omega)).1
      simpa [Addr.add] using this
    subst hs
    exact ⟨b, o, rfl, by rw [← add_off]; exact h1⟩
theorem strs_open {t e : TypeId} {a : Option Addr} {n c : Nat} {d : DataW H} {p : List MemPlace} (ht : P.underlying t = some (.slice e)) (he : P.underlying e = some .string) (hc : P.cellsOf e = 1)
    (h : DataW.Trod enc P W base sp held t (.slice a n c) d p) : ∃ ws, StrsV W (.slice a n c) ws := by
  obtain ⟨fuel, hf⟩ := h
  exact strs_open1 ht he hc hf
theorem lines_open {t e q r : TypeId} {f0 f1 : Field} {a : Option Addr} {n c : Nat} {d : DataW H} {p : List MemPlace} (ht : P.underlying t = some (.slice e)) (he : P.underlying e = some (.struct #[f0, f1]))
    (ce : P.cellsOf e = 2) (o0 : f0.offset = 0) (o1 : f1.offset = 1) (c0 : P.cellsOf f0.type = 1) (c1 : P.cellsOf f1.type = 1) (h0 : P.underlying f0.type = some (.int .i64)) (h1 : f1.type = q) (hq : P.underlying q = some (.slice r)) (hr : P.underlying r = some .string) (cr : P.cellsOf r = 1)
    (h : DataW.Trod enc P W base sp held t (.slice a n c) d p) : ∃ L, LinesV W (.slice a n c) L := by
  obtain ⟨fuel, hf⟩ := h
  rcases Go.Deep.open_slice_pairs ht he ce o0 o1 c0 c1 hf with ⟨hcs, _⟩ | ⟨a', len, cap, m, k, V0, V1, D0, D1, P0, P1, hcs, _, hl, hm, hmm, _, hcell⟩
  · simp [Value.cells] at hcs
    obtain ⟨rfl, rfl, rfl⟩ := hcs
    exact ⟨[], LinesV.nil W⟩
  · simp [Value.cells] at hcs
    obtain ⟨rfl, rfl, rfl⟩ := hcs
    have hlm : n ≤ m := by rw [hmm]; split <;> omega
    clear hmm
    have each : ∀ i, i < n → ∃ y : Int × List ByteArray, V0 i = .int .i64 y.1 ∧ StrsV W (V1 i) y.2 := fun i hi => by
      obtain ⟨_, _, t0, t1⟩ := hcell i (by omega)
      obtain ⟨z, e0, _, _⟩ := DataW.trod_int h0 t0
      rw [h1] at t1
      obtain ⟨ws, hws⟩ := strs_open1 hq hr cr t1
      exact ⟨(z, ws), by simpa using e0, hws⟩
    obtain ⟨F, hF⟩ := Go.Deep.choose_lt each
    refine ⟨(List.range n).map F, some a', c, by simp, by simp; omega, fun i x hx => ?_⟩
    have hi : i < n := by
      have := (List.getElem?_eq_some_iff.1 hx).1
      simpa using this
    have hx' : x = F i := by
      rw [List.getElem?_map, List.getElem?_range hi] at hx
      simpa using hx.symm
    subst hx'
    obtain ⟨d0, d1, _, _⟩ := hcell i (by omega)
    rw [(hF i hi).1] at d0
    obtain ⟨b, o, s⟩ := a'
    have hs : s = none := by
      have := World.cell?_spot (hcell 0 (by omega)).1
      simpa [Addr.add] using this
    subst hs
    rw [add_off] at d0 d1
    exact ⟨b, o, _, rfl, d0, by rw [Nat.add_assoc]; exact d1, (hF i hi).2⟩
end
end Go.Proofs.YticdmlijacnjbaaGreatDoor
/- Elements of k cells, and slices of them, that came in, as the walks take them; a table of texts that is listed, cell for cell. Over any program. -/
namespace Go.Proofs.YticdmlijacnjbaaGreatDoor
open Go.ChangeShapes Go.WideShapes Go.ChangeAt Go.RowKit Go.Deep

section
variable {H : Type} {enc : TypeId × Value → H} {P : Program} {W : World} {base : Nat} {sp : Nat → Bool} {held : Bool}
/-- A struct that came in, whose cells are an element's. -/
theorem el_open {α : Type} {E : Enc α} {r : Reach} {b0 : Nat} {e : TypeId} {fs : Array Field} {v : Value} {d : DataW H} {p : List MemPlace} (he : P.underlying e = some (.struct fs))
    (hcells : ∀ fuel cs x, DataW.trod enc P W base sp held fuel e cs = some x → ∃ a : α, cs = E.cs a)
    (hv : Value.okWide P W r b0 e v) (h : DataW.Trod enc P W base sp held e v d p) : ∃ a : α, v = .agg (E.cs a).toArray := by
  obtain ⟨cs, rfl, _⟩ := okWide_struct he hv
  obtain ⟨fuel, hf⟩ := h
  obtain ⟨a, ha⟩ := hcells _ _ _ hf
  refine ⟨a, ?_⟩
  have : cs.toList = E.cs a := by simpa [Value.cells] using ha
  rw [← this]
/-- A slice of such that came in. -/
theorem els_open {α : Type} {E : Enc α} {t e : TypeId} {a : Option Addr} {n c : Nat} {d : DataW H} {p : List MemPlace} (z : α) (ht : P.underlying t = some (.slice e)) (hC : P.cellsOf e = E.k)
    (hcells : ∀ fuel cs x, DataW.trod enc P W base sp held fuel e cs = some x → ∃ a : α, cs = E.cs a)
    (h : DataW.Trod enc P W base sp held t (.slice a n c) d p) : ∃ L, ElsV E W (.slice a n c) L := by
  obtain ⟨fuel, hf⟩ := h
  rcases Go.Deep.open_slice ht hf with ⟨hcs, _⟩ | ⟨ad, len, cap, m, k, D, Pl, hcs, _, hl, hm, hmm, _, hi⟩
  · simp [Value.cells] at hcs
    obtain ⟨rfl, rfl, rfl⟩ := hcs
    exact ⟨[], ElsV.nil W⟩
  · simp [Value.cells] at hcs
    obtain ⟨rfl, rfl, rfl⟩ := hcs
    have hlm : n ≤ m := by rw [hmm]; split <;> omega
    clear hmm
    rw [hC] at hi
    have each : ∀ i, i < n → ∃ x : α, ∀ j v, (E.cs x)[j]? = some v → W.cell? ((ad.add (i * E.k)).add j) = some v := fun i hin => by
      obtain ⟨cs', hcc, ht'⟩ := hi i (by omega)
      obtain ⟨x, hx⟩ := hcells _ _ _ ht'
      obtain ⟨_, hlen, hat⟩ := World.cells?_some hcc
      refine ⟨x, fun j v hj => ?_⟩
      have hjk : j < E.k := by rw [← E.len x]; exact (List.getElem?_eq_some_iff.1 hj).1
      rw [hat j hjk, hx, hj]
    haveI : Inhabited α := ⟨z⟩
    obtain ⟨F, hF⟩ := Go.Deep.choose_lt each
    refine ⟨(List.range n).map F, some ad, c, by simp, by simpa using hl, hm, (fun e => by cases e), fun i x hx => ?_⟩
    have hin : i < n := by
      have := (List.getElem?_eq_some_iff.1 hx).1
      simpa using this
    have hx' : x = F i := by
      rw [List.getElem?_map, List.getElem?_range hin] at hx
      simpa using hx.symm
    subst hx'
    have h0 := hF i hin
    obtain ⟨b, o, s⟩ := ad
    have hs : s = none := by
      have hp : 0 < (E.cs (F 0)).length := by rw [E.len]; exact E.pos
      have h00 := World.cell?_spot (hF 0 (by omega) 0 _ (List.getElem?_eq_getElem hp))
      simpa [Addr.add] using h00
    subst hs
    exact ⟨b, o, rfl, fun j v hj => by have := h0 j v hj; rwa [add_off, add_off] at this⟩
end
/-- An array of texts that reads as these holds them, cell for cell. -/
theorem cells_of_texts {H : Type} {enc : TypeId × Value → H} {P : Program} {w : World} {base : Nat} {sp : Nat → Bool} {held : Bool} {fuel : Nat} {t e : TypeId} {n : Nat} {cs : List Value} {zs : List (List UInt8)} {p : List MemPlace}
    (ht : P.underlying t = some (.array n e)) (he : P.underlying e = some .string) (hce : P.cellsOf e = 1) (hct : P.cellsOf t = n)
    (h : DataW.trod enc P w base sp held fuel t cs = some (.agg (zs.map fun z => .lit (.string z)), p)) : ∀ (i : Nat) z, zs[i]? = some z → cs[i]? = some (.string (mkB z)) := by
  cases fuel with
  | zero => simp [DataW.trod] at h
  | succ fuel =>
    simp only [DataW.trod, ht, hce, hct, Nat.mul_one] at h
    split at h
    · obtain ⟨xs, hm, hx⟩ := Option.map_eq_some_iff.1 h
      have hxs : xs.map (·.1) = zs.map fun z => (DataW.lit (.string z) : DataW H) := by simpa using congrArg Prod.fst hx
      have hxl : xs.length = n := by simpa using Lib.mapM_length hm
      have hzl : zs.length = n := by
        have := congrArg List.length hxs
        simp at this
        omega
      intro i z hz
      have hi : i < n := by rw [← hzl]; exact (List.getElem?_eq_some_iff.1 hz).1
      obtain ⟨b, hb, hf⟩ := Lib.mapM_at hm i i (by simp [hi])
      obtain ⟨s, hc, rfl, _⟩ := DataW.trod_string he hf
      have h1 : cs[i]? = some (.string s) := by
        have := congrArg (·[0]?) hc
        simpa [List.getElem?_take, List.getElem?_drop] using this
      have h2 : (xs.map (·.1))[i]? = some (DataW.lit (.string s.data.toList) : DataW H) := by simp [hb]
      rw [hxs] at h2
      simp only [List.getElem?_map, hz, Option.map_some, Option.some.injEq, DataW.lit.injEq, Lit.string.injEq] at h2
      rw [h1, h2, mkB_list]
    · cases h
end Go.Proofs.YticdmlijacnjbaaGreatDoor
/- From the two listed variables, the words of the classes and of the kinds, to what the walks ask of memory; and that the program's own start meets the list. -/
namespace Go.Proofs.YticdmlijacnjbaaGreatDoor.Un
open Go.ChangeShapes Go.WideShapes Go.ChangeAt Go.RowKit Go.Deep

theorem own : ownKnob Tryz.prog.godebug = none := by kernel_rfl
/-- What the rows list. -/
abbrev listed : List (String × DataW Unit) := Rows.unitTellsRow.laid
theorem door_met (os : Os) (args : Array Value) : laidMetH Tryz.prog listed ((World.doorLaid Tryz.prog 400 os).forCall (fun _ _ => 0) ⟨#[], args, []⟩).memory :=
  laidMetH_of_parts3 (fuel := 8) (laidMet_of_run' 8 (by kernel_rfl) (by kernel_rfl)) (by kernel_rfl) (by kernel_rfl)
theorem gCls : Tryz.prog.globalNamed "comptroller/chart.classWords" = some 0 := by kernel_rfl
theorem tCls : (Tryz.prog.globals[0]?).map (·.type) = some 129 := by kernel_rfl
theorem cCls : Tryz.prog.cellsOf 129 = 3 := by kernel_rfl
theorem gKin : Tryz.prog.globalNamed "comptroller/flow.kindWords" = some 1 := by kernel_rfl
theorem tKin : (Tryz.prog.globals[1]?).map (·.type) = some 131 := by kernel_rfl
theorem cKin : Tryz.prog.cellsOf 131 = 5 := by kernel_rfl
theorem cStr : Tryz.prog.cellsOf 9 = 1 := by kernel_rfl
theorem of_laid {W : World} (h : laidMetH Tryz.prog listed W) : LaidU W := by
  rw [MakeChecks.laidMetH_plain _ _ _ (by kernel_rfl)] at h
  have h2 : laidMet Tryz.prog [("comptroller/chart.classWords", .agg ([[97, 115, 115, 101, 116], [108, 105, 97, 98, 105, 108, 105, 116, 121], [101, 113, 117, 105, 116, 121]].map fun z => .lit (.string z))), ("comptroller/flow.kindWords", .agg ([[111, 112, 101, 110], [109, 111, 118, 101], [102, 120], [115, 99, 111, 112, 101], [99, 108, 111, 115, 101]].map fun z => .lit (.string z)))] W := h
  have h3 := h2.tail
  constructor
  · obtain ⟨ps, ⟨g', t', cs, fuel, p, q, hg', ht', hvar, hd, _, _⟩, _⟩ := h2
    obtain rfl := Option.some.inj (gCls.symm.trans hg')
    obtain rfl := Option.some.inj (tCls.symm.trans ht')
    have hc := cells_of_texts Tryz.underlying129 Tryz.underlying9 cStr cCls hd
    have hv := World.var?_cell gCls hvar
    refine ⟨?_, ?_, ?_⟩
    · rw [hv 0]; show _ = some (Value.string (mkB [97, 115, 115, 101, 116])); simpa using hc 0 _ rfl
    · rw [hv 1]; show _ = some (Value.string (mkB [108, 105, 97, 98, 105, 108, 105, 116, 121])); simpa using hc 1 _ rfl
    · rw [hv 2]; show _ = some (Value.string (mkB [101, 113, 117, 105, 116, 121])); simpa using hc 2 _ rfl
  · obtain ⟨ps, ⟨g', t', cs, fuel, p, q, hg', ht', hvar, hd, _, _⟩, _⟩ := h3
    obtain rfl := Option.some.inj (gKin.symm.trans hg')
    obtain rfl := Option.some.inj (tKin.symm.trans ht')
    have hc := cells_of_texts Tryz.underlying131 Tryz.underlying9 cStr cKin hd
    have hv := World.var?_cell gKin hvar
    refine ⟨?_, ?_, ?_, ?_, ?_⟩
    · rw [hv 0]; show _ = some (Value.string (mkB [111, 112, 101, 110])); simpa using hc 0 _ rfl
    · rw [hv 1]; show _ = some (Value.string (mkB [109, 111, 118, 101])); simpa using hc 1 _ rfl
    · rw [hv 2]; show _ = some (Value.string (mkB [102, 120])); simpa using hc 2 _ rfl
    · rw [hv 3]; show _ = some (Value.string (mkB [115, 99, 111, 112, 101])); simpa using hc 3 _ rfl
    · rw [hv 4]; show _ = some (Value.string (mkB [99, 108, 111, 115, 101])); simpa using hc 4 _ rfl
end Go.Proofs.YticdmlijacnjbaaGreatDoor.Un
