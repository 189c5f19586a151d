
/- Accounts, and slices of them, that came in, as the walks take them; from the listed variable to what the walks ask; and that the program's own start meets the list. -/
import Derived.Test.YtploldcbpejncaaDoorRows
import Derived.Test.YtploldcbpejncaaDoorChartLaid
import Derived.Test.YtploldcbpejncaaDoorOpen
import Derived.Test.YtploldcbpejncaaDoorLexOpen
import Derived.ProofKit
import Derived.LaidMore
import Derived.OpenShut
import Derived.Stop.Joined
import Derived.Stop.LaidErr
import Derived.Lib.LaidTab
import Derived.Deep.Fields
import Derived.Deep.Slices
namespace Go.Proofs.YtploldcbpejncaaDoor
open Go.ChangeShapes Go.WideShapes Go.ChangeAt Go.RowKit Go.Deep

section
variable {H : Type} {enc : TypeId × Value → H} {P : Program} {W : World} {base : Nat} {sp : Nat → Bool} {held : Bool}
/-- Six cells that read as an account's fields are an account's. -/
theorem acct_cells_open {e : TypeId} {f0 f1 f2 f3 f4 f5 : Field} {fuel : Nat} {cs : List Value} {x : DataW H × List MemPlace} (he : P.underlying e = some (.struct #[f0, f1, f2, f3, f4, f5])) (hone : oneCellFields P #[f0, f1, f2, f3, f4, f5] = true) (hC : P.cellsOf e = 6)
    (u0 : P.underlying f0.type = some .string) (u1 : P.underlying f1.type = some (.int .i64)) (u2 : P.underlying f2.type = some .bool) (u3 : P.underlying f3.type = some .bool) (u4 : P.underlying f4.type = some .string) (u5 : P.underlying f5.type = some .bool)
    (h : DataW.trod enc P W base sp held fuel e cs = some x) : ∃ a : Acct, cs = a.cells ∧ (a.code.size ≤ maxLen ∧ a.fixed.size ≤ maxLen ∧ In64 a.cls) := by
  obtain ⟨xs, n, _, _, hl, hxl, hg⟩ := DataW.trod_struct he h
  obtain ⟨o0, k0⟩ := hone_of hone 0 f0 rfl
  obtain ⟨o1, k1⟩ := hone_of hone 1 f1 rfl
  obtain ⟨o2, k2⟩ := hone_of hone 2 f2 rfl
  obtain ⟨o3, k3⟩ := hone_of hone 3 f3 rfl
  obtain ⟨o4, k4⟩ := hone_of hone 4 f4 rfl
  obtain ⟨o5, k5⟩ := hone_of hone 5 f5 rfl
  match cs, hl.trans hC, xs, hxl with
  | [c0, c1, c2, c3, c4, c5], _, [y0, y1, y2, y3, y4, y5], _ =>
    have g0 := hg 0 f0 rfl
    have g1 := hg 1 f1 rfl
    have g2 := hg 2 f2 rfl
    have g3 := hg 3 f3 rfl
    have g4 := hg 4 f4 rfl
    have g5 := hg 5 f5 rfl
    simp [o0, k0] at g0
    simp [o1, k1] at g1
    simp [o2, k2] at g2
    simp [o3, k3] at g3
    simp [o4, k4] at g4
    simp [o5, k5] at g5
    obtain ⟨s0, e0, _, z0⟩ := DataW.trod_string u0 g0
    obtain ⟨i1, e1, _, z1⟩ := DataW.trod_int u1 g1
    obtain ⟨b2, e2, _⟩ := DataW.trod_bool u2 g2
    obtain ⟨b3, e3, _⟩ := DataW.trod_bool u3 g3
    obtain ⟨s4, e4, _, z4⟩ := DataW.trod_string u4 g4
    obtain ⟨b5, e5, _⟩ := DataW.trod_bool u5 g5
    simp at e0 e1 e2 e3 e4 e5
    subst e0 e1 e2 e3 e4 e5
    exact ⟨⟨s0, i1, b2, b3, s4, b5⟩, rfl, z0, z4, in_of_wf_i64 z1⟩
theorem acct_open {r : Reach} {b0 : Nat} {e : TypeId} {f0 f1 f2 f3 f4 f5 : Field} {v : Value} {d : DataW H} {p : List MemPlace} (he : P.underlying e = some (.struct #[f0, f1, f2, f3, f4, f5])) (hone : oneCellFields P #[f0, f1, f2, f3, f4, f5] = true) (hC : P.cellsOf e = 6)
    (u0 : P.underlying f0.type = some .string) (u1 : P.underlying f1.type = some (.int .i64)) (u2 : P.underlying f2.type = some .bool) (u3 : P.underlying f3.type = some .bool) (u4 : P.underlying f4.type = some .string) (u5 : P.underlying f5.type = some .bool)
    (hv : Value.okWide P W r b0 e v) (h : DataW.Trod enc P W base sp held e v d p) : ∃ a : Acct, v = aggF a := by
  obtain ⟨cs, rfl, _⟩ := okWide_struct he hv
  obtain ⟨fuel, hf⟩ := h
  obtain ⟨a, ha, _⟩ := acct_cells_open he hone hC u0 u1 u2 u3 u4 u5 hf
  refine ⟨a, ?_⟩
  have : cs.toList = a.cells := by simpa [Value.cells] using ha
  obtain ⟨l⟩ := cs
  simp at this
  subst this
  rfl
theorem chart_open {t e : TypeId} {f0 f1 f2 f3 f4 f5 : Field} {a : Option Addr} {n c : Nat} {d : DataW H} {p : List MemPlace} (ht : P.underlying t = some (.slice e)) (he : P.underlying e = some (.struct #[f0, f1, f2, f3, f4, f5])) (hone : oneCellFields P #[f0, f1, f2, f3, f4, f5] = true) (hC : P.cellsOf e = 6)
    (u0 : P.underlying f0.type = some .string) (u1 : P.underlying f1.type = some (.int .i64)) (u2 : P.underlying f2.type = some .bool) (u3 : P.underlying f3.type = some .bool) (u4 : P.underlying f4.type = some .string) (u5 : P.underlying f5.type = some .bool)
    (h : DataW.Trod enc P W base sp held t (.slice a n c) d p) : ∃ L, ChartV W (.slice a n c) L := by
  obtain ⟨fuel, hf⟩ := h
  rcases Go.Deep.open_slice ht hf with ⟨hcs, _⟩ | ⟨ad, len, cap, m, k, D, Pl, hcs, _, hl, hm, hmm, _, hi⟩
  · simp [Value.cells] at hcs
    obtain ⟨rfl, rfl, rfl⟩ := hcs
    exact ⟨[], ChartV.nil W⟩
  · simp [Value.cells] at hcs
    obtain ⟨rfl, rfl, rfl⟩ := hcs
    have hlm : n ≤ m := by rw [hmm]; split <;> omega
    clear hmm
    rw [hC] at hi
    have each : ∀ i, i < n → ∃ x : Acct, ∀ j v, x.cells[j]? = some v → W.cell? ((ad.add (i * 6)).add j) = some v := fun i hin => by
      obtain ⟨cs', hcc, ht'⟩ := hi i (by omega)
      obtain ⟨x, hx, _⟩ := acct_cells_open he hone hC u0 u1 u2 u3 u4 u5 ht'
      obtain ⟨_, hlen, hat⟩ := World.cells?_some hcc
      refine ⟨x, fun j v hj => ?_⟩
      have hj6 : j < 6 := (List.getElem?_eq_some_iff.1 hj).1
      rw [hat j hj6, hx, hj]
    haveI : Inhabited Acct := ⟨zeroA⟩
    obtain ⟨F, hF⟩ := Go.Deep.choose_lt each
    refine ⟨(List.range n).map F, some ad, c, by simp, by simpa using hl, hm, (fun e => by cases e), fun i x hx => ?_⟩
    have hin : i < n := by
      have := (List.getElem?_eq_some_iff.1 hx).1
      simpa using this
    have hx' : x = F i := by
      rw [List.getElem?_map, List.getElem?_range hin] at hx
      simpa using hx.symm
    subst hx'
    have h0 := hF i hin
    obtain ⟨b, o, s⟩ := ad
    have hs : s = none := by
      have h00 := World.cell?_spot (hF 0 (by omega) 0 _ rfl)
      simpa [Addr.add] using h00
    subst hs
    exact ⟨b, o, rfl, acct_of fun j v hj => by have := h0 j v hj; rwa [add_off, add_off] at this⟩
end
theorem own : ownKnob Tryd.prog.godebug = none := by kernel_rfl
/-- What the rows list. -/
abbrev listed : List (String × DataW Unit) := Rows.chartWordsRow.laid
theorem door_met (os : Os) (args : Array Value) : laidMetH Tryd.prog listed ((World.doorLaid Tryd.prog 400 os).forCall (fun _ _ => 0) ⟨#[], args, []⟩).memory :=
  laidMetH_of_parts3 (fuel := 8) (laidMet_of_run' 8 (by kernel_rfl) (by kernel_rfl)) (by kernel_rfl) (by kernel_rfl)
/-- An array of texts that reads as these holds them, cell for cell. -/
theorem cells_of_texts {H : Type} {enc : TypeId × Value → H} {P : Program} {w : World} {base : Nat} {sp : Nat → Bool} {held : Bool} {fuel : Nat} {t e : TypeId} {n : Nat} {cs : List Value} {zs : List (List UInt8)} {p : List MemPlace}
    (ht : P.underlying t = some (.array n e)) (he : P.underlying e = some .string) (hce : P.cellsOf e = 1) (hct : P.cellsOf t = n)
    (h : DataW.trod enc P w base sp held fuel t cs = some (.agg (zs.map fun z => .lit (.string z)), p)) : ∀ (i : Nat) z, zs[i]? = some z → cs[i]? = some (.string (mkB z)) := by
  cases fuel with
  | zero => simp [DataW.trod] at h
  | succ fuel =>
    simp only [DataW.trod, ht, hce, hct, Nat.mul_one] at h
    split at h
    · obtain ⟨xs, hm, hx⟩ := Option.map_eq_some_iff.1 h
      have hxs : xs.map (·.1) = zs.map fun z => (DataW.lit (.string z) : DataW H) := by simpa using congrArg Prod.fst hx
      have hxl : xs.length = n := by simpa using Lib.mapM_length hm
      have hzl : zs.length = n := by
        have := congrArg List.length hxs
        simp at this
        omega
      intro i z hz
      have hi : i < n := by rw [← hzl]; exact (List.getElem?_eq_some_iff.1 hz).1
      obtain ⟨b, hb, hf⟩ := Lib.mapM_at hm i i (by simp [hi])
      obtain ⟨s, hc, rfl, _⟩ := DataW.trod_string he hf
      have h1 : cs[i]? = some (.string s) := by
        have := congrArg (·[0]?) hc
        simpa [List.getElem?_take, List.getElem?_drop] using this
      have h2 : (xs.map (·.1))[i]? = some (DataW.lit (.string s.data.toList) : DataW H) := by simp [hb]
      rw [hxs] at h2
      simp only [List.getElem?_map, hz, Option.map_some, Option.some.injEq, DataW.lit.injEq, Lit.string.injEq] at h2
      rw [h1, h2, mkB_list]
    · cases h
theorem gCls : Tryd.prog.globalNamed "comptroller/chart.classWords" = some 0 := by kernel_rfl
theorem tCls : (Tryd.prog.globals[0]?).map (·.type) = some 58 := by kernel_rfl
theorem cCls : Tryd.prog.cellsOf 58 = 3 := by kernel_rfl
theorem cStr : Tryd.prog.cellsOf 9 = 1 := by kernel_rfl
theorem of_laid {W : World} (h : laidMetH Tryd.prog listed W) : Laid W := by
  rw [MakeChecks.laidMetH_plain _ _ _ (by kernel_rfl)] at h
  have h3 : laidMet Tryd.prog [("comptroller/chart.classWords", .agg ([[97, 115, 115, 101, 116], [108, 105, 97, 98, 105, 108, 105, 116, 121], [101, 113, 117, 105, 116, 121]].map fun z => .lit (.string z)))] W := h
  obtain ⟨ps, ⟨g', t', cs, fuel, p, q, hg', ht', hvar, hd, _, _⟩, _⟩ := h3
  obtain rfl := Option.some.inj (gCls.symm.trans hg')
  obtain rfl := Option.some.inj (tCls.symm.trans ht')
  have hc := cells_of_texts Tryd.underlying58 Tryd.underlying9 cStr cCls hd
  have hv := World.var?_cell gCls hvar
  refine ⟨?_, ?_, ?_⟩
  · rw [hv 0]; show _ = some (Value.string (mkB [97, 115, 115, 101, 116])); simpa using hc 0 _ rfl
  · rw [hv 1]; show _ = some (Value.string (mkB [108, 105, 97, 98, 105, 108, 105, 116, 121])); simpa using hc 1 _ rfl
  · rw [hv 2]; show _ = some (Value.string (mkB [101, 113, 117, 105, 116, 121])); simpa using hc 2 _ rfl
end Go.Proofs.YtploldcbpejncaaDoor
