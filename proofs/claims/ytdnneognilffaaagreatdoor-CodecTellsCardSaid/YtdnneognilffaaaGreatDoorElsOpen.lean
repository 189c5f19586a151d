
/- Elements of k cells, and slices of them, that came in, as the walks take them; a table of texts that is listed, cell for cell. Over any program. -/
import Derived.Test.YtdnneognilffaaaGreatDoorEls
import Derived.Test.YtdnneognilffaaaGreatDoorOpen
import Derived.Test.YtdnneognilffaaaGreatDoorLexOpen
import Derived.ProofKit
import Derived.LaidMore
import Derived.OpenShut
import Derived.Stop.Joined
import Derived.Stop.LaidErr
import Derived.Lib.LaidTab
import Derived.Deep.Fields
import Derived.Deep.Slices
namespace Go.Proofs.YtdnneognilffaaaGreatDoor
open Go.ChangeShapes Go.WideShapes Go.ChangeAt Go.RowKit Go.Deep

section
variable {H : Type} {enc : TypeId × Value → H} {P : Program} {W : World} {base : Nat} {sp : Nat → Bool} {held : Bool}
/-- A struct that came in, whose cells are an element's. -/
theorem el_open {α : Type} {E : Enc α} {r : Reach} {b0 : Nat} {e : TypeId} {fs : Array Field} {v : Value} {d : DataW H} {p : List MemPlace} (he : P.underlying e = some (.struct fs))
    (hcells : ∀ fuel cs x, DataW.trod enc P W base sp held fuel e cs = some x → ∃ a : α, cs = E.cs a)
    (hv : Value.okWide P W r b0 e v) (h : DataW.Trod enc P W base sp held e v d p) : ∃ a : α, v = .agg (E.cs a).toArray := by
  obtain ⟨cs, rfl, _⟩ := okWide_struct he hv
  obtain ⟨fuel, hf⟩ := h
  obtain ⟨a, ha⟩ := hcells _ _ _ hf
  refine ⟨a, ?_⟩
  have : cs.toList = E.cs a := by simpa [Value.cells] using ha
  rw [← this]
/-- A slice of such that came in. -/
theorem els_open {α : Type} {E : Enc α} {t e : TypeId} {a : Option Addr} {n c : Nat} {d : DataW H} {p : List MemPlace} (z : α) (ht : P.underlying t = some (.slice e)) (hC : P.cellsOf e = E.k)
    (hcells : ∀ fuel cs x, DataW.trod enc P W base sp held fuel e cs = some x → ∃ a : α, cs = E.cs a)
    (h : DataW.Trod enc P W base sp held t (.slice a n c) d p) : ∃ L, ElsV E W (.slice a n c) L := by
  obtain ⟨fuel, hf⟩ := h
  rcases Go.Deep.open_slice ht hf with ⟨hcs, _⟩ | ⟨ad, len, cap, m, k, D, Pl, hcs, _, hl, hm, hmm, _, hi⟩
  · simp [Value.cells] at hcs
    obtain ⟨rfl, rfl, rfl⟩ := hcs
    exact ⟨[], ElsV.nil W⟩
  · simp [Value.cells] at hcs
    obtain ⟨rfl, rfl, rfl⟩ := hcs
    have hlm : n ≤ m := by rw [hmm]; split <;> omega
    clear hmm
    rw [hC] at hi
    have each : ∀ i, i < n → ∃ x : α, ∀ j v, (E.cs x)[j]? = some v → W.cell? ((ad.add (i * E.k)).add j) = some v := fun i hin => by
      obtain ⟨cs', hcc, ht'⟩ := hi i (by omega)
      obtain ⟨x, hx⟩ := hcells _ _ _ ht'
      obtain ⟨_, hlen, hat⟩ := World.cells?_some hcc
      refine ⟨x, fun j v hj => ?_⟩
      have hjk : j < E.k := by rw [← E.len x]; exact (List.getElem?_eq_some_iff.1 hj).1
      rw [hat j hjk, hx, hj]
    haveI : Inhabited α := ⟨z⟩
    obtain ⟨F, hF⟩ := Go.Deep.choose_lt each
    refine ⟨(List.range n).map F, some ad, c, by simp, by simpa using hl, hm, (fun e => by cases e), fun i x hx => ?_⟩
    have hin : i < n := by
      have := (List.getElem?_eq_some_iff.1 hx).1
      simpa using this
    have hx' : x = F i := by
      rw [List.getElem?_map, List.getElem?_range hin] at hx
      simpa using hx.symm
    subst hx'
    have h0 := hF i hin
    obtain ⟨b, o, s⟩ := ad
    have hs : s = none := by
      have hp : 0 < (E.cs (F 0)).length := by rw [E.len]; exact E.pos
      have h00 := World.cell?_spot (hF 0 (by omega) 0 _ (List.getElem?_eq_getElem hp))
      simpa [Addr.add] using h00
    subst hs
    exact ⟨b, o, rfl, fun j v hj => by have := h0 j v hj; rwa [add_off, add_off] at this⟩
end
/-- An array of texts that reads as these holds them, cell for cell. -/
theorem cells_of_texts {H : Type} {enc : TypeId × Value → H} {P : Program} {w : World} {base : Nat} {sp : Nat → Bool} {held : Bool} {fuel : Nat} {t e : TypeId} {n : Nat} {cs : List Value} {zs : List (List UInt8)} {p : List MemPlace}
    (ht : P.underlying t = some (.array n e)) (he : P.underlying e = some .string) (hce : P.cellsOf e = 1) (hct : P.cellsOf t = n)
    (h : DataW.trod enc P w base sp held fuel t cs = some (.agg (zs.map fun z => .lit (.string z)), p)) : ∀ (i : Nat) z, zs[i]? = some z → cs[i]? = some (.string (mkB z)) := by
  cases fuel with
  | zero => simp [DataW.trod] at h
  | succ fuel =>
    simp only [DataW.trod, ht, hce, hct, Nat.mul_one] at h
    split at h
    · obtain ⟨xs, hm, hx⟩ := Option.map_eq_some_iff.1 h
      have hxs : xs.map (·.1) = zs.map fun z => (DataW.lit (.string z) : DataW H) := by simpa using congrArg Prod.fst hx
      have hxl : xs.length = n := by simpa using Lib.mapM_length hm
      have hzl : zs.length = n := by
        have := congrArg List.length hxs
        simp at this
        omega
      intro i z hz
      have hi : i < n := by rw [← hzl]; exact (List.getElem?_eq_some_iff.1 hz).1
      obtain ⟨b, hb, hf⟩ := Lib.mapM_at hm i i (by simp [hi])
      obtain ⟨s, hc, rfl, _⟩ := DataW.trod_string he hf
      have h1 : cs[i]? = some (.string s) := by
        have := congrArg (·[0]?) hc
        simpa [List.getElem?_take, List.getElem?_drop] using this
      have h2 : (xs.map (·.1))[i]? = some (DataW.lit (.string s.data.toList) : DataW H) := by simp [hb]
      rw [hxs] at h2
      simp only [List.getElem?_map, hz, Option.map_some, Option.some.injEq, DataW.lit.injEq, Lit.string.injEq] at h2
      rw [h1, h2, mkB_list]
    · cases h
end Go.Proofs.YtdnneognilffaaaGreatDoor
