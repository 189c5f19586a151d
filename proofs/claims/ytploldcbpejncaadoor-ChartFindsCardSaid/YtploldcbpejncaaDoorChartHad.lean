
/- A map of accounts by their codes beside a chart: how an account reads as an element; what is the same in both; what keeps them. -/
import Derived.Test.YtploldcbpejncaaDoorChartOwnLaw
import Derived.Maps.RangeWalk
import Derived.Maps.OwnSet
import Derived.Maps.OwnOps
import Derived.Maps.Own
import Derived.StringKeys
namespace Go.Proofs.YtploldcbpejncaaDoor
open Go.RowKit Go.Maps

/-- An account as a datum, and how a value reads as one. -/
def dA (a : Acct) : DataW Unit := .agg [.lit (.string a.code.data.toList), .lit (.int .i64 a.cls), .lit (.bool a.cash), .lit (.bool a.both), .lit (.string a.fixed.data.toList), .lit (.bool a.worn)]
def RA : Value → Option (DataW Unit × List MemPlace)
  | .agg ⟨[.string co, .int .i64 cl, .bool ca, .bool mu, .string fi, .bool wo]⟩ => some (dA ⟨co, cl, ca, mu, fi, wo⟩, [])
  | _ => none
theorem RA_mk (a : Acct) : RA (aggF a) = some (dA a, []) := rfl
theorem RA_inv {v : Value} {y : DataW Unit × List MemPlace} (h : RA v = some y) : ∃ a : Acct, v = aggF a ∧ y = (dA a, []) := by
  unfold RA at h
  split at h
  · cases h; exact ⟨⟨_, _, _, _, _, _⟩, rfl, rfl⟩
  · cases h
theorem data_inj {x y : ByteArray} (h : x.data.toList = y.data.toList) : x = y := by rw [← mkB_list x, h, mkB_list]
theorem dA_inj {a b : Acct} (h : dA a = dA b) : a = b := by
  unfold dA at h
  simp only [DataW.agg.injEq, List.cons.injEq, DataW.lit.injEq, Lit.string.injEq, Lit.int.injEq, Lit.bool.injEq, true_and, and_true] at h
  obtain ⟨h0, h1, h2, h3, h4, h5⟩ := h
  exact Acct.ext' (data_inj h0) h1 h2 h3 (data_inj h4) h5
/-- The key of a code. -/
def kS (s : ByteArray) : Lit := .string s.data.toList
theorem kS_inj {x y : ByteArray} (h : kS x = kS y) : x = y := data_inj (by unfold kS at h; simpa using h)
theorem kS_key (s : ByteArray) : WideAt.IsKeyLit (kS s) := trivial
/-- The chart and the map hold the same. -/
structure Agr (A : List Acct) (D : DataW Unit) : Prop where
  has : ∀ s, Maps.has D (kS s) = (findL A s).isSome
  val : ∀ s x, findL A s = some x → ∀ z, D.atKey (kS s) z = dA x
  size : Maps.size D = A.length
theorem Agr.nil : Agr [] (.map []) := ⟨fun _ => rfl, (fun s x h => by cases h), rfl⟩
theorem Agr.put {A : List Acct} {D : DataW Unit} (h : Agr A D) (ht : Tidy D) (x : Acct) (hn : findL A x.code = none) : Agr (insL A x) (D.put (kS x.code) (dA x)) := by
  refine ⟨fun s => ?_, fun s y hy z => ?_, ?_⟩
  · rw [find_ins A x s hn]
    by_cases e : x.code = s
    · subst e; rw [has_put_same ht.isMap (kS_key _)]; simp
    · rw [has_put_other (fun e' => e (kS_inj e').symm), h.has, if_neg e]
  · rw [find_ins A x s hn] at hy
    by_cases e : x.code = s
    · subst e; rw [if_pos rfl] at hy; cases hy; exact atKey_put_same ht.isMap (kS_key _) _ _
    · rw [if_neg e] at hy; rw [atKey_put_other (fun e' => e (kS_inj e').symm)]; exact h.val s y hy z
  · rw [size_put ht, h.has, hn, insL_length, h.size]; rfl
theorem law9 : Keyed Tryd.prog 9 := string_keyed Tryd.underlying9
theorem zero23 (w : World) : (zeroValue 23).run Tryd.prog w = .ok (aggF zeroA) w := by kernel_rfl
abbrev Had (w : World) (b n : Nat) (D : DataW Unit) : Prop := w.ownsMap Tryd.prog 9 RA b n D
theorem Had.below {w w' : World} {b n : Nat} {D : DataW Unit} (h : Had w b n D) (hb : Below w.heap.size w w') : Had w' b n D :=
  World.ownsMap.kept h (row := none) ⟨hb.os, hb.tape, hb.output, hb.size, fun j hj _ => hb.block j hj⟩ (by simp)
theorem Had.drewN {w : World} {b n : Nat} {D : DataW Unit} (h : Had w b n D) (q : Nat) : Had (w.drewN q) b n D := h
theorem Had.block {w : World} {b n : Nat} {D : DataW Unit} (h : Had w b n D) (o : Nat) (v : Value) : w.cell? ⟨b, o, none⟩ ≠ some v := by
  obtain ⟨es, c, hh, _⟩ := h
  simp [World.cell?, hh]
/-- What is written into the map leaves accounts as they are. -/
theorem AcctAt.beside {w w' : World} {b o g n : Nat} {D : DataW Unit} {a : Acct} (h : AcctAt w b o a) (hm : Had w g n D) (hg : w.grownBy w' (some g)) : AcctAt w' b o a := by
  have hne : some b ≠ some g := fun e => by cases e; exact hm.block _ _ h.c0
  exact ⟨hg.cell h.c0 hne, hg.cell h.c1 hne, hg.cell h.c2 hne, hg.cell h.c3 hne, hg.cell h.c4 hne, hg.cell h.c5 hne⟩
theorem ChartV.beside {w w' : World} {g n : Nat} {D : DataW Unit} {v : Value} {L : List Acct} (h : ChartV w v L) (hm : Had w g n D) (hg : w.grownBy w' (some g)) : ChartV w' v L := by
  obtain ⟨p, c, e, h1, h2, h3, hc⟩ := h
  exact ⟨p, c, e, h1, h2, h3, fun i x hx => by
    obtain ⟨b, o, e', hat⟩ := hc i x hx
    exact ⟨b, o, e', hat.beside hm hg⟩⟩
theorem rangesBelow {w w' : World} {b r n cnt : Nat} {D : DataW Unit} {left : Lit → Bool} (h : w.ranges Tryd.prog 9 RA b r n D left cnt) (hb : Below w.heap.size w w') : w'.ranges Tryd.prog 9 RA b r n D left cnt :=
  h.kept (row := none) ⟨hb.os, hb.tape, hb.output, hb.size, fun j hj _ => hb.block j hj⟩ (by simp) (by simp)
theorem invK (key : Value) (kl : Lit) (h : keyOf Tryd.prog 9 key = some kl) : ∃ s : ByteArray, key = .string s := by
  obtain ⟨s, e, _⟩ := WideMaps.string_of_keyOf Tryd.underlying9 h
  exact ⟨s, e⟩
theorem keyS {s : ByteArray} {kl : Lit} (h : keyOf Tryd.prog 9 (.string s) = some kl) : kl = kS s := by
  obtain ⟨t, e, e', _⟩ := WideMaps.string_of_keyOf Tryd.underlying9 h
  cases e; exact e'
theorem invV (v : Value) (y : DataW Unit × List MemPlace) (h : RA v = some y) : ∃ a : Acct, v = aggF a := (RA_inv h).imp fun _ h => h.1
end Go.Proofs.YtploldcbpejncaaDoor
