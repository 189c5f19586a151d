
/- Maps by texts: their keys. -/
import Derived.Test.YtkacidoflmbjkaaDoorLexPlain
import Derived.Test.YtkacidoflmbjkaaDoorProg
import Derived.Maps.RangeWalk
import Derived.Maps.OwnSet
import Derived.Maps.OwnOps
import Derived.Maps.Own
import Derived.Maps.Ext
import Derived.StringKeys
namespace Go.Proofs.YtkacidoflmbjkaaDoor
open Go.RowKit Go.Maps

theorem data_inj {x y : ByteArray} (h : x.data.toList = y.data.toList) : x = y := by rw [← mkB_list x, h, mkB_list]
/-- The key of a code. -/
def kS (s : ByteArray) : Lit := .string s.data.toList
theorem kS_inj {x y : ByteArray} (h : kS x = kS y) : x = y := data_inj (by unfold kS at h; simpa using h)
theorem kS_key (s : ByteArray) : WideAt.IsKeyLit (kS s) := trivial
theorem law9 : Keyed Tryd.prog 9 := string_keyed Tryd.underlying9
theorem invK (key : Value) (kl : Lit) (h : keyOf Tryd.prog 9 key = some kl) : ∃ s : ByteArray, key = .string s := by
  obtain ⟨s, e, _⟩ := WideMaps.string_of_keyOf Tryd.underlying9 h
  exact ⟨s, e⟩
theorem keyS {s : ByteArray} {kl : Lit} (h : keyOf Tryd.prog 9 (.string s) = some kl) : kl = kS s := by
  obtain ⟨t, e, e', _⟩ := WideMaps.string_of_keyOf Tryd.underlying9 h
  cases e; exact e'
end Go.Proofs.YtkacidoflmbjkaaDoor
