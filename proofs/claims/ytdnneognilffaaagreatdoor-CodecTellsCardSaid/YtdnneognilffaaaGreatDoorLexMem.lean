
/- Slices of texts, and of lines (a number and a slice of texts), in memory, over any program: how they read, what keeps them, and rows of them that the call itself owns. -/
import Derived.Test.YtdnneognilffaaaGreatDoorLexPlain
import Derived.Test.YtdnneognilffaaaGreatDoorMem
import Derived.RangeFuncBox
namespace Go.Proofs.YtdnneognilffaaaGreatDoor
open Go.RowKit

/-- In the world w the slice value v reads as the texts ws. -/
def StrsV (w : World) (v : Value) (ws : List ByteArray) : Prop :=
  ∃ a c, v = .slice a ws.length c ∧ ws.length ≤ c ∧ ws.length ≤ maxLen ∧ ∀ i x, ws[i]? = some x → ∃ b o, a = some ⟨b, o, none⟩ ∧ w.cell? ⟨b, o + i, none⟩ = some (.string x)
/-- In the world w the slice value v reads as the lines L. -/
def LinesV (w : World) (v : Value) (L : List (Int × List ByteArray)) : Prop :=
  ∃ a c, v = .slice a L.length c ∧ L.length ≤ maxLen ∧ ∀ i x, L[i]? = some x → ∃ b o u, a = some ⟨b, o, none⟩ ∧ w.cell? ⟨b, o + i * 2, none⟩ = some (.int .i64 x.1) ∧ w.cell? ⟨b, o + i * 2 + 1, none⟩ = some u ∧ StrsV w u x.2
theorem StrsV.nil (w : World) : StrsV w (.slice none 0 0) [] := ⟨none, 0, rfl, by simp, by simp, fun i x h => by simp at h⟩
theorem LinesV.nil (w : World) : LinesV w (.slice none 0 0) [] := ⟨none, 0, rfl, by simp, fun i x h => by simp at h⟩
theorem StrsV.keep {w w' : World} {v : Value} {ws : List ByteArray} (h : StrsV w v ws) (hb : Below w.heap.size w w') : StrsV w' v ws := by
  obtain ⟨a, c, e, h1, h2, hc⟩ := h
  exact ⟨a, c, e, h1, h2, fun i x hx => by
    obtain ⟨b, o, ea, hx'⟩ := hc i x hx
    exact ⟨b, o, ea, (hb.cell (World.block_lt_of_cell? w _ hx')).trans hx'⟩⟩
theorem LinesV.keep {w w' : World} {v : Value} {L : List (Int × List ByteArray)} (h : LinesV w v L) (hb : Below w.heap.size w w') : LinesV w' v L := by
  obtain ⟨a, c, e, h2, hc⟩ := h
  exact ⟨a, c, e, h2, fun i x hx => by
    obtain ⟨b, o, u, ea, h3, h4, h5⟩ := hc i x hx
    exact ⟨b, o, u, ea, (hb.cell (World.block_lt_of_cell? w _ h3)).trans h3, (hb.cell (World.block_lt_of_cell? w _ h4)).trans h4, h5.keep hb⟩⟩
theorem add_off (b o i : Nat) : (⟨b, o, none⟩ : Addr).add i = ⟨b, o + i, none⟩ := by
  by_cases h0 : i = 0
  · subst h0; simp [Addr.add]
  · simp [Addr.add, h0]

/-- The cells of lines. -/
def flatL (LV : List (Int × Value)) : List Value := LV.flatMap fun x => [.int .i64 x.1, x.2]
theorem flatL_snoc (LV : List (Int × Value)) (n : Int) (u : Value) : flatL (LV ++ [(n, u)]) = flatL LV ++ [.int .i64 n, u] := by simp [flatL]
theorem flatL_length (LV : List (Int × Value)) : (flatL LV).length = LV.length * 2 := by
  induction LV with
  | nil => rfl
  | cons x r ih =>
    have e : flatL (x :: r) = .int .i64 x.1 :: x.2 :: flatL r := rfl
    rw [e]; simp; omega
theorem flatL_at : ∀ (LV : List (Int × Value)) (i : Nat) (x : Int × Value), LV[i]? = some x → (flatL LV)[i * 2]? = some (.int .i64 x.1) ∧ (flatL LV)[i * 2 + 1]? = some x.2
  | [], i, x, h => by simp at h
  | y :: r, 0, x, h => by
    simp at h
    subst h
    exact ⟨rfl, rfl⟩
  | y :: r, i + 1, x, h => by
    have ih := flatL_at r i x (by simpa using h)
    have e : flatL (y :: r) = .int .i64 y.1 :: y.2 :: flatL r := rfl
    rw [e, show (i + 1) * 2 = i * 2 + 1 + 1 by omega, show i * 2 + 1 + 1 + 1 = (i * 2 + 1) + 1 + 1 by omega]
    simpa using ih

/-- Rows of the call's own of unlike kinds do not lie in one block. -/
theorem row_apart {W : World} {B B' : Nat} {e e' : TypeId} {s s' : Nat} {v v' : Value} {n n' : Nat} {xs xs' : List Value} (h : W.ownsRow B e s v n xs) (h' : W.ownsRow B' e' s' v' n' xs') (hne : e ≠ e') : v'.ownBlock = none ∨ v'.ownBlock ≠ v.ownBlock := by
  rcases h'.2 with ⟨rfl, _⟩ | ⟨g', cap', cur', rfl, _, hg', _⟩
  · exact .inl rfl
  · refine .inr fun e0 => ?_
    rcases h.2 with ⟨rfl, _⟩ | ⟨g, cap, cur, rfl, _, hg, _⟩
    · simp [Value.ownBlock] at e0
    · obtain rfl : g' = g := by simpa [Value.ownBlock] using e0
      rw [hg] at hg'
      simp at hg'
      exact hne hg'.2
theorem row_uncells {X Y : World} {B : Nat} {e : TypeId} {s : Nat} {v : Value} {n : Nat} {xs : List Value} {row : Option Nat} (h : X.ownsRow B e s v n xs) (hg : X.grownBy Y row) (hr : ∀ r, row = some r → ∃ o : Obj, X.heap[r]? = some o ∧ o.isCells = false) : Y.ownsRow B e s v n xs := by
  refine h.kept hg ?_
  rcases h.2 with ⟨rfl, _⟩ | ⟨g, cap, cur, rfl, _, hgb, _⟩
  · exact .inl rfl
  · refine .inr fun e' => ?_
    obtain ⟨o, ho, hc⟩ := hr g (by simpa [Value.ownBlock] using e'.symm)
    rw [hgb] at ho; cases ho; cases hc
theorem row_below {X Y : World} {B : Nat} {e : TypeId} {s : Nat} {v : Value} {n : Nat} {xs : List Value} (h : X.ownsRow B e s v n xs) (hb : Below X.heap.size X Y) : Y.ownsRow B e s v n xs :=
  h.kept (row := none) ⟨hb.os, hb.tape, hb.output, hb.size, fun j hj _ => hb.block j hj⟩ (by
    cases v.ownBlock with
    | none => exact .inl rfl
    | some g => exact .inr (by simp))
theorem row_base {X : World} {B B' : Nat} {e : TypeId} {s : Nat} {v : Value} {n : Nat} {xs : List Value} (h : X.ownsRow B e s v n xs) (hB : B' ≤ B) : X.ownsRow B' e s v n xs := by
  refine ⟨h.1, ?_⟩
  rcases h.2 with h0 | ⟨g, cap, cur, hv, hb, rest⟩
  · exact .inl h0
  · exact .inr ⟨g, cap, cur, hv, by omega, rest⟩
theorem boxed_below {X Y : World} {B : Nat} {t : TypeId} {v : Value} (h : Boxed X B t v) (hb : Below X.heap.size X Y) : Boxed Y B t v := (hb.block B h.lt).trans h
theorem keepsFrom_below {X Y : World} (B : Nat) (hb : Below X.heap.size X Y) : KeepsFrom B X Y :=
  ⟨hb.size, fun k _ _ h _ => (hb.block k (Array.getElem?_eq_some_iff.1 h).1).trans h⟩
/-- Each line's words are a row of the call's own (of elements of the type e). -/
def WordsOwn (W : World) (B : Nat) (e : TypeId) (LV : List (Int × Value)) (L : List (Int × List ByteArray)) : Prop :=
  LV.length = L.length ∧ ∀ (i : Nat) (x : Int × Value) (y : Int × List ByteArray), LV[i]? = some x → L[i]? = some y → x.1 = y.1 ∧ W.ownsRow B e 1 x.2 y.2.length (y.2.map Value.string)
theorem WordsOwn.mono {W W' : World} {B : Nat} {e : TypeId} {LV : List (Int × Value)} {L : List (Int × List ByteArray)} (h : WordsOwn W B e LV L) (hk : ∀ (u : Value) (n : Nat) (xs : List Value), W.ownsRow B e 1 u n xs → W'.ownsRow B e 1 u n xs) : WordsOwn W' B e LV L :=
  ⟨h.1, fun i x y hx hy => ⟨(h.2 i x y hx hy).1, hk _ _ _ (h.2 i x y hx hy).2⟩⟩
theorem WordsOwn.nil (W : World) (B : Nat) (e : TypeId) : WordsOwn W B e [] [] := ⟨rfl, fun i x y h => by simp at h⟩
theorem WordsOwn.snoc {W : World} {B : Nat} {e : TypeId} {LV : List (Int × Value)} {L : List (Int × List ByteArray)} (h : WordsOwn W B e LV L) (n : Int) (u : Value) (ws : List ByteArray) (hu : W.ownsRow B e 1 u ws.length (ws.map Value.string)) : WordsOwn W B e (LV ++ [(n, u)]) (L ++ [(n, ws)]) := by
  refine ⟨by simp [h.1], fun i x y hx hy => ?_⟩
  by_cases hi : i < LV.length
  · rw [List.getElem?_append_left hi] at hx
    rw [List.getElem?_append_left (by rw [← h.1]; exact hi)] at hy
    exact h.2 i x y hx hy
  · have hi' : i = LV.length := by
      have := (List.getElem?_eq_some_iff.1 hx).1
      simp at this
      omega
    subst hi'
    simp at hx
    rw [h.1] at hy
    simp at hy
    subst hx hy
    exact ⟨rfl, hu⟩
/-- A row of texts of the call's own reads as they are. -/
theorem strs_of_own {W : World} {B : Nat} {e : TypeId} {u : Value} {ws : List ByteArray} (h : W.ownsRow B e 1 u ws.length (ws.map Value.string)) : StrsV W u ws := by
  have hw := h
  rcases h.2 with ⟨rfl, hn⟩ | ⟨g, cap, cur, rfl, _, _, hnc, hcm, _⟩
  · have : ws = [] := List.eq_nil_of_length_eq_zero hn
    subst this
    exact StrsV.nil W
  · refine ⟨_, cap, rfl, hnc, by omega, fun i x hx => ⟨g, 0, rfl, ?_⟩⟩
    have := hw.cells (g := g) rfl i (.string x) (by simp [hx])
    rwa [add_off] at this
/-- Each line's words read as they are told. -/
def WordsIn (W : World) (LV : List (Int × Value)) (L : List (Int × List ByteArray)) : Prop :=
  LV.length = L.length ∧ ∀ (i : Nat) (x : Int × Value) (y : Int × List ByteArray), LV[i]? = some x → L[i]? = some y → x.1 = y.1 ∧ StrsV W x.2 y.2
theorem WordsIn.nil (W : World) : WordsIn W [] [] := ⟨rfl, fun i x y h => by simp at h⟩
theorem WordsIn.keep {W W' : World} {LV : List (Int × Value)} {L : List (Int × List ByteArray)} (h : WordsIn W LV L) (hb : Below W.heap.size W W') : WordsIn W' LV L :=
  ⟨h.1, fun i x y hx hy => ⟨(h.2 i x y hx hy).1, (h.2 i x y hx hy).2.keep hb⟩⟩
theorem WordsIn.snoc {W : World} {LV : List (Int × Value)} {L : List (Int × List ByteArray)} (h : WordsIn W LV L) (n : Int) (u : Value) (ws : List ByteArray) (hu : StrsV W u ws) : WordsIn W (LV ++ [(n, u)]) (L ++ [(n, ws)]) := by
  refine ⟨by simp [h.1], fun i x y hx hy => ?_⟩
  by_cases hi : i < LV.length
  · rw [List.getElem?_append_left hi] at hx
    rw [List.getElem?_append_left (by rw [← h.1]; exact hi)] at hy
    exact h.2 i x y hx hy
  · have hi' : i = LV.length := by
      have := (List.getElem?_eq_some_iff.1 hx).1
      simp at this
      omega
    subst hi'
    simp at hx
    rw [h.1] at hy
    simp at hy
    subst hx hy
    exact ⟨rfl, hu⟩
theorem lines_of_in {W : World} {B : Nat} {e : TypeId} {v : Value} {LV : List (Int × Value)} {L : List (Int × List ByteArray)} (h : W.ownsRow B e 2 v LV.length (flatL LV)) (hw : WordsIn W LV L) : LinesV W v L := by
  have h0 := h
  rcases h.2 with ⟨rfl, hn⟩ | ⟨g, cap, cur, rfl, _, _, hnc, hcm, _⟩
  · have : L = [] := List.eq_nil_of_length_eq_zero (by rw [← hw.1]; exact hn)
    subst this
    exact LinesV.nil W
  · rw [hw.1]
    refine ⟨_, cap, rfl, by rw [← hw.1]; omega, fun i y hy => ?_⟩
    have hi : i < LV.length := by rw [hw.1]; exact (List.getElem?_eq_some_iff.1 hy).1
    have hx : LV[i]? = some LV[i] := List.getElem?_eq_getElem hi
    obtain ⟨e1, e2⟩ := hw.2 i _ y hx hy
    obtain ⟨f1, f2⟩ := flatL_at LV i _ hx
    have c1 := h0.cells (g := g) rfl _ _ f1
    have c2 := h0.cells (g := g) rfl _ _ f2
    rw [add_off] at c1 c2
    exact ⟨g, 0, _, rfl, by rw [← e1]; exact c1, by rw [Nat.add_assoc]; exact c2, e2⟩
theorem WordsOwn.isIn {W : World} {B : Nat} {e : TypeId} {LV : List (Int × Value)} {L : List (Int × List ByteArray)} (h : WordsOwn W B e LV L) : WordsIn W LV L :=
  ⟨h.1, fun i x y hx hy => ⟨(h.2 i x y hx hy).1, strs_of_own (h.2 i x y hx hy).2⟩⟩
/-- A slice of texts that was just laid. -/
theorem strs_new (w : World) (ws : List ByteArray) (t : TypeId) (hl : ws.length ≤ maxLen) : StrsV (w.alloc (.cells (ws.map Value.string).toArray t)) (.slice (some ⟨w.heap.size, 0, none⟩) ws.length ws.length) ws :=
  ⟨_, _, rfl, Nat.le_refl _, hl, fun i x hx => ⟨w.heap.size, 0, rfl, by
    rw [Nat.zero_add, cell_of_row _ w.heap.size i _ t (0, 0) (heap_alloc_new w _)]
    simp [hx]⟩⟩
theorem take_at {α : Type} (L : List α) (k : Nat) (h : k < L.length) : L.take (k + 1) = L.take k ++ [L[k]] := List.take_succ_eq_append_getElem h
end Go.Proofs.YtdnneognilffaaaGreatDoor
