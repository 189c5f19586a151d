/- Mem; LexMem; Els; FlowPlain: texts put together (each begins with what it is). -/
import Derived.WalkKit
import Derived.WalkSpells
import Derived.Lib.Hide
import Derived.Laws.AppendOwnNone
import Derived.Test.YticdmlijacnjbaaGreatDoorM01
import Derived.RangeFuncBox
import Derived.Laws.Tables
import Derived.Deep.Draws
import Derived.Deep.WholeRow
import Derived.Test.YticdmlijacnjbaaGreatDoorM02
/- Words for slices of integers in memory, over any program: a slice value that reads as a list of integers; a row that the call itself owns; what an append onto such a row leaves. -/
namespace Go.Proofs.YticdmlijacnjbaaGreatDoor
open Go.RowKit

/-- In the world w the slice value v reads as the integers l (of the kind k): it is nil, and l is empty, or it leads to these cells. -/
def RowV (k : IntKind) (w : World) (v : Value) (l : List Int) : Prop :=
  (v = .slice none 0 0 ∧ l = []) ∨
  ∃ b o c, v = .slice (some ⟨b, o, none⟩) l.length c ∧ l.length ≤ maxLen ∧ ∀ i, i < l.length → w.cell? ⟨b, o + i, none⟩ = some (.int k (l.getD i 0))

/-- The call itself owns the slice value v, from block B on: it holds the integers l. -/
def OwnI (k : IntKind) (w : World) (B : Nat) (e : TypeId) (v : Value) (l : List Int) : Prop := w.ownsRow B e 1 v l.length (l.map (Value.int k))

theorem getD_map (k : IntKind) (l : List Int) (i : Nat) (h : i < l.length) : (l.map (Value.int k))[i]? = some (.int k (l.getD i 0)) := by
  simp [List.getD, h]
theorem OwnI.nil (k : IntKind) (w : World) (B : Nat) (e : TypeId) : OwnI k w B e (.slice none 0 0) [] := World.ownsRow_nil _ _ _ _
theorem OwnI.row {k : IntKind} {w : World} {B : Nat} {e : TypeId} {v : Value} {l : List Int} (h : OwnI k w B e v l) : RowV k w v l := by
  rcases h.2 with ⟨rfl, hn⟩ | ⟨g, cap, cur, rfl, _, _, hnc, hcm, _⟩
  · exact .inl ⟨rfl, List.eq_nil_of_length_eq_zero hn⟩
  · refine .inr ⟨g, 0, cap, rfl, by omega, fun i hi => ?_⟩
    have := h.cells (g := g) rfl i _ (getD_map k l i hi)
    by_cases h0 : i = 0
    · subst h0; simpa [Addr.add] using this
    · simpa [Addr.add, h0] using this
theorem RowV.keep {k : IntKind} {w w' : World} {B : Nat} {v : Value} {l : List Int} (h : RowV k w v l) (hb : Below B w w') (hB : w.heap.size ≤ B) : RowV k w' v l := by
  rcases h with h | ⟨b, o, c, e, hm, hc⟩
  · exact .inl h
  · exact .inr ⟨b, o, c, e, hm, fun i hi => by
      have h1 := hc i hi
      exact (hb.cell (Nat.lt_of_lt_of_le (World.block_lt_of_cell? w _ h1) hB)).trans h1⟩

theorem OwnI.alloc {k : IntKind} {w : World} {B : Nat} {e : TypeId} {v : Value} {l : List Int} (h : OwnI k w B e v l) (o : Obj) : OwnI k (w.alloc o) B e v l := World.ownsRow.alloc h o
/-- The row of one that 'append(s, x)' lays. -/
theorem rowV_one (k : IntKind) (w : World) (x : Int) (t : TypeId) : RowV k (w.alloc (.cells #[.int k x] t)) (.slice (some ⟨w.heap.size, 0, none⟩) 1 1) [x] := by
  refine .inr ⟨w.heap.size, 0, 1, rfl, by unfold maxLen; simp, fun i hi => ?_⟩
  have h0 : i = 0 := by simp at hi; exact hi
  subst h0
  rw [cell_of_row _ w.heap.size _ _ t (0, 0) (heap_alloc_new w _)]
  rfl
theorem take_snoc (l : List Int) (k : Nat) (h : k < l.length) : l.take k ++ [l.getD k 0] = l.take (k + 1) := by
  rw [List.take_succ_eq_append_getElem h]; simp [List.getD, h]

/-- What lies below the row that an append goes onto stays. -/
theorem below_grown {B : Nat} {w wr w1 : World} {e : TypeId} {size n : Nat} {v : Value} {xs : List Value} (hnx : Below B w wr) (hB : B ≤ wr.heap.size) (hown : wr.ownsRow B e size v n xs) (hg : wr.grownBy w1 v.ownBlock) : Below B w w1 :=
  hnx.grown hg hB (fun j hj => (hown.lt j hj).1)

/-- In the world w the slice '.slice a n c' reads as the amounts l. -/
structure RowIs (k : IntKind) (w : World) (a : Option Addr) (n : Nat) (l : List Int) : Prop where
  len : l.length = n
  max : n ≤ maxLen
  cell : ∀ i, i < n → ∃ b o, a = some ⟨b, o, none⟩ ∧ w.cell? ⟨b, o + i, none⟩ = some (.int k (l.getD i 0))

theorem getD_at (l : List Int) (k : Nat) (hk : k < l.length) : l.getD k 0 = l[k] := by simp [List.getD, hk]
/-- A row of amounts that the call itself has just laid. -/
theorem rowIs_new (w : World) (t : TypeId) (l : List Int) (hl : l.length ≤ maxLen) :
    RowIs .i64 (w.alloc (.cells (l.map fun x => Value.int .i64 x).toArray t)) (some ⟨w.heap.size, 0, none⟩) l.length l where
  len := rfl
  max := hl
  cell := fun i hi => ⟨w.heap.size, 0, rfl, by
    rw [Nat.zero_add, cell_of_row _ w.heap.size i _ t (0, 0) (heap_alloc_new w _)]
    simp [List.getD, hi]⟩
theorem rowIs_of_rowV {k : IntKind} {w : World} {v : Value} {l : List Int} (h : RowV k w v l) : ∃ a c, v = .slice a l.length c ∧ RowIs k w a l.length l := by
  rcases h with ⟨rfl, rfl⟩ | ⟨b, o, c, rfl, hm, hc⟩
  · exact ⟨none, 0, rfl, rfl, by unfold maxLen; simp, fun i hi => absurd hi (by simp)⟩
  · exact ⟨_, c, rfl, rfl, hm, fun i hi => ⟨b, o, rfl, hc i hi⟩⟩
theorem RowIs.keep {k : IntKind} {w w' : World} {B : Nat} {a : Option Addr} {n : Nat} {l : List Int} (h : RowIs k w a n l) (hb : Below B w w') (hB : w.heap.size ≤ B) : RowIs k w' a n l :=
  ⟨h.len, h.max, fun i hi => by
    obtain ⟨b, o, e, hc⟩ := h.cell i hi
    exact ⟨b, o, e, (hb.cell (Nat.lt_of_lt_of_le (World.block_lt_of_cell? w _ hc) hB)).trans hc⟩⟩

section
variable {P : Program} {w : World} {ops : Array Oper} {rest : List Oper} {o : Oper} {a : Act} {Q : Exit → Act → World → Prop}

/-- 'append(own, row...)', the row nil or not. -/
theorem wpList_append_rowV (k : IntKind) (hgd : o.guard = none) (s x : Operand) (t : TypeId) (ho : o.op = .call { callee := .builtin .append, args := #[s, x], argTypes := #[t, t] })
    (base : Nat) (e : TypeId) (i : TypeInfo) (z : Value) (bytes : Nat) (ht : P.underlying t = some (.slice e)) (hi : P.info? e = some i) (hz : i.zero = some z)
    (hsize : i.size = 1) (hby : i.bytes = bytes) (hzs : z.cells.size = 1) (l : List Int) (hown : OwnI k w base e (a.eval s) l)
    (l2 : List Int) (hr : RowV k w (a.eval x) l2) (h63 : l.length + l2.length ≤ maxLen) (hbytes : (l.length + l2.length) * bytes ≤ 140737488355328) (hbase : base ≤ w.heap.size)
    (h : ∀ v' w', OwnI k w' base e v' (l ++ l2) → Below base w w' → wpList P ops Q rest (a.put o.dst v') w') : wpList P ops Q (o :: rest) a w := by
  rcases hr with ⟨hx, rfl⟩ | ⟨b, of, c, hx, hm, hc⟩
  · refine wpList_append_own_none hgd s x t ho base e i 1 ht hi _ _ _ rfl hown hx ?_
    exact h _ _ (by rw [List.append_nil]; exact hown) (Below.refl _ _)
  · refine wpList_append_own w hgd s x t ho base e i z 1 bytes ht hi hz hsize hby hzs (by decide) _ _ _ rfl hown ⟨b, of, none⟩ l2.length c (l2.map (Value.int k)) hx (by simp) ?_ ?_ h63 hbytes hbase ?_
    · intro j u hj
      have hjl : j < l2.length := by
        rcases Nat.lt_or_ge j l2.length with h | h
        · exact h
        · rw [List.getElem?_eq_none (by simpa using h)] at hj; cases hj
      rw [getD_map k l2 j hjl] at hj
      obtain rfl := Option.some.inj hj
      have := hc j hjl
      by_cases h0 : j = 0
      · subst h0; simpa [Addr.add] using this
      · simpa [Addr.add, h0] using this
    · intro u hu
      obtain ⟨n, _, rfl⟩ := List.mem_map.1 hu
      rfl
    · intro v' w' h1 h2 _
      refine h v' w' ?_ (below_grown (Below.refl _ _) hbase hown h2)
      unfold OwnI
      rw [List.length_append, List.map_append]
      exact h1
end
end Go.Proofs.YticdmlijacnjbaaGreatDoor
/- Slices of texts, and of lines (a number and a slice of texts), in memory, over any program: how they read, what keeps them, and rows of them that the call itself owns. -/
namespace Go.Proofs.YticdmlijacnjbaaGreatDoor
open Go.RowKit

/-- In the world w the slice value v reads as the texts ws. -/
def StrsV (w : World) (v : Value) (ws : List ByteArray) : Prop :=
  ∃ a c, v = .slice a ws.length c ∧ ws.length ≤ c ∧ ws.length ≤ maxLen ∧ ∀ i x, ws[i]? = some x → ∃ b o, a = some ⟨b, o, none⟩ ∧ w.cell? ⟨b, o + i, none⟩ = some (.string x)
/-- In the world w the slice value v reads as the lines L. -/
def LinesV (w : World) (v : Value) (L : List (Int × List ByteArray)) : Prop :=
  ∃ a c, v = .slice a L.length c ∧ L.length ≤ maxLen ∧ ∀ i x, L[i]? = some x → ∃ b o u, a = some ⟨b, o, none⟩ ∧ w.cell? ⟨b, o + i * 2, none⟩ = some (.int .i64 x.1) ∧ w.cell? ⟨b, o + i * 2 + 1, none⟩ = some u ∧ StrsV w u x.2
theorem StrsV.nil (w : World) : StrsV w (.slice none 0 0) [] := ⟨none, 0, rfl, by simp, by simp, fun i x h => by simp at h⟩
theorem LinesV.nil (w : World) : LinesV w (.slice none 0 0) [] := ⟨none, 0, rfl, by simp, fun i x h => by simp at h⟩
theorem StrsV.keep {w w' : World} {v : Value} {ws : List ByteArray} (h : StrsV w v ws) (hb : Below w.heap.size w w') : StrsV w' v ws := by
  obtain ⟨a, c, e, h1, h2, hc⟩ := h
  exact ⟨a, c, e, h1, h2, fun i x hx => by
    obtain ⟨b, o, ea, hx'⟩ := hc i x hx
    exact ⟨b, o, ea, (hb.cell (World.block_lt_of_cell? w _ hx')).trans hx'⟩⟩
theorem LinesV.keep {w w' : World} {v : Value} {L : List (Int × List ByteArray)} (h : LinesV w v L) (hb : Below w.heap.size w w') : LinesV w' v L := by
  obtain ⟨a, c, e, h2, hc⟩ := h
  exact ⟨a, c, e, h2, fun i x hx => by
    obtain ⟨b, o, u, ea, h3, h4, h5⟩ := hc i x hx
    exact ⟨b, o, u, ea, (hb.cell (World.block_lt_of_cell? w _ h3)).trans h3, (hb.cell (World.block_lt_of_cell? w _ h4)).trans h4, h5.keep hb⟩⟩
theorem add_off (b o i : Nat) : (⟨b, o, none⟩ : Addr).add i = ⟨b, o + i, none⟩ := by
  by_cases h0 : i = 0
  · subst h0; simp [Addr.add]
  · simp [Addr.add, h0]

/-- The cells of lines. -/
def flatL (LV : List (Int × Value)) : List Value := LV.flatMap fun x => [.int .i64 x.1, x.2]
theorem flatL_snoc (LV : List (Int × Value)) (n : Int) (u : Value) : flatL (LV ++ [(n, u)]) = flatL LV ++ [.int .i64 n, u] := by simp [flatL]
theorem flatL_length (LV : List (Int × Value)) : (flatL LV).length = LV.length * 2 := by
  induction LV with
  | nil => rfl
  | cons x r ih =>
    have e : flatL (x :: r) = .int .i64 x.1 :: x.2 :: flatL r := rfl
    rw [e]; simp; omega
theorem flatL_at : ∀ (LV : List (Int × Value)) (i : Nat) (x : Int × Value), LV[i]? = some x → (flatL LV)[i * 2]? = some (.int .i64 x.1) ∧ (flatL LV)[i * 2 + 1]? = some x.2
  | [], i, x, h => by simp at h
  | y :: r, 0, x, h => by
    simp at h
    subst h
    exact ⟨rfl, rfl⟩
  | y :: r, i + 1, x, h => by
    have ih := flatL_at r i x (by simpa using h)
    have e : flatL (y :: r) = .int .i64 y.1 :: y.2 :: flatL r := rfl
    rw [e, show (i + 1) * 2 = i * 2 + 1 + 1 by omega, show i * 2 + 1 + 1 + 1 = (i * 2 + 1) + 1 + 1 by omega]
    simpa using ih

/-- Rows of the call's own of unlike kinds do not lie in one block. -/
theorem row_apart {W : World} {B B' : Nat} {e e' : TypeId} {s s' : Nat} {v v' : Value} {n n' : Nat} {xs xs' : List Value} (h : W.ownsRow B e s v n xs) (h' : W.ownsRow B' e' s' v' n' xs') (hne : e ≠ e') : v'.ownBlock = none ∨ v'.ownBlock ≠ v.ownBlock := by
  rcases h'.2 with ⟨rfl, _⟩ | ⟨g', cap', cur', rfl, _, hg', _⟩
  · exact .inl rfl
  · refine .inr fun e0 => ?_
    rcases h.2 with ⟨rfl, _⟩ | ⟨g, cap, cur, rfl, _, hg, _⟩
    · simp [Value.ownBlock] at e0
    · obtain rfl : g' = g := by simpa [Value.ownBlock] using e0
      rw [hg] at hg'
      simp at hg'
      exact hne hg'.2
theorem row_uncells {X Y : World} {B : Nat} {e : TypeId} {s : Nat} {v : Value} {n : Nat} {xs : List Value} {row : Option Nat} (h : X.ownsRow B e s v n xs) (hg : X.grownBy Y row) (hr : ∀ r, row = some r → ∃ o : Obj, X.heap[r]? = some o ∧ o.isCells = false) : Y.ownsRow B e s v n xs := by
  refine h.kept hg ?_
  rcases h.2 with ⟨rfl, _⟩ | ⟨g, cap, cur, rfl, _, hgb, _⟩
  · exact .inl rfl
  · refine .inr fun e' => ?_
    obtain ⟨o, ho, hc⟩ := hr g (by simpa [Value.ownBlock] using e'.symm)
    rw [hgb] at ho; cases ho; cases hc
theorem row_below {X Y : World} {B : Nat} {e : TypeId} {s : Nat} {v : Value} {n : Nat} {xs : List Value} (h : X.ownsRow B e s v n xs) (hb : Below X.heap.size X Y) : Y.ownsRow B e s v n xs :=
  h.kept (row := none) ⟨hb.os, hb.tape, hb.output, hb.size, fun j hj _ => hb.block j hj⟩ (by
    cases v.ownBlock with
    | none => exact .inl rfl
    | some g => exact .inr (by simp))
theorem row_base {X : World} {B B' : Nat} {e : TypeId} {s : Nat} {v : Value} {n : Nat} {xs : List Value} (h : X.ownsRow B e s v n xs) (hB : B' ≤ B) : X.ownsRow B' e s v n xs := by
  refine ⟨h.1, ?_⟩
  rcases h.2 with h0 | ⟨g, cap, cur, hv, hb, rest⟩
  · exact .inl h0
  · exact .inr ⟨g, cap, cur, hv, by omega, rest⟩
theorem boxed_below {X Y : World} {B : Nat} {t : TypeId} {v : Value} (h : Boxed X B t v) (hb : Below X.heap.size X Y) : Boxed Y B t v := (hb.block B h.lt).trans h
theorem keepsFrom_below {X Y : World} (B : Nat) (hb : Below X.heap.size X Y) : KeepsFrom B X Y :=
  ⟨hb.size, fun k _ _ h _ => (hb.block k (Array.getElem?_eq_some_iff.1 h).1).trans h⟩
/-- Each line's words are a row of the call's own (of elements of the type e). -/
def WordsOwn (W : World) (B : Nat) (e : TypeId) (LV : List (Int × Value)) (L : List (Int × List ByteArray)) : Prop :=
  LV.length = L.length ∧ ∀ (i : Nat) (x : Int × Value) (y : Int × List ByteArray), LV[i]? = some x → L[i]? = some y → x.1 = y.1 ∧ W.ownsRow B e 1 x.2 y.2.length (y.2.map Value.string)
theorem WordsOwn.mono {W W' : World} {B : Nat} {e : TypeId} {LV : List (Int × Value)} {L : List (Int × List ByteArray)} (h : WordsOwn W B e LV L) (hk : ∀ (u : Value) (n : Nat) (xs : List Value), W.ownsRow B e 1 u n xs → W'.ownsRow B e 1 u n xs) : WordsOwn W' B e LV L :=
  ⟨h.1, fun i x y hx hy => ⟨(h.2 i x y hx hy).1, hk _ _ _ (h.2 i x y hx hy).2⟩⟩
theorem WordsOwn.nil (W : World) (B : Nat) (e : TypeId) : WordsOwn W B e [] [] := ⟨rfl, fun i x y h => by simp at h⟩
theorem WordsOwn.snoc {W : World} {B : Nat} {e : TypeId} {LV : List (Int × Value)} {L : List (Int × List ByteArray)} (h : WordsOwn W B e LV L) (n : Int) (u : Value) (ws : List ByteArray) (hu : W.ownsRow B e 1 u ws.length (ws.map Value.string)) : WordsOwn W B e (LV ++ [(n, u)]) (L ++ [(n, ws)]) := by
  refine ⟨by simp [h.1], fun i x y hx hy => ?_⟩
  by_cases hi : i < LV.length
  · rw [List.getElem?_append_left hi] at hx
    rw [List.getElem?_append_left (by rw [← h.1]; exact hi)] at hy
    exact h.2 i x y hx hy
  · have hi' : i = LV.length := by
      have := (List.getElem?_eq_some_iff.1 hx).1
      simp at this
      omega
    subst hi'
    simp at hx
    rw [h.1] at hy
    simp at hy
    subst hx hy
    exact ⟨rfl, hu⟩
/-- A row of texts of the call's own reads as they are. -/
theorem strs_of_own {W : World} {B : Nat} {e : TypeId} {u : Value} {ws : List ByteArray} (h : W.ownsRow B e 1 u ws.length (ws.map Value.string)) : StrsV W u ws := by
  have hw := h
  rcases h.2 with ⟨rfl, hn⟩ | ⟨g, cap, cur, rfl, _, _, hnc, hcm, _⟩
  · have : ws = [] := List.eq_nil_of_length_eq_zero hn
    subst this
    exact StrsV.nil W
  · refine ⟨_, cap, rfl, hnc, by omega, fun i x hx => ⟨g, 0, rfl, ?_⟩⟩
    have := hw.cells (g := g) rfl i (.string x) (by simp [hx])
    rwa [add_off] at this
/-- Each line's words read as they are told. -/
def WordsIn (W : World) (LV : List (Int × Value)) (L : List (Int × List ByteArray)) : Prop :=
  LV.length = L.length ∧ ∀ (i : Nat) (x : Int × Value) (y : Int × List ByteArray), LV[i]? = some x → L[i]? = some y → x.1 = y.1 ∧ StrsV W x.2 y.2
theorem WordsIn.nil (W : World) : WordsIn W [] [] := ⟨rfl, fun i x y h => by simp at h⟩
theorem WordsIn.keep {W W' : World} {LV : List (Int × Value)} {L : List (Int × List ByteArray)} (h : WordsIn W LV L) (hb : Below W.heap.size W W') : WordsIn W' LV L :=
  ⟨h.1, fun i x y hx hy => ⟨(h.2 i x y hx hy).1, (h.2 i x y hx hy).2.keep hb⟩⟩
theorem WordsIn.snoc {W : World} {LV : List (Int × Value)} {L : List (Int × List ByteArray)} (h : WordsIn W LV L) (n : Int) (u : Value) (ws : List ByteArray) (hu : StrsV W u ws) : WordsIn W (LV ++ [(n, u)]) (L ++ [(n, ws)]) := by
  refine ⟨by simp [h.1], fun i x y hx hy => ?_⟩
  by_cases hi : i < LV.length
  · rw [List.getElem?_append_left hi] at hx
    rw [List.getElem?_append_left (by rw [← h.1]; exact hi)] at hy
    exact h.2 i x y hx hy
  · have hi' : i = LV.length := by
      have := (List.getElem?_eq_some_iff.1 hx).1
      simp at this
      omega
    subst hi'
    simp at hx
    rw [h.1] at hy
    simp at hy
    subst hx hy
    exact ⟨rfl, hu⟩
theorem lines_of_in {W : World} {B : Nat} {e : TypeId} {v : Value} {LV : List (Int × Value)} {L : List (Int × List ByteArray)} (h : W.ownsRow B e 2 v LV.length (flatL LV)) (hw : WordsIn W LV L) : LinesV W v L := by
  have h0 := h
  rcases h.2 with ⟨rfl, hn⟩ | ⟨g, cap, cur, rfl, _, _, hnc, hcm, _⟩
  · have : L = [] := List.eq_nil_of_length_eq_zero (by rw [← hw.1]; exact hn)
    subst this
    exact LinesV.nil W
  · rw [hw.1]
    refine ⟨_, cap, rfl, by rw [← hw.1]; omega, fun i y hy => ?_⟩
    have hi : i < LV.length := by rw [hw.1]; exact (List.getElem?_eq_some_iff.1 hy).1
    have hx : LV[i]? = some LV[i] := List.getElem?_eq_getElem hi
    obtain ⟨e1, e2⟩ := hw.2 i _ y hx hy
    obtain ⟨f1, f2⟩ := flatL_at LV i _ hx
    have c1 := h0.cells (g := g) rfl _ _ f1
    have c2 := h0.cells (g := g) rfl _ _ f2
    rw [add_off] at c1 c2
    exact ⟨g, 0, _, rfl, by rw [← e1]; exact c1, by rw [Nat.add_assoc]; exact c2, e2⟩
theorem WordsOwn.isIn {W : World} {B : Nat} {e : TypeId} {LV : List (Int × Value)} {L : List (Int × List ByteArray)} (h : WordsOwn W B e LV L) : WordsIn W LV L :=
  ⟨h.1, fun i x y hx hy => ⟨(h.2 i x y hx hy).1, strs_of_own (h.2 i x y hx hy).2⟩⟩
/-- A slice of texts that was just laid. -/
theorem strs_new (w : World) (ws : List ByteArray) (t : TypeId) (hl : ws.length ≤ maxLen) : StrsV (w.alloc (.cells (ws.map Value.string).toArray t)) (.slice (some ⟨w.heap.size, 0, none⟩) ws.length ws.length) ws :=
  ⟨_, _, rfl, Nat.le_refl _, hl, fun i x hx => ⟨w.heap.size, 0, rfl, by
    rw [Nat.zero_add, cell_of_row _ w.heap.size i _ t (0, 0) (heap_alloc_new w _)]
    simp [hx]⟩⟩
theorem take_at {α : Type} (L : List α) (k : Nat) (h : k < L.length) : L.take (k + 1) = L.take k ++ [L[k]] := List.take_succ_eq_append_getElem h
end Go.Proofs.YticdmlijacnjbaaGreatDoor
/- Slices of elements of k cells each in memory, and boxes of one element, over any program: how they read, what keeps them, rows of them that the call itself owns. -/
namespace Go.Proofs.YticdmlijacnjbaaGreatDoor
open Go.RowKit

/-- How the elements of a kind lie: k cells each. -/
structure Enc (α : Type) where
  cs : α → List Value
  k : Nat
  len : ∀ a, (cs a).length = k
  pos : 0 < k
  one : ∀ a, ∀ v ∈ cs a, v.oneCell' = true
section
variable {α : Type} {E : Enc α}
/-- The element a lies at this place. -/
def ElAt (E : Enc α) (w : World) (b o : Nat) (a : α) : Prop := ∀ (j : Nat) v, (E.cs a)[j]? = some v → w.cell? ⟨b, o + j, none⟩ = some v
theorem ElAt.lt {w : World} {b o : Nat} {a : α} (h : ElAt E w b o a) : b < w.heap.size := by
  have h0 : 0 < (E.cs a).length := by rw [E.len]; exact E.pos
  exact World.block_lt_of_cell? w _ (h 0 _ (List.getElem?_eq_getElem h0))
theorem ElAt.keep {w w' : World} {b o B : Nat} {a : α} (h : ElAt E w b o a) (hb : Below B w w') (hB : b < B) : ElAt E w' b o a :=
  fun j v hj => (hb.cell (p := ⟨b, _, none⟩) hB).trans (h j v hj)
theorem ElAt.drewN {w : World} {b o : Nat} {a : α} (h : ElAt E w b o a) (q : Nat) : ElAt E (w.drewN q) b o a := h
theorem ElAt.beside {w w' : World} {b o g : Nat} {a : α} (h : ElAt E w b o a) (hg : w.grownBy w' (some g)) (hn : ∀ o v, w.cell? ⟨g, o, none⟩ ≠ some v) : ElAt E w' b o a := by
  have h0 : 0 < (E.cs a).length := by rw [E.len]; exact E.pos
  have hne : some b ≠ some g := fun e => by
    cases e
    exact hn _ _ (h 0 _ (List.getElem?_eq_getElem h0))
  exact fun j v hj => hg.cell (h j v hj) hne

/-- In the world w the slice value v reads as the elements L. -/
def ElsV (E : Enc α) (w : World) (v : Value) (L : List α) : Prop :=
  ∃ p c, v = .slice p L.length c ∧ L.length ≤ c ∧ c ≤ maxLen ∧ (p = none → c = 0) ∧ ∀ (i : Nat) (x : α), L[i]? = some x → ∃ b o, p = some ⟨b, o, none⟩ ∧ ElAt E w b (o + i * E.k) x
theorem ElsV.nil (w : World) : ElsV E w (.slice none 0 0) [] := ⟨none, 0, rfl, by simp, by simp, fun _ => rfl, fun i x h => by simp at h⟩
theorem ElsV.keep {w w' : World} {v : Value} {L : List α} (h : ElsV E w v L) (hb : Below w.heap.size w w') : ElsV E w' v L := by
  obtain ⟨a, c, e, h1, h2, h3, hc⟩ := h
  exact ⟨a, c, e, h1, h2, h3, fun i x hx => by
    obtain ⟨b, o, ea, hx'⟩ := hc i x hx
    exact ⟨b, o, ea, hx'.keep hb hx'.lt⟩⟩
theorem ElsV.drewN {w : World} {v : Value} {L : List α} (h : ElsV E w v L) (q : Nat) : ElsV E (w.drewN q) v L := h
theorem ElsV.beside {w w' : World} {g : Nat} {v : Value} {L : List α} (h : ElsV E w v L) (hg : w.grownBy w' (some g)) (hn : ∀ o v, w.cell? ⟨g, o, none⟩ ≠ some v) : ElsV E w' v L := by
  obtain ⟨p, c, e, h1, h2, h3, hc⟩ := h
  exact ⟨p, c, e, h1, h2, h3, fun i x hx => by
    obtain ⟨b, o, e', hat⟩ := hc i x hx
    exact ⟨b, o, e', hat.beside hg hn⟩⟩
theorem StrsV.beside {w w' : World} {g : Nat} {v : Value} {ws : List ByteArray} (h : StrsV w v ws) (hg : w.grownBy w' (some g)) (hn : ∀ o v, w.cell? ⟨g, o, none⟩ ≠ some v) : StrsV w' v ws := by
  obtain ⟨p, c, e, h1, h2, hc⟩ := h
  exact ⟨p, c, e, h1, h2, fun i x hx => by
    obtain ⟨b, o, e', hat⟩ := hc i x hx
    exact ⟨b, o, e', hg.cell hat (fun e => by cases e; exact hn _ _ hat)⟩⟩

/-- The cells of elements. -/
def flat (E : Enc α) (L : List α) : List Value := L.flatMap E.cs
theorem flat_nil : flat E [] = [] := rfl
theorem flat_cons (a : α) (L : List α) : flat E (a :: L) = E.cs a ++ flat E L := rfl
theorem flat_one (a : α) : flat E [a] = E.cs a := by simp [flat]
theorem flat_append (L M : List α) : flat E (L ++ M) = flat E L ++ flat E M := by simp [flat]
theorem flat_length (L : List α) : (flat E L).length = L.length * E.k := by
  induction L with
  | nil => simp [flat]
  | cons a L ih => rw [flat_cons, List.length_append, ih, E.len, List.length_cons, Nat.succ_mul]; omega
theorem flat_at : ∀ (L : List α) (i : Nat) (x : α), L[i]? = some x → ∀ (j : Nat) v, (E.cs x)[j]? = some v → (flat E L)[i * E.k + j]? = some v
  | [], i, x, h => by simp at h
  | y :: L, 0, x, h => by
    simp at h
    subst h
    intro j v hj
    have : j < (E.cs y).length := (List.getElem?_eq_some_iff.1 hj).1
    rw [flat_cons, Nat.zero_mul, Nat.zero_add, List.getElem?_append_left this]; exact hj
  | y :: L, i + 1, x, h => fun j v hj => by
    have ih := flat_at L i x (by simpa using h) j v hj
    rw [flat_cons, show (i + 1) * E.k + j = (E.cs y).length + (i * E.k + j) by rw [E.len, Nat.succ_mul]; omega, List.getElem?_append_right (by omega)]
    simpa using ih
theorem flat_of {L : List α} {k : Nat} {v : Value} (h : (flat E L)[k]? = some v) : ∃ x, L[k / E.k]? = some x ∧ (E.cs x)[k % E.k]? = some v := by
  have hk : k < L.length * E.k := by rw [← flat_length]; exact (List.getElem?_eq_some_iff.1 h).1
  have hi : k / E.k < L.length := Nat.div_lt_of_lt_mul (by rw [Nat.mul_comm]; exact hk)
  refine ⟨L[k / E.k], List.getElem?_eq_getElem hi, ?_⟩
  have hj : k % E.k < (E.cs L[k / E.k]).length := by rw [E.len]; exact Nat.mod_lt _ E.pos
  have := flat_at L (k / E.k) _ (List.getElem?_eq_getElem hi) (k % E.k) _ (List.getElem?_eq_getElem hj)
  rw [Nat.mul_comm, Nat.div_add_mod, h] at this
  rw [List.getElem?_eq_getElem hj, this]
theorem flat_ones (L : List α) : ∀ v ∈ flat E L, v.oneCell' = true := by
  intro v hv
  obtain ⟨a, _, ha⟩ := List.mem_flatMap.1 hv
  exact E.one a v ha
theorem flat_take (L : List α) (k : Nat) : flat E (L.take k) = (flat E L).take (k * E.k) := by
  induction L generalizing k with
  | nil => simp [flat]
  | cons a L ih =>
    cases k with
    | zero => simp [flat]
    | succ k =>
      rw [List.take_succ_cons, flat_cons, flat_cons, ih, List.take_append, E.len, show (k + 1) * E.k - E.k = k * E.k by rw [Nat.succ_mul]; omega, List.take_of_length_le (l := E.cs a) (by rw [E.len, Nat.succ_mul]; omega)]
theorem flat_drop (L : List α) (k : Nat) : flat E (L.drop k) = (flat E L).drop (k * E.k) := by
  induction L generalizing k with
  | nil => simp [flat]
  | cons a L ih =>
    cases k with
    | zero => simp
    | succ k =>
      rw [List.drop_succ_cons, flat_cons, ih, List.drop_append, E.len, show (k + 1) * E.k - E.k = k * E.k by rw [Nat.succ_mul]; omega, List.drop_of_length_le (l := E.cs a) (by rw [E.len, Nat.succ_mul]; omega), List.nil_append]
/-- The cells of a slice, one behind the other. -/
theorem ElsV.cells {w : World} {p : Option Addr} {n c : Nat} {L : List α} (h : ElsV E w (.slice p n c) L) (hL : L ≠ []) : ∃ b o, p = some ⟨b, o, none⟩ ∧ b < w.heap.size ∧ ∀ (j : Nat) v, (flat E L)[j]? = some v → w.cell? ⟨b, o + j, none⟩ = some v := by
  obtain ⟨p', c', e, _, _, _, hc⟩ := h
  cases e
  cases L with
  | nil => exact absurd rfl hL
  | cons a L =>
    obtain ⟨b, o, rfl, h0⟩ := hc 0 a rfl
    refine ⟨b, o, rfl, h0.lt, fun j v hj => ?_⟩
    obtain ⟨x, hx, hv⟩ := flat_of hj
    obtain ⟨b', o', e', h1⟩ := hc _ x hx
    cases e'
    have := h1 _ v hv
    rwa [Nat.add_assoc, Nat.mul_comm, Nat.div_add_mod] at this
/-- A row of elements of the call's own reads as they are. -/
theorem els_of_own {w : World} {B : Nat} {e : TypeId} {v : Value} {L : List α} (h : w.ownsRow B e E.k v L.length (flat E L)) : ElsV E w v L := by
  have h0 := h
  rcases h.2 with ⟨rfl, hn⟩ | ⟨g, cap, cur, rfl, _, _, hnc, hcm, _⟩
  · have : L = [] := List.eq_nil_of_length_eq_zero hn
    subst this
    exact ElsV.nil w
  · refine ⟨_, cap, rfl, hnc, hcm, (fun e => by cases e), fun i x hx => ⟨g, 0, rfl, fun j u hj => ?_⟩⟩
    have := h0.cells (g := g) rfl _ _ (flat_at L i x hx j u hj)
    rwa [add_off, ← Nat.add_assoc] at this

/-- A box of an element that may be written. -/
def BoxE (E : Enc α) (w : World) (b : Nat) (t : TypeId) (a : α) : Prop := w.heap[b]? = some (.cells (E.cs a).toArray t (0, 0))
theorem BoxE.lt {w : World} {b : Nat} {t : TypeId} {a : α} (h : BoxE E w b t a) : b < w.heap.size := (Array.getElem?_eq_some_iff.1 h).1
theorem BoxE.keep {w w' : World} {b B : Nat} {t : TypeId} {a : α} (h : BoxE E w b t a) (hb : Below B w w') (hB : b < B) : BoxE E w' b t a := (hb.block b hB).trans h
theorem BoxE.kept {w w' : World} {b : Nat} {t : TypeId} {a : α} (h : BoxE E w b t a) (hb : Below w.heap.size w w') : BoxE E w' b t a := h.keep hb h.lt
theorem BoxE.new (E : Enc α) (w : World) (a : α) (t : TypeId) : BoxE E (w.alloc (.cells (E.cs a).toArray t)) w.heap.size t a := heap_alloc_new w _
theorem BoxE.at0 {w : World} {b : Nat} {t : TypeId} {a : α} (h : BoxE E w b t a) : ElAt E w b 0 a :=
  fun j v hj => by rw [Nat.zero_add, cell_of_row _ b j _ t (0, 0) h]; simpa using hj
theorem grownBy_set (w : World) (g : Nat) (cs : Array Value) : w.grownBy (w.setRow g cs) (some g) :=
  ⟨rfl, rfl, rfl, by simp [World.setRow], fun k _ hk => setRow_other w g k cs (fun e => hk (by rw [e]))⟩
/-- An element stored into a box. -/
theorem wpList_store_el {P : Program} {ops : Array Oper} {rest : List Oper} {o : Oper} {act : Act} {w : World} {Q : Exit → Act → World → Prop} (hgd : o.guard = none) (ty : TypeId) (x y : Operand) (ho : o.op = .store ty x y)
    (g : Nat) (z a : α) (t : TypeId) (hx : act.eval x = .pointer (some ⟨g, 0, none⟩)) (hy : act.eval y = .agg (E.cs a).toArray) (hg : BoxE E w g t z) (hi : (P.info? ty).map (·.size) = some E.k)
    (h : ∀ w', BoxE E w' g t a → w.grownBy w' (some g) → wpList P ops Q rest (act.put o.dst undef) w') : wpList P ops Q (o :: rest) act w :=
  wpList_store_row hgd ty x y ho g _ hx hy t _ hg (by rw [hi]; simp [E.len]) (by simp [E.len]) (by simp only [List.all_toArray, List.all_eq_true]; exact fun v hv => E.one a v hv) (h _ (setRow_heap w g _ _ t _ hg) (grownBy_set w g _))
/-- A slice of elements that was just laid. -/
theorem els_new (E : Enc α) (w : World) (L : List α) (t : TypeId) (hl : L.length ≤ maxLen) : ElsV E (w.alloc (.cells (flat E L).toArray t)) (.slice (some ⟨w.heap.size, 0, none⟩) L.length L.length) L :=
  ⟨_, _, rfl, Nat.le_refl _, hl, (fun e => by cases e), fun i x hx => ⟨w.heap.size, 0, rfl, fun j v hj => by
    rw [cell_of_row _ w.heap.size _ _ t (0, 0) (heap_alloc_new w _), Nat.zero_add]
    simpa using flat_at L i x hx j v hj⟩⟩
/-- Elements of other kinds whose cells are the same. -/
theorem ElsV.map {β : Type} {F : Enc β} {w : World} {v : Value} {L : List α} (f : α → β) (hk : F.k = E.k) (hf : ∀ a, F.cs (f a) = E.cs a) (h : ElsV E w v L) : ElsV F w v (L.map f) := by
  obtain ⟨p, c, e, h1, h2, h3, hc⟩ := h
  refine ⟨p, c, by simpa using e, by simpa using h1, h2, h3, fun i y hy => ?_⟩
  rw [List.getElem?_map] at hy
  cases hx : L[i]? with
  | none => rw [hx] at hy; cases hy
  | some x =>
    rw [hx] at hy
    cases hy
    obtain ⟨b, o, e', hat⟩ := hc i x hx
    exact ⟨b, o, e', fun j v hj => by rw [hk]; exact hat j v (by rw [← hf]; exact hj)⟩
end
end Go.Proofs.YticdmlijacnjbaaGreatDoor
/- The plain facts of layer flow: flows, which may be, their words, the flow of words, lists of them. No program in it. -/
namespace Go.Proofs.YticdmlijacnjbaaGreatDoor.Fl
open Go.RowKit

structure Flow where
  code : ByteArray
  kind : Int
theorem Flow.ext' {a b : Flow} (h0 : a.code = b.code) (h1 : a.kind = b.kind) : a = b := by
  cases a; cases b; simp_all
instance : DecidableEq Flow := fun a b =>
  if h : a.code = b.code ∧ a.kind = b.kind then isTrue (Flow.ext' h.1 h.2)
  else isFalse fun e => h (by subst e; exact ⟨rfl, rfl⟩)
def zeroF : Flow := ⟨⟨#[]⟩, 0⟩
/-- The two cells of a flow. -/
abbrev encF : Enc Flow := ⟨fun f => [.string f.code, .int .i64 f.kind], 2, fun _ => rfl, by decide, fun _ v hv => by simp at hv; rcases hv with rfl | rfl <;> rfl⟩
abbrev FlowsV (w : World) (v : Value) (L : List Flow) : Prop := ElsV encF w v L
abbrev aggL (f : Flow) : Value := .agg #[.string f.code, .int .i64 f.kind]
theorem two {w : World} {b o : Nat} {f : Flow} (h : ElAt encF w b o f) : w.cell? ⟨b, o, none⟩ = some (.string f.code) ∧ w.cell? ⟨b, o + 1, none⟩ = some (.int .i64 f.kind) := ⟨h 0 _ rfl, h 1 _ rfl⟩
theorem box {w : World} {b : Nat} {t : TypeId} {f : Flow} (h : BoxE encF w b t f) : w.cell? ⟨b, 0, none⟩ = some (.string f.code) ∧ w.cell? ⟨b, 1, none⟩ = some (.int .i64 f.kind) := ⟨h.at0 0 _ rfl, h.at0 1 _ rfl⟩

def rightF (f : Flow) : Bool := nmB f.code && decide (0 ≤ f.kind) && decide (f.kind < 5)
def tFlow : ByteArray := ⟨#[102, 108, 111, 119]⟩
def tOpen : ByteArray := ⟨#[111, 112, 101, 110]⟩
def tMove : ByteArray := ⟨#[109, 111, 118, 101]⟩
def tFx : ByteArray := ⟨#[102, 120]⟩
def tScope : ByteArray := ⟨#[115, 99, 111, 112, 101]⟩
def tClose : ByteArray := ⟨#[99, 108, 111, 115, 101]⟩
/-- The word of a kind. -/
def kindW (n : Int) : ByteArray := if n = 0 then tOpen else if n = 1 then tMove else if n = 2 then tFx else if n = 3 then tScope else tClose
/-- The kind of a word. -/
def kindO (s : ByteArray) : Int := if s = tOpen then 0 else if s = tMove then 1 else if s = tFx then 2 else if s = tScope then 3 else if s = tClose then 4 else -1
def wordsF (f : Flow) : List ByteArray := if rightF f = true then [tFlow, f.code, kindW f.kind] else []
def parseF : List ByteArray → Flow × Int
  | [x, c, k] => if x = tFlow ∧ rightF ⟨c, kindO k⟩ = true then (⟨c, kindO k⟩, 0) else (zeroF, 5)
  | _ => (zeroF, 5)
theorem right_parts {f : Flow} (h : rightF f = true) : nmB f.code = true ∧ (f.kind = 0 ∨ f.kind = 1 ∨ f.kind = 2 ∨ f.kind = 3 ∨ f.kind = 4) := by
  unfold rightF at h
  simp only [Bool.and_eq_true, decide_eq_true_eq] at h
  exact ⟨h.1.1, by omega⟩
theorem kindO_kindW {n : Int} (h : n = 0 ∨ n = 1 ∨ n = 2 ∨ n = 3 ∨ n = 4) : kindO (kindW n) = n := by
  rcases h with rfl | rfl | rfl | rfl | rfl <;> decide
theorem kindW_kindO {s : ByteArray} (h : 0 ≤ kindO s) : kindW (kindO s) = s := by
  unfold kindO at h ⊢
  by_cases h0 : s = tOpen
  · subst h0; rfl
  by_cases h1 : s = tMove
  · subst h1; rfl
  by_cases h2 : s = tFx
  · subst h2; rfl
  by_cases h3 : s = tScope
  · subst h3; rfl
  by_cases h4 : s = tClose
  · subst h4; rfl
  · rw [if_neg h0, if_neg h1, if_neg h2, if_neg h3, if_neg h4] at h; omega
theorem words_of {f : Flow} (h : rightF f = true) : wordsF f = [tFlow, f.code, kindW f.kind] := by unfold wordsF; rw [if_pos h]
theorem words_nil {f : Flow} (h : rightF f = false) : wordsF f = [] := by unfold wordsF; rw [h]; rfl
theorem parse_three (x c k : ByteArray) : parseF [x, c, k] = if x = tFlow ∧ rightF ⟨c, kindO k⟩ = true then (⟨c, kindO k⟩, 0) else (zeroF, 5) := rfl
theorem parse_words {f : Flow} (h : rightF f = true) : parseF (wordsF f) = (f, 0) := by
  rw [words_of h, parse_three, kindO_kindW (right_parts h).2, if_pos ⟨rfl, h⟩]
theorem parse_err (ws : List ByteArray) : parseF ws = (zeroF, 5) ∨ (wordsF (parseF ws).1 = ws ∧ rightF (parseF ws).1 = true ∧ (parseF ws).2 = 0) := by
  unfold parseF
  split
  · rename_i x c k
    split
    · rename_i h
      right
      obtain ⟨rfl, h2⟩ := h
      refine ⟨?_, h2, rfl⟩
      rw [words_of h2]
      have h0 : 0 ≤ kindO k := by
        unfold rightF at h2
        simp only [Bool.and_eq_true, decide_eq_true_eq] at h2
        exact h2.1.2
      rw [kindW_kindO h0]
    · exact .inl rfl
  · exact .inl rfl
theorem parse_len {ws : List ByteArray} (h : ws.length ≠ 3) : parseF ws = (zeroF, 5) := by
  match ws, h with
  | [], _ | [_], _ | [_, _], _ | _ :: _ :: _ :: _ :: _, _ => rfl
  | [_, _, _], h => exact absurd rfl h

/-! ### Lists -/
abbrev findF (L : List Flow) (c : ByteArray) : Option Flow := findK Flow.code L c
/-- The codes of a kind. -/
def ofF (L : List Flow) (k : Int) : List ByteArray := (L.filter fun f => decide (f.kind = k)).map Flow.code
def hasF (L : List Flow) (k : Int) : Bool := decide (0 < (ofF L k).length)
def addE (L : List Flow) (f : Flow) : Int := if rightF f = false then 1 else if (isK Flow.code L f.code || (decide (f.kind ≠ 1) && hasF L f.kind)) = true then 7 else if 60 ≤ L.length then 4 else 0
def addV (L : List Flow) (f : Flow) : List Flow := if addE L f = 0 then insK Flow.code L f else L
/-- What Kind tells. -/
def kindL (L : List Flow) (c : ByteArray) : Int := if isK Flow.code L c = true then ((L[placeK Flow.code L c]?).getD zeroF).kind else 0
def wholeF (L : List Flow) : Bool := hasF L 0 && hasF L 2 && hasF L 3 && hasF L 4
/-- One at most of each kind but Move. -/
def onesF (L : List Flow) : Prop := ∀ k : Int, (0 ≤ k ∧ k < 5) → k ≠ 1 → (ofF L k).length ≤ 1
instance (L : List Flow) : Decidable (onesF L) := decidable_of_iff ((ofF L 0).length ≤ 1 ∧ (ofF L 2).length ≤ 1 ∧ (ofF L 3).length ≤ 1 ∧ (ofF L 4).length ≤ 1) (by
  unfold onesF
  constructor
  · rintro ⟨h0, h2, h3, h4⟩ k hk h1
    rcases (by omega : k = 0 ∨ k = 2 ∨ k = 3 ∨ k = 4) with rfl | rfl | rfl | rfl <;> assumption
  · intro h
    exact ⟨h 0 (by omega) (by omega), h 2 (by omega) (by omega), h 3 (by omega) (by omega), h 4 (by omega) (by omega)⟩)
/-- The document's: is it a list? -/
def riseF (L : List Flow) : Bool := riseK Flow.code L && decide (onesF L)
theorem ofF_length (L : List Flow) (k : Int) : (ofF L k).length = (L.filter fun f => decide (f.kind = k)).length := by simp [ofF]
theorem mem_of {L : List Flow} {k : Int} {c : ByteArray} : c ∈ ofF L k ↔ ∃ f ∈ L, f.kind = k ∧ f.code = c := by
  unfold ofF
  simp only [List.mem_map, List.mem_filter, decide_eq_true_eq]
  constructor
  · rintro ⟨f, ⟨h1, h2⟩, h3⟩; exact ⟨f, h1, h2, h3⟩
  · rintro ⟨f, h1, h2, h3⟩; exact ⟨f, ⟨h1, h2⟩, h3⟩
/-- So many of the kinds below i. -/
def sumF (L : List Flow) : Nat → Nat
  | 0 => 0
  | i + 1 => sumF L i + (ofF L (i : Int)).length
theorem sumF_le (L : List Flow) (i : Nat) : sumF L i = (L.filter fun f => decide (0 ≤ f.kind ∧ f.kind < (i : Int))).length := by
  induction i with
  | zero =>
    have : L.filter (fun f => decide (0 ≤ f.kind ∧ f.kind < ((0 : Nat) : Int))) = [] := by
      rw [List.filter_eq_nil_iff]; intro a _; simp
    rw [this]; rfl
  | succ i ih =>
    rw [sumF, ih, ofF_length]
    clear ih
    induction L with
    | nil => rfl
    | cons a L ihL =>
      rw [List.filter_cons, List.filter_cons, List.filter_cons]
      by_cases h1 : 0 ≤ a.kind ∧ a.kind < (i : Int)
      · have h2 : ¬ a.kind = (i : Int) := by omega
        have h3 : 0 ≤ a.kind ∧ a.kind < ((i + 1 : Nat) : Int) := by omega
        rw [if_pos (decide_eq_true h1), if_neg (by simpa using h2), if_pos (decide_eq_true h3), List.length_cons, List.length_cons]
        omega
      · by_cases h2 : a.kind = (i : Int)
        · have h3 : 0 ≤ a.kind ∧ a.kind < ((i + 1 : Nat) : Int) := by omega
          rw [if_neg (by rw [decide_eq_false h1]; simp), if_pos (decide_eq_true h2), if_pos (decide_eq_true h3), List.length_cons, List.length_cons]
          omega
        · have h3 : ¬ (0 ≤ a.kind ∧ a.kind < ((i + 1 : Nat) : Int)) := by omega
          rw [if_neg (by rw [decide_eq_false h1]; simp), if_neg (by simpa using h2), if_neg (by rw [decide_eq_false h3]; simp)]
          omega
theorem sumF_all {L : List Flow} (h : ∀ f ∈ L, 0 ≤ f.kind ∧ f.kind < 5) : sumF L 5 = L.length := by
  rw [sumF_le, List.filter_eq_self.2 (fun f hf => by simpa using h f hf)]
theorem addE_zero {L : List Flow} {f : Flow} (hr : riseK Flow.code L = true) (h : addE L f = 0) : rightF f = true ∧ findF L f.code = none ∧ (f.kind ≠ 1 → (ofF L f.kind).length = 0) ∧ L.length < 60 := by
  unfold addE at h
  cases hrf : rightF f with
  | false => rw [hrf] at h; simp at h
  | true =>
    rw [hrf] at h
    simp only [Bool.true_eq_false, if_false] at h
    cases hb : (isK Flow.code L f.code || (decide (f.kind ≠ 1) && hasF L f.kind)) with
    | true => rw [hb] at h; simp at h
    | false =>
      rw [hb] at h
      simp only [Bool.false_eq_true, if_false] at h
      rw [Bool.or_eq_false_iff] at hb
      refine ⟨rfl, ?_, fun hk => ?_, ?_⟩
      · have := (isK_find hr f.code).1
        rw [hb.1] at this
        cases hf : findF L f.code with
        | none => rfl
        | some x =>
          have hf' : findK Flow.code L f.code = some x := hf
          rw [hf'] at this; cases this
      · have h2 := hb.2
        rw [decide_eq_true hk, Bool.true_and] at h2
        unfold hasF at h2
        have := of_decide_eq_false h2
        omega
      · split at h
        · simp at h
        · omega
theorem ones_ins {L : List Flow} {f : Flow} (h : onesF L) (hf : f.kind ≠ 1 → (ofF L f.kind).length = 0) : onesF (insK Flow.code L f) := by
  intro k hk h1
  rw [ofF_length]
  by_cases e : f.kind = k
  · rw [filter_ins_length L (by simpa using e), ← ofF_length]
    subst e
    rw [hf h1]
    exact Nat.le_refl _
  · rw [filter_ins_no L (by simpa using e), ← ofF_length]
    exact h k hk h1
theorem rise_ins {L : List Flow} {f : Flow} (hr : riseF L = true) (h : addE L f = 0) : riseF (insK Flow.code L f) = true := by
  unfold riseF at hr ⊢
  rw [Bool.and_eq_true, decide_eq_true_eq] at hr ⊢
  obtain ⟨_, h2, h3, _⟩ := addE_zero hr.1 h
  exact ⟨riseK_ins L f hr.1 h2, ones_ins hr.2 h3⟩
theorem rise_add {L : List Flow} {f : Flow} (hr : riseF L = true) : riseF (addV L f) = true := by
  unfold addV
  split
  · exact rise_ins hr (by assumption)
  · exact hr
theorem rise_codes {L : List Flow} (h : riseF L = true) : riseK Flow.code L = true := by
  unfold riseF at h; rw [Bool.and_eq_true] at h; exact h.1
theorem rise_ones {L : List Flow} (h : riseF L = true) : onesF L := by
  unfold riseF at h; rw [Bool.and_eq_true, decide_eq_true_eq] at h; exact h.2
/-- Of a code of a kind Kind tells this kind. -/
theorem kind_of {L : List Flow} (hr : riseK Flow.code L = true) {k : Int} {c : ByteArray} (hc : c ∈ ofF L k) : isK Flow.code L c = true ∧ kindL L c = k ∧ ∃ f, findF L c = some f ∧ f.kind = k := by
  obtain ⟨f, hf, rfl, rfl⟩ := mem_of.1 hc
  have h1 := findK_of_mem hr hf
  obtain ⟨h2, h3⟩ := isK_find hr f.code
  rw [h1] at h2 h3
  have h2' : isK Flow.code L f.code = true := h2
  refine ⟨h2', ?_, f, h1, rfl⟩
  unfold kindL
  rw [if_pos h2', h3 h2']; rfl
/-- The whole of the document's for kinds below i: one of each but Move. -/
def wholeTo (L : List Flow) : Nat → Bool
  | 0 => true
  | i + 1 => wholeTo L i && (decide ((i : Int) = 1) || decide ((ofF L (i : Int)).length = 1))
theorem whole_eq {L : List Flow} (h : onesF L) : wholeTo L 5 = wholeF L := by
  have h0 := h 0 (by omega) (by omega)
  have h2 := h 2 (by omega) (by omega)
  have h3 := h 3 (by omega) (by omega)
  have h4 := h 4 (by omega) (by omega)
  have e : ∀ n : Nat, n ≤ 1 → decide (n = 1) = decide (0 < n) := fun n hn => by
    rw [Bool.eq_iff_iff]; simp; omega
  simp [wholeTo, wholeF, hasF, e _ h0, e _ h2, e _ h3, e _ h4]
end Go.Proofs.YticdmlijacnjbaaGreatDoor.Fl
