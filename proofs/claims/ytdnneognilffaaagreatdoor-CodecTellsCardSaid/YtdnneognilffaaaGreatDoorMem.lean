
/- Words for slices of integers in memory, over any program: a slice value that reads as a list of integers; a row that the call itself owns; what an append onto such a row leaves. -/
import Derived.WalkKit
import Derived.WalkSpells
import Derived.Lib.Hide
import Derived.Laws.AppendOwnNone
namespace Go.Proofs.YtdnneognilffaaaGreatDoor
open Go.RowKit

/-- In the world w the slice value v reads as the integers l (of the kind k): it is nil, and l is empty, or it leads to these cells. -/
def RowV (k : IntKind) (w : World) (v : Value) (l : List Int) : Prop :=
  (v = .slice none 0 0 ∧ l = []) ∨
  ∃ b o c, v = .slice (some ⟨b, o, none⟩) l.length c ∧ l.length ≤ maxLen ∧ ∀ i, i < l.length → w.cell? ⟨b, o + i, none⟩ = some (.int k (l.getD i 0))

/-- The call itself owns the slice value v, from block B on: it holds the integers l. -/
def OwnI (k : IntKind) (w : World) (B : Nat) (e : TypeId) (v : Value) (l : List Int) : Prop := w.ownsRow B e 1 v l.length (l.map (Value.int k))

theorem getD_map (k : IntKind) (l : List Int) (i : Nat) (h : i < l.length) : (l.map (Value.int k))[i]? = some (.int k (l.getD i 0)) := by
  simp [List.getD, h]
theorem OwnI.nil (k : IntKind) (w : World) (B : Nat) (e : TypeId) : OwnI k w B e (.slice none 0 0) [] := World.ownsRow_nil _ _ _ _
theorem OwnI.row {k : IntKind} {w : World} {B : Nat} {e : TypeId} {v : Value} {l : List Int} (h : OwnI k w B e v l) : RowV k w v l := by
  rcases h.2 with ⟨rfl, hn⟩ | ⟨g, cap, cur, rfl, _, _, hnc, hcm, _⟩
  · exact .inl ⟨rfl, List.eq_nil_of_length_eq_zero hn⟩
  · refine .inr ⟨g, 0, cap, rfl, by omega, fun i hi => ?_⟩
    have := h.cells (g := g) rfl i _ (getD_map k l i hi)
    by_cases h0 : i = 0
    · subst h0; simpa [Addr.add] using this
    · simpa [Addr.add, h0] using this
theorem RowV.keep {k : IntKind} {w w' : World} {B : Nat} {v : Value} {l : List Int} (h : RowV k w v l) (hb : Below B w w') (hB : w.heap.size ≤ B) : RowV k w' v l := by
  rcases h with h | ⟨b, o, c, e, hm, hc⟩
  · exact .inl h
  · exact .inr ⟨b, o, c, e, hm, fun i hi => by
      have h1 := hc i hi
      exact (hb.cell (Nat.lt_of_lt_of_le (World.block_lt_of_cell? w _ h1) hB)).trans h1⟩

theorem OwnI.alloc {k : IntKind} {w : World} {B : Nat} {e : TypeId} {v : Value} {l : List Int} (h : OwnI k w B e v l) (o : Obj) : OwnI k (w.alloc o) B e v l := World.ownsRow.alloc h o
/-- The row of one that 'append(s, x)' lays. -/
theorem rowV_one (k : IntKind) (w : World) (x : Int) (t : TypeId) : RowV k (w.alloc (.cells #[.int k x] t)) (.slice (some ⟨w.heap.size, 0, none⟩) 1 1) [x] := by
  refine .inr ⟨w.heap.size, 0, 1, rfl, by unfold maxLen; simp, fun i hi => ?_⟩
  have h0 : i = 0 := by simp at hi; exact hi
  subst h0
  rw [cell_of_row _ w.heap.size _ _ t (0, 0) (heap_alloc_new w _)]
  rfl
theorem take_snoc (l : List Int) (k : Nat) (h : k < l.length) : l.take k ++ [l.getD k 0] = l.take (k + 1) := by
  rw [List.take_succ_eq_append_getElem h]; simp [List.getD, h]

/-- What lies below the row that an append goes onto stays. -/
theorem below_grown {B : Nat} {w wr w1 : World} {e : TypeId} {size n : Nat} {v : Value} {xs : List Value} (hnx : Below B w wr) (hB : B ≤ wr.heap.size) (hown : wr.ownsRow B e size v n xs) (hg : wr.grownBy w1 v.ownBlock) : Below B w w1 :=
  hnx.grown hg hB (fun j hj => (hown.lt j hj).1)

/-- In the world w the slice '.slice a n c' reads as the amounts l. -/
structure RowIs (k : IntKind) (w : World) (a : Option Addr) (n : Nat) (l : List Int) : Prop where
  len : l.length = n
  max : n ≤ maxLen
  cell : ∀ i, i < n → ∃ b o, a = some ⟨b, o, none⟩ ∧ w.cell? ⟨b, o + i, none⟩ = some (.int k (l.getD i 0))

theorem getD_at (l : List Int) (k : Nat) (hk : k < l.length) : l.getD k 0 = l[k] := by simp [List.getD, hk]
/-- A row of amounts that the call itself has just laid. -/
theorem rowIs_new (w : World) (t : TypeId) (l : List Int) (hl : l.length ≤ maxLen) :
    RowIs .i64 (w.alloc (.cells (l.map fun x => Value.int .i64 x).toArray t)) (some ⟨w.heap.size, 0, none⟩) l.length l where
  len := rfl
  max := hl
  cell := fun i hi => ⟨w.heap.size, 0, rfl, by
    rw [Nat.zero_add, cell_of_row _ w.heap.size i _ t (0, 0) (heap_alloc_new w _)]
    simp [List.getD, hi]⟩
theorem rowIs_of_rowV {k : IntKind} {w : World} {v : Value} {l : List Int} (h : RowV k w v l) : ∃ a c, v = .slice a l.length c ∧ RowIs k w a l.length l := by
  rcases h with ⟨rfl, rfl⟩ | ⟨b, o, c, rfl, hm, hc⟩
  · exact ⟨none, 0, rfl, rfl, by unfold maxLen; simp, fun i hi => absurd hi (by simp)⟩
  · exact ⟨_, c, rfl, rfl, hm, fun i hi => ⟨b, o, rfl, hc i hi⟩⟩
theorem RowIs.keep {k : IntKind} {w w' : World} {B : Nat} {a : Option Addr} {n : Nat} {l : List Int} (h : RowIs k w a n l) (hb : Below B w w') (hB : w.heap.size ≤ B) : RowIs k w' a n l :=
  ⟨h.len, h.max, fun i hi => by
    obtain ⟨b, o, e, hc⟩ := h.cell i hi
    exact ⟨b, o, e, (hb.cell (Nat.lt_of_lt_of_le (World.block_lt_of_cell? w _ hc) hB)).trans hc⟩⟩

section
variable {P : Program} {w : World} {ops : Array Oper} {rest : List Oper} {o : Oper} {a : Act} {Q : Exit → Act → World → Prop}

/-- 'append(own, row...)', the row nil or not. -/
theorem wpList_append_rowV (k : IntKind) (hgd : o.guard = none) (s x : Operand) (t : TypeId) (ho : o.op = .call { callee := .builtin .append, args := #[s, x], argTypes := #[t, t] })
    (base : Nat) (e : TypeId) (i : TypeInfo) (z : Value) (bytes : Nat) (ht : P.underlying t = some (.slice e)) (hi : P.info? e = some i) (hz : i.zero = some z)
    (hsize : i.size = 1) (hby : i.bytes = bytes) (hzs : z.cells.size = 1) (l : List Int) (hown : OwnI k w base e (a.eval s) l)
    (l2 : List Int) (hr : RowV k w (a.eval x) l2) (h63 : l.length + l2.length ≤ maxLen) (hbytes : (l.length + l2.length) * bytes ≤ 140737488355328) (hbase : base ≤ w.heap.size)
    (h : ∀ v' w', OwnI k w' base e v' (l ++ l2) → Below base w w' → wpList P ops Q rest (a.put o.dst v') w') : wpList P ops Q (o :: rest) a w := by
  rcases hr with ⟨hx, rfl⟩ | ⟨b, of, c, hx, hm, hc⟩
  · refine wpList_append_own_none hgd s x t ho base e i 1 ht hi _ _ _ rfl hown hx ?_
    exact h _ _ (by rw [List.append_nil]; exact hown) (Below.refl _ _)
  · refine wpList_append_own w hgd s x t ho base e i z 1 bytes ht hi hz hsize hby hzs (by decide) _ _ _ rfl hown ⟨b, of, none⟩ l2.length c (l2.map (Value.int k)) hx (by simp) ?_ ?_ h63 hbytes hbase ?_
    · intro j u hj
      have hjl : j < l2.length := by
        rcases Nat.lt_or_ge j l2.length with h | h
        · exact h
        · rw [List.getElem?_eq_none (by simpa using h)] at hj; cases hj
      rw [getD_map k l2 j hjl] at hj
      obtain rfl := Option.some.inj hj
      have := hc j hjl
      by_cases h0 : j = 0
      · subst h0; simpa [Addr.add] using this
      · simpa [Addr.add, h0] using this
    · intro u hu
      obtain ⟨n, _, rfl⟩ := List.mem_map.1 hu
      rfl
    · intro v' w' h1 h2 _
      refine h v' w' ?_ (below_grown (Below.refl _ _) hbase hown h2)
      unfold OwnI
      rw [List.length_append, List.map_append]
      exact h1
end
end Go.Proofs.YtdnneognilffaaaGreatDoor
