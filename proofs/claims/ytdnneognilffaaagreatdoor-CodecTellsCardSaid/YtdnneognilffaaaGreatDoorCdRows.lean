
/- Lines that a call makes one by one, each with words in a row of its own: what an append keeps. (As in UnitRows, for programs without master data.) -/
import Derived.Test.YtdnneognilffaaaGreatDoorLexJoin
namespace Go.Proofs.YtdnneognilffaaaGreatDoor.Cd
open Go.RowKit

/-- Lines without a number. -/
abbrev zn (K : List (List ByteArray)) : List (Int × List ByteArray) := K.map fun ws => ((0 : Int), ws)
/-- The call's own row of lines (elements of the type t), each with words in a row of its own. -/
def RowsAt (W : World) (B : Nat) (t : TypeId) (v : Value) (K : List (List ByteArray)) : Prop :=
  ∃ LV, W.ownsRow B t 2 v LV.length (flatL LV) ∧ WordsOwn W B 9 LV (zn K)
theorem RowsAt.nil (W : World) (B : Nat) (t : TypeId) : RowsAt W B t (.slice none 0 0) [] := ⟨[], World.ownsRow_nil _ _ _ _, WordsOwn.nil _ _ _⟩
theorem RowsAt.below {W W' : World} {B : Nat} {t : TypeId} {v : Value} {K : List (List ByteArray)} (h : RowsAt W B t v K) (hb : Below W.heap.size W W') : RowsAt W' B t v K := by
  obtain ⟨LV, h1, h2⟩ := h
  exact ⟨LV, row_below h1 hb, h2.mono fun u n xs hu => row_below hu hb⟩
theorem RowsAt.lines {W : World} {B : Nat} {t : TypeId} {v : Value} {K : List (List ByteArray)} (h : RowsAt W B t v K) : LinesV W v (zn K) := by
  obtain ⟨LV, h1, h2⟩ := h
  exact lines_of_in h1 h2.isIn
/-- A block of another kind is not the rows'. -/
theorem RowsAt.apart {W : World} {B : Nat} {t e : TypeId} {v : Value} {K : List (List ByteArray)} {R : Nat} {cs : Array Value} {fr : Nat × Nat} (h : RowsAt W B t v K) (hb : W.heap[R]? = some (.cells cs e fr)) (hne : e ≠ t) : some R ≠ v.ownBlock := by
  obtain ⟨LV, h1, _⟩ := h
  rcases h1.2 with ⟨rfl, _⟩ | ⟨g, cap, cur, rfl, _, hg, _⟩
  · simp [Value.ownBlock]
  · intro e0
    obtain rfl : R = g := by simpa [Value.ownBlock] using e0
    rw [hb] at hg
    simp at hg
    exact hne hg.2.1
/-- A line more. -/
theorem wpList_append_line {P : Program} {ops : Array Oper} {rest : List Oper} {o : Oper} {a : Act} {w : World} {Q : Exit → Act → World → Prop} (hgd : o.guard = none) (s x : Operand) (t : TypeId) (ho : o.op = .call { callee := .builtin .append, args := #[s, x], argTypes := #[t, t] })
    (B : Nat) (e : TypeId) (i : TypeInfo) (ht : P.underlying t = some (.slice e)) (hi : P.info? e = some i) (hz : i.zero = some (.agg #[.int .i64 0, .slice none 0 0])) (hsz : i.size = 2) (hby : i.bytes = 32) (hne : e ≠ 9)
    (K : List (List ByteArray)) (ws : List ByteArray) (u : Value) (g : Nat) (hrow : RowsAt w B e (a.eval s) K) (hx : a.eval x = .slice (some ⟨g, 0, none⟩) 1 1) (c0 : w.cell? ⟨g, 0, none⟩ = some (.int .i64 0)) (c1 : w.cell? ⟨g, 1, none⟩ = some u) (hu : w.ownsRow B 9 1 u ws.length (ws.map Value.string)) (hB : B ≤ w.heap.size) (hK : K.length ≤ 100000)
    (h : ∀ v' w', RowsAt w' B e v' (K ++ [ws]) → Below B w w' → w.grownBy w' (a.eval s).ownBlock → wpList P ops Q rest (a.put o.dst v') w') : wpList P ops Q (o :: rest) a w := by
  obtain ⟨LV, h1, h2⟩ := hrow
  have hlen : LV.length = K.length := by have := h2.1; simpa [zn] using this
  have hu1 : ∃ p c, u = .slice p ws.length c := by
    rcases hu.2 with ⟨rfl, e0⟩ | ⟨g', cap, cur, rfl, _⟩
    · exact ⟨none, 0, by rw [e0]⟩
    · exact ⟨_, _, rfl⟩
  obtain ⟨pu, cu, rfl⟩ := hu1
  refine wpList_append_own w hgd s x t ho B e i _ 2 32 ht hi hz hsz hby rfl (by decide) _ _ _ rfl h1 ⟨g, 0, none⟩ 1 1 [.int .i64 0, .slice pu ws.length cu] hx rfl (fun j v hj => ?_) (by intro v hv; simp at hv; rcases hv with rfl | rfl <;> rfl) (by unfold maxLen; omega) (by omega) hB ?_
  · match j, hj with
    | 0, hj => cases hj; rw [add_off]; exact c0
    | 1, hj => cases hj; rw [add_off]; exact c1
    | j + 2, hj => simp at hj
  · intro v' w' h3 h4 _
    refine h v' w' ⟨LV ++ [((0 : Int), .slice pu ws.length cu)], ?_, ?_⟩ (below_grown (Below.refl _ _) hB h1 h4) h4
    · rw [flatL_snoc, List.length_append]; exact h3
    · have hk : ∀ (q : Value) (n : Nat) (xs : List Value), w.ownsRow B 9 1 q n xs → w'.ownsRow B 9 1 q n xs := fun q n xs hq => hq.kept h4 (row_apart h1 hq hne)
      have := (h2.mono hk).snoc 0 _ ws (hk _ _ _ hu)
      simpa [zn] using this
theorem own_new (w : World) (ws : List ByteArray) (t : TypeId) (hl : ws.length ≤ maxLen) : (w.alloc (.cells (ws.map Value.string).toArray t)).ownsRow w.heap.size t 1 (.slice (some ⟨w.heap.size, 0, none⟩) ws.length ws.length) ws.length (ws.map Value.string) :=
  ⟨by simp, .inr ⟨w.heap.size, ws.length, _, rfl, Nat.le_refl _, heap_alloc_new w _, Nat.le_refl _, hl, by simp, by simp [List.take_of_length_le]⟩⟩
theorem line_new (w : World) (u : Value) (t : TypeId) : (w.alloc (.cells #[.int .i64 0, u] t)).cell? ⟨w.heap.size, 0, none⟩ = some (.int .i64 0) ∧ (w.alloc (.cells #[.int .i64 0, u] t)).cell? ⟨w.heap.size, 1, none⟩ = some u :=
  ⟨(cell_of_row _ w.heap.size 0 _ t (0, 0) (heap_alloc_new w _)).trans rfl, (cell_of_row _ w.heap.size 1 _ t (0, 0) (heap_alloc_new w _)).trans rfl⟩
theorem row_slice' {W : World} {B : Nat} {e : TypeId} {s : Nat} {v : Value} {n : Nat} {xs : List Value} (h : W.ownsRow B e s v n xs) : ∃ a c, v = .slice a n c := by
  rcases h.2 with ⟨rfl, rfl⟩ | ⟨g, cap, cur, rfl, _⟩
  · exact ⟨none, 0, rfl⟩
  · exact ⟨_, _, rfl⟩
/-- One line, just laid. -/
theorem rows_one (W : World) (B : Nat) (t : TypeId) (u : Value) (ws : List ByteArray) (hu : W.ownsRow B 9 1 u ws.length (ws.map Value.string)) (hB : B ≤ W.heap.size) : RowsAt (W.alloc (.cells #[.int .i64 0, u] t)) B t (.slice (some ⟨W.heap.size, 0, none⟩) 1 1) [ws] := by
  refine ⟨[((0 : Int), u)], ?_, ?_⟩
  · refine ⟨by simp [flatL], .inr ⟨W.heap.size, 1, _, rfl, hB, heap_alloc_new W _, by simp, by unfold maxLen; omega, by simp, by simp [flatL]⟩⟩
  · exact (WordsOwn.nil (W.alloc (.cells #[.int .i64 0, u] t)) B 9).snoc 0 u ws (row_below hu ((Below.refl _ _).alloc (Nat.le_refl _) _))
end Go.Proofs.YtdnneognilffaaaGreatDoor.Cd
