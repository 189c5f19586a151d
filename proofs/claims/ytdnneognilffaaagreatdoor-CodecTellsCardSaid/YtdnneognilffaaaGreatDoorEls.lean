
/- Slices of elements of k cells each in memory, and boxes of one element, over any program: how they read, what keeps them, rows of them that the call itself owns. -/
import Derived.Test.YtdnneognilffaaaGreatDoorLexMem
import Derived.Laws.Tables
import Derived.Deep.Draws
import Derived.Deep.WholeRow
namespace Go.Proofs.YtdnneognilffaaaGreatDoor
open Go.RowKit

/-- How the elements of a kind lie: k cells each. -/
structure Enc (α : Type) where
  cs : α → List Value
  k : Nat
  len : ∀ a, (cs a).length = k
  pos : 0 < k
  one : ∀ a, ∀ v ∈ cs a, v.oneCell' = true
section
variable {α : Type} {E : Enc α}
/-- The element a lies at this place. -/
def ElAt (E : Enc α) (w : World) (b o : Nat) (a : α) : Prop := ∀ (j : Nat) v, (E.cs a)[j]? = some v → w.cell? ⟨b, o + j, none⟩ = some v
theorem ElAt.lt {w : World} {b o : Nat} {a : α} (h : ElAt E w b o a) : b < w.heap.size := by
  have h0 : 0 < (E.cs a).length := by rw [E.len]; exact E.pos
  exact World.block_lt_of_cell? w _ (h 0 _ (List.getElem?_eq_getElem h0))
theorem ElAt.keep {w w' : World} {b o B : Nat} {a : α} (h : ElAt E w b o a) (hb : Below B w w') (hB : b < B) : ElAt E w' b o a :=
  fun j v hj => (hb.cell (p := ⟨b, _, none⟩) hB).trans (h j v hj)
theorem ElAt.drewN {w : World} {b o : Nat} {a : α} (h : ElAt E w b o a) (q : Nat) : ElAt E (w.drewN q) b o a := h
theorem ElAt.beside {w w' : World} {b o g : Nat} {a : α} (h : ElAt E w b o a) (hg : w.grownBy w' (some g)) (hn : ∀ o v, w.cell? ⟨g, o, none⟩ ≠ some v) : ElAt E w' b o a := by
  have h0 : 0 < (E.cs a).length := by rw [E.len]; exact E.pos
  have hne : some b ≠ some g := fun e => by
    cases e
    exact hn _ _ (h 0 _ (List.getElem?_eq_getElem h0))
  exact fun j v hj => hg.cell (h j v hj) hne

/-- In the world w the slice value v reads as the elements L. -/
def ElsV (E : Enc α) (w : World) (v : Value) (L : List α) : Prop :=
  ∃ p c, v = .slice p L.length c ∧ L.length ≤ c ∧ c ≤ maxLen ∧ (p = none → c = 0) ∧ ∀ (i : Nat) (x : α), L[i]? = some x → ∃ b o, p = some ⟨b, o, none⟩ ∧ ElAt E w b (o + i * E.k) x
theorem ElsV.nil (w : World) : ElsV E w (.slice none 0 0) [] := ⟨none, 0, rfl, by simp, by simp, fun _ => rfl, fun i x h => by simp at h⟩
theorem ElsV.keep {w w' : World} {v : Value} {L : List α} (h : ElsV E w v L) (hb : Below w.heap.size w w') : ElsV E w' v L := by
  obtain ⟨a, c, e, h1, h2, h3, hc⟩ := h
  exact ⟨a, c, e, h1, h2, h3, fun i x hx => by
    obtain ⟨b, o, ea, hx'⟩ := hc i x hx
    exact ⟨b, o, ea, hx'.keep hb hx'.lt⟩⟩
theorem ElsV.drewN {w : World} {v : Value} {L : List α} (h : ElsV E w v L) (q : Nat) : ElsV E (w.drewN q) v L := h
theorem ElsV.beside {w w' : World} {g : Nat} {v : Value} {L : List α} (h : ElsV E w v L) (hg : w.grownBy w' (some g)) (hn : ∀ o v, w.cell? ⟨g, o, none⟩ ≠ some v) : ElsV E w' v L := by
  obtain ⟨p, c, e, h1, h2, h3, hc⟩ := h
  exact ⟨p, c, e, h1, h2, h3, fun i x hx => by
    obtain ⟨b, o, e', hat⟩ := hc i x hx
    exact ⟨b, o, e', hat.beside hg hn⟩⟩
theorem StrsV.beside {w w' : World} {g : Nat} {v : Value} {ws : List ByteArray} (h : StrsV w v ws) (hg : w.grownBy w' (some g)) (hn : ∀ o v, w.cell? ⟨g, o, none⟩ ≠ some v) : StrsV w' v ws := by
  obtain ⟨p, c, e, h1, h2, hc⟩ := h
  exact ⟨p, c, e, h1, h2, fun i x hx => by
    obtain ⟨b, o, e', hat⟩ := hc i x hx
    exact ⟨b, o, e', hg.cell hat (fun e => by cases e; exact hn _ _ hat)⟩⟩

/-- The cells of elements. -/
def flat (E : Enc α) (L : List α) : List Value := L.flatMap E.cs
theorem flat_nil : flat E [] = [] := rfl
theorem flat_cons (a : α) (L : List α) : flat E (a :: L) = E.cs a ++ flat E L := rfl
theorem flat_one (a : α) : flat E [a] = E.cs a := by simp [flat]
theorem flat_append (L M : List α) : flat E (L ++ M) = flat E L ++ flat E M := by simp [flat]
theorem flat_length (L : List α) : (flat E L).length = L.length * E.k := by
  induction L with
  | nil => simp [flat]
  | cons a L ih => rw [flat_cons, List.length_append, ih, E.len, List.length_cons, Nat.succ_mul]; omega
theorem flat_at : ∀ (L : List α) (i : Nat) (x : α), L[i]? = some x → ∀ (j : Nat) v, (E.cs x)[j]? = some v → (flat E L)[i * E.k + j]? = some v
  | [], i, x, h => by simp at h
  | y :: L, 0, x, h => by
    simp at h
    subst h
    intro j v hj
    have : j < (E.cs y).length := (List.getElem?_eq_some_iff.1 hj).1
    rw [flat_cons, Nat.zero_mul, Nat.zero_add, List.getElem?_append_left this]; exact hj
  | y :: L, i + 1, x, h => fun j v hj => by
    have ih := flat_at L i x (by simpa using h) j v hj
    rw [flat_cons, show (i + 1) * E.k + j = (E.cs y).length + (i * E.k + j) by rw [E.len, Nat.succ_mul]; omega, List.getElem?_append_right (by omega)]
    simpa using ih
theorem flat_of {L : List α} {k : Nat} {v : Value} (h : (flat E L)[k]? = some v) : ∃ x, L[k / E.k]? = some x ∧ (E.cs x)[k % E.k]? = some v := by
  have hk : k < L.length * E.k := by rw [← flat_length]; exact (List.getElem?_eq_some_iff.1 h).1
  have hi : k / E.k < L.length := Nat.div_lt_of_lt_mul (by rw [Nat.mul_comm]; exact hk)
  refine ⟨L[k / E.k], List.getElem?_eq_getElem hi, ?_⟩
  have hj : k % E.k < (E.cs L[k / E.k]).length := by rw [E.len]; exact Nat.mod_lt _ E.pos
  have := flat_at L (k / E.k) _ (List.getElem?_eq_getElem hi) (k % E.k) _ (List.getElem?_eq_getElem hj)
  rw [Nat.mul_comm, Nat.div_add_mod, h] at this
  rw [List.getElem?_eq_getElem hj, this]
theorem flat_ones (L : List α) : ∀ v ∈ flat E L, v.oneCell' = true := by
  intro v hv
  obtain ⟨a, _, ha⟩ := List.mem_flatMap.1 hv
  exact E.one a v ha
theorem flat_take (L : List α) (k : Nat) : flat E (L.take k) = (flat E L).take (k * E.k) := by
  induction L generalizing k with
  | nil => simp [flat]
  | cons a L ih =>
    cases k with
    | zero => simp [flat]
    | succ k =>
      rw [List.take_succ_cons, flat_cons, flat_cons, ih, List.take_append, E.len, show (k + 1) * E.k - E.k = k * E.k by rw [Nat.succ_mul]; omega, List.take_of_length_le (l := E.cs a) (by rw [E.len, Nat.succ_mul]; omega)]
theorem flat_drop (L : List α) (k : Nat) : flat E (L.drop k) = (flat E L).drop (k * E.k) := by
  induction L generalizing k with
  | nil => simp [flat]
  | cons a L ih =>
    cases k with
    | zero => simp
    | succ k =>
      rw [List.drop_succ_cons, flat_cons, ih, List.drop_append, E.len, show (k + 1) * E.k - E.k = k * E.k by rw [Nat.succ_mul]; omega, List.drop_of_length_le (l := E.cs a) (by rw [E.len, Nat.succ_mul]; omega), List.nil_append]
/-- The cells of a slice, one behind the other. -/
theorem ElsV.cells {w : World} {p : Option Addr} {n c : Nat} {L : List α} (h : ElsV E w (.slice p n c) L) (hL : L ≠ []) : ∃ b o, p = some ⟨b, o, none⟩ ∧ b < w.heap.size ∧ ∀ (j : Nat) v, (flat E L)[j]? = some v → w.cell? ⟨b, o + j, none⟩ = some v := by
  obtain ⟨p', c', e, _, _, _, hc⟩ := h
  cases e
  cases L with
  | nil => exact absurd rfl hL
  | cons a L =>
    obtain ⟨b, o, rfl, h0⟩ := hc 0 a rfl
    refine ⟨b, o, rfl, h0.lt, fun j v hj => ?_⟩
    obtain ⟨x, hx, hv⟩ := flat_of hj
    obtain ⟨b', o', e', h1⟩ := hc _ x hx
    cases e'
    have := h1 _ v hv
    rwa [Nat.add_assoc, Nat.mul_comm, Nat.div_add_mod] at this
/-- A row of elements of the call's own reads as they are. -/
theorem els_of_own {w : World} {B : Nat} {e : TypeId} {v : Value} {L : List α} (h : w.ownsRow B e E.k v L.length (flat E L)) : ElsV E w v L := by
  have h0 := h
  rcases h.2 with ⟨rfl, hn⟩ | ⟨g, cap, cur, rfl, _, _, hnc, hcm, _⟩
  · have : L = [] := List.eq_nil_of_length_eq_zero hn
    subst this
    exact ElsV.nil w
  · refine ⟨_, cap, rfl, hnc, hcm, (fun e => by cases e), fun i x hx => ⟨g, 0, rfl, fun j u hj => ?_⟩⟩
    have := h0.cells (g := g) rfl _ _ (flat_at L i x hx j u hj)
    rwa [add_off, ← Nat.add_assoc] at this

/-- A box of an element that may be written. -/
def BoxE (E : Enc α) (w : World) (b : Nat) (t : TypeId) (a : α) : Prop := w.heap[b]? = some (.cells (E.cs a).toArray t (0, 0))
theorem BoxE.lt {w : World} {b : Nat} {t : TypeId} {a : α} (h : BoxE E w b t a) : b < w.heap.size := (Array.getElem?_eq_some_iff.1 h).1
theorem BoxE.keep {w w' : World} {b B : Nat} {t : TypeId} {a : α} (h : BoxE E w b t a) (hb : Below B w w') (hB : b < B) : BoxE E w' b t a := (hb.block b hB).trans h
theorem BoxE.kept {w w' : World} {b : Nat} {t : TypeId} {a : α} (h : BoxE E w b t a) (hb : Below w.heap.size w w') : BoxE E w' b t a := h.keep hb h.lt
theorem BoxE.new (E : Enc α) (w : World) (a : α) (t : TypeId) : BoxE E (w.alloc (.cells (E.cs a).toArray t)) w.heap.size t a := heap_alloc_new w _
theorem BoxE.at0 {w : World} {b : Nat} {t : TypeId} {a : α} (h : BoxE E w b t a) : ElAt E w b 0 a :=
  fun j v hj => by rw [Nat.zero_add, cell_of_row _ b j _ t (0, 0) h]; simpa using hj
theorem grownBy_set (w : World) (g : Nat) (cs : Array Value) : w.grownBy (w.setRow g cs) (some g) :=
  ⟨rfl, rfl, rfl, by simp [World.setRow], fun k _ hk => setRow_other w g k cs (fun e => hk (by rw [e]))⟩
/-- An element stored into a box. -/
theorem wpList_store_el {P : Program} {ops : Array Oper} {rest : List Oper} {o : Oper} {act : Act} {w : World} {Q : Exit → Act → World → Prop} (hgd : o.guard = none) (ty : TypeId) (x y : Operand) (ho : o.op = .store ty x y)
    (g : Nat) (z a : α) (t : TypeId) (hx : act.eval x = .pointer (some ⟨g, 0, none⟩)) (hy : act.eval y = .agg (E.cs a).toArray) (hg : BoxE E w g t z) (hi : (P.info? ty).map (·.size) = some E.k)
    (h : ∀ w', BoxE E w' g t a → w.grownBy w' (some g) → wpList P ops Q rest (act.put o.dst undef) w') : wpList P ops Q (o :: rest) act w :=
  wpList_store_row hgd ty x y ho g _ hx hy t _ hg (by rw [hi]; simp [E.len]) (by simp [E.len]) (by simp only [List.all_toArray, List.all_eq_true]; exact fun v hv => E.one a v hv) (h _ (setRow_heap w g _ _ t _ hg) (grownBy_set w g _))
/-- A slice of elements that was just laid. -/
theorem els_new (E : Enc α) (w : World) (L : List α) (t : TypeId) (hl : L.length ≤ maxLen) : ElsV E (w.alloc (.cells (flat E L).toArray t)) (.slice (some ⟨w.heap.size, 0, none⟩) L.length L.length) L :=
  ⟨_, _, rfl, Nat.le_refl _, hl, (fun e => by cases e), fun i x hx => ⟨w.heap.size, 0, rfl, fun j v hj => by
    rw [cell_of_row _ w.heap.size _ _ t (0, 0) (heap_alloc_new w _), Nat.zero_add]
    simpa using flat_at L i x hx j v hj⟩⟩
/-- Elements of other kinds whose cells are the same. -/
theorem ElsV.map {β : Type} {F : Enc β} {w : World} {v : Value} {L : List α} (f : α → β) (hk : F.k = E.k) (hf : ∀ a, F.cs (f a) = E.cs a) (h : ElsV E w v L) : ElsV F w v (L.map f) := by
  obtain ⟨p, c, e, h1, h2, h3, hc⟩ := h
  refine ⟨p, c, by simpa using e, by simpa using h1, h2, h3, fun i y hy => ?_⟩
  rw [List.getElem?_map] at hy
  cases hx : L[i]? with
  | none => rw [hx] at hy; cases hy
  | some x =>
    rw [hx] at hy
    cases hy
    obtain ⟨b, o, e', hat⟩ := hc i x hx
    exact ⟨b, o, e', fun j v hj => by rw [hk]; exact hat j v (by rw [← hf]; exact hj)⟩
end
end Go.Proofs.YtdnneognilffaaaGreatDoor
