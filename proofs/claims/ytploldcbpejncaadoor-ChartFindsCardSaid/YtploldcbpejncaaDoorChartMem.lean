
/- Accounts and slices of them in memory, over any program: how they read, what keeps them, rows of them that the call itself owns. -/
import Derived.Test.YtploldcbpejncaaDoorChartLists
import Derived.Test.YtploldcbpejncaaDoorLexMem
namespace Go.Proofs.YtploldcbpejncaaDoor
open Go.RowKit

/-- The account a lies at this place. -/
structure AcctAt (w : World) (b o : Nat) (a : Acct) : Prop where
  c0 : w.cell? ⟨b, o, none⟩ = some (.string a.code)
  c1 : w.cell? ⟨b, o + 1, none⟩ = some (.int .i64 a.cls)
  c2 : w.cell? ⟨b, o + 2, none⟩ = some (.bool a.cash)
  c3 : w.cell? ⟨b, o + 3, none⟩ = some (.bool a.both)
  c4 : w.cell? ⟨b, o + 4, none⟩ = some (.string a.fixed)
  c5 : w.cell? ⟨b, o + 5, none⟩ = some (.bool a.worn)
theorem AcctAt.lt {w : World} {b o : Nat} {a : Acct} (h : AcctAt w b o a) : b < w.heap.size := World.block_lt_of_cell? w _ h.c0
theorem AcctAt.keep {w w' : World} {b o B : Nat} {a : Acct} (h : AcctAt w b o a) (hb : Below B w w') (hB : b < B) : AcctAt w' b o a :=
  ⟨(hb.cell (p := ⟨b, _, none⟩) hB).trans h.c0, (hb.cell (p := ⟨b, _, none⟩) hB).trans h.c1, (hb.cell (p := ⟨b, _, none⟩) hB).trans h.c2, (hb.cell (p := ⟨b, _, none⟩) hB).trans h.c3, (hb.cell (p := ⟨b, _, none⟩) hB).trans h.c4, (hb.cell (p := ⟨b, _, none⟩) hB).trans h.c5⟩
theorem acct_of {w : World} {b o : Nat} {a : Acct} (h : ∀ j v, a.cells[j]? = some v → w.cell? ⟨b, o + j, none⟩ = some v) : AcctAt w b o a :=
  ⟨h 0 _ rfl, h 1 _ rfl, h 2 _ rfl, h 3 _ rfl, h 4 _ rfl, h 5 _ rfl⟩
theorem AcctAt.cell {w : World} {b o : Nat} {a : Acct} (h : AcctAt w b o a) : ∀ (j : Nat) v, a.cells[j]? = some v → w.cell? ⟨b, o + j, none⟩ = some v
  | 0, _, e => by cases e; exact h.c0
  | 1, _, e => by cases e; exact h.c1
  | 2, _, e => by cases e; exact h.c2
  | 3, _, e => by cases e; exact h.c3
  | 4, _, e => by cases e; exact h.c4
  | 5, _, e => by cases e; exact h.c5
  | j + 6, _, e => by simp [Acct.cells] at e
/-- A box that was just laid. -/
theorem acct_new (w : World) (a : Acct) (t : TypeId) : AcctAt (w.alloc (.cells #[.string a.code, .int .i64 a.cls, .bool a.cash, .bool a.both, .string a.fixed, .bool a.worn] t)) w.heap.size 0 a :=
  acct_of fun j v hj => by
    rw [Nat.zero_add, cell_of_row _ w.heap.size j _ t (0, 0) (heap_alloc_new w _)]
    simpa [Acct.cells] using hj

/-- In the world w the slice value v reads as the accounts L. -/
def ChartV (w : World) (v : Value) (L : List Acct) : Prop :=
  ∃ p c, v = .slice p L.length c ∧ L.length ≤ c ∧ c ≤ maxLen ∧ (p = none → c = 0) ∧ ∀ (i : Nat) (x : Acct), L[i]? = some x → ∃ b o, p = some ⟨b, o, none⟩ ∧ AcctAt w b (o + i * 6) x
theorem ChartV.nil (w : World) : ChartV w (.slice none 0 0) [] := ⟨none, 0, rfl, by simp, by simp, fun _ => rfl, fun i x h => by simp at h⟩
theorem ChartV.keep {w w' : World} {v : Value} {L : List Acct} (h : ChartV w v L) (hb : Below w.heap.size w w') : ChartV w' v L := by
  obtain ⟨a, c, e, h1, h2, h3, hc⟩ := h
  exact ⟨a, c, e, h1, h2, h3, fun i x hx => by
    obtain ⟨b, o, ea, hx'⟩ := hc i x hx
    exact ⟨b, o, ea, hx'.keep hb hx'.lt⟩⟩

/-- The cells of accounts. -/
def flatA (L : List Acct) : List Value := L.flatMap Acct.cells
theorem flatA_cons (a : Acct) (L : List Acct) : flatA (a :: L) = a.cells ++ flatA L := rfl
theorem flatA_append (L M : List Acct) : flatA (L ++ M) = flatA L ++ flatA M := by simp [flatA]
theorem flatA_length (L : List Acct) : (flatA L).length = L.length * 6 := by
  induction L with
  | nil => rfl
  | cons a L ih => rw [flatA_cons]; simp [ih, Acct.cells]; omega
theorem flatA_at : ∀ (L : List Acct) (i : Nat) (x : Acct), L[i]? = some x → ∀ (j : Nat) v, x.cells[j]? = some v → (flatA L)[i * 6 + j]? = some v
  | [], i, x, h => by simp at h
  | y :: L, 0, x, h => by
    simp at h
    subst h
    intro j v hj
    have : j < y.cells.length := (List.getElem?_eq_some_iff.1 hj).1
    rw [flatA_cons, Nat.zero_mul, Nat.zero_add, List.getElem?_append_left this]; exact hj
  | y :: L, i + 1, x, h => fun j v hj => by
    have ih := flatA_at L i x (by simpa using h) j v hj
    rw [flatA_cons, show (i + 1) * 6 + j = y.cells.length + (i * 6 + j) by simp [Acct.cells]; omega, List.getElem?_append_right (by omega)]
    simpa using ih
theorem flatA_of {L : List Acct} {k : Nat} {v : Value} (h : (flatA L)[k]? = some v) : ∃ x, L[k / 6]? = some x ∧ x.cells[k % 6]? = some v := by
  have hk : k < L.length * 6 := by rw [← flatA_length]; exact (List.getElem?_eq_some_iff.1 h).1
  have hi : k / 6 < L.length := by omega
  refine ⟨L[k / 6], List.getElem?_eq_getElem hi, ?_⟩
  have hj : k % 6 < (L[k / 6]).cells.length := by simp [Acct.cells]; omega
  have := flatA_at L (k / 6) _ (List.getElem?_eq_getElem hi) (k % 6) _ (List.getElem?_eq_getElem hj)
  rw [show k / 6 * 6 + k % 6 = k by omega, h] at this
  rw [List.getElem?_eq_getElem hj, this]
theorem flatA_one (L : List Acct) : ∀ v ∈ flatA L, v.oneCell' = true := by
  intro v hv
  obtain ⟨a, _, ha⟩ := List.mem_flatMap.1 hv
  simp [Acct.cells] at ha
  rcases ha with rfl | rfl | rfl | rfl | rfl | rfl <;> rfl
theorem flatA_take (L : List Acct) (k : Nat) : flatA (L.take k) = (flatA L).take (k * 6) := by
  induction L generalizing k with
  | nil => simp [flatA]
  | cons a L ih =>
    cases k with
    | zero => simp [flatA]
    | succ k =>
      rw [List.take_succ_cons, flatA_cons, flatA_cons, ih, List.take_append]
      have : a.cells.length = 6 := rfl
      rw [this, show (k + 1) * 6 - 6 = k * 6 by omega, List.take_of_length_le (l := a.cells) (by rw [this]; omega)]
theorem flatA_drop (L : List Acct) (k : Nat) : flatA (L.drop k) = (flatA L).drop (k * 6) := by
  induction L generalizing k with
  | nil => simp [flatA]
  | cons a L ih =>
    cases k with
    | zero => simp
    | succ k =>
      rw [List.drop_succ_cons, flatA_cons, ih, List.drop_append]
      have : a.cells.length = 6 := rfl
      rw [this, show (k + 1) * 6 - 6 = k * 6 by omega, List.drop_of_length_le (l := a.cells) (by rw [this]; omega), List.nil_append]
/-- The cells of a chart, one behind the other. -/
theorem ChartV.cells {w : World} {p : Option Addr} {n c : Nat} {L : List Acct} (h : ChartV w (.slice p n c) L) (hL : L ≠ []) : ∃ b o, p = some ⟨b, o, none⟩ ∧ b < w.heap.size ∧ ∀ (j : Nat) v, (flatA L)[j]? = some v → w.cell? ⟨b, o + j, none⟩ = some v := by
  obtain ⟨p', c', e, _, _, _, hc⟩ := h
  cases e
  cases L with
  | nil => exact absurd rfl hL
  | cons a L =>
    obtain ⟨b, o, rfl, h0⟩ := hc 0 a rfl
    refine ⟨b, o, rfl, h0.lt, fun j v hj => ?_⟩
    obtain ⟨x, hx, hv⟩ := flatA_of hj
    obtain ⟨b', o', e', h1⟩ := hc _ x hx
    cases e'
    have := h1.cell _ v hv
    rwa [Nat.add_assoc, show j / 6 * 6 + j % 6 = j by omega] at this
/-- A row of accounts of the call's own reads as they are. -/
theorem chart_of_own {w : World} {B : Nat} {e : TypeId} {v : Value} {L : List Acct} (h : w.ownsRow B e 6 v L.length (flatA L)) : ChartV w v L := by
  have h0 := h
  rcases h.2 with ⟨rfl, hn⟩ | ⟨g, cap, cur, rfl, _, _, hnc, hcm, _⟩
  · have : L = [] := List.eq_nil_of_length_eq_zero hn
    subst this
    exact ChartV.nil w
  · refine ⟨_, cap, rfl, hnc, hcm, (fun e => by cases e), fun i x hx => ⟨g, 0, rfl, acct_of fun j u hj => ?_⟩⟩
    have := h0.cells (g := g) rfl _ _ (flatA_at L i x hx j u hj)
    rwa [add_off, ← Nat.add_assoc] at this
end Go.Proofs.YtploldcbpejncaaDoor
