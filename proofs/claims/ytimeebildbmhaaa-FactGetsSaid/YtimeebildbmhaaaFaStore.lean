
/- An element stored into its place in a row of the call's own; parts of a slice of facts; facts in another order. -/
import Derived.Test.YtimeebildbmhaaaFaFacts
import Derived.Test.YtimeebildbmhaaaFaOurs
import Derived.Test.YtimeebildbmhaaaFaAdd
import Derived.Deep.OwnRows
import Derived.Shelf.SlicesQ.Reverse
namespace Go.Proofs.Ytimeebildbmhaaa.Fa
open Go.RowKit

/-- Cells put into a list. -/
def putL : List Value → Nat → List Value → List Value
  | xs, _, [] => xs
  | xs, o, v :: r => putL (xs.set o v) (o + 1) r
theorem putL_mid : ∀ (vs A X D : List Value), X.length = vs.length → putL (A ++ X ++ D) A.length vs = A ++ vs ++ D
  | [], A, X, D, h => by
    have : X = [] := List.eq_nil_of_length_eq_zero h
    subst this
    rfl
  | v :: vs, A, [], D, h => by simp at h
  | v :: vs, A, x :: X, D, h => by
    have e : (A ++ x :: X ++ D).set A.length v = (A ++ [v]) ++ X ++ D := by
      rw [List.append_assoc, List.set_append_right _ _ (Nat.le_refl _), Nat.sub_self]
      simp
    have ih := putL_mid vs (A ++ [v]) X D (by simpa using h)
    rw [List.length_append, List.length_singleton] at ih
    show putL ((A ++ x :: X ++ D).set A.length v) (A.length + 1) vs = _
    rw [e, ih]
    simp
theorem putL_flat {α : Type} (E : Enc α) (L : List α) (i : Nat) (y : α) (hi : i < L.length) : putL (flat E L) (i * E.k) (E.cs y) = flat E (L.set i y) := by
  have e : L = L.take i ++ L[i] :: L.drop (i + 1) := by rw [← List.drop_eq_getElem_cons hi, List.take_append_drop]
  have e2 : L.set i y = L.take i ++ y :: L.drop (i + 1) := by rw [List.set_eq_take_append_cons_drop, if_pos hi]
  have h1 : (flat E (L.take i)).length = i * E.k := by rw [flat_length, List.length_take, Nat.min_eq_left (by omega)]
  conv => lhs; rw [e]
  rw [flat_append, flat_cons, ← List.append_assoc, ← h1, putL_mid (E.cs y) _ _ _ (by rw [E.len, E.len]), e2, flat_append, flat_cons, List.append_assoc]
theorem stored_cells {w : World} {B g s n c : Nat} {e : TypeId} {xs : List Value} (h : w.ownsRow B e s (.slice (some ⟨g, 0, none⟩) n c) n xs) : ∀ (vs : List Value) (o : Nat), (w.setCells g o vs).ownsRow B e s (.slice (some ⟨g, 0, none⟩) n c) n (putL xs o vs) ∧ w.grownBy (w.setCells g o vs) (some g) := by
  intro vs
  induction vs generalizing w xs with
  | nil => intro o; exact ⟨h, World.grownBy.refl w _⟩
  | cons v vs ih =>
    intro o
    obtain ⟨s1, g1⟩ := World.ownsRow.stored h o v
    obtain ⟨s2, g2⟩ := ih s1 (o + 1)
    exact ⟨s2, g1.trans g2⟩
theorem wp_store_part {α : Type} {E : Enc α} {P : Program} {o : Oper} {a : Act} {w : World} {K : Act → World → Prop} {Q : Exit → Act → World → Prop} (ty : TypeId) (x y : Operand) (ho : o.op = .store ty x y)
    (B g n c : Nat) (e : TypeId) (L : List α) (i : Nat) (z : α) (hx : a.eval x = .pointer (some ⟨g, i * E.k, none⟩)) (hy : a.eval y = .agg (E.cs z).toArray) (hrow : w.ownsRow B e E.k (.slice (some ⟨g, 0, none⟩) n c) n (flat E L)) (hn : L.length = n) (hi : i < n) (hti : (P.info? ty).map (·.size) = some E.k)
    (h : ∀ w', w'.ownsRow B e E.k (.slice (some ⟨g, 0, none⟩) n c) n (flat E (L.set i z)) → w.grownBy w' (some g) → K (a.put o.dst undef) w') : o.wp P a w K Q := by
  subst hn
  have hfr : ∀ j, w.frozen? ⟨g, j, none⟩ = false := fun j => by
    rcases hrow.2 with ⟨h', _⟩ | ⟨g', cap', cur, h', _, hg, _⟩
    · cases h'
    · cases h'; simp [World.frozen?, hg]
  have hst := run_storeCells_cells (P := P) g (i * E.k) (E.cs z) 0 w (fun j hj => by
      rw [E.len] at hj
      have hxl : j < (E.cs L[i]).length := by rw [E.len]; exact hj
      have := hrow.cells (g := g) rfl _ _ (flat_at L i L[i] (List.getElem?_eq_getElem hi) j _ (List.getElem?_eq_getElem hxl))
      rw [add_off, Nat.zero_add] at this
      rw [Nat.add_zero, this]; rfl) (fun j _ => hfr _) (E.one z)
  rw [Nat.add_zero] at hst
  have hrun : (storeVar ty ⟨g, i * E.k, none⟩ (.agg (E.cs z).toArray)).run P w = .ok () (w.setCells g (i * E.k) (E.cs z)) := by
    cases hq : P.info? ty with
    | none => simp [hq] at hti
    | some inf =>
      have hs : E.k = inf.size := by simp [hq] at hti; omega
      simp [storeVar, sizeOf, typeInfo, hq, Value.cells, hs.symm, E.len, hst]
  obtain ⟨h1, h2⟩ := stored_cells hrow (E.cs z) (i * E.k)
  rw [putL_flat E L i z hi] at h1
  unfold Oper.wp execOp
  simp only [ho, hx, hy, Instr.storeAt, Instr.sureAddr, Sem.run_bind, Sem.run_pure, Result.andThen_ok, hrun]
  exact h _ h1 h2
/-- Elements appended, at the operation; the source lies at an address. -/
theorem wp_append_els {α : Type} {E : Enc α} {P : Program} {o : Oper} {a : Act} {w : World} {K : Act → World → Prop} {Q : Exit → Act → World → Prop} (s x : Operand) (t e : TypeId) (ho : o.op = .call { callee := .builtin .append, args := #[s, x], argTypes := #[t, t] }) (HI : InfoE P t e E)
    (B : Nat) (v : Value) (L M : List α) (hs : a.eval s = v) (hrow : w.ownsRow B e E.k v L.length (flat E L)) (ad : Addr) (m c : Nat) (hu : a.eval x = .slice (some ad) m c) (hx : ElsV E w (.slice (some ad) m c) M) (hB : B ≤ w.heap.size) (hL : L.length + M.length ≤ 1000000)
    (h : ∀ v' w', w'.ownsRow B e E.k v' (L ++ M).length (flat E (L ++ M)) → Below B w w' → K (a.put o.dst v') w') : o.wp P a w K Q := by
  obtain ⟨i, z, mm, hi, hz, hsz, hn, hzs, hb⟩ := HI.info
  have hm : m = M.length := by obtain ⟨_, _, ev, _⟩ := id hx; cases ev; rfl
  subst hm
  refine wp_append_own w s x t ho B e i z E.k mm HI.under hi hz hsz hn hzs E.pos v L.length _ hs hrow ad M.length c (flat E M) hu (flat_length M) (fun j w' hj => ?_) (flat_ones M) (by unfold maxLen; omega) (Nat.le_trans (Nat.mul_le_mul hL hb) (by decide)) hB ?_
  · by_cases hne : M = []
    · subst hne; simp [flat] at hj
    · obtain ⟨b, of, e, _, hcell⟩ := hx.cells hne
      cases e
      rw [add_off]; exact hcell j w' hj
  · intro v' w' h1 h2 _
    exact h v' w' (by rw [flat_append, List.length_append]; exact h1) (below_grown (Below.refl _ _) hB hrow h2)
/-! ### Parts of a slice -/
theorem part_t : Try.prog.underlying 22 = some (.slice (Try.prog.elem 22)) := by kernel_rfl
theorem part_s (w : World) : (sizeOf (Try.prog.elem 22)).run Try.prog w = .ok 6 w := by kernel_rfl
theorem part_lo (w : World) (b o N cap q : Nat) (h1 : q < N) (h2 : N ≤ cap) : (Instr.slice 22 (.slice (some ⟨b, o, none⟩) N cap) (some (.int .i64 (q : Int))) none none).run Try.prog w = .ok (.slice (some ((⟨b, o, none⟩ : Addr).add (q * 6))) (N - q) (cap - q)) w := by
  rw [run_slice_l w _ _ N cap part_t .i64 (q : Int) (by omega) (by omega), part_s]
  have : ¬ cap = q := by omega
  simp [Result.andThen, sliced, this]
theorem part_hi (w : World) (b o N cap q : Nat) (h1 : q < N) (h2 : N ≤ cap) : (Instr.slice 22 (.slice (some ⟨b, o, none⟩) N cap) none (some (.int .i64 (q : Int))) none).run Try.prog w = .ok (.slice (some ⟨b, o, none⟩) q cap) w := by
  rw [run_slice_h w _ _ N cap part_t .i64 (q : Int) (by omega) (by omega), part_s]
  simp [Result.andThen, sliced, Addr.add]
theorem facts_drop {w : World} {b o n c q : Nat} {L : List Fact} (h : FactsV w (.slice (some ⟨b, o, none⟩) n c) L) (hn : L.length = n) (hq : q < n) : FactsV w (.slice (some ((⟨b, o, none⟩ : Addr).add (q * 6))) (n - q) (c - q)) (L.drop q) := by
  obtain ⟨p', c', e, h1, h2, h3, hc⟩ := h
  cases e
  rw [add_off]
  refine ⟨_, c - q, by rw [List.length_drop], by rw [List.length_drop]; omega, by omega, (fun e => by cases e), fun i x hx => ⟨b, o + q * 6, rfl, ?_⟩⟩
  rw [List.getElem?_drop] at hx
  obtain ⟨b', o', e', hat⟩ := hc (q + i) x hx
  cases e'
  rw [show o + q * 6 + i * encF.k = o + (q + i) * encF.k by show o + q * 6 + i * 6 = o + (q + i) * 6; omega]
  exact hat
theorem facts_take {w : World} {b o n c q : Nat} {L : List Fact} (h : FactsV w (.slice (some ⟨b, o, none⟩) n c) L) (hn : L.length = n) (hq : q < n) : FactsV w (.slice (some ⟨b, o, none⟩) q c) (L.take q) := by
  obtain ⟨p', c', e, h1, h2, h3, hc⟩ := h
  cases e
  refine ⟨_, c, by rw [List.length_take, Nat.min_eq_left (by omega)], by rw [List.length_take]; omega, h2, (fun e => by cases e), fun i x hx => ?_⟩
  rw [List.getElem?_take] at hx
  split at hx
  · exact hc i x hx
  · cases hx
/-! ### Facts in another order -/
theorem isum_perm {l l' : List Fact} (h : l.Perm l') (k : Key) : isum l k = isum l' k := by
  induction h with
  | nil => rfl
  | cons x _ ih => rw [isum_cons, isum_cons, ih]
  | swap x y l => rw [isum_cons, isum_cons, isum_cons, isum_cons]; omega
  | trans _ _ ih1 ih2 => exact ih1.trans ih2
theorem swap_perm {α : Type} {l : List α} {i j : Nat} {x y : α} (hx : l[i]? = some x) (hy : l[j]? = some y) : ((l.set i y).set j x).Perm l := by
  obtain ⟨hi, rfl⟩ := List.getElem?_eq_some_iff.1 hx
  obtain ⟨hj, rfl⟩ := List.getElem?_eq_some_iff.1 hy
  exact List.set_set_perm hi hj
end Go.Proofs.Ytimeebildbmhaaa.Fa
