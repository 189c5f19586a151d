
/- What a stable sort by keys makes of facts: of each key, rising, its facts in order. No program in it. -/
import Derived.Test.YtimeebildbmhaaaFaPlain
import Derived.Test.YtimeebildbmhaaaSortKStable
namespace Go.Proofs.Ytimeebildbmhaaa.Fa
open Go.Sort

/-! ### Lists without twice the same -/
theorem nodup_le {α : Type} [DecidableEq α] : ∀ (L M : List α), L.Nodup → (∀ x ∈ L, x ∈ M) → L.length ≤ M.length
  | [], _, _, _ => Nat.zero_le _
  | a :: L, M, h, hm => by
    obtain ⟨h1, h2⟩ := List.nodup_cons.1 h
    have ha := hm a (List.mem_cons_self ..)
    have := nodup_le L (M.erase a) h2 (fun x hx => (List.mem_erase_of_ne (fun e => h1 (by rw [← e]; exact hx))).2 (hm x (List.mem_cons_of_mem _ hx)))
    rw [List.length_erase_of_mem ha] at this
    have hp := List.length_pos_of_mem ha
    rw [List.length_cons]; omega
theorem nodup_all {α : Type} [DecidableEq α] {L M : List α} (h : L.Nodup) (hm : ∀ x ∈ L, x ∈ M) (hl : M.length ≤ L.length) : ∀ x ∈ M, x ∈ L := by
  intro x hx
  by_cases c : x ∈ L
  · exact c
  · have := nodup_le (x :: L) M (List.nodup_cons.2 ⟨c, h⟩) (fun y hy => by
      rcases List.mem_cons.1 hy with rfl | hy
      · exact hx
      · exact hm y hy)
    rw [List.length_cons] at this; omega
theorem pairs_uniq {α : Type} {T : α → α → Prop} (hi : ∀ x, ¬ T x x) (ht : ∀ {x y z}, T x y → T y z → T x z) : ∀ {L M : List α}, L.Pairwise T → M.Pairwise T → (∀ x, x ∈ L ↔ x ∈ M) → L = M
  | [], [], _, _, _ => rfl
  | [], b :: M, _, _, h => absurd ((h b).2 (List.mem_cons_self ..)) (by simp)
  | a :: L, [], _, _, h => absurd ((h a).1 (List.mem_cons_self ..)) (by simp)
  | a :: L, b :: M, hL, hM, h => by
    obtain ⟨h1, h2⟩ := List.pairwise_cons.1 hL
    obtain ⟨k1, k2⟩ := List.pairwise_cons.1 hM
    have e : a = b := by
      rcases List.mem_cons.1 ((h a).1 (List.mem_cons_self ..)) with e | ha
      · exact e
      · rcases List.mem_cons.1 ((h b).2 (List.mem_cons_self ..)) with e | hb
        · exact e.symm
        · exact absurd (ht (h1 b hb) (k1 a ha)) (hi a)
    subst e
    rw [pairs_uniq hi ht h2 k2 fun x => ⟨fun hx => ?_, fun hx => ?_⟩]
    · rcases List.mem_cons.1 ((h x).1 (List.mem_cons_of_mem _ hx)) with e | hx'
      · exact absurd (h1 x hx) (by rw [e]; exact hi a)
      · exact hx'
    · rcases List.mem_cons.1 ((h x).2 (List.mem_cons_of_mem _ hx)) with e | hx'
      · exact absurd (k1 x hx) (by rw [e]; exact hi a)
      · exact hx'

/-! ### Facts with their places -/
/-- Ahead by its key, and of the same key by its place. -/
def TT (x y : Fact × Nat) : Prop := ltK x.1.key y.1.key ∨ (x.1.key = y.1.key ∧ x.2 < y.2)
theorem TT_trans (x y z : Fact × Nat) (h1 : TT x y) (h2 : TT y z) : TT x z := by
  rcases h1 with h1 | ⟨e1, h1⟩ <;> rcases h2 with h2 | ⟨e2, h2⟩
  · exact .inl (ltK_trans h1 h2)
  · exact .inl (by rw [← e2]; exact h1)
  · exact .inl (by rw [e1]; exact h2)
  · exact .inr ⟨e1.trans e2, Nat.lt_trans h1 h2⟩
theorem TT_irr (x : Fact × Nat) : ¬ TT x x := by rintro (h | ⟨_, h⟩); exact ltK_irr _ h; omega
def cfT (x y : Fact × Nat) : Int := cmpK x.1.key y.1.key
theorem tellsT : Tells (ltOf cfT) TT (fun x => x.2) := by
  intro x y hv
  unfold ltOf cfT TT
  refine ⟨fun h => .inl (of_decide_eq_true h), fun h => ?_⟩
  have h' : ¬ ltK y.1.key x.1.key := of_decide_eq_false h
  by_cases e : x.1.key = y.1.key
  · exact .inr ⟨e, hv⟩
  · exact .inl (ltK_total h' (fun e' => e e'.symm))
/-- Of each key, rising, its facts in order. -/
def sortedL (l : List Fact) : List Fact := (keysL l).flatMap fun k => l.filter fun f => decide (f.key = k)
def tagL (l : List Fact) : Array (Fact × Nat) := l.zipIdx.toArray
theorem tag_size (l : List Fact) : (tagL l).size = l.length := by simp [tagL]
theorem tag_at (l : List Fact) (i : Nat) (hi : i < l.length) : (tagL l)[i]! = (l[i], i) := by
  unfold tagL
  rw [getElem!_pos _ _ (by simpa using hi)]
  simp
theorem tag_mem (l : List Fact) (x : Fact × Nat) : x ∈ l.zipIdx ↔ l[x.2]? = some x.1 := by
  rw [List.mem_zipIdx_iff_getElem?]
theorem asc_pairs {T : Fact × Nat → Fact × Nat → Prop} {n : Nat} {d : Array (Fact × Nat)} (hs : d.size = n) (h : Asc T 0 n d) : d.toList.Pairwise T := by
  rw [List.pairwise_iff_getElem]
  intro i j hi hj hij
  have hi' : i < d.size := by simpa using hi
  have hj' : j < d.size := by simpa using hj
  have := h i j (Nat.zero_le _) hij (by omega)
  rw [getElem!_pos d i hi', getElem!_pos d j hj'] at this
  simpa using this
theorem sorted_of (l : List Fact) (d : Array (Fact × Nat)) (hs : d.size = l.length) (h : Asc TT 0 l.length d) (hk : Keep 0 l.length (tagL l) d) : d.toList.map Prod.fst = sortedL l := by
  have hp := asc_pairs hs h
  have hmem : ∀ x ∈ d.toList, x ∈ l.zipIdx := by
    intro x hx
    obtain ⟨i, hi, rfl⟩ := List.getElem_of_mem hx
    have hi' : i < d.size := by simpa using hi
    obtain ⟨j, _, hj, e⟩ := hk.2.2 i (Nat.zero_le _) (by omega)
    rw [getElem!_pos d i hi', tag_at l j hj] at e
    rw [Array.getElem_toList, e, tag_mem]
    exact List.getElem?_eq_getElem hj
  have hnd : d.toList.Nodup := hp.imp (fun {a b} hab e => by subst e; exact TT_irr _ hab)
  have hall := nodup_all hnd hmem (by simp [hs])
  have e : d.toList = (keysL l).flatMap fun k => l.zipIdx.filter fun x => decide (x.1.key = k) := by
    refine pairs_uniq TT_irr (fun {x y z} => TT_trans x y z) hp ?_ ?_
    · rw [List.pairwise_flatMap]
      refine ⟨fun k _ => ?_, ?_⟩
      · have hz : l.zipIdx.Pairwise fun x y => x.2 < y.2 := by
          rw [List.pairwise_iff_getElem]
          intro i j hi hj hij
          simpa using hij
        refine List.Pairwise.imp_of_mem ?_ (hz.filter _)
        intro x y hx hy hlt
        have e1 := of_decide_eq_true (List.mem_filter.1 hx).2
        have e2 := of_decide_eq_true (List.mem_filter.1 hy).2
        exact .inr ⟨e1.trans e2.symm, hlt⟩
      · refine List.Pairwise.imp ?_ (rise_keys l)
        intro k k' hlt x hx y hy
        have e1 := of_decide_eq_true (List.mem_filter.1 hx).2
        have e2 := of_decide_eq_true (List.mem_filter.1 hy).2
        exact .inl (by rw [e1, e2]; exact hlt)
    · intro x
      rw [List.mem_flatMap]
      constructor
      · intro hx
        have hz := hmem x hx
        have hl : x.1 ∈ l := List.mem_of_getElem? ((tag_mem l x).1 hz)
        exact ⟨x.1.key, mem_keys.2 ⟨_, hl, rfl⟩, List.mem_filter.2 ⟨hz, decide_eq_true rfl⟩⟩
      · rintro ⟨k, _, hx⟩
        exact hall x (List.mem_filter.1 hx).1
  rw [e, List.map_flatMap]
  unfold sortedL
  congr 1
  funext k
  have : ∀ (L : List (Fact × Nat)), (L.filter fun x => decide (x.1.key = k)).map Prod.fst = (L.map Prod.fst).filter fun f => decide (f.key = k) := fun L => by rw [List.filter_map]; rfl
  rw [this]
  congr 1
  exact List.zipIdx_map_fst 0 l
/-- The same, group by group. -/
def flatG (G : List (Key × List Int)) : List Fact := G.flatMap fun g => g.2.map (Fact.mk g.1)
theorem sorted_flat (l : List Fact) : sortedL l = flatG (grps l) := by
  unfold sortedL flatG grps
  rw [List.flatMap_map]
  congr 1
  funext k
  unfold amts
  rw [List.map_map]
  have : ∀ (L : List Fact), (∀ f ∈ L, f.key = k) → L = L.map (Fact.mk k ∘ Fact.amt) := by
    intro L
    induction L with
    | nil => intro _; rfl
    | cons f L ih =>
      intro h
      rw [List.map_cons, ← ih fun g hg => h g (List.mem_cons_of_mem _ hg)]
      congr 1
      have := h f (List.mem_cons_self ..)
      subst this
      rfl
  exact this _ fun f hf => of_decide_eq_true (List.mem_filter.1 hf).2
theorem sorted_length (l : List Fact) (d : Array (Fact × Nat)) (hs : d.size = l.length) (h : d.toList.map Prod.fst = sortedL l) : (sortedL l).length = l.length := by rw [← h]; simp [hs]
/-- Groups: rising keys, each with some amounts. -/
structure GrpsOk (G : List (Key × List Int)) : Prop where
  rise : G.Pairwise fun x y => ltK x.1 y.1
  some : ∀ g ∈ G, g.2 ≠ []
theorem grps_ok (l : List Fact) : GrpsOk (grps l) := by
  refine ⟨?_, fun g hg => ?_⟩
  · unfold grps
    rw [List.pairwise_map]
    exact rise_keys l
  · unfold grps at hg
    obtain ⟨k, hk, rfl⟩ := List.mem_map.1 hg
    obtain ⟨f, hf, e⟩ := mem_keys.1 hk
    intro h0
    unfold amts at h0
    rw [List.map_eq_nil_iff] at h0
    have : f ∈ l.filter fun f => decide (f.key = k) := List.mem_filter.2 ⟨hf, decide_eq_true e⟩
    rw [h0] at this
    cases this
theorem GrpsOk.tail {g : Key × List Int} {G : List (Key × List Int)} (h : GrpsOk (g :: G)) : GrpsOk G := ⟨(List.pairwise_cons.1 h.rise).2, fun x hx => h.some x (List.mem_cons_of_mem _ hx)⟩
end Go.Proofs.Ytimeebildbmhaaa.Fa
