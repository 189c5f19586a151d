
/- More words for slices of integers in memory, over any program: a slice value at whatever address; its parts; an append of such a slice onto a row of the call's own, at a step of a statement that leaves its order open. -/
import Derived.Test.YtdnneognilffaaaGreatDoorMem
import Derived.Deep.RegionLaw
import Derived.Laws.Slices
namespace Go.Proofs.YtdnneognilffaaaGreatDoor
open Go.RowKit

/-- In the world w the slice value v reads as the integers l: it is nil, and l is empty, or its cells lie behind its address. -/
def RowA (k : IntKind) (w : World) (v : Value) (l : List Int) : Prop :=
  (v = .slice none 0 0 ∧ l = []) ∨
  ∃ ad c, v = .slice (some ad) l.length c ∧ l.length ≤ maxLen ∧ ∀ i, i < l.length → w.cell? (ad.add i) = some (.int k (l.getD i 0))
theorem RowV.toA {k : IntKind} {w : World} {v : Value} {l : List Int} (h : RowV k w v l) : RowA k w v l := by
  rcases h with h | ⟨b, o, c, e, hm, hc⟩
  · exact .inl h
  · refine .inr ⟨⟨b, o, none⟩, c, e, hm, fun i hi => ?_⟩
    have := hc i hi
    by_cases h0 : i = 0
    · subst h0; simpa [Addr.add] using this
    · simpa [Addr.add, h0] using this
theorem block_add (ad : Addr) (i : Nat) : (ad.add i).block = ad.block := by unfold Addr.add; split <;> rfl
theorem add_add (ad : Addr) (i j : Nat) : (ad.add i).add j = ad.add (i + j) := by
  unfold Addr.add
  by_cases h1 : i = 0
  · subst h1; simp
  · by_cases h2 : j = 0
    · subst h2; simp
    · rw [if_neg h1, if_neg h2, if_neg (by omega)]; simp; omega
theorem RowA.keep {k : IntKind} {w w' : World} {B : Nat} {v : Value} {l : List Int} (h : RowA k w v l) (hb : Below B w w') (hB : w.heap.size ≤ B) : RowA k w' v l := by
  rcases h with h | ⟨ad, c, e, hm, hc⟩
  · exact .inl h
  · exact .inr ⟨ad, c, e, hm, fun i hi => by
      have h1 := hc i hi
      exact (hb.cell (Nat.lt_of_lt_of_le (World.block_lt_of_cell? w _ h1) hB)).trans h1⟩
theorem RowA.rowIs {k : IntKind} {w : World} {v : Value} {l : List Int} (h : RowA k w v l) : ∃ a c, v = .slice a l.length c ∧ RowIs k w a l.length l := by
  rcases h with ⟨rfl, rfl⟩ | ⟨ad, c, rfl, hm, hc⟩
  · exact ⟨none, 0, rfl, rfl, by unfold maxLen; simp, fun i hi => absurd hi (by simp)⟩
  · refine ⟨_, c, rfl, rfl, hm, fun i hi => ?_⟩
    obtain ⟨b, o, s⟩ := ad
    have h0 := hc 0 (by omega)
    have hs : s = none := by simpa [Addr.add] using World.cell?_spot h0
    subst hs
    refine ⟨b, o, rfl, ?_⟩
    have := hc i hi
    by_cases h0 : i = 0
    · subst h0; simpa [Addr.add] using this
    · simpa [Addr.add, h0] using this

theorem RowA.isRow {k : IntKind} {w : World} {p : Option Addr} {n c : Nat} {l : List Int} (h : RowA k w (.slice p n c) l) : RowIs k w p n l := by
  obtain ⟨a, c', e, hr⟩ := h.rowIs
  injection e with e1 e2 _
  subst e1 e2
  exact hr

/-- The parts of a slice of integers ahead of k, and from k on: what the two slice expressions hand back, in whatever world, and how it reads. -/
theorem slice_parts {P : Program} {t : TypeId} (ht : P.underlying t = some (.slice (P.elem t))) (hs : ∀ w, (sizeOf (P.elem t)).run P w = .ok 1 w) {kd : IntKind} {w : World} {p : Option Addr} {n c k : Nat} {l : List Int}
    (h : RowA kd w (.slice p n c) l) (hnc : n ≤ c) (hk : k ≤ n) :
    ∃ v1 v2, (∀ w', (Instr.slice t (.slice p n c) none (some (.int .i64 (k : Int))) none).run P w' = .ok v1 w') ∧ (∀ w', (Instr.slice t (.slice p n c) (some (.int .i64 (k : Int))) none none).run P w' = .ok v2 w') ∧
      RowA kd w v1 (l.take k) ∧ RowA kd w v2 (l.drop k) := by
  refine ⟨sliced p 0 k c 1, sliced p k n c 1, fun w' => ?_, fun w' => ?_, ?_, ?_⟩
  · rw [run_slice_h w' t p n c ht .i64 (k : Int) (by omega) (by omega), hs]; simp [Result.andThen]
  · rw [run_slice_l w' t p n c ht .i64 (k : Int) (by omega) (by omega), hs]; simp [Result.andThen]
  · rcases h with ⟨e, rfl⟩ | ⟨ad, c', e, hm, hc⟩
    · injection e with e1 e2 e3
      subst e1 e2 e3
      obtain rfl : k = 0 := by omega
      exact .inl ⟨by simp [sliced], rfl⟩
    · injection e with e1 e2 e3
      subst e1 e2 e3
      refine .inr ⟨ad, c, ?_, by simp; omega, fun i hi => ?_⟩
      · simp [sliced, Addr.add]; omega
      · simp at hi
        have hil : i < l.length := by omega
        have := hc i hil
        rw [this]; simp [List.getD, hi, hil]
  · rcases h with ⟨e, rfl⟩ | ⟨ad, c', e, hm, hc⟩
    · injection e with e1 e2 e3
      subst e1 e2 e3
      obtain rfl : k = 0 := by omega
      exact .inl ⟨by simp [sliced], rfl⟩
    · injection e with e1 e2 e3
      subst e1 e2 e3
      by_cases hck : c = k
      · subst hck
        refine .inr ⟨ad, 0, ?_, by simp; omega, fun i hi => ?_⟩
        · simp [sliced]
        · simp at hi; omega
      · refine .inr ⟨ad.add k, c - k, ?_, by simp; omega, fun i hi => ?_⟩
        · simp [sliced, hck]
        · simp at hi
          rw [add_add, hc (k + i) (by omega)]
          simp [List.getD]

section
variable {P : Program} {w : World} {o : Oper} {a : Act} {K : Act → World → Prop} {Q : Exit → Act → World → Prop}

theorem news_at {k : IntKind} {l2 : List Int} {ad : Addr} (hc : ∀ i, i < l2.length → w.cell? (ad.add i) = some (.int k (l2.getD i 0))) : ∀ j u, (l2.map (Value.int k))[j]? = some u → w.cell? (ad.add j) = some u := by
  intro j u hj
  have hjl : j < l2.length := by
    rcases Nat.lt_or_ge j l2.length with h | h
    · exact h
    · rw [List.getElem?_eq_none (by simpa using h)] at hj; cases hj
  rw [getD_map k l2 j hjl] at hj
  obtain rfl := Option.some.inj hj
  exact hc j hjl

/-- 'append(own, row...)' at the operation. -/
theorem wp_append_rowA (k : IntKind) (s x : Operand) (t : TypeId) (ho : o.op = .call { callee := .builtin .append, args := #[s, x], argTypes := #[t, t] })
    (base : Nat) (e : TypeId) (i : TypeInfo) (z : Value) (bytes : Nat) (ht : P.underlying t = some (.slice e)) (hi : P.info? e = some i) (hz : i.zero = some z)
    (hsize : i.size = 1) (hby : i.bytes = bytes) (hzs : z.cells.size = 1) (v : Value) (l : List Int) (hs : a.eval s = v) (hown : OwnI k w base e v l)
    (v2 : Value) (l2 : List Int) (hx : a.eval x = v2) (hr : RowA k w v2 l2) (h63 : l.length + l2.length ≤ maxLen) (hbytes : (l.length + l2.length) * bytes ≤ 140737488355328) (hbase : base ≤ w.heap.size)
    (h : ∀ v' w', OwnI k w' base e v' (l ++ l2) → Below base w w' → K (a.put o.dst v') w') : o.wp P a w K Q := by
  rcases hr with ⟨rfl, rfl⟩ | ⟨ad, c, rfl, hm, hc⟩
  · have hrun := run_append_owned_none (P := P) (w := w) base t o.type e i 1 ht hi v l.length (l.map (Value.int k)) hown
    unfold Oper.wp execOp
    simp only [ho, resolve, invoke, builtin, Sem.run_bind, Sem.run_pure, Result.andThen_ok, List.map_toArray, List.map_cons, List.map_nil, hs, hx, hrun]
    exact h _ _ (by rw [List.append_nil]; exact hown) (Below.refl _ _)
  · obtain ⟨v', w', hrun, h2, h3, _⟩ := run_append_own (P := P) (w := w) base t o.type e i z 1 bytes ht hi hz hsize hby hzs (by decide) v l.length (l.map (Value.int k)) hown ad l2.length c (l2.map (Value.int k)) (by simp) (news_at hc)
      (fun u hu => by obtain ⟨n, _, rfl⟩ := List.mem_map.1 hu; rfl) h63 hbytes hbase
    unfold Oper.wp execOp
    simp only [ho, resolve, invoke, builtin, Sem.run_bind, Sem.run_pure, Result.andThen_ok, List.map_toArray, List.map_cons, List.map_nil, hs, hx, hrun]
    refine h v' w' ?_ (below_grown (Below.refl _ _) hbase hown h3)
    unfold OwnI
    rw [List.length_append, List.map_append]
    exact h2
/-- The same at a step of a statement that leaves its order open. -/
theorem step_append_rowA {ops : Array Oper} {E : Prop} (k : IntKind) (hgd : o.guard = none) (s x : Operand) (t : TypeId) (ho : o.op = .call { callee := .builtin .append, args := #[s, x], argTypes := #[t, t] })
    (base : Nat) (e : TypeId) (i : TypeInfo) (z : Value) (bytes : Nat) (ht : P.underlying t = some (.slice e)) (hi : P.info? e = some i) (hz : i.zero = some z)
    (hsize : i.size = 1) (hby : i.bytes = bytes) (hzs : z.cells.size = 1) (v : Value) (l : List Int) (hs : a.eval s = v) (hown : OwnI k w base e v l)
    (v2 : Value) (l2 : List Int) (hx : a.eval x = v2) (hr : RowA k w v2 l2) (h63 : l.length + l2.length ≤ maxLen) (hbytes : (l.length + l2.length) * bytes ≤ 140737488355328) (hbase : base ≤ w.heap.size)
    (h : ∀ v' w', OwnI k w' base e v' (l ++ l2) → Below base w w' → K (a.put o.dst v') w') :
    if Region.wanted o (yielded ops a.tmps) = true then Oper.wp P o a w K Q else E := by
  have hw : Region.wanted o (yielded ops a.tmps) = true := by simp [Region.wanted, hgd]
  rw [if_pos hw]
  exact wp_append_rowA k s x t ho base e i z bytes ht hi hz hsize hby hzs v l hs hown v2 l2 hx hr h63 hbytes hbase h
end
end Go.Proofs.YtdnneognilffaaaGreatDoor
