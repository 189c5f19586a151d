
/- Two rows of integers that the call itself owns, side by side: what an append onto one of them leaves of the other. -/
import Derived.Test.YticcpcejdndplaaMem
import Derived.Maps.AppendAt
namespace Go.Proofs.Yticcpcejdndplaa
open Go.RowKit

/-- Two rows of the call's own do not lie in one block. -/
def Apart (v u : Value) : Prop := v.ownBlock = none ∨ u.ownBlock = none ∨ v.ownBlock ≠ u.ownBlock
theorem Apart.symm {v u : Value} (h : Apart v u) : Apart u v := by
  rcases h with h | h | h
  · exact .inr (.inl h)
  · exact .inl h
  · exact .inr (.inr fun e => h e.symm)
theorem Apart.nil (v : Value) : Apart (.slice none 0 0) v := .inl rfl
theorem OwnI.kept_by {k : IntKind} {w w' : World} {B : Nat} {e : TypeId} {v u : Value} {l : List Int} (h : OwnI k w B e u l) (hg : w.grownBy w' v.ownBlock) (ha : Apart v u) : OwnI k w' B e u l := by
  refine World.ownsRow.kept h hg ?_
  rcases ha with h1 | h1 | h1
  · rw [h1]
    cases hu : u.ownBlock with
    | none => exact .inl rfl
    | some g => exact .inr (by simp)
  · exact .inl h1
  · exact .inr fun e' => h1 e'.symm
section
variable {P : Program} {w : World} {ops : Array Oper} {rest : List Oper} {o : Oper} {a : Act} {Q : Exit → Act → World → Prop}

/-- 'append(own, row...)', the row nil or not, beside another row of the call's own. -/
theorem wpList_append_beside (k : IntKind) (hgd : o.guard = none) (s x : Operand) (t : TypeId) (ho : o.op = .call { callee := .builtin .append, args := #[s, x], argTypes := #[t, t] })
    (base : Nat) (e : TypeId) (i : TypeInfo) (z : Value) (bytes : Nat) (ht : P.underlying t = some (.slice e)) (hi : P.info? e = some i) (hz : i.zero = some z)
    (hsize : i.size = 1) (hby : i.bytes = bytes) (hzs : z.cells.size = 1) (l : List Int) (hown : OwnI k w base e (a.eval s) l)
    (u : Value) (l3 : List Int) (hu : OwnI k w base e u l3) (hap : Apart (a.eval s) u)
    (l2 : List Int) (hr : RowV k w (a.eval x) l2) (h63 : l.length + l2.length ≤ maxLen) (hbytes : (l.length + l2.length) * bytes ≤ 140737488355328) (hbase : base ≤ w.heap.size)
    (h : ∀ v' w', OwnI k w' base e v' (l ++ l2) → OwnI k w' base e u l3 → Apart v' u → Below base w w' → wpList P ops Q rest (a.put o.dst v') w') : wpList P ops Q (o :: rest) a w := by
  rcases hr with ⟨hx, rfl⟩ | ⟨b, of, c, hx, hm, hc⟩
  · refine wpList_append_own_none hgd s x t ho base e i 1 ht hi _ _ _ rfl hown hx ?_
    exact h _ _ (by rw [List.append_nil]; exact hown) hu hap (Below.refl _ _)
  · refine wpList_append_own_at w hgd s x t ho base e i z 1 bytes ht hi hz hsize hby hzs (by decide) _ _ _ rfl hown ⟨b, of, none⟩ l2.length c (l2.map (Value.int k)) hx (by simp) ?_ ?_ h63 hbytes hbase ?_
    · intro j u hj
      have hjl : j < l2.length := by
        rcases Nat.lt_or_ge j l2.length with h | h
        · exact h
        · rw [List.getElem?_eq_none (by simpa using h)] at hj; cases hj
      rw [getD_map k l2 j hjl] at hj
      obtain rfl := Option.some.inj hj
      have := hc j hjl
      by_cases h0 : j = 0
      · subst h0; simpa [Addr.add] using this
      · simpa [Addr.add, h0] using this
    · intro u hu
      obtain ⟨n, _, rfl⟩ := List.mem_map.1 hu
      rfl
    · intro v' w' h1 h2 _ h4
      refine h v' w' ?_ (hu.kept_by h2 hap) ?_ (below_grown (Below.refl _ _) hbase hown h2)
      · unfold OwnI
        rw [List.length_append, List.map_append]
        exact h1
      · rcases h4 with h4 | h4
        · unfold Apart; rw [h4]; exact hap
        · unfold Apart
          rw [h4]
          cases hb : u.ownBlock with
          | none => exact .inr (.inl rfl)
          | some g =>
            have := (World.ownsRow.lt hu g hb).2
            exact .inr (.inr (by simp; omega))
end
end Go.Proofs.Yticcpcejdndplaa
