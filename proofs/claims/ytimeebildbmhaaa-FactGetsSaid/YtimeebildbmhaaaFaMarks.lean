
/- Marks of a cube's facts in a map of numbers by numbers; what of the facts is no longer to come. -/
import Derived.Test.YtimeebildbmhaaaFactTells
import Derived.Maps.RangeWalk
import Derived.Maps.OwnSet
import Derived.Maps.OwnOps
import Derived.Maps.Own
import Derived.Maps.Ext
namespace Go.Proofs.Ytimeebildbmhaaa.Fa
open Go.RowKit Go.Maps

theorem lawI : Keyed Try.prog 3 := int_keyed Try.underlying3
theorem zeroI (w : World) : (zeroValue 3).run Try.prog w = .ok (.int .i64 0) w := by kernel_rfl
theorem wf_in64 {k : Int} (h : In64 k) : (Lit.int .i64 k).wf = true := by
  have e1 : IntKind.i64.min = -9223372036854775808 := rfl
  have e2 : IntKind.i64.max = 9223372036854775807 := rfl
  simp [Lit.wf, e1, e2]; exact h
/-- A map of numbers by numbers. -/
abbrev HadI (w : World) (b n : Nat) (D : DataW Unit) : Prop := w.ownsMap Try.prog 3 (plainElem (H := Unit) Try.prog 3) b n D
theorem below_grown0 {w w' : World} (hb : Below w.heap.size w w') : w.grownBy w' none := ⟨hb.os, hb.tape, hb.output, hb.size, fun j hj _ => hb.block j hj⟩
theorem HadI.below {w w' : World} {b n : Nat} {D : DataW Unit} (h : HadI w b n D) (hb : Below w.heap.size w w') : HadI w' b n D := World.ownsMap.kept h (below_grown0 hb) (by simp)
/-- The map has just the marks of the facts. -/
def MarksOf (c : List Fact) (D : DataW Unit) : Prop := ∀ m, Maps.has D (.int .i64 m) = true ↔ ∃ f ∈ c, f.key.m = m
theorem marks_nil : MarksOf [] (.map []) := fun m => by simp [Maps.has]
theorem marks_put {c : List Fact} {D : DataW Unit} (h : MarksOf c D) (hD : IsMap D) (x : Fact) (d : DataW Unit) : MarksOf (c ++ [x]) (D.put (.int .i64 x.key.m) d) := fun m => by
  by_cases e : m = x.key.m
  · subst e
    rw [has_put_same hD (show WideAt.IsKeyLit (Lit.int .i64 x.key.m) from trivial)]
    simp
  · rw [has_put_other (fun e' => e (by simpa using e')), h m]
    constructor
    · rintro ⟨f, hf, rfl⟩; exact ⟨f, List.mem_append_left _ hf, rfl⟩
    · rintro ⟨f, hf, rfl⟩
      rcases List.mem_append.1 hf with hf | hf
      · exact ⟨f, hf, rfl⟩
      · simp at hf; subst hf; exact absurd rfl e
theorem filter_perm {α : Type} (p q : α → Bool) (hd : ∀ x, ¬ (p x = true ∧ q x = true)) (l : List α) : (l.filter p ++ l.filter q).Perm (l.filter fun x => p x || q x) := by
  induction l with
  | nil => exact List.Perm.refl _
  | cons a l ih =>
    cases hp : p a with
    | true =>
      have hq : q a = false := by
        cases hq : q a with
        | false => rfl
        | true => exact absurd ⟨hp, hq⟩ (hd a)
      simp only [List.filter_cons, hp, hq, if_true, Bool.false_eq_true, if_false, Bool.true_or, List.cons_append]
      exact ih.cons a
    | false =>
      cases hq : q a with
      | true =>
        simp only [List.filter_cons, hp, hq, if_true, Bool.false_eq_true, if_false, Bool.or_true]
        exact List.perm_middle.trans (ih.cons a)
      | false =>
        simp only [List.filter_cons, hp, hq, Bool.false_eq_true, if_false, Bool.or_self]
        exact ih
/-- Those of the facts that are no longer to come. -/
def goneL (left : Lit → Bool) (c : List Fact) : List Fact := c.filter fun f => !left (.int .i64 f.key.m)
theorem gone_start {left : Lit → Bool} {c : List Fact} (h : ∀ f ∈ c, left (.int .i64 f.key.m) = true) : goneL left c = [] := by
  unfold goneL
  rw [List.filter_eq_nil_iff]
  intro f hf
  simp [h f hf]
theorem gone_end {left : Lit → Bool} {c : List Fact} (h : ∀ kl, left kl = false) : goneL left c = c := by
  unfold goneL
  rw [List.filter_eq_self]
  intro f _
  simp [h]
theorem same_int (a b : Int) : (Lit.int .i64 a).sameKey (.int .i64 b) = decide (a = b) := by
  by_cases e : a = b
  · subst e; simp [Lit.sameKey]
  · rw [sameKey_ne (fun e' => e (by simpa using e')), decide_eq_false e]
theorem gone_step {left : Lit → Bool} {x : Int} (hx : left (.int .i64 x) = true) (c : List Fact) : (goneL left c ++ c.filter fun f => decide (f.key.m = x)).Perm (goneL (fun z => left z && !z.sameKey (.int .i64 x)) c) := by
  have h := filter_perm (fun f : Fact => !left (.int .i64 f.key.m)) (fun f => decide (f.key.m = x)) (fun f ⟨h1, h2⟩ => by
    rw [of_decide_eq_true h2, hx] at h1; cases h1) c
  unfold goneL
  refine h.trans (List.Perm.of_eq (List.filter_congr fun f _ => ?_))
  show _ = !(left (.int .i64 f.key.m) && !Lit.sameKey (.int .i64 f.key.m) (.int .i64 x))
  rw [same_int]
  cases left (.int .i64 f.key.m) <;> cases decide (f.key.m = x) <;> rfl
/-- A part of a cube. -/
structure SubC (c : List Fact) : Prop where
  rise : RiseF c
  nz : ∀ f ∈ c, f.amt ≠ 0
  bnd : Bnd B1 c
theorem SubC.filter {c : List Fact} (h : SubC c) (p : Fact → Bool) : SubC (c.filter p) :=
  ⟨List.Pairwise.filter _ h.rise, fun f hf => h.nz f (List.mem_filter.1 hf).1, fun f hf => h.bnd f (List.mem_filter.1 hf).1⟩
theorem SubC.cube {l : List Fact} (h : Bnd 4503599627370496 l) (hn : l.length ≤ 150) : SubC (cube l) := ⟨cube_rise l, cube_nz l, cube_bnd1 h hn⟩
theorem SubC.right {c : List Fact} (h : SubC c) (hn : c.length ≤ 2000) : rightL c = true := decide_eq_true ⟨hn, h.nz, h.rise⟩
theorem pick_all (c : List Fact) (e : ByteArray) : pickL c e (-1) = c.filter fun f => askB e f.key.e := by
  unfold pickL
  refine List.filter_congr fun f _ => ?_
  unfold pickB
  simp
theorem pick_mark (c : List Fact) (e : ByteArray) {x : Int} (hx : 0 ≤ x) : pickL c e x = (pickL c e (-1)).filter fun f => decide (f.key.m = x) := by
  rw [pick_all, List.filter_filter]
  unfold pickL
  refine List.filter_congr fun f _ => ?_
  unfold pickB
  rw [decide_eq_false (show ¬ x < 0 by omega), Bool.false_or, Bool.and_comm]
theorem pick_any_all (c : List Fact) : pickL c ⟨#[]⟩ (-1) = c := by
  rw [pick_all, List.filter_eq_self]
  intro f _
  simp [askB]
theorem gone_add {E : List Fact} (h : SubC E) {left : Lit → Bool} {x : Int} (hx : left (.int .i64 x) = true) : ofL (goneL left E ++ E.filter fun f => decide (f.key.m = x)) = (goneL (fun z => left z && !z.sameKey (.int .i64 x)) E, 0) := by
  have h1 : SubC (goneL left E) := h.filter _
  have h2 : SubC (E.filter fun f => decide (f.key.m = x)) := h.filter _
  have h3 : SubC (goneL (fun z => left z && !z.sameKey (.int .i64 x)) E) := h.filter _
  rw [ofL_two h1.rise h2.rise h1.bnd h2.bnd, cube_eq fun k => isum_perm (gone_step hx E) k, cube_self h3.rise h3.nz]
theorem ranges_no_cell {P : Program} {k : TypeId} {R : Value → Option (DataW Unit × List MemPlace)} {w : World} {b r n : Nat} {D : DataW Unit} {left : Lit → Bool} {cnt : Nat} (h : w.ranges P k R b r n D left cnt) (o : Nat) (v : Value) : w.cell? ⟨r, o, none⟩ ≠ some v := by
  obtain ⟨es, clock, since, seen, c0, _, _, _, _, hr, _⟩ := h
  simp [World.cell?, hr]
theorem pick_len (c : List Fact) (e : ByteArray) (m : Int) : (pickL c e m).length ≤ c.length := by unfold pickL; exact List.length_filter_le _ _
theorem cube_key {l : List Fact} {f : Fact} (h : f ∈ cube l) : ∃ g ∈ l, g.key = f.key := by
  have h1 := mem_cube.1 h
  refine mem_keys.1 (Classical.byContradiction fun hn => h1.2 ?_)
  rw [h1.1, isum_no hn]
end Go.Proofs.Ytimeebildbmhaaa.Fa
