
/- A statement that leaves its order open, with calls that wait for one another: what only looks is taken as soon as it may come up, in runs; each call by itself, in the one order that there is. -/
import Derived.Test.YtdnneognilffaaaGreatDoorPast
import Derived.OrdersHeld
namespace Go.Proofs.YtdnneognilffaaaGreatDoor
open Go.RowKit

/-- An operation that looks at the world, and neither calls nor tells the world anything. -/
def looksOnly (o : Oper) : Bool :=
  match o.op with
  | .move _ | .assign _ | .load .. | .binOp .. | .unOp .. | .convert .. | .fieldAddr .. | .field .. | .indexAddr .. | .index .. | .extract .. | .slice .. | .lookup .. | .makeInterface .. | .box .. | .build .. | .pick .. => true
  | .nilCheck _ => true
  | .call c => match c.callee with
    | .builtin .len => true
    | .builtin .cap => true
    | _ => false
  | _ => false
theorem next_value {α : Type} (P : Program) (s : Sem α) (g : α → Value) (w w' : World) (n : Next) (h : (do pure (Next.value (g (← s))) : Sem Next).run P w = .ok n w') : ∃ v, n = .value v := by
  simp only [Sem.run_bind] at h
  cases hs : s.run P w with
  | ok x w1 =>
    rw [hs] at h
    simp only [Result.andThen_ok, Sem.run_pure] at h
    cases h
    exact ⟨_, rfl⟩
  | halt x w1 => rw [hs] at h; simp [Result.andThen] at h
theorem nil_halts (P : Program) (w : World) : ∃ x, (runtimePanic .nilDeref : Sem Next).run P w = .halt x w := ⟨_, rfl⟩
theorem looks_value {P : Program} {ρ : Operand → Value} {o : Oper} {w w' : World} {n : Next} (hl : looksOnly o = true) (h : (execOp ρ o).run P w = .ok n w') : ∃ v, n = .value v := by
  obtain ⟨dst, op, type, pos, after, guard⟩ := o
  cases op <;> simp only [looksOnly, Bool.false_eq_true] at hl <;> simp only [execOp] at h
  case move x => simp only [Sem.run_pure] at h; cases h; exact ⟨_, rfl⟩
  case assign x => simp only [Sem.run_pure] at h; cases h; exact ⟨_, rfl⟩
  case nilCheck x =>
    split at h
    all_goals first
      | (simp only [Sem.run_pure] at h; cases h; exact ⟨_, rfl⟩)
      | (obtain ⟨x, hx⟩ := nil_halts P w; rw [hx] at h; cases h; done)
      | skip
    split at h
    · obtain ⟨x, hx⟩ := nil_halts P w; rw [hx] at h; cases h
    · rename_i t u _
      simp only [Sem.run_bind] at h
      have hp : (program : Sem Program).run P w = .ok P w := rfl
      rw [hp] at h
      simp only [Result.andThen_ok] at h
      revert h
      generalize (nilAhead (P.types.size + Made.depth) t u _).run P w = r
      intro h
      cases r with
      | halt x w1 => simp [Result.andThen] at h
      | ok b w1 =>
        simp only [Result.andThen_ok] at h
        split at h
        · simp only [Sem.run_bind, run_unsupported] at h
          simp [Result.andThen] at h
        · simp only [Sem.run_pure] at h; cases h; exact ⟨_, rfl⟩
    · simp only [Sem.run_pure] at h; cases h; exact ⟨_, rfl⟩
  case call c =>
    split at hl
    · rename_i hc
      simp only [resolve, hc, invoke, builtin, Sem.run_bind, Sem.run_pure, Result.andThen_ok] at h
      exact next_value P _ id _ _ _ (by simpa only [Sem.run_bind, Sem.run_pure, id] using h)
    · rename_i hc
      simp only [resolve, hc, invoke, builtin, Sem.run_bind, Sem.run_pure, Result.andThen_ok] at h
      exact next_value P _ id _ _ _ (by simpa only [Sem.run_bind, Sem.run_pure, id] using h)
    · cases hl
  all_goals exact next_value P _ _ _ _ _ h

section
variable {P : Program} {md : Region.Mode} {ops : Array Oper} {Q : Exit → Act → World → Prop} {S : World → Prop}

theorem yieldsIf_of_quiet {o : Oper} {a : Act} {v : Value} (hl : looksOnly o = true) (hw : Region.wanted o (yielded ops a.tmps) = true) (h : ∀ w, S w → o.quietAt P a S w v) : YieldsIf P ops S o v a := by
  refine .inl ⟨hw, fun w hs => ?_⟩
  have h1 := h w hs
  unfold Oper.quietAt at h1
  cases hr : (execOp a.eval o).run P w with
  | ok n w' =>
    rw [hr] at h1
    obtain ⟨u, rfl⟩ := looks_value hl hr
    obtain ⟨rfl, rfl⟩ := h1
    rfl
  | halt x w' => rw [hr] at h1; exact h1.elim

/-- Number i of a list, ahead of more. -/
def nth : List Oper → Nat → List Oper → List Oper
  | [], _, more => more
  | o :: _, 0, more => o :: more
  | _ :: l, i + 1, more => nth l i more
def pick (l : List Oper) : List Nat → List Oper
  | [] => []
  | i :: r => nth l i (pick l r)
theorem nth_eq {o : Oper} : ∀ (l : List Oper) (i : Nat) (more : List Oper), l[i]? = some o → nth l i more = o :: more
  | [], _, _, h => by simp at h
  | x :: l, 0, more, h => by simp at h; subst h; rfl
  | x :: l, i + 1, more, h => by simp at h; exact nth_eq l i more h
def marked (listed : Array Bool) : List Nat → Array Bool
  | [] => listed
  | i :: r => marked (listed.setIfInBounds i true) r
/-- These may come up one behind the other, and touch nobody who could come before. -/
def sweepB (md : Region.Mode) (ops : Array Oper) : List Nat → Array Bool → Bool
  | [], _ => true
  | i :: r, listed => ((ops[i]?).map looksOnly).getD false && Region.free md ops listed i && (Region.ready md ops listed).contains i && sweepB md ops r (listed.setIfInBounds i true)
theorem sweep {l : List Oper} (hs : Region.noSelect l.toArray = true) (hQ : ∀ d v c a w, Q (.panic c) (Act.put a d v) w → Q (.panic c) a w) {R : Act → Prop} {w : World} (hS : S w) :
    ∀ (q : List Nat) (fuel : Nat) (listed : Array Bool) (a : Act), sweepB md l.toArray q listed = true → wpQuiet P l.toArray S R (pick l q) a →
      (∀ a', R a' → wpAnyH P md l.toArray Q S fuel (marked listed q) a' w) → wpAnyH P md l.toArray Q S (fuel + q.length) listed a w
  | [], _, _, _, _, h, hr => hr _ h
  | i :: r, fuel, listed, a, hB, h, hr => by
    simp only [sweepB, Bool.and_eq_true] at hB
    obtain ⟨⟨⟨hl, hf⟩, hc⟩, hB'⟩ := hB
    obtain ⟨o, ho⟩ : ∃ o, l.toArray[i]? = some o := by
      cases he : l.toArray[i]? with
      | none => rw [he] at hl; simp at hl
      | some o => exact ⟨o, rfl⟩
    rw [ho] at hl
    simp only [Option.map_some, Option.getD_some] at hl
    have hp : pick l (i :: r) = o :: pick l r := nth_eq l i _ (by simpa using ho)
    rw [hp] at h
    have hlen : fuel + (i :: r).length = (fuel + r.length) + 1 := by simp; omega
    rw [hlen]
    unfold wpQuiet at h
    by_cases hw : Region.wanted o (yielded l.toArray a.tmps) = true
    · rw [if_pos hw] at h
      obtain ⟨v, hv, hk⟩ := h
      exact wpAnyH_take ho hs hf hc (fun c a' w' => hQ _ _ c a' w') (yieldsIf_of_quiet hl hw hv) hS (sweep hs hQ hS r fuel _ _ hB' hk hr)
    · rw [if_neg hw] at h
      exact wpAnyH_take ho hs hf hc (fun c a' w' => hQ _ _ c a' w') (.inr ⟨by simpa using hw, rfl⟩) hS (sweep hs hQ hS r fuel _ _ hB' h hr)

/-- One that stands by itself: number k of the list. -/
def alone (P : Program) (ops : Array Oper) (Q : Exit → Act → World → Prop) (K : Act → World → Prop) (a : Act) (w : World) : List Oper → Prop
  | [] => False
  | o :: _ => if Region.wanted o (yielded ops a.tmps) then o.wp P a w K Q else K (a.put o.dst undef) w
/-- How a region may go: a run of what only looks, then one that stands by itself, or either of two; a last run. -/
inductive Plan where
  | last (q : List Nat)
  | one (q : List Nat) (k : Nat) (n : Plan)
  | two (q : List Nat) (k1 : Nat) (n1 : Plan) (k2 : Nat) (n2 : Plan)
def wpPlan (P : Program) (l : List Oper) (Q : Exit → Act → World → Prop) (S : World → Prop) : Plan → Act → World → Prop
  | .last q, a, w => wpQuiet P l.toArray S (fun a' => Q .normal a' w) (pick l q) a
  | .one q k n, a, w => wpQuiet P l.toArray S (fun a' => ∀ K : Act → World → Prop, (∀ a2 w2, S w2 → wpPlan P l Q S n a2 w2 → K a2 w2) → alone P l.toArray Q K a' w (nth l k [])) (pick l q) a
  | .two q k1 n1 k2 n2, a, w => wpQuiet P l.toArray S (fun a' => (∀ K : Act → World → Prop, (∀ a2 w2, S w2 → wpPlan P l Q S n1 a2 w2 → K a2 w2) → alone P l.toArray Q K a' w (nth l k1 [])) ∧ (∀ K : Act → World → Prop, (∀ a2 w2, S w2 → wpPlan P l Q S n2 a2 w2 → K a2 w2) → alone P l.toArray Q K a' w (nth l k2 []))) (pick l q) a
def planN : Plan → Nat
  | .last q => q.length
  | .one q _ n => planN n + 1 + q.length
  | .two q _ n _ _ => planN n + 1 + q.length
def planB (md : Region.Mode) (ops : Array Oper) : Plan → Array Bool → Bool
  | .last q, listed => sweepB md ops q listed && (Region.ready md ops (marked listed q)).isEmpty
  | .one q k n, listed => sweepB md ops q listed && decide (Region.ready md ops (marked listed q) = [k]) && planB md ops n ((marked listed q).setIfInBounds k true)
  | .two q k1 n1 k2 n2, listed => sweepB md ops q listed && decide (Region.ready md ops (marked listed q) = [k1, k2]) && (planN n1 == planN n2) && planB md ops n1 ((marked listed q).setIfInBounds k1 true) && planB md ops n2 ((marked listed q).setIfInBounds k2 true)
theorem op_alone {l : List Oper} {i : Nat} {K : Act → World → Prop} {a : Act} {w : World} {listed : Array Bool} (hr : i ∈ Region.ready md l.toArray listed) (hk : alone P l.toArray Q K a w (nth l i [])) : wpOp P l.toArray Q i K a w := by
  obtain ⟨_, o, ho, _⟩ := mem_ready.1 hr
  rw [nth_eq l i [] (by simpa using ho)] at hk
  unfold wpOp
  simp only [ho]
  simp only [alone] at hk
  split
  · rename_i hw; rw [if_pos hw] at hk; exact .inl hk
  · rename_i hw; rw [if_neg hw] at hk; exact hk
theorem any_of_plan {l : List Oper} (hs : Region.noSelect l.toArray = true) (hQ : ∀ d v c a w, Q (.panic c) (Act.put a d v) w → Q (.panic c) a w) :
    ∀ (p : Plan) (listed : Array Bool) (a : Act) (w : World), planB md l.toArray p listed = true → S w → wpPlan P l Q S p a w → wpAnyH P md l.toArray Q S (planN p) listed a w
  | .last q, listed, a, w, hB, hS, h => by
    simp only [planB, Bool.and_eq_true, List.isEmpty_iff] at hB
    have := sweep (md := md) hs hQ hS q 0 listed a hB.1 h (fun a' ha => wpAnyH_done hB.2 ha 0)
    simpa [planN] using this
  | .one q k n, listed, a, w, hB, hS, h => by
    simp only [planB, Bool.and_eq_true, decide_eq_true_eq] at hB
    obtain ⟨⟨h1, h2⟩, h3⟩ := hB
    refine sweep (md := md) hs hQ hS q (planN n + 1) listed a h1 h (fun a' ha => ?_)
    refine wpAnyH_all h2 (by simp) (fun i hi => ?_)
    simp only [List.mem_singleton] at hi
    subst hi
    exact op_alone (by rw [h2]; simp) (ha _ (fun a2 w2 hs2 h4 => ⟨hs2, any_of_plan hs hQ n _ a2 w2 h3 hs2 h4⟩))
  | .two q k1 n1 k2 n2, listed, a, w, hB, hS, h => by
    simp only [planB, Bool.and_eq_true, decide_eq_true_eq, beq_iff_eq] at hB
    obtain ⟨⟨⟨⟨h1, h2⟩, hn⟩, h3⟩, h4⟩ := hB
    refine sweep (md := md) hs hQ hS q (planN n1 + 1) listed a h1 h (fun a' ha => ?_)
    refine wpAnyH_all h2 (by simp) (fun i hi => ?_)
    simp only [List.mem_cons, List.not_mem_nil, or_false] at hi
    rcases hi with rfl | rfl
    · exact op_alone (by rw [h2]; simp) (ha.1 _ (fun a2 w2 hs2 h5 => ⟨hs2, any_of_plan hs hQ n1 _ a2 w2 h3 hs2 h5⟩))
    · rw [hn]
      exact op_alone (by rw [h2]; simp) (ha.2 _ (fun a2 w2 hs2 h5 => ⟨hs2, any_of_plan hs hQ n2 _ a2 w2 h4 hs2 h5⟩))
/-- A world that keeps what lies in w below B. -/
structure Since (B : Nat) (w : World) where
  to : World
  below : Below B w to
instance (B : Nat) (w : World) : Nonempty (Since B w) := ⟨⟨w, Below.refl _ _⟩⟩
theorem cell_since {B : Nat} {w : World} {ad : Addr} {v : Value} (h : w.cell? ad = some v) (hB : ad.block < B) (p : Since B w) : p.to.cell? ad = some v := (p.below.cell hB).trans h
theorem since_in {B : Nat} {w0 w : World} (h : Below B w0 w) : ∃ p : Since B w0, w = p.to := ⟨⟨w, h⟩, rfl⟩
/-- The region, under a condition on worlds. -/
theorem wp_region_plan_if {id : Nat} {l : List Oper} {a : Act} {w : World} (p : Plan) (hm : P.follows .mixedOrders = true)
    (hs : (Region.noSelect l.toArray && planB .any l.toArray p (Array.replicate l.toArray.size false) && (planN p == l.toArray.size)) = true)
    (hQ : ∀ d v c a w, Q (.panic c) (Act.put a d v) w → Q (.panic c) a w) (hS : S w.drew)
    (h : wpPlan P l Q S p a w.drew) : (Code.region id l.toArray true).wp P Q a w := by
  simp only [Bool.and_eq_true, beq_iff_eq] at hs
  refine wp_region_held (S := S) hm ?_
  have := any_of_plan (P := P) hs.1.1 hQ p _ a w.drew hs.1.2 (S := S) hS h
  rw [hs.2] at this
  exact this
/-- The region. -/
theorem wp_region_plan {id : Nat} {l : List Oper} {a : Act} {w : World} (p : Plan) (hm : P.follows .mixedOrders = true)
    (hs : (Region.noSelect l.toArray && planB .any l.toArray p (Array.replicate l.toArray.size false) && (planN p == l.toArray.size)) = true)
    (hQ : ∀ d v c a w, Q (.panic c) (Act.put a d v) w → Q (.panic c) a w)
    (h : wpPlan P l Q (fun w' => ∃ p : Past w, w' = p.to) p a w.drew) : (Code.region id l.toArray true).wp P Q a w :=
  wp_region_plan_if p hm hs hQ ⟨⟨w.drew, ⟨rfl, rfl, rfl, Nat.le_refl _, fun _ _ => rfl⟩⟩, rfl⟩ h
/-- The same where what lies at B and above may be written. -/
theorem wp_region_since (B : Nat) {id : Nat} {l : List Oper} {a : Act} {w : World} (p : Plan) (hm : P.follows .mixedOrders = true)
    (hs : (Region.noSelect l.toArray && planB .any l.toArray p (Array.replicate l.toArray.size false) && (planN p == l.toArray.size)) = true)
    (hQ : ∀ d v c a w, Q (.panic c) (Act.put a d v) w → Q (.panic c) a w)
    (h : wpPlan P l Q (fun w' => ∃ p : Since B w, w' = p.to) p a w.drew) : (Code.region id l.toArray true).wp P Q a w :=
  wp_region_plan_if p hm hs hQ ⟨⟨w.drew, ⟨rfl, rfl, rfl, Nat.le_refl _, fun _ _ => rfl⟩⟩, rfl⟩ h
end
/-- A call that stands by itself, wanted. -/
theorem alone_want {P : Program} {ops : Array Oper} {Q : Exit → Act → World → Prop} {K : Act → World → Prop} {a : Act} {w : World} {o : Oper} {l : List Oper} (hw : Region.wanted o (yielded ops a.tmps) = true) (h : o.wp P a w K Q) : alone P ops Q K a w (o :: l) := by
  simp only [alone]; rw [if_pos hw]; exact h
theorem alone_skip {P : Program} {ops : Array Oper} {Q : Exit → Act → World → Prop} {K : Act → World → Prop} {a : Act} {w : World} {o : Oper} {l : List Oper} (hw : Region.wanted o (yielded ops a.tmps) = false) (h : K (a.put o.dst undef) w) : alone P ops Q K a w (o :: l) := by
  simp only [alone]; rw [if_neg (by simp [hw])]; exact h
theorem past_in {w0 w : World} (h : Below w0.heap.size w0 w) : ∃ p : Past w0, w = p.to := ⟨⟨w, h⟩, rfl⟩
end Go.Proofs.YtdnneognilffaaaGreatDoor
