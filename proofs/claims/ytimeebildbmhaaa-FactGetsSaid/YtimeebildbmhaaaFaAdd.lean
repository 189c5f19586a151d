
/- The walks of slices.Concat at two cubes and of fact.Add: what the facts of both come to. slices.Grow by the library's contract. -/
import Derived.Test.YtimeebildbmhaaaFaOf
import Derived.Shelf.Spec.SlicesGrow
import Derived.Ground.Names8Prog
namespace Go.Proofs.Ytimeebildbmhaaa.Fa
open Go.Shelf Go.RowKit

def growRen : Go.Shelf.Ren := ⟨fun | 4 => 50 | n => n, fun | 25 => 60 | 22 => 30 | 20 => 20 | 9 => 9 | 4 => 4 | 3 => 3 | 0 => 0 | n => n, fun | n => n⟩
theorem growL : Go.Proofs.Lays8.n4 Try.prog growRen := {
  mixed := by kernel_rfl
  f4 := ⟨Try.f50.name, by decide, Try.func50.trans (congrArg some (by kernel_rfl))⟩
  t0 := Try.underlying0
  a0 := Try.isAgg0
  z0 := Try.sizeOf0
  v0 := Try.zeroValue0
  t3 := Try.underlying3
  a3 := Try.isAgg3
  z3 := Try.sizeOf3
  v3 := Try.zeroValue3
  t4 := Try.underlying4
  a4 := Try.isAgg4
  z4 := Try.sizeOf4
  v4 := Try.zeroValue4
  t9 := Try.underlying9
  a9 := Try.isAgg9
  z9 := Try.sizeOf9
  v9 := Try.zeroValue9
  t20 := Try.underlying20
  a20 := Try.isAgg20
  z20 := Try.sizeOf20
  v20 := Try.zeroValue20
  t22 := Try.underlying30
  a22 := Try.isAgg30
  z22 := Try.sizeOf30
  v22 := Try.zeroValue30 }
theorem info_fact : (Try.prog.info? 60).map (fun i => (i.zero, i.size, i.bytes)) = some (some (.agg #[.string ⟨#[]⟩, .string ⟨#[]⟩, .string ⟨#[]⟩, .string ⟨#[]⟩, .int .i64 0, .int .i64 0]), 6, 80) := by kernel_rfl
/-- Room for n facts. -/
theorem grow_any (n : Nat) (w : World) (hn : n ≤ 2000) :
    Calls Try.prog 50 #[.slice none 0 0, .int .i64 n] w fun e w' => ∃ v, e = .returned v ∧ w'.ownsRow w.heap.size 60 6 v 0 [] ∧ Below w.heap.size w w' := by
  obtain ⟨i0, hi, hz0, hz1, hz2⟩ := info_parts info_fact
  by_cases h0 : n = 0
  · subst h0
    refine (Any8.slices_Grow_room growL none 0 0 0 w (Nat.le_refl _) (by omega) (by omega) (Nat.le_refl _)).mono ?_
    rintro e w' ⟨rfl, rfl⟩
    exact ⟨_, rfl, World.ownsRow_nil _ _ _ _, Below.refl _ _⟩
  · refine (Any8.slices_Grow_grow growL i0 _ hi hz0 (by rw [hz1]; decide) none 0 0 n [] w (Nat.le_refl _) (by omega) (by rw [hz2]; omega) (by omega) (by simp) (fun _ => rfl) (fun a e => by cases e)).mono ?_
    rintro e w' ⟨rfl, rfl⟩
    refine ⟨_, rfl, ⟨rfl, .inr ⟨w.heap.size, _, _, rfl, Nat.le_refl _, heap_alloc_new w.drew _, Nat.zero_le _, grownCap_le_maxLen _ _ _ _ (by unfold maxLen; omega), ?_, by simp⟩⟩, ?_⟩
    · have hg := grownCap_ge w (0 + n) 0 60
      show (_ ++ _ ++ _ : Array Value).size = grownCap w (0 + n) 0 60 * 6
      rw [Array.size_append, Array.size_append, size_zeroCells, size_zeroCells]
      simp only [List.size_toArray, List.length_nil]
      show 0 + (0 + n - 0) * 6 + (grownCap w (0 + n) 0 60 - (0 + n)) * 6 = _
      omega
    · have := (Below.refl w.heap.size w.drew).alloc (o := .cells ([].toArray ++ Builtin.zeroCells (Value.cells (.agg #[.string ⟨#[]⟩, .string ⟨#[]⟩, .string ⟨#[]⟩, .string ⟨#[]⟩, .int .i64 0, .int .i64 0])) (0 + n - 0) ++ Builtin.zeroCells (Value.cells (.agg #[.string ⟨#[]⟩, .string ⟨#[]⟩, .string ⟨#[]⟩, .string ⟨#[]⟩, .int .i64 0, .int .i64 0])) (grownCap w (0 + n) 0 60 - (0 + n))) 60) (Nat.le_refl _)
      exact ⟨this.os, this.tape, this.output, this.size, this.block⟩
section
variable {α : Type} {E : Enc α} {P : Program} {ops : Array Oper} {rest : List Oper} {o : Oper} {a : Act} {w : World} {Q : Exit → Act → World → Prop}
/-- Elements appended to a row of the call's own, the source nil or not. -/
theorem wpList_append_els (hgd : o.guard = none) (s x : Operand) (t e : TypeId) (ho : o.op = .call { callee := .builtin .append, args := #[s, x], argTypes := #[t, t] }) (HI : InfoE P t e E)
    (B : Nat) (L M : List α) (hrow : w.ownsRow B e E.k (a.eval s) L.length (flat E L)) (hx : ElsV E w (a.eval x) M) (hB : B ≤ w.heap.size) (hL : L.length + M.length ≤ 1000000)
    (h : ∀ v' w', w'.ownsRow B e E.k v' (L ++ M).length (flat E (L ++ M)) → Below B w w' → wpList P ops Q rest (a.put o.dst v') w') : wpList P ops Q (o :: rest) a w := by
  obtain ⟨i, z, m, hi, hz, hs, hn, hzs, hb⟩ := HI.info
  obtain ⟨p, c, ev, hcap, hm, hpn, hc⟩ := id hx
  cases p with
  | none =>
    have h0 := hpn rfl
    have : M = [] := List.eq_nil_of_length_eq_zero (by omega)
    subst this
    subst h0
    refine wpList_append_own_none hgd s x t ho B e i E.k HI.under hi _ _ _ rfl hrow ev ?_
    exact h _ _ (by rw [List.append_nil]; exact hrow) (Below.refl _ _)
  | some ad =>
    refine wpList_append_own w hgd s x t ho B e i z E.k m HI.under hi hz hs hn hzs E.pos _ _ _ rfl hrow ad M.length c (flat E M) ev (flat_length M) (fun j u hj => ?_) (flat_ones M) (by unfold maxLen; omega) (Nat.le_trans (Nat.mul_le_mul hL hb) (by decide)) hB ?_
    · by_cases hne : M = []
      · subst hne; simp [flat] at hj
      · rw [ev] at hx
        obtain ⟨b, of, e, _, hcell⟩ := hx.cells hne
        cases e
        rw [add_off]; exact hcell j u hj
    · intro v' w' h1 h2 _
      exact h v' w' (by rw [flat_append, List.length_append]; exact h1) (below_grown (Below.refl _ _) hB hrow h2)
end
set_option maxRecDepth 100000 in
set_option maxHeartbeats 4000000 in
theorem concat_any (g : Nat) (va vb : Value) (A B : List Fact) (w : World) (ha : w.cell? ⟨g, 0, none⟩ = some va) (hb : w.cell? ⟨g, 1, none⟩ = some vb) (hA : FactsV w va A) (hB : FactsV w vb B) (hLA : A.length ≤ 1000) (hLB : B.length ≤ 1000) :
    Calls Try.prog 39 #[.slice (some ⟨g, 0, none⟩) 2 2] w fun e w' => ∃ v, e = .returned v ∧ w'.ownsRow w.heap.size 60 6 v (A ++ B).length (flat encF (A ++ B)) ∧ Below w.heap.size w w' := by
  have HA := Lib.hid hA
  have HB := Lib.hid hB
  obtain ⟨pa, ca, rfl, _, _, _, _⟩ := hA
  obtain ⟨pb, cb, rfl, _, _, _, _⟩ := hB
  obtain ⟨na, hna⟩ : ∃ n, A.length = n := ⟨_, rfl⟩
  obtain ⟨nb, hnb⟩ : ∃ n, B.length = n := ⟨_, rfl⟩
  rw [hna] at ha hLA HA
  rw [hnb] at hb hLB HB
  have HNA := Lib.hid hna
  have HNB := Lib.hid hnb
  have hlt := World.block_lt_of_cell? w _ ha
  have HG := Lib.hid (grow_any (na + nb) w (by omega))
  have h1 : ¬ (na : Int) < 0 := by omega
  have h2 : ¬ (na : Int) + (nb : Int) < 0 := by omega
  rw [show ((na + nb : Nat) : Int) = (na : Int) + (nb : Int) by omega] at HG
  have hca := Lib.hid ha
  have hcb := Lib.hid hb
  clear hna hnb
  go_enter Try.func39, Try.ntmps39
  go_wp2
  refine wp_loop_rounds 3 ?_
  rw [rounds_succ]
  go_wp2
  rw [rounds_succ]
  go_wp2
  rw [rounds_succ]
  go_wp2_with fail
  refine HG.out.mono ?_
  rintro e w1 ⟨v1, rfl, hr1, hb1⟩
  clear ha hb
  have hc0 := (hb1.cell (p := ⟨g, 0, none⟩) hlt).trans hca.out
  have hc1 := (hb1.cell (p := ⟨g, 1, none⟩) hlt).trans hcb.out
  have HR1 : Hid (w1.ownsRow w.heap.size 60 6 v1 ([] : List Fact).length (flat encF [])) := hr1
  have HB1 := Lib.hid hb1
  have HA1 := Lib.hid (HA.out.keep hb1)
  have HBB1 := Lib.hid (HB.out.keep hb1)
  clear hr1 hb1
  go_wp2
  refine wp_loop_rounds 3 ?_
  rw [rounds_succ]
  go_wp2_with (at_builtin; refine wpList_append_els (E := encF) rfl _ _ 30 60 rfl infoF w.heap.size [] A HR1.out HA1.out HB1.out.size (by simp; have := HNA.out; omega) ?_; intro v2 w2 hr2 hb2)
  have hc21 := (hb2.cell (p := ⟨g, 1, none⟩) hlt).trans hc1
  have HR2 : Hid (w2.ownsRow w.heap.size 60 6 v2 A.length (flat encF A)) := Lib.hid (by have := hr2; rw [List.nil_append] at this; exact this)
  have HBB2 : Hid (FactsV w2 (.slice pb nb cb) B) := Lib.hid (HB.out.keep (HB1.out.trans hb2))
  have HB2 := Lib.hid (HB1.out.trans hb2)
  clear hr2 hb2 hc0 hc1
  go_wp2
  rw [rounds_succ]
  go_wp2_with (at_builtin; refine wpList_append_els (E := encF) rfl _ _ 30 60 rfl infoF w.heap.size A B HR2.out HBB2.out HB2.out.size (by have := HNA.out; have := HNB.out; omega) ?_; intro v3 w3 hr3 hb3)
  have HR3 := Lib.hid hr3
  have HB3 := Lib.hid (HB2.out.trans hb3)
  clear hr3 hb3 hc21
  go_wp2
  rw [rounds_succ]
  go_wp2
  go_ret
  exact ⟨_, rfl, HR3.out, HB3.out⟩
theorem two_new (w : World) (x y : Value) (t : TypeId) : (w.alloc (.cells #[x, y] t)).cell? ⟨w.heap.size, 0, none⟩ = some x ∧ (w.alloc (.cells #[x, y] t)).cell? ⟨w.heap.size, 1, none⟩ = some y := by
  constructor
  · rw [cell_of_row _ w.heap.size 0 _ t (0, 0) (heap_alloc_new w _)]; rfl
  · rw [cell_of_row _ w.heap.size 1 _ t (0, 0) (heap_alloc_new w _)]; rfl
set_option maxRecDepth 100000 in
set_option maxHeartbeats 4000000 in
theorem add_any (va vb : Value) (A B : List Fact) (w : World) (hA : FactsV w va A) (hB : FactsV w vb B) (hzA : ∀ f ∈ A, In64 f.amt) (hzB : ∀ f ∈ B, In64 f.amt) (hLA : A.length ≤ 500) (hLB : B.length ≤ 500) :
    Calls Try.prog 21 #[va, vb] w (CubeTold w (ofL (A ++ B))) := by
  have hb0 := (Below.refl w.heap.size w).alloc (Nat.le_refl _) (.cells #[va, vb] 30)
  have HC := Lib.hid (concat_any w.heap.size va vb A B (w.alloc (.cells #[va, vb] 30)) (two_new _ _ _ _).1 (two_new _ _ _ _).2 (hA.keep hb0) (hB.keep hb0) (by omega) (by omega))
  have HO := Lib.hid (fun v w' (h : FactsV w' v (A ++ B)) => of_any v (A ++ B) w' h (fun f hf => (List.mem_append.1 hf).elim (hzA f) (hzB f)) (by simp; omega))
  have HB0 := Lib.hid hb0
  obtain ⟨R, hR⟩ : ∃ R, ofL (A ++ B) = R := ⟨_, rfl⟩
  rw [hR] at HO ⊢
  obtain ⟨pa, ca, rfl, _, _, _, _⟩ := hA
  obtain ⟨pb, cb, rfl, _, _, _, _⟩ := hB
  obtain ⟨na, hna⟩ : ∃ n, A.length = n := ⟨_, rfl⟩
  obtain ⟨nb, hnb⟩ : ∃ n, B.length = n := ⟨_, rfl⟩
  rw [hna, hnb] at HC HB0
  rw [hna, hnb]
  clear hb0 hzA hzB hLA hLB hR hna hnb
  go_enter Try.func21, Try.ntmps21
  go_wp2_with fail
  refine HC.out.mono ?_
  rintro e w1 ⟨v1, rfl, hr1, hb1⟩
  have HO1 := Lib.hid (HO.out v1 w1 (els_of_own hr1))
  have HB1 := Lib.hid (HB0.out.trans (hb1.mono HB0.out.size))
  clear hr1 hb1
  go_wp2_with fail
  refine HO1.out.mono ?_
  rintro e w2 ⟨u, rfl, hu, hb2⟩
  have HU := Lib.hid hu
  have HB2 := Lib.hid (HB1.out.trans (hb2.mono HB1.out.size))
  clear hu hb2
  go_wp2
  go_ret2
  exact ⟨u, rfl, HU.out, HB2.out⟩
end Go.Proofs.Ytimeebildbmhaaa.Fa
