
/- The walk of fact.byKey: a copy of the facts, in order, and the function that tells them key by key. What was there stays. -/
import Derived.Test.YtimeebildbmhaaaFaCmp
import Derived.Test.YtimeebildbmhaaaFaClone
import Derived.Test.YtimeebildbmhaaaFaSorted
namespace Go.Proofs.Ytimeebildbmhaaa.Fa
open Go.Shelf Go.RowKit Go.Lib Go.Sort

/-! ### A world behind a sort -/
section
variable {α : Type} [Inhabited α] {enc : α → List Value} {K : Nat}
theorem sortedK_below {w W : World} {g B : Nat} {d : Array α} (h : SWK enc K w g 0 d W) (hB : B ≤ g) (hg : g < w.heap.size) : RowKit.Below B w W := by
  obtain ⟨q, os, rfl⟩ := h
  unfold sortWorldK putRowK
  refine ⟨rfl, rfl, rfl, by simp [putRow, mapBlock, Sort.ahead, grow], fun k hk => ?_⟩
  rw [heap_grow_old _ _ (by simp [putRow, mapBlock, Sort.ahead]; omega)]
  have : g ≠ k := by omega
  simp [putRow, mapBlock, Sort.ahead, Array.getElem?_modify, this]
theorem sortedK_other {w W : World} {g : Nat} {d : Array α} (hS : SWK enc K w g 0 d W) {b o : Nat} (hb : b ≠ g) {v : Value} (h : w.cell? ⟨b, o, none⟩ = some v) : W.cell? ⟨b, o, none⟩ = some v := by
  obtain ⟨q, os, rfl⟩ := hS
  have hlt := World.block_lt_of_cell? w _ h
  rw [← h]
  unfold sortWorldK putRowK World.cell?
  rw [heap_grow_old _ _ (by simp [putRow, mapBlock, Sort.ahead]; exact hlt)]
  have : g ≠ b := fun e => hb e.symm
  simp [putRow, mapBlock, Sort.ahead, Array.getElem?_modify, this]
end
def encT (x : Fact × Nat) : List Value := encF.cs x.1
theorem encT_one (x : Fact × Nat) : ∀ v ∈ encT x, v.oneCell' = true := encF.one x.1
/-- A row of facts of the call's own is what a sort wants. -/
theorem holds_own {w : World} {B e g n c : Nat} {L : List Fact} (h : w.ownsRow B e 6 (.slice (some ⟨g, 0, none⟩) n c) L.length (flat encF L)) : HoldsK encT 6 w g 0 (tagL L) := by
  have h0 := h
  rcases h.2 with ⟨e0, _⟩ | ⟨g', cap, cur, e0, _, hh, _⟩
  · cases e0
  · cases e0
    intro t ht
    rw [size_flatK, tag_size] at ht
    have hi : t / 6 < L.length := by omega
    rw [get_flatK _ _ _ _ (by rw [tag_size]; exact ht), tag_at L _ hi]
    have hj : t % 6 < (encF.cs L[t / 6]).length := by rw [encF.len]; exact Nat.mod_lt _ (by decide)
    refine ⟨?_, by simp [World.frozen?, hh]⟩
    have := h0.cells (g := g) rfl _ _ (flat_at L (t / 6) _ (List.getElem?_eq_getElem hi) (t % 6) _ (List.getElem?_eq_getElem hj))
    rw [add_off] at this
    have e : 0 + (t / 6 * encF.k + t % 6) = 0 + t := by
      show 0 + (t / 6 * 6 + t % 6) = 0 + t
      omega
    rw [e] at this
    rw [this]
    show _ = some ((encF.cs L[t / 6])[t % 6]!)
    rw [getElem!_pos (encF.cs L[t / 6]) (t % 6) hj]
theorem facts_of_holds {w : World} {g n c : Nat} {d : Array (Fact × Nat)} (h : HoldsK encT 6 w g 0 d) (hs : d.size = n) (hc : n ≤ c) (hm : c ≤ maxLen) : FactsV w (.slice (some ⟨g, 0, none⟩) n c) (d.toList.map Prod.fst) := by
  refine ⟨_, c, by simp [hs], by simpa [hs] using hc, hm, (fun e => by cases e), fun i x hx => ⟨g, 0, rfl, fun j v hj => ?_⟩⟩
  have hjl : j < (encF.cs x).length := (List.getElem?_eq_some_iff.1 hj).1
  rw [encF.len] at hjl
  rw [List.getElem?_map] at hx
  cases hy : d.toList[i]? with
  | none => rw [hy] at hx; cases hx
  | some y =>
    rw [hy] at hx
    cases hx
    have hi : i < d.size := by have := (List.getElem?_eq_some_iff.1 hy).1; simpa using this
    have e : d[i]! = y := by
      rw [getElem!_pos d i hi]
      have := (List.getElem?_eq_some_iff.1 hy).2
      simpa using this
    have := (HoldsK.cell h hi (c := j) hjl).1
    rw [e] at this
    rw [show encF.k = 6 from rfl, this]
    congr 1
    unfold encT
    rw [getElem!_pos (encF.cs y.1) j (by rw [encF.len]; exact hjl)]
    exact (List.getElem?_eq_some_iff.1 hj).2
theorem cmpLaysT (blk off size : Nat) (w : World) : CmpLays Try.prog 44 #[] encT 6 cfT blk off size w :=
  fun _ _ _ _ x y => closure_any x.1 y.1 _

/-! ### The sort of a row of the call's own -/
set_option maxHeartbeats 1000000 in
theorem ins_none (p : Option Addr) (c : Nat) (f : Value) (w : World) : Calls Try.prog 53 #[.slice p 0 c, .int .i64 0, .int .i64 0, f] w fun e w' => e = .returned (.tuple #[]) ∧ w' = w := by
  go_enter Try.func53, Try.ntmps53
  go_wp2
  refine wp_loop_rounds 1 ?_
  rw [rounds_succ]
  go_wp2
  go_end0
  exact ⟨rfl, rfl⟩
set_option maxHeartbeats 1000000 in
theorem stable_none (p : Option Addr) (c : Nat) (f : Value) (w : World) : Calls Try.prog 51 #[.slice p 0 c, .int .i64 0, f] w fun e w' => e = .returned (.tuple #[]) ∧ w' = w := by
  go_enter Try.func51, Try.ntmps51
  go_wp2
  refine wp_loop_rounds 1 ?_
  rw [rounds_succ]
  go_wp2_with fail
  refine (ins_none _ _ _ _).mono ?_
  rintro e w' ⟨rfl, rfl⟩
  go_wp2
  refine wp_loop_rounds 1 ?_
  rw [rounds_succ]
  go_wp2
  go_end0
  exact ⟨rfl, rfl⟩
set_option maxHeartbeats 1000000 in
theorem sort_none (p : Option Addr) (c : Nat) (f : Value) (w : World) : Calls Try.prog 43 #[.slice p 0 c, f] w fun e w' => e = .returned (.tuple #[]) ∧ w' = w := by
  go_enter Try.func43, Try.ntmps43
  go_wp2_with fail
  refine (stable_none _ _ _ _).mono ?_
  rintro e w' ⟨rfl, rfl⟩
  go_wp2
  go_end0
  exact ⟨rfl, rfl⟩
/-- The variable at B, captured, holds a slice that reads as these facts; it and they lie from lo on. -/
def HasS (lo : Nat) (W : World) (B : Nat) (S : List Fact) : Prop :=
  ∃ p c, W.cell? ⟨B, 0, none⟩ = some (.slice p S.length c) ∧ FactsV W (.slice p S.length c) S ∧ (∀ a, p = some a → lo ≤ a.block ∧ a.block < W.heap.size) ∧ lo ≤ B ∧ B < W.heap.size
/-- What byKey hands back. -/
def ByKeyTold (w : World) (L : List Fact) (e : Ending) (w' : World) : Prop :=
  ∃ B, e = .returned (.func (.func 45) #[] #[.pointer (some ⟨B, 0, none⟩)]) ∧ HasS w.heap.size w' B (sortedL L) ∧ RowKit.Below w.heap.size w w'
theorem sorted_size (l : List Fact) (d : Array (Fact × Nat)) (hs : d.size = l.length) (h : d.toList.map Prod.fst = sortedL l) : (sortedL l).length = l.length := by rw [← h]; simp [hs]
set_option maxHeartbeats 4000000 in
theorem byKey_any (v : Value) (L : List Fact) (w : World) (h : FactsV w v L) (hL : L.length ≤ 1000) :
    Calls Try.prog 30 #[v] w (ByKeyTold w L) := by
  have HC := Lib.hid (clone_any v L w h hL)
  obtain ⟨n, hn⟩ : ∃ n, L.length = n := ⟨_, rfl⟩
  have HN := Lib.hid hn
  clear h
  go_enter Try.func30, Try.ntmps30
  go_wp2_with fail
  refine HC.out.mono ?_
  rintro e w1 ⟨u, rfl, hrow, hb⟩
  have HROW := Lib.hid hrow
  have HB := Lib.hid hb
  have hrow2 := hrow
  rcases hrow2.2 with ⟨rfl, h0⟩ | ⟨g, cap, cur, rfl, hg, hh, hnc, hcm, hcs, hct⟩
  · have e0 : L = [] := List.eq_nil_of_length_eq_zero h0
    have HE := Lib.hid e0
    clear hrow hrow2 hb h0 e0 HROW
    go_wp2_with fail
    refine (sort_none _ _ _ _).mono ?_
    rintro e w2 ⟨rfl, rfl⟩
    go_wp2
    go_ret
    refine ⟨_, rfl, ⟨none, 0, ?_, ?_, (fun a e => by cases e), HB.out.size, by simp⟩, HB.out.trans ((((RowKit.Below.refl _ w1).alloc (Nat.le_refl _) _)).mono HB.out.size)⟩
    · rw [HE.out, cell_of_row _ w1.heap.size 0 _ _ (0, 0) (heap_alloc_new w1 _)]; rfl
    · rw [HE.out]; exact ElsV.nil _
  · have hlt : g < w1.heap.size := (Array.getElem?_eq_some_iff.1 hh).1
    have hn1 : n < 100000 := by omega
    obtain ⟨W2, hW2⟩ : ∃ W2, w1.alloc (.cells #[.slice (some ⟨g, 0, none⟩) L.length cap] 29) = W2 := ⟨_, rfl⟩
    have hs2 : W2.heap.size = w1.heap.size + 1 := by rw [← hW2, World.size_alloc]
    have hB2 : RowKit.Below w1.heap.size w1 W2 := by rw [← hW2]; exact (RowKit.Below.refl _ w1).alloc (Nat.le_refl _) _
    have hr2 : W2.ownsRow w.heap.size 60 6 (.slice (some ⟨g, 0, none⟩) L.length cap) L.length (flat encF L) := by rw [← hW2]; exact hrow.alloc _
    have hc2 : W2.cell? ⟨w1.heap.size, 0, none⟩ = some (.slice (some ⟨g, 0, none⟩) L.length cap) := by
      rw [← hW2, cell_of_row _ w1.heap.size 0 _ _ (0, 0) (heap_alloc_new w1 _)]; rfl
    have R : RowK encT 6 W2 g 0 (tagL L) := ⟨fun x => encF.len x.1, encT_one, holds_own hr2, by omega⟩
    have HS := Lib.hid (sortStableK sortL encT cfT TT TT_trans (fun x => x.2) tellsT 44 #[] g 0 cap n (tagL L) W2 W2 (enters_of Try.func44 (by kernel_rfl) rfl) (cmpLaysT _ _ _ _) R (by rw [tag_size, hn]) (SWK.start R.hH) hn1 (fun i hi => by rw [tag_at L i (by omega)]))
    have HB2 := Lib.hid hB2
    have HC2 := Lib.hid hc2
    have HR := Lib.hid R
    have HSZ := Lib.hid hs2
    have HLT := Lib.hid hlt
    have HG := Lib.hid hg
    have HCM := Lib.hid (And.intro hnc hcm)
    clear hrow hrow2 hb hg hh hnc hcm hcs hct hB2 hr2 R hs2 hlt HROW
    rw [hn] at hW2 hc2 HC2 HCM
    go_wp2_with fail
    refine HS.out.mono ?_
    rintro e w3 ⟨rfl, d, h1, h2, h4, h3⟩
    have hd : d.toList.map Prod.fst = sortedL L := sorted_of L d (by rw [h1, hn]) (by rw [hn]; exact h2) (by rw [hn]; exact h4)
    have hlen : (sortedL L).length = n := by rw [← hd]; simp [h1]
    have hh3 := h3.holds HR.out.hblk HR.out.hH (by rw [h1, tag_size, hn])
    have hF := facts_of_holds hh3 h1 HCM.out.1 HCM.out.2
    rw [hd] at hF
    have hne : w1.heap.size ≠ g := by have := HLT.out; omega
    have hcell := sortedK_other h3 hne HC2.out
    have hb3 := sortedK_below h3 (B := w.heap.size) HG.out HR.out.hblk
    have H : Hid (HasS w.heap.size w3 w1.heap.size (sortedL L)) := Lib.hid ⟨some ⟨g, 0, none⟩, cap, by rw [hlen]; exact hcell, by rw [hlen]; exact hF, (fun a e => by cases e; exact ⟨HG.out, h3.lt HR.out.hblk⟩), HB.out.size, World.block_lt_of_cell? _ _ hcell⟩
    have HB3 := Lib.hid (HB.out.trans ((HB2.out.mono HB.out.size).trans hb3))
    clear hd hlen hh3 hF hne hcell hb3 h1 h2 h3 h4 hW2 hc2
    go_wp2
    go_ret
    exact ⟨_, rfl, H.out, HB3.out⟩
end Go.Proofs.Ytimeebildbmhaaa.Fa
