
/- Lines in a row of the call's own: parts of them behind another row; one put into the place of another; two that change places. -/
import Derived.Test.YticdmlijacnjbaaGreatDoorM30
import Derived.Test.YticdmlijacnjbaaGreatDoorM31
import Derived.Laws.OwnMore
namespace Go.Proofs.YticdmlijacnjbaaGreatDoor.Un
open Go.RowKit

theorem flatL_cons (x : Int × Value) (LV : List (Int × Value)) : flatL (x :: LV) = .int .i64 x.1 :: x.2 :: flatL LV := rfl
theorem flatL_append (A B : List (Int × Value)) : flatL (A ++ B) = flatL A ++ flatL B := by simp [flatL]
theorem flatL_drop : ∀ (LV : List (Int × Value)) (k : Nat), flatL (LV.drop k) = (flatL LV).drop (k * 2)
  | [], k => by simp [flatL]
  | x :: LV, 0 => by simp
  | x :: LV, k + 1 => by
    rw [List.drop_succ_cons, flatL_drop LV k, flatL_cons, show (k + 1) * 2 = k * 2 + 1 + 1 by omega, List.drop_succ_cons, List.drop_succ_cons]
theorem flatL_take : ∀ (LV : List (Int × Value)) (k : Nat), flatL (LV.take k) = (flatL LV).take (k * 2)
  | [], k => by simp [flatL]
  | x :: LV, 0 => by simp [flatL]
  | x :: LV, k + 1 => by
    rw [List.take_succ_cons, flatL_cons, flatL_take LV k, flatL_cons, show (k + 1) * 2 = k * 2 + 1 + 1 by omega, List.take_succ_cons, List.take_succ_cons]
theorem flatL_set : ∀ (LV : List (Int × Value)) (i : Nat) (x : Int × Value), flatL (LV.set i x) = ((flatL LV).set (i * 2) (.int .i64 x.1)).set (i * 2 + 1) x.2
  | [], i, x => by simp [flatL]
  | y :: LV, 0, x => rfl
  | y :: LV, i + 1, x => by
    rw [List.set_cons_succ, flatL_cons, flatL_set LV i x, flatL_cons, show (i + 1) * 2 = i * 2 + 1 + 1 by omega]
    simp only [List.set_cons_succ]
/-- Lines behind an address. -/
def HadPart (W : World) (Bw : Nat) (ad : Addr) (L : List (Int × List ByteArray)) : Prop :=
  ∃ LV, (∀ (j : Nat) (u : Value), (flatL LV)[j]? = some u → W.cell? (ad.add j) = some u) ∧ WordsOwn W Bw 9 LV L
theorem HadPart.below {W W' : World} {Bw : Nat} {ad : Addr} {L : List (Int × List ByteArray)} (h : HadPart W Bw ad L) (hb : Below W.heap.size W W') : HadPart W' Bw ad L := by
  obtain ⟨LV, h1, h2⟩ := h
  exact ⟨LV, fun j u hj => cell_later hb (h1 j u hj), h2.mono fun u n xs hu => row_below hu hb⟩
theorem HadAt.drop {W : World} {B Bw g n cap : Nat} {L : List (Int × List ByteArray)} (h : HadAt W B Bw (.slice (some ⟨g, 0, none⟩) n cap) L) (k : Nat) : HadPart W Bw ((⟨g, 0, none⟩ : Addr).add (k * 2)) (L.drop k) := by
  obtain ⟨LV, h1, h2⟩ := h
  refine ⟨LV.drop k, fun j u hj => ?_, by rw [List.length_drop, List.length_drop, h2.1], fun i x y hx hy => ?_⟩
  · rw [flatL_drop, List.getElem?_drop] at hj
    rw [add_add]
    exact h1.cells (g := g) rfl _ _ hj
  · rw [List.getElem?_drop] at hx hy
    exact h2.2 _ x y hx hy
theorem HadAt.take {W : World} {B Bw g n cap : Nat} {L : List (Int × List ByteArray)} (h : HadAt W B Bw (.slice (some ⟨g, 0, none⟩) n cap) L) (k : Nat) : HadPart W Bw ⟨g, 0, none⟩ (L.take k) := by
  obtain ⟨LV, h1, h2⟩ := h
  refine ⟨LV.take k, fun j u hj => ?_, by rw [List.length_take, List.length_take, h2.1], fun i x y hx hy => ?_⟩
  · rw [flatL_take] at hj
    have hj2 : (flatL LV)[j]? = some u := by
      rw [List.getElem?_take] at hj
      split at hj
      · exact hj
      · cases hj
    exact h1.cells (g := g) rfl _ _ hj2
  · have hi : i < k := by
      have := (List.getElem?_eq_some_iff.1 hx).1
      rw [List.length_take] at this; omega
    rw [List.getElem?_take_of_lt hi] at hx hy
    exact h2.2 _ x y hx hy
theorem words_append {W : World} {Bw : Nat} {e : TypeId} {A B : List (Int × Value)} {K L : List (Int × List ByteArray)} (h : WordsOwn W Bw e A K) (h' : WordsOwn W Bw e B L) : WordsOwn W Bw e (A ++ B) (K ++ L) := by
  refine ⟨by rw [List.length_append, List.length_append, h.1, h'.1], fun i x y hx hy => ?_⟩
  by_cases hi : i < A.length
  · rw [List.getElem?_append_left hi] at hx
    rw [List.getElem?_append_left (by rw [← h.1]; exact hi)] at hy
    exact h.2 i x y hx hy
  · rw [List.getElem?_append_right (by omega)] at hx
    rw [List.getElem?_append_right (by rw [← h.1]; omega), ← h.1] at hy
    exact h'.2 _ x y hx hy
theorem part_ones {W : World} {Bw : Nat} {e : TypeId} {LV : List (Int × Value)} {L : List (Int × List ByteArray)} (h : WordsOwn W Bw e LV L) : ∀ v ∈ flatL LV, v.oneCell' = true := fun v hv => by
  obtain ⟨x, hx, hv⟩ := List.mem_flatMap.1 hv
  simp at hv
  rcases hv with rfl | rfl
  · rfl
  · obtain ⟨i, hi, e1⟩ := List.getElem_of_mem hx
    obtain ⟨y, hy⟩ : ∃ y, L[i]? = some y := ⟨_, List.getElem?_eq_getElem (by rw [← h.1]; exact hi)⟩
    obtain ⟨_, e2⟩ := h.2 i x _ (by rw [List.getElem?_eq_getElem hi, e1]) hy
    rcases e2.2 with ⟨e3, _⟩ | ⟨g', cap, cur, e3, _⟩
    · rw [e3]; rfl
    · rw [e3]; rfl
/-- 'append(own, part...)' at the operation. -/
theorem wp_append_part {o : Oper} {a : Act} {w : World} {K : Act → World → Prop} {Q : Exit → Act → World → Prop} (s x : Operand) (ho : o.op = .call { callee := .builtin .append, args := #[s, x], argTypes := #[55, 55] })
    (B Bw : Nat) (v : Value) (C L : List (Int × List ByteArray)) (ad : Addr) (m c : Nat) (hs : a.eval s = v) (hrow : HadAt w B Bw v C) (hx : a.eval x = .slice (some ad) m c) (hm : L.length = m) (hp : HadPart w Bw ad L) (hB : B ≤ w.heap.size) (hK : C.length + m ≤ 200000)
    (h : ∀ v' w', HadAt w' B Bw v' (C ++ L) → Below B w w' → w.grownBy w' v.ownBlock → K (a.put o.dst v') w') : o.wp Tryz.prog a w K Q := by
  obtain ⟨LV, h1, h2⟩ := hrow
  obtain ⟨PV, p1, p2⟩ := hp
  have hlen : LV.length = C.length := h2.1
  have hlen' : PV.length = m := by rw [p2.1, hm]
  obtain ⟨i, hi, hz, hsz, hby⟩ := info_parts info_hline
  refine wp_append_own w s x 55 ho B 60 i _ 2 32 Tryz.underlying55 hi hz hsz hby rfl (by decide) v LV.length (flatL LV) hs h1 ad m c (flatL PV) hx (by rw [flatL_length, hlen']) p1 (part_ones p2) (by unfold maxLen; omega) (by omega) hB ?_
  intro v' w' h3 h4 _
  have hk : ∀ (q : Value) (m : Nat) (xs : List Value), w.ownsRow Bw 9 1 q m xs → w'.ownsRow Bw 9 1 q m xs := fun q m xs hq => hq.kept h4 (row_apart h1 hq (by decide))
  refine h v' w' ⟨LV ++ PV, ?_, words_append (h2.mono hk) (p2.mono hk)⟩ (below_grown (Below.refl _ _) hB h1 h4) h4
  rw [flatL_append, List.length_append, hlen']; exact h3
/-- A line put into the place of another one. -/
theorem HadAt.put {W : World} {B Bw g n cap i : Nat} {L : List (Int × List ByteArray)} {num : Int} {ws : List ByteArray} {u : Value} (h : HadAt W B Bw (.slice (some ⟨g, 0, none⟩) n cap) L) (hu : W.ownsRow Bw 9 1 u ws.length (ws.map Value.string)) (hi : i < L.length) :
    HadAt ((W.setCell ⟨g, i * 2, none⟩ (.int .i64 num)).setCell ⟨g, i * 2 + 1, none⟩ u) B Bw (.slice (some ⟨g, 0, none⟩) n cap) (L.set i (num, ws)) ∧ Below B W ((W.setCell ⟨g, i * 2, none⟩ (.int .i64 num)).setCell ⟨g, i * 2 + 1, none⟩ u) := by
  obtain ⟨LV, h1, h2⟩ := h
  have hn : LV.length = n := by
    rcases h1.2 with ⟨e, _⟩ | ⟨_, _, _, e, _⟩
    · cases e
    · cases e; rfl
  subst hn
  obtain ⟨s1, g1⟩ := World.ownsRow.stored h1 (i * 2) (.int .i64 num)
  obtain ⟨s2, g2⟩ := World.ownsRow.stored s1 (i * 2 + 1) u
  have k1 : ∀ (q : Value) (m : Nat) (xs : List Value), W.ownsRow Bw 9 1 q m xs → (W.setCell ⟨g, i * 2, none⟩ (.int .i64 num)).ownsRow Bw 9 1 q m xs := fun q m xs hq => hq.kept g1 (row_apart h1 hq (by decide))
  have k2 : ∀ (q : Value) (m : Nat) (xs : List Value), W.ownsRow Bw 9 1 q m xs → ((W.setCell ⟨g, i * 2, none⟩ (.int .i64 num)).setCell ⟨g, i * 2 + 1, none⟩ u).ownsRow Bw 9 1 q m xs := fun q m xs hq => (k1 q m xs hq).kept g2 (row_apart s1 (k1 q m xs hq) (by decide))
  have hgB : B ≤ g := by
    rcases h1.2 with ⟨e, _⟩ | ⟨_, _, _, e, hb, _⟩
    · cases e
    · cases e; exact hb
  refine ⟨⟨LV.set i (num, u), ?_, by rw [List.length_set, List.length_set, h2.1], fun j x y hx hy => ?_⟩, ?_⟩
  · rw [List.length_set, flatL_set]; exact s2
  · by_cases hj : i = j
    · subst hj
      rw [List.getElem?_set_self (by rw [h2.1]; exact hi)] at hx
      rw [List.getElem?_set_self hi] at hy
      cases hx; cases hy
      exact ⟨rfl, k2 _ _ _ hu⟩
    · rw [List.getElem?_set_ne hj] at hx hy
      exact ⟨(h2.2 j x y hx hy).1, k2 _ _ _ (h2.2 j x y hx hy).2⟩
  · exact ((Below.refl B W).setCell (p := ⟨g, i * 2, none⟩) hgB _).setCell (p := ⟨g, i * 2 + 1, none⟩) hgB _
theorem HadAt.base {W : World} {B Bw g n cap : Nat} {L : List (Int × List ByteArray)} (h : HadAt W B Bw (.slice (some ⟨g, 0, none⟩) n cap) L) : B ≤ g := by
  obtain ⟨LV, h1, _⟩ := h
  rcases h1.2 with ⟨e, _⟩ | ⟨_, _, _, e, hb, _⟩
  · cases e
  · cases e; exact hb
theorem HadAt.frozen {W : World} {B Bw g n cap : Nat} {L : List (Int × List ByteArray)} (h : HadAt W B Bw (.slice (some ⟨g, 0, none⟩) n cap) L) (j : Nat) : W.frozen? ⟨g, j, none⟩ = false := by
  obtain ⟨LV, h1, _⟩ := h
  have hn : LV.length = n := by
    rcases h1.2 with ⟨e, _⟩ | ⟨_, _, _, e, _⟩
    · cases e
    · cases e; rfl
  subst hn
  exact World.ownsRow.frozenAt h1 j
/-- A row of words is not turned by that. -/
theorem HadAt.put_row {W W' : World} {B Bw g n cap i m : Nat} {L : List (Int × List ByteArray)} {num : Int} {u q : Value} {xs : List Value} (h : HadAt W B Bw (.slice (some ⟨g, 0, none⟩) n cap) L) (hW : (W.setCell ⟨g, i * 2, none⟩ (.int .i64 num)).setCell ⟨g, i * 2 + 1, none⟩ u = W') (hq : W.ownsRow Bw 9 1 q m xs) : W'.ownsRow Bw 9 1 q m xs := by
  obtain ⟨LV, h1, _⟩ := h
  have hn : LV.length = n := by
    rcases h1.2 with ⟨e, _⟩ | ⟨_, _, _, e, _⟩
    · cases e
    · cases e; rfl
  subst hn hW
  obtain ⟨s1, g1⟩ := World.ownsRow.stored h1 (i * 2) (.int .i64 num)
  obtain ⟨s2, g2⟩ := World.ownsRow.stored s1 (i * 2 + 1) u
  have k1 := hq.kept g1 (row_apart h1 hq (by decide))
  exact k1.kept g2 (row_apart s1 k1 (by decide))
theorem turn_t : Tryz.prog.underlying 55 = some (.slice (Tryz.prog.elem 55)) := by kernel_rfl
theorem turn_s (w : World) : (sizeOf (Tryz.prog.elem 55)).run Tryz.prog w = .ok 2 w := by kernel_rfl
theorem turn_lo (w : World) (g N cap q : Nat) (h1 : q < N) (h2 : N ≤ cap) : (Instr.slice 55 (.slice (some ⟨g, 0, none⟩) N cap) (some (.int .i64 (q : Int))) none none).run Tryz.prog w = .ok (.slice (some ((⟨g, 0, none⟩ : Addr).add (q * 2))) (N - q) (cap - q)) w := by
  rw [run_slice_l w _ _ N cap turn_t .i64 (q : Int) (by omega) (by omega), turn_s]
  have : ¬ cap = q := by omega
  simp [Result.andThen, sliced, this]
theorem turn_hi (w : World) (g N cap q : Nat) (h1 : q < N) (h2 : N ≤ cap) : (Instr.slice 55 (.slice (some ⟨g, 0, none⟩) N cap) none (some (.int .i64 (q : Int))) none).run Tryz.prog w = .ok (.slice (some ⟨g, 0, none⟩) q cap) w := by
  rw [run_slice_h w _ _ N cap turn_t .i64 (q : Int) (by omega) (by omega), turn_s]
  simp [Result.andThen, sliced, Addr.add]
theorem swap_perm {α : Type} {l : List α} {i j : Nat} {x y : α} (hx : l[i]? = some x) (hy : l[j]? = some y) : ((l.set i y).set j x).Perm l := by
  obtain ⟨hi, rfl⟩ := List.getElem?_eq_some_iff.1 hx
  obtain ⟨hj, rfl⟩ := List.getElem?_eq_some_iff.1 hy
  exact List.set_set_perm hi hj
theorem turn_perm {α : Type} (l : List α) (k : Nat) : (l.drop k ++ l.take k).Perm l := by
  have := List.perm_append_comm (l₁ := l.drop k) (l₂ := l.take k)
  rwa [List.take_append_drop] at this
end Go.Proofs.YticdmlijacnjbaaGreatDoor.Un
