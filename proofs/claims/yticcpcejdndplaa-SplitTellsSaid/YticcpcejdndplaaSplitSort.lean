
/- The walks of cmp.Compare, split.sign and split.greatestFirst: the places of rests in the one order in which the greatest rest comes first, and of rests that are the same the first one. -/
import Derived.Test.YticcpcejdndplaaSortStable
import Derived.Test.YticcpcejdndplaaMem
import Derived.Test.YticcpcejdndplaaSplitOrder
import Derived.Deep.OwnRows
import Derived.Deep.QuietTactic
import Derived.Below
namespace Go.Proofs.Yticcpcejdndplaa
open Go.Shelf Go.RowKit Go.Lib Go.Sort

/-- What greatestFirst leaves. -/
def FirstsAt (rs : List Int) (n : Nat) (w : World) (e : Ending) (w' : World) : Prop :=
  ∃ pb p, e = .returned (.slice (some ⟨pb, 0, none⟩) n n) ∧ w.heap.size ≤ pb ∧ Firsts rs n p ∧ (∀ k, k < n → w'.cell? ⟨pb, k, none⟩ = some (.int .i64 (p k : Int))) ∧ RowKit.Below w.heap.size w w'

set_option maxHeartbeats 400000 in
theorem isNaN_any (x : Int) (w : World) : Calls Try.prog 46 #[.int .i64 x] w fun e w' => e = .returned (.bool false) ∧ w = w' := by
  have hx : (x != x) = false := by simp
  go_enter Try.func46, Try.ntmps46
  go_wp2
  go_ret
  exact ⟨rfl, rfl⟩

set_option maxHeartbeats 400000 in
theorem compare_any (x y : Int) (w : World) : Calls Try.prog 29 #[.int .i64 x, .int .i64 y] w fun e w' => e = .returned (.int .i64 (cmpI x y)) ∧ w = w' := by
  rcases Int.lt_trichotomy x y with h | h | h
  · have e : cmpI x y = -1 := by unfold cmpI; rw [if_pos h]
    rw [e]
    clear e
    go_enter Try.func29, Try.ntmps29
    go_wp2_with (go_at_call 46; refine (isNaN_any _ _).mono ?_; rintro e w' ⟨rfl, rfl⟩)
    go_ret
    exact ⟨rfl, rfl⟩
  · subst h
    have e : cmpI x x = 0 := by unfold cmpI; rw [if_neg (by omega), if_neg (by omega)]
    rw [e]
    clear e
    have h1 : ¬ x < x := by omega
    go_enter Try.func29, Try.ntmps29
    go_wp2_with (go_at_call 46; refine (isNaN_any _ _).mono ?_; rintro e w' ⟨rfl, rfl⟩)
    go_ret
    exact ⟨rfl, rfl⟩
  · have e : cmpI x y = 1 := by unfold cmpI; rw [if_neg (by omega), if_pos h]
    rw [e]
    clear e
    have h1 : ¬ x < y := by omega
    go_enter Try.func29, Try.ntmps29
    go_wp2_with (go_at_call 46; refine (isNaN_any _ _).mono ?_; rintro e w' ⟨rfl, rfl⟩)
    go_ret
    exact ⟨rfl, rfl⟩

set_option maxHeartbeats 400000 in
theorem sign_any (a : Int) (w : World) : Calls Try.prog 18 #[.int .i64 a] w fun e w' => e = .returned (.int .i64 (cmpI a 0)) ∧ w = w' := by
  have hb : -1 ≤ cmpI a 0 ∧ cmpI a 0 ≤ 1 := by unfold cmpI; (repeat' split) <;> omega
  obtain ⟨c, hc⟩ : ∃ c, cmpI a 0 = c := ⟨_, rfl⟩
  have H := Lib.hid hc
  rw [hc] at hb ⊢
  clear hc
  obtain ⟨b1, b2⟩ := hb
  go_enter Try.func18, Try.ntmps18
  go_wp2_with (go_at_call 29; refine (compare_any a 0 _).mono ?_; rintro e w' ⟨rfl, rfl⟩; rw [H.out])
  go_ret
  exact ⟨rfl, rfl⟩

set_option maxHeartbeats 2000000 in
/-- The closure: how the rest at j stands to that at i. -/
theorem closure_any (rb c Bs n : Nat) (W : World) (rs : List Int) (hs : W.cell? ⟨Bs, 0, none⟩ = some (.slice (some ⟨rb, 0, none⟩) n c))
    (hc : ∀ t, t < n → W.cell? ⟨rb, t, none⟩ = some (.int .i64 (rs.getD t 0))) (i j : Nat) (hi : i < n) (hj : j < n) :
    Calls Try.prog 31 #[.int .i64 i, .int .i64 j, .pointer (some ⟨Bs, 0, none⟩)] W fun e w' => e = .returned (.int .i64 (cmpI (rs.getD j 0) (rs.getD i 0))) ∧ ∃ q, w' = W.drewN q := by
  have ci := hc i hi
  have cj := hc j hj
  clear hc
  generalize rs.getD i 0 = x at ci ⊢
  generalize rs.getD j 0 = y at cj ⊢
  go_enter Try.func31, Try.ntmps31
  go_wp2
  go_quiet (first | (go_at_call 29; exact Calls.quiet_of_same ((compare_any y x _).mono fun _ _ ⟨he, hw⟩ => ⟨he, hw.symm⟩)) | fail)
  go_wp2
  go_ret
  exact ⟨rfl, nq, rfl⟩
/-! ### A world behind a sort: other blocks lie as they lay -/
def encP {n : Nat} (i : Fin n) : Value := .int .i64 ((i.val : Nat) : Int)
theorem sorted_below {m : Nat} {w : World} {g q B : Nat} {os : Array Obj} (d : Array (Fin (m + 1))) (hB : B ≤ g) (hg : g < w.heap.size) : RowKit.Below B w (sortWorld encP w g 0 q d os) := by
  unfold sortWorld
  refine ⟨rfl, rfl, rfl, by simp [putRow, mapBlock, Sort.ahead, grow], fun k hk => ?_⟩
  rw [heap_grow_old _ _ (by simp [putRow, mapBlock, Sort.ahead]; omega)]
  have : g ≠ k := by omega
  simp [putRow, mapBlock, Sort.ahead, Array.getElem?_modify, this]
theorem sorted_other {m : Nat} {w : World} {g q : Nat} {os : Array Obj} (d : Array (Fin (m + 1))) {b o : Nat} (hb : b ≠ g) {v : Value} (h : w.cell? ⟨b, o, none⟩ = some v) : (sortWorld encP w g 0 q d os).cell? ⟨b, o, none⟩ = some v := by
  have hlt := World.block_lt_of_cell? w _ h
  rw [← h]
  apply World.cell?_of_block
  unfold sortWorld
  rw [heap_grow_old _ _ (by simp [putRow, mapBlock, Sort.ahead]; exact hlt)]
  have : g ≠ b := fun e => hb e.symm
  simp [putRow, mapBlock, Sort.ahead, Array.getElem?_modify, this]

theorem iota_get (m j : Nat) (h : j < m + 1) : (Array.ofFn (fun i : Fin (m + 1) => i))[j]! = ⟨j, h⟩ := by
  rw [getElem!_pos _ j (by simpa using h)]; simp

/-- The sort of the places 0 to m. -/
theorem places_sorted (m rb c Bs blk : Nat) (w : World) (rs : List Int) (hm : m < 99999) (hs : w.cell? ⟨Bs, 0, none⟩ = some (.slice (some ⟨rb, 0, none⟩) (m + 1) c)) (hBs : Bs ≠ blk) (hrb : rb ≠ blk)
    (hc : ∀ t, t < m + 1 → w.cell? ⟨rb, t, none⟩ = some (.int .i64 (rs.getD t 0))) (hp : w.rowIs blk 3 (m + 1) (fun k => .int .i64 (k : Int))) :
    Calls Try.prog 30 #[.slice (some ⟨blk, 0, none⟩) (m + 1) (m + 1), .func (.func 31) #[] #[.pointer (some ⟨Bs, 0, none⟩)]] w fun e w' => e = .returned (.tuple #[]) ∧
      ∃ p, Firsts rs (m + 1) p ∧ (∀ k, k < m + 1 → w'.cell? ⟨blk, k, none⟩ = some (.int .i64 (p k : Int))) ∧ RowKit.Below blk w w' := by
  have hH : Holds encP w blk 0 (Array.ofFn (fun i : Fin (m + 1) => i)) := by
    intro j hj
    have hj' : j < m + 1 := by simpa using hj
    rw [iota_get m j hj', Nat.zero_add]
    exact ⟨hp.cell hj', hp.frozen j⟩
  have R : Row1 (α := Fin (m + 1)) encP w blk 0 (Array.ofFn (fun i : Fin (m + 1) => i)) := ⟨fun _ => rfl, hH, hp.lt⟩
  have hcmp : CmpLays1 (α := Fin (m + 1)) Try.prog 31 #[.pointer (some ⟨Bs, 0, none⟩)] encP (fun x y => cmpI (rs.getD y.val 0) (rs.getD x.val 0)) blk 0 (Array.ofFn (fun i : Fin (m + 1) => i)).size w := by
    refine CmpReads.lays fun q os dk hs2 x y => ?_
    exact closure_any rb c Bs (m + 1) _ rs (sorted_other dk hBs hs) (fun t ht => sorted_other dk hrb (hc t ht)) x.val y.val x.isLt y.isLt
  have hS := sortStable_any (α := Fin (m + 1)) encP (fun x y => cmpI (rs.getD y.val 0) (rs.getD x.val 0)) (fun x y => before rs x.val y.val) (fun x y z => before_trans rs x.val y.val z.val) Fin.val
    (fun x y h => by unfold ltOf cmpI before; (repeat' split) <;> simp <;> omega)
    31 #[.pointer (some ⟨Bs, 0, none⟩)] blk 0 (m + 1) (m + 1) _ w w (enters_of Try.func31 (by kernel_rfl) rfl) hcmp R (by simp) (SW.start hH) (by omega)
    (fun i hi => by rw [iota_get m i hi])
  refine hS.mono ?_
  rintro e w' ⟨rfl, d', h1, h2, h3⟩
  refine ⟨rfl, fun k => (d'[k]!).val, ⟨fun k _ => (d'[k]!).isLt, fun i j h4 h5 => h2 i j (Nat.zero_le _) h4 h5⟩, fun k hk => ?_, ?_⟩
  · have := (h3.holds hp.lt hH (by simp [h1]) k (by omega)).1
    rwa [Nat.zero_add] at this
  · obtain ⟨q, os, rfl⟩ := h3
    exact sorted_below d' (Nat.le_refl _) hp.lt

theorem made_step {wr : World} {b n i : Nat} (h : wr.rowIs b 3 n (fun k => .int .i64 ((if k < i then k else 0 : Nat) : Int))) : (wr.setCell ⟨b, i, none⟩ (.int .i64 (i : Int))).rowIs b 3 n (fun k => .int .i64 ((if k < i + 1 then k else 0 : Nat) : Int)) := by
  refine (h.set i _).congr fun k hk => ?_
  by_cases c1 : k = i
  · subst c1; rw [if_pos rfl, if_pos (by omega)]
  · rw [if_neg c1]
    by_cases c2 : k < i
    · rw [if_pos c2, if_pos (by omega)]
    · rw [if_neg c2, if_neg (by omega)]

set_option maxHeartbeats 2000000 in
theorem greatest_any (n rb c : Nat) (rs : List Int) (w : World) (h0 : 0 < n) (hn : n ≤ 1000) (hc : ∀ t, t < n → w.cell? ⟨rb, t, none⟩ = some (.int .i64 (rs.getD t 0))) :
    Calls Try.prog 19 #[.slice (some ⟨rb, 0, none⟩) n c] w (FirstsAt rs n w) := by
  have hmk := run_make_row' (P := Try.prog) 49 3 (.int .i64 0) 8 (by kernel_rfl) (by kernel_rfl) rfl .i64 .i64 n (by omega) (by omega)
  have hrb : rb < w.heap.size := World.block_lt_of_cell? w _ (hc 0 h0)
  have HC := Lib.hid hc
  clear hc
  go_enter Try.func19, Try.ntmps19
  go_wp2
  obtain ⟨w1, hw1⟩ : ∃ w1, w1 = w.alloc (.cells #[.slice (some ⟨rb, 0, none⟩) n c] 22) := ⟨_, rfl⟩
  rw [← hw1]
  have hsz1 : w1.heap.size = w.heap.size + 1 := by rw [hw1]; simp
  have hbox : w1.cell? ⟨w.heap.size, 0, none⟩ = some (.slice (some ⟨rb, 0, none⟩) n c) := by rw [hw1]; simp
  have hbel : RowKit.Below w.heap.size w w1 := by rw [hw1]; exact (Below.refl _ _).alloc (Nat.le_refl _) _
  have hrow := World.rowIs_made w1 (.int .i64 0) n 3
  have hbel2 : RowKit.Below (w.heap.size + 1) w1 (w1.alloc (.cells (madeCells #[.int .i64 0] n) 3)) := (Below.refl _ _).alloc (by omega) _
  rw [hsz1] at hrow
  generalize w1.alloc (.cells (madeCells #[.int .i64 0] n) 3) = w2 at hrow hbel2 ⊢
  have HW1 := Lib.hid hsz1
  have HBOX := Lib.hid hbox
  have HBEL := Lib.hid hbel
  have HROW := Lib.hid hrow
  have HBEL2 := Lib.hid hbel2
  obtain ⟨B, hB⟩ : ∃ B, B = w.heap.size := ⟨_, rfl⟩
  rw [← hB] at hrb ⊢
  have EB := Lib.hid hB
  clear hw1 hsz1 hbox hbel hrow hbel2 hmk hB
  go_loopg [10] n (fun kx vi wr => ∃ i : Nat, vi = .int .i64 (i : Int) ∧ i ≤ n ∧ n - i ≤ kx ∧ Hid (wr.rowIs (B + 1) 3 n (fun k => .int .i64 ((if k < i then k else 0 : Nat) : Int))) ∧ Hid (RowKit.Below (B + 1) w1 wr))
  case atStart => exact ⟨0, rfl, Nat.zero_le _, by omega, (Lib.hid (by rw [EB.out]; exact HROW.out.congr fun k _ => by rw [if_neg (by omega)]; rfl)), (Lib.hid (by rw [EB.out]; exact HBEL2.out))⟩
  case round =>
    clear HROW HBEL2
    obtain ⟨i, rfl, hin, hkx, HR, HB⟩ := hrel
    by_cases hlt : i < n
    · have hltz : (i : Int) < (n : Int) := by omega
      have hcell := HR.out.cell hlt
      have hfr := HR.out.frozen i
      have R2 := Lib.hid (made_step HR.out)
      have B2 := Lib.hid (HB.out.setCell (p := ⟨B + 1, i, none⟩) (by simp) (.int .i64 (i : Int)))
      clear HR HB
      go_wp2
      go_roundg (n - (i + 1))
      case measure => omega
      case rel => exact ⟨i + 1, by first | rfl | go_num, by omega, Nat.le_refl _, R2, B2⟩
    · have hltz : ¬ (i : Int) < (n : Int) := by omega
      obtain ⟨m, hm⟩ : ∃ m, m + 1 = n := ⟨n - 1, by omega⟩
      have hc := places_sorted m rb c B (B + 1) wr rs (by omega)
        (by rw [HB.out.cell (p := ⟨B, 0, none⟩) (by simp), hm, EB.out]; exact HBOX.out) (by omega) (by omega)
        (fun t ht => by rw [HB.out.cell (p := ⟨rb, t, none⟩) (by simp; omega), HBEL.out.cell (p := ⟨rb, t, none⟩) (by rw [← EB.out]; exact hrb)]; exact HC.out t (by omega))
        (by rw [hm]; exact HR.out.congr fun k hk => by rw [if_pos (by omega)])
      rw [hm] at hc
      have HCALL := Lib.hid hc
      clear hc hm
      go_wp2_with fail
      refine HCALL.out.mono ?_
      rintro e w' ⟨rfl, p, p1, p2, p3⟩
      have P1 := Lib.hid p1
      have P2 := Lib.hid p2
      have P3 := Lib.hid p3
      clear p1 p2 p3 HCALL
      go_wp2
      go_ret
      refine ⟨B + 1, p, rfl, by rw [← EB.out]; omega, P1.out, P2.out, ?_⟩
      rw [← EB.out]
      have b1 : RowKit.Below B w w1 := by rw [EB.out]; exact HBEL.out
      exact (b1.trans (HB.out.mono (by omega))).trans (P3.out.mono (by omega))
end Go.Proofs.Yticcpcejdndplaa
