
/- How Go tells how two keys stand: the walks of strings.Compare, cmp.Compare, cmp.Or, of fact.Cmp, of the method against and of the function that the sort is handed. -/
import Derived.Test.YtdnneognilffaaaGreatDoorFaMem
import Derived.Test.YtdnneognilffaaaGreatDoorBase
import Derived.Test.YtdnneognilffaaaGreatDoorPast
import Derived.RegionTactic
import Derived.WalkKit
import Derived.WalkSpells
import Derived.Lib.Hide
import Derived.Lib.Bytealg
import Derived.Lib.Walk
import Derived.LoopTactic
import Derived.Deep.LoopGhost
import Derived.Handy
import Derived.StillTailTactics
namespace Go.Proofs.YtdnneognilffaaaGreatDoor.Fa
open Go.RowKit

set_option maxHeartbeats 1000000 in
set_option maxRecDepth 100000 in
theorem compareString_any (a b : ByteArray) (w : World) :
    Calls Tryz.prog 77 #[.string a, .string b] w fun e w' => e = .returned (.int .i64 (cmpB a b)) ∧ w' = w := by
  go_enter Tryz.func77, Tryz.ntmps77
  go_wp2
  rw [run_callFunc_extern Tryz.func89 (by kernel_rfl) (by kernel_rfl) (by kernel_rfl) (e := Extern.BytealgCompare.compare) (by kernel_rfl), Lib.run_compareString]
  simp only [Result.andThen]
  rw [Oper.upon_value]
  go_wp2
  go_ret
  exact ⟨rfl, rfl⟩
set_option maxHeartbeats 1000000 in
theorem compare_any (a b : ByteArray) (w : World) :
    Calls Tryz.prog 60 #[.string a, .string b] w fun e w' => e = .returned (.int .i64 (cmpB a b)) ∧ w' = w := by
  go_enter Tryz.func60, Tryz.ntmps60
  go_wp2_with (go_at_call 77; refine (compareString_any _ _ _).mono ?_; rintro e w' ⟨rfl, rfl⟩)
  go_ret
  exact ⟨rfl, rfl⟩
set_option maxHeartbeats 400000 in
theorem isNaN_any (x : Int) (w : World) : Calls Tryz.prog 78 #[.int .i64 x] w fun e w' => e = .returned (.bool false) ∧ w' = w := by
  have hx : (x != x) = false := by simp
  go_enter Tryz.func78, Tryz.ntmps78
  go_wp2
  go_ret
  exact ⟨rfl, rfl⟩
set_option maxHeartbeats 400000 in
theorem compareI_any (x y : Int) (w : World) : Calls Tryz.prog 61 #[.int .i64 x, .int .i64 y] w fun e w' => e = .returned (.int .i64 (cmpI x y)) ∧ w' = w := by
  rcases Int.lt_trichotomy x y with h | h | h
  · have e : cmpI x y = -1 := by unfold cmpI; rw [if_pos h]
    rw [e]
    clear e
    go_enter Tryz.func61, Tryz.ntmps61
    go_wp2_with (go_at_call 78; refine (isNaN_any _ _).mono ?_; rintro e w' ⟨rfl, rfl⟩)
    go_ret
    exact ⟨rfl, rfl⟩
  · subst h
    have e : cmpI x x = 0 := by unfold cmpI; rw [if_neg (by omega), if_neg (by omega)]
    rw [e]
    clear e
    have h1 : ¬ x < x := by omega
    go_enter Tryz.func61, Tryz.ntmps61
    go_wp2_with (go_at_call 78; refine (isNaN_any _ _).mono ?_; rintro e w' ⟨rfl, rfl⟩)
    go_ret
    exact ⟨rfl, rfl⟩
  · have e : cmpI x y = 1 := by unfold cmpI; rw [if_neg (by omega), if_pos h]
    rw [e]
    clear e
    have h1 : ¬ x < y := by omega
    go_enter Tryz.func61, Tryz.ntmps61
    go_wp2_with (go_at_call 78; refine (isNaN_any _ _).mono ?_; rintro e w' ⟨rfl, rfl⟩)
    go_ret
    exact ⟨rfl, rfl⟩
/-- The first that is not 0. -/
def orL : List Int → Int
  | [] => 0
  | a :: r => if a = 0 then orL r else a
theorem orL_key (x y : Key) : orL [cmpB x.e y.e, cmpB x.a y.a, cmpB x.f y.f, cmpB x.p y.p, cmpI x.m y.m] = cmpK x y := by
  unfold cmpK
  simp only [orL, orI]
  (repeat' split) <;> first | rfl | omega
theorem orL_step (l : List Int) (k : Nat) (x : Int) (h : l[k]? = some x) : orL (l.drop k) = if x = 0 then orL (l.drop (k + 1)) else x := by
  rw [List.drop_eq_getElem?_toList_append]
  simp [h, orL]
set_option maxHeartbeats 1000000 in
theorem cmpOr_any (l : List Int) (n : Nat) (b : Nat) (w : World) (hn : l.length = n) (hb : n < 100) (hc : ∀ (i : Nat) x, l[i]? = some x → w.cell? ⟨b, i, none⟩ = some (.int .i64 x)) :
    Calls Tryz.prog 59 #[.slice (some ⟨b, 0, none⟩) n n] w fun e w' => e = .returned (.int .i64 (orL l)) ∧ w' = w := by
  have HC := Lib.hid hc
  have HN := Lib.hid hn
  clear hc hn
  obtain ⟨r, hr⟩ : ∃ r, orL l = r := ⟨_, rfl⟩
  rw [hr]
  have HR := Lib.hid hr
  clear hr
  go_enter Tryz.func59, Tryz.ntmps59
  go_wp2
  go_loop [8] (fun i => ∃ k : Nat, k ≤ n ∧ i = .int .i64 k ∧ Hid (orL (l.drop k) = r)) (fun i => n - (intOf i).toNat)
  case atStart => exact ⟨0, Nat.zero_le _, rfl, HR⟩
  case round =>
    obtain ⟨k, hk, rfl, HK⟩ := hrel
    by_cases hlt : k < n
    · obtain ⟨x, hx⟩ : ∃ x, l[k]? = some x := ⟨_, List.getElem?_eq_getElem (by rw [HN.out]; exact hlt)⟩
      have c0 := HC.out k x hx
      have HS := Lib.hid (orL_step l k x hx)
      clear hx
      by_cases h0 : x = 0
      · subst h0
        go_wp2
        go_round
        case rel => exact ⟨k + 1, by omega, by go_num, by rw [← HK.out, HS.out, if_pos rfl]; exact Lib.hid rfl⟩
        case measure => simp [intOf]; omega
      · obtain rfl : x = r := by rw [← HK.out, HS.out, if_neg h0]
        go_wp2
        go_ret
        exact ⟨rfl, rfl⟩
    · obtain rfl : r = 0 := by
        have e : l.drop k = [] := List.drop_of_length_le (by rw [HN.out]; omega)
        rw [← HK.out, e]; rfl
      go_wp2
      go_ret
      exact ⟨rfl, rfl⟩
theorem five_new (w : World) (l : List Int) (t : TypeId) (a b c d e : Int) (h : l = [a, b, c, d, e]) (i : Nat) (x : Int) (hx : l[i]? = some x) : (w.alloc (.cells #[.int .i64 a, .int .i64 b, .int .i64 c, .int .i64 d, .int .i64 e] t)).cell? ⟨w.heap.size, i, none⟩ = some (.int .i64 x) := by
  rw [cell_of_row _ w.heap.size i _ t (0, 0) (heap_alloc_new w _)]
  subst h
  match i, hx with
  | 0, hx => simp at hx; subst hx; rfl
  | 1, hx => simp at hx; subst hx; rfl
  | 2, hx => simp at hx; subst hx; rfl
  | 3, hx => simp at hx; subst hx; rfl
  | 4, hx => simp at hx; subst hx; rfl
set_option maxHeartbeats 4000000 in
set_option maxRecDepth 100000 in
theorem cmp_any (x y : Key) (w : World) :
    Calls Tryz.prog 47 #[aggK x, aggK y] w fun e w' => e = .returned (.int .i64 (cmpK x y)) ∧ Grew w w' := by
  obtain ⟨r, hr⟩ : ∃ r, cmpK x y = r := ⟨_, rfl⟩
  have hA := orL_key x y
  rw [hr] at hA ⊢
  have HA := Lib.hid hA
  clear hr hA
  obtain ⟨W1, hW1⟩ : ∃ W1, (w.alloc (.cells #[.string x.e, .string x.a, .string x.f, .string x.p, .int .i64 x.m] 41)).alloc (.cells #[.string y.e, .string y.a, .string y.f, .string y.p, .int .i64 y.m] 41) = W1 := ⟨_, rfl⟩
  obtain ⟨W2, hW2⟩ : ∃ W2, W1.drew = W2 := ⟨_, rfl⟩
  have bx : BoxE encK W2 w.heap.size 41 x := by
    rw [← hW2, ← hW1]
    have hb := (Below.refl (w.alloc (.cells #[.string x.e, .string x.a, .string x.f, .string x.p, .int .i64 x.m] 41)).heap.size (w.alloc (.cells #[.string x.e, .string x.a, .string x.f, .string x.p, .int .i64 x.m] 41))).alloc (Nat.le_refl _) (.cells #[.string y.e, .string y.a, .string y.f, .string y.p, .int .i64 y.m] 41)
    exact (BoxE.new encK w x 41).kept ⟨hb.os, hb.tape, hb.output, hb.size, hb.block⟩
  have bY : BoxE encK W2 (w.heap.size + 1) 41 y := by
    rw [← hW2, ← hW1]
    have := BoxE.new encK (w.alloc (.cells #[.string x.e, .string x.a, .string x.f, .string x.p, .int .i64 x.m] 41)) y 41
    rw [World.size_alloc] at this
    exact this
  have HG : Hid (Grew w W2) := Lib.hid (by
    rw [← hW2, ← hW1]
    exact (((Grew.refl w).alloc _).alloc _).drew)
  obtain ⟨k0, k1, k2, k3, k4⟩ := key5 bx.at0
  obtain ⟨j0, j1, j2, j3, j4⟩ := key5 bY.at0
  simp only [Nat.zero_add] at k0 k1 k2 k3 k4 j0 j1 j2 j3 j4
  clear bx bY
  go_enter Tryz.func47, Tryz.ntmps47
  go_wp2_with fail
  refine wp_region_still_tail 25 (by kernel_rfl) (by kernel_rfl) ?_
  simp only [List.take_succ_cons, List.take_zero, List.drop_succ_cons, List.drop_zero]
  rw [show ({ heap := W1.heap, tape := W1.tape, drawn := W1.drawn + 1, os := W1.os, output := W1.output } : World) = W2 from hW2]
  clear hW1 hW2
  repeat still_step
  still_call (compare_any _ _ _)
  repeat still_step
  still_call (compare_any _ _ _)
  repeat still_step
  still_call (compare_any _ _ _)
  repeat still_step
  still_call (compare_any _ _ _)
  repeat still_step
  still_call (compareI_any _ _ _)
  refine wpStill_nil ?_
  go_wp2_with (go_at_call 59; refine (cmpOr_any _ 5 _ _ rfl (by decide) (five_new _ _ _ _ _ _ _ _ rfl)).mono ?_; rintro e w' ⟨rfl, rfl⟩)
  go_ret
  exact ⟨by rw [← HA.out]; rfl, HG.out.alloc _⟩
set_option maxHeartbeats 1000000 in
theorem against_any (f : Fact) (k : Key) (w : World) :
    Calls Tryz.prog 37 #[aggF f, aggK k] w fun e w' => e = .returned (.int .i64 (cmpK f.key k)) ∧ Grew w w' := by
  obtain ⟨r, hr⟩ : ∃ r, cmpK f.key k = r := ⟨_, rfl⟩
  have HC := Lib.hid (fun W => cmp_any f.key k W)
  simp only [hr] at HC ⊢
  have HB := Lib.hid (((Grew.refl w).alloc (.cells #[.string f.key.e, .string f.key.a, .string f.key.f, .string f.key.p, .int .i64 f.key.m, .int .i64 f.amt] 43)).alloc (.cells #[.string k.e, .string k.a, .string k.f, .string k.p, .int .i64 k.m] 41))
  go_enter Tryz.func37, Tryz.ntmps37
  go_wp2_with (go_at_call 47; refine (HC.out _).mono ?_; rintro e w' ⟨rfl, hG⟩)
  go_ret
  exact ⟨rfl, HB.out.trans hG⟩
end Go.Proofs.YtdnneognilffaaaGreatDoor.Fa
