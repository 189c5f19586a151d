
/- The walks of lex.numbered and of the iterator that it hands back: the lines of a text, one by one, each with its number. -/
import Derived.Test.YtjinlldfniflbaaLexCut
import Derived.RangeFuncNested
import Derived.RangeFuncBound
import Derived.RangeFuncCalls
import Derived.RangeFuncLeaves
import Derived.Shelf.Abstract
import Derived.Shelf.RegionOpen
import Derived.OwnWalkIn
import Derived.TacticsInMore
import Derived.LoopNIn
import Derived.LoopIn
import Derived.Maps.AppendAt
namespace Go.Proofs.Ytjinlldfniflbaa
open Go.RowKit Go.Shelf
attribute [local go_sem] Oper.semAt_some

/-- A line with its number, as the iterator tells it. -/
def LineX : Type := { x : Nat × List UInt8 // x.1 ≤ 30001 ∧ x.2.length ≤ 20000 ∧ okL x.2 = true }
def LineX.n (x : LineX) : Nat := x.1.1
def LineX.l (x : LineX) : List UInt8 := x.1.2
def LineX.pair (x : LineX) : Nat × List UInt8 := (x.n, x.l)
def encX (x : LineX) : Array Value := #[.int .i64 (x.n : Int), .string (mkB x.l)]
theorem linesX : ∀ (L : List (List UInt8)) (n : Nat), n + L.length ≤ 30001 → (∀ x ∈ L, okL x = true ∧ x.length ≤ 20000) → ∃ xs : List LineX, xs.map LineX.pair = enumL n L
  | [], _, _, _ => ⟨[], rfl⟩
  | x :: r, n, h, hx => by
    simp at h
    obtain ⟨xs, hxs⟩ := linesX r (n + 1) (by omega) fun y hy => hx y (List.mem_cons_of_mem _ hy)
    have h1 := hx x (List.mem_cons_self ..)
    have y : { y : LineX // y.pair = (n, x) } := ⟨⟨(n, x), by simp; omega, h1.2, h1.1⟩, rfl⟩
    exact ⟨y.1 :: xs, by rw [List.map_cons, hxs, y.2]; rfl⟩
theorem grown_drewN (w : World) (n : Nat) : w.grownBy (w.drewN n) none := by
  have h := below_drewN (Below.refl w.heap.size w) n
  exact ⟨h.os, h.tape, h.output, h.size, fun j hj _ => h.block j hj⟩
/-- How far a loop over a text's rest still goes. -/
def restOf : Value → Value → Nat
  | .string r, .bool true => r.size + 1
  | _, _ => 0

/-- What holds at the head of the iterator's loop. -/
def IterAt (J : List LineX → World → Prop) (xs : List LineX) (s3 s4 s5 : Value) (wr : World) : Prop :=
  ∃ (pre post : List LineX) (r : ByteArray) (m : Bool) (n : Nat), s3 = .string r ∧ s4 = .bool m ∧ s5 = .int .i64 (n : Int) ∧ xs = pre ++ post ∧
    (m = true → post.map LineX.pair = enumL n (linesGo [] r.data.toList)) ∧ (m = false → post = []) ∧ r.size ≤ 20000 ∧ n + post.length ≤ 30001 ∧ J pre wr

set_option maxRecDepth 100000 in
set_option maxHeartbeats 2000000 in
theorem iter_in (n : Nat) (hn : 1 ≤ n) (l Bn n₀ : Nat) (s : ByteArray) (hs : s.size ≤ 20000) (xs : List LineX) (hxs : xs.map LineX.pair = enumL 1 (linesGo [] s.data.toList)) (J Jx : List LineX → World → Prop)
    (hJ : ∀ q A k, J q A → J q (A.drewN k))
    (hY : ∀ pre x W, J pre W → pre.length < xs.length → YieldAt Fence.wide (n - 1) Try.prog l (encX x) W fun e W' =>
      (e = .returned (.bool true) ∧ J (pre ++ [x]) W' ∧ Below n₀ W W') ∨ (e = .returned (.bool false) ∧ Jx (pre ++ [x]) W'))
    (W : World) (hBn : W.cell? ⟨Bn, 0, none⟩ = some (.string s)) (h0 : J [] W) :
    CallsIn Fence.wide n Try.prog 34 #[.func (.yield l) #[] #[], .pointer (some ⟨Bn, 0, none⟩)] W fun e W' => (∃ v, e = .returned v) ∧
      ((∃ ys, ys = xs ∧ J ys W') ∨ (∃ pre, pre <+: xs ∧ Jx pre W')) := by
  have hlen : 1 + xs.length ≤ 30001 := by
    have h1 := congrArg List.length hxs
    rw [List.length_map, enumL_length] at h1
    have h2 := linesGo_length [] s.data.toList
    rw [size_list] at h2
    omega
  have HX := Lib.hid hxs
  have HL := Lib.hid hlen
  have HJ := Lib.hid hJ
  have HY := Lib.hid hY
  clear hxs hlen hJ hY
  refine callsIn_of_wp Try.func34 rfl trivial ?_ rfl
  simp only [Try.ntmps34, List.size_toArray, List.length_cons, List.length_nil, Nat.reduceAdd, Nat.reduceSub, Array.replicate_succ, Array.replicate_zero, List.push_toArray, List.append_toArray, List.nil_append, List.cons_append]
  gi_wp2
  gi_loopw [3, 4, 5] (fun s3 s4 s5 wr => IterAt J xs s3 s4 s5 wr) (fun s3 s4 _ _ => restOf s3 s4)
  case atStart =>
    exact ⟨[], xs, s, true, 1, rfl, rfl, rfl, rfl, fun _ => HX.out, (fun h => by cases h), hs, HL.out, h0⟩
  case round =>
    obtain ⟨pre, post, r, m, k, rfl, rfl, rfl, hx, hm, hf, hr, hk, hJs⟩ := hrel
    cases m with
    | false =>
      obtain rfl := hf rfl
      have HXX := Lib.hid hx
      clear hx hm hf hk
      gi_wp2
      go_end0
      exact ⟨⟨_, rfl⟩, .inl ⟨pre, by rw [HXX.out]; simp, hJs⟩⟩
    | true =>
      have hkb : k ≤ 30001 := by omega
      replace hm := hm rfl
      clear hf
      rcases cut_cases 10 r.data.toList with ⟨h1, h2⟩ | ⟨i, h1, h2, h3, h4⟩
      · rw [linesGo_last _ h2] at hm
        obtain ⟨x, rfl⟩ : ∃ x, post = [x] := by
          have := congrArg List.length hm
          simp [enumL] at this
          exact List.length_eq_one_iff.1 this
        have hxp : x.pair = (k, r.data.toList) := by simpa [enumL] using hm
        have hxn : x.n = k := congrArg Prod.fst hxp
        have hxl : mkB x.l = r := by rw [show x.l = r.data.toList from congrArg Prod.snd hxp, mkB_list]
        obtain ⟨fn, tmps, assign, body, hy, hR⟩ := HY.out pre x wr hJs (by rw [hx]; simp)
        unfold encX at hy
        rw [hxn, hxl] at hy
        have HXX := Lib.hid hx
        have H := Lib.hid h1
        have HK := Lib.hid hk
        clear hx h1 h2 hm hxp hxn hxl hk
        gi_wp2_with (refine ⟨trivial, ?_⟩; gi_at_call 35; refine (callsIn_wide.2 (cut_miss 10 r _ H.out)).mono ?_; rintro e w' ⟨rfl, rfl⟩)
        refine hR.mono ?_
        rintro e W3 (⟨rfl, hJ3, hk3⟩ | ⟨rfl, hJx3⟩)
        · gi_wp2
          go_roundw
          case rel => exact ⟨pre ++ [x], [], ⟨#[]⟩, false, k + 1, rfl, rfl, by simp, by rw [HXX.out]; simp, (fun h => by cases h), fun _ => rfl, by decide, by have := HK.out; simp at this ⊢; omega, hJ3⟩
          case measure => simp [restOf]
        · gi_wp2
          refine bodyPost_ret (results_none rfl _ _ _) rfl ?_
          exact ⟨⟨_, rfl⟩, .inr ⟨pre ++ [x], ⟨[], by rw [HXX.out]; simp⟩, hJx3⟩⟩
      · have hi : i < r.size := by rw [← size_list]; exact h2
        have hcut : linesGo [] r.data.toList = r.data.toList.take i :: linesGo [] (r.data.toList.drop (i + 1)) := by
          conv => lhs; rw [h4]
          exact linesGo_cut _ _ h3
        rw [hcut] at hm
        obtain ⟨x, post', rfl⟩ : ∃ x post', post = x :: post' := by
          cases post with
          | nil => simp [enumL] at hm
          | cons x p => exact ⟨x, p, rfl⟩
        simp only [enumL, List.map_cons, List.cons.injEq] at hm
        obtain ⟨hxp, hpost⟩ := hm
        have hxn : x.n = k := congrArg Prod.fst hxp
        have hxl : mkB x.l = r.extract 0 i := by rw [show x.l = _ from congrArg Prod.snd hxp, piece_ahead]
        obtain ⟨u, hu⟩ : ∃ u, r.extract 0 i = u := ⟨_, rfl⟩
        obtain ⟨v, hv⟩ : ∃ v, r.extract (i + 1) r.size = v := ⟨_, rfl⟩
        rw [hu] at hxl
        have hvl : v.data.toList = r.data.toList.drop (i + 1) := by rw [← hv, piece_behind, mkB_data]
        have hvs : v.size < r.size := by rw [← size_list, hvl, List.length_drop, size_list]; omega
        rw [← hvl] at hpost
        have HUV := Lib.hid (And.intro hu hv)
        have HC := Lib.hid (fun w => cut_hit 10 r i w h1 hi (by unfold maxLen; omega))
        have HYY := Lib.hid (fun q => HY.out pre x (wr.drewN q) (HJ.out _ _ q hJs) (by rw [hx]; simp))
        have HXX := Lib.hid hx
        have HK := Lib.hid hk
        have HP := Lib.hid hpost
        have HN := Lib.hid (And.intro hxn hxl)
        clear hx h1 h2 h3 h4 hcut hxp hxn hxl hk hpost hvl hu hv hi
        gi_wp2_with (refine ⟨trivial, ?_⟩; gi_at_call 35; refine (callsIn_wide.2 (HC.out _)).mono ?_; rintro e w' ⟨rfl, q, rfl⟩; rw [HUV.out.1, HUV.out.2]; obtain ⟨fn, tmps, assign, body, hy, hR⟩ := HYY.out q; unfold encX at hy; rw [HN.out.1, HN.out.2] at hy)
        refine hR.mono ?_
        rintro e W3 (⟨rfl, hJ3, hk3⟩ | ⟨rfl, hJx3⟩)
        · gi_wp2
          go_roundw
          case rel => exact ⟨pre ++ [x], post', v, true, k + 1, rfl, rfl, by simp, by rw [HXX.out]; simp, fun _ => HP.out, (fun h => by cases h), by omega, by have := HK.out; simp at this ⊢; omega, hJ3⟩
          case measure => simp [restOf]; omega
        · gi_wp2
          refine bodyPost_ret (results_none rfl _ _ _) rfl ?_
          exact ⟨⟨_, rfl⟩, .inr ⟨pre ++ [x], ⟨post', by rw [HXX.out]; simp⟩, hJx3⟩⟩

set_option maxHeartbeats 1000000 in
theorem numbered_in (n : Nat) (s : ByteArray) (w : World) :
    CallsIn Fence.wide n Try.prog 24 #[.string s] w fun e w' => e = .returned (.func (.func 34) #[] #[.pointer (some ⟨w.heap.size, 0, none⟩)]) ∧ w' = w.alloc (.cells #[.string s] 9) := by
  refine callsIn_of_wp Try.func24 rfl trivial ?_ rfl
  simp only [Try.ntmps24, List.size_toArray, List.length_cons, List.length_nil, Nat.reduceAdd, Nat.reduceSub, Array.replicate_succ, Array.replicate_zero, List.push_toArray, List.append_toArray, List.nil_append, List.cons_append]
  gi_wp2
  go_ret
  exact ⟨rfl, rfl⟩

theorem iter_stops (n : Nat) (hn : 1 ≤ n) (Bn n₀ : Nat) (s : ByteArray) (hs : s.size ≤ 20000) (xs : List LineX) (hxs : xs.map LineX.pair = enumL 1 (linesGo [] s.data.toList)) (w : World) (hBn : Bn < w.heap.size) (hc : w.cell? ⟨Bn, 0, none⟩ = some (.string s)) :
    SeqStopsK Fence.wide n Try.prog 34 #[.pointer (some ⟨Bn, 0, none⟩)] encX (Below n₀) (fun ys => ys = xs) (fun pre => pre <+: xs) xs.length w := fun l J Jx W hW hJ _ hY h0 =>
  iter_in n hn l Bn n₀ s hs xs hxs J Jx (fun q A k h => hJ q A _ none h (grown_drewN A k) (fun r e => by cases e)) hY W ((hW.cell (p := ⟨Bn, 0, none⟩) hBn).trans hc) h0
end Go.Proofs.Ytjinlldfniflbaa
