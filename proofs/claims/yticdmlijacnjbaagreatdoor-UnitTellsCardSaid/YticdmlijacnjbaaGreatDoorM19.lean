/- LexIter; LexLines: texts put together (each begins with what it is). -/
import Derived.Test.YticdmlijacnjbaaGreatDoorM18
import Derived.RangeFuncNested
import Derived.RangeFuncBound
import Derived.RangeFuncCalls
import Derived.RangeFuncLeaves
import Derived.Shelf.Abstract
import Derived.Shelf.RegionOpen
import Derived.OwnWalkIn
import Derived.TacticsInMore
import Derived.LoopNIn
import Derived.LoopIn
import Derived.Maps.AppendAt
import Derived.Test.YticdmlijacnjbaaGreatDoorM03
import Derived.Shelf.Strings.FieldsFuncAny
/- The walks of lex.numbered and of the iterator that it hands back: the lines of a text, one by one, each with its number. -/
namespace Go.Proofs.YticdmlijacnjbaaGreatDoor
open Go.RowKit Go.Shelf
attribute [local go_sem] Oper.semAt_some

/-- A line with its number, as the iterator tells it. -/
def LineX : Type := { x : Nat × List UInt8 // x.1 ≤ 30001 ∧ x.2.length ≤ 20000 ∧ okL x.2 = true }
def LineX.n (x : LineX) : Nat := x.1.1
def LineX.l (x : LineX) : List UInt8 := x.1.2
def LineX.pair (x : LineX) : Nat × List UInt8 := (x.n, x.l)
def encX (x : LineX) : Array Value := #[.int .i64 (x.n : Int), .string (mkB x.l)]
theorem linesX : ∀ (L : List (List UInt8)) (n : Nat), n + L.length ≤ 30001 → (∀ x ∈ L, okL x = true ∧ x.length ≤ 20000) → ∃ xs : List LineX, xs.map LineX.pair = enumL n L
  | [], _, _, _ => ⟨[], rfl⟩
  | x :: r, n, h, hx => by
    simp at h
    obtain ⟨xs, hxs⟩ := linesX r (n + 1) (by omega) fun y hy => hx y (List.mem_cons_of_mem _ hy)
    have h1 := hx x (List.mem_cons_self ..)
    have y : { y : LineX // y.pair = (n, x) } := ⟨⟨(n, x), by simp; omega, h1.2, h1.1⟩, rfl⟩
    exact ⟨y.1 :: xs, by rw [List.map_cons, hxs, y.2]; rfl⟩
theorem grown_drewN (w : World) (n : Nat) : w.grownBy (w.drewN n) none := by
  have h := below_drewN (Below.refl w.heap.size w) n
  exact ⟨h.os, h.tape, h.output, h.size, fun j hj _ => h.block j hj⟩
/-- How far a loop over a text's rest still goes. -/
def restOf : Value → Value → Nat
  | .string r, .bool true => r.size + 1
  | _, _ => 0

/-- What holds at the head of the iterator's loop. -/
def IterAt (J : List LineX → World → Prop) (xs : List LineX) (s3 s4 s5 : Value) (wr : World) : Prop :=
  ∃ (pre post : List LineX) (r : ByteArray) (m : Bool) (n : Nat), s3 = .string r ∧ s4 = .bool m ∧ s5 = .int .i64 (n : Int) ∧ xs = pre ++ post ∧
    (m = true → post.map LineX.pair = enumL n (linesGo [] r.data.toList)) ∧ (m = false → post = []) ∧ r.size ≤ 20000 ∧ n + post.length ≤ 30001 ∧ J pre wr

set_option maxRecDepth 100000 in
set_option maxHeartbeats 2000000 in
theorem iter_in (n : Nat) (hn : 1 ≤ n) (l Bn n₀ : Nat) (s : ByteArray) (hs : s.size ≤ 20000) (xs : List LineX) (hxs : xs.map LineX.pair = enumL 1 (linesGo [] s.data.toList)) (J Jx : List LineX → World → Prop)
    (hJ : ∀ q A k, J q A → J q (A.drewN k))
    (hY : ∀ pre x W, J pre W → pre.length < xs.length → YieldAt Fence.wide (n - 1) Tryz.prog l (encX x) W fun e W' =>
      (e = .returned (.bool true) ∧ J (pre ++ [x]) W' ∧ Below n₀ W W') ∨ (e = .returned (.bool false) ∧ Jx (pre ++ [x]) W'))
    (W : World) (hBn : W.cell? ⟨Bn, 0, none⟩ = some (.string s)) (h0 : J [] W) :
    CallsIn Fence.wide n Tryz.prog 72 #[.func (.yield l) #[] #[], .pointer (some ⟨Bn, 0, none⟩)] W fun e W' => (∃ v, e = .returned v) ∧
      ((∃ ys, ys = xs ∧ J ys W') ∨ (∃ pre, pre <+: xs ∧ Jx pre W')) := by
  have hlen : 1 + xs.length ≤ 30001 := by
    have h1 := congrArg List.length hxs
    rw [List.length_map, enumL_length] at h1
    have h2 := linesGo_length [] s.data.toList
    rw [size_list] at h2
    omega
  have HX := Lib.hid hxs
  have HL := Lib.hid hlen
  have HJ := Lib.hid hJ
  have HY := Lib.hid hY
  clear hxs hlen hJ hY
  refine callsIn_of_wp Tryz.func72 rfl trivial ?_ rfl
  simp only [Tryz.ntmps72, List.size_toArray, List.length_cons, List.length_nil, Nat.reduceAdd, Nat.reduceSub, Array.replicate_succ, Array.replicate_zero, List.push_toArray, List.append_toArray, List.nil_append, List.cons_append]
  gi_wp2
  gi_loopw [3, 4, 5] (fun s3 s4 s5 wr => IterAt J xs s3 s4 s5 wr) (fun s3 s4 _ _ => restOf s3 s4)
  case atStart =>
    exact ⟨[], xs, s, true, 1, rfl, rfl, rfl, rfl, fun _ => HX.out, (fun h => by cases h), hs, HL.out, h0⟩
  case round =>
    obtain ⟨pre, post, r, m, k, rfl, rfl, rfl, hx, hm, hf, hr, hk, hJs⟩ := hrel
    cases m with
    | false =>
      obtain rfl := hf rfl
      have HXX := Lib.hid hx
      clear hx hm hf hk
      gi_wp2
      go_end0
      exact ⟨⟨_, rfl⟩, .inl ⟨pre, by rw [HXX.out]; simp, hJs⟩⟩
    | true =>
      have hkb : k ≤ 30001 := by omega
      replace hm := hm rfl
      clear hf
      rcases cut_cases 10 r.data.toList with ⟨h1, h2⟩ | ⟨i, h1, h2, h3, h4⟩
      · rw [linesGo_last _ h2] at hm
        obtain ⟨x, rfl⟩ : ∃ x, post = [x] := by
          have := congrArg List.length hm
          simp [enumL] at this
          exact List.length_eq_one_iff.1 this
        have hxp : x.pair = (k, r.data.toList) := by simpa [enumL] using hm
        have hxn : x.n = k := congrArg Prod.fst hxp
        have hxl : mkB x.l = r := by rw [show x.l = r.data.toList from congrArg Prod.snd hxp, mkB_list]
        obtain ⟨fn, tmps, assign, body, hy, hR⟩ := HY.out pre x wr hJs (by rw [hx]; simp)
        unfold encX at hy
        rw [hxn, hxl] at hy
        have HXX := Lib.hid hx
        have H := Lib.hid h1
        have HK := Lib.hid hk
        clear hx h1 h2 hm hxp hxn hxl hk
        gi_wp2_with (refine ⟨trivial, ?_⟩; gi_at_call 73; refine (callsIn_wide.2 (cut_miss 10 r _ H.out)).mono ?_; rintro e w' ⟨rfl, rfl⟩)
        refine hR.mono ?_
        rintro e W3 (⟨rfl, hJ3, hk3⟩ | ⟨rfl, hJx3⟩)
        · gi_wp2
          go_roundw
          case rel => exact ⟨pre ++ [x], [], ⟨#[]⟩, false, k + 1, rfl, rfl, by simp, by rw [HXX.out]; simp, (fun h => by cases h), fun _ => rfl, by decide, by have := HK.out; simp at this ⊢; omega, hJ3⟩
          case measure => simp [restOf]
        · gi_wp2
          refine bodyPost_ret (results_none rfl _ _ _) rfl ?_
          exact ⟨⟨_, rfl⟩, .inr ⟨pre ++ [x], ⟨[], by rw [HXX.out]; simp⟩, hJx3⟩⟩
      · have hi : i < r.size := by rw [← size_list]; exact h2
        have hcut : linesGo [] r.data.toList = r.data.toList.take i :: linesGo [] (r.data.toList.drop (i + 1)) := by
          conv => lhs; rw [h4]
          exact linesGo_cut _ _ h3
        rw [hcut] at hm
        obtain ⟨x, post', rfl⟩ : ∃ x post', post = x :: post' := by
          cases post with
          | nil => simp [enumL] at hm
          | cons x p => exact ⟨x, p, rfl⟩
        simp only [enumL, List.map_cons, List.cons.injEq] at hm
        obtain ⟨hxp, hpost⟩ := hm
        have hxn : x.n = k := congrArg Prod.fst hxp
        have hxl : mkB x.l = r.extract 0 i := by rw [show x.l = _ from congrArg Prod.snd hxp, piece_ahead]
        obtain ⟨u, hu⟩ : ∃ u, r.extract 0 i = u := ⟨_, rfl⟩
        obtain ⟨v, hv⟩ : ∃ v, r.extract (i + 1) r.size = v := ⟨_, rfl⟩
        rw [hu] at hxl
        have hvl : v.data.toList = r.data.toList.drop (i + 1) := by rw [← hv, piece_behind, mkB_data]
        have hvs : v.size < r.size := by rw [← size_list, hvl, List.length_drop, size_list]; omega
        rw [← hvl] at hpost
        have HUV := Lib.hid (And.intro hu hv)
        have HC := Lib.hid (fun w => cut_hit 10 r i w h1 hi (by unfold maxLen; omega))
        have HYY := Lib.hid (fun q => HY.out pre x (wr.drewN q) (HJ.out _ _ q hJs) (by rw [hx]; simp))
        have HXX := Lib.hid hx
        have HK := Lib.hid hk
        have HP := Lib.hid hpost
        have HN := Lib.hid (And.intro hxn hxl)
        clear hx h1 h2 h3 h4 hcut hxp hxn hxl hk hpost hvl hu hv hi
        gi_wp2_with (refine ⟨trivial, ?_⟩; gi_at_call 73; refine (callsIn_wide.2 (HC.out _)).mono ?_; rintro e w' ⟨rfl, q, rfl⟩; rw [HUV.out.1, HUV.out.2]; obtain ⟨fn, tmps, assign, body, hy, hR⟩ := HYY.out q; unfold encX at hy; rw [HN.out.1, HN.out.2] at hy)
        refine hR.mono ?_
        rintro e W3 (⟨rfl, hJ3, hk3⟩ | ⟨rfl, hJx3⟩)
        · gi_wp2
          go_roundw
          case rel => exact ⟨pre ++ [x], post', v, true, k + 1, rfl, rfl, by simp, by rw [HXX.out]; simp, fun _ => HP.out, (fun h => by cases h), by omega, by have := HK.out; simp at this ⊢; omega, hJ3⟩
          case measure => simp [restOf]; omega
        · gi_wp2
          refine bodyPost_ret (results_none rfl _ _ _) rfl ?_
          exact ⟨⟨_, rfl⟩, .inr ⟨pre ++ [x], ⟨post', by rw [HXX.out]; simp⟩, hJx3⟩⟩

set_option maxHeartbeats 1000000 in
theorem numbered_in (n : Nat) (s : ByteArray) (w : World) :
    CallsIn Fence.wide n Tryz.prog 44 #[.string s] w fun e w' => e = .returned (.func (.func 72) #[] #[.pointer (some ⟨w.heap.size, 0, none⟩)]) ∧ w' = w.alloc (.cells #[.string s] 9) := by
  refine callsIn_of_wp Tryz.func44 rfl trivial ?_ rfl
  simp only [Tryz.ntmps44, List.size_toArray, List.length_cons, List.length_nil, Nat.reduceAdd, Nat.reduceSub, Array.replicate_succ, Array.replicate_zero, List.push_toArray, List.append_toArray, List.nil_append, List.cons_append]
  gi_wp2
  go_ret
  exact ⟨rfl, rfl⟩

theorem iter_stops (n : Nat) (hn : 1 ≤ n) (Bn n₀ : Nat) (s : ByteArray) (hs : s.size ≤ 20000) (xs : List LineX) (hxs : xs.map LineX.pair = enumL 1 (linesGo [] s.data.toList)) (w : World) (hBn : Bn < w.heap.size) (hc : w.cell? ⟨Bn, 0, none⟩ = some (.string s)) :
    SeqStopsK Fence.wide n Tryz.prog 72 #[.pointer (some ⟨Bn, 0, none⟩)] encX (Below n₀) (fun ys => ys = xs) (fun pre => pre <+: xs) xs.length w := fun l J Jx W hW hJ _ hY h0 =>
  iter_in n hn l Bn n₀ s hs xs hxs J Jx (fun q A k h => hJ q A _ none h (grown_drewN A k) (fun r e => by cases e)) hY W ((hW.cell (p := ⟨Bn, 0, none⟩) hBn).trans hc) h0
end Go.Proofs.YticdmlijacnjbaaGreatDoor
/- The walk of lex.Lines: at every text of at most 30000 bytes it hands back the plain lines, and the plain number; memory that was there stays. -/
namespace Go.Proofs.YticdmlijacnjbaaGreatDoor
open Go.RowKit Go.Shelf
attribute [local go_sem] Oper.semAt_some

/-- What Lines hands back. -/
def LinesPost (w : World) (L : List (Int × List ByteArray)) (c : Int) (e : Ending) (w' : World) : Prop :=
  ∃ v, e = .returned (.tuple #[v, .int .i64 c]) ∧ LinesV w' v L ∧ Below w.heap.size w w'
theorem info_line : (Tryz.prog.info? 75).map (fun i => (i.zero, i.size, i.bytes)) = some (some (.agg #[.int .i64 0, .slice none 0 0]), 2, 32) := by kernel_rfl
theorem linE_big (l : List UInt8) (h : 20000 < l.length) : linE l = 4 ∧ linV l = [] := by simp [linE, linV, h]
theorem linE_bad (l : List UInt8) (h : l.length ≤ 20000) (ho : okL l = false) : linE l = 5 ∧ linV l = [] := by simp [linE, linV, Nat.not_lt.2 h, ho]
theorem linE_ok (l : List UInt8) (h : l.length ≤ 20000) (ho : okL l = true) : linE l = 0 ∧ linV l = linesL l := by simp [linE, linV, Nat.not_lt.2 h, ho]
/-- The lines of what has come. -/
def linesOf (pre : List LineX) : List (Int × List ByteArray) := asB (numP (pre.map LineX.pair))
theorem linesOf_hit (pre : List LineX) (x : LineX) (h : wordsL x.l ≠ []) : linesOf (pre ++ [x]) = linesOf pre ++ [((x.n : Int), (wordsL x.l).map mkB)] := by
  unfold linesOf
  rw [List.map_append, List.map_cons, List.map_nil, numP_hit _ _ (by exact h), asB_append]
  rfl
theorem linesOf_miss (pre : List LineX) (x : LineX) (h : wordsL x.l = []) : linesOf (pre ++ [x]) = linesOf pre := by
  unfold linesOf
  rw [List.map_append, List.map_cons, List.map_nil, numP_miss _ _ (by exact h)]
theorem linesOf_length (pre : List LineX) : (linesOf pre).length ≤ pre.length := by
  unfold linesOf
  rw [asB_length]
  have := numP_length (pre.map LineX.pair)
  simpa using this

/-- Between two rounds: the variable's box holds a row of the call's own, the lines of what has come. -/
def LinesI (w : World) (pre : List LineX) (W : World) : Prop :=
  ∃ v LV, Boxed W w.heap.size 69 v ∧ W.ownsRow w.heap.size 75 2 v LV.length (flatL LV) ∧ WordsOwn W w.heap.size 9 LV (linesOf pre)
theorem linesI_own (w : World) : Own (LinesI w) := by
  rintro s X Y row ⟨v, LV, hv, hr, hw⟩ hg hrow
  refine ⟨v, LV, hv.kept hg (fun e' => ?_), row_uncells hr hg hrow, hw.mono fun u n xs hu => row_uncells hu hg hrow⟩
  obtain ⟨o, ho, hc⟩ := hrow _ e'.symm
  rw [show X.heap[w.heap.size]? = _ from hv] at ho; cases ho; cases hc

theorem lines_big (s : ByteArray) (w : World) (h : 20000 < s.size) (hs : s.size ≤ 30000) :
    Calls Tryz.prog 25 #[.string s] w (LinesPost w [] 4) := by
  go_enter Tryz.func25, Tryz.ntmps25
  go_wp2
  go_ret2
  exact ⟨_, rfl, LinesV.nil _, Below.refl _ _⟩
theorem lines_bad (s : ByteArray) (w : World) (hs : s.size ≤ 20000) (ho : okL s.data.toList = false) :
    Calls Tryz.prog 25 #[.string s] w (LinesPost w [] 5) := by
  have HO := Lib.hid ho
  have HS : Hid (s.size ≤ maxLen) := Lib.hid (by unfold maxLen; omega)
  clear ho
  have h1 : ¬ 20000 < s.size := by omega
  go_enter Tryz.func25, Tryz.ntmps25
  go_wp2_with fail
  refine (readable_any s _ HS.out).mono ?_
  rintro e w' ⟨rfl, rfl⟩
  rw [HO.out]
  go_wp2
  go_ret2
  exact ⟨_, rfl, LinesV.nil _, Below.refl _ _⟩

set_option maxRecDepth 100000 in
set_option maxHeartbeats 2000000 in
theorem lines_good (s : ByteArray) (w : World) (hs : s.size ≤ 20000) (ho : okL s.data.toList = true) :
    Calls Tryz.prog 25 #[.string s] w (LinesPost w (asB (linesL s.data.toList)) 0) := by
  have hall := linesGo_all okB [] s.data.toList rfl ho
  have hlen := linesGo_length [] s.data.toList
  have hsl := size_list s
  obtain ⟨xs, hxs⟩ := linesX (linesGo [] s.data.toList) 1 (by omega) fun x hx => ⟨(hall x hx).1, by have := (hall x hx).2; simp at this; omega⟩
  have hres : linesOf xs = asB (linesL s.data.toList) := by unfold linesOf linesL; rw [hxs]
  have hxl : xs.length ≤ 20001 := by
    have h1 := congrArg List.length hxs
    rw [List.length_map, enumL_length] at h1
    omega
  rw [← hres]
  have HX := Lib.hid hxs
  have HO := Lib.hid ho
  have HS : Hid (s.size ≤ maxLen) := Lib.hid (by unfold maxLen; omega)
  have HXL := Lib.hid hxl
  clear hall hlen hsl hxs hres ho hxl
  have h1 : ¬ 20000 < s.size := by omega
  obtain ⟨i0, hi, hz0, hz1, hz2⟩ := info_parts info_line
  have HI := Lib.hid (And.intro hi (And.intro hz0 (And.intro hz1 hz2)))
  clear hi hz0 hz1 hz2
  refine (callsIn_wide (n := 3)).1 ?_
  refine callsIn_of_wp_marks Tryz.func25 rfl trivial ?_ rfl
  simp only [Tryz.ntmps25, List.size_toArray, List.length_cons, List.length_nil, Nat.reduceAdd, Nat.reduceSub, Array.replicate_succ, Array.replicate_zero, List.push_toArray, List.append_toArray, List.nil_append, List.cons_append]
  gi_wp2_with (first
    | (refine ⟨trivial, ?_⟩; gi_at_call 43; refine (callsIn_wide.2 (readable_any s _ HS.out)).mono ?_; rintro e w' ⟨rfl, rfl⟩; rw [HO.out])
    | (refine ⟨trivial, ?_⟩; gi_at_call 44; refine (numbered_in _ s _).mono ?_; rintro e w' ⟨rfl, rfl⟩))
  have bO := Boxed.new w 69 (.slice none 0 0)
  have bN := Boxed.new (w.alloc (.cells #[.slice none 0 0] 69)) 9 (.string s)
  rw [World.size_alloc] at bN
  have hB0 : Below w.heap.size w ((w.alloc (.cells #[.slice none 0 0] 69)).alloc (.cells #[.string s] 9)) := ((Below.refl _ w).alloc (Nat.le_refl _) _).alloc (by simp) _
  refine wpIn_rangeFunc_ownG rfl (by decide) (gf := 72) (lb := #[.pointer (some ⟨w.heap.size + 1, 0, none⟩)]) rfl trivial (enters_of Tryz.func72 (by kernel_rfl) rfl)
    (iter_stops 2 (by decide) (w.heap.size + 1) w.heap.size s hs xs HX.out _ (by simp) bN.cell) belowK_t (belowK_b (by simp; omega)) (Below.refl _ _) (fun _ => rfl)
    (fun pre W => LinesI w pre W ∧ Below w.heap.size w W)
    (fun _ _ _ => False)
    (OwnFrom.and (Own.from (linesI_own w) _) (ownFrom_below (Nat.le_refl _) (by simp; omega)))
    (fun _ _ _ _ _ hs _ _ => hs)
    ⟨⟨_, [], bO.alloc _, World.ownsRow_nil _ _ _ _, WordsOwn.nil _ _ _⟩, hB0⟩
    (fun x => { tmps := #[.string s, undef, .slice none 0 0, .int .i64 0, .pointer (some ⟨w.heap.size, 0, none⟩), .int .i64 (x.n : Int), .string (mkB x.l), undef, .string s, .int .i64 (s.size : Int), .bool (decide ((20000 : Int) < (s.size : Int))), .string s, .bool true, .bool false, .string s, .func (.func 72) #[] #[.pointer (some ⟨w.heap.size + 1, 0, none⟩)], .int .i64 (x.n : Int), .string (mkB x.l), undef, undef, undef, undef, undef, undef, undef, undef, undef, undef, undef, undef], defers := [] }) ?assign ?body ?done ?stop
  case assign =>
    intro l x W K hK
    simp only [encX]
    gi_wp2
    exact hK
  case body =>
    rintro l pre x W ⟨⟨v, LV, hv, hrow, hw⟩, hB⟩ hlt
    have hWd : ∀ W, Calls Tryz.prog 45 #[.string (mkB x.l)] W (WordsPost W ((wordsL x.l).map mkB)) := fun W => by
      have := wordsOf_any (mkB x.l) W (by rw [mkB_size]; have := x.2.2.1; show x.1.2.length ≤ _; omega) (fun c hc => by
        rw [mkB_data] at hc
        have := List.all_eq_true.1 x.2.2.2 c hc
        rw [okB_dec] at this
        have := of_decide_eq_true this
        omega)
      rwa [mkB_data] at this
    have hpl : LV.length ≤ pre.length := by rw [hw.1]; exact linesOf_length pre
    have hll : LV.length ≤ 20001 := by have := HXL.out; omega
    have HH := linesOf_hit pre x
    have HM := linesOf_miss pre x
    by_cases hws : wordsL x.l = []
    · have HE := Lib.hid (HM hws)
      rw [hws] at hWd
      have HW := Lib.hid hWd
      clear hWd HH HM hws hpl hll
      gi_wp2_with (refine ⟨trivial, ?_⟩; gi_at_call 45; refine (CallsIn.inRound l (callsIn_wide.2 (HW.out _))).mono ?_; rintro e W1 ⟨A, rfl, hA, ho, hb⟩; simp only [List.map_nil, List.length_nil])
      exact ⟨keepsFrom_below _ hb, hb.mono hB.size, ⟨v, LV, boxed_below hv hb, row_below hrow hb, by rw [HE.out]; exact hw.mono fun u n xs hu => row_below hu hb⟩, hB.trans (hb.mono hB.size)⟩
    · have HE := Lib.hid (HH hws)
      have hpos : 0 < ((wordsL x.l).map mkB).length := by rw [List.length_map]; exact List.length_pos_iff.2 hws
      obtain ⟨ws, hwsd⟩ : ∃ ws, (wordsL x.l).map mkB = ws := ⟨_, rfl⟩
      rw [hwsd] at hWd hpos HE
      have HW := Lib.hid hWd
      clear hWd HH HM hws hpl hwsd
      gi_wp2_with (first
        | (refine ⟨trivial, ?_⟩; gi_at_call 45; refine (CallsIn.inRound l (callsIn_wide.2 (HW.out _))).mono ?_; rintro e W1 ⟨A, rfl, hA, ho, hb⟩; have hv1 := boxed_below hv hb; have hc1 := hv1.cell; have hrow1 := row_below hrow hb; have hw1 : Hid _ := Lib.hid (hw.mono fun u n xs hu => row_below hu hb); have hsz : w.heap.size ≤ W1.heap.size := Nat.le_trans hB.size hb.size)
        | (gi_at_builtin; refine wpListIn_append_own _ rfl _ _ 69 rfl w.heap.size 75 i0 (.agg #[.int .i64 0, .slice none 0 0]) 2 32 Tryz.underlying69 HI.out.1 HI.out.2.1 HI.out.2.2.1 HI.out.2.2.2 rfl (by decide) _ _ _ rfl (hrow1.alloc _) ⟨W1.heap.size, 0, none⟩ 1 1 [.int .i64 (x.n : Int), .slice (some ⟨A, 0, none⟩) ws.length ws.length] rfl rfl (cell_two_new' _ _ _ _) (by intro u hu; simp at hu; rcases hu with rfl | rfl <;> rfl) (by unfold maxLen; omega) (by omega) (by simp; omega) ?_; intro v' w1 hown' hgrow _; obtain ⟨g', cap', rfl⟩ := ownsRow_succ hown'; obtain ⟨hv2, hv3, hr3, hk3, hb3⟩ := hv1.appended (by decide) hrow1 hsz (Nat.le_refl _) hown' hgrow; have hc2 := hv2.cell; have hf2 := hv2.frozen))
      have hK9 : ∀ (u : Value) (n : Nat) (xs : List Value), W1.ownsRow w.heap.size 9 1 u n xs → (w1.setCell ⟨w.heap.size, 0, none⟩ (.slice (some ⟨g', 0, none⟩) (LV.length + 1) cap')).ownsRow w.heap.size 9 1 u n xs := fun u n xs hu => by
        have hu1 := (hu.alloc (.cells #[.int .i64 (x.n : Int), .slice (some ⟨A, 0, none⟩) ws.length ws.length] 75)).kept hgrow (row_apart hrow1 hu (by decide))
        exact hu1.kept (grownBy_setCell' w1 w.heap.size _) (.inr (hv2.not_row (by decide) hu1).symm)
      refine ⟨(keepsFrom_below _ hb).trans (hk3.from _), (hb.mono hB.size).trans hb3, ⟨_, LV ++ [((x.n : Int), .slice (some ⟨A, 0, none⟩) ws.length ws.length)], hv3, ?_, ?_⟩, hB.trans ((hb.mono hB.size).trans hb3)⟩
      · rw [flatL_snoc, List.length_append]
        exact hr3
      · rw [HE.out]
        exact (hw1.out.mono hK9).snoc _ _ _ (hK9 _ _ _ (row_base ho hB.size))
  case done =>
    rintro D ys W hD rfl ⟨⟨v, LV, hv, hrow, hw⟩, hB⟩ hK
    have hc := hv.cell
    have hL := Lib.hid (fun W' (h1 : W'.ownsRow w.heap.size 75 2 v LV.length (flatL LV)) (h2 : WordsOwn W' w.heap.size 9 LV (linesOf ys)) => lines_of_in h1 h2.isIn)
    gi_wp2
    refine ⟨by simp, .inl ⟨_, _, rfl, run_takeDeferred hK, ?_⟩⟩
    refine ⟨.tuple #[v, .int .i64 0], by simp [results, Tryz.results25, go_sem], v, rfl, hL.out _ (ownsRow_putObj hrow _ hK rfl) (hw.mono fun u n xs hu => ownsRow_putObj hu _ hK rfl), hB.trans (belowK_b (w := w) (Nat.le_refl _) W D _ _ (by simp at hD; omega) hK rfl rfl)⟩
  case stop =>
    rintro D c pre W _ _ h _
    exact h.elim
theorem lines_any (s : ByteArray) (w : World) (hs : s.size ≤ 30000) :
    Calls Tryz.prog 25 #[.string s] w (LinesPost w (asB (linV s.data.toList)) (linE s.data.toList)) := by
  have hl := size_list s
  by_cases h : 20000 < s.size
  · obtain ⟨e1, e2⟩ := linE_big s.data.toList (by omega)
    rw [e1, e2]
    exact lines_big s w h hs
  · cases ho : okL s.data.toList with
    | false =>
      obtain ⟨e1, e2⟩ := linE_bad s.data.toList (by omega) ho
      rw [e1, e2]
      exact lines_bad s w (by omega) ho
    | true =>
      obtain ⟨e1, e2⟩ := linE_ok s.data.toList (by omega) ho
      rw [e1, e2]
      exact lines_good s w (by omega) ho
end Go.Proofs.YticdmlijacnjbaaGreatDoor
