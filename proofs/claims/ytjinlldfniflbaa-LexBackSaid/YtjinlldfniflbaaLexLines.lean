
/- The walk of lex.Lines: at every text of at most 30000 bytes it hands back the plain lines, and the plain number; memory that was there stays. -/
import Derived.Test.YtjinlldfniflbaaLexIter
import Derived.Test.YtjinlldfniflbaaLexMem
import Derived.Shelf.Strings.FieldsFuncAny
namespace Go.Proofs.Ytjinlldfniflbaa
open Go.RowKit Go.Shelf
attribute [local go_sem] Oper.semAt_some

/-- What Lines hands back. -/
def LinesPost (w : World) (L : List (Int × List ByteArray)) (c : Int) (e : Ending) (w' : World) : Prop :=
  ∃ v, e = .returned (.tuple #[v, .int .i64 c]) ∧ LinesV w' v L ∧ Below w.heap.size w w'
theorem info_line : (Try.prog.info? 46).map (fun i => (i.zero, i.size, i.bytes)) = some (some (.agg #[.int .i64 0, .slice none 0 0]), 2, 32) := by kernel_rfl
theorem linE_big (l : List UInt8) (h : 20000 < l.length) : linE l = 4 ∧ linV l = [] := by simp [linE, linV, h]
theorem linE_bad (l : List UInt8) (h : l.length ≤ 20000) (ho : okL l = false) : linE l = 5 ∧ linV l = [] := by simp [linE, linV, Nat.not_lt.2 h, ho]
theorem linE_ok (l : List UInt8) (h : l.length ≤ 20000) (ho : okL l = true) : linE l = 0 ∧ linV l = linesL l := by simp [linE, linV, Nat.not_lt.2 h, ho]
/-- The lines of what has come. -/
def linesOf (pre : List LineX) : List (Int × List ByteArray) := asB (numP (pre.map LineX.pair))
theorem linesOf_hit (pre : List LineX) (x : LineX) (h : wordsL x.l ≠ []) : linesOf (pre ++ [x]) = linesOf pre ++ [((x.n : Int), (wordsL x.l).map mkB)] := by
  unfold linesOf
  rw [List.map_append, List.map_cons, List.map_nil, numP_hit _ _ (by exact h), asB_append]
  rfl
theorem linesOf_miss (pre : List LineX) (x : LineX) (h : wordsL x.l = []) : linesOf (pre ++ [x]) = linesOf pre := by
  unfold linesOf
  rw [List.map_append, List.map_cons, List.map_nil, numP_miss _ _ (by exact h)]
theorem linesOf_length (pre : List LineX) : (linesOf pre).length ≤ pre.length := by
  unfold linesOf
  rw [asB_length]
  have := numP_length (pre.map LineX.pair)
  simpa using this

/-- Between two rounds: the variable's box holds a row of the call's own, the lines of what has come. -/
def LinesI (w : World) (pre : List LineX) (W : World) : Prop :=
  ∃ v LV, Boxed W w.heap.size 26 v ∧ W.ownsRow w.heap.size 46 2 v LV.length (flatL LV) ∧ WordsOwn W w.heap.size 9 LV (linesOf pre)
theorem linesI_own (w : World) : Own (LinesI w) := by
  rintro s X Y row ⟨v, LV, hv, hr, hw⟩ hg hrow
  refine ⟨v, LV, hv.kept hg (fun e' => ?_), row_uncells hr hg hrow, hw.mono fun u n xs hu => row_uncells hu hg hrow⟩
  obtain ⟨o, ho, hc⟩ := hrow _ e'.symm
  rw [show X.heap[w.heap.size]? = _ from hv] at ho; cases ho; cases hc

theorem lines_big (s : ByteArray) (w : World) (h : 20000 < s.size) (hs : s.size ≤ 30000) :
    Calls Try.prog 11 #[.string s] w (LinesPost w [] 4) := by
  go_enter Try.func11, Try.ntmps11
  go_wp2
  go_ret2
  exact ⟨_, rfl, LinesV.nil _, Below.refl _ _⟩
theorem lines_bad (s : ByteArray) (w : World) (hs : s.size ≤ 20000) (ho : okL s.data.toList = false) :
    Calls Try.prog 11 #[.string s] w (LinesPost w [] 5) := by
  have HO := Lib.hid ho
  have HS : Hid (s.size ≤ maxLen) := Lib.hid (by unfold maxLen; omega)
  clear ho
  have h1 : ¬ 20000 < s.size := by omega
  go_enter Try.func11, Try.ntmps11
  go_wp2_with fail
  refine (readable_any s _ HS.out).mono ?_
  rintro e w' ⟨rfl, rfl⟩
  rw [HO.out]
  go_wp2
  go_ret2
  exact ⟨_, rfl, LinesV.nil _, Below.refl _ _⟩

set_option maxRecDepth 100000 in
set_option maxHeartbeats 2000000 in
theorem lines_good (s : ByteArray) (w : World) (hs : s.size ≤ 20000) (ho : okL s.data.toList = true) :
    Calls Try.prog 11 #[.string s] w (LinesPost w (asB (linesL s.data.toList)) 0) := by
  have hall := linesGo_all okB [] s.data.toList rfl ho
  have hlen := linesGo_length [] s.data.toList
  have hsl := size_list s
  obtain ⟨xs, hxs⟩ := linesX (linesGo [] s.data.toList) 1 (by omega) fun x hx => ⟨(hall x hx).1, by have := (hall x hx).2; simp at this; omega⟩
  have hres : linesOf xs = asB (linesL s.data.toList) := by unfold linesOf linesL; rw [hxs]
  have hxl : xs.length ≤ 20001 := by
    have h1 := congrArg List.length hxs
    rw [List.length_map, enumL_length] at h1
    omega
  rw [← hres]
  have HX := Lib.hid hxs
  have HO := Lib.hid ho
  have HS : Hid (s.size ≤ maxLen) := Lib.hid (by unfold maxLen; omega)
  have HXL := Lib.hid hxl
  clear hall hlen hsl hxs hres ho hxl
  have h1 : ¬ 20000 < s.size := by omega
  obtain ⟨i0, hi, hz0, hz1, hz2⟩ := info_parts info_line
  have HI := Lib.hid (And.intro hi (And.intro hz0 (And.intro hz1 hz2)))
  clear hi hz0 hz1 hz2
  refine (callsIn_wide (n := 3)).1 ?_
  refine callsIn_of_wp_marks Try.func11 rfl trivial ?_ rfl
  simp only [Try.ntmps11, List.size_toArray, List.length_cons, List.length_nil, Nat.reduceAdd, Nat.reduceSub, Array.replicate_succ, Array.replicate_zero, List.push_toArray, List.append_toArray, List.nil_append, List.cons_append]
  gi_wp2_with (first
    | (refine ⟨trivial, ?_⟩; gi_at_call 23; refine (callsIn_wide.2 (readable_any s _ HS.out)).mono ?_; rintro e w' ⟨rfl, rfl⟩; rw [HO.out])
    | (refine ⟨trivial, ?_⟩; gi_at_call 24; refine (numbered_in _ s _).mono ?_; rintro e w' ⟨rfl, rfl⟩))
  have bO := Boxed.new w 26 (.slice none 0 0)
  have bN := Boxed.new (w.alloc (.cells #[.slice none 0 0] 26)) 9 (.string s)
  rw [World.size_alloc] at bN
  have hB0 : Below w.heap.size w ((w.alloc (.cells #[.slice none 0 0] 26)).alloc (.cells #[.string s] 9)) := ((Below.refl _ w).alloc (Nat.le_refl _) _).alloc (by simp) _
  refine wpIn_rangeFunc_ownG rfl (by decide) (gf := 34) (lb := #[.pointer (some ⟨w.heap.size + 1, 0, none⟩)]) rfl trivial (enters_of Try.func34 (by kernel_rfl) rfl)
    (iter_stops 2 (by decide) (w.heap.size + 1) w.heap.size s hs xs HX.out _ (by simp) bN.cell) belowK_t (belowK_b (by simp; omega)) (Below.refl _ _) (fun _ => rfl)
    (fun pre W => LinesI w pre W ∧ Below w.heap.size w W)
    (fun _ _ _ => False)
    (OwnFrom.and (Own.from (linesI_own w) _) (ownFrom_below (Nat.le_refl _) (by simp; omega)))
    (fun _ _ _ _ _ hs _ _ => hs)
    ⟨⟨_, [], bO.alloc _, World.ownsRow_nil _ _ _ _, WordsOwn.nil _ _ _⟩, hB0⟩
    (fun x => { tmps := #[.string s, undef, .slice none 0 0, .int .i64 0, .pointer (some ⟨w.heap.size, 0, none⟩), .int .i64 (x.n : Int), .string (mkB x.l), undef, .string s, .int .i64 (s.size : Int), .bool (decide ((20000 : Int) < (s.size : Int))), .string s, .bool true, .bool false, .string s, .func (.func 34) #[] #[.pointer (some ⟨w.heap.size + 1, 0, none⟩)], .int .i64 (x.n : Int), .string (mkB x.l), undef, undef, undef, undef, undef, undef, undef, undef, undef, undef, undef, undef], defers := [] }) ?assign ?body ?done ?stop
  case assign =>
    intro l x W K hK
    simp only [encX]
    gi_wp2
    exact hK
  case body =>
    rintro l pre x W ⟨⟨v, LV, hv, hrow, hw⟩, hB⟩ hlt
    have hWd : ∀ W, Calls Try.prog 25 #[.string (mkB x.l)] W (WordsPost W ((wordsL x.l).map mkB)) := fun W => by
      have := wordsOf_any (mkB x.l) W (by rw [mkB_size]; have := x.2.2.1; show x.1.2.length ≤ _; omega) (fun c hc => by
        rw [mkB_data] at hc
        have := List.all_eq_true.1 x.2.2.2 c hc
        rw [okB_dec] at this
        have := of_decide_eq_true this
        omega)
      rwa [mkB_data] at this
    have hpl : LV.length ≤ pre.length := by rw [hw.1]; exact linesOf_length pre
    have hll : LV.length ≤ 20001 := by have := HXL.out; omega
    have HH := linesOf_hit pre x
    have HM := linesOf_miss pre x
    by_cases hws : wordsL x.l = []
    · have HE := Lib.hid (HM hws)
      rw [hws] at hWd
      have HW := Lib.hid hWd
      clear hWd HH HM hws hpl hll
      gi_wp2_with (refine ⟨trivial, ?_⟩; gi_at_call 25; refine (CallsIn.inRound l (callsIn_wide.2 (HW.out _))).mono ?_; rintro e W1 ⟨A, rfl, hA, ho, hb⟩; simp only [List.map_nil, List.length_nil])
      exact ⟨keepsFrom_below _ hb, hb.mono hB.size, ⟨v, LV, boxed_below hv hb, row_below hrow hb, by rw [HE.out]; exact hw.mono fun u n xs hu => row_below hu hb⟩, hB.trans (hb.mono hB.size)⟩
    · have HE := Lib.hid (HH hws)
      have hpos : 0 < ((wordsL x.l).map mkB).length := by rw [List.length_map]; exact List.length_pos_iff.2 hws
      obtain ⟨ws, hwsd⟩ : ∃ ws, (wordsL x.l).map mkB = ws := ⟨_, rfl⟩
      rw [hwsd] at hWd hpos HE
      have HW := Lib.hid hWd
      clear hWd HH HM hws hpl hwsd
      gi_wp2_with (first
        | (refine ⟨trivial, ?_⟩; gi_at_call 25; refine (CallsIn.inRound l (callsIn_wide.2 (HW.out _))).mono ?_; rintro e W1 ⟨A, rfl, hA, ho, hb⟩; have hv1 := boxed_below hv hb; have hc1 := hv1.cell; have hrow1 := row_below hrow hb; have hw1 : Hid _ := Lib.hid (hw.mono fun u n xs hu => row_below hu hb); have hsz : w.heap.size ≤ W1.heap.size := Nat.le_trans hB.size hb.size)
        | (gi_at_builtin; refine wpListIn_append_own _ rfl _ _ 26 rfl w.heap.size 46 i0 (.agg #[.int .i64 0, .slice none 0 0]) 2 32 Try.underlying26 HI.out.1 HI.out.2.1 HI.out.2.2.1 HI.out.2.2.2 rfl (by decide) _ _ _ rfl (hrow1.alloc _) ⟨W1.heap.size, 0, none⟩ 1 1 [.int .i64 (x.n : Int), .slice (some ⟨A, 0, none⟩) ws.length ws.length] rfl rfl (cell_two_new' _ _ _ _) (by intro u hu; simp at hu; rcases hu with rfl | rfl <;> rfl) (by unfold maxLen; omega) (by omega) (by simp; omega) ?_; intro v' w1 hown' hgrow _; obtain ⟨g', cap', rfl⟩ := ownsRow_succ hown'; obtain ⟨hv2, hv3, hr3, hk3, hb3⟩ := hv1.appended (by decide) hrow1 hsz (Nat.le_refl _) hown' hgrow; have hc2 := hv2.cell; have hf2 := hv2.frozen))
      have hK9 : ∀ (u : Value) (n : Nat) (xs : List Value), W1.ownsRow w.heap.size 9 1 u n xs → (w1.setCell ⟨w.heap.size, 0, none⟩ (.slice (some ⟨g', 0, none⟩) (LV.length + 1) cap')).ownsRow w.heap.size 9 1 u n xs := fun u n xs hu => by
        have hu1 := (hu.alloc (.cells #[.int .i64 (x.n : Int), .slice (some ⟨A, 0, none⟩) ws.length ws.length] 46)).kept hgrow (row_apart hrow1 hu (by decide))
        exact hu1.kept (grownBy_setCell' w1 w.heap.size _) (.inr (hv2.not_row (by decide) hu1).symm)
      refine ⟨(keepsFrom_below _ hb).trans (hk3.from _), (hb.mono hB.size).trans hb3, ⟨_, LV ++ [((x.n : Int), .slice (some ⟨A, 0, none⟩) ws.length ws.length)], hv3, ?_, ?_⟩, hB.trans ((hb.mono hB.size).trans hb3)⟩
      · rw [flatL_snoc, List.length_append]
        exact hr3
      · rw [HE.out]
        exact (hw1.out.mono hK9).snoc _ _ _ (hK9 _ _ _ (row_base ho hB.size))
  case done =>
    rintro D ys W hD rfl ⟨⟨v, LV, hv, hrow, hw⟩, hB⟩ hK
    have hc := hv.cell
    have hL := Lib.hid (fun W' (h1 : W'.ownsRow w.heap.size 46 2 v LV.length (flatL LV)) (h2 : WordsOwn W' w.heap.size 9 LV (linesOf ys)) => lines_of_in h1 h2.isIn)
    gi_wp2
    refine ⟨by simp, .inl ⟨_, _, rfl, run_takeDeferred hK, ?_⟩⟩
    refine ⟨.tuple #[v, .int .i64 0], by simp [results, Try.results11, go_sem], v, rfl, hL.out _ (ownsRow_putObj hrow _ hK rfl) (hw.mono fun u n xs hu => ownsRow_putObj hu _ hK rfl), hB.trans (belowK_b (w := w) (Nat.le_refl _) W D _ _ (by simp at hD; omega) hK rfl rfl)⟩
  case stop =>
    rintro D c pre W _ _ h _
    exact h.elim
theorem lines_any (s : ByteArray) (w : World) (hs : s.size ≤ 30000) :
    Calls Try.prog 11 #[.string s] w (LinesPost w (asB (linV s.data.toList)) (linE s.data.toList)) := by
  have hl := size_list s
  by_cases h : 20000 < s.size
  · obtain ⟨e1, e2⟩ := linE_big s.data.toList (by omega)
    rw [e1, e2]
    exact lines_big s w h hs
  · cases ho : okL s.data.toList with
    | false =>
      obtain ⟨e1, e2⟩ := linE_bad s.data.toList (by omega) ho
      rw [e1, e2]
      exact lines_bad s w (by omega) ho
    | true =>
      obtain ⟨e1, e2⟩ := linE_ok s.data.toList (by omega) ho
      rw [e1, e2]
      exact lines_good s w (by omega) ho
end Go.Proofs.Ytjinlldfniflbaa
