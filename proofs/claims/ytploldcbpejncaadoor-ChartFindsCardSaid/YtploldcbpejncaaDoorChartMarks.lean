
/- The walk of ChartMarks: it returns true. -/
import Derived.Test.YtploldcbpejncaaDoorChartAlive
import Derived.Test.YtploldcbpejncaaDoorChartFew
namespace Go.Proofs.YtploldcbpejncaaDoor
open Go.RowKit

abbrev cells23' (a : Acct) : Obj := .cells #[.string a.code, .int .i64 a.cls, .bool a.cash, .bool a.both, .string a.fixed, .bool a.worn] 23
/-- A slice of one account that was just laid. -/
theorem chart_one (w : World) (a : Acct) (t : TypeId) : ChartV (w.alloc (.cells #[.string a.code, .int .i64 a.cls, .bool a.cash, .bool a.both, .string a.fixed, .bool a.worn] t)) (.slice (some ⟨w.heap.size, 0, none⟩) 1 1) [a] :=
  ⟨_, 1, rfl, by simp, by unfold maxLen; omega, (fun e => by cases e), fun i x hx => by
    match i, hx with
    | 0, hx => cases hx; exact ⟨_, 0, rfl, acct_new w a t⟩
    | i + 1, hx => simp at hx⟩
theorem few_one (a : Acct) (w : World) (t : TypeId) : Calls Tryd.prog 9 #[.slice (some ⟨w.heap.size, 0, none⟩) 1 1] (w.alloc (.cells #[.string a.code, .int .i64 a.cls, .bool a.cash, .bool a.both, .string a.fixed, .bool a.worn] t)) fun e w' => e = .returned (.bool (fewA [a])) ∧ Below (w.heap.size + 1) (w.alloc (.cells #[.string a.code, .int .i64 a.cls, .bool a.cash, .bool a.both, .string a.fixed, .bool a.worn] t)) w' := by
  have := few_any _ _ _ (chart_one w a t)
  rwa [World.size_alloc] at this
set_option maxRecDepth 100000 in
set_option maxHeartbeats 4000000 in
theorem chartMarks_walk (a : Acct) (w : World) (hL : Laid w) : Calls Tryd.prog 6 #[aggF a] w fun e w' => e = .returned (.bool true) ∧ Below w.heap.size w w' := by
  have HB0 := Lib.hid ((Below.refl w.heap.size w).alloc (Nat.le_refl _) (cells23' a))
  have HX0 := Lib.hid (BoxA.new w a 23)
  have HL0 := Lib.hid (hL.below HB0.out (Nat.le_refl _))
  clear hL
  obtain ⟨F, hF⟩ : ∃ F, fewA [a] = F := ⟨_, rfl⟩
  have HFW := Lib.hid (few_one a)
  rw [hF] at HFW
  obtain ⟨r, hr⟩ : ∃ r, rightA a = r := ⟨_, rfl⟩
  have HRT := Lib.hid (right_any a)
  rw [hr] at HRT
  have HR := Lib.hid hr
  clear hF hr
  go_enter Tryd.func6, Tryd.ntmps6
  go_wp2_with fail
  refine (alive_any _ HL0.out).mono ?_
  rintro e w1 ⟨rfl, hb1⟩
  have HB1 := Lib.hid (HB0.out.trans (hb1.mono HB0.out.size))
  have HX1 := Lib.hid (HX0.out.keep hb1 (by simp))
  have HL1 := Lib.hid (HL0.out.below hb1 (Nat.le_refl _))
  have hs1 : w.heap.size < w1.heap.size := by have := hb1.size; simp at this; omega
  clear hb1 HB0 HX0 HL0
  obtain ⟨c0, c1, c2, c3, c4, c5⟩ := HX1.out.facts
  go_wp2_with fail
  clear c0 c1 c2 c3 c4 c5
  refine (HFW.out w1 _).mono ?_
  rintro e w2 ⟨rfl, hb2⟩
  have hb2' : Below w1.heap.size w1 w2 := ((Below.refl w1.heap.size w1).alloc (Nat.le_refl _) _).trans (hb2.mono (Nat.le_succ _))
  have HB2 := Lib.hid (HB1.out.trans (hb2'.mono HB1.out.size))
  have HX2 := Lib.hid (HX1.out.keep hb2' hs1)
  have HL2 := Lib.hid (HL1.out.below hb2' (Nat.le_refl _))
  have hs2 : w.heap.size < w2.heap.size := Nat.lt_of_lt_of_le hs1 hb2'.size
  clear hb2 hb2' HB1 HX1 HL1
  cases F with
  | false =>
    go_wp2
    go_ret
    exact ⟨rfl, HB2.out⟩
  | true =>
    obtain ⟨c0, c1, c2, c3, c4, c5⟩ := HX2.out.facts
    go_wp2_with fail
    clear c0 c1 c2 c3 c4 c5
    refine (HRT.out _).mono ?_
    rintro e w3 ⟨rfl, hb3⟩
    have HB3 := Lib.hid (HB2.out.trans (hb3.mono HB2.out.size))
    have HX3 := Lib.hid (HX2.out.keep hb3 hs2)
    have HL3 := Lib.hid (HL2.out.below hb3 (Nat.le_refl _))
    have hs3 : w.heap.size < w3.heap.size := Nat.lt_of_lt_of_le hs2 hb3.size
    clear hb3 HB2 HX2 HL2
    cases r with
    | false =>
      go_wp2
      go_ret
      exact ⟨rfl, HB3.out⟩
    | true =>
      obtain ⟨_, hcl, hmk⟩ := right_parts HR.out
      have HW : Hid (3 ≤ (wordsA a).length) := Lib.hid (words_ne HR.out)
      have HWD := Lib.hid (words_any a)
      obtain ⟨ws, hws⟩ : ∃ ws, wordsA a = ws := ⟨_, rfl⟩
      rw [hws] at HW HWD
      obtain ⟨N, hN⟩ : ∃ N, rightA ⟨a.code, 2, a.cash, a.both, a.fixed, a.worn⟩ = N := ⟨_, rfl⟩
      have HRB := Lib.hid (right_any ⟨a.code, 2, a.cash, a.both, a.fixed, a.worn⟩)
      rw [hN] at HRB
      have HNV := Lib.hid hN
      have HMK := Lib.hid hmk
      have HCL := Lib.hid hcl
      clear hws hN hmk hcl
      have HNM : Hid (nmB a.code = true) := Lib.hid (right_parts HR.out).1
      rcases marks_ways HMK.out with ⟨e1, e2, e3, e4⟩ | ⟨e1, e2, e3, e4, e5⟩ | ⟨e1, e2, e3, e4, e5⟩ | ⟨e1, e2, e7, e6, e4, e5⟩ | ⟨e1, e2, e7, e6, e4, e5⟩
      · obtain ⟨co, cl, ca, mu, fi, wo⟩ := a
        simp only at e1 e2 e4 HNM HNV HRB HRT HX3 HWD HCL e3
        subst e1 e2 e4
        subst e3
        obtain rfl : N = true := by
          rw [← HNV.out]
          simp [rightA, marksA, HNM.out, neB_empty]
        obtain ⟨c0, c1, c2, c3, c4, c5⟩ := HX3.out.facts
        simp only at c0 c1 c2 c3 c4 c5
        go_wp2
        refine wp_loop_rounds 4 ?_
        rw [rounds_succ]
        go_wp2
        rw [rounds_succ]
        go_wp2
        rw [rounds_succ]
        go_wp2
        rw [rounds_succ]
        go_wp2_with fail
        clear c0 c1 c2 c3 c4 c5
        refine (HRB.out _).mono ?_
        rintro e w4 ⟨rfl, hb4⟩
        rename World => wq
        have hb5 : Below w3.heap.size w3 wq := (((Below.refl w3.heap.size w3).alloc (Nat.le_refl _) _).alloc (by simp) _).trans (hb4.mono (by simp; omega))
        have HB4 := Lib.hid (HB3.out.trans (hb5.mono HB3.out.size))
        have HX4 := Lib.hid (HX3.out.keep hb5 hs3)
        have HL4 := Lib.hid (HL3.out.below hb5 (Nat.le_refl _))
        clear hb4 hb5
        obtain ⟨c0, c1, c2, c3, c4, c5⟩ := HX4.out.facts
        simp only at c0 c1 c2 c3 c4 c5
        go_wp2_with fail
        clear c0 c1 c2 c3 c4 c5
        refine (HWD.out _ HL4.out).mono ?_
        rintro e w5 ⟨v5, rfl, hs5, hb5⟩
        obtain ⟨p5, k5, rfl, _, _, _⟩ := hs5
        have HB5 := Lib.hid (HB4.out.trans (hb5.mono HB4.out.size))
        clear hb5
        have hw3 : (3 : Int) ≤ (ws.length : Int) := by have := HW.out; omega
        go_wp2
        go_ret
        exact ⟨rfl, HB5.out⟩
      · obtain ⟨co, cl, ca, mu, fi, wo⟩ := a
        simp only at e1 e2 e4 HNM HNV HRB HRT HX3 HWD HCL e3 e5
        subst e1 e2 e4
        subst e3
        subst e5
        obtain rfl : N = false := by
          rw [← HNV.out]
          simp [rightA, marksA, neB_empty]
        obtain ⟨c0, c1, c2, c3, c4, c5⟩ := HX3.out.facts
        simp only at c0 c1 c2 c3 c4 c5
        go_wp2
        refine wp_loop_rounds 4 ?_
        rw [rounds_succ]
        go_wp2
        rw [rounds_succ]
        go_wp2
        rw [rounds_succ]
        go_wp2
        rw [rounds_succ]
        go_wp2_with fail
        clear c0 c1 c2 c3 c4 c5
        refine (HRB.out _).mono ?_
        rintro e w4 ⟨rfl, hb4⟩
        rename World => wq
        have hb5 : Below w3.heap.size w3 wq := (((Below.refl w3.heap.size w3).alloc (Nat.le_refl _) _).alloc (by simp) _).trans (hb4.mono (by simp; omega))
        have HB4 := Lib.hid (HB3.out.trans (hb5.mono HB3.out.size))
        have HX4 := Lib.hid (HX3.out.keep hb5 hs3)
        have HL4 := Lib.hid (HL3.out.below hb5 (Nat.le_refl _))
        clear hb4 hb5
        obtain ⟨c0, c1, c2, c3, c4, c5⟩ := HX4.out.facts
        simp only at c0 c1 c2 c3 c4 c5
        go_wp2_with fail
        clear c0 c1 c2 c3 c4 c5
        refine (HWD.out _ HL4.out).mono ?_
        rintro e w5 ⟨v5, rfl, hs5, hb5⟩
        obtain ⟨p5, k5, rfl, _, _, _⟩ := hs5
        have HB5 := Lib.hid (HB4.out.trans (hb5.mono HB4.out.size))
        clear hb5
        have hw3 : (3 : Int) ≤ (ws.length : Int) := by have := HW.out; omega
        go_wp2
        go_ret
        exact ⟨rfl, HB5.out⟩
      · obtain ⟨co, cl, ca, mu, fi, wo⟩ := a
        simp only at e1 e2 e4 HNM HNV HRB HRT HX3 HWD HCL e3 e5
        subst e1 e2 e4
        subst e3
        obtain rfl : N = false := by
          rw [← HNV.out]
          simp [rightA, marksA, neB_empty]
        obtain ⟨c0, c1, c2, c3, c4, c5⟩ := HX3.out.facts
        simp only at c0 c1 c2 c3 c4 c5
        go_wp2
        refine wp_loop_rounds 4 ?_
        rw [rounds_succ]
        go_wp2
        rw [rounds_succ]
        go_wp2
        rw [rounds_succ]
        go_wp2
        rw [rounds_succ]
        go_wp2_with fail
        clear c0 c1 c2 c3 c4 c5
        refine (HRB.out _).mono ?_
        rintro e w4 ⟨rfl, hb4⟩
        rename World => wq
        have hb5 : Below w3.heap.size w3 wq := (((Below.refl w3.heap.size w3).alloc (Nat.le_refl _) _).alloc (by simp) _).trans (hb4.mono (by simp; omega))
        have HB4 := Lib.hid (HB3.out.trans (hb5.mono HB3.out.size))
        have HX4 := Lib.hid (HX3.out.keep hb5 hs3)
        have HL4 := Lib.hid (HL3.out.below hb5 (Nat.le_refl _))
        clear hb4 hb5
        obtain ⟨c0, c1, c2, c3, c4, c5⟩ := HX4.out.facts
        simp only at c0 c1 c2 c3 c4 c5
        go_wp2_with fail
        clear c0 c1 c2 c3 c4 c5
        refine (HWD.out _ HL4.out).mono ?_
        rintro e w5 ⟨v5, rfl, hs5, hb5⟩
        obtain ⟨p5, k5, rfl, _, _, _⟩ := hs5
        have HB5 := Lib.hid (HB4.out.trans (hb5.mono HB4.out.size))
        clear hb5
        have hw3 : (3 : Int) ≤ (ws.length : Int) := by have := HW.out; omega
        go_wp2
        go_ret
        exact ⟨rfl, HB5.out⟩
      · obtain ⟨co, cl, ca, mu, fi, wo⟩ := a
        simp only at e1 e2 e4 HNM HNV HRB HRT HX3 HWD HCL e6 e7 e5
        subst e1 e2 e4
        subst e5
        obtain rfl : N = false := by
          rw [← HNV.out]
          simp [rightA, marksA, e6, e7]
        have e3 : (!fi.toList.isEmpty) = true := e6
        have e3' : fi.toList.isEmpty = false := by simpa using e3
        clear e6 e7
        obtain ⟨c0, c1, c2, c3, c4, c5⟩ := HX3.out.facts
        simp only at c0 c1 c2 c3 c4 c5
        go_wp2
        refine wp_loop_rounds 4 ?_
        rw [rounds_succ]
        go_wp2
        rw [rounds_succ]
        go_wp2
        rw [rounds_succ]
        go_wp2
        rw [rounds_succ]
        go_wp2_with fail
        clear c0 c1 c2 c3 c4 c5
        refine (HRB.out _).mono ?_
        rintro e w4 ⟨rfl, hb4⟩
        rename World => wq
        have hb5 : Below w3.heap.size w3 wq := (((Below.refl w3.heap.size w3).alloc (Nat.le_refl _) _).alloc (by simp) _).trans (hb4.mono (by simp; omega))
        have HB4 := Lib.hid (HB3.out.trans (hb5.mono HB3.out.size))
        have HX4 := Lib.hid (HX3.out.keep hb5 hs3)
        have HL4 := Lib.hid (HL3.out.below hb5 (Nat.le_refl _))
        clear hb4 hb5
        obtain ⟨c0, c1, c2, c3, c4, c5⟩ := HX4.out.facts
        simp only at c0 c1 c2 c3 c4 c5
        go_wp2_with fail
        clear c0 c1 c2 c3 c4 c5
        refine (HWD.out _ HL4.out).mono ?_
        rintro e w5 ⟨v5, rfl, hs5, hb5⟩
        obtain ⟨p5, k5, rfl, _, _, _⟩ := hs5
        have HB5 := Lib.hid (HB4.out.trans (hb5.mono HB4.out.size))
        clear hb5
        have hw3 : (3 : Int) ≤ (ws.length : Int) := by have := HW.out; omega
        go_wp2
        go_ret
        exact ⟨rfl, HB5.out⟩
      · obtain ⟨co, cl, ca, mu, fi, wo⟩ := a
        simp only at e1 e2 e4 HNM HNV HRB HRT HX3 HWD HCL e6 e7 e5
        subst e1 e2 e4
        subst e5
        obtain rfl : N = false := by
          rw [← HNV.out]
          simp [rightA, marksA, e6, e7]
        have e3 : (!fi.toList.isEmpty) = true := e6
        have e3' : fi.toList.isEmpty = false := by simpa using e3
        clear e6 e7
        obtain ⟨c0, c1, c2, c3, c4, c5⟩ := HX3.out.facts
        simp only at c0 c1 c2 c3 c4 c5
        go_wp2
        refine wp_loop_rounds 4 ?_
        rw [rounds_succ]
        go_wp2
        rw [rounds_succ]
        go_wp2
        rw [rounds_succ]
        go_wp2
        rw [rounds_succ]
        go_wp2_with fail
        clear c0 c1 c2 c3 c4 c5
        refine (HRB.out _).mono ?_
        rintro e w4 ⟨rfl, hb4⟩
        rename World => wq
        have hb5 : Below w3.heap.size w3 wq := (((Below.refl w3.heap.size w3).alloc (Nat.le_refl _) _).alloc (by simp) _).trans (hb4.mono (by simp; omega))
        have HB4 := Lib.hid (HB3.out.trans (hb5.mono HB3.out.size))
        have HX4 := Lib.hid (HX3.out.keep hb5 hs3)
        have HL4 := Lib.hid (HL3.out.below hb5 (Nat.le_refl _))
        clear hb4 hb5
        obtain ⟨c0, c1, c2, c3, c4, c5⟩ := HX4.out.facts
        simp only at c0 c1 c2 c3 c4 c5
        go_wp2_with fail
        clear c0 c1 c2 c3 c4 c5
        refine (HWD.out _ HL4.out).mono ?_
        rintro e w5 ⟨v5, rfl, hs5, hb5⟩
        obtain ⟨p5, k5, rfl, _, _, _⟩ := hs5
        have HB5 := Lib.hid (HB4.out.trans (hb5.mono HB4.out.size))
        clear hb5
        have hw3 : (3 : Int) ≤ (ws.length : Int) := by have := HW.out; omega
        go_wp2
        go_ret
        exact ⟨rfl, HB5.out⟩
end Go.Proofs.YtploldcbpejncaaDoor
