
/- The walks of codec's printable and wordsOf: they hand back what the plain facts say; what was there stays. -/
import Derived.Test.YtdnneognilffaaaGreatDoorCdNamed
import Derived.Test.YtdnneognilffaaaGreatDoorCdRows
import Derived.Test.YtdnneognilffaaaGreatDoorCentText
import Derived.Test.YtdnneognilffaaaGreatDoorSegs
import Derived.BigQuiet
namespace Go.Proofs.YtdnneognilffaaaGreatDoor.Cd
open Go.Proofs.YtdnneognilffaaaGreatDoor.Fa Go.RowKit

theorem upto_next {α : Type} {p : α → Bool} {c : List α} {i : Nat} {x : α} (h : ∀ (j : Nat) (y : α), j < i → c[j]? = some y → p y = true) (hx : c[i]? = some x) (hp : p x = true) : ∀ (j : Nat) (y : α), j < i + 1 → c[j]? = some y → p y = true := fun j y hj hy => by
  rcases Nat.lt_or_ge j i with hl | hl
  · exact h j y hl hy
  · obtain rfl : j = i := by omega
    rw [hx] at hy; cases hy; exact hp
theorem all_upto {α : Type} {p : α → Bool} {c : List α} {n : Nat} (hn : c.length = n) (h : ∀ (j : Nat) (x : α), j < n → c[j]? = some x → p x = true) : c.all p = true := by
  rw [List.all_eq_true]
  intro x hx
  obtain ⟨j, hj, rfl⟩ := List.getElem_of_mem hx
  exact h j _ (by omega) (List.getElem?_eq_getElem hj)
theorem all_not {α : Type} {p : α → Bool} {c : List α} {i : Nat} {x : α} (hx : c[i]? = some x) (h : p x = false) : c.all p = false := by
  rw [← Bool.not_eq_true, List.all_eq_true]
  intro ha
  rw [ha x (List.mem_of_getElem? hx)] at h
  cases h
set_option maxRecDepth 100000 in
set_option maxHeartbeats 8000000 in
theorem printable_any (v : Value) (c : List Fact) (w : World) (h : FactsV w v c) (hL : c.length ≤ 100000) :
    Calls Tryz.prog 13 #[v] w fun e w' => e = .returned (.bool (okC c)) ∧ Below w.heap.size w w' := by
  have HV := Lib.hid h
  have HRC := Lib.hid (right_any v c w h hL)
  obtain ⟨p, cp, rfl, hcap, hm, _, _⟩ := h
  obtain ⟨n, hn⟩ : ∃ n, c.length = n := ⟨_, rfl⟩
  rw [hn] at hcap hL HV HRC ⊢
  have HN := Lib.hid hn
  obtain ⟨S, hS⟩ : ∃ S, okC c = S := ⟨_, rfl⟩
  rw [hS]
  have HS := Lib.hid hS
  unfold maxLen at hm
  clear hn hS
  cases hr : rightL c with
  | false =>
    rw [hr] at HRC
    obtain rfl : S = false := by rw [← HS.out]; unfold okC; rw [hr]; rfl
    clear hr
    go_enter Tryz.func13, Tryz.ntmps13
    go_wp2_with fail
    refine HRC.out.mono ?_
    rintro e w1 ⟨rfl, hb1⟩
    go_wp2
    go_ret
    exact ⟨rfl, hb1⟩
  | true =>
    rw [hr] at HRC
    have HS2 : Hid ((c.all fun f => keyOk f.key) = S) := Lib.hid (by rw [← HS.out]; unfold okC; rw [hr]; rfl)
    clear hr HS
    go_enter Tryz.func13, Tryz.ntmps13
    go_wp2_with fail
    refine HRC.out.mono ?_
    rintro e w1 ⟨rfl, hb1⟩
    have HB1 := Lib.hid hb1
    have HV1 := Lib.hid (HV.out.keep hb1)
    clear hb1 HV
    go_wp2
    go_loopw [10] (fun s10 wr => ∃ i : Nat, s10 = .int .i64 (i : Int) ∧ i ≤ n ∧ Hid (∀ (j : Nat) (x : Fact), j < i → c[j]? = some x → keyOk x.key = true) ∧ Hid (Below w1.heap.size w1 wr)) (fun s10 _ => n - (intOf s10).toNat)
    case atStart => exact ⟨0, rfl, Nat.zero_le _, Lib.hid (fun j x hj => absurd hj (Nat.not_lt_zero _)), Lib.hid (Below.refl _ _)⟩
    case round =>
      obtain ⟨i, rfl, hin, HO, HB⟩ := hrel
      by_cases hlt : i < n
      · obtain ⟨x, hx⟩ : ∃ x, c[i]? = some x := ⟨_, List.getElem?_eq_getElem (by rw [HN.out]; exact hlt)⟩
        obtain ⟨b, o, rfl, hat⟩ := ElsV.at_ HV1.out hx
        obtain ⟨r0, r1, r2, r3, r4, r5⟩ := fact6 (hat.keep HB.out hat.lt)
        simp only [show encF.k = 6 from rfl] at r0 r1 r2 r3 r4 r5
        have HX := Lib.hid hx
        have HBX : Hid (BoxE encF (wr.alloc (.cells #[.string x.key.e, .string x.key.a, .string x.key.f, .string x.key.p, .int .i64 x.key.m, .int .i64 x.amt] 43)) wr.heap.size 43 x) := Lib.hid (BoxE.new encF wr x 43)
        have HBW : Hid (Below w1.heap.size w1 (wr.alloc (.cells #[.string x.key.e, .string x.key.a, .string x.key.f, .string x.key.p, .int .i64 x.key.m, .int .i64 x.amt] 43))) := Lib.hid (HB.out.alloc HB.out.size _)
        obtain ⟨q0, q1, q2, q3, q4, q5⟩ := fact6 HBX.out.at0
        simp only [Nat.zero_add] at q0 q1 q2 q3 q4 q5
        clear hx hat
        obtain ⟨b1, hb1⟩ : ∃ b1, named x.key = b1 := ⟨_, rfl⟩
        have HN1 : Hid (∀ W, Calls Tryz.prog 25 #[aggK x.key] W fun e w' => e = .returned (.bool b1) ∧ Below W.heap.size W w') := Lib.hid (fun W => by rw [← hb1]; exact named_any x.key W)
        have HK1 := Lib.hid hb1
        obtain ⟨b2, hb2⟩ : ∃ b2, marked x.key = b2 := ⟨_, rfl⟩
        have HN2 : Hid (∀ W, Calls Tryz.prog 26 #[aggK x.key] W fun e w' => e = .returned (.bool b2) ∧ Below W.heap.size W w') := Lib.hid (fun W => by rw [← hb2]; exact marked_any x.key W)
        have HK2 := Lib.hid hb2
        clear hb1 hb2
        cases b1 with
        | false =>
          obtain rfl : S = false := by rw [← HS2.out]; exact all_not HX.out (by unfold keyOk; rw [HK1.out]; rfl)
          go_wp2_with fail
          clear r0 r1 r2 r3 r4 r5 q0 q1 q2 q3 q4 q5
          refine (HN1.out _).mono ?_
          rintro e w3 ⟨rfl, hb3⟩
          have HB3 := Lib.hid (HB1.out.trans ((HBW.out.trans (hb3.mono HBW.out.size)).mono HB1.out.size))
          clear hb3
          go_wp2
          go_ret
          exact ⟨rfl, HB3.out⟩
        | true =>
          go_wp2_with fail
          refine (HN1.out _).mono ?_
          rintro e w3 ⟨rfl, hb3⟩
          have HB3 := Lib.hid (HBW.out.trans (hb3.mono HBW.out.size))
          clear r0 r1 r2 r3 r4 r5 q0 q1 q2 q3 q4 q5
          obtain ⟨q0, q1, q2, q3, q4, q5⟩ := fact6 (HBX.out.kept hb3).at0
          simp only [Nat.zero_add] at q0 q1 q2 q3 q4 q5
          clear hb3
          go_wp2_with fail
          clear q0 q1 q2 q3 q4 q5
          refine (HN2.out _).mono ?_
          rintro e w4 ⟨rfl, hb4⟩
          have HB4 := Lib.hid (HB3.out.trans (hb4.mono HB3.out.size))
          clear hb4
          cases b2 with
          | false =>
            obtain rfl : S = false := by rw [← HS2.out]; exact all_not HX.out (by unfold keyOk; rw [HK1.out, HK2.out]; rfl)
            go_wp2
            go_ret
            exact ⟨rfl, HB1.out.trans (HB4.out.mono HB1.out.size)⟩
          | true =>
            have HO2 := Lib.hid (upto_next (p := fun f : Fact => keyOk f.key) HO.out HX.out (by show keyOk x.key = true; unfold keyOk; rw [HK1.out, HK2.out]; rfl))
            go_wp2
            go_roundw
            case rel => exact ⟨i + 1, by go_num, by omega, HO2, HB4⟩
            case measure => simp [intOf]; omega
      · obtain rfl : i = n := by omega
        obtain rfl : S = true := by rw [← HS2.out]; exact all_upto HN.out HO.out
        go_wp2
        go_ret
        exact ⟨rfl, HB1.out.trans (HB.out.mono HB1.out.size)⟩
set_option maxRecDepth 100000 in
set_option maxHeartbeats 8000000 in
theorem wordsOf_any (f : Fact) (w : World) (h1 : In64 f.key.m) (h2 : In64 f.amt) (hl : Laid w) :
    Calls Tryz.prog 15 #[aggF f] w fun e w' => ∃ p c, e = .returned (.slice p 6 c) ∧ w'.ownsRow w.heap.size 9 1 (.slice p 6 c) 6 ((wordsF f).map Value.string) ∧ Below w.heap.size w w' := by
  obtain ⟨W2, hW2⟩ : ∃ W2, (w.alloc (.cells #[.string f.key.e, .string f.key.a, .string f.key.f, .string f.key.p, .int .i64 f.key.m, .int .i64 f.amt] 43)).alloc (.cells #[.string f.key.e, .string f.key.a, .string f.key.f, .string f.key.p, .int .i64 f.key.m] 41) = W2 := ⟨_, rfl⟩
  have HB2 : Hid (Below w.heap.size w W2) := Lib.hid (by rw [← hW2]; exact ((Below.refl _ w).alloc (Nat.le_refl _) _).alloc (by simp) _)
  have HF : Hid (BoxE encF W2 w.heap.size 43 f) := Lib.hid (by
    rw [← hW2]
    exact (BoxE.new encF w f 43).kept ((Below.refl _ _).alloc (Nat.le_refl _) _))
  have HK : Hid (BoxE encK W2 (w.heap.size + 1) 41 f.key) := Lib.hid (by
    rw [← hW2]
    have := BoxE.new encK (w.alloc (.cells #[.string f.key.e, .string f.key.a, .string f.key.f, .string f.key.p, .int .i64 f.key.m, .int .i64 f.amt] 43)) f.key 41
    rw [World.size_alloc] at this
    exact this)
  have HL2 := Lib.hid (hl.below HB2.out)
  obtain ⟨M, hM⟩ : ∃ M, numB f.key.m = M := ⟨_, rfl⟩
  obtain ⟨A, hA⟩ : ∃ A, numB f.amt = A := ⟨_, rfl⟩
  have HPM : Hid (∀ W, Laid W → Calls Tryz.prog 14 #[.int .i64 f.key.m] W fun e w' => e = .returned (.string M) ∧ Below W.heap.size W w') := Lib.hid (fun W h => by rw [← hM]; exact print_any f.key.m W h1 h)
  have HPA : Hid (∀ W, Laid W → Calls Tryz.prog 14 #[.int .i64 f.amt] W fun e w' => e = .returned (.string A) ∧ Below W.heap.size W w') := Lib.hid (fun W h => by rw [← hA]; exact print_any f.amt W h2 h)
  have HD : Hid (Below W2.heap.size W2 W2.drew) := Lib.hid ⟨rfl, rfl, rfl, Nat.le_refl _, fun _ _ => rfl⟩
  obtain ⟨P, hP⟩ : ∃ P, partB f.key.p = P := ⟨_, rfl⟩
  have hws : wordsF f = [f.key.e, f.key.a, f.key.f, P, M, A] := by simp [wordsF, hM, hA, hP]
  rw [hws]
  obtain ⟨d0, d1, d2, d3, d4, d5⟩ := fact6 HF.out.at0
  obtain ⟨j0, j1, j2, j3, j4⟩ := key5 HK.out.at0
  simp only [Nat.zero_add] at d0 d1 d2 d3 d4 d5 j0 j1 j2 j3 j4
  have u0 := fun p : Past W2 => cell_past d0 p
  have u1 := fun p : Past W2 => cell_past d1 p
  have u2 := fun p : Past W2 => cell_past d2 p
  have u3 := fun p : Past W2 => cell_past d3 p
  have u4 := fun p : Past W2 => cell_past d4 p
  have u5 := fun p : Past W2 => cell_past d5 p
  have k0 := fun p : Past W2 => cell_past j0 p
  have k1 := fun p : Past W2 => cell_past j1 p
  have k2 := fun p : Past W2 => cell_past j2 p
  have k3 := fun p : Past W2 => cell_past j3 p
  have k4 := fun p : Past W2 => cell_past j4 p
  clear hws hM hA hl h1 h2
  by_cases hp : f.key.p = ⟨#[]⟩
  · have hpe := empty_yes hp
    obtain rfl : P = ⟨#[45]⟩ := by rw [← hP]; unfold partB; rw [if_pos hp]
    clear hp hP
    go_enter Tryz.func15, Tryz.ntmps15
    go_wp2_with fail
    clear d0 d1 d2 d3 d4 d5 j0 j1 j2 j3 j4
    refine wp_region_plan (.one [0, 1, 2, 3, 4, 5, 6, 7, 8, 10, 11] 9 (.one [] 12 (.one [] 13 (.last [14])))) (by kernel_rfl) (by kernel_rfl) (fun d _ _ _ _ h => by cases d <;> exact h) ?_
    simp only [wpPlan, pick, nth]
    repeat (go_big_quiet_step (fail))
    refine wpQuiet_nil ?_
    intro K hK
    refine alone_want (by kernel_rfl) ?_
    go_big_op
    refine (HPM.out _ (HL2.out.below HD.out)).mono ?_
    rintro en w3 ⟨rfl, hb3⟩
    have HP3 := Lib.hid (HD.out.trans (hb3.mono HD.out.size))
    clear hb3
    refine hK _ _ (past_in HP3.out) ?_
    clear hK K
    refine wpQuiet_nil ?_
    intro K hK
    refine alone_want (by kernel_rfl) ?_
    go_big_op
    refine (HPA.out _ (HL2.out.below HP3.out)).mono ?_
    rintro en w4 ⟨rfl, hb4⟩
    have HP4 := Lib.hid (HP3.out.trans (hb4.mono HP3.out.size))
    clear hb4
    refine hK _ _ (past_in HP4.out) ?_
    clear hK K
    refine wpQuiet_nil ?_
    intro K hK
    refine alone_want (by kernel_rfl) ?_
    go_big_op
    have HP5 := Lib.hid (HP4.out.alloc HP4.out.size (.cells (([f.key.e, f.key.a, f.key.f, ⟨#[45]⟩, M, A].map Value.string).toArray) 9))
    have HO5 := Lib.hid (row_base (own_new w4 [f.key.e, f.key.a, f.key.f, ⟨#[45]⟩, M, A] 9 (by simp [maxLen])) (Nat.le_trans HB2.out.size HP4.out.size))
    refine hK _ _ (past_in HP5.out) ?_
    clear hK K
    repeat (go_big_quiet_step (fail))
    refine wpQuiet_nil ?_
    clear u0 u1 u2 u3 u4 u5 k0 k1 k2 k3 k4
    go_wp2
    go_ret
    exact ⟨_, _, rfl, HO5.out, HB2.out.trans (HP5.out.mono HB2.out.size)⟩
  · have hpe := empty_no hp
    obtain rfl : f.key.p = P := by rw [← hP]; unfold partB; rw [if_neg hp]
    clear hp hP
    go_enter Tryz.func15, Tryz.ntmps15
    go_wp2_with fail
    clear d0 d1 d2 d3 d4 d5 j0 j1 j2 j3 j4
    refine wp_region_plan (.one [0, 1, 2, 3, 4, 5, 6, 7, 8, 10, 11] 9 (.one [] 12 (.one [] 13 (.last [14])))) (by kernel_rfl) (by kernel_rfl) (fun d _ _ _ _ h => by cases d <;> exact h) ?_
    simp only [wpPlan, pick, nth]
    repeat (go_big_quiet_step (fail))
    refine wpQuiet_nil ?_
    intro K hK
    refine alone_want (by kernel_rfl) ?_
    go_big_op
    refine (HPM.out _ (HL2.out.below HD.out)).mono ?_
    rintro en w3 ⟨rfl, hb3⟩
    have HP3 := Lib.hid (HD.out.trans (hb3.mono HD.out.size))
    clear hb3
    refine hK _ _ (past_in HP3.out) ?_
    clear hK K
    refine wpQuiet_nil ?_
    intro K hK
    refine alone_want (by kernel_rfl) ?_
    go_big_op
    refine (HPA.out _ (HL2.out.below HP3.out)).mono ?_
    rintro en w4 ⟨rfl, hb4⟩
    have HP4 := Lib.hid (HP3.out.trans (hb4.mono HP3.out.size))
    clear hb4
    refine hK _ _ (past_in HP4.out) ?_
    clear hK K
    refine wpQuiet_nil ?_
    intro K hK
    refine alone_want (by kernel_rfl) ?_
    go_big_op
    have HP5 := Lib.hid (HP4.out.alloc HP4.out.size (.cells (([f.key.e, f.key.a, f.key.f, f.key.p, M, A].map Value.string).toArray) 9))
    have HO5 := Lib.hid (row_base (own_new w4 [f.key.e, f.key.a, f.key.f, f.key.p, M, A] 9 (by simp [maxLen])) (Nat.le_trans HB2.out.size HP4.out.size))
    refine hK _ _ (past_in HP5.out) ?_
    clear hK K
    repeat (go_big_quiet_step (fail))
    refine wpQuiet_nil ?_
    clear u0 u1 u2 u3 u4 u5 k0 k1 k2 k3 k4
    go_wp2
    go_ret
    exact ⟨_, _, rfl, HO5.out, HB2.out.trans (HP5.out.mono HB2.out.size)⟩
end Go.Proofs.YtdnneognilffaaaGreatDoor.Cd
