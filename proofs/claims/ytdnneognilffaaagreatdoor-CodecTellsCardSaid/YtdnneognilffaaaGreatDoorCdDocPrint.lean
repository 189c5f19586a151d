
/- The walk of the document's Print: the text of a cube that may be printed; what was there stays. -/
import Derived.Test.YtdnneognilffaaaGreatDoorCdDocNamed
namespace Go.Proofs.YtdnneognilffaaaGreatDoor.Cd
open Go.Proofs.YtdnneognilffaaaGreatDoor.Fa Go.RowKit

theorem add_list' (x y : ByteArray) : (x ++ y).data.toList = x.data.toList ++ y.data.toList := by simp [ByteArray.data_append]
/-- All that was written for a fact. -/
def rowB (t : ByteArray) (x : Fact) (P M A : ByteArray) : ByteArray := t ++ x.key.e ++ ⟨#[32]⟩ ++ x.key.a ++ ⟨#[32]⟩ ++ x.key.f ++ ⟨#[32]⟩ ++ P ++ ⟨#[32]⟩ ++ M ++ ⟨#[32]⟩ ++ A ++ ⟨#[10]⟩
theorem rowB_list (t : ByteArray) (x : Fact) : (rowB t x (partB x.key.p) (numB x.key.m) (numB x.amt)).data.toList = t.data.toList ++ rowsL [x] := by
  unfold rowB
  rw [rowsL_cons, factL_eq]
  simp only [add_list', numB_list]
  simp [rowsL]
set_option maxRecDepth 100000 in
set_option maxHeartbeats 32000000 in
theorem rprint10_any (v : Value) (c : List Fact) (w : World) (h : FactsV w v c) (hL : c.length ≤ 100000) (hz : In64s c) :
    Calls Tryz.prog 8 #[v] w fun e w' => e = .returned (.tuple #[.string (prS c), .int .i64 (prE c)]) ∧ Below w.heap.size w w' := by
  have HV := Lib.hid h
  have HRC := Lib.hid (rright_any v c w h hL)
  have HZ := Lib.hid hz
  obtain ⟨p, cp, rfl, hcap, hm, _, _⟩ := h
  obtain ⟨n, hn⟩ : ∃ n, c.length = n := ⟨_, rfl⟩
  rw [hn] at hcap hL HV HRC ⊢
  have HN := Lib.hid hn
  unfold maxLen at hm
  obtain ⟨RS, hRS⟩ : ∃ RS, prS c = RS := ⟨_, rfl⟩
  obtain ⟨RE, hRE⟩ : ∃ RE, prE c = RE := ⟨_, rfl⟩
  rw [hRS, hRE]
  have HRS := Lib.hid (And.intro hRS hRE)
  clear hRS hRE
  have HNO : Hid (okC c = false → RS = ⟨#[]⟩ ∧ RE = 1) := Lib.hid (fun h => ⟨by rw [← HRS.out.1, prS_no h], by rw [← HRS.out.2, prE_no h]⟩)
  cases hr : rightL c with
  | false =>
    rw [hr] at HRC
    obtain ⟨rfl, rfl⟩ := HNO.out (by unfold okC; rw [hr]; rfl)
    clear hr hn hz
    go_enter Tryz.func8, Tryz.ntmps8
    go_wp2_with fail
    refine HRC.out.mono ?_
    rintro e w1 ⟨rfl, hb1⟩
    go_wp2
    go_ret2
    exact ⟨rfl, hb1⟩
  | true =>
    rw [hr] at HRC
    have hn2 : n ≤ 2000 := by have := (of_decide_eq_true hr : RightP c).1; omega
    have HR := Lib.hid hr
    obtain ⟨M, hM⟩ : ∃ M, numB (n : Int) = M := ⟨_, rfl⟩
    have HPM : Hid (∀ W, Calls Tryz.prog 18 #[.int .i64 (n : Int)] W fun e w' => e = .returned (.string M) ∧ W = w') := Lib.hid (fun W => by rw [← hM]; exact rprint_any (n : Int) W ⟨by omega, by omega⟩)
    have hms : M.size ≤ 21 := by rw [← hM]; show (⟨(Lib.itoa (n : Int)).toArray⟩ : ByteArray).size ≤ 21; rw [← size_list]; simpa using itoa_len (n := (n : Int)) ((fit_iff _).2 (by omega))
    obtain ⟨T0, hT0⟩ : ∃ T0, (⟨#[99, 117, 98, 101, 32]⟩ : ByteArray) ++ M ++ ⟨#[10]⟩ = T0 := ⟨_, rfl⟩
    have HT0 : Hid (T0.data.toList = firstL n ++ 10 :: rowsL (c.take 0)) := Lib.hid (by
      rw [← hT0, add_list', add_list', ← hM, numB_list]
      simp [firstL, rowsL])
    have z1 : ¬ 9223372036854775807 < 5 + M.size := by omega
    have z2 : ¬ 9223372036854775807 < 5 + M.size + 1 := by omega
    clear hr hn hz hM
    go_enter Tryz.func8, Tryz.ntmps8
    go_wp2_with fail
    refine HRC.out.mono ?_
    rintro e w1 ⟨rfl, hb1⟩
    have HB1 := Lib.hid hb1
    have HV1 := Lib.hid (HV.out.keep hb1)
    clear hb1 HV HRC
    go_wp2_with fail
    refine (HPM.out _).mono ?_
    rintro e w2 ⟨rfl, rfl⟩
    go_wp2
    clear hT0 z1 z2 hms
    go_loopw [4, 5] (fun s4 s5 wr => ∃ (i : Nat) (t : ByteArray), s5 = .int .i64 (i : Int) ∧ s4 = .string t ∧ i ≤ n ∧ Hid (t.data.toList = firstL n ++ 10 :: rowsL (c.take i)) ∧ Hid (∀ (j : Nat) (x : Fact), j < i → c[j]? = some x → keyOk x.key = true) ∧ Hid (Below w1.heap.size w1 wr)) (fun _ s5 _ => n - (intOf s5).toNat)
    case atStart => exact ⟨0, T0, rfl, rfl, Nat.zero_le _, HT0, Lib.hid (fun j x hj => absurd hj (Nat.not_lt_zero _)), Lib.hid (Below.refl _ _)⟩
    case round =>
      obtain ⟨i, t, rfl, rfl, hin, HT, HK, HB⟩ := hrel
      by_cases hlt : i < n
      · obtain ⟨x, hx⟩ : ∃ x, c[i]? = some x := ⟨_, List.getElem?_eq_getElem (by rw [HN.out]; exact hlt)⟩
        obtain ⟨b, o, rfl, hat⟩ := ElsV.at_ HV1.out hx
        have HAT := Lib.hid hat
        obtain ⟨r0, r1, r2, r3, r4, r5⟩ := fact6 (hat.keep HB.out hat.lt)
        simp only [show encF.k = 6 from rfl] at r0 r1 r2 r3 r4 r5
        have HX := Lib.hid hx
        have HBX : Hid (BoxE encK (wr.alloc (.cells #[.string x.key.e, .string x.key.a, .string x.key.f, .string x.key.p, .int .i64 x.key.m] 44)) wr.heap.size 44 x.key) := Lib.hid (BoxE.new encK wr x.key 44)
        have HBW : Hid (Below w1.heap.size w1 (wr.alloc (.cells #[.string x.key.e, .string x.key.a, .string x.key.f, .string x.key.p, .int .i64 x.key.m] 44))) := Lib.hid (HB.out.alloc HB.out.size _)
        obtain ⟨q0, q1, q2, q3, q4⟩ := key5 HBX.out.at0
        simp only [Nat.zero_add] at q0 q1 q2 q3 q4
        obtain ⟨kb, hkb⟩ : ∃ kb, keyOk x.key = kb := ⟨_, rfl⟩
        have HNK : Hid (∀ W, Calls Tryz.prog 19 #[aggK x.key] W fun e w' => e = .returned (.bool kb) ∧ Below W.heap.size W w') := Lib.hid (fun W => by rw [← hkb]; exact rkey_any x.key W)
        have HKB := Lib.hid hkb
        clear hx hat hkb
        go_wp2_with fail
        clear r0 r1 r2 r3 r4 r5 q0 q1 q2 q3 q4
        refine (HNK.out _).mono ?_
        rintro e w3 ⟨rfl, hb3⟩
        have HB3 := Lib.hid (HBW.out.trans (hb3.mono HBW.out.size))
        have HX3 := Lib.hid (HBX.out.kept hb3)
        clear hb3
        cases kb with
        | false =>
          obtain ⟨rfl, rfl⟩ := HNO.out (by unfold okC; rw [all_not (p := fun f : Fact => keyOk f.key) HX.out HKB.out, Bool.and_false])
          go_wp2
          go_ret2
          exact ⟨rfl, HB1.out.trans (HB3.out.mono HB1.out.size)⟩
        | true =>
          have HK2 := Lib.hid (upto_next (p := fun f : Fact => keyOk f.key) HK.out HX.out HKB.out)
          have hxm := HZ.out x (List.mem_of_getElem? HX.out)
          obtain ⟨PM, hPM⟩ : ∃ PM, numB x.key.m = PM := ⟨_, rfl⟩
          obtain ⟨PA, hPA⟩ : ∃ PA, numB x.amt = PA := ⟨_, rfl⟩
          obtain ⟨P, hP⟩ : ∃ P, partB x.key.p = P := ⟨_, rfl⟩
          have HPM2 : Hid (∀ W, Calls Tryz.prog 18 #[.int .i64 x.key.m] W fun e w' => e = .returned (.string PM) ∧ W = w') := Lib.hid (fun W => by rw [← hPM]; exact rprint_any x.key.m W hxm.1)
          have HPA2 : Hid (∀ W, Calls Tryz.prog 18 #[.int .i64 x.amt] W fun e w' => e = .returned (.string PA) ∧ W = w') := Lib.hid (fun W => by rw [← hPA]; exact rprint_any x.amt W hxm.2)
          have hfl := factL_le HKB.out (fit_of_in64 hxm.2)
          have hts : t.size ≤ 300000 := by
            rw [← size_list, HT.out]
            have h1 := firstL_le (n := n) (by omega)
            have h2 := rowsL_le (c := c.take i) (fun f hf => by
              obtain ⟨j, hj, rfl⟩ := List.getElem_of_mem hf
              have hji : j < i := by rw [List.length_take] at hj; omega
              refine HK.out j _ hji ?_
              rw [List.getElem_take]
              exact List.getElem?_eq_getElem _) (fun f hf => fit_of_in64 (HZ.out f (List.mem_of_mem_take hf)).2)
            rw [List.length_append, List.length_cons]
            rw [List.length_take] at h2
            omega
          rw [factL_eq] at hfl
          simp only [List.length_append, List.length_cons, size_list] at hfl
          have hq1 : PM.size = (Lib.itoa x.key.m).length := by rw [← hPM, ← size_list, numB_list]
          have hq2 : PA.size = (Lib.itoa x.amt).length := by rw [← hPA, ← size_list, numB_list]
          rw [hP] at hfl
          have y1 : ¬ 9223372036854775807 < t.size + x.key.e.size := by omega
          have y2 : ¬ 9223372036854775807 < t.size + x.key.e.size + 1 := by omega
          have y3 : ¬ 9223372036854775807 < t.size + x.key.e.size + 1 + x.key.a.size := by omega
          have y4 : ¬ 9223372036854775807 < t.size + x.key.e.size + 1 + x.key.a.size + 1 := by omega
          have y5 : ¬ 9223372036854775807 < t.size + x.key.e.size + 1 + x.key.a.size + 1 + x.key.f.size := by omega
          have y6 : ¬ 9223372036854775807 < t.size + x.key.e.size + 1 + x.key.a.size + 1 + x.key.f.size + 1 := by omega
          have y7 : ¬ 9223372036854775807 < t.size + x.key.e.size + 1 + x.key.a.size + 1 + x.key.f.size + 1 + P.size := by omega
          have y8 : ¬ 9223372036854775807 < t.size + x.key.e.size + 1 + x.key.a.size + 1 + x.key.f.size + 1 + P.size + 1 := by omega
          have y9 : ¬ 9223372036854775807 < t.size + x.key.e.size + 1 + x.key.a.size + 1 + x.key.f.size + 1 + P.size + 1 + PM.size := by omega
          have y10 : ¬ 9223372036854775807 < t.size + x.key.e.size + 1 + x.key.a.size + 1 + x.key.f.size + 1 + P.size + 1 + PM.size + 1 := by omega
          have y11 : ¬ 9223372036854775807 < t.size + x.key.e.size + 1 + x.key.a.size + 1 + x.key.f.size + 1 + P.size + 1 + PM.size + 1 + PA.size := by omega
          have y12 : ¬ 9223372036854775807 < t.size + x.key.e.size + 1 + x.key.a.size + 1 + x.key.f.size + 1 + P.size + 1 + PM.size + 1 + PA.size + 1 := by omega
          have HRD : Hid ((rowB t x P PM PA).data.toList = firstL n ++ 10 :: rowsL (c.take (i + 1))) := Lib.hid (by
            rw [← hPM, ← hPA, ← hP, rowB_list, HT.out, List.take_add_one, HX.out, show (some x).toList = [x] from rfl, rowsL_append]
            simp)
          obtain ⟨q0, q1, q2, q3, q4⟩ := key5 HX3.out.at0
          simp only [Nat.zero_add] at q0 q1 q2 q3 q4
          obtain ⟨-, -, -, -, -, r5⟩ := fact6 (HAT.out.keep HB3.out HAT.out.lt)
          simp only [show encF.k = 6 from rfl] at r5
          have u0 := fun p : Past w3 => cell_past q0 p
          have u1 := fun p : Past w3 => cell_past q1 p
          have u2 := fun p : Past w3 => cell_past q2 p
          have u3 := fun p : Past w3 => cell_past q3 p
          have u4 := fun p : Past w3 => cell_past q4 p
          have u5 := fun p : Past w3 => cell_past r5 p
          have HDR : Hid (Below w3.heap.size w3 w3.drew) := Lib.hid ⟨rfl, rfl, rfl, Nat.le_refl _, fun _ _ => rfl⟩
          clear hfl hts hq1 hq2 hPM hPA hxm
          by_cases hp : x.key.p = ⟨#[]⟩
          · have hpe := empty_yes hp
            obtain rfl : P = ⟨#[45]⟩ := by rw [← hP]; unfold partB; rw [if_pos hp]
            simp only [show (⟨#[45]⟩ : ByteArray).size = 1 from rfl] at y7 y8 y9 y10 y11 y12
            clear hp hP
            go_wp2_with fail
            refine wp_region_plan (.one [0, 1, 2, 3, 4, 5, 6, 7, 8, 9, 10, 11, 12, 13, 14, 15, 16, 17, 21, 22, 23, 24, 25] 18 (.one [19, 20] 26 (.last [27, 28, 29]))) (by kernel_rfl) (by kernel_rfl) (fun d _ _ _ _ h => by cases d <;> exact h) ?_
            clear q0 q1 q2 q3 q4 r5
            simp only [wpPlan, pick, nth]
            repeat (go_big_quiet_step (fail))
            refine wpQuiet_nil ?_
            intro K hK
            refine alone_want (by kernel_rfl) ?_
            go_big_op
            refine (HPM2.out _).mono ?_
            rintro en w4 ⟨rfl, rfl⟩
            refine hK _ _ (past_in HDR.out) ?_
            clear hK K
            repeat (go_big_quiet_step (fail))
            refine wpQuiet_nil ?_
            intro K hK
            refine alone_want (by kernel_rfl) ?_
            go_big_op
            refine (HPA2.out _).mono ?_
            rintro en w4 ⟨rfl, rfl⟩
            refine hK _ _ (past_in HDR.out) ?_
            clear hK K
            repeat (go_big_quiet_step (fail))
            refine wpQuiet_nil ?_
            clear u0 u1 u2 u3 u4 u5 y1 y2 y3 y4 y5 y6 y7 y8 y9 y10 y11 y12
            have HB5 := Lib.hid (HB3.out.trans (HDR.out.mono HB3.out.size))
            go_wp2
            go_roundw
            case rel => exact ⟨i + 1, _, by go_num, rfl, by omega, HRD, HK2, HB5⟩
            case measure => simp [intOf]; omega
          · have hpe := empty_no hp
            obtain rfl : x.key.p = P := by rw [← hP]; unfold partB; rw [if_neg hp]
            clear hp hP
            go_wp2_with fail
            refine wp_region_plan (.one [0, 1, 2, 3, 4, 5, 6, 7, 8, 9, 10, 11, 12, 13, 14, 15, 16, 17, 21, 22, 23, 24, 25] 18 (.one [19, 20] 26 (.last [27, 28, 29]))) (by kernel_rfl) (by kernel_rfl) (fun d _ _ _ _ h => by cases d <;> exact h) ?_
            clear q0 q1 q2 q3 q4 r5
            simp only [wpPlan, pick, nth]
            repeat (go_big_quiet_step (fail))
            refine wpQuiet_nil ?_
            intro K hK
            refine alone_want (by kernel_rfl) ?_
            go_big_op
            refine (HPM2.out _).mono ?_
            rintro en w4 ⟨rfl, rfl⟩
            refine hK _ _ (past_in HDR.out) ?_
            clear hK K
            repeat (go_big_quiet_step (fail))
            refine wpQuiet_nil ?_
            intro K hK
            refine alone_want (by kernel_rfl) ?_
            go_big_op
            refine (HPA2.out _).mono ?_
            rintro en w4 ⟨rfl, rfl⟩
            refine hK _ _ (past_in HDR.out) ?_
            clear hK K
            repeat (go_big_quiet_step (fail))
            refine wpQuiet_nil ?_
            clear u0 u1 u2 u3 u4 u5 y1 y2 y3 y4 y5 y6 y7 y8 y9 y10 y11 y12
            have HB5 := Lib.hid (HB3.out.trans (HDR.out.mono HB3.out.size))
            go_wp2
            go_roundw
            case rel => exact ⟨i + 1, _, by go_num, rfl, by omega, HRD, HK2, HB5⟩
            case measure => simp [intOf]; omega
      · have hok : okC c = true := by unfold okC; rw [HR.out, all_upto HN.out (n := n) (p := fun f : Fact => keyOk f.key) (fun j x hj => HK.out j x (by omega)), Bool.and_true]
        have ht : RS = t ∧ RE = 0 := by
          refine ⟨?_, by rw [← HRS.out.2, prE_yes hok]⟩
          rw [← HRS.out.1, prS_yes hok, ← mkB_list t, HT.out, textL_eq, HN.out, List.take_of_length_le (by rw [HN.out]; omega)]
        obtain ⟨rfl, rfl⟩ := ht
        clear hok
        go_wp2
        go_ret2
        exact ⟨rfl, HB1.out.trans (HB.out.mono HB1.out.size)⟩
end Go.Proofs.YtdnneognilffaaaGreatDoor.Cd
