
/- The walk of FactCalls: what any cube has of any key, with another one, of any account, and of any mark, is the document's. -/
import Derived.Test.YtimeebildbmhaaaFactTells
namespace Go.Proofs.Ytimeebildbmhaaa.Fa
open Go.RowKit

theorem pickL_length (c : List Fact) (e : ByteArray) (m : Int) : (pickL c e m).length ≤ c.length := by unfold pickL; exact List.length_filter_le _ _
theorem right_rise {c : List Fact} (h : rightL c = true) : RiseF c := (of_decide_eq_true (show decide (RightP c) = true from h)).2.2
set_option maxRecDepth 100000 in
set_option maxHeartbeats 16000000 in
theorem factCalls_walk (va : Value) (A : List Fact) (vb : Value) (B : List Fact) (k : Key) (w : World) (h : FactsV w va A) (hz : ∀ f ∈ A, In64 f.key.m ∧ In64 f.amt) (h' : FactsV w vb B) (hz' : ∀ f ∈ B, In64 f.key.m ∧ In64 f.amt) (_hk : In64 k.m) : Calls Try.prog 4 #[va, vb, aggK k] w fun e w' => e = .returned (.bool true) ∧ Below w.heap.size w w' := by
  have HVA := Lib.hid h
  have HVB := Lib.hid h'
  have HZA := Lib.hid (fun f hf => (hz f hf).2)
  have HZB := Lib.hid (fun f hf => (hz' f hf).2)
  obtain ⟨p, cp, rfl, hcap, hmx, _, _⟩ := h
  obtain ⟨p', cp', rfl, hcap', hmx', _, _⟩ := h'
  obtain ⟨N, hN⟩ : ∃ n, A.length = n := ⟨_, rfl⟩
  rw [hN] at HVA hcap ⊢
  have HNA := Lib.hid hN
  obtain ⟨M, hM⟩ : ∃ n, B.length = n := ⟨_, rfl⟩
  rw [hM] at HVB hcap' ⊢
  have HNB := Lib.hid hM
  obtain ⟨R, hR⟩ : ∃ R, ofL (A ++ B) = R := ⟨_, rfl⟩
  have HCL : Hid (R.1.length ≤ N + M) := Lib.hid (by rw [← hR, ← hN, ← hM, ← List.length_append]; exact ofL_length _)
  obtain ⟨C, er⟩ := R
  have HR := Lib.hid hR
  obtain ⟨S, hS⟩ : ∃ S, sumL A k.e k.a k.f = S := ⟨_, rfl⟩
  obtain ⟨sn, sg⟩ := S
  have HS := Lib.hid hS
  obtain ⟨y, hy⟩ : ∃ y, getL A k = y := ⟨_, rfl⟩
  have HY := Lib.hid hy
  obtain ⟨P, hP⟩ : ∃ P, pickL A k.e k.m = P := ⟨_, rfl⟩
  have HPL : Hid (P.length ≤ N) := Lib.hid (by rw [← hP, ← hN]; exact pickL_length _ _ _)
  have HP := Lib.hid hP
  clear hN hM hz hz' hcap hcap' hmx hmx' hR hS hy hP
  have HB3 : Hid (Below w.heap.size w (w.alloc (.cells (encK.cs k).toArray 24))) := Lib.hid ((Below.refl _ w).alloc (Nat.le_refl _) _)
  obtain ⟨W3, hW3⟩ : ∃ W3, w.alloc (.cells #[.string k.e, .string k.a, .string k.f, .string k.p, .int .i64 k.m] 24) = W3 := ⟨_, rfl⟩
  have HB : Hid (Below w.heap.size w W3) := Lib.hid (by rw [← hW3]; exact HB3.out)
  have HA1 : Hid (BoxE encK W3 w.heap.size 24 k) := Lib.hid (by
    rw [← hW3]
    exact BoxE.new encK w k _)
  have HVA3 := Lib.hid (HVA.out.keep HB.out)
  have HVB3 := Lib.hid (HVB.out.keep HB.out)
  go_enter Try.func4, Try.ntmps4
  go_wp2_with fail
  refine (alive_any _).mono ?_
  rintro e w4 ⟨rfl, hb4⟩
  have HB4 := Lib.hid (HB.out.trans (hb4.mono HB.out.size))
  have HC1 := Lib.hid (HA1.out.kept hb4)
  have HVA4 := Lib.hid (HVA3.out.keep hb4)
  have HVB4 := Lib.hid (HVB3.out.keep hb4)
  clear hb4 hW3 HA1 HB3 HVA HVA3 HVB HVB3
  go_wp2_with fail
  refine (few_any _ A _ HVA4.out).mono ?_
  rintro e w5 ⟨rfl, hb5⟩
  have HB5 := Lib.hid (HB4.out.trans (hb5.mono HB4.out.size))
  have HC5 := Lib.hid (HC1.out.kept hb5)
  have HVA5 := Lib.hid (HVA4.out.keep hb5)
  have HVB5 := Lib.hid (HVB4.out.keep hb5)
  clear hb5 HC1 HVA4 HVB4 HB4
  cases hf : fewL A with
  | false =>
    clear hf
    go_wp2
    go_ret
    exact ⟨rfl, HB5.out⟩
  | true =>
  have HLA : Hid (N ≤ 150 ∧ A.length ≤ 150) := Lib.hid (by have := few_length hf; have := HNA.out; omega)
  clear hf
  go_wp2_with fail
  refine (few_any _ B _ HVB5.out).mono ?_
  rintro e w6 ⟨rfl, hb6⟩
  have HB6 := Lib.hid (HB5.out.trans (hb6.mono HB5.out.size))
  have HC6 := Lib.hid (HC5.out.kept hb6)
  have HVA6 := Lib.hid (HVA5.out.keep hb6)
  have HVB6 := Lib.hid (HVB5.out.keep hb6)
  clear hb6 HC5 HVA5 HVB5 HB5
  cases hf : fewL B with
  | false =>
    clear hf
    go_wp2
    go_ret
    exact ⟨rfl, HB6.out⟩
  | true =>
  have HLB : Hid (M ≤ 150 ∧ B.length ≤ 150) := Lib.hid (by have := few_length hf; have := HNB.out; omega)
  clear hf
  obtain ⟨r0, r1, r2, r3, r4⟩ := key5 HC6.out.at0
  simp only [Nat.zero_add] at r0 r1 r2 r3 r4
  go_wp2_with fail
  have hbL := (Below.refl w6.heap.size w6).alloc (Nat.le_refl _) (.cells (flat encF [⟨k, 0⟩]).toArray 28)
  refine (few_any _ _ _ (els_new encF w6 [⟨k, 0⟩] 28 (by simp [maxLen]))).mono ?_
  rintro e w7 ⟨rfl, hb7⟩
  have hb8 := hbL.trans (hb7.mono hbL.size)
  have HB7 := Lib.hid (HB6.out.trans (hb8.mono HB6.out.size))
  have HC7 := Lib.hid (HC6.out.kept hb8)
  have HVA7 := Lib.hid (HVA6.out.keep hb8)
  have HVB7 := Lib.hid (HVB6.out.keep hb8)
  clear hbL hb7 hb8 HC6 HVA6 HVB6 HB6 r0 r1 r2 r3 r4
  cases hf : fewL [(⟨k, 0⟩ : Fact)] with
  | false =>
    clear hf
    go_wp2
    go_ret
    exact ⟨rfl, HB7.out⟩
  | true =>
  clear hf
  go_wp2_with fail
  refine (rright_any _ A _ HVA7.out (by have := HLA.out; omega)).mono ?_
  rintro e w8 ⟨rfl, hb8⟩
  have HB8 := Lib.hid (HB7.out.trans (hb8.mono HB7.out.size))
  have HC8 := Lib.hid (HC7.out.kept hb8)
  have HVA8 := Lib.hid (HVA7.out.keep hb8)
  have HVB8 := Lib.hid (HVB7.out.keep hb8)
  clear hb8 HC7 HVA7 HVB7 HB7
  cases hf : rightL A with
  | false =>
    clear hf
    go_wp2
    go_ret
    exact ⟨rfl, HB8.out⟩
  | true =>
  have HRI := Lib.hid (right_rise hf)
  clear hf
  go_wp2_with fail
  refine (theirs_any _ A _ HVA8.out (by have := HLA.out; omega)).mono ?_
  rintro e w9 ⟨v9, rfl, hr9, hb9⟩
  have HX9 := Lib.hid (els_of_own (E := encF) hr9)
  have HB9 := Lib.hid (HB8.out.trans (hb9.mono HB8.out.size))
  have HC9 := Lib.hid (HC8.out.kept hb9)
  have HVA9 := Lib.hid (HVA8.out.keep hb9)
  have HVB9 := Lib.hid (HVB8.out.keep hb9)
  clear hr9 hb9 HC8 HVA8 HVB8 HB8
  go_wp2_with fail
  refine (theirs_any _ B _ HVB9.out (by have := HLB.out; omega)).mono ?_
  rintro e w10 ⟨v10, rfl, hr10, hb10⟩
  have HX10 := Lib.hid (els_of_own (E := encF) hr10)
  have HX910 := Lib.hid (HX9.out.keep hb10)
  have HB10 := Lib.hid (HB9.out.trans (hb10.mono HB9.out.size))
  have HC10 := Lib.hid (HC9.out.kept hb10)
  have HVA10 := Lib.hid (HVA9.out.keep hb10)
  have HVB10 := Lib.hid (HVB9.out.keep hb10)
  clear hr10 hb10 HC9 HVA9 HVB9 HB9 HX9
  go_wp2_with fail
  have hO := add_any v9 v10 A B w10 HX910.out HX10.out HZA.out HZB.out (by have := HLA.out; omega) (by have := HLB.out; omega)
  rw [HR.out] at hO
  refine hO.mono ?_
  rintro e w11 ⟨v11, rfl, hv11, hb11⟩
  obtain ⟨p11, c11, rfl, _, _, _, _⟩ := id hv11
  have HD11 := Lib.hid (show FactsV w11 (.slice p11 C.length c11) C from hv11)
  have HB11 := Lib.hid (HB10.out.trans (hb11.mono HB10.out.size))
  have HC11 := Lib.hid (HC10.out.kept hb11)
  have HVA11 := Lib.hid (HVA10.out.keep hb11)
  have HVB11 := Lib.hid (HVB10.out.keep hb11)
  clear hO hv11 hb11 HC10 HVA10 HVB10 HB10 HX10 HX910
  obtain ⟨m, hm⟩ : ∃ m, C.length = m := ⟨_, rfl⟩
  have HCL2 : Hid (C.length ≤ 300) := Lib.hid (by have := HCL.out; have := HLA.out; have := HLB.out; dsimp only at *; omega)
  rw [hm] at HD11 ⊢
  clear hm HCL
  go_wp2_with fail
  have hO := radd_any _ _ A B w11 HVA11.out HVB11.out HZA.out HZB.out (by have := HLA.out; omega) (by have := HLB.out; omega)
  rw [HR.out] at hO
  refine hO.mono ?_
  rintro e w12 ⟨v12, rfl, hv12, hb12⟩
  obtain ⟨p12, c12, rfl, _, _, _, _⟩ := id hv12
  have HE12 := Lib.hid (show FactsV w12 (.slice p12 C.length c12) C from hv12)
  have HD12 := Lib.hid (HD11.out.keep hb12)
  have HB12 := Lib.hid (HB11.out.trans (hb12.mono HB11.out.size))
  have HC12 := Lib.hid (HC11.out.kept hb12)
  have HVA12 := Lib.hid (HVA11.out.keep hb12)
  clear hO hv12 hb12 HC11 HVA11 HVB11 HB11 HD11
  rw [len_elsV HD12.out] at HE12 ⊢
  obtain ⟨k0, k1, k2, k3, k4⟩ := key5 HC12.out.at0
  simp only [Nat.zero_add] at k0 k1 k2 k3 k4
  have r0 := fun p : Past w12 => cell_past k0 p
  have r1 := fun p : Past w12 => cell_past k1 p
  have r2 := fun p : Past w12 => cell_past k2 p
  have r3 := fun p : Past w12 => cell_past k3 p
  have r4 := fun p : Past w12 => cell_past k4 p
  have HD : Hid (Below w12.heap.size w12 w12.drew) := Lib.hid ⟨rfl, rfl, rfl, Nat.le_refl _, fun _ _ => rfl⟩
  clear k0 k1 k2 k3 k4
  go_wp2_with fail
  refine wp_region_plan (.one [0, 2, 3, 4, 5, 6, 7] 1 (.one [] 8 (.last [9, 10, 11, 12, 13]))) (by kernel_rfl) (by kernel_rfl) (fun d _ _ _ _ h => by cases d <;> exact h) ?_
  simp only [wpPlan, pick, nth]
  repeat (go_big_quiet_step (fail))
  refine wpQuiet_nil ?_
  intro K hK
  refine alone_want (by kernel_rfl) ?_
  go_big_op
  refine (theirs_any _ A w12.drew (HVA12.out.keep HD.out) (by have := HLA.out; omega)).mono ?_
  rintro en w13 ⟨v13, rfl, hr13, hb13⟩
  have HO13 := Lib.hid (els_of_own (E := encF) hr13)
  have HP13 := Lib.hid (HD.out.trans (hb13.mono HD.out.size))
  clear hr13 hb13
  refine hK _ _ (past_in HP13.out) ?_
  clear hK K
  refine wpQuiet_nil ?_
  intro K hK
  refine alone_want (by kernel_rfl) ?_
  go_big_op
  have hO := sumP_any v13 A k.e k.a k.f w13 HO13.out HZA.out (by have := HLA.out; omega)
  rw [HS.out] at hO
  refine hO.mono ?_
  rintro en w14 ⟨rfl, hb14⟩
  have HP14 := Lib.hid (HP13.out.trans (hb14.mono HP13.out.size))
  have HB14 := Lib.hid (HB12.out.trans (HP14.out.mono HB12.out.size))
  have HC14 := Lib.hid (HC12.out.kept HP14.out)
  have HVA14 := Lib.hid (HVA12.out.keep HP14.out)
  have HD14 := Lib.hid (HD12.out.keep HP14.out)
  have HE14 := Lib.hid (HE12.out.keep HP14.out)
  clear hO hb14 r0 r1 r2 r3 r4
  refine hK _ _ (past_in HP14.out) ?_
  clear hK K
  repeat (go_big_quiet_step (fail))
  refine wpQuiet_nil ?_
  clear HP14 HP13 HO13 HD HC12 HVA12 HD12 HE12 HB12
  obtain ⟨r0, r1, r2, r3, r4⟩ := key5 HC14.out.at0
  simp only [Nat.zero_add] at r0 r1 r2 r3 r4
  go_wp2_with fail
  have hO := rsumP_any _ A k.e k.a k.f w14 HVA14.out HZA.out (by have := HLA.out; omega)
  rw [HS.out] at hO
  refine hO.mono ?_
  rintro en w15 ⟨rfl, hb15⟩
  have HB15 := Lib.hid (HB14.out.trans (hb15.mono HB14.out.size))
  have HC15 := Lib.hid (HC14.out.kept hb15)
  have HVA15 := Lib.hid (HVA14.out.keep hb15)
  have HD15 := Lib.hid (HD14.out.keep hb15)
  have HE15 := Lib.hid (HE14.out.keep hb15)
  clear hO hb15 r0 r1 r2 r3 r4 HC14 HVA14 HD14 HE14 HB14
  obtain ⟨k0, k1, k2, k3, k4⟩ := key5 HC15.out.at0
  simp only [Nat.zero_add] at k0 k1 k2 k3 k4
  have r0 := fun p : Past w15 => cell_past k0 p
  have r1 := fun p : Past w15 => cell_past k1 p
  have r2 := fun p : Past w15 => cell_past k2 p
  have r3 := fun p : Past w15 => cell_past k3 p
  have r4 := fun p : Past w15 => cell_past k4 p
  have HD : Hid (Below w15.heap.size w15 w15.drew) := Lib.hid ⟨rfl, rfl, rfl, Nat.le_refl _, fun _ _ => rfl⟩
  have hee : (er == er) = true := by simp
  have hyy : (y == y) = true := by simp
  have hnn : (sn == sn) = true := by simp
  have hgg : (sg == sg) = true := by simp
  clear k0 k1 k2 k3 k4
  go_wp2_with fail
  refine wp_region_plan (.one [0, 2] 1 (.one [] 3 (.one [4, 5, 6, 7, 8, 9, 10, 12, 14, 15] 11 (.one [] 13 (.one [] 16 (.one [17, 18, 19, 20, 21, 22, 23, 24, 25, 26, 27, 28, 29, 30, 32, 33, 34, 35, 38, 39, 40, 41, 42] 31 (.one [] 36 (.one [] 37 (.one [] 43 (.one [] 44 (.last [45, 46]))))))))))) (by kernel_rfl) (by kernel_rfl) (fun d _ _ _ _ h => by cases d <;> exact h) ?_
  simp only [wpPlan, pick, nth]
  repeat (go_big_quiet_step (fail))
  refine wpQuiet_nil ?_
  intro K hK
  refine alone_want (by kernel_rfl) ?_
  go_big_op
  refine (ours_any _ C w15.drew (HD15.out.keep HD.out) (by have := HCL2.out; omega)).mono ?_
  rintro en w16 ⟨v16, rfl, hr16, hb16⟩
  have HO16 := Lib.hid (els_of_own (E := encF) hr16)
  have HP16 := Lib.hid (HD.out.trans (hb16.mono HD.out.size))
  clear hr16 hb16
  refine hK _ _ (past_in HP16.out) ?_
  clear hK K
  refine wpQuiet_nil ?_
  intro K hK
  refine alone_want (by kernel_rfl) ?_
  go_big_op
  have hS := same_any v16 _ C C w16 HO16.out (HE15.out.keep HP16.out)
  rw [show sameL C C = true from decide_eq_true rfl] at hS
  refine hS.mono ?_
  rintro en w17 ⟨rfl, hb17⟩
  have HP17 := Lib.hid (HP16.out.trans (hb17.mono HP16.out.size))
  clear hb17 hS
  refine hK _ _ (past_in HP17.out) ?_
  clear hK K
  repeat (go_big_quiet_step (fail))
  refine wpQuiet_nil ?_
  intro K hK
  refine alone_want (by kernel_rfl) ?_
  go_big_op
  refine (theirs_any _ A w17 (HVA15.out.keep HP17.out) (by have := HLA.out; omega)).mono ?_
  rintro en w18 ⟨v18, rfl, hr18, hb18⟩
  have HO18 := Lib.hid (els_of_own (E := encF) hr18)
  have HP18 := Lib.hid (HP17.out.trans (hb18.mono HP17.out.size))
  clear hr18 hb18
  refine hK _ _ (past_in HP18.out) ?_
  clear hK K
  refine wpQuiet_nil ?_
  intro K hK
  refine alone_want (by kernel_rfl) ?_
  go_big_op
  have hS := get_any v18 A k w18 HO18.out HRI.out (by have := HLA.out; omega)
  rw [HY.out] at hS
  refine hS.mono ?_
  rintro en w19 ⟨rfl, hb19⟩
  have HP19 := Lib.hid (HP18.out.trans (hb19.mono HP18.out.size))
  clear hb19 hS
  refine hK _ _ (past_in HP19.out) ?_
  clear hK K
  refine wpQuiet_nil ?_
  intro K hK
  refine alone_want (by kernel_rfl) ?_
  go_big_op
  have hS := rget_any _ A k w19 (HVA15.out.keep HP19.out) (by have := HLA.out; omega)
  rw [HY.out] at hS
  refine hS.mono ?_
  rintro en w20 ⟨rfl, hb20⟩
  have HP20 := Lib.hid (HP19.out.trans (hb20.mono HP19.out.size))
  clear hb20 hS
  refine hK _ _ (past_in HP20.out) ?_
  clear hK K
  repeat (go_big_quiet_step (fail))
  refine wpQuiet_nil ?_
  intro K hK
  refine alone_want (by kernel_rfl) ?_
  go_big_op
  refine (theirs_any _ A w20 (HVA15.out.keep HP20.out) (by have := HLA.out; omega)).mono ?_
  rintro en w21 ⟨v21, rfl, hr21, hb21⟩
  have HO21 := Lib.hid (els_of_own (E := encF) hr21)
  have HP21 := Lib.hid (HP20.out.trans (hb21.mono HP20.out.size))
  clear hr21 hb21
  refine hK _ _ (past_in HP21.out) ?_
  clear hK K
  refine wpQuiet_nil ?_
  intro K hK
  refine alone_want (by kernel_rfl) ?_
  go_big_op
  have hS := pick_any v21 A k.e k.m w21 HO21.out (by have := HLA.out; omega)
  rw [HP.out] at hS
  refine hS.mono ?_
  rintro en w22 ⟨v22, rfl, hr22, hb22⟩
  have HO22 := Lib.hid (els_of_own (E := encF) hr22)
  have HP22 := Lib.hid (HP21.out.trans (hb22.mono HP21.out.size))
  clear hr22 hb22 hS
  refine hK _ _ (past_in HP22.out) ?_
  clear hK K
  refine wpQuiet_nil ?_
  intro K hK
  refine alone_want (by kernel_rfl) ?_
  go_big_op
  refine (ours_any _ P w22 HO22.out (by have := HPL.out; have := HLA.out; omega)).mono ?_
  rintro en w23 ⟨v23, rfl, hr23, hb23⟩
  have HO23 := Lib.hid (els_of_own (E := encF) hr23)
  have HP23 := Lib.hid (HP22.out.trans (hb23.mono HP22.out.size))
  clear hr23 hb23
  refine hK _ _ (past_in HP23.out) ?_
  clear hK K
  refine wpQuiet_nil ?_
  intro K hK
  refine alone_want (by kernel_rfl) ?_
  go_big_op
  have hS := rpick_any _ A k.e k.m w23 (HVA15.out.keep HP23.out) (by have := HLA.out; omega)
  rw [HP.out] at hS
  refine hS.mono ?_
  rintro en w24 ⟨v24, rfl, hr24, hb24⟩
  have HO24 := Lib.hid (els_of_own (E := encF) hr24)
  have HO2324 := Lib.hid (HO23.out.keep hb24)
  have HP24 := Lib.hid (HP23.out.trans (hb24.mono HP23.out.size))
  clear hr24 hb24 hS
  refine hK _ _ (past_in HP24.out) ?_
  clear hK K
  refine wpQuiet_nil ?_
  intro K hK
  refine alone_want (by kernel_rfl) ?_
  go_big_op
  have hS := same_any v23 v24 P P w24 HO2324.out HO24.out
  rw [show sameL P P = true from decide_eq_true rfl] at hS
  refine hS.mono ?_
  rintro en w25 ⟨rfl, hb25⟩
  have HP25 := Lib.hid (HP24.out.trans (hb25.mono HP24.out.size))
  have HB25 := Lib.hid (HB15.out.trans (HP25.out.mono HB15.out.size))
  clear hb25 hS
  refine hK _ _ (past_in HP25.out) ?_
  clear hK K
  repeat (go_big_quiet_step (fail))
  refine wpQuiet_nil ?_
  go_wp2
  go_ret
  exact ⟨rfl, HB25.out⟩
end Go.Proofs.Ytimeebildbmhaaa.Fa
