
/- The walk of FactTells: the cube of any facts, how keys stand, and whether any facts are a cube, is the document's. -/
import Derived.Test.YtimeebildbmhaaaFactZeros
import Derived.Test.YtimeebildbmhaaaFaStore
import Derived.Test.YtimeebildbmhaaaFdAdd
import Derived.Test.YtimeebildbmhaaaSegs
namespace Go.Proofs.Ytimeebildbmhaaa.Fa
open Go.RowKit

theorem len_elsV {α : Type} {E : Enc α} {w : World} {p : Option Addr} {n c : Nat} {L : List α} (h : ElsV E w (.slice p n c) L) : L.length = n := by
  obtain ⟨_, _, e, _⟩ := h
  cases e; rfl
set_option maxRecDepth 100000 in
set_option maxHeartbeats 16000000 in
theorem factTells_walk (v : Value) (L : List Fact) (a b : Key) (w : World) (h : FactsV w v L) (hz : ∀ f ∈ L, In64 f.key.m ∧ In64 f.amt) (_ha : In64 a.m) (_hb : In64 b.m) : Calls Try.prog 3 #[v, aggK a, aggK b] w fun e w' => e = .returned (.bool true) ∧ Below w.heap.size w w' := by
  have HV := Lib.hid h
  have HZ := Lib.hid (fun f hf => (hz f hf).2)
  obtain ⟨p, cp, rfl, hcap, hmx, _, _⟩ := h
  obtain ⟨N, hN⟩ : ∃ n, L.length = n := ⟨_, rfl⟩
  rw [hN] at HV hcap ⊢
  have HN := Lib.hid hN
  obtain ⟨R, hR⟩ : ∃ R, ofL L = R := ⟨_, rfl⟩
  have HCL : Hid (R.1.length ≤ N) := Lib.hid (by rw [← hR, ← hN]; exact ofL_length L)
  obtain ⟨C, er⟩ := R
  have HR := Lib.hid hR
  obtain ⟨x, hx⟩ : ∃ x, cmpK a b = x := ⟨_, rfl⟩
  have HXP := Lib.hid (fun W => (cmp_any a b W).mono fun _ _ ⟨h1, h2⟩ => And.intro h1 h2.below)
  have HXD := Lib.hid (fun W => rcmp_any a b W)
  simp only [hx] at HXP HXD
  obtain ⟨y, hy⟩ : ∃ y, rightL L = y := ⟨_, rfl⟩
  have HY := Lib.hid hy
  clear hN hz hcap hmx hR hx hy
  have HB3 : Hid (Below w.heap.size w ((w.alloc (.cells (encK.cs a).toArray 24)).alloc (.cells (encK.cs b).toArray 24))) := Lib.hid (((Below.refl _ w).alloc (Nat.le_refl _) _).alloc (by simp) _)
  obtain ⟨W3, hW3⟩ : ∃ W3, (w.alloc (.cells #[.string a.e, .string a.a, .string a.f, .string a.p, .int .i64 a.m] 24)).alloc (.cells #[.string b.e, .string b.a, .string b.f, .string b.p, .int .i64 b.m] 24) = W3 := ⟨_, rfl⟩
  have HB : Hid (Below w.heap.size w W3) := Lib.hid (by rw [← hW3]; exact HB3.out)
  have HA1 : Hid (BoxE encK W3 w.heap.size 24 a) := Lib.hid (by
    rw [← hW3]
    exact (BoxE.new encK w a _).kept ((Below.refl _ _).alloc (Nat.le_refl _) _))
  have HA2 : Hid (BoxE encK W3 (w.heap.size + 1) 24 b) := Lib.hid (by
    rw [← hW3]
    have := BoxE.new encK (w.alloc (.cells #[.string a.e, .string a.a, .string a.f, .string a.p, .int .i64 a.m] 24)) b 24
    rw [World.size_alloc] at this
    exact this)
  have HV3 := Lib.hid (HV.out.keep HB.out)
  go_enter Try.func3, Try.ntmps3
  go_wp2_with fail
  refine (alive_any _).mono ?_
  rintro e w4 ⟨rfl, hb4⟩
  have HB4 := Lib.hid (HB.out.trans (hb4.mono HB.out.size))
  have HC1 := Lib.hid (HA1.out.kept hb4)
  have HC2 := Lib.hid (HA2.out.kept hb4)
  have HV4 := Lib.hid (HV3.out.keep hb4)
  clear hb4 hW3 HA1 HA2 HB3 HV HV3
  go_wp2_with fail
  refine (few_any _ L _ HV4.out).mono ?_
  rintro e w5 ⟨rfl, hb5⟩
  have HB5 := Lib.hid (HB4.out.trans (hb5.mono HB4.out.size))
  have HD1 := Lib.hid (HC1.out.kept hb5)
  have HD2 := Lib.hid (HC2.out.kept hb5)
  have HV5 := Lib.hid (HV4.out.keep hb5)
  clear hb5 HC1 HC2 HV4 HB4
  cases hf : fewL L with
  | false =>
    clear hf
    go_wp2
    go_ret
    exact ⟨rfl, HB5.out⟩
  | true =>
    have HF := Lib.hid hf
    have HLN : Hid (N ≤ 150 ∧ L.length ≤ 150) := Lib.hid (by have := few_length hf; have := HN.out; omega)
    clear hf
    obtain ⟨r0, r1, r2, r3, r4⟩ := key5 HD1.out.at0
    obtain ⟨s0, s1, s2, s3, s4⟩ := key5 HD2.out.at0
    simp only [Nat.zero_add] at r0 r1 r2 r3 r4 s0 s1 s2 s3 s4
    go_wp2_with fail
    have hbL := (Below.refl w5.heap.size w5).alloc (Nat.le_refl _) (.cells (flat encF [⟨a, 0⟩, ⟨b, 0⟩]).toArray 28)
    refine (few_any _ _ _ (els_new encF w5 [⟨a, 0⟩, ⟨b, 0⟩] 28 (by simp [maxLen]))).mono ?_
    rintro e w6 ⟨rfl, hb6⟩
    have hb7 := hbL.trans (hb6.mono hbL.size)
    have HB6 := Lib.hid (HB5.out.trans (hb7.mono HB5.out.size))
    have HE1 := Lib.hid (HD1.out.kept hb7)
    have HE2 := Lib.hid (HD2.out.kept hb7)
    have HV6 := Lib.hid (HV5.out.keep hb7)
    clear hbL hb6 hb7 HD1 HD2 HV5 HB5 r0 r1 r2 r3 r4 s0 s1 s2 s3 s4
    cases hf : fewL [(⟨a, 0⟩ : Fact), ⟨b, 0⟩] with
    | false =>
      clear hf
      go_wp2
      go_ret
      exact ⟨rfl, HB6.out⟩
    | true =>
      clear hf
      go_wp2_with fail
      refine (theirs_any _ L _ HV6.out (by have := HLN.out; omega)).mono ?_
      rintro e w7 ⟨v7, rfl, hr7, hb7⟩
      have HX7 := Lib.hid (els_of_own (E := encF) hr7)
      have HV7 := Lib.hid (HV6.out.keep hb7)
      have HE17 := Lib.hid (HE1.out.kept hb7)
      have HE27 := Lib.hid (HE2.out.kept hb7)
      have HB7 := Lib.hid (HB6.out.trans (hb7.mono HB6.out.size))
      clear hr7 hb7 HV6 HE1 HE2 HB6
      go_wp2_with fail
      have hO := of_any v7 L w7 HX7.out HZ.out (by have := HLN.out; omega)
      rw [HR.out] at hO
      refine hO.mono ?_
      rintro e w8 ⟨v8, rfl, hv8, hb8⟩
      obtain ⟨p8, c8, rfl, _, _, _, _⟩ := id hv8
      have HA8 := Lib.hid (show FactsV w8 (.slice p8 C.length c8) C from hv8)
      have HV8 := Lib.hid (HV7.out.keep hb8)
      have HE18 := Lib.hid (HE17.out.kept hb8)
      have HE28 := Lib.hid (HE27.out.kept hb8)
      have HB8 := Lib.hid (HB7.out.trans (hb8.mono HB7.out.size))
      clear hO hb8 hv8 HX7 HV7 HE17 HE27 HB7
      obtain ⟨m, hm⟩ : ∃ m, C.length = m := ⟨_, rfl⟩
      have HCL2 : Hid (C.length ≤ 150) := Lib.hid (by have := HCL.out; have := HLN.out; dsimp only at *; omega)
      rw [hm] at HA8 ⊢
      clear hm
      go_wp2_with fail
      have hO := rof_any _ L w8 HV8.out HZ.out (by have := HLN.out; omega)
      rw [HR.out] at hO
      refine hO.mono ?_
      rintro e w9 ⟨v9, rfl, hv9, hb9⟩
      obtain ⟨p9, c9, rfl, _, _, _, _⟩ := id hv9
      have HD9 := Lib.hid (show FactsV w9 (.slice p9 C.length c9) C from hv9)
      have HA9 := Lib.hid (HA8.out.keep hb9)
      have HV9 := Lib.hid (HV8.out.keep hb9)
      have HE19 := Lib.hid (HE18.out.kept hb9)
      have HE29 := Lib.hid (HE28.out.kept hb9)
      have HB9 := Lib.hid (HB8.out.trans (hb9.mono HB8.out.size))
      clear hO hb9 hv9 HA8 HV8 HE18 HE28 HB8
      rw [len_elsV HA9.out] at HD9 ⊢
      obtain ⟨k0, k1, k2, k3, k4⟩ := key5 HE19.out.at0
      obtain ⟨j0, j1, j2, j3, j4⟩ := key5 HE29.out.at0
      simp only [Nat.zero_add] at k0 k1 k2 k3 k4 j0 j1 j2 j3 j4
      have r0 := fun p : Past w9 => cell_past k0 p
      have r1 := fun p : Past w9 => cell_past k1 p
      have r2 := fun p : Past w9 => cell_past k2 p
      have r3 := fun p : Past w9 => cell_past k3 p
      have r4 := fun p : Past w9 => cell_past k4 p
      have s0 := fun p : Past w9 => cell_past j0 p
      have s1 := fun p : Past w9 => cell_past j1 p
      have s2 := fun p : Past w9 => cell_past j2 p
      have s3 := fun p : Past w9 => cell_past j3 p
      have s4 := fun p : Past w9 => cell_past j4 p
      have HD : Hid (Below w9.heap.size w9 w9.drew) := Lib.hid ⟨rfl, rfl, rfl, Nat.le_refl _, fun _ _ => rfl⟩
      have hee : (er == er) = true := by simp
      have hxx : (x == x) = true := by simp
      have hyy : (y == y) = true := by simp
      clear k0 k1 k2 k3 k4 j0 j1 j2 j3 j4
      go_wp2_with fail
      refine wp_region_plan (.one [0, 2] 1 (.one [] 3 (.one [4, 5, 6, 7, 8, 9, 10, 11, 13, 14] 12 (.one [] 15 (.one [16, 17, 18, 19, 22] 20 (.one [] 21 (.one [] 23 (.last [24, 25, 26])))))))) (by kernel_rfl) (by kernel_rfl) (fun d _ _ _ _ h => by cases d <;> exact h) ?_
      simp only [wpPlan, pick, nth]
      repeat (go_big_quiet_step (fail))
      refine wpQuiet_nil ?_
      intro K hK
      refine alone_want (by kernel_rfl) ?_
      go_big_op
      refine (ours_any _ C w9.drew (HA9.out.keep HD.out) (by have := HCL2.out; omega)).mono ?_
      rintro en w10 ⟨v10, rfl, hr10, hb10⟩
      have HO10 := Lib.hid (els_of_own (E := encF) hr10)
      have HP10 := Lib.hid (HD.out.trans (hb10.mono HD.out.size))
      clear hr10 hb10
      refine hK _ _ (past_in HP10.out) ?_
      clear hK K
      refine wpQuiet_nil ?_
      intro K hK
      refine alone_want (by kernel_rfl) ?_
      go_big_op
      have hS := same_any v10 _ C C w10 HO10.out (HD9.out.keep HP10.out)
      rw [show sameL C C = true from decide_eq_true rfl] at hS
      refine hS.mono ?_
      rintro en w11 ⟨rfl, hb11⟩
      have HP11 := Lib.hid (HP10.out.trans (hb11.mono HP10.out.size))
      clear hb11 hS
      refine hK _ _ (past_in HP11.out) ?_
      clear hK K
      repeat (go_big_quiet_step (fail))
      refine wpQuiet_nil ?_
      intro K hK
      refine alone_want (by kernel_rfl) ?_
      go_big_op
      refine (HXP.out w11).mono ?_
      rintro en w12 ⟨rfl, hb12⟩
      have HP12 := Lib.hid (HP11.out.trans (hb12.mono HP11.out.size))
      clear hb12
      refine hK _ _ (past_in HP12.out) ?_
      clear hK K
      refine wpQuiet_nil ?_
      intro K hK
      refine alone_want (by kernel_rfl) ?_
      go_big_op
      refine (HXD.out w12).mono ?_
      rintro en w13 ⟨rfl, hb13⟩
      have HP13 := Lib.hid (HP12.out.trans (hb13.mono HP12.out.size))
      clear hb13
      refine hK _ _ (past_in HP13.out) ?_
      clear hK K
      repeat (go_big_quiet_step (fail))
      refine wpQuiet_nil ?_
      intro K hK
      refine alone_want (by kernel_rfl) ?_
      go_big_op
      refine (theirs_any _ L w13 (HV9.out.keep HP13.out) (by have := HLN.out; omega)).mono ?_
      rintro en w14 ⟨v14, rfl, hr14, hb14⟩
      have HO14 := Lib.hid (els_of_own (E := encF) hr14)
      have HP14 := Lib.hid (HP13.out.trans (hb14.mono HP13.out.size))
      clear hr14 hb14
      refine hK _ _ (past_in HP14.out) ?_
      clear hK K
      refine wpQuiet_nil ?_
      intro K hK
      refine alone_want (by kernel_rfl) ?_
      go_big_op
      have hS := right_any v14 L w14 HO14.out (by have := HLN.out; omega)
      rw [HY.out] at hS
      refine hS.mono ?_
      rintro en w15 ⟨rfl, hb15⟩
      have HP15 := Lib.hid (HP14.out.trans (hb15.mono HP14.out.size))
      clear hb15 hS
      refine hK _ _ (past_in HP15.out) ?_
      clear hK K
      refine wpQuiet_nil ?_
      intro K hK
      refine alone_want (by kernel_rfl) ?_
      go_big_op
      have hS := rright_any _ L w15 (HV9.out.keep HP15.out) (by have := HLN.out; omega)
      rw [HY.out] at hS
      refine hS.mono ?_
      rintro en w16 ⟨rfl, hb16⟩
      have HP16 := Lib.hid (HP15.out.trans (hb16.mono HP15.out.size))
      have HB16 := Lib.hid (HB9.out.trans (HP16.out.mono HB9.out.size))
      clear hb16 hS
      refine hK _ _ (past_in HP16.out) ?_
      clear hK K
      repeat (go_big_quiet_step (fail))
      refine wpQuiet_nil ?_
      go_wp2
      go_ret
      exact ⟨rfl, HB16.out⟩
end Go.Proofs.Ytimeebildbmhaaa.Fa
