
/- The walk of FactKeys: keys stand in one order. -/
import Derived.Test.YtimeebildbmhaaaFaAlive
import Derived.Test.YtimeebildbmhaaaFaOurs
namespace Go.Proofs.Ytimeebildbmhaaa.Fa
open Go.RowKit

theorem cmpL_bound : ∀ (x y : List UInt8), -1 ≤ Lib.compareBytes x y ∧ Lib.compareBytes x y ≤ 1
  | [], [] => by simp [Lib.compareBytes]
  | [], _ :: _ => by simp [Lib.compareBytes]
  | _ :: _, [] => by simp [Lib.compareBytes]
  | a :: x, b :: y => by
    have ih := cmpL_bound x y
    unfold Lib.compareBytes
    (repeat' split) <;> omega
theorem orI_bound {x y : Int} (hx : -1 ≤ x ∧ x ≤ 1) (hy : -1 ≤ y ∧ y ≤ 1) : -1 ≤ orI x y ∧ orI x y ≤ 1 := by unfold orI; split <;> omega
theorem cmpK_bound (x y : Key) : -1 ≤ cmpK x y ∧ cmpK x y ≤ 1 := by
  have hi : -1 ≤ cmpI x.m y.m ∧ cmpI x.m y.m ≤ 1 := by unfold cmpI; (repeat' split) <;> omega
  exact orI_bound (cmpL_bound _ _) (orI_bound (cmpL_bound _ _) (orI_bound (cmpL_bound _ _) (orI_bound (cmpL_bound _ _) hi)))
/-- How three keys may stand. -/
theorem three_keys (a b c : Key) : cmpK a b = 1 ∨ (cmpK a b = 0 ∧ 0 < cmpK b c) ∨ (cmpK a b = 0 ∧ cmpK b c ≤ 0 ∧ cmpK a c ≤ 0) ∨ (cmpK a b = -1 ∧ cmpK b c = 1) ∨ (cmpK a b = -1 ∧ cmpK b c = 0 ∧ cmpK a c = -1) ∨ (cmpK a b = -1 ∧ cmpK b c = -1 ∧ cmpK a c = -1) := by
  have b1 := cmpK_bound a b
  have b2 := cmpK_bound b c
  have b3 := cmpK_bound a c
  by_cases h0 : cmpK a b = 0
  · have e := (isCmp_key.eq0 a b).1 h0
    subst e
    omega
  · by_cases h1 : cmpK b c = 0
    · have e := (isCmp_key.eq0 b c).1 h1
      subst e
      omega
    · have h3 : cmpK a b < 0 → cmpK b c < 0 → cmpK a c < 0 := isCmp_key.trans
      omega
set_option maxRecDepth 100000 in
set_option maxHeartbeats 8000000 in
theorem factKeys_walk (a b c : Key) (w : World) (_ha : In64 a.m) (_hb : In64 b.m) (_hc : In64 c.m) : Calls Try.prog 8 #[aggK a, aggK b, aggK c] w fun e w' => e = .returned (.bool true) ∧ Below w.heap.size w w' := by
  obtain ⟨x, hx⟩ : ∃ x, cmpK a b = x := ⟨_, rfl⟩
  obtain ⟨y, hy⟩ : ∃ y, cmpK b c = y := ⟨_, rfl⟩
  obtain ⟨z, hz⟩ : ∃ z, cmpK a c = z := ⟨_, rfl⟩
  have ht := three_keys a b c
  have hb := cmpK_bound a b
  rw [hx] at hb
  rw [hx, hy, hz] at ht
  have HXY := Lib.hid (fun W => (cmp_any a b W).mono fun _ _ ⟨h1, h2⟩ => And.intro h1 h2.below)
  have HYZ := Lib.hid (fun W => (cmp_any b c W).mono fun _ _ ⟨h1, h2⟩ => And.intro h1 h2.below)
  have HXZ := Lib.hid (fun W => (cmp_any a c W).mono fun _ _ ⟨h1, h2⟩ => And.intro h1 h2.below)
  have HYX := Lib.hid (fun W => (cmp_any b a W).mono fun _ _ ⟨h1, h2⟩ => And.intro h1 h2.below)
  have hE : ∀ W, Sem.run Try.prog (binOp .eql 24 (aggK a) (aggK b)) W = .ok (.bool (x == 0)) W := fun W => by
    rw [eql_rkey]
    congr 2
    unfold eqK
    rw [Bool.eq_iff_iff, decide_eq_true_eq, beq_iff_eq, ← hx, isCmp_key.eq0]
  have HE := Lib.hid hE
  simp only [hx] at HXY
  simp only [hy] at HYZ
  simp only [hz] at HXZ
  have hyx : cmpK b a = -x := by rw [isCmp_key.neg a b, hx]
  simp only [hyx] at HYX
  clear hx hy hz hE hyx
  have HB3 : Hid (Below w.heap.size w (((w.alloc (.cells (encK.cs a).toArray 24)).alloc (.cells (encK.cs b).toArray 24)).alloc (.cells (encK.cs c).toArray 24))) := Lib.hid ((((Below.refl _ w).alloc (Nat.le_refl _) _).alloc (by simp) _).alloc (by simp; omega) _)
  obtain ⟨W3, hW3⟩ : ∃ W3, ((w.alloc (.cells #[.string a.e, .string a.a, .string a.f, .string a.p, .int .i64 a.m] 24)).alloc (.cells #[.string b.e, .string b.a, .string b.f, .string b.p, .int .i64 b.m] 24)).alloc (.cells #[.string c.e, .string c.a, .string c.f, .string c.p, .int .i64 c.m] 24) = W3 := ⟨_, rfl⟩
  have HB : Hid (Below w.heap.size w W3) := Lib.hid (by rw [← hW3]; exact HB3.out)
  have HA1 : Hid (BoxE encK W3 w.heap.size 24 a) := Lib.hid (by
    rw [← hW3]
    exact ((BoxE.new encK w a _).kept ((Below.refl _ _).alloc (Nat.le_refl _) _)).kept ((Below.refl _ _).alloc (Nat.le_refl _) _))
  have HA2 : Hid (BoxE encK W3 (w.heap.size + 1) 24 b) := Lib.hid (by
    rw [← hW3]
    have := BoxE.new encK (w.alloc (.cells #[.string a.e, .string a.a, .string a.f, .string a.p, .int .i64 a.m] 24)) b 24
    rw [World.size_alloc] at this
    exact this.kept ((Below.refl _ _).alloc (Nat.le_refl _) _))
  have HA3 : Hid (BoxE encK W3 (w.heap.size + 1 + 1) 24 c) := Lib.hid (by
    rw [← hW3]
    have := BoxE.new encK ((w.alloc (.cells #[.string a.e, .string a.a, .string a.f, .string a.p, .int .i64 a.m] 24)).alloc (.cells #[.string b.e, .string b.a, .string b.f, .string b.p, .int .i64 b.m] 24)) c 24
    rw [World.size_alloc, World.size_alloc] at this
    exact this)
  go_enter Try.func8, Try.ntmps8
  go_wp2_with fail
  refine (alive_any _).mono ?_
  rintro e w4 ⟨rfl, hb4⟩
  have HB4 := Lib.hid (HB.out.trans (hb4.mono HB.out.size))
  have HC1 := Lib.hid (HA1.out.kept hb4)
  have HC2 := Lib.hid (HA2.out.kept hb4)
  have HC3 := Lib.hid (HA3.out.kept hb4)
  obtain ⟨r0, r1, r2, r3, r4⟩ := key5 HC1.out.at0
  obtain ⟨s0, s1, s2, s3, s4⟩ := key5 HC2.out.at0
  obtain ⟨t0, t1, t2, t3, t4⟩ := key5 HC3.out.at0
  simp only [Nat.zero_add] at r0 r1 r2 r3 r4 s0 s1 s2 s3 s4 t0 t1 t2 t3 t4
  clear hb4 hW3 HA1 HA2 HA3 HB3
  go_wp2_with fail
  have hbL := (Below.refl w4.heap.size w4).alloc (Nat.le_refl _) (.cells (flat encF [⟨a, 0⟩, ⟨b, 0⟩, ⟨c, 0⟩]).toArray 28)
  refine (few_any _ _ _ (els_new encF w4 [⟨a, 0⟩, ⟨b, 0⟩, ⟨c, 0⟩] 28 (by simp [maxLen]))).mono ?_
  rintro e w5 ⟨rfl, hb5⟩
  have hb6 := hbL.trans (hb5.mono hbL.size)
  have HB6 := Lib.hid (HB4.out.trans (hb6.mono HB4.out.size))
  have HD1 := Lib.hid (HC1.out.kept hb6)
  have HD2 := Lib.hid (HC2.out.kept hb6)
  have HD3 := Lib.hid (HC3.out.kept hb6)
  clear hbL hb5 hb6 HC1 HC2 HC3 r0 r1 r2 r3 r4 s0 s1 s2 s3 s4 t0 t1 t2 t3 t4
  cases hf : fewL [(⟨a, 0⟩ : Fact), ⟨b, 0⟩, ⟨c, 0⟩] with
  | false =>
    clear hf
    go_wp2
    go_ret
    exact ⟨rfl, HB6.out⟩
  | true =>
    clear hf
    obtain ⟨r0, r1, r2, r3, r4⟩ := key5 HD1.out.at0
    obtain ⟨s0, s1, s2, s3, s4⟩ := key5 HD2.out.at0
    obtain ⟨t0, t1, t2, t3, t4⟩ := key5 HD3.out.at0
    simp only [Nat.zero_add] at r0 r1 r2 r3 r4 s0 s1 s2 s3 s4 t0 t1 t2 t3 t4
    have r0 := fun p : Past w5 => cell_past r0 p
    have r1 := fun p : Past w5 => cell_past r1 p
    have r2 := fun p : Past w5 => cell_past r2 p
    have r3 := fun p : Past w5 => cell_past r3 p
    have r4 := fun p : Past w5 => cell_past r4 p
    have s0 := fun p : Past w5 => cell_past s0 p
    have s1 := fun p : Past w5 => cell_past s1 p
    have s2 := fun p : Past w5 => cell_past s2 p
    have s3 := fun p : Past w5 => cell_past s3 p
    have s4 := fun p : Past w5 => cell_past s4 p
    have t0 := fun p : Past w5 => cell_past t0 p
    have t1 := fun p : Past w5 => cell_past t1 p
    have t2 := fun p : Past w5 => cell_past t2 p
    have t3 := fun p : Past w5 => cell_past t3 p
    have t4 := fun p : Past w5 => cell_past t4 p
    go_wp2_with fail
    refine wp_region_past (by kernel_rfl) (by kernel_rfl) ?_
    repeat (go_big_quiet_step ((go_at_call 17; first | with_reducible exact Calls.past_of (HXY.out _) | with_reducible exact Calls.past_of (HYZ.out _) | with_reducible exact Calls.past_of (HXZ.out _) | fail)))
    refine wpQuiet_nil ?_
    intro _ hw'
    obtain ⟨⟨w7, hb7⟩, rfl⟩ := hw'
    clear r0 r1 r2 r3 r4 s0 s1 s2 s3 s4 t0 t1 t2 t3 t4
    have HB7 := Lib.hid (HB6.out.trans (hb7.mono HB6.out.size))
    have HE1 := Lib.hid (HD1.out.kept hb7)
    have HE2 := Lib.hid (HD2.out.kept hb7)
    obtain ⟨r0, r1, r2, r3, r4⟩ := key5 HE1.out.at0
    obtain ⟨s0, s1, s2, s3, s4⟩ := key5 HE2.out.at0
    simp only [Nat.zero_add] at r0 r1 r2 r3 r4 s0 s1 s2 s3 s4
    clear hb7 HD1 HD2 HD3
    go_wp2_with fail
    refine (HYX.out _).mono ?_
    rintro e w8 ⟨rfl, hb8⟩
    have HB8 := Lib.hid (HB7.out.trans (hb8.mono HB7.out.size))
    have HF1 := Lib.hid (HE1.out.kept hb8)
    have HF2 := Lib.hid (HE2.out.kept hb8)
    clear hb8 r0 r1 r2 r3 r4 s0 s1 s2 s3 s4 HE1 HE2
    obtain ⟨r0, r1, r2, r3, r4⟩ := key5 HF1.out.at0
    obtain ⟨s0, s1, s2, s3, s4⟩ := key5 HF2.out.at0
    simp only [Nat.zero_add] at r0 r1 r2 r3 r4 s0 s1 s2 s3 s4
    have gk := guard_rkey
    have hE := HE.out
    clear HXY HYZ HXZ HYX HE hb
    rcases ht with rfl | ⟨rfl, h1⟩ | ⟨rfl, h1, h2⟩ | ⟨rfl, rfl⟩ | ⟨rfl, rfl, rfl⟩ | ⟨rfl, rfl, rfl⟩
    all_goals
      go_wp2
      go_ret
      exact ⟨rfl, HB8.out⟩
end Go.Proofs.Ytimeebildbmhaaa.Fa
