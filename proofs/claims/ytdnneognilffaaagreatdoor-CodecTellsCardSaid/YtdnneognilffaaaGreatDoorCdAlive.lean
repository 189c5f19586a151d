
/- The statements' own look at answers that the document fixes: it comes out true. -/
import Derived.Test.YtdnneognilffaaaGreatDoorCdParse
import Derived.Test.YtdnneognilffaaaGreatDoorFaEql
namespace Go.Proofs.YtdnneognilffaaaGreatDoor.Cd
open Go.Proofs.YtdnneognilffaaaGreatDoor.Fa Go.RowKit

theorem in_pkey (a b : Key) (w : World) : Sem.run Tryz.prog (Op.equalIn 9999 41 (aggK a) (aggK b)) w = .ok (eqK a b) w := by
  have hS : Tryz.prog.underlying 41 = some (.struct (Tryz.prog.fieldsOf 41)) := by kernel_rfl
  have hp : Tryz.prog.stoodInHeld 41 = false := by kernel_rfl
  rw [show (9999 : Nat) = 9998 + 1 from rfl, run_equalIn_agg w 9998 41 _ _ hS hp, ← eqKs_eq]
  simp only [Program.fieldsOf, Tryz.underlying41]
  go_simp
  unfold eqKs
  by_cases h0 : a.e.toList = b.e.toList
  · by_cases h1 : a.a.toList = b.a.toList
    · by_cases h2 : a.f.toList = b.f.toList
      · by_cases h3 : a.p.toList = b.p.toList
        · by_cases h4 : a.m = b.m <;> simp [h0, h1, h2, h3, h4]
        · simp [h0, h1, h2, h3]
      · simp [h0, h1, h2]
    · simp [h0, h1]
  · simp [h0]
theorem eql_fact (a b : Fact) (w : World) : Sem.run Tryz.prog (binOp .eql 43 (aggF a) (aggF b)) w = .ok (.bool (eqF a b)) w := by
  have hS : Tryz.prog.underlying 43 = some (.struct (Tryz.prog.fieldsOf 43)) := by kernel_rfl
  have hp : Tryz.prog.stoodInHeld 43 = false := by kernel_rfl
  have hn := in_pkey a.key b.key w
  have hi : Sem.run Tryz.prog (Op.equalIn 9999 2 (.int .i64 a.amt) (.int .i64 b.amt)) w = .ok (a.amt == b.amt) w := run_equalIn_int w 9998 2 .i64 .i64 _ _ Tryz.underlying2
  rw [run_eql_struct, show (10000 : Nat) = 9999 + 1 from rfl, run_equalIn_agg w 9999 43 _ _ hS hp, eqF_eq]
  clear hS hp
  simp only [Program.fieldsOf, Tryz.underlying43]
  have pk : ∀ x : Fact, Sem.run Tryz.prog (part 41 #[.string x.key.e, .string x.key.a, .string x.key.f, .string x.key.p, .int .i64 x.key.m, .int .i64 x.amt] 0) w = .ok (aggK x.key) w := fun x => by go_simp
  have pi : ∀ x : Fact, Sem.run Tryz.prog (part 2 #[.string x.key.e, .string x.key.a, .string x.key.f, .string x.key.p, .int .i64 x.key.m, .int .i64 x.amt] 5) w = .ok (.int .i64 x.amt) w := fun x => by go_simp
  have e1 : ¬ ("Key" = "_") := by decide
  have e2 : ¬ ("Amount" = "_") := by decide
  simp only [Op.eqFields, ne_eq, e1, e2, not_false_eq_true, if_true, Sem.run_bind, pk, hn, Result.andThen]
  generalize (a.amt == b.amt) = r at hi ⊢
  cases eqK a.key b.key <;> cases r <;> simp [Sem.run_bind, pi, hi, Result.andThen]
theorem guard_fact : Tryz.prog.eqGuardType Tryz.prog.depth 43 = false := by kernel_rfl
def kA : Key := ⟨⟨#[69]⟩, ⟨#[97]⟩, ⟨#[102]⟩, ⟨#[]⟩, 0⟩
def cA : List Fact := [⟨kA, -5⟩]
def tA : List UInt8 := [99, 117, 98, 101, 32, 49, 10, 69, 32, 97, 32, 102, 32, 45, 32, 48, 32, 45, 53, 10]
def t0 : List UInt8 := [99, 117, 98, 101, 32, 48, 10]
def t1 : List UInt8 := [99, 117, 98, 101, 32, 49, 10]
theorem lives1 : okC cA = true := by kernel_rfl
theorem lives2 : textL cA = tA := by kernel_rfl
theorem lives3 : okC [] = true := by kernel_rfl
theorem lives4 : textL [] = t0 := by kernel_rfl
theorem lives5 : readP t1 = some [] := by kernel_rfl
theorem lives6 : In64s cA := by
  intro f hf
  simp only [cA, List.mem_singleton] at hf
  subst hf
  exact ⟨⟨by decide, by decide⟩, ⟨by decide, by decide⟩⟩
theorem lives7 : parseP tA = some cA := by rw [← lives2]; exact parseP_text lives1 lives6.fit
theorem lives8 : parseP t1 = none := parse_miss lives5 (fun h => by rw [lives4] at h; exact absurd h.2 (by decide))
theorem lit_eq {s : ByteArray} {l : List UInt8} (h : s = mkB l) : (s.toList == l) = true := by
  subst h
  rw [ByteArray.toList_eq, mkB_data, beq_self_eq_true]
set_option maxRecDepth 100000 in
set_option maxHeartbeats 8000000 in
theorem alive_any (w : World) (hl : Laid w) : Calls Tryz.prog 4 #[] w fun e w' => e = .returned (.bool true) ∧ Below w.heap.size w w' := by
  have HL := Lib.hid hl
  have HB1 := Lib.hid ((Below.refl w.heap.size w).alloc (Nat.le_refl _) (.cells (flat encF cA).toArray 43))
  have HV1 := Lib.hid (els_new encF w cA 43 (by decide))
  clear hl
  go_enter Tryz.func4, Tryz.ntmps4
  go_wp2_with fail
  have hP := cprint_any _ cA _ HV1.out (by decide) lives6 (HL.out.below HB1.out)
  rw [prS_yes lives1, prE_yes lives1, lives2] at hP
  refine hP.mono ?_
  rintro e w2 ⟨rfl, hb2⟩
  have HB2 := Lib.hid (HB1.out.trans (hb2.mono HB1.out.size))
  have HV2 := Lib.hid (HV1.out.keep hb2)
  clear hP hb2
  obtain ⟨S, hS⟩ : ∃ S, mkB tA = S := ⟨_, rfl⟩
  rw [hS]
  have q1 : (S.toList == [99, 117, 98, 101, 32, 49, 10, 69, 32, 97, 32, 102, 32, 45, 32, 48, 32, 45, 53, 10]) = true := lit_eq hS.symm
  have HSA := Lib.hid (show S.data.toList = tA by rw [← hS, mkB_data])
  have HSZ : Hid (S.size ≤ 100000) := Lib.hid (by rw [← size_list, HSA.out]; decide)
  clear hS
  go_wp2_with fail
  have hP := cparse_any S _ HSZ.out (HL.out.below HB2.out)
  rw [HSA.out, (parsC_some lives7).1, (parsC_some lives7).2] at hP
  refine hP.mono ?_
  rintro e w3 ⟨v3, rfl, hv3, hb3⟩
  have HB3 := Lib.hid (HB2.out.trans (hb3.mono HB2.out.size))
  have HV3 := Lib.hid (HV2.out.keep hb3)
  have HD3 := Lib.hid hv3
  clear hP hb3 hv3 HV2 HB2 HV1 HB1
  go_wp2_with fail
  have hP := cparse_any (mkB t1) w3 (by decide) (HL.out.below HB3.out)
  rw [mkB_data, (parsC_none lives8).1, (parsC_none lives8).2] at hP
  refine hP.mono ?_
  rintro e w4 ⟨v4, rfl, _, hb4⟩
  have HB4 := Lib.hid (HB3.out.trans (hb4.mono HB3.out.size))
  have HV4 := Lib.hid (HV3.out.keep hb4)
  have HD4 := Lib.hid (HD3.out.keep hb4)
  clear hP hb4 HV3 HD3 HB3
  go_wp2_with fail
  have hP := cprint_any _ [] w4 (ElsV.nil w4) (by decide) (fun f hf => absurd hf (List.not_mem_nil)) (HL.out.below HB4.out)
  rw [prS_yes lives3, prE_yes lives3, lives4] at hP
  refine hP.mono ?_
  rintro e w5 ⟨rfl, hb5⟩
  have HB5 := Lib.hid (HB4.out.trans (hb5.mono HB4.out.size))
  have HV5 := Lib.hid (HV4.out.keep hb5)
  have HD5 := Lib.hid (HD4.out.keep hb5)
  clear hP hb5 HV4 HD4 HB4
  obtain ⟨N, hN⟩ : ∃ N, mkB t0 = N := ⟨_, rfl⟩
  rw [hN]
  have q2 : (N.toList == [99, 117, 98, 101, 32, 48, 10]) = true := lit_eq hN.symm
  clear hN
  obtain ⟨p3, c3, rfl, _⟩ := id HD5.out
  obtain ⟨b, o, rfl, hat⟩ := ElsV.at_ (i := 0) (x := ⟨kA, -5⟩) HD5.out rfl
  obtain ⟨b', o', e', hat'⟩ := ElsV.at_ (i := 0) (x := ⟨kA, -5⟩) HV5.out rfl
  rw [show cA.length = 1 from rfl]
  obtain ⟨x, hx⟩ : ∃ x, (⟨kA, -5⟩ : Fact) = x := ⟨_, rfl⟩
  rw [hx] at hat hat'
  clear hx
  obtain ⟨r0, r1, r2, r3, r4, r5⟩ := fact6 hat
  obtain ⟨s0, s1, s2, s3, s4, s5⟩ := fact6 hat'
  simp only [Nat.zero_mul, Nat.add_zero] at r0 r1 r2 r3 r4 r5 s0 s1 s2 s3 s4 s5
  have u0 := fun p : Past w5 => cell_past r0 p
  have k0 := fun p : Past w5 => cell_past s0 p
  have u1 := fun p : Past w5 => cell_past r1 p
  have k1 := fun p : Past w5 => cell_past s1 p
  have u2 := fun p : Past w5 => cell_past r2 p
  have k2 := fun p : Past w5 => cell_past s2 p
  have u3 := fun p : Past w5 => cell_past r3 p
  have k3 := fun p : Past w5 => cell_past s3 p
  have u4 := fun p : Past w5 => cell_past r4 p
  have k4 := fun p : Past w5 => cell_past s4 p
  have u5 := fun p : Past w5 => cell_past r5 p
  have k5 := fun p : Past w5 => cell_past s5 p
  have hq := eql_fact x x
  rw [show eqF x x = true from decide_eq_true rfl] at hq
  have gq := guard_fact
  clear r0 r1 r2 r3 r4 r5 s0 s1 s2 s3 s4 s5 hat hat'
  go_wp2_with fail
  refine wp_region_past (by kernel_rfl) (by kernel_rfl) ?_
  repeat (go_big_quiet_step (fail))
  refine wpQuiet_nil ?_
  intro _ hw'
  obtain ⟨⟨w6, hb6⟩, rfl⟩ := hw'
  clear u0 u1 u2 u3 u4 u5 k0 k1 k2 k3 k4 k5 hq gq
  go_wp2
  go_ret
  exact ⟨rfl, HB5.out.trans (hb6.mono HB5.out.size)⟩
end Go.Proofs.YtdnneognilffaaaGreatDoor.Cd
