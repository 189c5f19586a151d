
/- The walk of fact.Right: whether facts are a cube, and no more than there may be. -/
import Derived.Test.YtdnneognilffaaaGreatDoorFaGet
namespace Go.Proofs.YtdnneognilffaaaGreatDoor.Fa
open Go.RowKit

/-- A cube, and no more facts than there may be. -/
def RightP (c : List Fact) : Prop := c.length ≤ 2000 ∧ (∀ f ∈ c, f.amt ≠ 0) ∧ RiseF c
instance (c : List Fact) : Decidable (RightP c) := by unfold RightP RiseF; infer_instance
def rightL (c : List Fact) : Bool := decide (RightP c)
/-- So far it is one. -/
def OkTo (c : List Fact) (i : Nat) : Prop := ∀ (j : Nat) (x : Fact), j < i → c[j]? = some x → x.amt ≠ 0 ∧ ∀ y, 0 < j → c[j - 1]? = some y → ltK y.key x.key
theorem pairs_of_next {c : List Fact} (h : ∀ (j : Nat) (x y : Fact), c[j]? = some x → c[j + 1]? = some y → ltK x.key y.key) : RiseF c := by
  induction c with
  | nil => exact List.Pairwise.nil
  | cons a c ih =>
    have ht := ih fun j x y hx hy => h (j + 1) x y (by simpa using hx) (by simpa using hy)
    refine List.pairwise_cons.2 ⟨fun z hz => ?_, ht⟩
    cases c with
    | nil => cases hz
    | cons b c =>
      have hab := h 0 a b rfl rfl
      rcases List.mem_cons.1 hz with rfl | hz
      · exact hab
      · exact ltK_trans hab ((List.pairwise_cons.1 ht).1 z hz)
theorem right_yes {c : List Fact} {n : Nat} (hn : c.length = n) (h2 : n ≤ 2000) (h : OkTo c n) : rightL c = true := by
  refine decide_eq_true ⟨by omega, fun f hf => ?_, pairs_of_next fun j x y hx hy => ?_⟩
  · obtain ⟨j, hj, rfl⟩ := List.getElem_of_mem hf
    exact (h j _ (by omega) (List.getElem?_eq_getElem hj)).1
  · have hj := (List.getElem?_eq_some_iff.1 hy).1
    exact (h (j + 1) y (by omega) hy).2 x (Nat.succ_pos _) hx
theorem right_no0 {c : List Fact} {i : Nat} {x : Fact} (hx : c[i]? = some x) (h : x.amt = 0) : rightL c = false :=
  decide_eq_false fun hr => hr.2.1 x (List.mem_of_getElem? hx) h
theorem right_no1 {c : List Fact} {i : Nat} {x y : Fact} (hi : 0 < i) (hx : c[i]? = some x) (hy : c[i - 1]? = some y) (h : ¬ ltK y.key x.key) : rightL c = false :=
  decide_eq_false fun hr => h (riseF_at hr.2.2 (by omega) hy hx)
theorem okTo_next {c : List Fact} {i : Nat} {x : Fact} (h : OkTo c i) (hx : c[i]? = some x) (h0 : x.amt ≠ 0) (h1 : ∀ y, 0 < i → c[i - 1]? = some y → ltK y.key x.key) : OkTo c (i + 1) := by
  intro j z hj hz
  rcases Nat.lt_or_ge j i with hl | hl
  · exact h j z hl hz
  · obtain rfl : j = i := by omega
    rw [hx] at hz; cases hz
    exact ⟨h0, h1⟩
set_option maxRecDepth 100000 in
set_option maxHeartbeats 8000000 in
theorem right_any (v : Value) (c : List Fact) (w : World) (h : FactsV w v c) (hL : c.length ≤ 100000) :
    Calls Tryz.prog 24 #[v] w fun e w' => e = .returned (.bool (rightL c)) ∧ Below w.heap.size w w' := by
  have HV := Lib.hid h
  obtain ⟨p, cp, rfl, hcap, hm, _, _⟩ := h
  obtain ⟨n, hn⟩ : ∃ n, c.length = n := ⟨_, rfl⟩
  rw [hn] at hcap hL HV ⊢
  have HN := Lib.hid hn
  obtain ⟨S, hS⟩ : ∃ S, rightL c = S := ⟨_, rfl⟩
  rw [hS]
  have HS := Lib.hid hS
  unfold maxLen at hm
  clear hn hS
  by_cases hbig : 2000 < n
  · have h2 : (2000 : Int) < (n : Int) := by omega
    obtain rfl : S = false := by rw [← HS.out]; exact decide_eq_false fun hr => by have := hr.1; have := HN.out; omega
    go_enter Tryz.func24, Tryz.ntmps24
    go_wp2
    go_ret
    exact ⟨rfl, Below.refl _ _⟩
  have h2 : ¬ (2000 : Int) < (n : Int) := by omega
  go_enter Tryz.func24, Tryz.ntmps24
  go_wp2
  go_loopw [10] (fun s10 wr => ∃ i : Nat, s10 = .int .i64 (i : Int) ∧ i ≤ n ∧ Hid (OkTo c i) ∧ Hid (Below w.heap.size w wr)) (fun s10 _ => n - (intOf s10).toNat)
  case atStart => exact ⟨0, rfl, Nat.zero_le _, Lib.hid (fun j x hj => absurd hj (Nat.not_lt_zero _)), Lib.hid (Below.refl _ _)⟩
  case round =>
    obtain ⟨i, rfl, hin, HO, HB⟩ := hrel
    by_cases hlt : i < n
    · obtain ⟨x, hx⟩ : ∃ x, c[i]? = some x := ⟨_, List.getElem?_eq_getElem (by rw [HN.out]; exact hlt)⟩
      obtain ⟨b, o, rfl, hat⟩ := ElsV.at_ HV.out hx
      have hatw := hat.keep HB.out hat.lt
      obtain ⟨r0, r1, r2, r3, r4, r5⟩ := fact6 hatw
      simp only [show encF.k = 6 from rfl] at r0 r1 r2 r3 r4 r5
      have HX := Lib.hid hx
      obtain ⟨W1, hW1⟩ : ∃ W1, wr.alloc (.cells #[.string x.key.e, .string x.key.a, .string x.key.f, .string x.key.p, .int .i64 x.key.m, .int .i64 x.amt] 43) = W1 := ⟨_, rfl⟩
      have HB1 : Hid (Below w.heap.size w W1) := Lib.hid (by rw [← hW1]; exact HB.out.alloc HB.out.size _)
      have HBX : Hid (BoxE encF W1 wr.heap.size 43 x) := Lib.hid (by rw [← hW1]; exact BoxE.new encF wr x 43)
      obtain ⟨d0, d1, d2, d3, d4, d5⟩ := fact6 HBX.out.at0
      simp only [Nat.zero_add] at d0 d1 d2 d3 d4 d5
      have u0 := fun p : Past W1 => cell_past d0 p
      have u1 := fun p : Past W1 => cell_past d1 p
      have u2 := fun p : Past W1 => cell_past d2 p
      have u3 := fun p : Past W1 => cell_past d3 p
      have u4 := fun p : Past W1 => cell_past d4 p
      have u5 := fun p : Past W1 => cell_past d5 p
      clear hx hat d0 d1 d2 d3 d4 d5
      by_cases h0 : x.amt = 0
      · have hSf : S = false := by rw [← HS.out, right_no0 HX.out h0]
        subst hSf
        have hz : (x.amt == 0) = true := by rw [beq_iff_eq]; exact h0
        clear h0
        go_wp2_with fail
        refine wp_region_past (by kernel_rfl) (by kernel_rfl) ?_
        repeat (go_big_quiet_step (fail))
        refine wpQuiet_nil ?_
        intro _ hw'
        obtain ⟨⟨w3, hb3⟩, rfl⟩ := hw'
        clear u0 u1 u2 u3 u4 u5
        go_wp2
        go_ret
        exact ⟨rfl, HB1.out.trans (hb3.mono HB1.out.size)⟩
      · have hz : (x.amt == 0) = false := by rw [beq_eq_false_iff_ne]; exact h0
        by_cases hi0 : i = 0
        · subst hi0
          have HO1 := Lib.hid (okTo_next HO.out HX.out h0 (fun y h => absurd h (Nat.lt_irrefl 0)))
          clear h0
          simp only [Nat.zero_mul, Nat.add_zero] at r0 r1 r2 r3 r4 r5
          go_wp2_with fail
          refine wp_region_past (by kernel_rfl) (by kernel_rfl) ?_
          repeat (go_big_quiet_step (fail))
          refine wpQuiet_nil ?_
          intro _ hw'
          obtain ⟨⟨w3, hb3⟩, rfl⟩ := hw'
          clear u0 u1 u2 u3 u4 u5
          go_wp2
          go_roundw
          case rel => exact ⟨0 + 1, by go_num, by omega, HO1, Lib.hid (HB1.out.trans (hb3.mono HB1.out.size))⟩
          case measure => simp [intOf]; omega
        · obtain ⟨k, rfl⟩ : ∃ k, i = k + 1 := ⟨i - 1, by omega⟩
          obtain ⟨y, hy⟩ : ∃ y, c[k]? = some y := ⟨_, List.getElem?_eq_getElem (by rw [HN.out]; omega)⟩
          obtain ⟨b', o', e, hat⟩ := ElsV.at_ HV.out hy
          cases e
          obtain ⟨s0, s1, s2, s3, s4, s5⟩ := fact6 (hat.keep HB1.out hat.lt)
          simp only [show encF.k = 6 from rfl] at s0 s1 s2 s3 s4 s5
          have q0 := fun p : Past W1 => cell_past s0 p
          have q1 := fun p : Past W1 => cell_past s1 p
          have q2 := fun p : Past W1 => cell_past s2 p
          have q3 := fun p : Past W1 => cell_past s3 p
          have q4 := fun p : Past W1 => cell_past s4 p
          have q5 := fun p : Past W1 => cell_past s5 p
          have HY := Lib.hid hy
          obtain ⟨m, hmm⟩ : ∃ m, cmpK y.key x.key = m := ⟨_, rfl⟩
          have HAG := Lib.hid (fun W => (against_any y x.key W).mono fun _ _ ⟨h1, h2⟩ => And.intro h1 h2.below)
          have HM : Hid (ltK y.key x.key ↔ m < 0) := Lib.hid (by unfold ltK; rw [hmm])
          simp only [hmm] at HAG
          have hwm : IntKind.i64.wrap (k : Int) = (k : Int) := by rw [IntKind.wrap_i64]; omega
          have hpos : decide ((0 : Int) < (k : Int) + 1) = true := decide_eq_true (by omega)
          have hH0 := Lib.hid h0
          clear hmm hy hat s0 s1 s2 s3 s4 s5 h0 hi0
          by_cases hm0 : m < 0
          · have HO1 := Lib.hid (okTo_next HO.out HX.out hH0.out (fun z _ hz => by
              rw [Nat.add_sub_cancel, HY.out] at hz
              cases hz
              exact HM.out.2 hm0))
            have hd : decide (0 ≤ m) = false := decide_eq_false (by omega)
            have hd2 : decide (m < 0) = true := decide_eq_true hm0
            go_wp2_with fail
            refine wp_region_past (by kernel_rfl) (by kernel_rfl) ?_
            repeat (go_big_quiet_step ((go_at_call 37; exact Calls.past_of (HAG.out _))))
            refine wpQuiet_nil ?_
            intro _ hw'
            obtain ⟨⟨w3, hb3⟩, rfl⟩ := hw'
            clear q0 u0 q1 u1 q2 u2 q3 u3 q4 u4 q5 u5
            go_wp2
            go_roundw
            case rel => exact ⟨k + 1 + 1, by go_num, by omega, HO1, Lib.hid (HB1.out.trans (hb3.mono HB1.out.size))⟩
            case measure => simp [intOf]; omega
          · have hSf : S = false := by rw [← HS.out, right_no1 (Nat.succ_pos k) HX.out (by exact HY.out) (fun h => hm0 (HM.out.1 h))]
            subst hSf
            have hd : decide (0 ≤ m) = true := decide_eq_true (by omega)
            have hd2 : decide (m < 0) = false := decide_eq_false hm0
            go_wp2_with fail
            refine wp_region_past (by kernel_rfl) (by kernel_rfl) ?_
            repeat (go_big_quiet_step ((go_at_call 37; exact Calls.past_of (HAG.out _))))
            refine wpQuiet_nil ?_
            intro _ hw'
            obtain ⟨⟨w3, hb3⟩, rfl⟩ := hw'
            clear q0 u0 q1 u1 q2 u2 q3 u3 q4 u4 q5 u5
            go_wp2
            go_ret
            exact ⟨rfl, HB1.out.trans (hb3.mono HB1.out.size)⟩
    · obtain rfl : i = n := by omega
      have hSt : S = true := by rw [← HS.out, right_yes HN.out (by omega) HO.out]
      subst hSt
      go_wp2
      go_ret
      exact ⟨rfl, HB.out⟩
end Go.Proofs.YtdnneognilffaaaGreatDoor.Fa
