
/- The walks of fact's asked, Sum and Pick: what fits of a cube, and what it comes to. -/
import Derived.Test.YtimeebildbmhaaaFaOf
import Derived.WalkLawsBesides
namespace Go.Proofs.Ytimeebildbmhaaa.Fa
open Go.RowKit

/-- Is a name what was asked for? -/
def askB (b n : ByteArray) : Bool := decide (b = ⟨#[]⟩ ∨ b = n)
def fitB (e a f : ByteArray) (x : Fact) : Bool := askB e x.key.e && askB a x.key.a && askB f x.key.f
def sumL (c : List Fact) (e a f : ByteArray) : Int × Int := sumFrom 0 ((c.filter (fitB e a f)).map Fact.amt)
def pickB (e : ByteArray) (m : Int) (x : Fact) : Bool := askB e x.key.e && (decide (m < 0) || decide (x.key.m = m))
def pickL (c : List Fact) (e : ByteArray) (m : Int) : List Fact := c.filter (pickB e m)
theorem toList_nil {b : ByteArray} (h : b ≠ ⟨#[]⟩) : b.toList ≠ [] := fun e => h (toList_inj (by rw [e, ByteArray.toList_eq]))
set_option maxHeartbeats 1000000 in
theorem asked_any (b n : ByteArray) (w : World) : Calls Try.prog 40 #[.string b, .string n] w fun e w' => e = .returned (.bool (askB b n)) ∧ w' = w := by
  by_cases h0 : b = ⟨#[]⟩
  · subst h0
    have e : askB ⟨#[]⟩ n = true := by simp [askB]
    rw [e]
    clear e
    go_enter Try.func40, Try.ntmps40
    go_wp2
    go_ret
    exact ⟨rfl, rfl⟩
  · have h1 := toList_nil h0
    have e : askB b n = (b.toList == n.toList) := by
      unfold askB
      rw [Bool.eq_iff_iff, decide_eq_true_eq, beq_iff_eq]
      exact ⟨fun h => h.elim (fun e => absurd e h0) (fun e => by rw [e]), fun h => .inr (toList_inj h)⟩
    rw [e]
    clear e h0
    have h2 : b.toList.isEmpty = false := by simpa using h1
    go_enter Try.func40, Try.ntmps40
    go_wp2
    go_ret
    exact ⟨rfl, rfl⟩
/-- The amounts that fit, of the first i. -/
def fits (c : List Fact) (e a f : ByteArray) (i : Nat) : List Int := ((c.take i).filter (fitB e a f)).map Fact.amt
theorem fits_yes {c : List Fact} {e a f : ByteArray} {i : Nat} {x : Fact} (hx : c[i]? = some x) (h : fitB e a f x = true) : fits c e a f (i + 1) = fits c e a f i ++ [x.amt] := by
  unfold fits
  rw [List.take_add_one, hx]
  simp [h]
theorem fits_no {c : List Fact} {e a f : ByteArray} {i : Nat} {x : Fact} (hx : c[i]? = some x) (h : fitB e a f x = false) : fits c e a f (i + 1) = fits c e a f i := by
  unfold fits
  rw [List.take_add_one, hx]
  simp [h]
theorem fits_length (c : List Fact) (e a f : ByteArray) (i : Nat) : (fits c e a f i).length ≤ i := by
  unfold fits
  rw [List.length_map]
  exact Nat.le_trans (List.length_filter_le _ _) (by rw [List.length_take]; exact Nat.min_le_left _ _)
theorem fits_in64 {c : List Fact} (hz : ∀ x ∈ c, In64 x.amt) (e a f : ByteArray) (i : Nat) : ∀ y ∈ fits c e a f i, In64 y := by
  intro y hy
  unfold fits at hy
  obtain ⟨x, hx, rfl⟩ := List.mem_map.1 hy
  exact hz x (List.mem_of_mem_take (List.mem_filter.1 hx).1)
theorem el_new2 (w : World) (o o' : Obj) (y : Int) (t : TypeId) : ElAt encI (((w.alloc o).alloc o').alloc (.cells #[.int .i64 y] t)) (w.heap.size + 1 + 1) 0 y := by
  have := el_new encI ((w.alloc o).alloc o') y t
  rw [World.size_alloc, World.size_alloc] at this
  exact this
set_option maxRecDepth 100000 in
set_option maxHeartbeats 4000000 in
theorem sumP_any (v : Value) (c : List Fact) (e a f : ByteArray) (w : World) (h : FactsV w v c) (hz : ∀ x ∈ c, In64 x.amt) (hL : c.length ≤ 1000) :
    Calls Try.prog 23 #[v, .string e, .string a, .string f] w fun e' w' => e' = .returned (.tuple #[.int .i64 (sumL c e a f).1, .int .i64 (sumL c e a f).2]) ∧ Below w.heap.size w w' := by
  have HV := Lib.hid h
  obtain ⟨p, cp, rfl, hcap, hm, _, _⟩ := h
  obtain ⟨n, hn⟩ : ∃ n, c.length = n := ⟨_, rfl⟩
  rw [hn] at hcap hL HV ⊢
  have HN := Lib.hid hn
  have HZ := Lib.hid hz
  obtain ⟨S, hS⟩ : ∃ S, sumL c e a f = S := ⟨_, rfl⟩
  rw [hS]
  have HS := Lib.hid hS
  unfold maxLen at hm
  clear hn hz hS
  go_enter Try.func23, Try.ntmps23
  go_wp2
  go_loopw [10, 16] (fun s10 s16 wr => ∃ i : Nat, s16 = .int .i64 (i : Int) ∧ i ≤ n ∧ Hid (wr.ownsRow w.heap.size 2 1 s10 (fits c e a f i).length (flat encI (fits c e a f i))) ∧ Hid (Below w.heap.size w wr)) (fun _ s16 _ => n - (intOf s16).toNat)
  case atStart => exact ⟨0, rfl, Nat.zero_le _, World.ownsRow_nil _ _ _ _, Lib.hid (Below.refl _ _)⟩
  case round =>
    obtain ⟨i, rfl, hin, HO, HB⟩ := hrel
    by_cases hlt : i < n
    · obtain ⟨x, hx⟩ : ∃ x, c[i]? = some x := ⟨_, List.getElem?_eq_getElem (by rw [HN.out]; exact hlt)⟩
      obtain ⟨b, o, rfl, hat⟩ := ElsV.at_ HV.out hx
      obtain ⟨r0, r1, r2, r3, r4, r5⟩ := fact6 (hat.keep HB.out hat.lt)
      simp only [show encF.k = 6 from rfl] at r0 r1 r2 r3 r4 r5
      have HX := Lib.hid hx
      have HB2 : Hid (Below w.heap.size w ((wr.alloc (.cells #[.string x.key.e, .string x.key.a, .string x.key.f, .string x.key.p, .int .i64 x.key.m, .int .i64 x.amt] 60)).alloc (.cells #[.string x.key.e, .string x.key.a, .string x.key.f, .string x.key.p, .int .i64 x.key.m] 40))) := Lib.hid ((HB.out.alloc HB.out.size _).alloc (by have := HB.out.size; simp; omega) _)
      have HO2 := Lib.hid ((HO.out.alloc (.cells #[.string x.key.e, .string x.key.a, .string x.key.f, .string x.key.p, .int .i64 x.key.m, .int .i64 x.amt] 60)).alloc (.cells #[.string x.key.e, .string x.key.a, .string x.key.f, .string x.key.p, .int .i64 x.key.m] 40))
      obtain ⟨b1, hb1⟩ : ∃ b1, askB e x.key.e = b1 := ⟨_, rfl⟩
      obtain ⟨b2, hb2⟩ : ∃ b2, askB a x.key.a = b2 := ⟨_, rfl⟩
      obtain ⟨b3, hb3⟩ : ∃ b3, askB f x.key.f = b3 := ⟨_, rfl⟩
      have HA1 := Lib.hid (fun W => asked_any e x.key.e W)
      have HA2 := Lib.hid (fun W => asked_any a x.key.a W)
      have HA3 := Lib.hid (fun W => asked_any f x.key.f W)
      simp only [hb1] at HA1
      simp only [hb2] at HA2
      simp only [hb3] at HA3
      have HF : Hid (fitB e a f x = (b1 && b2 && b3)) := Lib.hid (by unfold fitB; rw [hb1, hb2, hb3])
      clear hx hat hb1 hb2 hb3
      cases b1 with
      | false =>
        have HFN := Lib.hid (fits_no HX.out HF.out)
        go_wp2_with (first | (go_at_call 40; first | (with_reducible refine (HA1.out _).mono ?_; rintro e' w' ⟨rfl, rfl⟩) | (with_reducible refine (HA2.out _).mono ?_; rintro e' w' ⟨rfl, rfl⟩) | (with_reducible refine (HA3.out _).mono ?_; rintro e' w' ⟨rfl, rfl⟩) | fail) | fail)
        go_roundw
        case rel => exact ⟨i + 1, by go_num, by omega, by rw [HFN.out]; exact HO2, HB2⟩
        case measure => simp [intOf]; omega
      | true =>
        cases b2 with
        | false =>
          have HFN := Lib.hid (fits_no HX.out HF.out)
          go_wp2_with (first | (go_at_call 40; first | (with_reducible refine (HA1.out _).mono ?_; rintro e' w' ⟨rfl, rfl⟩) | (with_reducible refine (HA2.out _).mono ?_; rintro e' w' ⟨rfl, rfl⟩) | (with_reducible refine (HA3.out _).mono ?_; rintro e' w' ⟨rfl, rfl⟩) | fail) | fail)
          go_roundw
          case rel => exact ⟨i + 1, by go_num, by omega, by rw [HFN.out]; exact HO2, HB2⟩
          case measure => simp [intOf]; omega
        | true =>
          cases b3 with
          | false =>
            have HFN := Lib.hid (fits_no HX.out HF.out)
            go_wp2_with (first | (go_at_call 40; first | (with_reducible refine (HA1.out _).mono ?_; rintro e' w' ⟨rfl, rfl⟩) | (with_reducible refine (HA2.out _).mono ?_; rintro e' w' ⟨rfl, rfl⟩) | (with_reducible refine (HA3.out _).mono ?_; rintro e' w' ⟨rfl, rfl⟩) | fail) | fail)
            go_roundw
            case rel => exact ⟨i + 1, by go_num, by omega, by rw [HFN.out]; exact HO2, HB2⟩
            case measure => simp [intOf]; omega
          | true =>
            have HFN := Lib.hid (fits_yes HX.out HF.out)
            have HLI := Lib.hid (fits_length c e a f i)
            go_wp2_with (first | (go_at_call 40; first | (with_reducible refine (HA1.out _).mono ?_; rintro e' w' ⟨rfl, rfl⟩) | (with_reducible refine (HA2.out _).mono ?_; rintro e' w' ⟨rfl, rfl⟩) | (with_reducible refine (HA3.out _).mono ?_; rintro e' w' ⟨rfl, rfl⟩) | fail) | (at_builtin; refine wpList_append_el (E := encI) rfl _ _ 66 2 rfl infoI w.heap.size (fits c e a f i) x.amt (wr.heap.size + 1 + 1) (HO2.out.alloc _) rfl (el_new2 _ _ _ _ _) (by have := HB.out.size; simp; omega) (by have := HLI.out; omega) ?_; intro v9 w9 hr9 hb9 hg9) | fail)
            have HR9 := Lib.hid hr9
            have HB9 : Hid (Below w.heap.size w w9) := Lib.hid ((HB2.out.alloc (by have := HB.out.size; simp; omega) _).trans hb9)
            clear hr9 hb9 hg9
            go_wp2
            go_roundw
            case rel => exact ⟨i + 1, by go_num, by omega, by rw [HFN.out]; exact HR9, HB9⟩
            case measure => simp [intOf]; omega
    · obtain rfl : i = n := by omega
      have hE : sumFrom 0 (fits c e a f i) = S := by
        rw [← HS.out]
        unfold fits sumL
        rw [List.take_of_length_le (by rw [HN.out]; exact Nat.le_refl _)]
      have hv := els_of_own (E := encI) HO.out
      obtain ⟨p9, c9, rfl, _⟩ := id hv
      have HSM := Lib.hid (sum_any p9 _ c9 (fits c e a f i) wr (rowIs_els hv) (fits_in64 HZ.out e a f i))
      rw [hE] at HSM
      clear hv hE HO
      go_wp2_with (go_at_call 31; refine HSM.out.mono ?_; rintro e' w' ⟨rfl, rfl⟩)
      go_ret2
      exact ⟨rfl, HB.out⟩
/-- What is picked of the first i. -/
def picks (c : List Fact) (e : ByteArray) (m : Int) (i : Nat) : List Fact := (c.take i).filter (pickB e m)
theorem picks_yes {c : List Fact} {e : ByteArray} {m : Int} {i : Nat} {x : Fact} (hx : c[i]? = some x) (h : pickB e m x = true) : picks c e m (i + 1) = picks c e m i ++ [x] := by
  unfold picks
  rw [List.take_add_one, hx]
  simp [h]
theorem picks_no {c : List Fact} {e : ByteArray} {m : Int} {i : Nat} {x : Fact} (hx : c[i]? = some x) (h : pickB e m x = false) : picks c e m (i + 1) = picks c e m i := by
  unfold picks
  rw [List.take_add_one, hx]
  simp [h]
theorem picks_length (c : List Fact) (e : ByteArray) (m : Int) (i : Nat) : (picks c e m i).length ≤ i := by
  unfold picks
  exact Nat.le_trans (List.length_filter_le _ _) (by rw [List.length_take]; exact Nat.min_le_left _ _)
theorem el_new1 (w : World) (o : Obj) (y : Fact) (t : TypeId) : ElAt encF ((w.alloc o).alloc (.cells (encF.cs y).toArray t)) (w.heap.size + 1) 0 y := by
  have := el_new encF (w.alloc o) y t
  rw [World.size_alloc] at this
  exact this
set_option maxRecDepth 100000 in
set_option maxHeartbeats 4000000 in
theorem pick_any (v : Value) (c : List Fact) (e : ByteArray) (m : Int) (w : World) (h : FactsV w v c) (hL : c.length ≤ 1000) :
    Calls Try.prog 27 #[v, .string e, .int .i64 m] w fun e' w' => ∃ u, e' = .returned u ∧ w'.ownsRow w.heap.size 60 6 u (pickL c e m).length (flat encF (pickL c e m)) ∧ Below w.heap.size w w' := by
  have HV := Lib.hid h
  obtain ⟨p, cp, rfl, hcap, hm, _, _⟩ := h
  obtain ⟨n, hn⟩ : ∃ n, c.length = n := ⟨_, rfl⟩
  rw [hn] at hcap hL HV ⊢
  have HN := Lib.hid hn
  obtain ⟨S, hS⟩ : ∃ S, pickL c e m = S := ⟨_, rfl⟩
  rw [hS]
  have HS := Lib.hid hS
  obtain ⟨ev, hev⟩ : ∃ ev, decide (m < 0) = ev := ⟨_, rfl⟩
  have HEV := Lib.hid hev
  unfold maxLen at hm
  clear hn hS
  go_enter Try.func27, Try.ntmps27
  go_wp2
  go_loopw [8, 15] (fun s8 s15 wr => ∃ i : Nat, s15 = .int .i64 (i : Int) ∧ i ≤ n ∧ Hid (wr.ownsRow w.heap.size 60 6 s8 (picks c e m i).length (flat encF (picks c e m i))) ∧ Hid (Below w.heap.size w wr)) (fun _ s15 _ => n - (intOf s15).toNat)
  case atStart => exact ⟨0, rfl, Nat.zero_le _, World.ownsRow_nil _ _ _ _, Lib.hid (Below.refl _ _)⟩
  case round =>
    obtain ⟨i, rfl, hin, HO, HB⟩ := hrel
    by_cases hlt : i < n
    · obtain ⟨x, hx⟩ : ∃ x, c[i]? = some x := ⟨_, List.getElem?_eq_getElem (by rw [HN.out]; exact hlt)⟩
      obtain ⟨b, o, rfl, hat⟩ := ElsV.at_ HV.out hx
      obtain ⟨r0, r1, r2, r3, r4, r5⟩ := fact6 (hat.keep HB.out hat.lt)
      simp only [show encF.k = 6 from rfl] at r0 r1 r2 r3 r4 r5
      have HX := Lib.hid hx
      have HB2 : Hid (Below w.heap.size w (wr.alloc (.cells #[.string x.key.e, .string x.key.a, .string x.key.f, .string x.key.p, .int .i64 x.key.m, .int .i64 x.amt] 60))) := Lib.hid (HB.out.alloc HB.out.size _)
      have HO2 := Lib.hid (HO.out.alloc (.cells #[.string x.key.e, .string x.key.a, .string x.key.f, .string x.key.p, .int .i64 x.key.m, .int .i64 x.amt] 60))
      obtain ⟨b1, hb1⟩ : ∃ b1, askB e x.key.e = b1 := ⟨_, rfl⟩
      have HA1 := Lib.hid (fun W => asked_any e x.key.e W)
      simp only [hb1] at HA1
      have HF : Hid (pickB e m x = (b1 && (ev || decide (x.key.m = m)))) := Lib.hid (by unfold pickB; rw [hb1, HEV.out])
      clear hx hat hb1
      cases b1 with
      | false =>
        have HFN := Lib.hid (picks_no HX.out HF.out)
        go_wp2_with (go_at_call 40; with_reducible refine (HA1.out _).mono ?_; rintro e' w' ⟨rfl, rfl⟩)
        go_roundw
        case rel => exact ⟨i + 1, by go_num, by omega, by rw [HFN.out]; exact HO2, HB2⟩
        case measure => simp [intOf]; omega
      | true =>
        cases ev with
        | true =>
          have HFN := Lib.hid (picks_yes HX.out HF.out)
          have HLI := Lib.hid (picks_length c e m i)
          go_wp2_with (first | (go_at_call 40; with_reducible refine (HA1.out _).mono ?_; rintro e' w' ⟨rfl, rfl⟩) | (at_builtin; refine wpList_append_el (E := encF) rfl _ _ 30 60 rfl infoF w.heap.size (picks c e m i) x (wr.heap.size + 1) (HO2.out.alloc _) rfl (el_new1 _ _ _ _) (by have := HB.out.size; simp; omega) (by have := HLI.out; omega) ?_; intro v9 w9 hr9 hb9 hg9) | fail)
          have HR9 := Lib.hid hr9
          have HB9 : Hid (Below w.heap.size w w9) := Lib.hid ((HB2.out.alloc (by have := HB.out.size; simp; omega) _).trans hb9)
          clear hr9 hb9 hg9
          go_wp2
          go_roundw
          case rel => exact ⟨i + 1, by go_num, by omega, by rw [HFN.out]; exact HR9, HB9⟩
          case measure => simp [intOf]; omega
        | false =>
          by_cases hmm : x.key.m = m
          · have HF : Hid (pickB e m x = true) := Lib.hid (by rw [HF.out, decide_eq_true hmm]; rfl)
            have hb : (x.key.m == m) = true := by rw [beq_iff_eq]; exact hmm
            clear hmm
            have HFN := Lib.hid (picks_yes HX.out HF.out)
            have HLI := Lib.hid (picks_length c e m i)
            go_wp2_with (first | (go_at_call 40; with_reducible refine (HA1.out _).mono ?_; rintro e' w' ⟨rfl, rfl⟩) | (at_builtin; refine wpList_append_el (E := encF) rfl _ _ 30 60 rfl infoF w.heap.size (picks c e m i) x (wr.heap.size + 1) (HO2.out.alloc _) rfl (el_new1 _ _ _ _) (by have := HB.out.size; simp; omega) (by have := HLI.out; omega) ?_; intro v9 w9 hr9 hb9 hg9) | fail)
            have HR9 := Lib.hid hr9
            have HB9 : Hid (Below w.heap.size w w9) := Lib.hid ((HB2.out.alloc (by have := HB.out.size; simp; omega) _).trans hb9)
            clear hr9 hb9 hg9
            go_wp2
            go_roundw
            case rel => exact ⟨i + 1, by go_num, by omega, by rw [HFN.out]; exact HR9, HB9⟩
            case measure => simp [intOf]; omega
          · have HF : Hid (pickB e m x = false) := Lib.hid (by rw [HF.out, decide_eq_false hmm]; rfl)
            have hb : (x.key.m == m) = false := by rw [beq_eq_false_iff_ne]; exact hmm
            clear hmm
            have HFN := Lib.hid (picks_no HX.out HF.out)
            go_wp2_with (go_at_call 40; with_reducible refine (HA1.out _).mono ?_; rintro e' w' ⟨rfl, rfl⟩)
            go_roundw
            case rel => exact ⟨i + 1, by go_num, by omega, by rw [HFN.out]; exact HO2, HB2⟩
            case measure => simp [intOf]; omega
    · obtain rfl : i = n := by omega
      have hE : picks c e m i = S := by
        rw [← HS.out]
        unfold picks pickL
        rw [List.take_of_length_le (by rw [HN.out]; exact Nat.le_refl _)]
      have HO3 := HO.out
      rw [hE] at HO3
      have HO4 := Lib.hid HO3
      clear HO3 hE HO
      go_wp2
      go_ret
      exact ⟨_, rfl, HO4.out, HB.out⟩
end Go.Proofs.Ytimeebildbmhaaa.Fa
