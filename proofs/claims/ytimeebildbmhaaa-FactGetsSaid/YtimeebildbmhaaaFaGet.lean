
/- The walks of Go's binary search among facts by rising keys, and of fact.Get: the amount of a key. What was there stays. -/
import Derived.Test.YtimeebildbmhaaaFaCmp
import Derived.Test.YtimeebildbmhaaaFaEql
import Derived.Test.YtimeebildbmhaaaSegs
namespace Go.Proofs.Ytimeebildbmhaaa.Fa
open Go.RowKit

/-- The amount of a key; 0, if there is none. -/
def getL (c : List Fact) (k : Key) : Int := match c.find? fun f => decide (f.key = k) with
  | some f => f.amt
  | none => 0
/-- Facts by rising keys. -/
def RiseF (c : List Fact) : Prop := c.Pairwise fun x y => ltK x.key y.key
theorem riseF_at {c : List Fact} (h : RiseF c) {i j : Nat} {x y : Fact} (hij : i < j) (hx : c[i]? = some x) (hy : c[j]? = some y) : ltK x.key y.key := by
  have h1 := (List.getElem?_eq_some_iff.1 hx)
  have h2 := (List.getElem?_eq_some_iff.1 hy)
  have := (List.pairwise_iff_getElem.1 h) i j h1.1 h2.1 hij
  rwa [h1.2, h2.2] at this
theorem riseF_uniq {c : List Fact} (h : RiseF c) {x y : Fact} (hx : x ∈ c) (hy : y ∈ c) (e : x.key = y.key) : x = y := by
  obtain ⟨i, hi, rfl⟩ := List.getElem_of_mem hx
  obtain ⟨j, hj, rfl⟩ := List.getElem_of_mem hy
  rcases Nat.lt_trichotomy i j with h1 | h1 | h1
  · exact absurd e (ltK_ne (List.pairwise_iff_getElem.1 h i j hi hj h1))
  · subst h1; rfl
  · exact absurd e.symm (ltK_ne (List.pairwise_iff_getElem.1 h j i hj hi h1))
theorem getL_mem {c : List Fact} (h : RiseF c) {x : Fact} (hx : x ∈ c) : getL c x.key = x.amt := by
  unfold getL
  cases hf : c.find? fun f => decide (f.key = x.key) with
  | none => exact absurd (List.find?_eq_none.1 hf x hx) (by simp)
  | some y =>
    have h1 := List.mem_of_find?_eq_some hf
    have h2 : y.key = x.key := by have := List.find?_some hf; simpa using this
    rw [riseF_uniq h h1 hx h2]
theorem getL_no {c : List Fact} {k : Key} (h : ∀ x ∈ c, x.key ≠ k) : getL c k = 0 := by
  unfold getL
  rw [List.find?_eq_none.2 fun x hx => by simpa using h x hx]
/-- What the round of the search holds. -/
structure SearchAt (w wr : World) (L : List Fact) (c : Key) (lo hi : Nat) : Prop where
  le : lo ≤ hi
  top : hi ≤ L.length
  bel : Below (w.heap.size + 1) (w.alloc (.cells (encK.cs c).toArray 40)) wr
  low : ∀ (t : Nat) (x : Fact), t < lo → L[t]? = some x → ltK x.key c
  high : ∀ (t : Nat) (x : Fact), hi ≤ t → L[t]? = some x → ¬ ltK x.key c
/-- Where the search comes to. -/
def FoundAt (L : List Fact) (c : Key) (at_ : Nat) (is : Bool) : Prop := (is = true → ∃ x, L[at_]? = some x ∧ x.key = c) ∧ (is = false → ∀ x ∈ L, x.key ≠ c)
theorem found_end {L : List Fact} {c : Key} {hi : Nat} (low : ∀ (t : Nat) (x : Fact), t < hi → L[t]? = some x → ltK x.key c) (h : hi = L.length) : FoundAt L c hi false := by
  unfold FoundAt
  refine ⟨(fun e => by cases e), fun _ x hx e => ?_⟩
  obtain ⟨i, hi', rfl⟩ := List.getElem_of_mem hx
  exact ltK_ne (low i _ (by omega) (List.getElem?_eq_getElem hi')) e
theorem found_mid {L : List Fact} {c : Key} {hi : Nat} {x : Fact} (hr : RiseF L) (low : ∀ (t : Nat) (x : Fact), t < hi → L[t]? = some x → ltK x.key c) (high : ∀ (t : Nat) (x : Fact), hi ≤ t → L[t]? = some x → ¬ ltK x.key c) (hx : L[hi]? = some x) : FoundAt L c hi (cmpK x.key c == 0) := by
  unfold FoundAt
  refine ⟨fun e => ⟨x, hx, (isCmp_key.eq0 _ _).1 (by simpa using e)⟩, fun e y hy he => ?_⟩
  have hne : x.key ≠ c := fun h => by rw [(isCmp_key.eq0 _ _).2 h] at e; simp at e
  obtain ⟨j, hj, rfl⟩ := List.getElem_of_mem hy
  have hj' := List.getElem?_eq_getElem hj
  rcases Nat.lt_trichotomy j hi with h1 | h1 | h1
  · exact ltK_ne (low j _ h1 hj') he
  · subst h1
    rw [hj'] at hx
    cases hx
    exact hne he
  · have h2 := riseF_at hr h1 hx hj'
    rw [he] at h2
    exact high hi x (Nat.le_refl _) hx h2
set_option maxRecDepth 100000 in
set_option maxHeartbeats 8000000 in
theorem search_any (v : Value) (L : List Fact) (c : Key) (w : World) (h : FactsV w v L) (hr : RiseF L) (hL : L.length ≤ 1000) :
    Calls Try.prog 41 #[v, aggK c, .func (.func 38) #[] #[]] w fun e w' => ∃ (at_ : Nat) (is : Bool), e = .returned (.tuple #[.int .i64 (at_ : Int), .bool is]) ∧ FoundAt L c at_ is ∧ Below w.heap.size w w' := by
  have HB0 := Lib.hid ((Below.refl w.heap.size w).alloc (Nat.le_refl _) (.cells (encK.cs c).toArray 40))
  have HX0 := Lib.hid (BoxE.new encK w c 40)
  have hV := h.keep HB0.out
  obtain ⟨p, cap, rfl, hcap, hm, _, hc⟩ := hV
  obtain ⟨n, hn⟩ : ∃ n, L.length = n := ⟨_, rfl⟩
  rw [hn] at hcap hL ⊢
  have HC := Lib.hid hc
  have HN := Lib.hid hn
  have HRI := Lib.hid hr
  unfold maxLen at hm
  have HAT : Hid (∀ (wr : World), Below (w.heap.size + 1) (w.alloc (.cells (encK.cs c).toArray 40)) wr → ∀ (i : Nat) (x : Fact), L[i]? = some x → ∃ b o, p = some ⟨b, o, none⟩ ∧ ElAt encF wr b (o + i * 6) x ∧ ElAt encK wr w.heap.size 0 c) := Lib.hid (fun wr hb i x hx => by
    obtain ⟨b, o, e, hat⟩ := HC.out i x hx
    have hlt := hat.lt
    rw [World.size_alloc] at hlt
    exact ⟨b, o, e, hat.keep hb hlt, HX0.out.at0.keep hb (Nat.lt_succ_self _)⟩)
  have HBE : Hid (∀ (wr : World), Below (w.heap.size + 1) (w.alloc (.cells (encK.cs c).toArray 40)) wr → Below w.heap.size w wr) := Lib.hid (fun wr hb => HB0.out.trans (hb.mono (Nat.le_succ _)))
  clear hc hn hr h
  go_enter Try.func41, Try.ntmps41
  go_wp2
  go_loopg [9, 10] n (fun kx s9 s10 wr => ∃ lo hi : Nat, s9 = .int .i64 (lo : Int) ∧ s10 = .int .i64 (hi : Int) ∧ hi - lo ≤ kx ∧ lo ≤ hi ∧ hi ≤ n ∧ Hid (SearchAt w wr L c lo hi))
  case atStart => exact ⟨0, n, rfl, rfl, by omega, Nat.zero_le _, Nat.le_refl _, Lib.hid ⟨Nat.zero_le _, by rw [HN.out]; exact Nat.le_refl _, Below.refl _ _, fun t x ht => absurd ht (Nat.not_lt_zero _), fun t x ht hx => by
    have := (List.getElem?_eq_some_iff.1 hx).1
    rw [HN.out] at this; omega⟩⟩
  case round =>
    obtain ⟨lo, hi, rfl, rfl, hkx, hlh, hin, HA⟩ := hrel
    have HSZ : Hid (w.heap.size + 1 ≤ wr.heap.size) := Lib.hid (by have := HA.out.bel.size; rwa [World.size_alloc] at this)
    by_cases hlt : lo < hi
    · have hmid : (lo + hi) / 2 < n := by omega
      obtain ⟨x, hx⟩ : ∃ x, L[(lo + hi) / 2]? = some x := ⟨_, List.getElem?_eq_getElem (by rw [HN.out]; exact hmid)⟩
      obtain ⟨b, o, rfl, hat, hct⟩ := HAT.out _ HA.out.bel _ x hx
      obtain ⟨r0, r1, r2, r3, r4, r5⟩ := fact6 hat
      obtain ⟨s0, s1, s2, s3, s4⟩ := key5 hct
      simp only [Nat.zero_add] at s0 s1 s2 s3 s4
      have q0 := fun p : Past wr => cell_past r0 p
      have q1 := fun p : Past wr => cell_past r1 p
      have q2 := fun p : Past wr => cell_past r2 p
      have q3 := fun p : Past wr => cell_past r3 p
      have q4 := fun p : Past wr => cell_past r4 p
      have q5 := fun p : Past wr => cell_past r5 p
      have u0 := fun p : Past wr => cell_past s0 p
      have u1 := fun p : Past wr => cell_past s1 p
      have u2 := fun p : Past wr => cell_past s2 p
      have u3 := fun p : Past wr => cell_past s3 p
      have u4 := fun p : Past wr => cell_past s4 p
      clear r0 s0 r1 s1 r2 s2 r3 s3 r4 s4 r5
      have HX := Lib.hid hx
      clear hx hat hct
      obtain ⟨m, hmm⟩ : ∃ m, cmpK x.key c = m := ⟨_, rfl⟩
      have HAG := Lib.hid (fun W => (against_any x c W).mono fun _ _ ⟨h1, h2⟩ => And.intro h1 h2.below)
      have HM : Hid (ltK x.key c ↔ m < 0) := Lib.hid (by unfold ltK; rw [hmm])
      simp only [hmm] at HAG
      clear hmm
      have hwm : IntKind.i64.wrap ((lo : Int) + (hi : Int)) = (lo : Int) + (hi : Int) := by rw [IntKind.wrap_i64]; omega
      by_cases hm0 : m < 0
      · have HLT := Lib.hid (HM.out.2 hm0)
        go_wp2_with fail
        refine wp_region_past (by kernel_rfl) (by kernel_rfl) ?_
        repeat (go_big_quiet_step ((go_at_call 38; exact Calls.past_of (HAG.out _))))
        refine wpQuiet_nil ?_
        intro _ hw'
        obtain ⟨⟨w3, hb3⟩, rfl⟩ := hw'
        clear q0 u0 q1 u1 q2 u2 q3 u3 q4 u4 q5
        go_wp2
        go_roundg (hi - ((lo + hi) / 2 + 1))
        case measure => omega
        case rel => exact ⟨(lo + hi) / 2 + 1, hi, by rw [show ((lo : Int) + (hi : Int)) / 2 + 1 = (((lo + hi) / 2 + 1 : Nat) : Int) by omega], rfl, Nat.le_refl _, by omega, hin, Lib.hid ⟨by omega, HA.out.top, HA.out.bel.trans (hb3.mono HSZ.out), fun t y ht hy => by
            rcases Nat.lt_or_ge t ((lo + hi) / 2) with h | h
            · exact ltK_trans (riseF_at HRI.out h hy HX.out) HLT.out
            · obtain rfl : t = (lo + hi) / 2 := by omega
              rw [HX.out] at hy; cases hy; exact HLT.out, HA.out.high⟩⟩
      · have HLT : Hid (¬ ltK x.key c) := Lib.hid (fun h => hm0 (HM.out.1 h))
        go_wp2_with fail
        refine wp_region_past (by kernel_rfl) (by kernel_rfl) ?_
        repeat (go_big_quiet_step ((go_at_call 38; exact Calls.past_of (HAG.out _))))
        refine wpQuiet_nil ?_
        intro _ hw'
        obtain ⟨⟨w3, hb3⟩, rfl⟩ := hw'
        clear q0 u0 q1 u1 q2 u2 q3 u3 q4 u4 q5
        go_wp2
        go_roundg ((lo + hi) / 2 - lo)
        case measure => omega
        case rel => exact ⟨lo, (lo + hi) / 2, rfl, by rw [show ((lo : Int) + (hi : Int)) / 2 = (((lo + hi) / 2 : Nat) : Int) by omega], Nat.le_refl _, by omega, by omega, Lib.hid ⟨by omega, by have := HA.out.top; omega, HA.out.bel.trans (hb3.mono HSZ.out), HA.out.low, fun t y ht hy => by
            rcases Nat.lt_or_ge ((lo + hi) / 2) t with h | h
            · exact fun h' => HLT.out (ltK_trans (riseF_at HRI.out h HX.out hy) h')
            · obtain rfl : t = (lo + hi) / 2 := by omega
              rw [HX.out] at hy; cases hy; exact HLT.out⟩⟩
    · obtain rfl : hi = lo := by omega
      by_cases hn : hi < n
      · obtain ⟨x, hx⟩ : ∃ x, L[hi]? = some x := ⟨_, List.getElem?_eq_getElem (by rw [HN.out]; exact hn)⟩
        obtain ⟨b, o, rfl, hat, hct⟩ := HAT.out _ HA.out.bel _ x hx
        obtain ⟨r0, r1, r2, r3, r4, r5⟩ := fact6 hat
        obtain ⟨s0, s1, s2, s3, s4⟩ := key5 hct
        simp only [Nat.zero_add] at s0 s1 s2 s3 s4
        have q0 := fun p : Past wr => cell_past r0 p
        have q1 := fun p : Past wr => cell_past r1 p
        have q2 := fun p : Past wr => cell_past r2 p
        have q3 := fun p : Past wr => cell_past r3 p
        have q4 := fun p : Past wr => cell_past r4 p
        have q5 := fun p : Past wr => cell_past r5 p
        have u0 := fun p : Past wr => cell_past s0 p
        have u1 := fun p : Past wr => cell_past s1 p
        have u2 := fun p : Past wr => cell_past s2 p
        have u3 := fun p : Past wr => cell_past s3 p
        have u4 := fun p : Past wr => cell_past s4 p
        clear r0 s0 r1 s1 r2 s2 r3 s3 r4 s4 r5
        have HFO := Lib.hid (found_mid HRI.out HA.out.low HA.out.high hx)
        clear hx hat hct
        obtain ⟨m, hmm⟩ : ∃ m, cmpK x.key c = m := ⟨_, rfl⟩
        have HAG := Lib.hid (fun W => (against_any x c W).mono fun _ _ ⟨h1, h2⟩ => And.intro h1 h2.below)
        simp only [hmm] at HAG HFO
        clear hmm
        go_wp2_with fail
        refine wp_region_past (by kernel_rfl) (by kernel_rfl) ?_
        repeat (go_big_quiet_step ((go_at_call 38; exact Calls.past_of (HAG.out _))))
        refine wpQuiet_nil ?_
        intro _ hw'
        obtain ⟨⟨w3, hb3⟩, rfl⟩ := hw'
        clear q0 u0 q1 u1 q2 u2 q3 u3 q4 u4 q5
        go_wp2
        go_ret2
        exact ⟨hi, m == 0, rfl, HFO.out, HBE.out _ (HA.out.bel.trans (hb3.mono HSZ.out))⟩
      · have HFO := Lib.hid (found_end HA.out.low (show hi = L.length by rw [HN.out]; omega))
        have hd : decide ((hi : Int) < (n : Int)) = false := decide_eq_false (by omega)
        go_wp2_with fail
        refine wp_region_past (by kernel_rfl) (by kernel_rfl) ?_
        repeat (go_big_quiet_step (fail))
        refine wpQuiet_nil ?_
        intro _ hw'
        obtain ⟨⟨w3, hb3⟩, rfl⟩ := hw'
        go_wp2
        go_ret2
        exact ⟨hi, false, rfl, HFO.out, HBE.out _ (HA.out.bel.trans (hb3.mono HSZ.out))⟩
set_option maxRecDepth 100000 in
set_option maxHeartbeats 2000000 in
theorem get_any (v : Value) (L : List Fact) (c : Key) (w : World) (h : FactsV w v L) (hr : RiseF L) (hL : L.length ≤ 1000) :
    Calls Try.prog 25 #[v, aggK c] w fun e w' => e = .returned (.int .i64 (getL L c)) ∧ Below w.heap.size w w' := by
  have HB0 := Lib.hid ((Below.refl w.heap.size w).alloc (Nat.le_refl _) (.cells (encK.cs c).toArray 40))
  have hV := h.keep HB0.out
  obtain ⟨g, hg⟩ : ∃ g, getL L c = g := ⟨_, rfl⟩
  rw [hg]
  have HG := Lib.hid hg
  have HR := Lib.hid hr
  have HS := Lib.hid (search_any v L c _ hV hr hL)
  have HV := Lib.hid hV
  clear hg hV h hr
  go_enter Try.func25, Try.ntmps25
  go_wp2_with fail
  refine HS.out.mono ?_
  rintro e w1 ⟨at_, is, rfl, hf, hb⟩
  have HB1 := Lib.hid (HB0.out.trans (hb.mono HB0.out.size))
  cases is with
  | false =>
    have hg0 : g = 0 := by rw [← HG.out, getL_no (hf.2 rfl)]
    subst hg0
    clear hf hb
    go_wp2
    go_ret
    exact ⟨rfl, HB1.out⟩
  | true =>
    obtain ⟨x, hx, hk⟩ := hf.1 rfl
    have hgx : x.amt = g := by rw [← HG.out, ← hk, getL_mem HR.out (List.mem_of_getElem? hx)]
    obtain ⟨p, cap, rfl, hcap, hm, _, hc⟩ := HV.out
    obtain ⟨b, o, rfl, hat⟩ := hc at_ x hx
    have hlt := hat.lt
    obtain ⟨r0, r1, r2, r3, r4, r5⟩ := fact6 (hat.keep hb hlt)
    rw [hgx] at r5
    simp only [show encF.k = 6 from rfl] at r5
    have hin := (List.getElem?_eq_some_iff.1 hx).1
    obtain ⟨n, hn⟩ : ∃ n, L.length = n := ⟨_, rfl⟩
    rw [hn] at hin hL ⊢
    unfold maxLen at hm
    clear hf hb hx hk hgx hat hlt hc r0 r1 r2 r3 r4 hcap HS HV
    go_wp2
    go_ret
    exact ⟨rfl, HB1.out⟩
end Go.Proofs.Ytimeebildbmhaaa.Fa
