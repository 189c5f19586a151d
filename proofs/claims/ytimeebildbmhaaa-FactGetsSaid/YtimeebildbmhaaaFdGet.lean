
/- The walk of the document's Get: the amount of a key; 0, if there is none. -/
import Derived.Test.YtimeebildbmhaaaFdKeys
import Derived.Test.YtimeebildbmhaaaFaGet
import Derived.Test.YtimeebildbmhaaaFaOurs
namespace Go.Proofs.Ytimeebildbmhaaa.Fa
open Go.RowKit

theorem getL_cons (x : Fact) (r : List Fact) (k : Key) : getL (x :: r) k = if x.key = k then x.amt else getL r k := by
  unfold getL
  rw [List.find?_cons]
  by_cases h : x.key = k
  · simp [h]
  · simp [h]
set_option maxRecDepth 100000 in
set_option maxHeartbeats 8000000 in
theorem rget_any (v : Value) (c : List Fact) (k : Key) (w : World) (h : FactsV w v c) (hL : c.length ≤ 1000) :
    Calls Try.prog 26 #[v, aggK k] w fun e w' => e = .returned (.int .i64 (getL c k)) ∧ Below w.heap.size w w' := by
  obtain ⟨W1, hW1⟩ : ∃ W1, w.alloc (.cells #[.string k.e, .string k.a, .string k.f, .string k.p, .int .i64 k.m] 24) = W1 := ⟨_, rfl⟩
  have HB0 : Hid (Below w.heap.size w W1) := Lib.hid (by rw [← hW1]; exact (Below.refl w.heap.size w).alloc (Nat.le_refl _) _)
  have HK0 : Hid (BoxE encK W1 w.heap.size 24 k) := Lib.hid (by rw [← hW1]; exact BoxE.new encK w k 24)
  have HSZ : Hid (w.heap.size < W1.heap.size) := Lib.hid (by rw [← hW1, World.size_alloc]; exact Nat.lt_succ_self _)
  have HV := Lib.hid (h.keep HB0.out)
  obtain ⟨p, cp, rfl, hcap, hm, _, _⟩ := h
  obtain ⟨n, hn⟩ : ∃ n, c.length = n := ⟨_, rfl⟩
  rw [hn] at hcap hL HV ⊢
  have HN := Lib.hid hn
  obtain ⟨S, hS⟩ : ∃ S, getL c k = S := ⟨_, rfl⟩
  rw [hS]
  have HS := Lib.hid hS
  unfold maxLen at hm
  clear hn hS
  go_enter Try.func26, Try.ntmps26
  go_wp2
  try rw [hW1]
  clear hW1
  go_loopw [5] (fun s5 wr => ∃ i : Nat, s5 = .int .i64 (i : Int) ∧ i ≤ n ∧ Hid (getL (c.drop i) k = S) ∧ Hid (Below W1.heap.size W1 wr)) (fun s5 _ => n - (intOf s5).toNat)
  case atStart => exact ⟨0, rfl, Nat.zero_le _, Lib.hid (by rw [List.drop_zero]; exact HS.out), Lib.hid (Below.refl _ _)⟩
  case round =>
    obtain ⟨i, rfl, hin, HO, HB1⟩ := hrel
    by_cases hlt : i < n
    · obtain ⟨x, hx⟩ : ∃ x, c[i]? = some x := ⟨_, List.getElem?_eq_getElem (by rw [HN.out]; exact hlt)⟩
      obtain ⟨b, o, rfl, hat⟩ := ElsV.at_ HV.out hx
      have HAT := Lib.hid hat
      obtain ⟨r0, r1, r2, r3, r4, r5⟩ := fact6 (hat.keep HB1.out hat.lt)
      simp only [show encF.k = 6 from rfl] at r0 r1 r2 r3 r4 r5
      obtain ⟨s0, s1, s2, s3, s4⟩ := key5 (HK0.out.at0.keep HB1.out HSZ.out)
      simp only [Nat.zero_add] at s0 s1 s2 s3 s4
      have HD : Hid ((if x.key = k then x.amt else getL (c.drop (i + 1)) k) = S) := Lib.hid (by rw [← getL_cons, ← drop_at hx]; exact HO.out)
      have gk := guard_rkey
      have hq := eql_rkey x.key k
      clear hx hat
      cases he : eqK x.key k with
      | true =>
        have hxk : x.key = k := of_decide_eq_true he
        have HR : Hid (x.amt = S) := Lib.hid (by have := HD.out; rwa [if_pos hxk] at this)
        rw [he] at hq
        clear he hxk
        go_wp2_with fail
        go_big_quiet (fail)
        have HB2 := Lib.hid (belowN HB1.out nq)
        clear hq gk r0 r1 r2 r3 r4 r5 s0 s1 s2 s3 s4
        obtain ⟨W3, hW3⟩ : ∃ W3, wr.drewN nq = W3 := ⟨_, rfl⟩
        rw [hW3] at HB2 ⊢
        obtain ⟨r0, r1, r2, r3, r4, r5⟩ := fact6 (HAT.out.keep HB2.out HAT.out.lt)
        simp only [show encF.k = 6 from rfl] at r0 r1 r2 r3 r4 r5
        go_wp2
        go_ret
        exact ⟨by rw [HR.out]; rfl, HB0.out.trans (HB2.out.mono HB0.out.size)⟩
      | false =>
        have hxk : x.key ≠ k := of_decide_eq_false he
        have HR : Hid (getL (c.drop (i + 1)) k = S) := Lib.hid (by have := HD.out; rwa [if_neg hxk] at this)
        rw [he] at hq
        clear he hxk
        go_wp2_with fail
        go_big_quiet (fail)
        have HB2 := Lib.hid (belowN HB1.out nq)
        clear hq gk r0 r1 r2 r3 r4 r5 s0 s1 s2 s3 s4
        go_wp2
        go_roundw
        case rel => exact ⟨i + 1, by go_num, by omega, HR, HB2⟩
        case measure => simp [intOf]; omega
    · obtain rfl : i = n := by omega
      have hS0 : S = 0 := by
        rw [← HO.out, List.drop_of_length_le (by rw [HN.out]; exact Nat.le_refl _)]; rfl
      subst hS0
      go_wp2
      go_ret
      exact ⟨rfl, HB0.out.trans (HB1.out.mono HB0.out.size)⟩
end Go.Proofs.Ytimeebildbmhaaa.Fa
