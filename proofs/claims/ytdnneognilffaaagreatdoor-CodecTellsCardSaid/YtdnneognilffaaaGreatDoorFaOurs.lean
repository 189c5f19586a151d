
/- The walks of the statements' Theirs and Ours (the same facts), Few and small, and of the document's Same. -/
import Derived.Test.YtdnneognilffaaaGreatDoorFaCmp
import Derived.Test.YtdnneognilffaaaGreatDoorFaEql
import Derived.WalkLawsBesides
namespace Go.Proofs.YtdnneognilffaaaGreatDoor.Fa
open Go.RowKit

theorem infoT : InfoE Tryz.prog 28 43 encF := .of (z := .agg #[.string ⟨#[]⟩, .string ⟨#[]⟩, .string ⟨#[]⟩, .string ⟨#[]⟩, .int .i64 0, .int .i64 0]) (n := 80) Tryz.underlying28 (by kernel_rfl) rfl (by decide)
theorem infoR : InfoE Tryz.prog 22 46 encF := .of (z := .agg #[.string ⟨#[]⟩, .string ⟨#[]⟩, .string ⟨#[]⟩, .string ⟨#[]⟩, .int .i64 0, .int .i64 0]) (n := 80) Tryz.underlying22 (by kernel_rfl) rfl (by decide)
set_option maxRecDepth 100000 in
set_option maxHeartbeats 4000000 in
theorem theirs_any (v : Value) (c : List Fact) (w : World) (h : FactsV w v c) (hL : c.length ≤ 100000) :
    Calls Tryz.prog 7 #[v] w fun e' w' => ∃ u, e' = .returned u ∧ w'.ownsRow w.heap.size 43 6 u c.length (flat encF c) ∧ Below w.heap.size w w' := by
  have HV := Lib.hid h
  obtain ⟨p, cp, rfl, hcap, hm, _, _⟩ := h
  obtain ⟨n, hn⟩ : ∃ n, c.length = n := ⟨_, rfl⟩
  rw [hn] at hcap hL HV ⊢
  have HN := Lib.hid hn
  unfold maxLen at hm
  clear hn
  go_enter Tryz.func7, Tryz.ntmps7
  go_wp2
  go_loopw [3, 8] (fun s3 s8 wr => ∃ i : Nat, s8 = .int .i64 (i : Int) ∧ i ≤ n ∧ Hid (wr.ownsRow w.heap.size 43 6 s3 (c.take i).length (flat encF (c.take i))) ∧ Hid (Below w.heap.size w wr)) (fun _ s8 _ => n - (intOf s8).toNat)
  case atStart => exact ⟨0, rfl, Nat.zero_le _, World.ownsRow_nil _ _ _ _, Lib.hid (Below.refl _ _)⟩
  case round =>
    obtain ⟨i, rfl, hin, HO, HB⟩ := hrel
    by_cases hlt : i < n
    · obtain ⟨x, hx⟩ : ∃ x, c[i]? = some x := ⟨_, List.getElem?_eq_getElem (by rw [HN.out]; exact hlt)⟩
      obtain ⟨b, o, rfl, hat⟩ := ElsV.at_ HV.out hx
      obtain ⟨r0, r1, r2, r3, r4, r5⟩ := fact6 (hat.keep HB.out hat.lt)
      simp only [show encF.k = 6 from rfl] at r0 r1 r2 r3 r4 r5
      have HTK : Hid (c.take (i + 1) = c.take i ++ [x]) := Lib.hid (by rw [List.take_add_one, hx]; rfl)
      have HLI : Hid ((c.take i).length ≤ i) := Lib.hid (by rw [List.length_take]; exact Nat.min_le_left _ _)
      have HB2 : Hid (Below w.heap.size w (wr.alloc (.cells #[.string x.key.e, .string x.key.a, .string x.key.f, .string x.key.p, .int .i64 x.key.m, .int .i64 x.amt] 46))) := Lib.hid (HB.out.alloc HB.out.size _)
      have HO2 := Lib.hid (HO.out.alloc (.cells #[.string x.key.e, .string x.key.a, .string x.key.f, .string x.key.p, .int .i64 x.key.m, .int .i64 x.amt] 46))
      clear hx hat
      go_wp2_with (at_builtin; refine wpList_append_el (E := encF) rfl _ _ 28 43 rfl infoT w.heap.size (c.take i) x (wr.heap.size + 1) (HO2.out.alloc _) rfl (el_new1 _ _ _ _) (by have := HB.out.size; simp; omega) (by have := HLI.out; omega) ?_; intro v9 w9 hr9 hb9 hg9)
      have HR9 := Lib.hid hr9
      have HB9 : Hid (Below w.heap.size w w9) := Lib.hid ((HB2.out.alloc (by have := HB.out.size; simp; omega) _).trans hb9)
      clear hr9 hb9 hg9
      go_wp2
      go_roundw
      case rel => exact ⟨i + 1, by go_num, by omega, by rw [HTK.out]; exact HR9, HB9⟩
      case measure => simp [intOf]; omega
    · obtain rfl : i = n := by omega
      have HO3 := HO.out
      rw [List.take_of_length_le (by rw [HN.out]; exact Nat.le_refl _), HN.out] at HO3
      have HO4 := Lib.hid HO3
      clear HO3 HO
      go_wp2
      go_ret
      exact ⟨_, rfl, HO4.out, HB.out⟩
set_option maxRecDepth 100000 in
set_option maxHeartbeats 4000000 in
theorem ours_any (v : Value) (c : List Fact) (w : World) (h : FactsV w v c) (hL : c.length ≤ 100000) :
    Calls Tryz.prog 12 #[v] w fun e' w' => ∃ u, e' = .returned u ∧ w'.ownsRow w.heap.size 46 6 u c.length (flat encF c) ∧ Below w.heap.size w w' := by
  have HV := Lib.hid h
  obtain ⟨p, cp, rfl, hcap, hm, _, _⟩ := h
  obtain ⟨n, hn⟩ : ∃ n, c.length = n := ⟨_, rfl⟩
  rw [hn] at hcap hL HV ⊢
  have HN := Lib.hid hn
  unfold maxLen at hm
  clear hn
  go_enter Tryz.func12, Tryz.ntmps12
  go_wp2
  go_loopw [3, 8] (fun s3 s8 wr => ∃ i : Nat, s8 = .int .i64 (i : Int) ∧ i ≤ n ∧ Hid (wr.ownsRow w.heap.size 46 6 s3 (c.take i).length (flat encF (c.take i))) ∧ Hid (Below w.heap.size w wr)) (fun _ s8 _ => n - (intOf s8).toNat)
  case atStart => exact ⟨0, rfl, Nat.zero_le _, World.ownsRow_nil _ _ _ _, Lib.hid (Below.refl _ _)⟩
  case round =>
    obtain ⟨i, rfl, hin, HO, HB⟩ := hrel
    by_cases hlt : i < n
    · obtain ⟨x, hx⟩ : ∃ x, c[i]? = some x := ⟨_, List.getElem?_eq_getElem (by rw [HN.out]; exact hlt)⟩
      obtain ⟨b, o, rfl, hat⟩ := ElsV.at_ HV.out hx
      obtain ⟨r0, r1, r2, r3, r4, r5⟩ := fact6 (hat.keep HB.out hat.lt)
      simp only [show encF.k = 6 from rfl] at r0 r1 r2 r3 r4 r5
      have HTK : Hid (c.take (i + 1) = c.take i ++ [x]) := Lib.hid (by rw [List.take_add_one, hx]; rfl)
      have HLI : Hid ((c.take i).length ≤ i) := Lib.hid (by rw [List.length_take]; exact Nat.min_le_left _ _)
      have HB2 : Hid (Below w.heap.size w (wr.alloc (.cells #[.string x.key.e, .string x.key.a, .string x.key.f, .string x.key.p, .int .i64 x.key.m, .int .i64 x.amt] 43))) := Lib.hid (HB.out.alloc HB.out.size _)
      have HO2 := Lib.hid (HO.out.alloc (.cells #[.string x.key.e, .string x.key.a, .string x.key.f, .string x.key.p, .int .i64 x.key.m, .int .i64 x.amt] 43))
      clear hx hat
      go_wp2_with (at_builtin; refine wpList_append_el (E := encF) rfl _ _ 22 46 rfl infoR w.heap.size (c.take i) x (wr.heap.size + 1) (HO2.out.alloc _) rfl (el_new1 _ _ _ _) (by have := HB.out.size; simp; omega) (by have := HLI.out; omega) ?_; intro v9 w9 hr9 hb9 hg9)
      have HR9 := Lib.hid hr9
      have HB9 : Hid (Below w.heap.size w w9) := Lib.hid ((HB2.out.alloc (by have := HB.out.size; simp; omega) _).trans hb9)
      clear hr9 hb9 hg9
      go_wp2
      go_roundw
      case rel => exact ⟨i + 1, by go_num, by omega, by rw [HTK.out]; exact HR9, HB9⟩
      case measure => simp [intOf]; omega
    · obtain rfl : i = n := by omega
      have HO3 := HO.out
      rw [List.take_of_length_le (by rw [HN.out]; exact Nat.le_refl _), HN.out] at HO3
      have HO4 := Lib.hid HO3
      clear HO3 HO
      go_wp2
      go_ret
      exact ⟨_, rfl, HO4.out, HB.out⟩
/-- Short enough. -/
def shortB (x : Fact) : Bool := decide (x.key.e.size ≤ 40) && decide (x.key.a.size ≤ 40) && decide (x.key.f.size ≤ 40) && decide (x.key.p.size ≤ 40)
def fewL (c : List Fact) : Bool := c.all shortB && decide (c.length ≤ 150)
theorem few_length {c : List Fact} (h : fewL c = true) : c.length ≤ 150 := by
  unfold fewL at h
  simp only [Bool.and_eq_true, decide_eq_true_eq] at h
  exact h.2
theorem all_upto {α : Type} {p : α → Bool} {c : List α} {n : Nat} (hn : c.length = n) (h : ∀ (j : Nat) (x : α), j < n → c[j]? = some x → p x = true) : c.all p = true := by
  rw [List.all_eq_true]
  intro x hx
  obtain ⟨j, hj, rfl⟩ := List.getElem_of_mem hx
  exact h j _ (by omega) (List.getElem?_eq_getElem hj)
theorem all_not {α : Type} {p : α → Bool} {c : List α} {i : Nat} {x : α} (hx : c[i]? = some x) (h : p x = false) : c.all p = false := by
  rw [← Bool.not_eq_true, List.all_eq_true]
  intro ha
  rw [ha x (List.mem_of_getElem? hx)] at h
  cases h
set_option maxRecDepth 100000 in
set_option maxHeartbeats 4000000 in
theorem few_any (v : Value) (c : List Fact) (w : World) (h : FactsV w v c) :
    Calls Tryz.prog 5 #[v] w fun e' w' => e' = .returned (.bool (fewL c)) ∧ Below w.heap.size w w' := by
  have HV := Lib.hid h
  obtain ⟨p, cp, rfl, hcap, hm, _, _⟩ := h
  obtain ⟨n, hn⟩ : ∃ n, c.length = n := ⟨_, rfl⟩
  rw [hn] at hcap HV ⊢
  have HN := Lib.hid hn
  obtain ⟨S, hS⟩ : ∃ S, fewL c = S := ⟨_, rfl⟩
  rw [hS]
  have HS := Lib.hid hS
  unfold maxLen at hm
  clear hn hS
  go_enter Tryz.func5, Tryz.ntmps5
  go_wp2
  go_loopw [8] (fun s8 wr => ∃ i : Nat, s8 = .int .i64 (i : Int) ∧ i ≤ n ∧ Hid (∀ (j : Nat) (x : Fact), j < i → c[j]? = some x → shortB x = true) ∧ Hid (Below w.heap.size w wr)) (fun s8 _ => n - (intOf s8).toNat)
  case atStart => exact ⟨0, rfl, Nat.zero_le _, Lib.hid (fun j x hj => absurd hj (Nat.not_lt_zero _)), Lib.hid (Below.refl _ _)⟩
  case round =>
    obtain ⟨i, rfl, hin, HO, HB⟩ := hrel
    by_cases hlt : i < n
    · obtain ⟨x, hx⟩ : ∃ x, c[i]? = some x := ⟨_, List.getElem?_eq_getElem (by rw [HN.out]; exact hlt)⟩
      obtain ⟨b, o, rfl, hat⟩ := ElsV.at_ HV.out hx
      obtain ⟨r0, r1, r2, r3, r4, r5⟩ := fact6 (hat.keep HB.out hat.lt)
      simp only [show encF.k = 6 from rfl] at r0 r1 r2 r3 r4 r5
      have HB2 : Hid (Below w.heap.size w ((wr.alloc (.cells #[.string x.key.e, .string x.key.a, .string x.key.f, .string x.key.p, .int .i64 x.key.m, .int .i64 x.amt] 46)).alloc (.cells #[.string x.key.e, .string x.key.a, .string x.key.f, .string x.key.p, .int .i64 x.key.m] 44))) := Lib.hid ((HB.out.alloc HB.out.size _).alloc (by have := HB.out.size; simp; omega) _)
      have HX := Lib.hid hx
      clear hx hat
      have out : shortB x = false → Hid (S = false) := fun hs => Lib.hid (by rw [← HS.out]; unfold fewL; rw [all_not HX.out hs]; rfl)
      have OUT := Lib.hid out
      have nxt : shortB x = true → Hid (∀ (j : Nat) (y : Fact), j < i + 1 → c[j]? = some y → shortB y = true) := fun hs => Lib.hid (fun j y hj hy => by
        rcases Nat.lt_or_ge j i with hl | hl
        · exact HO.out j y hl hy
        · obtain rfl : j = i := by omega
          rw [HX.out] at hy; cases hy; exact hs)
      have NXT := Lib.hid nxt
      clear out nxt
      by_cases h1 : x.key.e.size ≤ 40
      · have g1 : ¬ (40 : Int) < (x.key.e.size : Int) := by omega
        by_cases h2 : x.key.a.size ≤ 40
        · have g2 : ¬ (40 : Int) < (x.key.a.size : Int) := by omega
          by_cases h3 : x.key.f.size ≤ 40
          · have g3 : ¬ (40 : Int) < (x.key.f.size : Int) := by omega
            by_cases h4 : x.key.p.size ≤ 40
            · have g4 : ¬ (40 : Int) < (x.key.p.size : Int) := by omega
              have HN1 := NXT.out (by simp [shortB, h1, h2, h3, h4])
              go_wp2
              go_roundw
              case rel => exact ⟨i + 1, by go_num, by omega, HN1, HB2⟩
              case measure => simp [intOf]; omega
            · have g4 : (40 : Int) < (x.key.p.size : Int) := by omega
              have HS1 := OUT.out (by simp [shortB, h4])
              obtain rfl : S = false := HS1.out
              go_wp2
              go_ret
              exact ⟨rfl, HB2.out⟩
          · have g3 : (40 : Int) < (x.key.f.size : Int) := by omega
            have HS1 := OUT.out (by simp [shortB, h3])
            obtain rfl : S = false := HS1.out
            go_wp2
            go_ret
            exact ⟨rfl, HB2.out⟩
        · have g2 : (40 : Int) < (x.key.a.size : Int) := by omega
          have HS1 := OUT.out (by simp [shortB, h2])
          obtain rfl : S = false := HS1.out
          go_wp2
          go_ret
          exact ⟨rfl, HB2.out⟩
      · have g1 : (40 : Int) < (x.key.e.size : Int) := by omega
        have HS1 := OUT.out (by simp [shortB, h1])
        obtain rfl : S = false := HS1.out
        go_wp2
        go_ret
        exact ⟨rfl, HB2.out⟩
    · obtain rfl : i = n := by omega
      have hS : S = decide ((i : Int) ≤ 150) := by
        rw [← HS.out]
        unfold fewL
        rw [all_upto HN.out HO.out, HN.out, Bool.true_and]
        by_cases h : i ≤ 150
        · rw [decide_eq_true h, decide_eq_true (show (i : Int) ≤ 150 by omega)]
        · rw [decide_eq_false h, decide_eq_false (show ¬ (i : Int) ≤ 150 by omega)]
      subst hS
      go_wp2
      go_ret
      exact ⟨rfl, HB.out⟩
/-- No sum of some of them fails to fit. -/
def smallB (x : Fact) : Bool := decide (x.amt ≤ 4503599627370496) && decide (-4503599627370496 ≤ x.amt)
def smallL (c : List Fact) : Bool := c.all smallB
/-- The very same facts. -/
def sameL (a b : List Fact) : Bool := decide (a = b)
set_option maxRecDepth 100000 in
set_option maxHeartbeats 4000000 in
theorem same_any (va vb : Value) (a b : List Fact) (w : World) (ha : FactsV w va a) (hb : FactsV w vb b) :
    Calls Tryz.prog 11 #[va, vb] w fun e' w' => e' = .returned (.bool (sameL a b)) ∧ Below w.heap.size w w' := by
  have HA := Lib.hid ha
  have HB := Lib.hid hb
  obtain ⟨pa, ca, rfl, hcap, hm, _, _⟩ := ha
  obtain ⟨pb, cb, rfl, hcapb, hmb, _, _⟩ := hb
  obtain ⟨na, hna⟩ : ∃ n, a.length = n := ⟨_, rfl⟩
  obtain ⟨nb, hnb⟩ : ∃ n, b.length = n := ⟨_, rfl⟩
  rw [hna] at hcap HA ⊢
  rw [hnb] at hcapb HB ⊢
  have HNA := Lib.hid hna
  have HNB := Lib.hid hnb
  obtain ⟨S, hS⟩ : ∃ S, sameL a b = S := ⟨_, rfl⟩
  rw [hS]
  have HS := Lib.hid hS
  unfold maxLen at hm hmb
  clear hna hnb hS
  by_cases hn : na = nb
  · subst hn
    have hne : ((na : Int) != (na : Int)) = false := by simp
    go_enter Tryz.func11, Tryz.ntmps11
    go_wp2
    go_loopw [5] (fun s5 wr => ∃ i : Nat, s5 = .int .i64 (i : Int) ∧ i ≤ na ∧ Hid (a.take i = b.take i) ∧ Hid (Below w.heap.size w wr)) (fun s5 _ => na - (intOf s5).toNat)
    case atStart => exact ⟨0, rfl, Nat.zero_le _, Lib.hid rfl, Lib.hid (Below.refl _ _)⟩
    case round =>
      obtain ⟨i, rfl, hin, HO, HBW⟩ := hrel
      by_cases hlt : i < na
      · obtain ⟨x, hx⟩ : ∃ x, a[i]? = some x := ⟨_, List.getElem?_eq_getElem (by rw [HNA.out]; exact hlt)⟩
        obtain ⟨y, hy⟩ : ∃ y, b[i]? = some y := ⟨_, List.getElem?_eq_getElem (by rw [HNB.out]; exact hlt)⟩
        obtain ⟨b1, o1, rfl, hat1⟩ := ElsV.at_ HA.out hx
        obtain ⟨b2, o2, rfl, hat2⟩ := ElsV.at_ HB.out hy
        obtain ⟨r0, r1, r2, r3, r4, r5⟩ := fact6 (hat1.keep HBW.out hat1.lt)
        obtain ⟨s0, s1, s2, s3, s4, s5⟩ := fact6 (hat2.keep HBW.out hat2.lt)
        simp only [show encF.k = 6 from rfl] at r0 r1 r2 r3 r4 r5 s0 s1 s2 s3 s4 s5
        have gq := guard_rfact
        have hq := neq_rfact x y
        have HX := Lib.hid (And.intro hx hy)
        clear hx hy hat1 hat2
        cases he : eqF x y with
        | true =>
          have hxy : x = y := of_decide_eq_true he
          have HT : Hid (a.take (i + 1) = b.take (i + 1)) := Lib.hid (by rw [List.take_add_one, List.take_add_one, HO.out, HX.out.1, HX.out.2, hxy])
          rw [he] at hq
          clear he hxy
          go_wp2_with fail
          go_big_quiet (fail)
          have HB3 := Lib.hid (belowN HBW.out nq)
          clear r0 r1 r2 r3 r4 r5 s0 s1 s2 s3 s4 s5 hq gq
          go_wp2
          go_roundw
          case rel => exact ⟨i + 1, by go_num, by omega, HT, HB3⟩
          case measure => simp [intOf]; omega
        | false =>
          have hxy : x ≠ y := of_decide_eq_false he
          obtain rfl : S = false := by
            rw [← HS.out]
            refine decide_eq_false fun e => hxy ?_
            have h1 := HX.out.1
            rw [e, HX.out.2] at h1
            exact (Option.some.inj h1).symm
          rw [he] at hq
          clear he hxy
          go_wp2_with fail
          go_big_quiet (fail)
          have HB3 := Lib.hid (belowN HBW.out nq)
          clear r0 r1 r2 r3 r4 r5 s0 s1 s2 s3 s4 s5 hq gq
          go_wp2
          go_ret
          exact ⟨rfl, HB3.out⟩
      · obtain rfl : i = na := by omega
        obtain rfl : S = true := by
          rw [← HS.out]
          have h1 := HO.out
          rw [List.take_of_length_le (by rw [HNA.out]; exact Nat.le_refl _), List.take_of_length_le (by rw [HNB.out]; exact Nat.le_refl _)] at h1
          exact decide_eq_true h1
        go_wp2
        go_ret
        exact ⟨rfl, HBW.out⟩
  · have hne : ((na : Int) != (nb : Int)) = true := by rw [bne_iff_ne]; omega
    obtain rfl : S = false := by
      rw [← HS.out]
      exact decide_eq_false fun e => hn (by rw [← HNA.out, e, HNB.out])
    go_enter Tryz.func11, Tryz.ntmps11
    go_wp2
    go_ret
    exact ⟨rfl, Below.refl _ _⟩
end Go.Proofs.YtdnneognilffaaaGreatDoor.Fa
