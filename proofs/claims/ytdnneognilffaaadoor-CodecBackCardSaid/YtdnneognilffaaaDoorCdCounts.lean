
/- The plain facts on how many lines and blanks the text of a cube has; texts with a byte more, with a line more, with lines exchanged, are no cube's. No walk in it. -/
import Derived.Test.YtdnneognilffaaaDoorCdPlain
import Derived.Lib.ItoaNum
namespace Go.Proofs.YtdnneognilffaaaDoor.Cd
open Go.Proofs.YtdnneognilffaaaDoor.Fa

theorem count_word {l : List UInt8} (h : l.all wordC = true) (b : UInt8) (hb : wordC b = false) : l.count b = 0 := by
  rw [List.count_eq_zero]
  intro hm
  rw [List.all_eq_true] at h
  rw [h _ hm] at hb
  cases hb
theorem count_fact {f : Fact} (h : keyOk f.key = true) (b : UInt8) (hb : wordC b = false) : (factL f).count b = if b = 32 then 5 else 0 := by
  obtain ⟨h1, h2, h3, h4, _, _⟩ := key_words h
  rw [factL_eq]
  simp only [List.count_append, List.count_cons, count_word (name_word h1).1 b hb, count_word (name_word h2).1 b hb, count_word (name_word h3).1 b hb, count_word (part_word h4).1 b hb, count_word (itoa_word f.key.m) b hb, count_word (itoa_word f.amt) b hb]
  by_cases e : b = 32
  · subst e; rfl
  · have : ((32 : UInt8) == b) = false := by simpa using fun h => e h.symm
    simp [this, e]
theorem count_rows : ∀ {c : List Fact}, (∀ f ∈ c, keyOk f.key = true) → (b : UInt8) → wordC b = false → (rowsL c).count b = c.length * ((if b = 32 then 5 else 0) + if b = 10 then 1 else 0)
  | [], _, _, _ => by simp [rowsL]
  | f :: c, h, b, hb => by
    rw [rowsL_cons, List.count_append, List.count_cons, count_fact (h f (List.mem_cons_self ..)) b hb, count_rows (fun g hg => h g (List.mem_cons_of_mem _ hg)) b hb, List.length_cons, Nat.add_mul]
    by_cases e : b = 10
    · subst e
      simp
    · have : ((10 : UInt8) == b) = false := by simpa using fun h => e h.symm
      simp [this, e]
      omega
theorem count_first (n : Nat) (b : UInt8) (hb : wordC b = false) : (firstL n).count b = if b = 32 then 1 else 0 := by
  unfold firstL
  rw [List.count_append, count_word (itoa_word _) b hb, Nat.add_zero]
  have h : ∀ x ∈ [(99 : UInt8), 117, 98, 101], (x == b) = false := fun x hx => by
    rw [beq_eq_false_iff_ne]
    rintro rfl
    simp only [List.mem_cons, List.not_mem_nil, or_false] at hx
    rcases hx with rfl | rfl | rfl | rfl <;> exact absurd hb (by decide)
  simp only [List.count_cons, List.count_nil, h _ (by simp : (99 : UInt8) ∈ _), h _ (by simp : (117 : UInt8) ∈ _), h _ (by simp : (98 : UInt8) ∈ _), h _ (by simp : (101 : UInt8) ∈ _)]
  by_cases e : b = 32
  · subst e; rfl
  · have : ((32 : UInt8) == b) = false := by simpa using fun h => e h.symm
    simp [this, e]
theorem count_text {c : List Fact} (h : okC c = true) : (textL c).count 10 = c.length + 1 ∧ (textL c).count 32 = c.length * 5 + 1 ∧ (textL c).count 9 = 0 ∧ (textL c).count 35 = 0 := by
  have k := okC_keys h
  rw [textL_eq]
  simp only [List.count_append, List.count_cons, count_first _ 10 (by decide), count_first _ 32 (by decide), count_first _ 9 (by decide), count_first _ 35 (by decide), count_rows k 10 (by decide), count_rows k 32 (by decide), count_rows k 9 (by decide), count_rows k 35 (by decide)]
  refine ⟨?_, ?_, ?_, ?_⟩ <;> simp
  omega
theorem count_mid (l m : List UInt8) (k : Nat) (b : UInt8) : (l.take k ++ m ++ l.drop k).count b = l.count b + m.count b := by
  conv => rhs; rw [← List.take_append_drop k l]
  simp only [List.count_append]
  omega
/-- A byte more. -/
def moreL : Nat → List UInt8
  | 0 => [32]
  | 1 => [10]
  | 2 => [9]
  | _ => [35]
theorem more_none {c : List Fact} (h : okC c = true) (k j : Nat) : parseP ((textL c).take k ++ moreL j ++ (textL c).drop k) = none := by
  refine parseP_none fun d hd _ e => ?_
  obtain ⟨a1, a2, a3, a4⟩ := count_text h
  obtain ⟨b1, b2, b3, b4⟩ := count_text hd
  have e1 := congrArg (List.count 10) e
  have e2 := congrArg (List.count 32) e
  have e3 := congrArg (List.count 9) e
  have e4 := congrArg (List.count 35) e
  rw [count_mid] at e1 e2 e3 e4
  have hm : moreL j = [32] ∨ moreL j = [10] ∨ moreL j = [9] ∨ moreL j = [35] := by
    match j with
    | 0 => exact .inl rfl
    | 1 => exact .inr (.inl rfl)
    | 2 => exact .inr (.inr (.inl rfl))
    | _ + 3 => exact .inr (.inr (.inr rfl))
  rcases hm with hm | hm | hm | hm <;> rw [hm] at e1 e2 e3 e4
  · rw [show ([32] : List UInt8).count 32 = 1 from rfl] at e2; omega
  · rw [show ([10] : List UInt8).count 10 = 1 from rfl] at e1; rw [show ([10] : List UInt8).count 32 = 0 from rfl] at e2; omega
  · rw [show ([9] : List UInt8).count 9 = 1 from rfl] at e3; omega
  · rw [show ([35] : List UInt8).count 35 = 1 from rfl] at e4; omega
theorem first_eq {u v x y : List UInt8} (hu : 10 ∉ u) (hv : 10 ∉ v) (h : u ++ 10 :: x = v ++ 10 :: y) : u = v ∧ x = y := by
  have h1 := rowsGo_cut u x hu
  have h2 := rowsGo_cut v y hv
  have h3 := behind_cut u x hu
  have h4 := behind_cut v y hv
  rw [h] at h1 h3
  rw [h1] at h2
  rw [h3] at h4
  injection h2 with h5 _
  exact ⟨h5, h4⟩
theorem firstL_inj {n m : Nat} (h : firstL n = firstL m) : n = m := by
  unfold firstL at h
  have := itoa_inj (List.append_cancel_left h)
  omega
def zeroRow : List UInt8 := [69, 32, 97, 32, 102, 32, 45, 32, 48, 32, 48, 10]
theorem row_none {c : List Fact} (h : okC c = true) : parseP (textL c ++ zeroRow) = none := by
  refine parseP_none fun d hd _ e => ?_
  obtain ⟨a1, _⟩ := count_text h
  obtain ⟨b1, _⟩ := count_text hd
  have e1 := congrArg (List.count 10) e
  rw [List.count_append, show zeroRow.count 10 = 1 from rfl] at e1
  rw [textL_eq, textL_eq, List.append_assoc] at e
  have := firstL_inj (first_eq (firstL_no _) (firstL_no _) e).1
  omega
theorem itoa_three {n : Nat} (h : n < 1000) : (Lib.itoa (n : Int)).length ≤ 3 := by
  rw [itoa_length, if_neg (by omega), Int.natAbs_natCast]
  by_cases h1 : n < 10
  · rw [Lib.nDigits_small h1]; omega
  · rw [Lib.nDigits_big h1]
    by_cases h2 : n / 10 < 10
    · rw [Lib.nDigits_small h2]; omega
    · rw [Lib.nDigits_big h2, Lib.nDigits_small (by omega)]; omega
/-- A fact less, a shorter text. -/
theorem text_less {c : List Fact} {x : Fact} (h : okC (c ++ [x]) = true) (hc : c.length < 999) : okC c = true ∧ (textL c).length < (textL (c ++ [x])).length := by
  have hr : RightP (c ++ [x]) := of_decide_eq_true (okC_right h)
  have hk := okC_keys h
  refine ⟨okC_mk (decide_eq_true ⟨by have := hr.1; rw [List.length_append] at this; omega, fun f hf => hr.2.1 f (List.mem_append_left _ hf), ?_⟩) (fun f hf => hk f (List.mem_append_left _ hf)), ?_⟩
  · exact (List.pairwise_append.1 hr.2.2).1
  · have hx := factL_size (hk x (by simp))
    have h1 := itoa_three (n := c.length) (by omega)
    have h2 := List.length_pos_iff.2 (itoa_ne_nil (((c ++ [x]).length : Nat) : Int))
    rw [textL_eq, textL_eq, rowsL_append]
    unfold firstL
    simp only [List.length_append, List.length_cons, List.length_nil, rowsL_cons] at h2 ⊢
    simp only [rowsL, List.flatMap_nil, List.length_nil]
    omega
/-- Facts with two of them exchanged do not rise. -/
theorem swap_fall {c : List Fact} {i k : Nat} {x y : Fact} (h : RiseF c) (hi : c[i]? = some x) (hk : c[k]? = some y) (hne : i ≠ k) : ¬ RiseF ((c.set i y).set k x) := by
  intro hr
  have li := (List.getElem?_eq_some_iff.1 hi).1
  have lk := (List.getElem?_eq_some_iff.1 hk).1
  have gi : ((c.set i y).set k x)[i]? = some y := by
    rw [List.getElem?_set_ne (Ne.symm hne), List.getElem?_set_self li]
  have gk : ((c.set i y).set k x)[k]? = some x := by
    rw [List.getElem?_set_self (by rw [List.length_set]; exact lk)]
  rcases Nat.lt_or_ge i k with hl | hl
  · exact ltK_asym (riseF_at h hl hi hk) (riseF_at hr hl gi gk)
  · have hl' : k < i := by omega
    exact ltK_asym (riseF_at h hl' hk hi) (riseF_at hr hl' gk gi)
theorem swap_mem {c : List Fact} {i k : Nat} {x y : Fact} (hi : c[i]? = some x) (hk : c[k]? = some y) : ∀ f ∈ (c.set i y).set k x, f ∈ c := by
  intro f hf
  rcases List.mem_or_eq_of_mem_set hf with hf | rfl
  · rcases List.mem_or_eq_of_mem_set hf with hf | rfl
    · exact hf
    · exact List.mem_of_getElem? hk
  · exact List.mem_of_getElem? hi
theorem swap_none {c : List Fact} {i k : Nat} {x y : Fact} (h : okC c = true) (hf : FitC c) (hi : c[i]? = some x) (hk : c[k]? = some y) (hne : i ≠ k) : parseP (firstL c.length ++ 10 :: rowsL ((c.set i y).set k x)) = none := by
  have hm := swap_mem hi hk
  have hr := readP_rows c.length (fun f h' => okC_keys h f (hm f h')) (fun f h' => hf f (hm f h'))
  unfold parseP
  rw [hr]
  refine if_neg fun h' => ?_
  have h1 : RightP c := of_decide_eq_true (okC_right h)
  have h2 : RightP ((c.set i y).set k x) := of_decide_eq_true (okC_right h'.1)
  exact swap_fall h1.2.2 hi hk hne h2.2.2
theorem swap_back {c : List Fact} {i k : Nat} {x y : Fact} (hi : c[i]? = some x) (hk : c[k]? = some y) (hne : i ≠ k) : (((c.set i y).set k x).set i x).set k y = c := by
  have li := (List.getElem?_eq_some_iff.1 hi)
  have lk := (List.getElem?_eq_some_iff.1 hk)
  apply List.ext_getElem?
  intro j
  by_cases hj : j = k
  · subst hj
    rw [List.getElem?_set_self (by simp only [List.length_set]; exact lk.1), hk]
  · rw [List.getElem?_set_ne (Ne.symm hj)]
    by_cases hj' : j = i
    · subst hj'
      rw [List.getElem?_set_self (by simp only [List.length_set]; exact li.1), hi]
    · rw [List.getElem?_set_ne (Ne.symm hj'), List.getElem?_set_ne (Ne.symm hj), List.getElem?_set_ne (Ne.symm hj')]
end Go.Proofs.YtdnneognilffaaaDoor.Cd
