
/- Plain facts on cubes: what facts come to where no sum fails to fit, told by the sum of each key; parts, turned lists, other signs. No program in it. -/
import Derived.Test.YtimeebildbmhaaaFaOf
import Derived.Test.YtimeebildbmhaaaFaRight
namespace Go.Proofs.Ytimeebildbmhaaa.Fa

/-- The sum of a key. -/
def isum (l : List Fact) (k : Key) : Int := (amts l k).sum
/-- No amount is further from 0. -/
def Bnd (B : Int) (l : List Fact) : Prop := ∀ f ∈ l, -B ≤ f.amt ∧ f.amt ≤ B
theorem sumFrom_fit (B : Int) (hB : 0 ≤ B) : ∀ (ns : List Int) (n c : Int), (∀ x ∈ ns, -B ≤ x ∧ x ≤ B) → -c ≤ n → n ≤ c → c + (ns.length : Int) * B ≤ 9223372036854775807 → sumFrom n ns = (n + ns.sum, 0)
  | [], n, c, _, _, _, _ => by simp [sumFrom]
  | a :: ns, n, c, h, h1, h2, h3 => by
    have ha := h a (List.mem_cons_self ..)
    have e : ((a :: ns).length : Int) * B = (ns.length : Int) * B + B := by rw [List.length_cons]; push_cast; rw [Int.add_mul, Int.one_mul]
    rw [e] at h3
    have hp : 0 ≤ (ns.length : Int) * B := Int.mul_nonneg (Int.natCast_nonneg _) hB
    have hf : fit (n + a) = true := by rw [fit_iff]; omega
    rw [sumFrom_yes ns hf, sumFrom_fit B hB ns (n + a) (c + B) (fun x hx => h x (List.mem_cons_of_mem _ hx)) (by omega) (by omega) (by omega), List.sum_cons]
    rw [Int.add_assoc]
theorem amts_bnd {B : Int} {l : List Fact} (h : Bnd B l) (k : Key) : ∀ x ∈ amts l k, -B ≤ x ∧ x ≤ B := by
  intro x hx
  unfold amts at hx
  obtain ⟨f, hf, rfl⟩ := List.mem_map.1 hx
  exact h f (List.mem_filter.1 hf).1
theorem sum_bnd {B : Int} (hB : 0 ≤ B) : ∀ (ns : List Int), (∀ x ∈ ns, -B ≤ x ∧ x ≤ B) → -((ns.length : Int) * B) ≤ ns.sum ∧ ns.sum ≤ (ns.length : Int) * B
  | [], _ => by simp
  | a :: ns, h => by
    have ha := h a (List.mem_cons_self ..)
    have ih := sum_bnd hB ns fun x hx => h x (List.mem_cons_of_mem _ hx)
    have e : ((a :: ns).length : Int) * B = (ns.length : Int) * B + B := by rw [List.length_cons]; push_cast; rw [Int.add_mul, Int.one_mul]
    rw [e, List.sum_cons]
    omega
theorem isum_bnd {B : Int} (hB : 0 ≤ B) {l : List Fact} (h : Bnd B l) {n : Nat} (hn : l.length ≤ n) (k : Key) : -((n : Int) * B) ≤ isum l k ∧ isum l k ≤ (n : Int) * B := by
  have h1 := sum_bnd hB _ (amts_bnd h k)
  have h2 := amts_length l k
  have h3 : ((amts l k).length : Int) * B ≤ (n : Int) * B := Int.mul_le_mul_of_nonneg_right (by omega) hB
  unfold isum
  omega
/-- What facts come to where every sum fits. -/
def cube (l : List Fact) : List Fact := (keysL l).flatMap fun k => putF k (isum l k)
theorem ofL_fit {B : Int} (hB : 0 ≤ B) {l : List Fact} (h : Bnd B l) {m : Nat} (hm : ∀ k, (amts l k).length ≤ m) (hb : (m : Int) * B ≤ 9223372036854775807) : ofL l = (cube l, 0) := by
  have key : ∀ k, sumFrom 0 (amts l k) = (isum l k, 0) := fun k => by
    have h3 : ((amts l k).length : Int) * B ≤ (m : Int) * B := Int.mul_le_mul_of_nonneg_right (by have := hm k; omega) hB
    rw [sumFrom_fit B hB _ 0 0 (amts_bnd h k) (by omega) (by omega) (by omega), Int.zero_add]; rfl
  have hok : okG (grps l) := by
    intro g hg
    unfold grps at hg
    obtain ⟨k, _, rfl⟩ := List.mem_map.1 hg
    show (sumFrom 0 (amts l k)).2 = 0
    rw [key]
  unfold ofL
  rw [run_end _ hok]
  unfold accG cube grps
  rw [List.flatMap_map]
  congr 2
  funext k
  show putF k (sumFrom 0 (amts l k)).1 = _
  rw [key]
theorem ofL_small {l : List Fact} (h : Bnd 4503599627370496 l) (hn : l.length ≤ 150) : ofL l = (cube l, 0) :=
  ofL_fit (by decide) h (m := 150) (fun k => Nat.le_trans (amts_length l k) hn) (by decide)
theorem isum_no {l : List Fact} {k : Key} (h : k ∉ keysL l) : isum l k = 0 := by
  have : amts l k = [] := by
    unfold amts
    rw [List.map_eq_nil_iff, List.filter_eq_nil_iff]
    intro f hf e
    exact h (mem_keys.2 ⟨f, hf, of_decide_eq_true e⟩)
  unfold isum
  rw [this]; rfl
theorem mem_cube {l : List Fact} {f : Fact} : f ∈ cube l ↔ f.amt = isum l f.key ∧ f.amt ≠ 0 := by
  unfold cube
  rw [List.mem_flatMap]
  constructor
  · rintro ⟨k, _, hf⟩
    unfold putF at hf
    split at hf
    · cases hf
    · simp at hf; subst hf
      exact ⟨rfl, by assumption⟩
  · rintro ⟨h1, h2⟩
    refine ⟨f.key, ?_, ?_⟩
    · by_cases c : f.key ∈ keysL l
      · exact c
      · rw [isum_no c] at h1; exact absurd h1 h2
    · rw [← h1]
      unfold putF
      rw [if_neg h2]
      exact List.mem_singleton.2 rfl
theorem cube_rise (l : List Fact) : RiseF (cube l) := by
  unfold RiseF cube
  rw [List.pairwise_flatMap]
  refine ⟨fun k _ => ?_, ?_⟩
  · unfold putF; split <;> simp
  · refine List.Pairwise.imp ?_ (rise_keys l)
    intro k k' hlt x hx y hy
    unfold putF at hx hy
    split at hx
    · cases hx
    · split at hy
      · cases hy
      · simp at hx hy; subst hx; subst hy; exact hlt
theorem riseF_uniq_list {c d : List Fact} (hc : RiseF c) (hd : RiseF d) (h : ∀ f, f ∈ c ↔ f ∈ d) : c = d :=
  pairs_uniq (T := fun x y : Fact => ltK x.key y.key) (fun _ => ltK_irr _) (fun h1 h2 => ltK_trans h1 h2) hc hd h
theorem cube_eq {l l' : List Fact} (h : ∀ k, isum l k = isum l' k) : cube l = cube l' :=
  riseF_uniq_list (cube_rise l) (cube_rise l') fun f => by rw [mem_cube, mem_cube, h]
theorem amts_append (a b : List Fact) (k : Key) : amts (a ++ b) k = amts a k ++ amts b k := by simp [amts]
theorem isum_append (a b : List Fact) (k : Key) : isum (a ++ b) k = isum a k + isum b k := by unfold isum; rw [amts_append, List.sum_append]
theorem isum_nil (k : Key) : isum [] k = 0 := rfl
theorem isum_cons (f : Fact) (l : List Fact) (k : Key) : isum (f :: l) k = (if f.key = k then f.amt else 0) + isum l k := by
  unfold isum amts
  rw [List.filter_cons]
  by_cases h : f.key = k <;> simp [h]
theorem isum_reverse (l : List Fact) (k : Key) : isum l.reverse k = isum l k := by
  induction l with
  | nil => rfl
  | cons f l ih =>
    rw [List.reverse_cons, isum_append, ih, isum_cons, isum_cons, isum_nil]
    omega
theorem isum_rise {c : List Fact} (h : RiseF c) (k : Key) : isum c k = getL c k := by
  induction c with
  | nil => rfl
  | cons f c ih =>
    obtain ⟨h1, h2⟩ := List.pairwise_cons.1 h
    rw [isum_cons]
    by_cases e : f.key = k
    · subst e
      rw [if_pos rfl, getL_mem h (List.mem_cons_self ..), ih h2, getL_no fun x hx e => ltK_ne (h1 x hx) e.symm]
      omega
    · rw [if_neg e, ih h2, Int.zero_add]
      unfold getL
      rw [List.find?_cons_of_neg (by simpa using e)]
theorem getL_cube (l : List Fact) (k : Key) : getL (cube l) k = isum l k := by
  by_cases h : isum l k = 0
  · rw [h]
    refine getL_no fun x hx e => ?_
    obtain ⟨h1, h2⟩ := mem_cube.1 hx
    rw [e, h] at h1
    exact h2 h1
  · have hm : (⟨k, isum l k⟩ : Fact) ∈ cube l := mem_cube.2 ⟨rfl, h⟩
    exact getL_mem (cube_rise l) hm
theorem isum_cube (l : List Fact) (k : Key) : isum (cube l) k = isum l k := by rw [isum_rise (cube_rise l), getL_cube]
theorem cube_self {c : List Fact} (h : RiseF c) (h0 : ∀ f ∈ c, f.amt ≠ 0) : cube c = c :=
  riseF_uniq_list (cube_rise c) h fun f => by
    rw [mem_cube, isum_rise h]
    constructor
    · rintro ⟨h1, h2⟩
      by_cases hk : ∃ x ∈ c, x.key = f.key
      · obtain ⟨x, hx, e⟩ := hk
        rw [← e, getL_mem h hx] at h1
        have : x = f := by
          cases x; cases f
          simp only at e h1
          rw [e, h1]
        rwa [← this]
      · rw [getL_no fun x hx e => hk ⟨x, hx, e⟩] at h1
        exact absurd h1 h2
    · intro hf
      exact ⟨(getL_mem h hf).symm, h0 f hf⟩
theorem cube_nz (l : List Fact) : ∀ f ∈ cube l, f.amt ≠ 0 := fun _ hf => (mem_cube.1 hf).2
theorem cube_length (l : List Fact) : (cube l).length ≤ l.length := by
  have h1 := keys_length l
  have key : ∀ (K : List Key), (K.flatMap fun k => putF k (isum l k)).length ≤ K.length := by
    intro K
    induction K with
    | nil => simp
    | cons k K ih =>
      rw [List.flatMap_cons, List.length_append, List.length_cons]
      have : (putF k (isum l k)).length ≤ 1 := by unfold putF; split <;> simp
      omega
  exact Nat.le_trans (key _) h1
theorem cube_bnd {B : Int} (hB : 0 ≤ B) {l : List Fact} (h : Bnd B l) {n : Nat} (hn : l.length ≤ n) : Bnd ((n : Int) * B) (cube l) := by
  intro f hf
  rw [(mem_cube.1 hf).1]
  exact isum_bnd hB h hn f.key
theorem cube_right (l : List Fact) (h : l.length ≤ 2000) : rightL (cube l) = true := decide_eq_true ⟨Nat.le_trans (cube_length l) h, cube_nz l, cube_rise l⟩
/-- Other signs. -/
def negF (c : List Fact) : List Fact := c.map fun f => ⟨f.key, -f.amt⟩
theorem isum_neg (c : List Fact) (k : Key) : isum (negF c) k = -isum c k := by
  induction c with
  | nil => rfl
  | cons f c ih =>
    show isum (⟨f.key, -f.amt⟩ :: negF c) k = _
    rw [isum_cons, isum_cons, ih]
    show (if f.key = k then -f.amt else 0) + -isum c k = _
    split <;> omega
theorem cube_zero (c : List Fact) : cube (c ++ negF c) = [] := by
  rw [List.eq_nil_iff_forall_not_mem]
  intro f hf
  obtain ⟨h1, h2⟩ := mem_cube.1 hf
  rw [isum_append, isum_neg] at h1
  omega
theorem amts_rise {c : List Fact} (h : RiseF c) (k : Key) : (amts c k).length ≤ 1 := by
  induction c with
  | nil => simp [amts]
  | cons f c ih =>
    obtain ⟨h1, h2⟩ := List.pairwise_cons.1 h
    unfold amts
    rw [List.filter_cons]
    by_cases e : f.key = k
    · subst e
      have : (c.filter fun x => decide (x.key = f.key)) = [] := by
        rw [List.filter_eq_nil_iff]
        intro x hx e
        exact ltK_ne (h1 x hx) (of_decide_eq_true e).symm
      simp [this]
    · simp only [e, decide_false, Bool.false_eq_true, if_false]
      exact ih h2
/-- The greatest that a sum of few small amounts may be. -/
abbrev B1 : Int := 675539944105574400
theorem cube_bnd1 {l : List Fact} (h : Bnd 4503599627370496 l) (hn : l.length ≤ 150) : Bnd B1 (cube l) := cube_bnd (by decide) h hn
theorem neg_bnd {B : Int} {c : List Fact} (h : Bnd B c) : Bnd B (negF c) := by
  intro f hf
  obtain ⟨x, hx, rfl⟩ := List.mem_map.1 hf
  have := h x hx
  show -B ≤ -x.amt ∧ -x.amt ≤ B
  omega
theorem neg_rise {c : List Fact} (h : RiseF c) : RiseF (negF c) := by
  unfold RiseF negF
  rw [List.pairwise_map]
  exact h
theorem app_bnd {B : Int} {c d : List Fact} (h : Bnd B c) (h' : Bnd B d) : Bnd B (c ++ d) := fun f hf => (List.mem_append.1 hf).elim (h f) (h' f)
/-- Two cubes of such amounts, put together. -/
theorem ofL_two {c d : List Fact} (hc : RiseF c) (hd : RiseF d) (hbc : Bnd B1 c) (hbd : Bnd B1 d) : ofL (c ++ d) = (cube (c ++ d), 0) :=
  ofL_fit (by decide) (app_bnd hbc hbd) (m := 2) (fun k => by
    rw [amts_append, List.length_append]
    have h1 := amts_rise hc k
    have h2 := amts_rise hd k
    omega) (by decide)
theorem ofL_zero {c : List Fact} (hc : RiseF c) (hb : Bnd B1 c) : ofL (c ++ negF c) = ([], 0) := by
  rw [ofL_two hc (neg_rise hc) hb (neg_bnd hb), cube_zero]
theorem ofL_self {c : List Fact} (hc : RiseF c) (h0 : ∀ f ∈ c, f.amt ≠ 0) (hb : Bnd B1 c) : ofL c = (c, 0) := by
  have := ofL_two hc List.Pairwise.nil hb (fun f hf => by cases hf)
  rw [List.append_nil] at this
  rw [this, cube_self hc h0]
theorem bnd_in64 {c : List Fact} (h : Bnd B1 c) : ∀ f ∈ c, In64 f.amt := fun f hf => by
  have := h f hf
  unfold B1 at this
  exact ⟨by omega, by omega⟩
theorem small_bnd {l : List Fact} (h : l.all (fun x => decide (x.amt ≤ 4503599627370496) && decide (-4503599627370496 ≤ x.amt)) = true) : Bnd 4503599627370496 l := by
  intro f hf
  have := List.all_eq_true.1 h f hf
  simp only [Bool.and_eq_true, decide_eq_true_eq] at this
  exact ⟨this.2, this.1⟩
/-- Parts, put together, are the whole. -/
theorem cube_parts (a b l : List Fact) (h : ∀ k, isum l k = isum a k + isum b k) : cube (cube a ++ cube b) = cube l :=
  cube_eq fun k => by rw [isum_append, isum_cube, isum_cube, h]
end Go.Proofs.Ytimeebildbmhaaa.Fa
