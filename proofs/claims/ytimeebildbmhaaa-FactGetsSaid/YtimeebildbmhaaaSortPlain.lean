
/- Plain facts on a stable sort of an array, with no program in it: rows that stand in one strict order, exchanged ranges, a rotation, the binary searches and the merge of Go's symMerge, its insertion sort, and its blocks. -/
import Derived.Sort.WalkA
namespace Go.Proofs.Ytimeebildbmhaaa
open Go.Sort
variable {α : Type} [Inhabited α]

/-- What stands from a up to b stands in the order T. -/
def Asc (T : α → α → Prop) (a b : Nat) (d : Array α) : Prop := ∀ i j, a ≤ i → i < j → j < b → T d[i]! d[j]!
/-- Nothing but what stood from a up to b stands there now; all else is as it was. -/
def Keep (a b : Nat) (d d' : Array α) : Prop :=
  d'.size = d.size ∧ (∀ i, (i < a ∨ b ≤ i) → d'[i]! = d[i]!) ∧ ∀ i, a ≤ i → i < b → ∃ j, a ≤ j ∧ j < b ∧ d'[i]! = d[j]!
/-- What a test of one from m on against one ahead of m tells is how the two stand. -/
def Meet (lt : α → α → Bool) (T : α → α → Prop) (a m b : Nat) (d : Array α) : Prop :=
  ∀ i j, a ≤ i → i < m → m ≤ j → j < b → (lt d[j]! d[i]! = true → T d[j]! d[i]!) ∧ (lt d[j]! d[i]! = false → T d[i]! d[j]!)

theorem Keep.refl (a b : Nat) (d : Array α) : Keep a b d d := ⟨rfl, fun _ _ => rfl, fun i h1 h2 => ⟨i, h1, h2, rfl⟩⟩
theorem Keep.trans {a b : Nat} {d d' d'' : Array α} (h : Keep a b d d') (h' : Keep a b d' d'') : Keep a b d d'' :=
  ⟨h'.1.trans h.1, fun i hi => (h'.2.1 i hi).trans (h.2.1 i hi), fun i h1 h2 => by
    obtain ⟨j, j1, j2, e⟩ := h'.2.2 i h1 h2
    obtain ⟨k, k1, k2, e'⟩ := h.2.2 j j1 j2
    exact ⟨k, k1, k2, e.trans e'⟩⟩
theorem Keep.wider {a b a' b' : Nat} {d d' : Array α} (h : Keep a b d d') (ha : a' ≤ a) (hb : b ≤ b') : Keep a' b' d d' :=
  ⟨h.1, fun i hi => h.2.1 i (by omega), fun i h1 h2 => by
    by_cases hi : a ≤ i ∧ i < b
    · obtain ⟨j, j1, j2, e⟩ := h.2.2 i hi.1 hi.2
      exact ⟨j, by omega, by omega, e⟩
    · exact ⟨i, h1, h2, h.2.1 i (by omega)⟩⟩
theorem swp_at (d : Array α) {i j : Nat} (hi : i < d.size) (hj : j < d.size) (k : Nat) : (swp d i j)[k]! = if k = j then d[i]! else if k = i then d[j]! else d[k]! := by
  by_cases h1 : k = j
  · subst h1; rw [if_pos rfl, swp_right d i k hj]
  · rw [if_neg h1]
    by_cases h2 : k = i
    · subst h2; rw [if_pos rfl, swp_left d k j hi h1]
    · rw [if_neg h2, swp_other d i j k h2 h1]
theorem Keep.swp {a b i j : Nat} (d : Array α) (hi : a ≤ i) (hi' : i < b) (hj : a ≤ j) (hj' : j < b) (hb : b ≤ d.size) : Keep a b d (swp d i j) :=
  ⟨size_swp d i j, fun k hk => by rw [swp_at d (by omega) (by omega), if_neg (by omega), if_neg (by omega)], fun k h1 h2 => by
    rw [swp_at d (by omega) (by omega)]
    by_cases e1 : k = j
    · rw [if_pos e1]; exact ⟨i, hi, hi', rfl⟩
    · rw [if_neg e1]
      by_cases e2 : k = i
      · rw [if_pos e2]; exact ⟨j, hj, hj', rfl⟩
      · rw [if_neg e2]; exact ⟨k, h1, h2, rfl⟩⟩
theorem Keep.of_at {a b : Nat} {d d' : Array α} (hs : d'.size = d.size) (f : Nat → Nat) (hf : ∀ k, d'[k]! = d[f k]!) (ho : ∀ k, (k < a ∨ b ≤ k) → f k = k) (hi : ∀ k, a ≤ k → k < b → a ≤ f k ∧ f k < b) : Keep a b d d' :=
  ⟨hs, fun k hk => by rw [hf, ho k hk], fun k h1 h2 => ⟨f k, (hi k h1 h2).1, (hi k h1 h2).2, hf k⟩⟩
theorem Asc.keep_out {T : α → α → Prop} {a b lo hi : Nat} {d d' : Array α} (h : Asc T a b d) (hk : Keep lo hi d d') (ho : b ≤ lo ∨ hi ≤ a) : Asc T a b d' := by
  intro i j h1 h2 h3
  rw [hk.2.1 i (by omega), hk.2.1 j (by omega)]
  exact h i j h1 h2 h3

/-! ### Exchanged ranges and the rotation -/
/-- Where the k-th of two exchanged ranges of n, at a and at b, comes from. -/
def swAt (a b n k : Nat) : Nat := if a ≤ k ∧ k < a + n then b + (k - a) else if b ≤ k ∧ k < b + n then a + (k - b) else k
/-- Where the k-th of a rotation comes from. -/
def rotAt (lo m hi k : Nat) : Nat := if k < lo ∨ hi ≤ k then k else if k < lo + (hi - m) then k + (m - lo) else k - (hi - m)
theorem swAt_zero (a b k : Nat) : swAt a b 0 k = k := by unfold swAt; rw [if_neg (by omega), if_neg (by omega)]
theorem swAt_step {d d' : Array α} {a b i : Nat} (hs : d'.size = d.size) (h : ∀ k, d'[k]! = d[swAt a b i k]!) (hab : a + i < b) (hb : b + i < d.size) (k : Nat) :
    (swp d' (a + i) (b + i))[k]! = d[swAt a b (i + 1) k]! := by
  rw [swp_at d' (by omega) (by omega)]
  by_cases h1 : k = b + i
  · subst h1; rw [if_pos rfl, h]; unfold swAt
    rw [if_neg (by omega), if_neg (by omega), if_neg (by omega), if_pos (by omega)]; congr 1; omega
  · rw [if_neg h1]
    by_cases h2 : k = a + i
    · subst h2; rw [if_pos rfl, h]; unfold swAt
      rw [if_neg (by omega), if_neg (by omega), if_pos (by omega)]; congr 1; omega
    · rw [if_neg h2, h]; unfold swAt
      by_cases h3 : a ≤ k ∧ k < a + i
      · rw [if_pos h3, if_pos (by omega)]
      · rw [if_neg h3]
        by_cases h4 : b ≤ k ∧ k < b + i
        · rw [if_pos h4, if_neg (by omega), if_pos (by omega)]
        · rw [if_neg h4, if_neg (by omega), if_neg (by omega)]
theorem rot_more {lo m hi j k : Nat} (hlm : lo + j < m) (hh : hi = m + j) : swAt lo m j (rotAt (lo + j) m hi k) = rotAt lo m hi k := by
  subst hh
  unfold swAt rotAt
  (repeat' split) <;> omega
theorem rot_less {lo m hi i k : Nat} (hlm : lo + i = m) (hh : m + i < hi) : swAt lo (hi - i) i (rotAt lo m (hi - i) k) = rotAt lo m hi k := by
  unfold swAt rotAt
  (repeat' split) <;> omega
theorem rot_same {lo m hi i k : Nat} (hlm : lo + i = m) (hh : m + i = hi) : swAt lo m i k = rotAt lo m hi k := by
  unfold swAt rotAt
  (repeat' split) <;> omega
/-- A rotation that has gone on: what is left makes the whole. -/
theorem rot_on {d dk d' : Array α} {a m b lo hi lo' hi' x y n : Nat} (h : ∀ k, d[rotAt a m b k]! = dk[rotAt lo m hi k]!) (hd : ∀ k, d'[k]! = dk[swAt x y n k]!)
    (e : ∀ k, swAt x y n (rotAt lo' m hi' k) = rotAt lo m hi k) (k : Nat) : d[rotAt a m b k]! = d'[rotAt lo' m hi' k]! := by rw [h, hd, e]
theorem rotAt_keep {a m b : Nat} (h1 : a ≤ m) (h2 : m ≤ b) : (∀ k, (k < a ∨ b ≤ k) → rotAt a m b k = k) ∧ ∀ k, a ≤ k → k < b → a ≤ rotAt a m b k ∧ rotAt a m b k < b := by
  refine ⟨fun k hk => by unfold rotAt; rw [if_pos hk], fun k h3 h4 => ?_⟩
  unfold rotAt; (repeat' split) <;> omega

/-! ### One that is put into its place -/
/-- The first one moved to the place i - 1. -/
def upAt (a i k : Nat) : Nat := if a ≤ k ∧ k + 1 < i then k + 1 else if k + 1 = i ∧ a ≤ k then a else k
/-- The one at m moved to the place i. -/
def dnAt (i m k : Nat) : Nat := if i < k ∧ k ≤ m then k - 1 else if k = i then m else k
theorem up_step {d d' : Array α} {a k : Nat} (hs : d'.size = d.size) (h : ∀ x, d'[x]! = d[upAt a (k + 1) x]!) (hak : a ≤ k) (hb : k + 1 < d.size) (x : Nat) : (swp d' k (k + 1))[x]! = d[upAt a (k + 2) x]! := by
  rw [swp_at d' (by omega) (by omega)]
  by_cases h1 : x = k + 1
  · subst h1; rw [if_pos rfl, h]; congr 1; unfold upAt; (repeat' split) <;> omega
  · rw [if_neg h1]
    by_cases h2 : x = k
    · subst h2; rw [if_pos rfl, h]; congr 1; unfold upAt; (repeat' split) <;> omega
    · rw [if_neg h2, h]; congr 1; unfold upAt; (repeat' split) <;> omega
theorem dn_step {d d' : Array α} {m k : Nat} (hs : d'.size = d.size) (h : ∀ x, d'[x]! = d[dnAt (k + 1) m x]!) (hkm : k + 1 ≤ m) (hb : m < d.size) (x : Nat) : (swp d' (k + 1) k)[x]! = d[dnAt k m x]! := by
  rw [swp_at d' (by omega) (by omega)]
  by_cases h1 : x = k
  · subst h1; rw [if_pos rfl, h]; congr 1; unfold dnAt; (repeat' split) <;> omega
  · rw [if_neg h1]
    by_cases h2 : x = k + 1
    · subst h2; rw [if_pos rfl, h]; congr 1; unfold dnAt; (repeat' split) <;> omega
    · rw [if_neg h2, h]; congr 1; unfold dnAt; (repeat' split) <;> omega
theorem up_id (a x : Nat) : upAt a (a + 1) x = x := by unfold upAt; (repeat' split) <;> omega
theorem dn_id (m x : Nat) : dnAt m m x = x := by unfold dnAt; (repeat' split) <;> omega

section
variable {lt : α → α → Bool} {T : α → α → Prop}
/-- The first one alone ahead of the rest: put to its place. -/
theorem merge_up {a b i : Nat} {d d' : Array α} (hA : Asc T (a + 1) b d) (hi : a + 1 ≤ i) (hib : i ≤ b) (hl : ∀ k, a + 1 ≤ k → k < i → T d[k]! d[a]!) (hr : ∀ k, i ≤ k → k < b → T d[a]! d[k]!)
    (hs : d'.size = d.size) (h : ∀ x, d'[x]! = d[upAt a i x]!) : Keep a b d d' ∧ Asc T a b d' := by
  refine ⟨Keep.of_at hs _ h (fun k hk => by unfold upAt; (repeat' split) <;> omega) (fun k h1 h2 => by unfold upAt; (repeat' split) <;> omega), ?_⟩
  intro x y hx hxy hy
  rw [h, h]
  by_cases e1 : y + 1 < i
  · have ex : upAt a i x = x + 1 := by unfold upAt; (repeat' split) <;> omega
    have ey : upAt a i y = y + 1 := by unfold upAt; (repeat' split) <;> omega
    rw [ex, ey]; exact hA _ _ (by omega) (by omega) (by omega)
  · by_cases e2 : y + 1 = i
    · have ex : upAt a i x = x + 1 := by unfold upAt; (repeat' split) <;> omega
      have ey : upAt a i y = a := by unfold upAt; (repeat' split) <;> omega
      rw [ex, ey]; exact hl _ (by omega) (by omega)
    · have ey : upAt a i y = y := by unfold upAt; (repeat' split) <;> omega
      rw [ey]
      by_cases e3 : x + 1 < i
      · have ex : upAt a i x = x + 1 := by unfold upAt; (repeat' split) <;> omega
        rw [ex]; exact hA _ _ (by omega) (by omega) (by omega)
      · by_cases e4 : x + 1 = i
        · have ex : upAt a i x = a := by unfold upAt; (repeat' split) <;> omega
          rw [ex]; exact hr _ (by omega) (by omega)
        · have ex : upAt a i x = x := by unfold upAt; (repeat' split) <;> omega
          rw [ex]; exact hA _ _ (by omega) (by omega) (by omega)
theorem merge_dn {a m i : Nat} {d d' : Array α} (hA : Asc T a m d) (hi : a ≤ i) (him : i ≤ m) (hl : ∀ k, a ≤ k → k < i → T d[k]! d[m]!) (hr : ∀ k, i ≤ k → k < m → T d[m]! d[k]!)
    (hs : d'.size = d.size) (h : ∀ x, d'[x]! = d[dnAt i m x]!) : Keep a (m + 1) d d' ∧ Asc T a (m + 1) d' := by
  refine ⟨Keep.of_at hs _ h (fun k hk => by unfold dnAt; (repeat' split) <;> omega) (fun k h1 h2 => by unfold dnAt; (repeat' split) <;> omega), ?_⟩
  intro x y hx hxy hy
  rw [h, h]
  by_cases e1 : y < i
  · have ex : dnAt i m x = x := by unfold dnAt; (repeat' split) <;> omega
    have ey : dnAt i m y = y := by unfold dnAt; (repeat' split) <;> omega
    rw [ex, ey]; exact hA _ _ (by omega) (by omega) (by omega)
  · by_cases e2 : y = i
    · have ex : dnAt i m x = x := by unfold dnAt; (repeat' split) <;> omega
      have ey : dnAt i m y = m := by unfold dnAt; (repeat' split) <;> omega
      rw [ex, ey]; exact hl _ (by omega) (by omega)
    · have ey : dnAt i m y = y - 1 := by unfold dnAt; (repeat' split) <;> omega
      rw [ey]
      by_cases e3 : x < i
      · have ex : dnAt i m x = x := by unfold dnAt; (repeat' split) <;> omega
        rw [ex]; exact hA _ _ (by omega) (by omega) (by omega)
      · by_cases e4 : x = i
        · have ex : dnAt i m x = m := by unfold dnAt; (repeat' split) <;> omega
          rw [ex]; exact hr _ (by omega) (by omega)
        · have ex : dnAt i m x = x - 1 := by unfold dnAt; (repeat' split) <;> omega
          rw [ex]; exact hA _ _ (by omega) (by omega) (by omega)

/-! ### The merge of two rows -/
/-- Where the search starts and ends. -/
def mid0 (a b : Nat) : Nat := (a + b) / 2
def st0 (a m b : Nat) : Nat := if mid0 a b < m then mid0 a b + m - b else a
def en0 (a m b : Nat) : Nat := if mid0 a b < m then mid0 a b else m
/-- The search's end: what is ahead of s stays, what is behind it goes. -/
def Found (T : α → α → Prop) (a m b s : Nat) (d : Array α) : Prop :=
  st0 a m b ≤ s ∧ s ≤ en0 a m b ∧ (∀ c, st0 a m b ≤ c → c < s → T d[c]! d[mid0 a b + m - 1 - c]!) ∧ ∀ c, s ≤ c → c < en0 a m b → T d[mid0 a b + m - 1 - c]! d[c]!
theorem st0_bd {a m b : Nat} (h1 : a < m) (h2 : m < b) : a ≤ st0 a m b ∧ st0 a m b ≤ en0 a m b ∧ en0 a m b ≤ m ∧ en0 a m b ≤ mid0 a b ∧ mid0 a b + m ≤ b + st0 a m b ∧ a < mid0 a b ∧ mid0 a b < b := by
  unfold st0 en0 mid0; (repeat' split) <;> omega
theorem halves_part (hT : ∀ x y z, T x y → T y z → T x z) {a m b s M e : Nat} {d d1 : Array α} (h1 : a < m) (h2 : m < b) (hL : Asc T a m d) (hR : Asc T m b d) (hM : Meet lt T a m b d) (hf : Found T a m b s d)
    (hM0 : mid0 a b = M) (he : e + s = M + m) (hs : d1.size = d.size) (h : ∀ k, d1[k]! = d[rotAt s m e k]!) :
    Keep a b d d1 ∧ Asc T a s d1 ∧ Asc T s M d1 ∧ Meet lt T a s M d1 ∧ Asc T M e d1 ∧ Asc T e b d1 ∧ Meet lt T M e b d1 ∧
      ∀ i j, a ≤ i → i < M → M ≤ j → j < b → T d1[i]! d1[j]! := by
  obtain ⟨b1, b2, b3, b4, b5, b6, b7⟩ := st0_bd h1 h2
  obtain ⟨f1, f2, f3, f4⟩ := hf
  simp only [hM0] at b4 b5 b6 b7 f3 f4
  have r1 : ∀ k, k < s → rotAt s m e k = k := fun k hk => by unfold rotAt; rw [if_pos (by omega)]
  have r2 : ∀ k, s ≤ k → k < M → rotAt s m e k = k + (m - s) := fun k hk hk' => by unfold rotAt; rw [if_neg (by omega), if_pos (by omega)]
  have r3 : ∀ k, M ≤ k → k < e → rotAt s m e k = k - (e - m) := fun k hk hk' => by unfold rotAt; rw [if_neg (by omega), if_neg (by omega)]
  have r4 : ∀ k, e ≤ k → rotAt s m e k = k := fun k hk => by unfold rotAt; rw [if_pos (by omega)]
  have x1 : ∀ i j, a ≤ i → i < s → e ≤ j → j < b → T d[i]! d[j]! := fun i j i1 i2 j1 j2 => by
    have hs' : st0 a m b < s := by
      rcases Nat.lt_or_ge (st0 a m b) s with h | h
      · exact h
      · exfalso
        have : s = st0 a m b := by omega
        unfold st0 at this
        rw [hM0] at this
        split at this <;> omega
    have := f3 (s - 1) (by omega) (by omega)
    rw [show M + m - 1 - (s - 1) = e by omega] at this
    have t1 : T d[i]! d[e]! := by
      by_cases h : i = s - 1
      · rw [h]; exact this
      · exact hT _ _ _ (hL i (s - 1) i1 (by omega) (by omega)) this
    by_cases h : j = e
    · rw [h]; exact t1
    · exact hT _ _ _ t1 (hR e j (by omega) (by omega) j2)
  have x2 : ∀ i j, s ≤ i → i < m → m ≤ j → j < e → T d[j]! d[i]! := fun i j i1 i2 j1 j2 => by
    have hs' : s < en0 a m b := by
      rcases Nat.lt_or_ge s (en0 a m b) with h | h
      · exact h
      · exfalso
        have : s = en0 a m b := by omega
        unfold en0 at this
        rw [hM0] at this
        split at this <;> omega
    have := f4 s (by omega) hs'
    rw [show M + m - 1 - s = e - 1 by omega] at this
    have t1 : T d[j]! d[s]! := by
      by_cases h : j = e - 1
      · rw [h]; exact this
      · exact hT _ _ _ (hR j (e - 1) j1 (by omega) (by omega)) this
    by_cases h : i = s
    · rw [h]; exact t1
    · exact hT _ _ _ t1 (hL s i (by omega) (by omega) i2)
  refine ⟨?_, ?_, ?_, ?_, ?_, ?_, ?_, ?_⟩
  · exact Keep.of_at hs _ h (fun k hk => by unfold rotAt; (repeat' split) <;> omega) (fun k h1 h2 => by unfold rotAt; (repeat' split) <;> omega)
  · intro i j i1 i2 i3
    rw [h, h, r1 i (by omega), r1 j (by omega)]; exact hL _ _ i1 i2 (by omega)
  · intro i j i1 i2 i3
    rw [h, h, r2 i (by omega) (by omega), r2 j (by omega) (by omega)]; exact hR _ _ (by omega) (by omega) (by omega)
  · intro i j i1 i2 j1 j2
    rw [h i, h j, r1 i (by omega), r2 j (by omega) (by omega)]; exact hM _ _ i1 (by omega) (by omega) (by omega)
  · intro i j i1 i2 i3
    rw [h, h, r3 i (by omega) (by omega), r3 j (by omega) (by omega)]; exact hL _ _ (by omega) (by omega) (by omega)
  · intro i j i1 i2 i3
    rw [h, h, r4 i (by omega), r4 j (by omega)]; exact hR _ _ (by omega) (by omega) (by omega)
  · intro i j i1 i2 j1 j2
    rw [h i, h j, r3 i (by omega) (by omega), r4 j (by omega)]; exact hM _ _ (by omega) (by omega) (by omega) (by omega)
  · intro i j i1 i2 j1 j2
    rw [h i, h j]
    by_cases c1 : i < s
    · rw [r1 i c1]
      by_cases c2 : j < e
      · rw [r3 j j1 c2]; exact hL _ _ i1 (by omega) (by omega)
      · rw [r4 j (by omega)]; exact x1 _ _ i1 c1 (by omega) j2
    · rw [r2 i (by omega) i2]
      by_cases c2 : j < e
      · rw [r3 j j1 c2]; exact x2 _ _ (by omega) (by omega) (by omega) (by omega)
      · rw [r4 j (by omega)]; exact hR _ _ (by omega) (by omega) (by omega)
/-- Both halves in order, the first one ahead of the second: all in order. -/
theorem halves_join {a M b : Nat} {d1 d2 d3 : Array α} (ha : a ≤ M) (hb : M ≤ b) (hx : ∀ i j, a ≤ i → i < M → M ≤ j → j < b → T d1[i]! d1[j]!) (k2 : Keep a M d1 d2) (a2 : Asc T a M d2) (k3 : Keep M b d2 d3) (a3 : Asc T M b d3) :
    Keep a b d1 d3 ∧ Asc T a b d3 := by
  refine ⟨(k2.wider (Nat.le_refl _) hb).trans (k3.wider ha (Nat.le_refl _)), fun i j h1 h2 h3 => ?_⟩
  by_cases c1 : j < M
  · rw [k3.2.1 i (by omega), k3.2.1 j (by omega)]; exact a2 i j h1 h2 c1
  · by_cases c2 : M ≤ i
    · exact a3 i j c2 h2 h3
    · rw [k3.2.1 i (by omega)]
      obtain ⟨j', j1, j2, e⟩ := k3.2.2 j (by omega) h3
      obtain ⟨i', i1, i2, e'⟩ := k2.2.2 i h1 (by omega)
      rw [e, k2.2.1 j' (by omega), e']
      exact hx _ _ i1 i2 j1 j2
theorem Meet.keep {a m b a2 b2 : Nat} {d d' : Array α} (h : Meet lt T a m b d) (hk : Keep a2 b2 d d') (ho : b ≤ a2 ∨ b2 ≤ a) : Meet lt T a m b d' := by
  intro i j h1 h2 h3 h4
  rw [hk.2.1 i (by omega), hk.2.1 j (by omega)]
  exact h i j h1 h2 h3 h4

/-! ### The insertion sort -/
/-- The one at j on its way: all others from a to i in order, those behind it behind it. -/
theorem ins_inner (hT : ∀ x y z, T x y → T y z → T x z) (a i : Nat) (x : α) : ∀ (j : Nat) (d : Array α), a ≤ j → j ≤ i → i < d.size → d[j]! = x →
    (∀ p q, a ≤ p → p < q → q ≤ i → p ≠ j → q ≠ j → T d[p]! d[q]!) → (∀ q, j < q → q ≤ i → T x d[q]!) → (∀ p, a ≤ p → p ≤ i → p ≠ j → (lt x d[p]! = true → T x d[p]!) ∧ (lt x d[p]! = false → T d[p]! x)) →
    Keep a (i + 1) d (insInner lt a j d) ∧ Asc T a (i + 1) (insInner lt a j d) := by
  intro j
  induction j with
  | zero =>
    intro d h1 h2 hs hx hA hB hM
    rw [insInner]
    refine ⟨Keep.refl _ _ _, fun p q p1 p2 p3 => ?_⟩
    by_cases c : p = 0
    · subst c; rw [hx]; exact hB q p2 (by omega)
    · exact hA p q p1 p2 (by omega) c (by omega)
  | succ j ih =>
    intro d h1 h2 hs hx hA hB hM
    have stop : (j + 1 ≤ a ∨ lt d[j + 1]! d[j]! = false) → Keep a (i + 1) d (insInner lt a (j + 1) d) ∧ Asc T a (i + 1) (insInner lt a (j + 1) d) := fun hst => by
      rw [insInner_stop lt a (j + 1) d (by simpa using hst)]
      refine ⟨Keep.refl _ _ _, fun p q p1 p2 p3 => ?_⟩
      by_cases c1 : p = j + 1
      · subst c1; rw [hx]; exact hB q p2 (by omega)
      · by_cases c2 : q = j + 1
        · subst c2
          rcases hst with hst | hst
          · omega
          · rw [hx] at hst ⊢
            have t := (hM j (by omega) (by omega) (by omega)).2 hst
            by_cases c3 : p = j
            · subst c3; exact t
            · exact hT _ _ _ (hA p j p1 (by omega) (by omega) c1 (by omega)) t
        · exact hA p q p1 p2 (by omega) c1 c2
    by_cases haj : a < j + 1
    · cases hlv : lt d[j + 1]! d[j]! with
      | false => exact stop (.inr hlv)
      | true =>
        rw [insInner_go lt a (j + 1) d haj (by simpa using hlv)]
        simp only [Nat.add_sub_cancel]
        rw [hx] at hlv
        have g : ∀ k, (swp d (j + 1) j)[k]! = if k = j then d[j + 1]! else if k = j + 1 then d[j]! else d[k]! := fun k => swp_at d (by omega) (by omega) k
        have := ih (swp d (j + 1) j) (by omega) (by omega) (by rw [size_swp]; exact hs) (by rw [g, if_pos rfl, hx]) ?_ ?_ ?_
        · exact ⟨(Keep.swp d (by omega) (by omega) (by omega) (by omega) (by omega)).trans this.1, this.2⟩
        · intro p q p1 p2 p3 p4 p5
          rw [g p, g q, if_neg p4, if_neg p5]
          by_cases c1 : p = j + 1
          · subst c1; rw [if_pos rfl, if_neg (by omega)]; exact hA j q (by omega) (by omega) p3 (by omega) (by omega)
          · rw [if_neg c1]
            by_cases c2 : q = j + 1
            · rw [if_pos c2]; exact hA p j p1 (by omega) (by omega) c1 (by omega)
            · rw [if_neg c2]; exact hA p q p1 p2 p3 c1 c2
        · intro q q1 q2
          rw [g q, if_neg (by omega)]
          by_cases c1 : q = j + 1
          · rw [if_pos c1]; exact (hM j (by omega) (by omega) (by omega)).1 hlv
          · rw [if_neg c1]; exact hB q (by omega) q2
        · intro p p1 p2 p3
          rw [g p, if_neg p3]
          by_cases c1 : p = j + 1
          · rw [if_pos c1]; exact hM j (by omega) (by omega) (by omega)
          · rw [if_neg c1]; exact hM p p1 p2 c1
    · exact stop (.inl (by omega))
theorem ins_outer (hT : ∀ x y z, T x y → T y z → T x z) (a b : Nat) : ∀ (n i : Nat) (d : Array α), b - i ≤ n → a < i → i ≤ b → b ≤ d.size → Asc T a i d → (∀ k, i ≤ k → k < b → Meet lt T a k (k + 1) d) →
    (∀ k l, i ≤ k → k < l → l < b → (lt d[l]! d[k]! = true → T d[l]! d[k]!) ∧ (lt d[l]! d[k]! = false → T d[k]! d[l]!)) → Keep a b d (insOuter lt a b i d) ∧ Asc T a b (insOuter lt a b i d) := by
  intro n
  induction n with
  | zero =>
    intro i d hn hai hib hs hA _ _
    rw [insOuter_stop lt a b i d (by omega)]
    rw [show b = i by omega]
    exact ⟨Keep.refl _ _ _, hA⟩
  | succ n ih =>
    intro i d hn hai hib hs hA hM hM2
    by_cases hlt : i < b
    · rw [insOuter_go lt a b i d hlt]
      have h := ins_inner (lt := lt) hT a i d[i]! i d (by omega) (Nat.le_refl _) (by omega) rfl (fun p q p1 p2 p3 p4 p5 => hA p q p1 p2 (by omega)) (fun q q1 q2 => by omega)
        (fun p p1 p2 p3 => hM i (Nat.le_refl _) hlt p i p1 (by omega) (Nat.le_refl _) (by omega))
      have h' := ih (i + 1) _ (by omega) (by omega) (by omega) (by rw [h.1.1]; exact hs) h.2 ?_ ?_
      · exact ⟨(h.1.wider (Nat.le_refl _) (by omega)).trans h'.1, h'.2⟩
      · intro k k1 k2 p q p1 p2 q1 q2
        obtain rfl : q = k := by omega
        rw [h.1.2.1 q (by omega)]
        by_cases c : p < i + 1
        · obtain ⟨p', p3, p4, e⟩ := h.1.2.2 p p1 c
          rw [e]
          by_cases c2 : p' = i
          · rw [c2]; exact hM2 i q (Nat.le_refl _) (by omega) k2
          · exact hM q (by omega) k2 p' q p3 (by omega) (Nat.le_refl _) (by omega)
        · rw [h.1.2.1 p (by omega)]
          exact hM2 p q (by omega) p2 k2
      · intro k l k1 k2 k3
        rw [h.1.2.1 k (by omega), h.1.2.1 l (by omega)]
        exact hM2 k l (by omega) k2 k3
    · rw [insOuter_stop lt a b i d hlt, show b = i by omega]
      exact ⟨Keep.refl _ _ _, hA⟩
theorem ins_sort (hT : ∀ x y z, T x y → T y z → T x z) {a b : Nat} {d : Array α} (hab : a ≤ b) (hs : b ≤ d.size)
    (hM : ∀ k l, a ≤ k → k < l → l < b → (lt d[l]! d[k]! = true → T d[l]! d[k]!) ∧ (lt d[l]! d[k]! = false → T d[k]! d[l]!)) : Keep a b d (insertionSort lt d a b) ∧ Asc T a b (insertionSort lt d a b) := by
  unfold insertionSort
  by_cases h : a < b
  · exact ins_outer hT a b _ (a + 1) d (Nat.le_refl _) (by omega) (by omega) hs (fun i j h1 h2 h3 => by omega) (fun k k1 k2 p q p1 p2 q1 q2 => hM p q p1 (by omega) (by omega)) (fun k l k1 k2 k3 => hM k l (by omega) k2 k3)
  · rw [insOuter_stop lt a b _ d (by omega)]
    exact ⟨Keep.refl _ _ _, fun i j h1 h2 h3 => by omega⟩
end
end Go.Proofs.Ytimeebildbmhaaa
