
/- The walks of slices.stableCmpFunc and slices.SortStableFunc at rows of elements of K cells: the row stands in the one order that a stable sort makes. -/
import Derived.Test.YtimeebildbmhaaaSortKMerge
namespace Go.Proofs.Ytimeebildbmhaaa
open Go.Shelf Go.RowKit Go.Lib Go.Sort
variable {P : Program} {K : Nat} {α : Type} [Inhabited α]

/-- What stands from lo up to hi (as far as there are n) is in order, and is what stood there at first. -/
def Good (T : α → α → Prop) (v : α → Nat) (n lo hi : Nat) (d : Array α) : Prop :=
  (∀ i j, lo ≤ i → i < j → j < hi → j < n → T d[i]! d[j]!) ∧ ∀ i, lo ≤ i → i < hi → i < n → lo ≤ v d[i]! ∧ v d[i]! < hi
/-- How a test tells where two stand that were so at first. -/
def Tells (lt : α → α → Bool) (T : α → α → Prop) (v : α → Nat) : Prop := ∀ x y, v x < v y → (lt y x = true → T y x) ∧ (lt y x = false → T x y)

section
variable {T : α → α → Prop} {v : α → Nat} {lt : α → α → Bool} {n : Nat}
theorem Good.keep {lo hi a b : Nat} {d d' : Array α} (h : Good T v n lo hi d) (hk : Keep a b d d') (ho : hi ≤ a ∨ b ≤ lo) : Good T v n lo hi d' := by
  refine ⟨fun i j h1 h2 h3 h4 => ?_, fun i h1 h2 h3 => ?_⟩
  · rw [hk.2.1 i (by omega), hk.2.1 j (by omega)]; exact h.1 i j h1 h2 h3 h4
  · rw [hk.2.1 i (by omega)]; exact h.2 i h1 h2 h3
theorem Good.asc {lo hi b : Nat} {d : Array α} (h : Good T v n lo hi d) (h1 : b ≤ hi) (h2 : b ≤ n) : Asc T lo b d := fun i j a1 a2 a3 => h.1 i j a1 a2 (by omega) (by omega)
theorem Good.meet (ht : Tells lt T v) {lo mid hi b : Nat} {d : Array α} (h : Good T v n lo mid d) (h' : Good T v n mid hi d) (h1 : b ≤ hi) (h2 : b ≤ n) : Meet lt T lo mid b d := fun i j a1 a2 a3 a4 =>
  ht _ _ (by have := h.2 i a1 a2 (by omega); have := h'.2 j a3 (by omega) (by omega); omega)
theorem Good.join {lo mid hi b : Nat} {d d' : Array α} (h : Good T v n lo mid d) (h' : Good T v n mid hi d) (hlm : lo ≤ mid) (hmh : mid ≤ hi) (hb : b = hi ∨ b = n) (h1 : b ≤ hi) (h2 : b ≤ n) (hk : Keep lo b d d') (ha : Asc T lo b d') : Good T v n lo hi d' := by
  refine ⟨fun i j a1 a2 a3 a4 => ha i j a1 a2 (by omega), fun i a1 a2 a3 => ?_⟩
  obtain ⟨j, j1, j2, e⟩ := hk.2.2 i a1 (by omega)
  rw [e]
  by_cases c : j < mid
  · have := h.2 j j1 c (by omega); omega
  · have := h'.2 j (by omega) (by omega) (by omega); omega
theorem Good.more {lo hi hi' : Nat} {d : Array α} (h : Good T v n lo hi d) (h1 : n ≤ hi) (h2 : hi ≤ hi') : Good T v n lo hi' d :=
  ⟨fun i j a1 a2 a3 a4 => h.1 i j a1 a2 (by omega) a4, fun i a1 a2 a3 => by have := h.2 i a1 (by omega) a3; omega⟩
theorem Good.void {lo hi : Nat} (d : Array α) (h : n ≤ lo) : Good T v n lo hi d := ⟨fun i j a1 a2 a3 a4 => by omega, fun i a1 a2 a3 => by omega⟩
theorem ins_good (hT : ∀ x y z, T x y → T y z → T x z) (ht : Tells lt T v) {a b hi : Nat} {d : Array α} (hab : a ≤ b) (hs : b ≤ d.size) (hv : ∀ i, a ≤ i → i < n → v d[i]! = i) (h1 : b ≤ hi) (h2 : b ≤ n) (hb : b = hi ∨ b = n) :
    Keep a b d (insertionSort lt d a b) ∧ Good T v n a hi (insertionSort lt d a b) := by
  obtain ⟨k1, k2⟩ := ins_sort (lt := lt) hT hab hs (fun k l a1 a2 a3 => ht _ _ (by rw [hv k a1 (by omega), hv l (by omega) (by omega)]; exact a2))
  refine ⟨k1, fun i j a1 a2 a3 a4 => k2 i j a1 a2 (by omega), fun i a1 a2 a3 => ?_⟩
  obtain ⟨j, j1, j2, e⟩ := k1.2.2 i a1 (by omega)
  rw [e, hv j j1 (by omega)]; omega
theorem blk_le {p q s : Nat} (h : p < q) : p * s + s ≤ q * s := by
  have := Nat.mul_le_mul_right s h
  rwa [Nat.succ_mul] at this
theorem level_two {bs q A : Nat} {d : Array α} (hA : A = q * (2 * bs)) (hr : ∀ p, 2 * q ≤ p → Good T v n (p * bs) (p * bs + bs) d) : Good T v n A (A + bs) d ∧ Good T v n (A + bs) (A + 2 * bs) d := by
  have e : 2 * q * bs = A := by rw [hA, Nat.mul_comm 2 q, Nat.mul_assoc]
  have h1 := hr (2 * q) (Nat.le_refl _)
  have h2 := hr (2 * q + 1) (Nat.le_succ _)
  rw [Nat.succ_mul] at h2
  rw [e] at h1 h2
  rw [show A + bs + bs = A + 2 * bs by omega] at h2
  exact ⟨h1, h2⟩
theorem level_step {bs q A b : Nat} {d d' : Array α} (hA : A = q * (2 * bs)) (hd : ∀ p, p < q → Good T v n (p * (2 * bs)) (p * (2 * bs) + 2 * bs) d) (hr : ∀ p, 2 * q ≤ p → Good T v n (p * bs) (p * bs + bs) d)
    (hb : b = A + 2 * bs ∨ b = n) (h1 : b ≤ A + 2 * bs) (h2 : b ≤ n) (hk : Keep A b d d') (ha : Asc T A b d') :
    (∀ p, p < q + 1 → Good T v n (p * (2 * bs)) (p * (2 * bs) + 2 * bs) d') ∧ ∀ p, 2 * (q + 1) ≤ p → Good T v n (p * bs) (p * bs + bs) d' := by
  obtain ⟨g1, g2⟩ := level_two hA hr
  refine ⟨fun p hp => ?_, fun p hp => ?_⟩
  · by_cases c : p = q
    · subst c
      rw [← hA]
      exact g1.join g2 (by omega) (by omega) hb h1 h2 hk ha
    · have hl : p < q := by omega
      exact (hd p hl).keep hk (.inl (by rw [hA]; exact blk_le hl))
  · refine (hr p (by omega)).keep hk (.inr ?_)
    have : 2 * (q + 1) * bs ≤ p * bs := Nat.mul_le_mul_right _ hp
    have e : 2 * (q + 1) * bs = A + 2 * bs := by rw [hA, Nat.mul_comm 2 (q + 1), Nat.mul_assoc, Nat.succ_mul]
    omega
theorem level_end {bs q A : Nat} {d : Array α} (hA : A = q * (2 * bs)) (hd : ∀ p, p < q + 1 → Good T v n (p * (2 * bs)) (p * (2 * bs) + 2 * bs) d) (h : n ≤ A + 2 * bs) : ∀ p, Good T v n (p * (2 * bs)) (p * (2 * bs) + 2 * bs) d := by
  intro p
  by_cases c : p < q + 1
  · exact hd p c
  · refine Good.void d ?_
    have : (q + 1) * (2 * bs) ≤ p * (2 * bs) := Nat.mul_le_mul_right _ (by omega)
    rw [Nat.succ_mul, ← hA] at this
    omega
theorem level_last {bs q A : Nat} {d : Array α} (hA : A = q * (2 * bs)) (hd : ∀ p, p < q → Good T v n (p * (2 * bs)) (p * (2 * bs) + 2 * bs) d) (hr : ∀ p, 2 * q ≤ p → Good T v n (p * bs) (p * bs + bs) d) (h : n ≤ A + bs) :
    ∀ p, Good T v n (p * (2 * bs)) (p * (2 * bs) + 2 * bs) d := by
  refine level_end hA (fun p hp => ?_) (by omega)
  by_cases c : p = q
  · subst c
    rw [← hA]
    exact (level_two hA hr).1.more h (by omega)
  · exact hd p (by omega)
theorem first_step (hT : ∀ x y z, T x y → T y z → T x z) (ht : Tells lt T v) {q A b : Nat} {d : Array α} (hA : A = q * 20) (hs : d.size = n) (hd : ∀ p, p < q → Good T v n (p * 20) (p * 20 + 20) d) (hi : ∀ i, A ≤ i → i < n → v d[i]! = i)
    (hab : A ≤ b) (hb : b = A + 20 ∨ b = n) (h1 : b ≤ A + 20) (h2 : b ≤ n) :
    (insertionSort lt d A b).size = n ∧ (∀ p, p < q + 1 → Good T v n (p * 20) (p * 20 + 20) (insertionSort lt d A b)) ∧ (∀ i, b ≤ i → i < n → v (insertionSort lt d A b)[i]! = i) ∧ Keep A b d (insertionSort lt d A b) := by
  obtain ⟨k1, k2⟩ := ins_good hT ht hab (by omega) hi h1 h2 hb
  refine ⟨k1.1.trans hs, fun p hp => ?_, fun i i1 i2 => ?_, k1⟩
  · by_cases c : p = q
    · subst c; rw [← hA]; exact k2
    · have hl : p < q := by omega
      exact (hd p hl).keep k1 (.inl (by rw [hA]; exact blk_le hl))
  · rw [k1.2.1 i (by omega)]; exact hi i (by omega) i2
theorem first_end {q A : Nat} {d : Array α} (hA : A = q * 20) (hd : ∀ p, p < q + 1 → Good T v n (p * 20) (p * 20 + 20) d) (h : n ≤ A + 20) : ∀ p, Good T v n (p * 20) (p * 20 + 20) d := by
  intro p
  by_cases c : p < q + 1
  · exact hd p c
  · exact Good.void d (by omega)
end

theorem size_insInner (lt : α → α → Bool) (a : Nat) : ∀ (j : Nat) (d : Array α), (insInner lt a j d).size = d.size
  | 0, d => by rw [insInner_stop lt a 0 d (.inl (Nat.zero_le _))]
  | j + 1, d => by
    by_cases h : a < j + 1
    · cases hl : lt d[j + 1]! d[j]! with
      | true => rw [insInner_go lt a (j + 1) d h hl, Nat.add_sub_cancel, size_insInner lt a j, size_swp]
      | false => rw [insInner_stop lt a (j + 1) d (.inr hl)]
    · rw [insInner_stop lt a (j + 1) d (.inl (by omega))]
theorem size_insOuter (lt : α → α → Bool) (a b : Nat) : ∀ (n i : Nat) (d : Array α), b - i ≤ n → (insOuter lt a b i d).size = d.size := by
  intro n
  induction n with
  | zero => intro i d h; rw [insOuter_stop lt a b i d (by omega)]
  | succ n ih =>
    intro i d h
    by_cases c : i < b
    · rw [insOuter_go lt a b i d c, ih _ _ (by omega), size_insInner]
    · rw [insOuter_stop lt a b i d c]
theorem size_insertionSort (lt : α → α → Bool) (d : Array α) (a b : Nat) : (insertionSort lt d a b).size = d.size := by
  unfold insertionSort; exact size_insOuter lt a b _ _ d (Nat.le_refl _)
/-- Go's insertion sort, from a world of the sort's to a world of the sort's. -/
theorem insK (L : SortL P K) (enc : α → List Value) (cf : α → α → Int) (g : Nat) (cb : Array Value) (blk off cap a b : Nat) (d0 d : Array α) (w0 w : World)
    (eg : ∀ args w, (callFunc g args).run P w = .ok (.enter g args) w) (hcmp : CmpLays P g cb enc K cf blk off d0.size w0) (R : RowK enc K w0 blk off d0) (hs : d0.size = d.size) (S : SWK enc K w0 blk off d w) (hab : a ≤ b) (hb : b ≤ d.size) (hsz : d.size < 4611686018427387904) :
    Calls P 53 #[.slice (some ⟨blk, off, none⟩) d.size cap, .int .i64 a, .int .i64 b, .func (.func g) #[] cb] w fun e w' => e = .returned (.tuple #[]) ∧ SWK enc K w0 blk off (Sort.insertionSort (ltOf cf) d a b) w' := by
  have hC : CmpLays P g cb enc K cf blk off d.size w := fun m os dk hdk x y => by
    obtain ⟨n0, os0, rfl⟩ := S
    rw [sortWorldK_on enc K w0 blk off n0 m d dk os0 os R.hblk hdk]
    exact hcmp _ _ dk (by omega) x y
  refine (AnyQ.insertionSortCmpFunc L.ins K L.aE L.zE enc R.hk R.h1 cf g cb blk off cap a b d w eg hC (S.holds R.hblk R.hH hs.symm) (S.lt R.hblk) hab hb hsz).mono ?_
  rintro e w' ⟨rfl, n, os, rfl⟩
  exact ⟨rfl, S.on R.hblk n _ os (size_insertionSort _ _ _ _)⟩

set_option maxHeartbeats 8000000 in
set_option maxRecDepth 1000000 in
theorem stableK (L : SortL P K) (enc : α → List Value) (cf : α → α → Int) (T : α → α → Prop) (hT : ∀ x y z, T x y → T y z → T x z) (v : α → Nat) (ht : Tells (ltOf cf) T v) (g : Nat) (cb : Array Value) (blk off cap n : Nat) (d0 : Array α) (w0 w : World)
    (eg : ∀ args w, (callFunc g args).run P w = .ok (.enter g args) w) (hcmp : CmpLays P g cb enc K cf blk off d0.size w0)
    (R : RowK enc K w0 blk off d0) (hn : n = d0.size) (S : SWK enc K w0 blk off d0 w) (hsz : n < 100000) (hv : ∀ i, i < n → v d0[i]! = i) :
    Calls P 51 #[.slice (some ⟨blk, off, none⟩) n cap, .int .i64 n, .func (.func g) #[] cb] w fun e w' => e = .returned (.tuple #[]) ∧
      ∃ d', d'.size = n ∧ Asc T 0 n d' ∧ Keep 0 n d0 d' ∧ SWK enc K w0 blk off d' w' := by
  have MG := symMerge_allK L enc cf T hT g cb blk off cap d0 w0 eg hcmp R (by omega)
  rw [← hn] at MG
  have IS := fun a b d w hs S ha hb => insK L enc cf g cb blk off cap a b d0 d w0 w eg hcmp R hs S ha hb (by omega)
  have HMG := Lib.hid MG
  have HIS := Lib.hid IS
  have HN := Lib.hid hn
  have HV := Lib.hid hv
  have HT := Lib.hid hT
  have HTE := Lib.hid ht
  have S0 : Aside (SWK enc K w0 blk off d0 w) := S
  clear MG IS hn hv hT ht hcmp S
  have mixed := L.mixed; have t0 := L.t0; have a0 := L.a0; have z0 := L.z0; have v0 := L.v0; have t3 := L.t3; have a3 := L.a3; have z3 := L.z3; have v3 := L.v3; have t4 := L.t4; have a4 := L.a4; have z4 := L.z4; have v4 := L.v4; have t29 := L.t29; have a29 := L.a29; have z29 := L.z29; have v29 := L.v29; have t83 := L.t83; have a83 := L.a83; have z83 := L.z83; have v83 := L.v83; have t90 := L.t90; have a90 := L.a90; have z90 := L.z90; have v90 := L.v90; have aE := L.aE; have zE := L.zE
  have e53 : ∀ args w, (callFunc 53 args).run P w = .ok (.enter 53 args) w := (L.ins).f20.enters rfl
  have e54 : ∀ args w, (callFunc 54 args).run P w = .ok (.enter 54 args) w := enters_of L.f54 (by kernel_rfl) rfl
  go_enter L.f51, Try.ntmps51
  go_wp2
  go_loopg [7, 8] n (fun kx va vb wr => ∃ (q A B : Nat) (d : Array α), va = .int .i64 (A : Int) ∧ vb = .int .i64 (B : Int) ∧ Hid (A = q * 20) ∧ Hid (B = A + 20) ∧ A ≤ n ∧ B ≤ n + 20 ∧ n - A ≤ kx ∧ Hid (d.size = n) ∧ Aside (SWK enc K w0 blk off d wr) ∧
    Hid (∀ p, p < q → Good T v n (p * 20) (p * 20 + 20) d) ∧ Hid (∀ i, A ≤ i → i < n → v d[i]! = i) ∧ Hid (Keep 0 n d0 d))
  case atStart => exact ⟨0, 0, 20, d0, rfl, rfl, rfl, rfl, Nat.zero_le _, by omega, by omega, HN.out.symm, S0, fun p hp => absurd hp (Nat.not_lt_zero _), fun i _ hi => HV.out i hi, Keep.refl _ _ _⟩
  case round =>
    clear S0
    obtain ⟨q, A, B, d, rfl, rfl, EA, EB, hAn, hBn, hkx, HD, S1, HG, HI, HK⟩ := hrel
    by_cases hle : B ≤ n
    · have hlez : (B : Int) ≤ (n : Int) := by omega
      have hAB : A < B := by have := EB.out; omega
      have hc := HIS.out A B d wr (HN.out.symm.trans HD.out.symm) S1.out (by omega) (by rw [HD.out]; exact hle)
      rw [HD.out] at hc
      have HC := Lib.hid hc
      clear hc
      go_wp2_with fail
      go_at_fn 53
      refine HC.out.mono ?_
      rintro e w1 ⟨rfl, s1⟩
      clear S1
      have S1 : Aside _ := s1
      have ST := Lib.hid (first_step HT.out HTE.out EA.out HD.out HG.out HI.out (by omega) (.inl EB.out) (by rw [EB.out]; exact Nat.le_refl _) hle)
      clear s1 HC
      go_wp2
      go_roundg (n - B)
      case measure => omega
      case rel => exact ⟨q + 1, B, B + 20, insertionSort (ltOf cf) d A B, rfl, by first | rfl | go_num, (show Hid _ from by rw [Nat.succ_mul, ← EA.out]; exact EB.out), rfl, hle, by omega, Nat.le_refl _, ST.out.1, S1, ST.out.2.1, ST.out.2.2.1, HK.out.trans (ST.out.2.2.2.wider (Nat.zero_le _) hle)⟩
    · have hlez : ¬ (B : Int) ≤ (n : Int) := by omega
      have hc := HIS.out A n d wr (HN.out.symm.trans HD.out.symm) S1.out hAn (by rw [HD.out]; exact Nat.le_refl _)
      rw [HD.out] at hc
      have HC := Lib.hid hc
      clear hc
      go_wp2_with fail
      go_at_fn 53
      refine HC.out.mono ?_
      rintro e w1 ⟨rfl, s1⟩
      clear S1
      have S1 : Aside _ := s1
      have ST := Lib.hid (first_step HT.out HTE.out EA.out HD.out HG.out HI.out hAn (.inr rfl) (by have := EB.out; omega) (Nat.le_refl _))
      have D1 : Hid _ := ST.out.1
      have G1 := Lib.hid (first_end EA.out ST.out.2.1 (by have := EB.out; omega))
      have K1 := Lib.hid (HK.out.trans (ST.out.2.2.2.wider (Nat.zero_le _) (Nat.le_refl _)))
      generalize insertionSort (ltOf cf) d A n = d1 at S1 D1 G1 K1
      clear s1 HC ST HD HG HI HK EA EB hlez hle hBn hkx
      rename World => wa
      go_wp2
      go_loopg [6] n (fun kx vs wr => ∃ (bs : Nat) (d : Array α), vs = .int .i64 (bs : Int) ∧ 0 < bs ∧ bs ≤ 200000 ∧ n - bs ≤ kx ∧ Hid (d.size = n) ∧ Aside (SWK enc K w0 blk off d wr) ∧ Hid (∀ p, Good T v n (p * bs) (p * bs + bs) d) ∧ Hid (Keep 0 n d0 d))
      case atStart => exact ⟨20, d1, rfl, by omega, by omega, by omega, D1, S1, G1, K1⟩
      case round =>
        clear S1 D1 G1 K1
        obtain ⟨bs, d, rfl, hbs, hbm, hkx, HD, S1, HG, HK⟩ := hrel
        by_cases hlt : bs < n
        · have hltz : (bs : Int) < (n : Int) := by omega
          rename World => wb
          have e2 : (2 : Int) * (bs : Int) = ((2 * bs : Nat) : Int) := by omega
          obtain ⟨ds, hds⟩ : ∃ ds, ds = 2 * bs := ⟨_, rfl⟩
          rw [← hds] at e2
          have hds1 : bs < ds := by omega
          have hds2 : ds ≤ 400000 := by omega
          have EDS := Lib.hid hds
          clear hds
          go_wp2
          go_loopg [7, 8] n (fun ky va vb wr => ∃ (q A B : Nat) (d : Array α), va = .int .i64 (A : Int) ∧ vb = .int .i64 (B : Int) ∧ Hid (A = q * (2 * bs)) ∧ Hid (B = A + 2 * bs) ∧ A ≤ n ∧ B ≤ n + ds ∧ n - A ≤ ky ∧ Hid (d.size = n) ∧ Aside (SWK enc K w0 blk off d wr) ∧
            Hid (∀ p, p < q → Good T v n (p * (2 * bs)) (p * (2 * bs) + 2 * bs) d) ∧ Hid (∀ p, 2 * q ≤ p → Good T v n (p * bs) (p * bs + bs) d) ∧ Hid (Keep 0 n d0 d))
          case atStart => exact ⟨0, 0, ds, d, rfl, rfl, (show Hid _ from (Nat.zero_mul _).symm), (Lib.hid (EDS.out.trans (Nat.zero_add _).symm)), Nat.zero_le _, by omega, by omega, HD, S1, fun p hp => absurd hp (Nat.not_lt_zero _), fun p _ => HG.out p, HK⟩
          case round =>
            clear S1 HD HG HK
            obtain ⟨q, A, B, d, rfl, rfl, EA, EB, hAn, hBn, hky, HD, S1, HG, HR, HK⟩ := hrel
            by_cases hle : B ≤ n
            · have hlez : (B : Int) ≤ (n : Int) := by omega
              have hAB : A + bs < B := by have := EB.out; omega
              obtain ⟨g1, g2⟩ := level_two EA.out HR.out
              rw [← EB.out] at g2
              have hc := HMG.out (B - A) A (A + bs) B d wr (Nat.le_refl _) HD.out S1.out (by omega) hAB hle (g1.asc (Nat.le_refl _) (by omega)) (g2.asc (Nat.le_refl _) hle) (g1.meet HTE.out g2 (Nat.le_refl _) hle)
              rw [show ((A + bs : Nat) : Int) = (A : Int) + (bs : Int) by omega] at hc
              have HC := Lib.hid hc
              clear hc g1 g2
              go_wp2_with fail
              go_at_fn 54
              refine HC.out.mono ?_
              rintro e w1 ⟨rfl, d1, k1, a1, s1⟩
              clear S1
              have S1 : Aside _ := s1
              have D1 : Hid (d1.size = n) := k1.1.trans HD.out
              have ST := Lib.hid (level_step EA.out HG.out HR.out (.inl EB.out) (by rw [EB.out]; exact Nat.le_refl _) hle k1 a1)
              have K2 := Lib.hid (HK.out.trans (k1.wider (Nat.zero_le _) hle))
              clear s1 k1 a1 HC HK
              go_wp2
              go_roundg (n - B)
              case measure => omega
              case rel => exact ⟨q + 1, B, B + ds, d1, rfl, by first | rfl | go_num, (show Hid _ from by rw [Nat.succ_mul, ← EA.out]; exact EB.out), (Lib.hid (show B + ds = B + 2 * bs by rw [EDS.out])), hle, by omega, Nat.le_refl _, D1, S1, ST.out.1, ST.out.2, K2⟩
            · have hlez : ¬ (B : Int) ≤ (n : Int) := by omega
              by_cases hm : A + bs < n
              · have hmz : (A : Int) + (bs : Int) < (n : Int) := by omega
                have hnB : n ≤ A + 2 * bs := by have := EB.out; omega
                obtain ⟨g1, g2⟩ := level_two EA.out HR.out
                have hc := HMG.out (n - A) A (A + bs) n d wr (Nat.le_refl _) HD.out S1.out (by omega) hm (Nat.le_refl _) (g1.asc (Nat.le_refl _) (by omega)) (g2.asc hnB (Nat.le_refl _)) (g1.meet HTE.out g2 hnB (Nat.le_refl _))
                rw [show ((A + bs : Nat) : Int) = (A : Int) + (bs : Int) by omega] at hc
                have HC := Lib.hid hc
                clear hc g1 g2
                go_wp2_with fail
                go_at_fn 54
                refine HC.out.mono ?_
                rintro e w1 ⟨rfl, d1, k1, a1, s1⟩
                clear S1
                have S1 : Aside _ := s1
                have D1 : Hid (d1.size = n) := k1.1.trans HD.out
                have ST := Lib.hid (level_end EA.out (level_step EA.out HG.out HR.out (.inr rfl) hnB (Nat.le_refl _) k1 a1).1 hnB)
                have e3 : (bs : Int) * 2 = (ds : Int) := by have := EDS.out; omega
                have K2 := Lib.hid (HK.out.trans (k1.wider (Nat.zero_le _) (Nat.le_refl _)))
                clear s1 k1 a1 HC hnB HK
                go_wp2
                go_roundg (n - ds)
                case measure => omega
                case rel => exact ⟨ds, d1, rfl, by omega, by have := EDS.out; omega, Nat.le_refl _, D1, S1, (show Hid _ from by rw [EDS.out]; exact ST.out), K2⟩
              · have hmz : ¬ (A : Int) + (bs : Int) < (n : Int) := by omega
                have ST := Lib.hid (level_last EA.out HG.out HR.out (by omega))
                have e3 : (bs : Int) * 2 = (ds : Int) := by have := EDS.out; omega
                go_wp2
                go_roundg (n - ds)
                case measure => omega
                case rel => exact ⟨ds, d, rfl, by omega, by have := EDS.out; omega, Nat.le_refl _, HD, S1, (show Hid _ from by rw [EDS.out]; exact ST.out), HK⟩
        · have hltz : ¬ (bs : Int) < (n : Int) := by omega
          go_wp2
          go_end0
          refine ⟨rfl, d, HD.out, fun i j i1 i2 i3 => ?_, HK.out, S1.out⟩
          have := (HG.out 0).1 i j (by omega) i2 (by omega) i3
          exact this
set_option maxHeartbeats 800000 in
theorem sortStableK (L : SortL P K) (enc : α → List Value) (cf : α → α → Int) (T : α → α → Prop) (hT : ∀ x y z, T x y → T y z → T x z) (v : α → Nat) (ht : Tells (ltOf cf) T v) (g : Nat) (cb : Array Value) (blk off cap n : Nat) (d0 : Array α) (w0 w : World)
    (eg : ∀ args w, (callFunc g args).run P w = .ok (.enter g args) w) (hcmp : CmpLays P g cb enc K cf blk off d0.size w0)
    (R : RowK enc K w0 blk off d0) (hn : n = d0.size) (S : SWK enc K w0 blk off d0 w) (hsz : n < 100000) (hv : ∀ i, i < n → v d0[i]! = i) :
    Calls P 43 #[.slice (some ⟨blk, off, none⟩) n cap, .func (.func g) #[] cb] w fun e w' => e = .returned (.tuple #[]) ∧
      ∃ d', d'.size = n ∧ Asc T 0 n d' ∧ Keep 0 n d0 d' ∧ SWK enc K w0 blk off d' w' := by
  have HC := Lib.hid (stableK L enc cf T hT v ht g cb blk off cap n d0 w0 w eg hcmp R hn S hsz hv)
  clear hT ht hcmp hn S hv eg
  have mixed := L.mixed; have t0 := L.t0; have a0 := L.a0; have z0 := L.z0; have v0 := L.v0; have t3 := L.t3; have a3 := L.a3; have z3 := L.z3; have v3 := L.v3; have t4 := L.t4; have a4 := L.a4; have z4 := L.z4; have v4 := L.v4; have t29 := L.t29; have a29 := L.a29; have z29 := L.z29; have v29 := L.v29; have t83 := L.t83; have a83 := L.a83; have z83 := L.z83; have v83 := L.v83; have t90 := L.t90; have a90 := L.a90; have z90 := L.z90; have v90 := L.v90; have aE := L.aE; have zE := L.zE
  have e51 : ∀ args w, (callFunc 51 args).run P w = .ok (.enter 51 args) w := enters_of L.f51 (by kernel_rfl) rfl
  go_enter L.f43, Try.ntmps43
  go_wp2_with fail
  go_at_fn 51
  refine HC.out.mono ?_
  rintro e w1 ⟨rfl, d1, h1, h2, h4, h3⟩
  have H1 := Lib.hid h1
  have H2 := Lib.hid h2
  have H4 := Lib.hid h4
  have H3 : Aside _ := h3
  clear h1 h2 h3 h4
  go_wp2
  go_end0
  exact ⟨rfl, d1, H1.out, H2.out, H4.out, H3.out⟩
end Go.Proofs.Ytimeebildbmhaaa
