
/- The walks of slices.swapRangeCmpFunc and slices.rotateCmpFunc at rows of elements of K cells: two ranges are exchanged; two ranges that lie side by side change places. -/
import Derived.Test.YtimeebildbmhaaaSortKBase
namespace Go.Proofs.Ytimeebildbmhaaa
open Go.Shelf Go.RowKit Go.Lib Go.Sort
variable {P : Program} {K : Nat} {α : Type} [Inhabited α]

set_option maxHeartbeats 4000000 in
set_option maxRecDepth 1000000 in
theorem swapRangeK (L : SortL P K) (enc : α → List Value) (cv : Value) (blk off cap a b n : Nat) (d0 d : Array α) (w0 w : World)
    (R : RowK enc K w0 blk off d0) (hs : d0.size = d.size) (S : SWK enc K w0 blk off d w) (hab : a + n ≤ b) (hb : b + n ≤ d.size) (hsz : d.size < 4611686018427387904) :
    Calls P 56 #[.slice (some ⟨blk, off, none⟩) d.size cap, .int .i64 a, .int .i64 b, .int .i64 n, cv] w fun e w' => e = .returned (.tuple #[]) ∧
      ∃ d', d'.size = d.size ∧ (∀ k, d'[k]! = d[swAt a b n k]!) ∧ SWK enc K w0 blk off d' w' := by
  have S0 : Aside (SWK enc K w0 blk off d w) := S
  clear S
  have mixed := L.mixed; have t0 := L.t0; have a0 := L.a0; have z0 := L.z0; have v0 := L.v0; have t3 := L.t3; have a3 := L.a3; have z3 := L.z3; have v3 := L.v3; have t4 := L.t4; have a4 := L.a4; have z4 := L.z4; have v4 := L.v4; have t29 := L.t29; have a29 := L.a29; have z29 := L.z29; have v29 := L.v29; have t83 := L.t83; have a83 := L.a83; have z83 := L.z83; have v83 := L.v83; have t90 := L.t90; have a90 := L.a90; have z90 := L.z90; have v90 := L.v90; have aE := L.aE; have zE := L.zE
  go_enter L.f56, Try.ntmps56
  go_wp2
  go_loopg [10] n (fun kx vi wr => ∃ (i : Nat) (dk : Array α), vi = .int .i64 i ∧ i ≤ n ∧ n - i ≤ kx ∧ dk.size = d.size ∧ Aside (SWK enc K w0 blk off dk wr) ∧ Hid (∀ k, dk[k]! = d[swAt a b i k]!))
  case atStart => exact ⟨0, d, rfl, Nat.zero_le _, by omega, rfl, S0, fun k => by rw [swAt_zero]⟩
  case round =>
    clear S0
    obtain ⟨i, dk, rfl, hin, hkx, hds, S1, HE⟩ := hrel
    by_cases hlt : i < n
    · have hltz : (i : Int) < (n : Int) := by omega
      go_wp2_with fail
      obtain ⟨iN, hiN⟩ : ∃ q, q = a + i := ⟨_, rfl⟩
      obtain ⟨jN, hjN⟩ : ∃ q, q = b + i := ⟨_, rfl⟩
      have ea : ((a : Int) + (i : Int)).toNat = iN := by omega
      have pa : (0 : Int) ≤ (a : Int) + (i : Int) := by omega
      have ba : (a : Int) + (i : Int) < (d.size : Int) := by omega
      have ra : IntKind.i64.wrap ((a : Int) + (i : Int)) = (a : Int) + (i : Int) := by rw [IntKind.wrap_i64]; omega
      have ec : ((b : Int) + (i : Int)).toNat = jN := by omega
      have pc : (0 : Int) ≤ (b : Int) + (i : Int) := by omega
      have bc : (b : Int) + (i : Int) < (d.size : Int) := by omega
      have rc : IntKind.i64.wrap ((b : Int) + (i : Int)) = (b : Int) + (i : Int) := by rw [IntKind.wrap_i64]; omega
      obtain ⟨x, hx⟩ : ∃ x, x = dk[a + i]! := ⟨_, rfl⟩
      obtain ⟨y, hy⟩ : ∃ x, x = dk[b + i]! := ⟨_, rfl⟩
      have S2 : Aside (SWK enc K w0 blk off (swp dk (a + i) (b + i)) ((wr.drew.setCells blk (off + iN * K) (enc y)).setCells blk (off + jN * K) (enc x))) := by rw [hiN, hjN, hx, hy]; exact S1.out.swapped R (a + i) (b + i) (by omega) (by omega)
      have l1 := S1.out.ld1 R (by omega) P (a + i) (by omega)
      have l2 := S1.out.ld1 R (by omega) P (b + i) (by omega)
      have s1 := S1.out.st1 R (by omega) P (a + i) (by omega) y
      have s2 := S1.out.st2 R (by omega) P (a + i) (b + i) (by omega) (by omega) y x
      have n1 : (enc x).length = K := R.hk _
      have n2 : (enc y).length = K := R.hk _
      rw [← hx, ← hiN] at l1
      rw [← hy, ← hjN] at l2
      rw [← hiN] at s1
      rw [← hiN, ← hjN] at s2
      generalize enc x = cx at S2 l1 s2 n1
      generalize enc y = cy at S2 l2 s1 s2 n2
      clear S1 hx hy hiN hjN
      go_wp2_with fail
      go_big_region_o
      clear l1 l2 s1 s2
      generalize (wr.drew.setCells blk (off + iN * K) cy).setCells blk (off + jN * K) cx = w2 at S2 ⊢
      clear ea ec
      go_wp2
      go_roundg (n - (i + 1))
      case measure => omega
      case rel => exact ⟨i + 1, swp dk (a + i) (b + i), by simp, by omega, Nat.le_refl _, by rw [size_swp]; exact hds, S2, fun k => swAt_step hds HE.out (by omega) (by omega) k⟩
    · have hltz : ¬ (i : Int) < (n : Int) := by omega
      go_wp2
      go_end0
      obtain rfl : i = n := by omega
      exact ⟨rfl, dk, hds, HE.out, S1.out⟩

set_option maxHeartbeats 4000000 in
set_option maxRecDepth 1000000 in
theorem rotateK (L : SortL P K) (enc : α → List Value) (cv : Value) (blk off cap a m b : Nat) (d0 d : Array α) (w0 w : World)
    (R : RowK enc K w0 blk off d0) (hs : d0.size = d.size) (S : SWK enc K w0 blk off d w) (ham : a < m) (hmb : m < b) (hb : b ≤ d.size) (hsz : d.size < 4611686018427387904) :
    Calls P 55 #[.slice (some ⟨blk, off, none⟩) d.size cap, .int .i64 a, .int .i64 m, .int .i64 b, cv] w fun e w' => e = .returned (.tuple #[]) ∧
      ∃ d', d'.size = d.size ∧ (∀ k, d'[k]! = d[rotAt a m b k]!) ∧ SWK enc K w0 blk off d' w' := by
  have S0 : Aside (SWK enc K w0 blk off d w) := S
  have HS := Lib.hid hs
  clear S hs
  have mixed := L.mixed; have t0 := L.t0; have a0 := L.a0; have z0 := L.z0; have v0 := L.v0; have t3 := L.t3; have a3 := L.a3; have z3 := L.z3; have v3 := L.v3; have t4 := L.t4; have a4 := L.a4; have z4 := L.z4; have v4 := L.v4; have t29 := L.t29; have a29 := L.a29; have z29 := L.z29; have v29 := L.v29; have t83 := L.t83; have a83 := L.a83; have z83 := L.z83; have v83 := L.v83; have t90 := L.t90; have a90 := L.a90; have z90 := L.z90; have v90 := L.v90; have aE := L.aE; have zE := L.zE
  have e56 : ∀ args w, (callFunc 56 args).run P w = .ok (.enter 56 args) w := enters_of L.f56 (by kernel_rfl) rfl
  go_enter L.f55, Try.ntmps55
  go_wp2
  go_loopg [10, 11] (b - a) (fun kx vi vj wr => ∃ (i j : Nat) (dk : Array α), vi = .int .i64 i ∧ vj = .int .i64 j ∧ 0 < i ∧ 0 < j ∧ a + i ≤ m ∧ m + j ≤ b ∧ i + j ≤ kx ∧ Hid (dk.size = d.size) ∧ Aside (SWK enc K w0 blk off dk wr) ∧ Hid (∀ k, d[rotAt a m b k]! = dk[rotAt (m - i) m (m + j) k]!))
  case atStart => 
    refine ⟨m - a, b - m, d, by rw [show ((m - a : Nat) : Int) = (m : Int) - (a : Int) by omega], by rw [show ((b - m : Nat) : Int) = (b : Int) - (m : Int) by omega], by omega, by omega, by omega, by omega, by omega, rfl, S0, fun k => ?_⟩
    rw [show m - (m - a) = a by omega, show m + (b - m) = b by omega]
  case round =>
    clear S0
    obtain ⟨i, j, dk, rfl, rfl, hi0, hj0, hia, hjb, hkx, HD, S1, HE⟩ := hrel
    rcases Nat.lt_trichotomy i j with hij | hij | hij
    · have hne : ((i : Int) != (j : Int)) = true := by rw [bne_iff_ne]; omega
      have hng : ¬ (j : Int) < (i : Int) := by omega
      have hc := fun W hW => swapRangeK L enc cv blk off cap (m - i) (m + j - i) i d0 dk w0 W R (by rw [HS.out, HD.out]) hW (by omega) (by rw [HD.out]; omega) (by rw [HD.out]; exact hsz)
      have HC := Lib.hid hc
      clear hc
      have e1 : ((m - i : Nat) : Int) = (m : Int) - (i : Int) := by omega
      have e2 : ((m + j - i : Nat) : Int) = (m : Int) + (j : Int) - (i : Int) := by omega
      have HC2 := HC.out wr S1.out
      rw [HD.out, e1, e2] at HC2
      have HC3 := Lib.hid HC2
      clear HC HC2 e1 e2
      go_wp2_with (go_at_fn 56; refine HC3.out.mono ?_; rintro e w' ⟨rfl, d', h1, h2, h3⟩)
      have H1 := Lib.hid h1
      have H2 := Lib.hid h2
      have H3 : Aside _ := h3
      clear h1 h2 h3 S1
      go_wp2
      go_roundg (i + (j - i))
      case measure => omega
      case rel => 
        refine ⟨i, j - i, d', rfl, by rw [show ((j - i : Nat) : Int) = (j : Int) - (i : Int) by omega], hi0, by omega, by omega, by omega, Nat.le_refl _, H1.out, H3, ?_⟩
        exact rot_on HE.out H2.out (fun k => by
          rw [show m + (j - i) = m + j - i by omega]
          exact rot_less (by omega) (by omega))
    · subst hij
      have hne : ((i : Int) != (i : Int)) = false := by simp
      have e1 : ((m - i : Nat) : Int) = (m : Int) - (i : Int) := by omega
      have HC2 := swapRangeK L enc cv blk off cap (m - i) m i d0 dk w0 wr R (by rw [HS.out, HD.out]) S1.out (by omega) (by rw [HD.out]; omega) (by rw [HD.out]; exact hsz)
      rw [HD.out, e1] at HC2
      have HC3 := Lib.hid HC2
      clear HC2 e1
      go_wp2_with (go_at_fn 56; refine HC3.out.mono ?_; rintro e w' ⟨rfl, d', h1, h2, h3⟩)
      have H1 := Lib.hid h1
      have H2 := Lib.hid h2
      have H3 : Aside _ := h3
      clear h1 h2 h3 S1
      go_wp2
      go_end0
      exact ⟨rfl, d', H1.out, fun k => by rw [HE.out, H2.out, rot_same (hi := m + i) (by omega) rfl], H3.out⟩
    · have hne : ((i : Int) != (j : Int)) = true := by rw [bne_iff_ne]; omega
      have hng : (j : Int) < (i : Int) := by omega
      have e1 : ((m - i : Nat) : Int) = (m : Int) - (i : Int) := by omega
      have HC2 := swapRangeK L enc cv blk off cap (m - i) m j d0 dk w0 wr R (by rw [HS.out, HD.out]) S1.out (by omega) (by rw [HD.out]; omega) (by rw [HD.out]; exact hsz)
      rw [HD.out, e1] at HC2
      have HC3 := Lib.hid HC2
      clear HC2 e1
      go_wp2_with (go_at_fn 56; refine HC3.out.mono ?_; rintro e w' ⟨rfl, d', h1, h2, h3⟩)
      have H1 := Lib.hid h1
      have H2 := Lib.hid h2
      have H3 : Aside _ := h3
      clear h1 h2 h3 S1
      go_wp2
      go_roundg (i - j + j)
      case measure => omega
      case rel => 
        refine ⟨i - j, j, d', by rw [show ((i - j : Nat) : Int) = (i : Int) - (j : Int) by omega], rfl, by omega, hj0, by omega, by omega, Nat.le_refl _, H1.out, H3, ?_⟩
        exact rot_on HE.out H2.out (fun k => by
          rw [show m - (i - j) = m - i + j by omega]
          exact rot_more (by omega) rfl)
end Go.Proofs.Ytimeebildbmhaaa
