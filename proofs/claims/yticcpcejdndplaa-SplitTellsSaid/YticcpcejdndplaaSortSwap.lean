
/- The walks of slices.swapRangeCmpFunc and slices.rotateCmpFunc at rows of integers: two ranges are exchanged; two ranges that lie side by side change places. -/
import Derived.Test.YticcpcejdndplaaProg
import Derived.Test.YticcpcejdndplaaSortPlain
import Derived.Shelf.SlSortCmp.Kit1
import Derived.Sort.WalkB2
import Derived.Sort.WalkB12
import Derived.Deep.LoopGhost
import Derived.Lib.Hide
import Derived.KernelRfl
namespace Go.Proofs.Yticcpcejdndplaa
open Go.Shelf Go.RowKit Go.Lib Go.Sort
variable {α : Type} [Inhabited α]

set_option maxHeartbeats 4000000 in
set_option maxRecDepth 1000000 in
theorem swapRange_any (enc : α → Value) (cv : Value) (blk off cap a b n : Nat) (d0 d : Array α) (w0 w : World)
    (R : Row1 enc w0 blk off d0) (hs : d0.size = d.size) (S : SW enc w0 blk off d w) (hab : a + n ≤ b) (hb : b + n ≤ d.size) (hsz : d.size < 4611686018427387904) :
    Calls Try.prog 57 #[.slice (some ⟨blk, off, none⟩) d.size cap, .int .i64 a, .int .i64 b, .int .i64 n, cv] w fun e w' => e = .returned (.tuple #[]) ∧
      ∃ d', d'.size = d.size ∧ (∀ k, d'[k]! = d[swAt a b n k]!) ∧ SW enc w0 blk off d' w' := by
  have hcl0 := R.hO.cells
  simp only [Value.cells] at hcl0
  have hst := R.hO.store Try.prog
  have S0 : Aside (SW enc w0 blk off d w) := S
  clear S
  go_enter Try.func57, Try.ntmps57
  go_wp2
  go_loopg [10] n (fun kx vi wr => ∃ (i : Nat) (dk : Array α), vi = .int .i64 i ∧ i ≤ n ∧ n - i ≤ kx ∧ dk.size = d.size ∧ Aside (SW enc w0 blk off dk wr) ∧ Hid (∀ k, dk[k]! = d[swAt a b i k]!))
  case atStart => exact ⟨0, d, rfl, Nat.zero_le _, by omega, rfl, S0, fun k => by rw [swAt_zero]⟩
  case round =>
    clear S0
    obtain ⟨i, dk, rfl, hin, hkx, hds, S1, HE⟩ := hrel
    by_cases hlt : i < n
    · have hltz : (i : Int) < (n : Int) := by omega
      go_wp2_with fail
      obtain ⟨iN, hiN⟩ : ∃ q, q = a + i := ⟨_, rfl⟩
      obtain ⟨jN, hjN⟩ : ∃ q, q = b + i := ⟨_, rfl⟩
      have ea : ((a : Int) + (i : Int)).toNat = iN := by omega
      have pa : (0 : Int) ≤ (a : Int) + (i : Int) := by omega
      have ba : (a : Int) + (i : Int) < (d.size : Int) := by omega
      have ra : IntKind.i64.wrap ((a : Int) + (i : Int)) = (a : Int) + (i : Int) := by rw [IntKind.wrap_i64]; omega
      have ec : ((b : Int) + (i : Int)).toNat = jN := by omega
      have pc : (0 : Int) ≤ (b : Int) + (i : Int) := by omega
      have bc : (b : Int) + (i : Int) < (d.size : Int) := by omega
      have rc : IntKind.i64.wrap ((b : Int) + (i : Int)) = (b : Int) + (i : Int) := by rw [IntKind.wrap_i64]; omega
      obtain ⟨x, hx⟩ : ∃ x, x = dk[a + i]! := ⟨_, rfl⟩
      obtain ⟨y, hy⟩ : ∃ x, x = dk[b + i]! := ⟨_, rfl⟩
      have S2 : Aside (SW enc w0 blk off (swp dk (a + i) (b + i)) ((wr.setCell ⟨blk, off + iN, none⟩ (enc y)).setCell ⟨blk, off + jN, none⟩ (enc x)).drew) := by rw [hiN, hjN, hx, hy]; exact S1.out.swapped R (a + i) (b + i) (by omega) (by omega)
      have ca := S1.out.c1 R (by omega) (a + i) (by omega)
      have cb := S1.out.c1 R (by omega) (b + i) (by omega)
      have fa := S1.out.f1 R (by omega) (a + i) (by omega)
      have fb := S1.out.f1 R (by omega) (b + i) (by omega)
      obtain ⟨u, cc⟩ := S1.out.c2 R (by omega) (a + i) (b + i) (by omega) (by omega) (enc y)
      rw [← hjN, ← hiN] at cc
      rw [← hx, ← hiN] at ca
      rw [← hy, ← hjN] at cb
      rw [← hiN] at fa
      rw [← hjN] at fb
      clear S1 hx hy hiN hjN
      go_wp2_with fail
      have mixed : Try.prog.follows Departure.mixedOrders = true := by kernel_rfl
      go_big_region_o
      clear mixed
      clear ca cb cc fa fb
      generalize ((wr.setCell ⟨blk, off + iN, none⟩ (enc y)).setCell ⟨blk, off + jN, none⟩ (enc x)).drew = w2 at S2 ⊢
      clear ea ec
      go_wp2
      go_roundg (n - (i + 1))
      case measure => omega
      case rel => exact ⟨i + 1, swp dk (a + i) (b + i), by simp, by omega, Nat.le_refl _, by rw [size_swp]; exact hds, S2, fun k => swAt_step hds HE.out (by omega) (by omega) k⟩
    · have hltz : ¬ (i : Int) < (n : Int) := by omega
      go_wp2
      go_end0
      obtain rfl : i = n := by omega
      exact ⟨rfl, dk, hds, HE.out, S1.out⟩

set_option maxHeartbeats 4000000 in
set_option maxRecDepth 1000000 in
theorem rotate_any (enc : α → Value) (cv : Value) (blk off cap a m b : Nat) (d0 d : Array α) (w0 w : World)
    (R : Row1 enc w0 blk off d0) (hs : d0.size = d.size) (S : SW enc w0 blk off d w) (ham : a < m) (hmb : m < b) (hb : b ≤ d.size) (hsz : d.size < 4611686018427387904) :
    Calls Try.prog 55 #[.slice (some ⟨blk, off, none⟩) d.size cap, .int .i64 a, .int .i64 m, .int .i64 b, cv] w fun e w' => e = .returned (.tuple #[]) ∧
      ∃ d', d'.size = d.size ∧ (∀ k, d'[k]! = d[rotAt a m b k]!) ∧ SW enc w0 blk off d' w' := by
  have S0 : Aside (SW enc w0 blk off d w) := S
  have HS := Lib.hid hs
  clear S hs
  go_enter Try.func55, Try.ntmps55
  go_wp2
  go_loopg [10, 11] (b - a) (fun kx vi vj wr => ∃ (i j : Nat) (dk : Array α), vi = .int .i64 i ∧ vj = .int .i64 j ∧ 0 < i ∧ 0 < j ∧ a + i ≤ m ∧ m + j ≤ b ∧ i + j ≤ kx ∧ Hid (dk.size = d.size) ∧ Aside (SW enc w0 blk off dk wr) ∧ Hid (∀ k, d[rotAt a m b k]! = dk[rotAt (m - i) m (m + j) k]!))
  case atStart => 
    refine ⟨m - a, b - m, d, by rw [show ((m - a : Nat) : Int) = (m : Int) - (a : Int) by omega], by rw [show ((b - m : Nat) : Int) = (b : Int) - (m : Int) by omega], by omega, by omega, by omega, by omega, by omega, rfl, S0, fun k => ?_⟩
    rw [show m - (m - a) = a by omega, show m + (b - m) = b by omega]
  case round =>
    clear S0
    obtain ⟨i, j, dk, rfl, rfl, hi0, hj0, hia, hjb, hkx, HD, S1, HE⟩ := hrel
    rcases Nat.lt_trichotomy i j with hij | hij | hij
    · have hne : ((i : Int) != (j : Int)) = true := by rw [bne_iff_ne]; omega
      have hng : ¬ (j : Int) < (i : Int) := by omega
      have hc := fun W hW => swapRange_any enc cv blk off cap (m - i) (m + j - i) i d0 dk w0 W R (by rw [HS.out, HD.out]) hW (by omega) (by rw [HD.out]; omega) (by rw [HD.out]; exact hsz)
      have HC := Lib.hid hc
      clear hc
      have e1 : ((m - i : Nat) : Int) = (m : Int) - (i : Int) := by omega
      have e2 : ((m + j - i : Nat) : Int) = (m : Int) + (j : Int) - (i : Int) := by omega
      have HC2 := HC.out wr S1.out
      rw [HD.out, e1, e2] at HC2
      have HC3 := Lib.hid HC2
      clear HC HC2 e1 e2
      go_wp2_with fail
      refine HC3.out.mono ?_
      rintro e w' ⟨rfl, d', h1, h2, h3⟩
      have H1 := Lib.hid h1
      have H2 := Lib.hid h2
      have H3 : Aside _ := h3
      clear h1 h2 h3 S1
      go_wp2
      go_roundg (i + (j - i))
      case measure => omega
      case rel => 
        refine ⟨i, j - i, d', rfl, by rw [show ((j - i : Nat) : Int) = (j : Int) - (i : Int) by omega], hi0, by omega, by omega, by omega, Nat.le_refl _, H1.out, H3, ?_⟩
        exact rot_on HE.out H2.out (fun k => by
          rw [show m + (j - i) = m + j - i by omega]
          exact rot_less (by omega) (by omega))
    · subst hij
      have hne : ((i : Int) != (i : Int)) = false := by simp
      have e1 : ((m - i : Nat) : Int) = (m : Int) - (i : Int) := by omega
      have HC2 := swapRange_any enc cv blk off cap (m - i) m i d0 dk w0 wr R (by rw [HS.out, HD.out]) S1.out (by omega) (by rw [HD.out]; omega) (by rw [HD.out]; exact hsz)
      rw [HD.out, e1] at HC2
      have HC3 := Lib.hid HC2
      clear HC2 e1
      go_wp2_with fail
      refine HC3.out.mono ?_
      rintro e w' ⟨rfl, d', h1, h2, h3⟩
      have H1 := Lib.hid h1
      have H2 := Lib.hid h2
      have H3 : Aside _ := h3
      clear h1 h2 h3 S1
      go_wp2
      go_end0
      exact ⟨rfl, d', H1.out, fun k => by rw [HE.out, H2.out, rot_same (hi := m + i) (by omega) rfl], H3.out⟩
    · have hne : ((i : Int) != (j : Int)) = true := by rw [bne_iff_ne]; omega
      have hng : (j : Int) < (i : Int) := by omega
      have e1 : ((m - i : Nat) : Int) = (m : Int) - (i : Int) := by omega
      have HC2 := swapRange_any enc cv blk off cap (m - i) m j d0 dk w0 wr R (by rw [HS.out, HD.out]) S1.out (by omega) (by rw [HD.out]; omega) (by rw [HD.out]; exact hsz)
      rw [HD.out, e1] at HC2
      have HC3 := Lib.hid HC2
      clear HC2 e1
      go_wp2_with fail
      refine HC3.out.mono ?_
      rintro e w' ⟨rfl, d', h1, h2, h3⟩
      have H1 := Lib.hid h1
      have H2 := Lib.hid h2
      have H3 : Aside _ := h3
      clear h1 h2 h3 S1
      go_wp2
      go_roundg (i - j + j)
      case measure => omega
      case rel => 
        refine ⟨i - j, j, d', by rw [show ((i - j : Nat) : Int) = (i : Int) - (j : Int) by omega], rfl, by omega, hj0, by omega, by omega, Nat.le_refl _, H1.out, H3, ?_⟩
        exact rot_on HE.out H2.out (fun k => by
          rw [show m - (i - j) = m - i + j by omega]
          exact rot_more (by omega) rfl)
end Go.Proofs.Yticcpcejdndplaa
