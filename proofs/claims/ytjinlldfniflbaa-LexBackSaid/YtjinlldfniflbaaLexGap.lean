
/- The walk of the statement's own closure, which picks a gap: one of three texts; it counts on in a box, and leaves all else. -/
import Derived.Test.YtjinlldfniflbaaLexMem
import Derived.Test.YtjinlldfniflbaaProg
import Derived.Test.YtjinlldfniflbaaBase
import Derived.WalkKit
import Derived.WalkSpells
import Derived.Lib.Hide
import Derived.OwnWalk
import Derived.Handy
namespace Go.Proofs.Ytjinlldfniflbaa
open Go.RowKit

/-- What the closure leaves. -/
def GapPost (W : World) (kb n : Nat) (x0 x1 x2 : ByteArray) (e : Ending) (W' : World) : Prop :=
  ∃ (x : ByteArray) (k : Nat), (x = x0 ∨ x = x1 ∨ x = x2) ∧ e = .returned (.string x) ∧ k ≤ n ∧ Boxed W' kb 3 (.int .i64 (k : Int)) ∧ W.grownBy W' (some kb)
theorem grown_refl (W : World) (r : Option Nat) : W.grownBy W r := ⟨rfl, rfl, rfl, Nat.le_refl _, fun _ _ _ => rfl⟩

set_option maxRecDepth 100000 in
set_option maxHeartbeats 1000000 in
theorem gap_any (W : World) (kb gb : Nat) (p : Option Addr) (n c : Nat) (gl : List Int) (k : Nat) (v : Value) (x0 x1 x2 : ByteArray) (hv : StrsV W v [x0, x1, x2]) (hg : Boxed W gb 41 (.slice p n c)) (hk : Boxed W kb 3 (.int .i64 (k : Int))) (hkn : k ≤ n) (hn : n ≤ 300)
    (hr : RowIs .u8 W p n gl) (hl : ∀ x ∈ gl, InU8 x) (hne : gb ≠ kb) :
    Calls Try.prog 22 #[v, .pointer (some ⟨kb, 0, none⟩), .pointer (some ⟨gb, 0, none⟩)] W (GapPost W kb n x0 x1 x2) := by
  have hkc := hk.cell
  have hkf := hk.frozen
  have hgc := hg.cell
  obtain ⟨a, cc, rfl, _, _, hc⟩ := hv
  obtain ⟨b, o, rfl, d0⟩ := hc 0 x0 rfl
  obtain ⟨_, _, e1, d1⟩ := hc 1 x1 rfl
  obtain ⟨_, _, e2, d2⟩ := hc 2 x2 rfl
  injection e1 with e1
  injection e1 with e1a e1b
  injection e2 with e2
  injection e2 with e2a e2b
  subst e1a e1b e2a e2b
  rw [Nat.add_zero] at d0
  simp only [List.length_cons, List.length_nil, Nat.zero_add, Nat.reduceAdd]
  have HK := Lib.hid hk
  have HG := Lib.hid hg
  clear hc hk hg
  by_cases hkn2 : n ≤ k
  · go_enter Try.func22, Try.ntmps22
    go_wp2
    go_ret
    exact ⟨x0, k, .inl rfl, rfl, hkn, HK.out, grown_refl _ _⟩
  · obtain ⟨b5, o5, rfl, d5⟩ := hr.cell k (by omega)
    have hkl : k < gl.length := by rw [hr.len]; omega
    obtain ⟨g, hgg⟩ : ∃ g, gl.getD k 0 = g := ⟨_, rfl⟩
    rw [hgg] at d5
    obtain ⟨hg0, hg1⟩ : InU8 g := by rw [← hgg, getD_at gl k hkl]; exact hl _ (List.getElem_mem hkl)
    have hbne : b5 ≠ kb := fun e => by
      subst e
      have h1 := HK.out
      unfold Boxed at h1
      have h2 := d5
      unfold World.cell? at h2
      rw [h1] at h2
      simp at h2
      cases hh : o5 + k with
      | zero => rw [hh] at h2; simp at h2
      | succ m => rw [hh] at h2; simp at h2
    have hbs : b ≠ kb := fun e => by
      subst e
      have h1 := HK.out
      unfold Boxed at h1
      have h2 := d0
      unfold World.cell? at h2
      rw [h1] at h2
      simp at h2
      cases o with
      | zero => simp at h2
      | succ m => simp at h2
    have hgr := grownBy_setCell' W kb (.int .i64 ((k : Int) + 1))
    have keep : ∀ (q : Nat) (oo : Nat) (y : Value), q ≠ kb → W.cell? ⟨q, oo, none⟩ = some y → (W.setCell ⟨kb, 0, none⟩ (.int .i64 ((k : Int) + 1))).cell? ⟨q, oo, none⟩ = some y := fun q oo y hq hy =>
      (World.cell?_of_block (a := ⟨q, oo, none⟩) (hgr.block q (World.block_lt_of_cell? W _ hy) (fun e => hq (Option.some.inj e)))).trans hy
    have m0 := keep b o _ hbs d0
    have m1 := keep b (o + 1) _ hbs d1
    have m2 := keep b (o + 2) _ hbs d2
    have m5 := keep b5 (o5 + k) _ hbne d5
    have mg := keep gb 0 _ hne hgc
    have hk2 := HK.out.set (.int .i64 ((k : Int) + 1))
    have mk := hk2.cell
    have HK2 : Hid (Boxed (W.setCell ⟨kb, 0, none⟩ (.int .i64 ((k : Int) + 1))) kb 3 (.int .i64 ((k + 1 : Nat) : Int))) := Lib.hid (by simpa using hk2)
    have HGR := Lib.hid hgr
    have hk1 : k + 1 ≤ n := by omega
    clear hgg hk2 hgr keep hr hl hne hbne hbs d0 d1 d2 d5
    rcases (by omega : g % 3 = 0 ∨ g % 3 = 1 ∨ g % 3 = 2) with hq | hq | hq
    · go_enter Try.func22, Try.ntmps22
      go_wp2
      go_ret
      exact ⟨x0, k + 1, .inl rfl, rfl, hk1, HK2.out, HGR.out⟩
    · go_enter Try.func22, Try.ntmps22
      go_wp2
      go_ret
      exact ⟨x1, k + 1, .inr (.inl rfl), rfl, hk1, HK2.out, HGR.out⟩
    · go_enter Try.func22, Try.ntmps22
      go_wp2
      go_ret
      exact ⟨x2, k + 1, .inr (.inr rfl), rfl, hk1, HK2.out, HGR.out⟩
end Go.Proofs.Ytjinlldfniflbaa
