
/- The walks of the document's SameWords and of slices.Equal at texts: whether the texts are the same; only draws. -/
import Derived.Test.YtkacidoflmbjkaaDoorLexMem
import Derived.Test.YtkacidoflmbjkaaDoorBase
import Derived.Test.YtkacidoflmbjkaaDoorProg
import Derived.WalkKit
import Derived.WalkSpells
import Derived.Lib.Hide
import Derived.Lib.SlicesS
import Derived.BigQuiet
import Derived.Deep.QuietTactic
import Derived.LoopTactic
import Derived.Deep.LoopGhost
namespace Go.Proofs.YtkacidoflmbjkaaDoor
open Go.RowKit

theorem cellD (w : World) (q : Nat) (p : Addr) : (w.drewN q).cell? p = w.cell? p := rfl
def sameW (us vs : List ByteArray) : Bool := decide (us = vs)
theorem sameW_len {us vs : List ByteArray} (h : us.length ≠ vs.length) : sameW us vs = false := decide_eq_false fun e => h (by rw [e])
theorem sameW_no {us vs : List ByteArray} {i : Nat} {x y : ByteArray} (hx : us[i]? = some x) (hy : vs[i]? = some y) (h : x ≠ y) : sameW us vs = false :=
  decide_eq_false fun e => h (by rw [e, hy] at hx; exact (Option.some.inj hx).symm)
theorem sameW_yes {us vs : List ByteArray} {n : Nat} (hu : us.length = n) (hv : vs.length = n) (h : ∀ (j : Nat) (x y : ByteArray), j < n → us[j]? = some x → vs[j]? = some y → x = y) : sameW us vs = true :=
  decide_eq_true (by
    apply List.ext_getElem?
    intro j
    by_cases hj : j < n
    · rw [List.getElem?_eq_getElem (by omega), List.getElem?_eq_getElem (by omega)]
      rw [h j _ _ hj (List.getElem?_eq_getElem (by omega)) (List.getElem?_eq_getElem (by omega))]
    · rw [List.getElem?_eq_none (by omega), List.getElem?_eq_none (by omega)])

set_option maxRecDepth 100000 in
set_option maxHeartbeats 2000000 in
theorem sameWords_any (v u : Value) (vs us : List ByteArray) (w : World) (h : StrsV w v vs) (h' : StrsV w u us) :
    Calls Tryd.prog 13 #[v, u] w fun e w' => e = .returned (.bool (sameW vs us)) ∧ ∃ q, w' = w.drewN q := by
  obtain ⟨a, c, rfl, _, hm, hc⟩ := h
  obtain ⟨a', c', rfl, _, hm', hc'⟩ := h'
  obtain ⟨n, hn⟩ : ∃ n, vs.length = n := ⟨_, rfl⟩
  obtain ⟨n', hn'⟩ : ∃ n, us.length = n := ⟨_, rfl⟩
  obtain ⟨r, hr⟩ : ∃ r, sameW vs us = r := ⟨_, rfl⟩
  rw [hn] at hm ⊢
  rw [hn'] at hm' ⊢
  rw [hr]
  have H := Lib.hid hc
  have H' := Lib.hid hc'
  have HN := Lib.hid hn
  have HN' := Lib.hid hn'
  have HR := Lib.hid hr
  unfold maxLen at hm hm'
  clear hc hc' hn hn' hr
  by_cases hne : n = n'
  · subst hne
    have hnn : ((n : Int) != (n : Int)) = false := by simp
    go_enter Tryd.func13, Tryd.ntmps13
    go_wp2
    go_loopg [5] n (fun kx vi wr => ∃ i q : Nat, vi = .int .i64 (i : Int) ∧ i ≤ n ∧ n - i ≤ kx ∧ Hid (wr = w.drewN q) ∧ Hid (∀ (j : Nat) (x y : ByteArray), j < i → vs[j]? = some x → us[j]? = some y → x = y))
    case atStart => exact ⟨0, 0, rfl, Nat.zero_le _, by omega, rfl, Lib.hid fun j x y hj => absurd hj (Nat.not_lt_zero _)⟩
    case round =>
      obtain ⟨i, q, rfl, hin, hkx, HW, HA⟩ := hrel
      by_cases hlt : i < n
      · obtain ⟨x, hx⟩ : ∃ y, vs[i]? = some y := ⟨_, List.getElem?_eq_getElem (by rw [HN.out]; exact hlt)⟩
        obtain ⟨y, hy⟩ : ∃ y, us[i]? = some y := ⟨_, List.getElem?_eq_getElem (by rw [HN'.out]; exact hlt)⟩
        obtain ⟨b1, o1, rfl, d1⟩ := H.out i _ hx
        obtain ⟨b2, o2, rfl, d2⟩ := H'.out i _ hy
        have HX := Lib.hid hx
        have HY := Lib.hid hy
        clear hx hy
        rw [← cellD w q, ← HW.out] at d1 d2
        have hltz : (i : Int) < (n : Int) := by omega
        cases hxy : (x.toList == y.toList) with
        | true =>
          have HXE := Lib.hid ((Lib.bytes_beq_iff x y).1 hxy)
          go_wp2_with fail
          go_big_quiet (fail)
          clear d1 d2 hxy
          go_wp2
          go_roundg (n - (i + 1))
          case measure => omega
          case rel => exact ⟨i + 1, q + nq, by first | rfl | go_num, by omega, Nat.le_refl _, Lib.hid (by rw [HW.out, World.drewN_drewN]), Lib.hid fun j z t hj hz ht => by
            rcases Nat.lt_or_ge j i with h | h
            · exact HA.out j z t h hz ht
            · obtain rfl : j = i := by omega
              rw [HX.out] at hz; rw [HY.out] at ht
              cases hz; cases ht; exact HXE.out⟩
        | false =>
          have HXE := Lib.hid ((Lib.bytes_beq_false_iff x y).1 hxy)
          go_wp2_with fail
          go_big_quiet (fail)
          clear d1 d2 hxy
          go_wp2
          go_ret
          exact ⟨ret_bool (by rw [← HR.out, sameW_no HX.out HY.out HXE.out]), q + nq, by rw [HW.out, World.drewN_drewN]⟩
      · have hltz : ¬ (i : Int) < (n : Int) := by omega
        go_wp2
        go_ret
        exact ⟨ret_bool (by rw [← HR.out, sameW_yes HN.out HN'.out fun j x y hj => HA.out j x y (by omega)]), q, HW.out⟩
  · have hnn : ((n : Int) != (n' : Int)) = true := by simp; omega
    have HNE := Lib.hid hne
    clear hne
    go_enter Tryd.func13, Tryd.ntmps13
    go_wp2
    go_ret
    exact ⟨ret_bool (by rw [← HR.out, sameW_len (by rw [HN.out, HN'.out]; exact HNE.out)]), 0, rfl⟩
end Go.Proofs.YtkacidoflmbjkaaDoor
