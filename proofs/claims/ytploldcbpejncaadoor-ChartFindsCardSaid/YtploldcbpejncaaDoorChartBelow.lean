
/- The walk of chart.below: what the plain facts say; what was there stays. -/
import Derived.Test.YtploldcbpejncaaDoorChartFind
namespace Go.Proofs.YtploldcbpejncaaDoor
open Go.RowKit

theorem ret_num {k : IntKind} {a b : Int} (h : a = b) : Ending.returned (.int k a) = .returned (.int k b) := by rw [h]
set_option maxRecDepth 100000 in
set_option maxHeartbeats 2000000 in
theorem below_any (v : Value) (L : List Acct) (code : ByteArray) (w : World) (h : ChartV w v L) :
    Calls Tryd.prog 31 #[v, .string code] w fun e w' => e = .returned (.int .i64 (belowL L code)) ∧ Below w.heap.size w w' := by
  obtain ⟨a, c, rfl, hcap, hm, _, hc⟩ := h
  obtain ⟨n, hn⟩ : ∃ n, L.length = n := ⟨_, rfl⟩
  obtain ⟨r, hr⟩ : ∃ r, belowL L code = r := ⟨_, rfl⟩
  rw [hn] at hcap ⊢
  rw [hr]
  have HC := Lib.hid hc
  have HN := Lib.hid hn
  have HR := Lib.hid hr
  unfold maxLen at hm
  clear hc hn hr
  go_enter Tryd.func31, Tryd.ntmps31
  go_wp2
  go_loopw [9] (fun s9 wr => ∃ i : Nat, i ≤ n ∧ s9 = .int .i64 (i : Int) ∧ Below w.heap.size w wr ∧ Hid (∀ (j : Nat) (y : Acct), j < i → L[j]? = some y → gtS y.code code = false)) (fun s9 _ => n - (intOf s9).toNat)
  case atStart => exact ⟨0, Nat.zero_le _, rfl, Below.refl _ _, Lib.hid fun j y hj => absurd hj (Nat.not_lt_zero _)⟩
  case round =>
    obtain ⟨i, hi, rfl, hnx, HNO⟩ := hrel
    by_cases hlt : i < n
    · obtain ⟨x, hx⟩ : ∃ x, L[i]? = some x := ⟨_, List.getElem?_eq_getElem (by rw [HN.out]; exact hlt)⟩
      obtain ⟨b, o, rfl, hat⟩ := HC.out i x hx
      obtain ⟨c0, c1, c2, c3, c4, c5⟩ := hat.keep hnx hat.lt
      have HX := Lib.hid hx
      have HNX := Lib.hid (hnx.alloc hnx.size (.cells #[.string x.code, .int .i64 x.cls, .bool x.cash, .bool x.both, .string x.fixed, .bool x.worn] 28))
      clear hx hat
      cases hxe : gtS x.code code with
      | false =>
        have HXE := Lib.hid hxe
        unfold gtS ltS at hxe
        simp only [Bool.not_eq_false'] at hxe
        go_wp2
        all_goals
          go_roundw
          case rel => exact ⟨i + 1, by omega, by go_num, HNX.out, Lib.hid fun j y hj hy => by
            rcases Nat.lt_or_ge j i with h | h
            · exact HNO.out j y h hy
            · obtain rfl : j = i := by omega
              rw [HX.out] at hy; cases hy; exact HXE.out⟩
          case measure => simp [intOf]; omega
      | true =>
        have HXE := Lib.hid hxe
        have hres : Hid (r = i) := Lib.hid (by rw [← HR.out]; exact below_at HNO.out HX.out HXE.out)
        unfold gtS ltS at hxe
        simp only [Bool.not_eq_true', Bool.or_eq_false_iff] at hxe
        obtain ⟨g1, g2⟩ := hxe
        go_wp2
        all_goals
          go_ret
          exact ⟨ret_num (by rw [hres.out]), HNX.out⟩
    · have hres : Hid (r = n) := Lib.hid (by
        rw [← HR.out, ← HN.out]
        refine below_none fun j y hy => HNO.out j y ?_ hy
        have := (List.getElem?_eq_some_iff.1 hy).1
        rw [HN.out] at this; omega)
      go_wp2
      go_ret
      exact ⟨ret_num (by rw [hres.out]), hnx⟩
end Go.Proofs.YtploldcbpejncaaDoor
