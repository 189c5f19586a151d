
/- The walk of the statements' own check 'few': whether accounts are few and short; what was there stays. -/
import Derived.Test.YtploldcbpejncaaDoorChartFind
namespace Go.Proofs.YtploldcbpejncaaDoor
open Go.RowKit

def shortA (a : Acct) : Bool := decide (a.code.size ≤ 60) && decide (a.fixed.size ≤ 60)
def fewA (L : List Acct) : Bool := decide (L.length ≤ 70) && L.all shortA
theorem fewA_parts {L : List Acct} (h : fewA L = true) : L.length ≤ 70 ∧ ∀ x ∈ L, x.code.size ≤ 60 ∧ x.fixed.size ≤ 60 := by
  unfold fewA at h
  rw [Bool.and_eq_true] at h
  refine ⟨of_decide_eq_true h.1, fun x hx => ?_⟩
  have := List.all_eq_true.1 h.2 x hx
  unfold shortA at this
  rw [Bool.and_eq_true] at this
  exact ⟨of_decide_eq_true this.1, of_decide_eq_true this.2⟩
theorem fewA_no {L : List Acct} {x : Acct} (hx : x ∈ L) (h : shortA x = false) : fewA L = false := by
  cases hb : fewA L with
  | false => rfl
  | true =>
    unfold fewA at hb
    rw [Bool.and_eq_true] at hb
    rw [← h]; exact (List.all_eq_true.1 hb.2 x hx).symm
set_option maxRecDepth 100000 in
set_option maxHeartbeats 2000000 in
theorem few_any (v : Value) (L : List Acct) (w : World) (h : ChartV w v L) :
    Calls Tryd.prog 9 #[v] w fun e w' => e = .returned (.bool (fewA L)) ∧ Below w.heap.size w w' := by
  obtain ⟨a, c, rfl, hcap, hm, _, hc⟩ := h
  obtain ⟨n, hn⟩ : ∃ n, L.length = n := ⟨_, rfl⟩
  obtain ⟨r, hr⟩ : ∃ r, fewA L = r := ⟨_, rfl⟩
  rw [hn] at hcap ⊢
  rw [hr]
  have HC := Lib.hid hc
  have HN := Lib.hid hn
  have HR := Lib.hid hr
  unfold maxLen at hm
  clear hc hn hr
  go_enter Tryd.func9, Tryd.ntmps9
  go_wp2
  go_loopw [7] (fun s7 wr => ∃ i : Nat, i ≤ n ∧ s7 = .int .i64 (i : Int) ∧ Below w.heap.size w wr ∧ Hid (∀ x ∈ L.take i, shortA x = true)) (fun s7 _ => n - (intOf s7).toNat)
  case atStart => exact ⟨0, Nat.zero_le _, rfl, Below.refl _ _, Lib.hid fun x hx => by simp at hx⟩
  case round =>
    obtain ⟨i, hi, rfl, hnx, HNO⟩ := hrel
    by_cases hlt : i < n
    · have hil : i < L.length := by rw [HN.out]; exact hlt
      obtain ⟨x, hx⟩ : ∃ x, L[i]? = some x := ⟨_, List.getElem?_eq_getElem hil⟩
      obtain ⟨b, o, rfl, hat⟩ := HC.out i x hx
      obtain ⟨c0, c1, c2, c3, c4, c5⟩ := hat.keep hnx hat.lt
      have HMem := Lib.hid (List.mem_of_getElem? hx)
      have HTK : Hid (L.take (i + 1) = L.take i ++ [x]) := Lib.hid (by rw [take_at L i hil]; rw [List.getElem?_eq_getElem hil] at hx; rw [Option.some.inj hx])
      have HNX := Lib.hid (hnx.alloc hnx.size (.cells #[.string x.code, .int .i64 x.cls, .bool x.cash, .bool x.both, .string x.fixed, .bool x.worn] 23))
      clear hx hat hil
      by_cases h1 : 60 < x.code.size
      · have hres : Hid (r = false) := Lib.hid (by
          rw [← HR.out]
          refine fewA_no HMem.out ?_
          unfold shortA
          rw [decide_eq_false (by omega)]; rfl)
        go_wp2
        go_ret
        exact ⟨ret_bool hres.out.symm, HNX.out⟩
      · by_cases h2 : 60 < x.fixed.size
        · have hres : Hid (r = false) := Lib.hid (by
            rw [← HR.out]
            refine fewA_no HMem.out ?_
            unfold shortA
            rw [decide_eq_false (p := x.fixed.size ≤ 60) (by omega), Bool.and_false])
          go_wp2
          go_ret
          exact ⟨ret_bool hres.out.symm, HNX.out⟩
        · have hsh : Hid (shortA x = true) := Lib.hid (by unfold shortA; rw [decide_eq_true (by omega), decide_eq_true (by omega)]; rfl)
          go_wp2
          go_roundw
          case rel => exact ⟨i + 1, by omega, by go_num, HNX.out, Lib.hid fun z hz => by
            rw [HTK.out] at hz
            rcases List.mem_append.1 hz with h | h
            · exact HNO.out z h
            · simp at h; subst h; exact hsh.out⟩
          case measure => simp [intOf]; omega
    · have hall : Hid (r = decide ((n : Int) ≤ 70)) := Lib.hid (by
        rw [← HR.out]
        unfold fewA
        rw [HN.out]
        have : L.all shortA = true := List.all_eq_true.2 fun z hz => HNO.out z (by rw [List.take_of_length_le (by rw [HN.out]; omega)]; exact hz)
        rw [this, Bool.and_true]
        rw [Bool.eq_iff_iff]; simp; omega)
      go_wp2
      go_ret
      exact ⟨ret_bool hall.out.symm, hnx⟩
end Go.Proofs.YtploldcbpejncaaDoor
