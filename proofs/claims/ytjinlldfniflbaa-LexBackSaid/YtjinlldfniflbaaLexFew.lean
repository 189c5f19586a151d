
/- The walk of the statements' own check 'few': whether lines are few and short; memory that was there stays. -/
import Derived.Test.YtjinlldfniflbaaLexMem
import Derived.Test.YtjinlldfniflbaaBase
import Derived.Test.YtjinlldfniflbaaProg
import Derived.WalkKit
import Derived.WalkSpells
import Derived.Lib.Hide
import Derived.OwnWalk
import Derived.Handy
import Derived.LoopTactic
import Derived.Deep.LoopGhost
namespace Go.Proofs.Ytjinlldfniflbaa
open Go.RowKit

def fewW (ws : List ByteArray) : Bool := decide (ws.length ≤ 60) && ws.all fun x => decide (x.size ≤ 100)
def fewB (L : List (Int × List ByteArray)) : Bool := decide (L.length ≤ 60) && L.all fun x => fewW x.2
theorem fewB_parts {L : List (Int × List ByteArray)} (h : fewB L = true) : L.length ≤ 60 ∧ ∀ x ∈ L, x.2.length ≤ 60 ∧ ∀ y ∈ x.2, y.size ≤ 100 := by
  unfold fewB at h
  rw [Bool.and_eq_true] at h
  refine ⟨of_decide_eq_true h.1, fun x hx => ?_⟩
  have := List.all_eq_true.1 h.2 x hx
  unfold fewW at this
  rw [Bool.and_eq_true] at this
  exact ⟨of_decide_eq_true this.1, fun y hy => of_decide_eq_true (List.all_eq_true.1 this.2 y hy)⟩
theorem fewB_no {L : List (Int × List ByteArray)} {x : Int × List ByteArray} (hx : x ∈ L) (h : fewW x.2 = false) : fewB L = false := by
  cases hb : fewB L with
  | false => rfl
  | true =>
    unfold fewB at hb
    rw [Bool.and_eq_true] at hb
    have := List.all_eq_true.1 hb.2 x hx
    rw [← h]; exact this.symm
set_option maxRecDepth 100000 in
set_option maxHeartbeats 2000000 in
theorem few_any (v : Value) (L : List (Int × List ByteArray)) (w : World) (h : LinesV w v L) :
    Calls Try.prog 10 #[v] w fun e w' => e = .returned (.bool (fewB L)) ∧ Below w.heap.size w w' := by
  obtain ⟨a, c, rfl, hm, hc⟩ := h
  obtain ⟨n, hn⟩ : ∃ n, L.length = n := ⟨_, rfl⟩
  obtain ⟨F, hF⟩ : ∃ F, fewB L = F := ⟨_, rfl⟩
  rw [hn] at hm ⊢
  rw [hF]
  have HC := Lib.hid hc
  have HN := Lib.hid hn
  have HF := Lib.hid hF
  unfold maxLen at hm
  clear hc hn hF
  go_enter Try.func10, Try.ntmps10
  go_wp2
  go_loopg [9] n (fun kx vi wr => ∃ i : Nat, vi = .int .i64 (i : Int) ∧ i ≤ n ∧ n - i ≤ kx ∧ Below w.heap.size w wr ∧ Hid (∀ x ∈ L.take i, fewW x.2 = true))
  case atStart => exact ⟨0, rfl, Nat.zero_le _, by omega, Below.refl _ _, Lib.hid fun x hx => by simp at hx⟩
  case round =>
    obtain ⟨i, rfl, hin, hkx, hnx, HA⟩ := hrel
    by_cases hlt : i < n
    · have hil : i < L.length := by rw [HN.out]; exact hlt
      obtain ⟨⟨x, ws⟩, hget⟩ : ∃ y, L[i]? = some y := ⟨_, List.getElem?_eq_getElem hil⟩
      have HMem : Hid ((x, ws) ∈ L) := Lib.hid (List.mem_of_getElem? hget)
      have HTK : Hid (L.take (i + 1) = L.take i ++ [(x, ws)]) := Lib.hid (by rw [take_at L i hil]; rw [List.getElem?_eq_getElem hil] at hget; rw [Option.some.inj hget])
      obtain ⟨b1, o1, u1, rfl, d1, d2, s1⟩ := HC.out i _ hget
      clear hget
      dsimp only at d1 s1
      obtain ⟨a1, k1, rfl, _, m1, e1⟩ := s1
      have hbk := World.block_lt_of_cell? w _ d1
      have f1 := (hnx.cell (p := ⟨b1, o1 + i * 2, none⟩) hbk).trans d1
      have f2 := (hnx.cell (p := ⟨b1, o1 + i * 2 + 1, none⟩) hbk).trans d2
      have E1 := Lib.hid e1
      obtain ⟨nw, hnw⟩ : ∃ nw, ws.length = nw := ⟨_, rfl⟩
      rw [hnw] at f2 m1
      have HNW := Lib.hid hnw
      unfold maxLen at m1
      clear e1 hnw d1 d2
      have HB := Lib.hid (hnx.alloc hnx.size (.cells #[.int .i64 x, .slice a1 nw k1] 45))
      by_cases h60 : 60 < nw
      · have hres : Hid (F = false) := Lib.hid (by
          rw [← HF.out]
          refine fewB_no HMem.out ?_
          unfold fewW
          rw [HNW.out, decide_eq_false (by omega)]; rfl)
        go_wp2
        go_ret
        exact ⟨ret_bool hres.out.symm, HB.out⟩
      · have h60' : Hid (nw ≤ 60) := Lib.hid (by omega)
        go_wp2
        rename World => wa
        go_loop [20] (fun vi => ∃ j : Nat, vi = .int .i64 (j : Int) ∧ j ≤ nw ∧ Hid (∀ y ∈ ws.take j, y.size ≤ 100)) (fun vi => nw - (intOf vi).toNat)
        case atStart => exact ⟨0, rfl, Nat.zero_le _, Lib.hid fun y hy => by simp at hy⟩
        case round =>
          obtain ⟨j, rfl, hj, HY⟩ := hrel
          by_cases hjt : j < nw
          · have hjl : j < ws.length := by rw [HNW.out]; exact hjt
            obtain ⟨y, hy⟩ : ∃ y, ws[j]? = some y := ⟨_, List.getElem?_eq_getElem hjl⟩
            obtain ⟨b3, o3, rfl, g1⟩ := E1.out j y hy
            have g2 := (HB.out.cell (p := ⟨b3, o3 + j, none⟩) (World.block_lt_of_cell? w _ g1)).trans g1
            have HM : Hid (y ∈ ws) := Lib.hid (List.mem_of_getElem? hy)
            have HTJ : Hid (ws.take (j + 1) = ws.take j ++ [y]) := Lib.hid (by rw [take_at ws j hjl]; rw [List.getElem?_eq_getElem hjl] at hy; rw [Option.some.inj hy])
            clear hy g1
            by_cases h100 : 100 < y.size
            · have hres : Hid (F = false) := Lib.hid (by
                rw [← HF.out]
                refine fewB_no HMem.out ?_
                unfold fewW
                rw [Bool.and_eq_false_iff]
                refine .inr ?_
                cases hb : ws.all fun x => decide (x.size ≤ 100) with
                | false => rfl
                | true => exact absurd (of_decide_eq_true (List.all_eq_true.1 hb y HM.out)) (by omega))
              go_wp2
              go_ret
              exact ⟨ret_bool hres.out.symm, HB.out⟩
            · go_wp2
              go_round
              case rel => exact ⟨j + 1, by go_num, by omega, Lib.hid fun z hz => by
                rw [HTJ.out] at hz
                rcases List.mem_append.1 hz with h | h
                · exact HY.out z h
                · simp at h; subst h; omega⟩
              case measure => simp [intOf]; omega
          · have hfw : Hid (fewW ws = true) := Lib.hid (by
              unfold fewW
              rw [HNW.out, decide_eq_true h60'.out, Bool.true_and]
              refine List.all_eq_true.2 fun z hz => decide_eq_true (HY.out z ?_)
              rw [List.take_of_length_le (by rw [HNW.out]; omega)]; exact hz)
            go_wp2
            go_roundg (n - (i + 1))
            case measure => omega
            case rel => exact ⟨i + 1, by first | rfl | go_num, by omega, Nat.le_refl _, HB.out, Lib.hid fun z hz => by
              rw [HTK.out] at hz
              rcases List.mem_append.1 hz with h | h
              · exact HA.out z h
              · simp at h; subst h; exact hfw.out⟩
    · have hall : Hid (F = decide ((n : Int) ≤ 60)) := Lib.hid (by
        rw [← HF.out]
        unfold fewB
        rw [HN.out]
        have : L.all (fun x => fewW x.2) = true := List.all_eq_true.2 fun z hz => HA.out z (by rw [List.take_of_length_le (by rw [HN.out]; omega)]; exact hz)
        rw [this, Bool.and_true]
        rw [Bool.eq_iff_iff]; simp; omega)
      go_wp2
      go_ret
      exact ⟨ret_bool hall.out.symm, hnx⟩
end Go.Proofs.Ytjinlldfniflbaa
