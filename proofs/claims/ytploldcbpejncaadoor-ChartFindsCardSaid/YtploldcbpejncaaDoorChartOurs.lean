
/- The walks of Ours and Theirs: the same accounts, in new memory. -/
import Derived.Test.YtploldcbpejncaaDoorChartMem
import Derived.Test.YtploldcbpejncaaDoorChartNew
import Derived.Test.YtploldcbpejncaaDoorProg
import Derived.WalkKit
import Derived.WalkSpells
import Derived.Lib.Hide
import Derived.OwnWalk
import Derived.Handy
namespace Go.Proofs.YtploldcbpejncaaDoor
open Go.RowKit

theorem info_ours_any : (Tryd.prog.info? 23).map (fun i => (i.zero, i.size, i.bytes)) = some (some (.agg #[.string ⟨#[]⟩, .int .i64 0, .bool false, .bool false, .string ⟨#[]⟩, .bool false]), 6, 56) := by kernel_rfl
theorem info_theirs_any : (Tryd.prog.info? 28).map (fun i => (i.zero, i.size, i.bytes)) = some (some (.agg #[.string ⟨#[]⟩, .int .i64 0, .bool false, .bool false, .string ⟨#[]⟩, .bool false]), 6, 56) := by kernel_rfl
/-- What the round of a copying loop holds. -/
def CopyAt (w : World) (e : TypeId) (L : List Acct) (s3 s8 : Value) (wr : World) : Prop :=
  ∃ k : Nat, k ≤ L.length ∧ s8 = .int .i64 (k : Int) ∧ wr.ownsRow w.heap.size e 6 s3 (L.take k).length (flatA (L.take k)) ∧ Below w.heap.size w wr
/-- A chart is told in new memory. -/
def ChartTold (w : World) (L : List Acct) (e : Ending) (w' : World) : Prop := ∃ v, e = .returned v ∧ ChartV w' v L ∧ Below w.heap.size w w'
set_option maxRecDepth 100000 in
set_option maxHeartbeats 1000000 in
theorem ours_any (v : Value) (L : List Acct) (w : World) (h : ChartV w v L) (hL : L.length ≤ 1000) :
    Calls Tryd.prog 19 #[v] w (ChartTold w L) := by
  obtain ⟨a, c, rfl, hcap, hm, _, hc⟩ := h
  obtain ⟨i0, hi, hz0, hz1, hz2⟩ := info_parts info_ours_any
  have HI := Lib.hid (And.intro hi (And.intro hz0 (And.intro hz1 hz2)))
  have HC := Lib.hid hc
  clear hi hz0 hz1 hz2 hc
  unfold maxLen at hm
  go_enter Tryd.func19, Tryd.ntmps19
  go_wp2
  go_loopw [3, 8] (fun s3 s8 wr => CopyAt w 23 L s3 s8 wr) (fun _ s8 _ => L.length - (intOf s8).toNat)
  case atStart => exact ⟨0, Nat.zero_le _, rfl, World.ownsRow_nil _ _ _ _, Below.refl _ _⟩
  case round =>
    obtain ⟨k, hk, rfl, hown, hnx⟩ := hrel
    by_cases hlt : k < L.length
    · obtain ⟨x, hx⟩ : ∃ x, L[k]? = some x := ⟨_, List.getElem?_eq_getElem hlt⟩
      obtain ⟨b, o, rfl, hat⟩ := HC.out k x hx
      obtain ⟨c0, c1, c2, c3, c4, c5⟩ := hat.keep hnx hat.lt
      have HT : Hid (L.take (k + 1) = L.take k ++ [x]) := Lib.hid (by rw [take_at L k hlt]; rw [List.getElem?_eq_getElem hlt] at hx; rw [Option.some.inj hx])
      have hlk : (L.take k).length = k := by rw [List.length_take]; omega
      have HLK := Lib.hid hlk
      have hsz := hnx.size
      clear hx hat hlk
      go_wp2_with (at_builtin; refine wpList_append_own _ rfl _ _ 27 rfl w.heap.size 23 i0 (.agg #[.string ⟨#[]⟩, .int .i64 0, .bool false, .bool false, .string ⟨#[]⟩, .bool false]) 6 56 Tryd.underlying27 HI.out.1 HI.out.2.1 HI.out.2.2.1 HI.out.2.2.2 rfl (by decide) _ _ _ rfl ((hown.alloc _).alloc _) ⟨wr.heap.size + 1, 0, none⟩ 1 1 x.cells rfl rfl (new_cells2 wr _ x.cells _) (by intro u hu; simp [Acct.cells] at hu; rcases hu with rfl | rfl | rfl | rfl | rfl | rfl <;> rfl) (by rw [HLK.out]; unfold maxLen; omega) (by rw [HLK.out]; omega) (by simp; omega) ?_; intro v' w1 hown' hgrow _)
      go_roundw
      case rel =>
        refine ⟨k + 1, by omega, by go_num, ?_, ?_⟩
        · rw [HT.out, flatA_append, List.length_append, show flatA [x] = x.cells from by simp [flatA]]; exact hown'
        · exact below_grown ((hnx.alloc hsz _).alloc (by simp; omega) _) (by simp; omega) ((hown.alloc _).alloc _) hgrow
      case measure => simp [intOf]; omega
    · have hf : ChartV wr u3 L := by
        have : L.take k = L := List.take_of_length_le (by omega)
        rw [this] at hown
        exact chart_of_own hown
      have HF := Lib.hid hf
      clear hf
      go_wp2
      go_ret
      exact ⟨_, rfl, HF.out, hnx⟩
set_option maxRecDepth 100000 in
set_option maxHeartbeats 1000000 in
theorem theirs_any (v : Value) (L : List Acct) (w : World) (h : ChartV w v L) (hL : L.length ≤ 1000) :
    Calls Tryd.prog 22 #[v] w (ChartTold w L) := by
  obtain ⟨a, c, rfl, hcap, hm, _, hc⟩ := h
  obtain ⟨i0, hi, hz0, hz1, hz2⟩ := info_parts info_theirs_any
  have HI := Lib.hid (And.intro hi (And.intro hz0 (And.intro hz1 hz2)))
  have HC := Lib.hid hc
  clear hi hz0 hz1 hz2 hc
  unfold maxLen at hm
  go_enter Tryd.func22, Tryd.ntmps22
  go_wp2
  go_loopw [3, 8] (fun s3 s8 wr => CopyAt w 28 L s3 s8 wr) (fun _ s8 _ => L.length - (intOf s8).toNat)
  case atStart => exact ⟨0, Nat.zero_le _, rfl, World.ownsRow_nil _ _ _ _, Below.refl _ _⟩
  case round =>
    obtain ⟨k, hk, rfl, hown, hnx⟩ := hrel
    by_cases hlt : k < L.length
    · obtain ⟨x, hx⟩ : ∃ x, L[k]? = some x := ⟨_, List.getElem?_eq_getElem hlt⟩
      obtain ⟨b, o, rfl, hat⟩ := HC.out k x hx
      obtain ⟨c0, c1, c2, c3, c4, c5⟩ := hat.keep hnx hat.lt
      have HT : Hid (L.take (k + 1) = L.take k ++ [x]) := Lib.hid (by rw [take_at L k hlt]; rw [List.getElem?_eq_getElem hlt] at hx; rw [Option.some.inj hx])
      have hlk : (L.take k).length = k := by rw [List.length_take]; omega
      have HLK := Lib.hid hlk
      have hsz := hnx.size
      clear hx hat hlk
      go_wp2_with (at_builtin; refine wpList_append_own _ rfl _ _ 42 rfl w.heap.size 28 i0 (.agg #[.string ⟨#[]⟩, .int .i64 0, .bool false, .bool false, .string ⟨#[]⟩, .bool false]) 6 56 Tryd.underlying42 HI.out.1 HI.out.2.1 HI.out.2.2.1 HI.out.2.2.2 rfl (by decide) _ _ _ rfl ((hown.alloc _).alloc _) ⟨wr.heap.size + 1, 0, none⟩ 1 1 x.cells rfl rfl (new_cells2 wr _ x.cells _) (by intro u hu; simp [Acct.cells] at hu; rcases hu with rfl | rfl | rfl | rfl | rfl | rfl <;> rfl) (by rw [HLK.out]; unfold maxLen; omega) (by rw [HLK.out]; omega) (by simp; omega) ?_; intro v' w1 hown' hgrow _)
      go_roundw
      case rel =>
        refine ⟨k + 1, by omega, by go_num, ?_, ?_⟩
        · rw [HT.out, flatA_append, List.length_append, show flatA [x] = x.cells from by simp [flatA]]; exact hown'
        · exact below_grown ((hnx.alloc hsz _).alloc (by simp; omega) _) (by simp; omega) ((hown.alloc _).alloc _) hgrow
      case measure => simp [intOf]; omega
    · have hf : ChartV wr u3 L := by
        have : L.take k = L := List.take_of_length_le (by omega)
        rw [this] at hown
        exact chart_of_own hown
      have HF := Lib.hid hf
      clear hf
      go_wp2
      go_ret
      exact ⟨_, rfl, HF.out, hnx⟩
end Go.Proofs.YtploldcbpejncaaDoor
