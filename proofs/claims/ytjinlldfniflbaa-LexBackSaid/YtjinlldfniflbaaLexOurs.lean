
/- The walks of Ours and theirs: the same lines, in new memory. -/
import Derived.Test.YtjinlldfniflbaaLexMem
import Derived.Test.YtjinlldfniflbaaProg
import Derived.WalkKit
import Derived.WalkSpells
import Derived.Lib.Hide
import Derived.OwnWalk
import Derived.Handy
import Derived.Shelf.Strings.FieldsFuncAny
namespace Go.Proofs.Ytjinlldfniflbaa
open Go.RowKit

theorem info_rline : (Try.prog.info? 45).map (fun i => (i.zero, i.size, i.bytes)) = some (some (.agg #[.int .i64 0, .slice none 0 0]), 2, 32) := by kernel_rfl
theorem info_tline : (Try.prog.info? 46).map (fun i => (i.zero, i.size, i.bytes)) = some (some (.agg #[.int .i64 0, .slice none 0 0]), 2, 32) := by kernel_rfl
/-- What the round of a copying loop holds. -/
def OursAt (w : World) (e : TypeId) (L : List (Int × List ByteArray)) (s3 s8 : Value) (wr : World) : Prop :=
  ∃ (k : Nat) (LV : List (Int × Value)), k ≤ L.length ∧ s8 = .int .i64 (k : Int) ∧ wr.ownsRow w.heap.size e 2 s3 LV.length (flatL LV) ∧ WordsIn w LV (L.take k) ∧ Below w.heap.size w wr

set_option maxRecDepth 100000 in
set_option maxHeartbeats 1000000 in
theorem ours_any (v : Value) (L : List (Int × List ByteArray)) (w : World) (h : LinesV w v L) (hL : L.length ≤ 30000) :
    Calls Try.prog 14 #[v] w fun e w' => ∃ v', e = .returned v' ∧ LinesV w' v' L ∧ Below w.heap.size w w' := by
  obtain ⟨a, c, rfl, hm, hc⟩ := h
  obtain ⟨i0, hi, hz0, hz1, hz2⟩ := info_parts info_rline
  have HI := Lib.hid (And.intro hi (And.intro hz0 (And.intro hz1 hz2)))
  have HC := Lib.hid hc
  clear hi hz0 hz1 hz2 hc
  unfold maxLen at hm
  go_enter Try.func14, Try.ntmps14
  go_wp2
  go_loopw [3, 8] (fun s3 s8 wr => OursAt w 45 L s3 s8 wr) (fun _ s8 _ => L.length - (intOf s8).toNat)
  case atStart => exact ⟨0, [], Nat.zero_le _, rfl, World.ownsRow_nil _ _ _ _, WordsIn.nil _, Below.refl _ _⟩
  case round =>
    obtain ⟨k, LV, hk, rfl, hown, hw, hnx⟩ := hrel
    by_cases hlt : k < L.length
    · obtain ⟨b, o, u, rfl, c1, c2, hu⟩ := HC.out k _ (List.getElem?_eq_getElem hlt)
      have hbk := World.block_lt_of_cell? w _ c1
      have d1 := (hnx.cell (p := ⟨b, o + k * 2, none⟩) hbk).trans c1
      have d2 := (hnx.cell (p := ⟨b, o + k * 2 + 1, none⟩) hbk).trans c2
      have HU := Lib.hid hu
      obtain ⟨a2, c2', hue, _⟩ := hu
      obtain ⟨ws, hws⟩ : ∃ ws, L[k].2 = ws := ⟨_, rfl⟩
      obtain ⟨nn, hnn⟩ : ∃ nn, L[k].1 = nn := ⟨_, rfl⟩
      have HT : Hid (L.take (k + 1) = L.take k ++ [(nn, ws)]) := Lib.hid (by rw [take_at L k hlt, ← hws, ← hnn])
      rw [hws] at HU hue
      rw [hnn] at d1
      subst hue
      clear hws hnn c1 c2
      have hlv : LV.length ≤ 30000 := by have := hw.1; simp at this; omega
      have HW := Lib.hid hw
      have hsz := hnx.size
      clear hw
      go_wp2_with (at_builtin; refine wpList_append_own _ rfl _ _ 22 rfl w.heap.size 45 i0 (.agg #[.int .i64 0, .slice none 0 0]) 2 32 Try.underlying22 HI.out.1 HI.out.2.1 HI.out.2.2.1 HI.out.2.2.2 rfl (by decide) _ _ _ rfl ((hown.alloc _).alloc _) ⟨wr.heap.size + 1, 0, none⟩ 1 1 [.int .i64 nn, .slice a2 ws.length c2'] rfl rfl (by have := cell_two_new' (wr.alloc (.cells #[.int .i64 nn, .slice a2 ws.length c2'] 46)) (.int .i64 nn) (.slice a2 ws.length c2') 45; rw [World.size_alloc] at this; exact this) (by intro u hu; simp at hu; rcases hu with rfl | rfl <;> rfl) (by unfold maxLen; omega) (by omega) (by simp; omega) ?_; intro v' w1 hown' hgrow _)
      go_roundw
      case rel =>
        refine ⟨k + 1, LV ++ [(nn, .slice a2 ws.length c2')], by omega, by go_num, ?_, ?_, ?_⟩
        · rw [flatL_snoc, List.length_append]; exact hown'
        · rw [HT.out]; exact HW.out.snoc _ _ _ HU.out
        · exact below_grown ((hnx.alloc hsz _).alloc (by simp; omega) _) (by simp; omega) ((hown.alloc _).alloc _) hgrow
      case measure => simp [intOf]; omega
    · have hf : LinesV wr u3 L := by
        have : L.take k = L := List.take_of_length_le (by omega)
        rw [this] at hw
        exact lines_of_in hown (hw.keep hnx)
      have HF := Lib.hid hf
      clear hf hw
      go_wp2
      go_ret
      exact ⟨_, rfl, HF.out, hnx⟩
set_option maxRecDepth 100000 in
set_option maxHeartbeats 1000000 in
theorem theirs_any (v : Value) (L : List (Int × List ByteArray)) (w : World) (h : LinesV w v L) (hL : L.length ≤ 30000) :
    Calls Try.prog 18 #[v] w fun e w' => ∃ v', e = .returned v' ∧ LinesV w' v' L ∧ Below w.heap.size w w' := by
  obtain ⟨a, c, rfl, hm, hc⟩ := h
  obtain ⟨i0, hi, hz0, hz1, hz2⟩ := info_parts info_tline
  have HI := Lib.hid (And.intro hi (And.intro hz0 (And.intro hz1 hz2)))
  have HC := Lib.hid hc
  clear hi hz0 hz1 hz2 hc
  unfold maxLen at hm
  go_enter Try.func18, Try.ntmps18
  go_wp2
  go_loopw [3, 8] (fun s3 s8 wr => OursAt w 46 L s3 s8 wr) (fun _ s8 _ => L.length - (intOf s8).toNat)
  case atStart => exact ⟨0, [], Nat.zero_le _, rfl, World.ownsRow_nil _ _ _ _, WordsIn.nil _, Below.refl _ _⟩
  case round =>
    obtain ⟨k, LV, hk, rfl, hown, hw, hnx⟩ := hrel
    by_cases hlt : k < L.length
    · obtain ⟨b, o, u, rfl, c1, c2, hu⟩ := HC.out k _ (List.getElem?_eq_getElem hlt)
      have hbk := World.block_lt_of_cell? w _ c1
      have d1 := (hnx.cell (p := ⟨b, o + k * 2, none⟩) hbk).trans c1
      have d2 := (hnx.cell (p := ⟨b, o + k * 2 + 1, none⟩) hbk).trans c2
      have HU := Lib.hid hu
      obtain ⟨a2, c2', hue, _⟩ := hu
      obtain ⟨ws, hws⟩ : ∃ ws, L[k].2 = ws := ⟨_, rfl⟩
      obtain ⟨nn, hnn⟩ : ∃ nn, L[k].1 = nn := ⟨_, rfl⟩
      have HT : Hid (L.take (k + 1) = L.take k ++ [(nn, ws)]) := Lib.hid (by rw [take_at L k hlt, ← hws, ← hnn])
      rw [hws] at HU hue
      rw [hnn] at d1
      subst hue
      clear hws hnn c1 c2
      have hlv : LV.length ≤ 30000 := by have := hw.1; simp at this; omega
      have HW := Lib.hid hw
      have hsz := hnx.size
      clear hw
      go_wp2_with (at_builtin; refine wpList_append_own _ rfl _ _ 26 rfl w.heap.size 46 i0 (.agg #[.int .i64 0, .slice none 0 0]) 2 32 Try.underlying26 HI.out.1 HI.out.2.1 HI.out.2.2.1 HI.out.2.2.2 rfl (by decide) _ _ _ rfl ((hown.alloc _).alloc _) ⟨wr.heap.size + 1, 0, none⟩ 1 1 [.int .i64 nn, .slice a2 ws.length c2'] rfl rfl (by have := cell_two_new' (wr.alloc (.cells #[.int .i64 nn, .slice a2 ws.length c2'] 45)) (.int .i64 nn) (.slice a2 ws.length c2') 46; rw [World.size_alloc] at this; exact this) (by intro u hu; simp at hu; rcases hu with rfl | rfl <;> rfl) (by unfold maxLen; omega) (by omega) (by simp; omega) ?_; intro v' w1 hown' hgrow _)
      go_roundw
      case rel =>
        refine ⟨k + 1, LV ++ [(nn, .slice a2 ws.length c2')], by omega, by go_num, ?_, ?_, ?_⟩
        · rw [flatL_snoc, List.length_append]; exact hown'
        · rw [HT.out]; exact HW.out.snoc _ _ _ HU.out
        · exact below_grown ((hnx.alloc hsz _).alloc (by simp; omega) _) (by simp; omega) ((hown.alloc _).alloc _) hgrow
      case measure => simp [intOf]; omega
    · have hf : LinesV wr u3 L := by
        have : L.take k = L := List.take_of_length_le (by omega)
        rw [this] at hw
        exact lines_of_in hown (hw.keep hnx)
      have HF := Lib.hid hf
      clear hf hw
      go_wp2
      go_ret
      exact ⟨_, rfl, HF.out, hnx⟩
end Go.Proofs.Ytjinlldfniflbaa
