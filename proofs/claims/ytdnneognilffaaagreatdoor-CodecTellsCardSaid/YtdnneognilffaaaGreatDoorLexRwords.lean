
/- The walk of the document's Words: the words of any short text, in new memory. -/
import Derived.Test.YtdnneognilffaaaGreatDoorLexMem
import Derived.Test.YtdnneognilffaaaGreatDoorLexBytes
import Derived.OwnWalk
import Derived.Handy
import Derived.Maps.AppendAt
namespace Go.Proofs.YtdnneognilffaaaGreatDoor
open Go.RowKit

theorem info_string : (Tryz.prog.info? 9).map (fun i => (i.zero, i.size, i.bytes)) = some (some (.string ⟨#[]⟩), 1, 16) := by kernel_rfl
theorem fieldsGo_snoc (cur : List UInt8) (c : UInt8) (r : List UInt8) (h : gapB c = false) : fieldsGo cur (c :: r) = fieldsGo (cur ++ [c]) r := by simp [fieldsGo, h]
theorem fieldsGo_end (cur : List UInt8) (c : UInt8) (r : List UInt8) (h : gapB c = true) (hc : cur ≠ []) : fieldsGo cur (c :: r) = cur :: fieldsGo [] r := by simp [fieldsGo, h, hc]
theorem fieldsGo_skip (c : UInt8) (r : List UInt8) (h : gapB c = true) : fieldsGo [] (c :: r) = fieldsGo [] r := by simp [fieldsGo, h]
theorem drop_at (s : ByteArray) (k : Nat) (h : k < s.size) : s.data.toList.drop k = s[k] :: s.data.toList.drop (k + 1) := by
  have : s[k] = s.data.toList[k]'(by rw [size_list]; exact h) := by simp [ByteArray.getElem_eq_getElem_data]
  rw [this]; exact List.drop_eq_getElem_cons _
theorem gapB_dec (c : UInt8) : gapB c = decide (c.toNat = 9 ∨ c.toNat = 32) := by
  rw [← gapR_byte]; unfold gapR; rw [Bool.eq_iff_iff]; simp
theorem bytes_add (t u : ByteArray) : (t ++ u).data.toList = t.data.toList ++ u.data.toList := by simp [ByteArray.data_append]
/-- What is handed back. -/
def RWordsPost (w : World) (ws : List (List UInt8)) (e : Ending) (w' : World) : Prop :=
  ∃ v, e = .returned v ∧ w'.ownsRow w.heap.size 9 1 v (ws.map mkB).length ((ws.map mkB).map Value.string) ∧ Below w.heap.size w w'
/-- At the head of the loop. -/
def RWordsAt (w : World) (l : List UInt8) (s3 s4 s5 : Value) (wr : World) : Prop :=
  ∃ (k : Nat) (t : ByteArray) (out : List (List UInt8)), k ≤ l.length ∧ s5 = .int .i64 (k : Int) ∧ s4 = .string t ∧ t.size ≤ k ∧ out.length ≤ k ∧ wr.ownsRow w.heap.size 9 1 s3 (out.map mkB).length ((out.map mkB).map Value.string) ∧
    wordsL l = out ++ fieldsGo t.data.toList (said (l.drop k)) ∧ Below w.heap.size w wr

set_option maxRecDepth 100000 in
set_option maxHeartbeats 2000000 in
theorem lrwords_any (s : ByteArray) (w : World) (hs : s.size ≤ 30000) :
    Calls Tryz.prog 22 #[.string s] w (RWordsPost w (wordsL s.data.toList)) := by
  obtain ⟨i0, hi, hz0, hz1, hz2⟩ := info_parts info_string
  have HI := Lib.hid (And.intro hi (And.intro hz0 (And.intro hz1 hz2)))
  clear hi hz0 hz1 hz2
  have HSL := Lib.hid (size_list s)
  obtain ⟨WL, hWL⟩ : ∃ WL, wordsL s.data.toList = WL := ⟨_, rfl⟩
  rw [hWL]
  have HWL := Lib.hid hWL
  clear hWL
  go_enter Tryz.func22, Tryz.ntmps22
  go_wp2
  go_loopw [3, 4, 5] (fun s3 s4 s5 wr => RWordsAt w s.data.toList s3 s4 s5 wr) (fun _ _ s5 _ => s.size - (intOf s5).toNat)
  case atStart => exact ⟨0, ⟨#[]⟩, [], Nat.zero_le _, rfl, rfl, Nat.le_refl _, Nat.le_refl _, World.ownsRow_nil _ _ _ _, rfl, Below.refl _ _⟩
  case round =>
    obtain ⟨k, t, out, hk, rfl, rfl, htk, hok, hown, hW, hnx⟩ := hrel
    rw [HSL.out] at hk
    have HW := Lib.hid hW
    clear hW
    have hsz := hnx.size
    by_cases hlt : k < s.size
    · have hd := drop_at s k hlt
      have hcb : s[k].toNat < 256 := UInt8.toNat_lt _
      by_cases h35 : s[k].toNat = 35
      · have h35b : ((s[k].toNat : Int) != 35) = false := by rw [bne_eq_false_iff_eq]; omega
        have HSD : Hid (said (s.data.toList.drop k) = []) := Lib.hid (by
          rw [hd, said, if_pos (UInt8.toNat_inj.1 h35)])
        clear hd h35
        by_cases hte : t.data.toList = []
        · obtain rfl : t = ⟨#[]⟩ := by rw [← mkB_list t, hte]; rfl
          have HN : Hid (WL = out) := Lib.hid (by rw [← HWL.out, HW.out, HSD.out]; simp [fieldsGo])
          clear hte
          go_wp2
          go_ret
          exact ⟨_, rfl, by rw [HN.out]; exact hown, hnx⟩
        · have HN : Hid (WL = out ++ [t.data.toList]) := Lib.hid (by rw [← HWL.out, HW.out, HSD.out]; simp [fieldsGo, hte])
          have ht1 : (!t.toList.isEmpty) = true := by
            rw [ByteArray.toList_eq]
            cases hh : t.data.toList with
            | nil => exact absurd hh hte
            | cons x r => rfl
          clear hte
          go_wp2_with (at_builtin; refine wpList_append_own _ rfl _ _ 49 rfl w.heap.size 9 i0 (.string ⟨#[]⟩) 1 16 Tryz.underlying49 HI.out.1 HI.out.2.1 HI.out.2.2.1 HI.out.2.2.2 rfl (by decide) _ _ _ rfl (hown.alloc _) ⟨wr.heap.size, 0, none⟩ 1 1 [.string t] rfl rfl (cell_one_new _ _ _) (by intro u hu; simp at hu; subst hu; rfl) (by rw [List.length_map]; unfold maxLen; omega) (by rw [List.length_map]; omega) (by simp; omega) ?_; intro v' w1 hown' hgrow _)
          go_ret
          exact ⟨_, rfl, by rw [HN.out]; rw [List.map_append, List.map_append, List.length_append]; simpa [mkB_list] using hown', below_grown (hnx.alloc hsz _) (by simp; omega) (hown.alloc _) hgrow⟩
      · have h35b : ((s[k].toNat : Int) != 35) = true := by rw [bne_iff_ne]; omega
        have HSD : Hid (said (s.data.toList.drop k) = s[k] :: said (s.data.toList.drop (k + 1))) := Lib.hid (by
          rw [hd, said, if_neg (fun e => h35 (by rw [e]; rfl))])
        have hgd := gapB_dec s[k]
        clear hd
        by_cases h9 : s[k].toNat = 9
        · have HG : Hid (gapB s[k] = true) := Lib.hid (by rw [hgd]; exact decide_eq_true (.inl h9))
          have n9 : ((s[k].toNat : Int) == 9) = true := by rw [beq_iff_eq]; omega
          clear hgd h9 h35
          by_cases hte : t.data.toList = []
          · obtain rfl : t = ⟨#[]⟩ := by rw [← mkB_list t, hte]; rfl
            have HN : Hid (WL = out ++ fieldsGo [] (said (s.data.toList.drop (k + 1)))) := Lib.hid (by rw [← HWL.out, HW.out, HSD.out, show (ByteArray.mk #[]).data.toList = [] from rfl, fieldsGo_skip _ _ HG.out])
            clear hte
            go_wp2
            go_roundw
            case rel => exact ⟨k + 1, ⟨#[]⟩, out, by rw [HSL.out]; omega, by go_num, rfl, Nat.zero_le _, by omega, hown, by rw [HWL.out]; exact HN.out, hnx⟩
            case measure => simp [intOf]; omega
          · have HN : Hid (WL = (out ++ [t.data.toList]) ++ fieldsGo [] (said (s.data.toList.drop (k + 1)))) := Lib.hid (by rw [← HWL.out, HW.out, HSD.out, fieldsGo_end _ _ _ HG.out hte]; simp)
            have ht1 : (!t.toList.isEmpty) = true := by
              rw [ByteArray.toList_eq]
              cases hh : t.data.toList with
              | nil => exact absurd hh hte
              | cons x r => rfl
            clear hte
            go_wp2_with (at_builtin; refine wpList_append_own _ rfl _ _ 49 rfl w.heap.size 9 i0 (.string ⟨#[]⟩) 1 16 Tryz.underlying49 HI.out.1 HI.out.2.1 HI.out.2.2.1 HI.out.2.2.2 rfl (by decide) _ _ _ rfl (hown.alloc _) ⟨wr.heap.size, 0, none⟩ 1 1 [.string t] rfl rfl (cell_one_new _ _ _) (by intro u hu; simp at hu; subst hu; rfl) (by rw [List.length_map]; unfold maxLen; omega) (by rw [List.length_map]; omega) (by simp; omega) ?_; intro v' w1 hown' hgrow _)
            go_roundw
            case rel => exact ⟨k + 1, ⟨#[]⟩, out ++ [t.data.toList], by rw [HSL.out]; omega, by go_num, rfl, Nat.zero_le _, by simp; omega, by rw [List.map_append, List.map_append, List.length_append]; simpa [mkB_list] using hown', by rw [HWL.out]; exact HN.out, below_grown (hnx.alloc hsz _) (by simp; omega) (hown.alloc _) hgrow⟩
            case measure => simp [intOf]; omega
        · have n9 : ((s[k].toNat : Int) == 9) = false := by rw [beq_eq_false_iff_ne]; omega
          by_cases h32 : s[k].toNat = 32
          · have HG : Hid (gapB s[k] = true) := Lib.hid (by rw [hgd]; exact decide_eq_true (.inr h32))
            have n32 : ((s[k].toNat : Int) == 32) = true := by rw [beq_iff_eq]; omega
            clear hgd h9 h35 h32
            by_cases hte : t.data.toList = []
            · obtain rfl : t = ⟨#[]⟩ := by rw [← mkB_list t, hte]; rfl
              have HN : Hid (WL = out ++ fieldsGo [] (said (s.data.toList.drop (k + 1)))) := Lib.hid (by rw [← HWL.out, HW.out, HSD.out, show (ByteArray.mk #[]).data.toList = [] from rfl, fieldsGo_skip _ _ HG.out])
              clear hte
              go_wp2
              go_roundw
              case rel => exact ⟨k + 1, ⟨#[]⟩, out, by rw [HSL.out]; omega, by go_num, rfl, Nat.zero_le _, by omega, hown, by rw [HWL.out]; exact HN.out, hnx⟩
              case measure => simp [intOf]; omega
            · have HN : Hid (WL = (out ++ [t.data.toList]) ++ fieldsGo [] (said (s.data.toList.drop (k + 1)))) := Lib.hid (by rw [← HWL.out, HW.out, HSD.out, fieldsGo_end _ _ _ HG.out hte]; simp)
              have ht1 : (!t.toList.isEmpty) = true := by
                rw [ByteArray.toList_eq]
                cases hh : t.data.toList with
                | nil => exact absurd hh hte
                | cons x r => rfl
              clear hte
              go_wp2_with (at_builtin; refine wpList_append_own _ rfl _ _ 49 rfl w.heap.size 9 i0 (.string ⟨#[]⟩) 1 16 Tryz.underlying49 HI.out.1 HI.out.2.1 HI.out.2.2.1 HI.out.2.2.2 rfl (by decide) _ _ _ rfl (hown.alloc _) ⟨wr.heap.size, 0, none⟩ 1 1 [.string t] rfl rfl (cell_one_new _ _ _) (by intro u hu; simp at hu; subst hu; rfl) (by rw [List.length_map]; unfold maxLen; omega) (by rw [List.length_map]; omega) (by simp; omega) ?_; intro v' w1 hown' hgrow _)
              go_roundw
              case rel => exact ⟨k + 1, ⟨#[]⟩, out ++ [t.data.toList], by rw [HSL.out]; omega, by go_num, rfl, Nat.zero_le _, by simp; omega, by rw [List.map_append, List.map_append, List.length_append]; simpa [mkB_list] using hown', by rw [HWL.out]; exact HN.out, below_grown (hnx.alloc hsz _) (by simp; omega) (hown.alloc _) hgrow⟩
              case measure => simp [intOf]; omega
          · have HG : Hid (gapB s[k] = false) := Lib.hid (by rw [hgd]; exact decide_eq_false (by omega))
            have n32 : ((s[k].toNat : Int) == 32) = false := by rw [beq_eq_false_iff_ne]; omega
            have HN : Hid (WL = out ++ fieldsGo (t.data.toList ++ [s[k]]) (said (s.data.toList.drop (k + 1)))) := Lib.hid (by rw [← HWL.out, HW.out, HSD.out, fieldsGo_snoc _ _ _ HG.out])
            obtain ⟨u, hu⟩ : ∃ u, s.extract k (k + 1) = u := ⟨_, rfl⟩
            have hud : u.data.toList = [s[k]] := by
              rw [← hu, piece_mid, mkB_data, drop_at s k hlt]; simp
            have HUD := Lib.hid hud
            have hus : u.size = 1 := by rw [← size_list, hud]; rfl
            have HUS := Lib.hid hus
            have z1 : ¬ 9223372036854775807 < t.size + u.size := by omega
            have c1 : (0 : Int) ≤ ↑k := by omega
            have c2 : (↑k : Int) + 1 ≤ ↑s.size := by omega
            clear hgd h9 h35 h32 hud hus
            go_wp2
            go_roundw
            case rel => exact ⟨k + 1, t ++ u, out, by rw [HSL.out]; omega, by go_num, rfl, by rw [← size_list, bytes_add, List.length_append, size_list, size_list, HUS.out]; omega, by omega, hown, by rw [HWL.out, bytes_add, HUD.out]; exact HN.out, hnx⟩
            case measure => simp [intOf]; omega
    · have HSD : Hid (said (s.data.toList.drop k) = []) := Lib.hid (by
        rw [List.drop_eq_nil_of_le (by rw [HSL.out]; omega)]; rfl)
      by_cases hte : t.data.toList = []
      · obtain rfl : t = ⟨#[]⟩ := by rw [← mkB_list t, hte]; rfl
        have HN : Hid (WL = out) := Lib.hid (by rw [← HWL.out, HW.out, HSD.out]; simp [fieldsGo])
        clear hte
        go_wp2
        go_ret
        exact ⟨_, rfl, by rw [HN.out]; exact hown, hnx⟩
      · have HN : Hid (WL = out ++ [t.data.toList]) := Lib.hid (by rw [← HWL.out, HW.out, HSD.out]; simp [fieldsGo, hte])
        have ht1 : (!t.toList.isEmpty) = true := by
          rw [ByteArray.toList_eq]
          cases hh : t.data.toList with
          | nil => exact absurd hh hte
          | cons x r => rfl
        clear hte
        go_wp2_with (at_builtin; refine wpList_append_own _ rfl _ _ 49 rfl w.heap.size 9 i0 (.string ⟨#[]⟩) 1 16 Tryz.underlying49 HI.out.1 HI.out.2.1 HI.out.2.2.1 HI.out.2.2.2 rfl (by decide) _ _ _ rfl (hown.alloc _) ⟨wr.heap.size, 0, none⟩ 1 1 [.string t] rfl rfl (cell_one_new _ _ _) (by intro u hu; simp at hu; subst hu; rfl) (by rw [List.length_map]; unfold maxLen; omega) (by rw [List.length_map]; omega) (by simp; omega) ?_; intro v' w1 hown' hgrow _)
        go_ret
        exact ⟨_, rfl, by rw [HN.out]; rw [List.map_append, List.map_append, List.length_append]; simpa [mkB_list] using hown', below_grown (hnx.alloc hsz _) (by simp; omega) (hown.alloc _) hgrow⟩
end Go.Proofs.YtdnneognilffaaaGreatDoor
