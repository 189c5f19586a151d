/- LexRwords; LexRlines; LexFew; LexRjoin; UnitHad: texts put together (each begins with what it is). -/
import Derived.Test.YticdmlijacnjbaaGreatDoorM03
import Derived.Test.YticdmlijacnjbaaGreatDoorM01
import Derived.OwnWalk
import Derived.Handy
import Derived.Maps.AppendAt
import Derived.Test.YticdmlijacnjbaaGreatDoorM19
import Derived.Shelf.Strings.FieldsFuncAny
import Derived.Test.YticdmlijacnjbaaGreatDoorProg
import Derived.WalkKit
import Derived.WalkSpells
import Derived.Lib.Hide
import Derived.LoopTactic
import Derived.Deep.LoopGhost
import Derived.Test.YticdmlijacnjbaaGreatDoorM17
import Derived.Test.YticdmlijacnjbaaGreatDoorM28
import Derived.Test.YticdmlijacnjbaaGreatDoorM29
/- The walk of the document's Words: the words of any short text, in new memory. -/
namespace Go.Proofs.YticdmlijacnjbaaGreatDoor
open Go.RowKit

theorem info_string : (Tryz.prog.info? 9).map (fun i => (i.zero, i.size, i.bytes)) = some (some (.string ⟨#[]⟩), 1, 16) := by kernel_rfl
theorem fieldsGo_snoc (cur : List UInt8) (c : UInt8) (r : List UInt8) (h : gapB c = false) : fieldsGo cur (c :: r) = fieldsGo (cur ++ [c]) r := by simp [fieldsGo, h]
theorem fieldsGo_end (cur : List UInt8) (c : UInt8) (r : List UInt8) (h : gapB c = true) (hc : cur ≠ []) : fieldsGo cur (c :: r) = cur :: fieldsGo [] r := by simp [fieldsGo, h, hc]
theorem fieldsGo_skip (c : UInt8) (r : List UInt8) (h : gapB c = true) : fieldsGo [] (c :: r) = fieldsGo [] r := by simp [fieldsGo, h]
theorem drop_at (s : ByteArray) (k : Nat) (h : k < s.size) : s.data.toList.drop k = s[k] :: s.data.toList.drop (k + 1) := by
  have : s[k] = s.data.toList[k]'(by rw [size_list]; exact h) := by simp [ByteArray.getElem_eq_getElem_data]
  rw [this]; exact List.drop_eq_getElem_cons _
theorem gapB_dec (c : UInt8) : gapB c = decide (c.toNat = 9 ∨ c.toNat = 32) := by
  rw [← gapR_byte]; unfold gapR; rw [Bool.eq_iff_iff]; simp
theorem bytes_add (t u : ByteArray) : (t ++ u).data.toList = t.data.toList ++ u.data.toList := by simp [ByteArray.data_append]
/-- What is handed back. -/
def RWordsPost (w : World) (ws : List (List UInt8)) (e : Ending) (w' : World) : Prop :=
  ∃ v, e = .returned v ∧ w'.ownsRow w.heap.size 9 1 v (ws.map mkB).length ((ws.map mkB).map Value.string) ∧ Below w.heap.size w w'
/-- At the head of the loop. -/
def RWordsAt (w : World) (l : List UInt8) (s3 s4 s5 : Value) (wr : World) : Prop :=
  ∃ (k : Nat) (t : ByteArray) (out : List (List UInt8)), k ≤ l.length ∧ s5 = .int .i64 (k : Int) ∧ s4 = .string t ∧ t.size ≤ k ∧ out.length ≤ k ∧ wr.ownsRow w.heap.size 9 1 s3 (out.map mkB).length ((out.map mkB).map Value.string) ∧
    wordsL l = out ++ fieldsGo t.data.toList (said (l.drop k)) ∧ Below w.heap.size w wr

set_option maxRecDepth 100000 in
set_option maxHeartbeats 2000000 in
theorem lrwords_any (s : ByteArray) (w : World) (hs : s.size ≤ 30000) :
    Calls Tryz.prog 42 #[.string s] w (RWordsPost w (wordsL s.data.toList)) := by
  obtain ⟨i0, hi, hz0, hz1, hz2⟩ := info_parts info_string
  have HI := Lib.hid (And.intro hi (And.intro hz0 (And.intro hz1 hz2)))
  clear hi hz0 hz1 hz2
  have HSL := Lib.hid (size_list s)
  obtain ⟨WL, hWL⟩ : ∃ WL, wordsL s.data.toList = WL := ⟨_, rfl⟩
  rw [hWL]
  have HWL := Lib.hid hWL
  clear hWL
  go_enter Tryz.func42, Tryz.ntmps42
  go_wp2
  go_loopw [3, 4, 5] (fun s3 s4 s5 wr => RWordsAt w s.data.toList s3 s4 s5 wr) (fun _ _ s5 _ => s.size - (intOf s5).toNat)
  case atStart => exact ⟨0, ⟨#[]⟩, [], Nat.zero_le _, rfl, rfl, Nat.le_refl _, Nat.le_refl _, World.ownsRow_nil _ _ _ _, rfl, Below.refl _ _⟩
  case round =>
    obtain ⟨k, t, out, hk, rfl, rfl, htk, hok, hown, hW, hnx⟩ := hrel
    rw [HSL.out] at hk
    have HW := Lib.hid hW
    clear hW
    have hsz := hnx.size
    by_cases hlt : k < s.size
    · have hd := drop_at s k hlt
      have hcb : s[k].toNat < 256 := UInt8.toNat_lt _
      by_cases h35 : s[k].toNat = 35
      · have h35b : ((s[k].toNat : Int) != 35) = false := by rw [bne_eq_false_iff_eq]; omega
        have HSD : Hid (said (s.data.toList.drop k) = []) := Lib.hid (by
          rw [hd, said, if_pos (UInt8.toNat_inj.1 h35)])
        clear hd h35
        by_cases hte : t.data.toList = []
        · obtain rfl : t = ⟨#[]⟩ := by rw [← mkB_list t, hte]; rfl
          have HN : Hid (WL = out) := Lib.hid (by rw [← HWL.out, HW.out, HSD.out]; simp [fieldsGo])
          clear hte
          go_wp2
          go_ret
          exact ⟨_, rfl, by rw [HN.out]; exact hown, hnx⟩
        · have HN : Hid (WL = out ++ [t.data.toList]) := Lib.hid (by rw [← HWL.out, HW.out, HSD.out]; simp [fieldsGo, hte])
          have ht1 : (!t.toList.isEmpty) = true := by
            rw [ByteArray.toList_eq]
            cases hh : t.data.toList with
            | nil => exact absurd hh hte
            | cons x r => rfl
          clear hte
          go_wp2_with (at_builtin; refine wpList_append_own _ rfl _ _ 58 rfl w.heap.size 9 i0 (.string ⟨#[]⟩) 1 16 Tryz.underlying58 HI.out.1 HI.out.2.1 HI.out.2.2.1 HI.out.2.2.2 rfl (by decide) _ _ _ rfl (hown.alloc _) ⟨wr.heap.size, 0, none⟩ 1 1 [.string t] rfl rfl (cell_one_new _ _ _) (by intro u hu; simp at hu; subst hu; rfl) (by rw [List.length_map]; unfold maxLen; omega) (by rw [List.length_map]; omega) (by simp; omega) ?_; intro v' w1 hown' hgrow _)
          go_ret
          exact ⟨_, rfl, by rw [HN.out]; rw [List.map_append, List.map_append, List.length_append]; simpa [mkB_list] using hown', below_grown (hnx.alloc hsz _) (by simp; omega) (hown.alloc _) hgrow⟩
      · have h35b : ((s[k].toNat : Int) != 35) = true := by rw [bne_iff_ne]; omega
        have HSD : Hid (said (s.data.toList.drop k) = s[k] :: said (s.data.toList.drop (k + 1))) := Lib.hid (by
          rw [hd, said, if_neg (fun e => h35 (by rw [e]; rfl))])
        have hgd := gapB_dec s[k]
        clear hd
        by_cases h9 : s[k].toNat = 9
        · have HG : Hid (gapB s[k] = true) := Lib.hid (by rw [hgd]; exact decide_eq_true (.inl h9))
          have n9 : ((s[k].toNat : Int) == 9) = true := by rw [beq_iff_eq]; omega
          clear hgd h9 h35
          by_cases hte : t.data.toList = []
          · obtain rfl : t = ⟨#[]⟩ := by rw [← mkB_list t, hte]; rfl
            have HN : Hid (WL = out ++ fieldsGo [] (said (s.data.toList.drop (k + 1)))) := Lib.hid (by rw [← HWL.out, HW.out, HSD.out, show (ByteArray.mk #[]).data.toList = [] from rfl, fieldsGo_skip _ _ HG.out])
            clear hte
            go_wp2
            go_roundw
            case rel => exact ⟨k + 1, ⟨#[]⟩, out, by rw [HSL.out]; omega, by go_num, rfl, Nat.zero_le _, by omega, hown, by rw [HWL.out]; exact HN.out, hnx⟩
            case measure => simp [intOf]; omega
          · have HN : Hid (WL = (out ++ [t.data.toList]) ++ fieldsGo [] (said (s.data.toList.drop (k + 1)))) := Lib.hid (by rw [← HWL.out, HW.out, HSD.out, fieldsGo_end _ _ _ HG.out hte]; simp)
            have ht1 : (!t.toList.isEmpty) = true := by
              rw [ByteArray.toList_eq]
              cases hh : t.data.toList with
              | nil => exact absurd hh hte
              | cons x r => rfl
            clear hte
            go_wp2_with (at_builtin; refine wpList_append_own _ rfl _ _ 58 rfl w.heap.size 9 i0 (.string ⟨#[]⟩) 1 16 Tryz.underlying58 HI.out.1 HI.out.2.1 HI.out.2.2.1 HI.out.2.2.2 rfl (by decide) _ _ _ rfl (hown.alloc _) ⟨wr.heap.size, 0, none⟩ 1 1 [.string t] rfl rfl (cell_one_new _ _ _) (by intro u hu; simp at hu; subst hu; rfl) (by rw [List.length_map]; unfold maxLen; omega) (by rw [List.length_map]; omega) (by simp; omega) ?_; intro v' w1 hown' hgrow _)
            go_roundw
            case rel => exact ⟨k + 1, ⟨#[]⟩, out ++ [t.data.toList], by rw [HSL.out]; omega, by go_num, rfl, Nat.zero_le _, by simp; omega, by rw [List.map_append, List.map_append, List.length_append]; simpa [mkB_list] using hown', by rw [HWL.out]; exact HN.out, below_grown (hnx.alloc hsz _) (by simp; omega) (hown.alloc _) hgrow⟩
            case measure => simp [intOf]; omega
        · have n9 : ((s[k].toNat : Int) == 9) = false := by rw [beq_eq_false_iff_ne]; omega
          by_cases h32 : s[k].toNat = 32
          · have HG : Hid (gapB s[k] = true) := Lib.hid (by rw [hgd]; exact decide_eq_true (.inr h32))
            have n32 : ((s[k].toNat : Int) == 32) = true := by rw [beq_iff_eq]; omega
            clear hgd h9 h35 h32
            by_cases hte : t.data.toList = []
            · obtain rfl : t = ⟨#[]⟩ := by rw [← mkB_list t, hte]; rfl
              have HN : Hid (WL = out ++ fieldsGo [] (said (s.data.toList.drop (k + 1)))) := Lib.hid (by rw [← HWL.out, HW.out, HSD.out, show (ByteArray.mk #[]).data.toList = [] from rfl, fieldsGo_skip _ _ HG.out])
              clear hte
              go_wp2
              go_roundw
              case rel => exact ⟨k + 1, ⟨#[]⟩, out, by rw [HSL.out]; omega, by go_num, rfl, Nat.zero_le _, by omega, hown, by rw [HWL.out]; exact HN.out, hnx⟩
              case measure => simp [intOf]; omega
            · have HN : Hid (WL = (out ++ [t.data.toList]) ++ fieldsGo [] (said (s.data.toList.drop (k + 1)))) := Lib.hid (by rw [← HWL.out, HW.out, HSD.out, fieldsGo_end _ _ _ HG.out hte]; simp)
              have ht1 : (!t.toList.isEmpty) = true := by
                rw [ByteArray.toList_eq]
                cases hh : t.data.toList with
                | nil => exact absurd hh hte
                | cons x r => rfl
              clear hte
              go_wp2_with (at_builtin; refine wpList_append_own _ rfl _ _ 58 rfl w.heap.size 9 i0 (.string ⟨#[]⟩) 1 16 Tryz.underlying58 HI.out.1 HI.out.2.1 HI.out.2.2.1 HI.out.2.2.2 rfl (by decide) _ _ _ rfl (hown.alloc _) ⟨wr.heap.size, 0, none⟩ 1 1 [.string t] rfl rfl (cell_one_new _ _ _) (by intro u hu; simp at hu; subst hu; rfl) (by rw [List.length_map]; unfold maxLen; omega) (by rw [List.length_map]; omega) (by simp; omega) ?_; intro v' w1 hown' hgrow _)
              go_roundw
              case rel => exact ⟨k + 1, ⟨#[]⟩, out ++ [t.data.toList], by rw [HSL.out]; omega, by go_num, rfl, Nat.zero_le _, by simp; omega, by rw [List.map_append, List.map_append, List.length_append]; simpa [mkB_list] using hown', by rw [HWL.out]; exact HN.out, below_grown (hnx.alloc hsz _) (by simp; omega) (hown.alloc _) hgrow⟩
              case measure => simp [intOf]; omega
          · have HG : Hid (gapB s[k] = false) := Lib.hid (by rw [hgd]; exact decide_eq_false (by omega))
            have n32 : ((s[k].toNat : Int) == 32) = false := by rw [beq_eq_false_iff_ne]; omega
            have HN : Hid (WL = out ++ fieldsGo (t.data.toList ++ [s[k]]) (said (s.data.toList.drop (k + 1)))) := Lib.hid (by rw [← HWL.out, HW.out, HSD.out, fieldsGo_snoc _ _ _ HG.out])
            obtain ⟨u, hu⟩ : ∃ u, s.extract k (k + 1) = u := ⟨_, rfl⟩
            have hud : u.data.toList = [s[k]] := by
              rw [← hu, piece_mid, mkB_data, drop_at s k hlt]; simp
            have HUD := Lib.hid hud
            have hus : u.size = 1 := by rw [← size_list, hud]; rfl
            have HUS := Lib.hid hus
            have z1 : ¬ 9223372036854775807 < t.size + u.size := by omega
            have c1 : (0 : Int) ≤ ↑k := by omega
            have c2 : (↑k : Int) + 1 ≤ ↑s.size := by omega
            clear hgd h9 h35 h32 hud hus
            go_wp2
            go_roundw
            case rel => exact ⟨k + 1, t ++ u, out, by rw [HSL.out]; omega, by go_num, rfl, by rw [← size_list, bytes_add, List.length_append, size_list, size_list, HUS.out]; omega, by omega, hown, by rw [HWL.out, bytes_add, HUD.out]; exact HN.out, hnx⟩
            case measure => simp [intOf]; omega
    · have HSD : Hid (said (s.data.toList.drop k) = []) := Lib.hid (by
        rw [List.drop_eq_nil_of_le (by rw [HSL.out]; omega)]; rfl)
      by_cases hte : t.data.toList = []
      · obtain rfl : t = ⟨#[]⟩ := by rw [← mkB_list t, hte]; rfl
        have HN : Hid (WL = out) := Lib.hid (by rw [← HWL.out, HW.out, HSD.out]; simp [fieldsGo])
        clear hte
        go_wp2
        go_ret
        exact ⟨_, rfl, by rw [HN.out]; exact hown, hnx⟩
      · have HN : Hid (WL = out ++ [t.data.toList]) := Lib.hid (by rw [← HWL.out, HW.out, HSD.out]; simp [fieldsGo, hte])
        have ht1 : (!t.toList.isEmpty) = true := by
          rw [ByteArray.toList_eq]
          cases hh : t.data.toList with
          | nil => exact absurd hh hte
          | cons x r => rfl
        clear hte
        go_wp2_with (at_builtin; refine wpList_append_own _ rfl _ _ 58 rfl w.heap.size 9 i0 (.string ⟨#[]⟩) 1 16 Tryz.underlying58 HI.out.1 HI.out.2.1 HI.out.2.2.1 HI.out.2.2.2 rfl (by decide) _ _ _ rfl (hown.alloc _) ⟨wr.heap.size, 0, none⟩ 1 1 [.string t] rfl rfl (cell_one_new _ _ _) (by intro u hu; simp at hu; subst hu; rfl) (by rw [List.length_map]; unfold maxLen; omega) (by rw [List.length_map]; omega) (by simp; omega) ?_; intro v' w1 hown' hgrow _)
        go_ret
        exact ⟨_, rfl, by rw [HN.out]; rw [List.map_append, List.map_append, List.length_append]; simpa [mkB_list] using hown', below_grown (hnx.alloc hsz _) (by simp; omega) (hown.alloc _) hgrow⟩
end Go.Proofs.YticdmlijacnjbaaGreatDoor
/- The walk of the document's Lines: at every text of at most 30000 bytes it hands back the plain lines, and the plain number; memory that was there stays. -/
namespace Go.Proofs.YticdmlijacnjbaaGreatDoor
open Go.RowKit

theorem info_rline2 : (Tryz.prog.info? 60).map (fun i => (i.zero, i.size, i.bytes)) = some (some (.agg #[.int .i64 0, .slice none 0 0]), 2, 32) := by kernel_rfl
/-- The lines of l from the line n on, of which the bytes from 'from' to k are read. -/
def RLinesAt (w : World) (l : List UInt8) (s5 s6 s7 s8 : Value) (wr : World) : Prop :=
  ∃ (k f n : Nat) (LV : List (Int × Value)) (out : List (Nat × List (List UInt8))), s8 = .int .i64 (k : Int) ∧ s7 = .int .i64 (f : Int) ∧ s6 = .int .i64 (n : Int) ∧ k ≤ l.length + 1 ∧ f ≤ l.length + 1 ∧ n ≤ k + 1 ∧ out.length ≤ k ∧
    (k ≤ l.length → f ≤ k ∧ linesL l = out ++ numP (enumL n (linesGo (pieceL l (f, k)) (l.drop k)))) ∧ (k = l.length + 1 → linesL l = out) ∧
    wr.ownsRow w.heap.size 60 2 s5 LV.length (flatL LV) ∧ WordsOwn wr w.heap.size 9 LV (asB out) ∧ Below w.heap.size w wr

theorem own_slice {W : World} {B : Nat} {e : TypeId} {s : Nat} {v : Value} {n : Nat} {xs : List Value} (h : W.ownsRow B e s v n xs) : ∃ a c, v = .slice a n c := by
  rcases h.2 with ⟨rfl, rfl⟩ | ⟨g, cap, cur, rfl, _⟩
  · exact ⟨_, _, rfl⟩
  · exact ⟨_, _, rfl⟩
theorem numP_cons (n : Nat) (x : List UInt8) (r : List (Nat × List UInt8)) : numP ((n, x) :: r) = numP [(n, x)] ++ numP r := by
  rw [← numP_append]; rfl
theorem pieceL_nil (l : List UInt8) (a : Nat) : pieceL l (a, a) = [] := by simp [pieceL]
/-- What the end of a line makes of the lines. -/
theorem rl_end (l out : List UInt8) (o : List (Nat × List (List UInt8))) (n f k : Nat) (h : linesL l = o ++ numP (enumL n (linesGo (pieceL l (f, k)) (l.drop k)))) (hk : l.drop k = 10 :: out) (h1 : l.drop (k + 1) = out) :
    linesL l = (o ++ numP [(n, pieceL l (f, k))]) ++ numP (enumL (n + 1) (linesGo (pieceL l (k + 1, k + 1)) (l.drop (k + 1)))) := by
  rw [h, hk, h1, pieceL_nil]
  simp only [linesGo, if_true, enumL]
  rw [numP_cons]
  simp
theorem rl_last (l : List UInt8) (o : List (Nat × List (List UInt8))) (n f k : Nat) (h : linesL l = o ++ numP (enumL n (linesGo (pieceL l (f, k)) (l.drop k)))) (hk : l.drop k = []) :
    linesL l = o ++ numP [(n, pieceL l (f, k))] := by
  rw [h, hk]; rfl

/-- Lines told in rows of the call's own. -/
def LinesHad (w : World) (L : List (Int × List ByteArray)) (c : Int) (e : Ending) (w' : World) : Prop :=
  ∃ v LV, e = .returned (.tuple #[v, .int .i64 c]) ∧ w'.ownsRow w.heap.size 60 2 v LV.length (flatL LV) ∧ WordsOwn w' w.heap.size 9 LV L ∧ Below w.heap.size w w'
theorem LinesHad.post {w : World} {L : List (Int × List ByteArray)} {c : Int} {e : Ending} {w' : World} (h : LinesHad w L c e w') : LinesPost w L c e w' := by
  obtain ⟨v, LV, he, h1, h2, hb⟩ := h
  exact ⟨v, he, lines_of_in h1 h2.isIn, hb⟩
theorem LinesHad.none (w W : World) (h : Below w.heap.size w W) (c : Int) : LinesHad w [] c (.returned (.tuple #[.slice none 0 0, .int .i64 c])) W :=
  ⟨_, [], rfl, World.ownsRow_nil _ _ _ _, WordsOwn.nil _ _ _, h⟩
theorem rlines_big (s : ByteArray) (w : World) (h : 20000 < s.size) (hs : s.size ≤ 30000) :
    Calls Tryz.prog 23 #[.string s] w (LinesHad w [] 4) := by
  go_enter Tryz.func23, Tryz.ntmps23
  go_wp2
  go_ret2
  exact LinesHad.none w w (Below.refl _ _) 4
set_option maxRecDepth 100000 in
set_option maxHeartbeats 4000000 in
theorem rlines_small (s : ByteArray) (w : World) (hs : s.size ≤ 20000) :
    Calls Tryz.prog 23 #[.string s] w (LinesHad w (asB (if okL s.data.toList then linesL s.data.toList else [])) (if okL s.data.toList then 0 else 5)) := by
  obtain ⟨RV, hRV⟩ : ∃ RV, asB (if okL s.data.toList then linesL s.data.toList else []) = RV := ⟨_, rfl⟩
  obtain ⟨RE, hRE⟩ : ∃ RE : Int, (if okL s.data.toList then (0 : Int) else 5) = RE := ⟨_, rfl⟩
  rw [hRV, hRE]
  have HRV := Lib.hid hRV
  have HRE := Lib.hid hRE
  have HSL := Lib.hid (size_list s)
  clear hRV hRE
  have HBAD : Hid (okL s.data.toList = false → ∀ W, LinesHad W RV RE (.returned (.tuple #[.slice none 0 0, .int .i64 5])) W) := Lib.hid fun hno W => by
    rw [← HRE.out, ← HRV.out, hno]
    exact LinesHad.none W W (Below.refl _ _) _
  have h1 : ¬ 20000 < s.size := by omega
  obtain ⟨i0, hi, hz0, hz1, hz2⟩ := info_parts info_rline2
  have HI := Lib.hid (And.intro hi (And.intro hz0 (And.intro hz1 hz2)))
  clear hi hz0 hz1 hz2
  go_enter Tryz.func23, Tryz.ntmps23
  go_wp2
  go_loop [4] (fun i => ∃ k : Nat, k ≤ s.size ∧ i = .int .i64 k ∧ (s.data.toList.take k).all okB = true) (fun i => s.size - (intOf i).toNat)
  case atStart => exact ⟨0, Nat.zero_le _, rfl, rfl⟩
  case round =>
    obtain ⟨k, hk, rfl, hd⟩ := hrel
    have HD := Lib.hid hd
    clear hd
    by_cases hlt : k < s.size
    · have HO := Lib.hid (okB_dec s[k])
      have hb : s[k].toNat < 256 := UInt8.toNat_lt _
      go_wp2
      all_goals first
        | (go_ret2
           exact HBAD.out (all_no okB s k hlt (by rw [HO.out]; exact decide_eq_false (by omega))) _)
        | (go_round
           case rel => exact ⟨k + 1, by omega, by go_num, by rw [all_take okB s k hlt, HD.out, HO.out]; exact decide_eq_true (by first | omega | (simp only [bne_eq_false_iff_eq] at *; omega))⟩
           case measure => simp [intOf]; omega)
    · have hok : okL s.data.toList = true := all_end okB s k hlt hk HD.out
      have HRV' : Hid (asB (linesL s.data.toList) = RV) := Lib.hid (by rw [← HRV.out, hok]; rfl)
      have HRE' : Hid (RE = 0) := Lib.hid (by rw [← HRE.out, hok]; rfl)
      clear hok
      go_wp2
      go_loopw [5, 6, 7, 8] (fun s5 s6 s7 s8 wr => RLinesAt w s.data.toList s5 s6 s7 s8 wr) (fun _ _ _ s8 _ => s.size + 1 - (intOf s8).toNat)
      case atStart => exact ⟨0, 0, 1, [], [], rfl, rfl, rfl, by omega, by omega, by omega, Nat.le_refl _, fun _ => ⟨Nat.le_refl _, rfl⟩, fun h => by omega, World.ownsRow_nil _ _ _ _, WordsOwn.nil _ _ _, Below.refl _ _⟩
      case round =>
        obtain ⟨k2, f, n, LV, out, rfl, rfl, rfl, hk2, hf2, hn2, hol, hgo, hend, hown, hw, hnx⟩ := hrel
        rw [HSL.out] at hk2 hf2 hgo hend
        have hlv : LV.length ≤ k2 := by rw [hw.1, asB_length]; exact hol
        have HGO := Lib.hid hgo
        have HEN := Lib.hid hend
        have HOW := Lib.hid hown
        have HWW := Lib.hid hw
        have HNX := Lib.hid hnx
        clear hgo hend hown hw hnx
        by_cases hlast : k2 ≤ s.size
        · obtain ⟨hfk, hL⟩ := HGO.out hlast
          have HL := Lib.hid hL
          clear hL
          by_cases hke : k2 = s.size
          · have hdr : s.data.toList.drop k2 = [] := List.drop_eq_nil_of_le (by rw [HSL.out]; omega)
            obtain ⟨P, hP⟩ : ∃ P, pieceL s.data.toList (f, k2) = P := ⟨_, rfl⟩
            have hPx : (s.extract f k2).data.toList = P := by rw [piece_mid, mkB_data, ← hP]; rfl
            obtain ⟨x, hx⟩ : ∃ x, s.extract f k2 = x := ⟨_, rfl⟩
            rw [hx] at hPx
            have hxs : x.size ≤ 30000 := by rw [← size_list, hPx, ← hP]; unfold pieceL; rw [List.length_take, List.length_drop, HSL.out]; omega
            have HRW : Hid (∀ W, Calls Tryz.prog 42 #[.string x] W (RWordsPost W (wordsL P))) := Lib.hid fun W => by
              have := lrwords_any x W hxs
              rwa [hPx] at this
            have c1 : (0 : Int) ≤ ↑f := by omega
            have c2 : (↑f : Int) ≤ ↑k2 := by omega
            have c3 : (↑k2 : Int) ≤ ↑s.size := by omega
            have HNEW : Hid (linesL s.data.toList = out ++ numP [(n, P)]) := Lib.hid (by rw [← hP]; exact rl_last _ _ _ _ _ HL.out hdr)
            have hkb : ((k2 : Int) == (s.size : Int)) = true := by rw [beq_iff_eq]; omega
            have HKE := Lib.hid hke
            clear hdr hP hPx hke
            by_cases hpw : wordsL P = []
            · have HP1 : Hid (numP [(n, P)] = []) := Lib.hid (by simp [numP, hpw])
              have HPW : Hid (wordsL P = []) := Lib.hid hpw
              clear hpw
              go_wp2_with fail
              refine (HRW.out _).mono ?_
              rintro e w2 ⟨v, rfl, ho, hb⟩
              obtain ⟨av, cv, rfl⟩ := own_slice ho
              rw [HPW.out]
              simp only [List.map_nil, List.length_nil]
              have HO2 := Lib.hid (row_below HOW.out hb)
              have HW2 := Lib.hid (HWW.out.mono fun u m xs hu => row_below hu hb)
              have HN2 := Lib.hid (HNX.out.trans (hb.mono HNX.out.size))
              clear ho hb
              go_wp2
              go_roundw
              case rel => exact ⟨k2 + 1, k2 + 1, n + 1, LV, out ++ numP [(n, P)], by go_num, by go_num, by go_num, by rw [HSL.out]; omega, by rw [HSL.out]; omega, by omega, by rw [HP1.out, List.append_nil]; omega, (fun h => by rw [HSL.out] at h; have := HKE.out; omega), fun _ => HNEW.out, HO2.out, by rw [HP1.out, List.append_nil]; exact HW2.out, HN2.out⟩
              case measure => simp [intOf]; omega
            · have HP1 : Hid (numP [(n, P)] = [(n, wordsL P)]) := Lib.hid (by simp [numP, hpw])
              have hpl : 0 < ((wordsL P).map mkB).length := by rw [List.length_map]; exact List.length_pos_iff.2 hpw
              obtain ⟨ws, hws⟩ : ∃ ws, (wordsL P).map mkB = ws := ⟨_, rfl⟩
              have HWS := Lib.hid hws
              rw [hws] at hpl
              clear hpw hws
              go_wp2_with fail
              refine (HRW.out _).mono ?_
              rintro e w2 ⟨v, rfl, ho, hb⟩
              rw [HWS.out] at ho
              obtain ⟨av, cv, rfl⟩ := own_slice ho
              have hrow1 := row_below HOW.out hb
              have HW2 := Lib.hid (HWW.out.mono fun u m xs hu => row_below hu hb)
              have HN2 := Lib.hid (HNX.out.trans (hb.mono HNX.out.size))
              have hsz2 : w.heap.size ≤ w2.heap.size := HN2.out.size
              have HO9 := Lib.hid (row_base ho HNX.out.size)
              have HR1 := Lib.hid hrow1
              clear ho hb hrow1
              go_wp2_with (at_builtin; refine wpList_append_own _ rfl _ _ 55 rfl w.heap.size 60 i0 (.agg #[.int .i64 0, .slice none 0 0]) 2 32 Tryz.underlying55 HI.out.1 HI.out.2.1 HI.out.2.2.1 HI.out.2.2.2 rfl (by decide) _ _ _ rfl (HR1.out.alloc _) ⟨w2.heap.size, 0, none⟩ 1 1 [.int .i64 (n : Int), .slice av ws.length cv] rfl rfl (cell_two_new' _ _ _ _) (by intro u hu; simp at hu; rcases hu with rfl | rfl <;> rfl) (by unfold maxLen; omega) (by omega) (by simp; omega) ?_; intro v' w3 hown' hgrow _)
              have hK9 : ∀ (u : Value) (m : Nat) (xs : List Value), w2.ownsRow w.heap.size 9 1 u m xs → w3.ownsRow w.heap.size 9 1 u m xs := fun u m xs hu =>
                (hu.alloc (.cells #[.int .i64 (n : Int), .slice av ws.length cv] 60)).kept hgrow (row_apart HR1.out hu (by decide))
              have HWF : Hid (WordsOwn w3 w.heap.size 9 (LV ++ [((n : Int), .slice av ws.length cv)]) (asB (out ++ numP [(n, P)]))) := Lib.hid (by
                rw [HP1.out, asB_append]
                have : asB [(n, wordsL P)] = [((n : Int), ws)] := by simp [asB, HWS.out]
                rw [this]
                exact (HW2.out.mono hK9).snoc _ _ _ (hK9 _ _ _ HO9.out))
              have HOF : Hid (w3.ownsRow w.heap.size 60 2 v' (LV ++ [((n : Int), Value.slice av ws.length cv)]).length (flatL (LV ++ [((n : Int), Value.slice av ws.length cv)]))) := Lib.hid (by
                rw [flatL_snoc, List.length_append]; exact hown')
              have HBF := Lib.hid (below_grown (HN2.out.alloc hsz2 _) (by simp; omega) (HR1.out.alloc _) hgrow)
              clear hK9 hown' hgrow
              go_roundw
              case rel => exact ⟨k2 + 1, k2 + 1, n + 1, _, out ++ numP [(n, P)], by go_num, by go_num, by go_num, by rw [HSL.out]; omega, by rw [HSL.out]; omega, by omega, by rw [HP1.out]; simp; omega, (fun h => by rw [HSL.out] at h; have := HKE.out; omega), fun _ => HNEW.out, HOF.out, HWF.out, HBF.out⟩
              case measure => simp [intOf]; omega
          · have hkl : k2 < s.size := by omega
            have hkb : ((k2 : Int) == (s.size : Int)) = false := by rw [beq_eq_false_iff_ne]; omega
            have hdr := drop_at s k2 hkl
            by_cases h10 : s[k2].toNat = 10
            · have hc10 : s[k2] = 10 := UInt8.toNat_inj.1 h10
              rw [hc10] at hdr
              obtain ⟨P, hP⟩ : ∃ P, pieceL s.data.toList (f, k2) = P := ⟨_, rfl⟩
              have hPx : (s.extract f k2).data.toList = P := by rw [piece_mid, mkB_data, ← hP]; rfl
              obtain ⟨x, hx⟩ : ∃ x, s.extract f k2 = x := ⟨_, rfl⟩
              rw [hx] at hPx
              have hxs : x.size ≤ 30000 := by rw [← size_list, hPx, ← hP]; unfold pieceL; rw [List.length_take, List.length_drop, HSL.out]; omega
              have HRW : Hid (∀ W, Calls Tryz.prog 42 #[.string x] W (RWordsPost W (wordsL P))) := Lib.hid fun W => by
                have := lrwords_any x W hxs
                rwa [hPx] at this
              have c1 : (0 : Int) ≤ ↑f := by omega
              have c2 : (↑f : Int) ≤ ↑k2 := by omega
              have c3 : (↑k2 : Int) ≤ ↑s.size := by omega
              have HNEW : Hid (linesL s.data.toList = (out ++ numP [(n, P)]) ++ numP (enumL (n + 1) (linesGo (pieceL s.data.toList (k2 + 1, k2 + 1)) (s.data.toList.drop (k2 + 1))))) := Lib.hid (by rw [← hP]; exact rl_end _ _ _ _ _ _ HL.out hdr rfl)
              have hb10 : ((s[k2].toNat : Int) == 10) = true := by rw [beq_iff_eq]; omega
              clear hdr hP hPx hke h10 hc10
              by_cases hpw : wordsL P = []
              · have HP1 : Hid (numP [(n, P)] = []) := Lib.hid (by simp [numP, hpw])
                have HPW : Hid (wordsL P = []) := Lib.hid hpw
                clear hpw
                go_wp2_with fail
                refine (HRW.out _).mono ?_
                rintro e w2 ⟨v, rfl, ho, hb⟩
                obtain ⟨av, cv, rfl⟩ := own_slice ho
                rw [HPW.out]
                simp only [List.map_nil, List.length_nil]
                have HO2 := Lib.hid (row_below HOW.out hb)
                have HW2 := Lib.hid (HWW.out.mono fun u m xs hu => row_below hu hb)
                have HN2 := Lib.hid (HNX.out.trans (hb.mono HNX.out.size))
                clear ho hb
                go_wp2
                go_roundw
                case rel => exact ⟨k2 + 1, k2 + 1, n + 1, LV, out ++ numP [(n, P)], by go_num, by go_num, by go_num, by rw [HSL.out]; omega, by rw [HSL.out]; omega, by omega, by rw [HP1.out, List.append_nil]; omega, fun _ => ⟨Nat.le_refl _, HNEW.out⟩, (fun h => by rw [HSL.out] at h; omega), HO2.out, by rw [HP1.out, List.append_nil]; exact HW2.out, HN2.out⟩
                case measure => simp [intOf]; omega
              · have HP1 : Hid (numP [(n, P)] = [(n, wordsL P)]) := Lib.hid (by simp [numP, hpw])
                have hpl : 0 < ((wordsL P).map mkB).length := by rw [List.length_map]; exact List.length_pos_iff.2 hpw
                obtain ⟨ws, hws⟩ : ∃ ws, (wordsL P).map mkB = ws := ⟨_, rfl⟩
                have HWS := Lib.hid hws
                rw [hws] at hpl
                clear hpw hws
                go_wp2_with fail
                refine (HRW.out _).mono ?_
                rintro e w2 ⟨v, rfl, ho, hb⟩
                rw [HWS.out] at ho
                obtain ⟨av, cv, rfl⟩ := own_slice ho
                have hrow1 := row_below HOW.out hb
                have HW2 := Lib.hid (HWW.out.mono fun u m xs hu => row_below hu hb)
                have HN2 := Lib.hid (HNX.out.trans (hb.mono HNX.out.size))
                have hsz2 : w.heap.size ≤ w2.heap.size := HN2.out.size
                have HO9 := Lib.hid (row_base ho HNX.out.size)
                have HR1 := Lib.hid hrow1
                clear ho hb hrow1
                go_wp2_with (at_builtin; refine wpList_append_own _ rfl _ _ 55 rfl w.heap.size 60 i0 (.agg #[.int .i64 0, .slice none 0 0]) 2 32 Tryz.underlying55 HI.out.1 HI.out.2.1 HI.out.2.2.1 HI.out.2.2.2 rfl (by decide) _ _ _ rfl (HR1.out.alloc _) ⟨w2.heap.size, 0, none⟩ 1 1 [.int .i64 (n : Int), .slice av ws.length cv] rfl rfl (cell_two_new' _ _ _ _) (by intro u hu; simp at hu; rcases hu with rfl | rfl <;> rfl) (by unfold maxLen; omega) (by omega) (by simp; omega) ?_; intro v' w3 hown' hgrow _)
                have hK9 : ∀ (u : Value) (m : Nat) (xs : List Value), w2.ownsRow w.heap.size 9 1 u m xs → w3.ownsRow w.heap.size 9 1 u m xs := fun u m xs hu =>
                  (hu.alloc (.cells #[.int .i64 (n : Int), .slice av ws.length cv] 60)).kept hgrow (row_apart HR1.out hu (by decide))
                have HWF : Hid (WordsOwn w3 w.heap.size 9 (LV ++ [((n : Int), .slice av ws.length cv)]) (asB (out ++ numP [(n, P)]))) := Lib.hid (by
                  rw [HP1.out, asB_append]
                  have : asB [(n, wordsL P)] = [((n : Int), ws)] := by simp [asB, HWS.out]
                  rw [this]
                  exact (HW2.out.mono hK9).snoc _ _ _ (hK9 _ _ _ HO9.out))
                have HOF : Hid (w3.ownsRow w.heap.size 60 2 v' (LV ++ [((n : Int), Value.slice av ws.length cv)]).length (flatL (LV ++ [((n : Int), Value.slice av ws.length cv)]))) := Lib.hid (by
                  rw [flatL_snoc, List.length_append]; exact hown')
                have HBF := Lib.hid (below_grown (HN2.out.alloc hsz2 _) (by simp; omega) (HR1.out.alloc _) hgrow)
                clear hK9 hown' hgrow
                go_roundw
                case rel => exact ⟨k2 + 1, k2 + 1, n + 1, _, out ++ numP [(n, P)], by go_num, by go_num, by go_num, by rw [HSL.out]; omega, by rw [HSL.out]; omega, by omega, by rw [HP1.out]; simp; omega, fun _ => ⟨Nat.le_refl _, HNEW.out⟩, (fun h => by rw [HSL.out] at h; omega), HOF.out, HWF.out, HBF.out⟩
                case measure => simp [intOf]; omega
            · have HNEW : Hid (linesL s.data.toList = out ++ numP (enumL n (linesGo (pieceL s.data.toList (f, k2 + 1)) (s.data.toList.drop (k2 + 1))))) := Lib.hid (by
                rw [HL.out, hdr]
                have hc : s[k2] ≠ 10 := fun e => h10 (by rw [e]; rfl)
                have hpc : pieceL s.data.toList (f, k2) ++ [s[k2]] = pieceL s.data.toList (f, k2 + 1) := by
                  have := pieceL_snoc s.data.toList f k2 hfk (by rw [HSL.out]; exact hkl)
                  rw [← this]; rfl
                simp only [linesGo, if_neg hc]
                rw [hpc])
              have hb10 : ((s[k2].toNat : Int) == 10) = false := by rw [beq_eq_false_iff_ne]; omega
              clear hdr hke h10
              go_wp2
              go_roundw
              case rel => exact ⟨k2 + 1, f, n, LV, out, by go_num, rfl, rfl, by rw [HSL.out]; omega, by rw [HSL.out]; omega, by omega, by omega, fun _ => ⟨by omega, HNEW.out⟩, (fun h => by rw [HSL.out] at h; omega), HOW.out, HWW.out, HNX.out⟩
              case measure => simp [intOf]; omega
        · have hke : k2 = s.size + 1 := by omega
          have HFIN : Hid (WordsOwn wr w.heap.size 9 LV RV) := Lib.hid (by
            rw [← HRV'.out, HEN.out hke]
            exact HWW.out)
          clear hke
          go_wp2
          go_ret2
          exact ⟨_, LV, by rw [HRE'.out]; rfl, HOW.out, HFIN.out, HNX.out⟩
theorem rlines_had (s : ByteArray) (w : World) (hs : s.size ≤ 30000) :
    Calls Tryz.prog 23 #[.string s] w (LinesHad w (asB (linV s.data.toList)) (linE s.data.toList)) := by
  have hl := size_list s
  by_cases h : 20000 < s.size
  · obtain ⟨e1, e2⟩ := linE_big s.data.toList (by omega)
    rw [e1, e2]
    exact rlines_big s w h hs
  · have h1 := rlines_small s w (by omega)
    cases ho : okL s.data.toList with
    | false =>
      obtain ⟨e1, e2⟩ := linE_bad s.data.toList (by omega) ho
      rw [e1, e2]
      rwa [ho] at h1
    | true =>
      obtain ⟨e1, e2⟩ := linE_ok s.data.toList (by omega) ho
      rw [e1, e2]
      rwa [ho] at h1
theorem rlines_any (s : ByteArray) (w : World) (hs : s.size ≤ 30000) :
    Calls Tryz.prog 23 #[.string s] w (LinesPost w (asB (linV s.data.toList)) (linE s.data.toList)) :=
  (rlines_had s w hs).mono fun _ _ h => h.post
end Go.Proofs.YticdmlijacnjbaaGreatDoor
/- The walk of the statements' own check 'few': whether lines are few and short; memory that was there stays. -/
namespace Go.Proofs.YticdmlijacnjbaaGreatDoor
open Go.RowKit

def fewW (ws : List ByteArray) : Bool := decide (ws.length ≤ 60) && ws.all fun x => decide (x.size ≤ 100)
def fewB (L : List (Int × List ByteArray)) : Bool := decide (L.length ≤ 60) && L.all fun x => fewW x.2
theorem fewB_parts {L : List (Int × List ByteArray)} (h : fewB L = true) : L.length ≤ 60 ∧ ∀ x ∈ L, x.2.length ≤ 60 ∧ ∀ y ∈ x.2, y.size ≤ 100 := by
  unfold fewB at h
  rw [Bool.and_eq_true] at h
  refine ⟨of_decide_eq_true h.1, fun x hx => ?_⟩
  have := List.all_eq_true.1 h.2 x hx
  unfold fewW at this
  rw [Bool.and_eq_true] at this
  exact ⟨of_decide_eq_true this.1, fun y hy => of_decide_eq_true (List.all_eq_true.1 this.2 y hy)⟩
theorem fewB_no {L : List (Int × List ByteArray)} {x : Int × List ByteArray} (hx : x ∈ L) (h : fewW x.2 = false) : fewB L = false := by
  cases hb : fewB L with
  | false => rfl
  | true =>
    unfold fewB at hb
    rw [Bool.and_eq_true] at hb
    have := List.all_eq_true.1 hb.2 x hx
    rw [← h]; exact this.symm
end Go.Proofs.YticdmlijacnjbaaGreatDoor
/- The walk of the document's Join: the text of lines that are few and short. -/
namespace Go.Proofs.YticdmlijacnjbaaGreatDoor
open Go.RowKit

/-- The text of some words of a line. -/
theorem lineL_snoc (ws : List ByteArray) (x : ByteArray) : lineL (ws ++ [x]) = (if ws = [] then [] else lineL ws ++ [32]) ++ x.data.toList := by
  induction ws with
  | nil => simp [lineL, Lib.join, List.intercalate]
  | cons y r ih =>
    have e : ∀ (z : ByteArray) (l : List ByteArray), l ≠ [] → lineL (z :: l) = z.data.toList ++ ([32] ++ lineL l) := fun z l hl => by
      cases l with
      | nil => exact absurd rfl hl
      | cons a b => simp [lineL, Lib.join, List.intercalate]
    rw [List.cons_append, e y (r ++ [x]) (by simp), ih]
    cases r with
    | nil => simp [lineL, Lib.join, List.intercalate]
    | cons a b => rw [e y (a :: b) (by simp)]; simp
theorem lineL_length (ws : List ByteArray) (h : ∀ y ∈ ws, y.size ≤ 100) : (lineL ws).length ≤ 101 * ws.length := by
  induction ws with
  | nil => simp [lineL, Lib.join, List.intercalate]
  | cons y r ih =>
    have h1 := h y (List.mem_cons_self ..)
    have h2 := ih fun z hz => h z (List.mem_cons_of_mem _ hz)
    have hz := size_list y
    cases r with
    | nil => simp [lineL, Lib.join, List.intercalate]; omega
    | cons a b =>
      have e : lineL (y :: a :: b) = y.data.toList ++ ([32] ++ lineL (a :: b)) := by simp [lineL, Lib.join, List.intercalate]
      rw [e]
      simp only [List.length_append, List.length_cons, List.length_nil] at h2 ⊢
      omega
theorem joinL_length (L : List (Int × List ByteArray)) (h : ∀ x ∈ L, x.2.length ≤ 60 ∧ ∀ y ∈ x.2, y.size ≤ 100) : (joinL L).length ≤ 6100 * L.length := by
  induction L with
  | nil => simp [joinL]
  | cons x r ih =>
    have h1 := h x (List.mem_cons_self ..)
    have h2 := ih fun z hz => h z (List.mem_cons_of_mem _ hz)
    have h3 := lineL_length x.2 h1.2
    have e : joinL (x :: r) = (lineL x.2 ++ [10]) ++ joinL r := by simp [joinL]
    rw [e]
    simp only [List.length_append, List.length_cons, List.length_nil]
    omega
theorem take_mem {α : Type} {L : List α} {k : Nat} {x : α} (h : x ∈ L.take k) : x ∈ L := List.mem_of_mem_take h
def RJoinAt (L : List (Int × List ByteArray)) (s3 s4 : Value) : Prop :=
  ∃ (i : Nat) (t : ByteArray), i ≤ L.length ∧ s4 = .int .i64 (i : Int) ∧ s3 = .string t ∧ t.data.toList = joinL (L.take i)
def RLineAt (T : List UInt8) (ws : List ByteArray) (s3 s5 : Value) : Prop :=
  ∃ (j : Nat) (t : ByteArray), j ≤ ws.length ∧ s5 = .int .i64 (j : Int) ∧ s3 = .string t ∧ t.data.toList = T ++ lineL (ws.take j)

set_option maxRecDepth 100000 in
set_option maxHeartbeats 2000000 in
theorem rjoin_at (v : Value) (L : List (Int × List ByteArray)) (w : World) (h : LinesV w v L) (f1 : L.length ≤ 10000) (f2 : ∀ x ∈ L, x.2.length ≤ 60 ∧ ∀ y ∈ x.2, y.size ≤ 100) :
    Calls Tryz.prog 24 #[v] w fun e w' => e = .returned (.string (mkB (joinL L))) ∧ w = w' := by
  obtain ⟨a, c, rfl, hm, hc⟩ := h
  have HF2 := Lib.hid f2
  have HC := Lib.hid hc
  obtain ⟨n, hn⟩ : ∃ n, L.length = n := ⟨_, rfl⟩
  obtain ⟨R, hR⟩ : ∃ R, mkB (joinL L) = R := ⟨_, rfl⟩
  rw [hn] at f1 ⊢
  rw [hR]
  have HN := Lib.hid hn
  have HR := Lib.hid hR
  clear hc f2 hm hn hR
  go_enter Tryz.func24, Tryz.ntmps24
  go_wp2
  go_loop [3, 4] (fun s3 s4 => RJoinAt L s3 s4) (fun _ s4 => n - (intOf s4).toNat)
  case atStart => exact ⟨0, ⟨#[]⟩, Nat.zero_le _, rfl, rfl, rfl⟩
  case round =>
    obtain ⟨i, t, hi, rfl, rfl, ht⟩ := hrel
    rw [HN.out] at hi
    have hb := joinL_length (L.take i) fun x hx => HF2.out x (take_mem hx)
    rw [← ht, size_list] at hb
    have hts : t.size ≤ 61000000 := by
      have : (L.take i).length ≤ 10000 := by rw [List.length_take]; omega
      omega
    have HT := Lib.hid ht
    clear ht hb
    by_cases hlt : i < n
    · have hil : i < L.length := by rw [HN.out]; exact hlt
      obtain ⟨⟨x, ws⟩, hget⟩ : ∃ y, L[i]? = some y := ⟨_, List.getElem?_eq_getElem hil⟩
      obtain ⟨g1, g2⟩ := HF2.out _ (List.mem_of_getElem? hget)
      dsimp only at g1 g2
      have HTK : Hid (L.take (i + 1) = L.take i ++ [(x, ws)]) := Lib.hid (by rw [take_at L i hil]; rw [List.getElem?_eq_getElem hil] at hget; rw [Option.some.inj hget])
      obtain ⟨b1, o1, u1, rfl, d1, d2, s1⟩ := HC.out i _ hget
      obtain ⟨a1, k1, rfl, _, m1, e1⟩ := s1
      dsimp only at d2 e1 m1
      clear hget d1 m1
      have E1 := Lib.hid e1
      have G2 := Lib.hid g2
      obtain ⟨nw, hnw⟩ : ∃ nw, ws.length = nw := ⟨_, rfl⟩
      rw [hnw] at d2 g1
      have HNW := Lib.hid hnw
      clear e1 g2 hnw
      go_wp2
      go_loop [3, 5] (fun s3 s5 => RLineAt (joinL (L.take i)) ws s3 s5) (fun _ s5 => nw - (intOf s5).toNat)
      case atStart => exact ⟨0, t, Nat.zero_le _, rfl, rfl, by rw [HT.out]; simp [lineL, Lib.join, List.intercalate]⟩
      case round =>
        obtain ⟨j, t2, hj, rfl, rfl, ht2⟩ := hrel
        rw [HNW.out] at hj
        have hb2 := lineL_length (ws.take j) fun y hy => G2.out y (take_mem hy)
        have hl2 := congrArg List.length ht2
        rw [List.length_append, ← HT.out, size_list, size_list] at hl2
        have ht2s : t2.size ≤ 61007000 := by
          have : (ws.take j).length ≤ 60 := by rw [List.length_take]; omega
          omega
        have HT2 := Lib.hid ht2
        clear ht2 hb2 hl2
        by_cases hjt : j < nw
        · have hjl : j < ws.length := by rw [HNW.out]; exact hjt
          obtain ⟨y, hy⟩ : ∃ y, ws[j]? = some y := ⟨_, List.getElem?_eq_getElem hjl⟩
          obtain ⟨b3, o3, rfl, q1⟩ := E1.out j y hy
          have hys : y.size ≤ 100 := G2.out y (List.mem_of_getElem? hy)
          have HTJ : Hid (ws.take (j + 1) = ws.take j ++ [y]) := Lib.hid (by rw [take_at ws j hjl]; rw [List.getElem?_eq_getElem hjl] at hy; rw [Option.some.inj hy])
          clear hy
          by_cases h0 : 0 < j
          · have z1 : ¬ 9223372036854775807 < t2.size + 1 := by omega
            have z2 : ¬ 9223372036854775807 < t2.size + 1 + y.size := by omega
            have hne : Hid (ws.take j ≠ []) := Lib.hid fun e => by
              have := congrArg List.length e
              rw [List.length_take, List.length_nil] at this
              omega
            go_wp2
            go_round
            case rel => exact ⟨j + 1, t2 ++ ⟨#[32]⟩ ++ y, by omega, by go_num, rfl, by rw [HTJ.out, lineL_snoc, if_neg hne.out]; simp [ByteArray.data_append, HT2.out]⟩
            case measure => simp [intOf]; omega
          · obtain rfl : j = 0 := by omega
            rw [Nat.add_zero] at q1
            have z2 : ¬ 9223372036854775807 < t2.size + y.size := by omega
            go_wp2
            go_round
            case rel => exact ⟨1, t2 ++ y, by omega, by go_num, rfl, by rw [HTJ.out, lineL_snoc]; simp [ByteArray.data_append, HT2.out, lineL, Lib.join, List.intercalate]⟩
            case measure => simp [intOf]; omega
        · have z1 : ¬ 9223372036854775807 < t2.size + 1 := by omega
          have HWT : Hid (ws.take j = ws) := Lib.hid (List.take_of_length_le (by rw [HNW.out]; omega))
          go_wp2
          go_round
          case rel => exact ⟨i + 1, t2 ++ ⟨#[10]⟩, by omega, by go_num, rfl, by rw [HTK.out, joinL_snoc]; simp [ByteArray.data_append, HT2.out, HWT.out]⟩
          case measure => simp [intOf]; omega
    · have HE : Hid (t = R) := Lib.hid (by
        rw [← HR.out, ← mkB_list t, HT.out, List.take_of_length_le (by rw [HN.out]; omega)])
      rw [HE.out]
      go_wp2
      go_ret
      exact ⟨rfl, rfl⟩
theorem rjoin_any (v : Value) (L : List (Int × List ByteArray)) (w : World) (h : LinesV w v L) (hf : fewB L = true) :
    Calls Tryz.prog 24 #[v] w fun e w' => e = .returned (.string (mkB (joinL L))) ∧ w = w' := by
  obtain ⟨f1, f2⟩ := fewB_parts hf
  exact rjoin_at v L w h (by omega) f2
end Go.Proofs.YticdmlijacnjbaaGreatDoor
/- Lines in a row of the call's own, each with words in a row of its own, numbers and all; a line more; what texts of such lines are. -/
namespace Go.Proofs.YticdmlijacnjbaaGreatDoor.Un
open Go.RowKit

/-- Lines, numbered, in rows of the call's own. -/
def HadAt (W : World) (B Bw : Nat) (v : Value) (L : List (Int × List ByteArray)) : Prop :=
  ∃ LV, W.ownsRow B 60 2 v LV.length (flatL LV) ∧ WordsOwn W Bw 9 LV L
theorem HadAt.nil (W : World) (B Bw : Nat) : HadAt W B Bw (.slice none 0 0) [] := ⟨[], World.ownsRow_nil _ _ _ _, WordsOwn.nil _ _ _⟩
theorem HadAt.below {W W' : World} {B Bw : Nat} {v : Value} {L : List (Int × List ByteArray)} (h : HadAt W B Bw v L) (hb : Below W.heap.size W W') : HadAt W' B Bw v L := by
  obtain ⟨LV, h1, h2⟩ := h
  exact ⟨LV, row_below h1 hb, h2.mono fun u n xs hu => row_below hu hb⟩
theorem HadAt.lines {W : World} {B Bw : Nat} {v : Value} {L : List (Int × List ByteArray)} (h : HadAt W B Bw v L) : LinesV W v L := by
  obtain ⟨LV, h1, h2⟩ := h
  exact lines_of_in h1 h2.isIn
theorem HadAt.len {W : World} {B Bw : Nat} {v : Value} {L : List (Int × List ByteArray)} (h : HadAt W B Bw v L) : ∃ p cap, v = .slice p L.length cap := by
  obtain ⟨LV, h1, h2⟩ := h
  rw [h2.1] at h1
  rcases h1.2 with ⟨rfl, hn⟩ | ⟨g, cap, cur, rfl, _⟩
  · exact ⟨none, 0, by rw [hn]⟩
  · exact ⟨_, _, rfl⟩
/-- A line of them: where it lies, and the row of its words. -/
theorem HadAt.at {W : World} {B Bw : Nat} {v : Value} {L : List (Int × List ByteArray)} (h : HadAt W B Bw v L) {i : Nat} {x : Int × List ByteArray} (hx : L[i]? = some x) :
    ∃ g cap u, v = .slice (some ⟨g, 0, none⟩) L.length cap ∧ L.length ≤ cap ∧ cap ≤ maxLen ∧ W.cell? ⟨g, i * 2, none⟩ = some (.int .i64 x.1) ∧ W.cell? ⟨g, i * 2 + 1, none⟩ = some u ∧ W.ownsRow Bw 9 1 u x.2.length (x.2.map Value.string) := by
  obtain ⟨LV, h1, h2⟩ := h
  have hi := (List.getElem?_eq_some_iff.1 hx).1
  obtain ⟨y, hy⟩ : ∃ y, LV[i]? = some y := ⟨_, List.getElem?_eq_getElem (by rw [h2.1]; exact hi)⟩
  obtain ⟨e1, e2⟩ := h2.2 i y x hy hx
  have h0 := h1
  have hlen := h2.1
  rcases h1.2 with ⟨rfl, hn⟩ | ⟨g, cap, cur, rfl, _, _, hnc, hcm, _⟩
  · omega
  · obtain ⟨f0, f1⟩ := flatL_at LV i y hy
    have c0 := h0.cells (g := g) rfl _ _ f0
    have c1 := h0.cells (g := g) rfl _ _ f1
    rw [add_off, Nat.zero_add] at c0 c1
    exact ⟨g, cap, y.2, by rw [hlen], by omega, hcm, by rw [← e1]; exact c0, c1, e2⟩
theorem info_hline : (Tryz.prog.info? 60).map (fun i => (i.zero, i.size, i.bytes)) = some (some (.agg #[.int .i64 0, .slice none 0 0]), 2, 32) := by kernel_rfl
/-- A line more. -/
theorem wpList_append_had {ops : Array Oper} {rest : List Oper} {o : Oper} {a : Act} {w : World} {Q : Exit → Act → World → Prop} (hgd : o.guard = none) (s x : Operand) (ho : o.op = .call { callee := .builtin .append, args := #[s, x], argTypes := #[55, 55] })
    (B Bw : Nat) (L : List (Int × List ByteArray)) (n : Int) (ws : List ByteArray) (u : Value) (g : Nat) (hrow : HadAt w B Bw (a.eval s) L) (hx : a.eval x = .slice (some ⟨g, 0, none⟩) 1 1) (c0 : w.cell? ⟨g, 0, none⟩ = some (.int .i64 n)) (c1 : w.cell? ⟨g, 1, none⟩ = some u) (hu : w.ownsRow Bw 9 1 u ws.length (ws.map Value.string)) (hB : B ≤ w.heap.size) (hK : L.length ≤ 100000)
    (h : ∀ v' w', HadAt w' B Bw v' (L ++ [(n, ws)]) → Below B w w' → w.grownBy w' (a.eval s).ownBlock → wpList Tryz.prog ops Q rest (a.put o.dst v') w') : wpList Tryz.prog ops Q (o :: rest) a w := by
  obtain ⟨LV, h1, h2⟩ := hrow
  have hlen : LV.length = L.length := h2.1
  obtain ⟨i, hi, hz, hsz, hby⟩ := info_parts info_hline
  have hu1 : ∃ p c, u = .slice p ws.length c := by
    rcases hu.2 with ⟨rfl, e0⟩ | ⟨g', cap, cur, rfl, _⟩
    · exact ⟨none, 0, by rw [e0]⟩
    · exact ⟨_, _, rfl⟩
  obtain ⟨pu, cu, rfl⟩ := hu1
  refine wpList_append_own w hgd s x 55 ho B 60 i _ 2 32 Tryz.underlying55 hi hz hsz hby rfl (by decide) _ _ _ rfl h1 ⟨g, 0, none⟩ 1 1 [.int .i64 n, .slice pu ws.length cu] hx rfl (fun j v hj => ?_) (by intro v hv; simp at hv; rcases hv with rfl | rfl <;> rfl) (by unfold maxLen; omega) (by omega) hB ?_
  · match j, hj with
    | 0, hj => cases hj; rw [add_off]; exact c0
    | 1, hj => cases hj; rw [add_off]; exact c1
    | j + 2, hj => simp at hj
  · intro v' w' h3 h4 _
    refine h v' w' ⟨LV ++ [(n, .slice pu ws.length cu)], ?_, ?_⟩ (below_grown (Below.refl _ _) hB h1 h4) h4
    · rw [flatL_snoc, List.length_append]; exact h3
    · have hk : ∀ (q : Value) (m : Nat) (xs : List Value), w.ownsRow Bw 9 1 q m xs → w'.ownsRow Bw 9 1 q m xs := fun q m xs hq => hq.kept h4 (row_apart h1 hq (by decide))
      exact (h2.mono hk).snoc n _ ws (hk _ _ _ hu)
theorem had_of {w : World} {L : List (Int × List ByteArray)} {c : Int} {e : Ending} {w' : World} (h : LinesHad w L c e w') : ∃ v, e = .returned (.tuple #[v, .int .i64 c]) ∧ HadAt w' w.heap.size w.heap.size v L ∧ Below w.heap.size w w' := by
  obtain ⟨v, LV, he, h1, h2, hb⟩ := h
  exact ⟨v, he, ⟨LV, h1, h2⟩, hb⟩
/-! ### How long lines of master data are -/
theorem good_few {ws : List ByteArray} (h : Good ws) : 0 < ws.length ∧ ws.length ≤ 60 ∧ ∀ y ∈ ws, y.size ≤ 100 := by
  have t100 : tAccount.size ≤ 100 ∧ Fl.tFlow.size ≤ 100 ∧ tCash.size ≤ 100 ∧ tMutual.size ≤ 100 ∧ tWorn.size ≤ 100 ∧ tFixed.size ≤ 100 := by decide
  rcases h with ⟨_, hp⟩ | ⟨_, hp⟩ | hf
  · obtain ⟨e, hr⟩ := parse_ok hp
    have hw : wordsA (parseA ws).1 = tAccount :: (parseA ws).1.code :: clsW (parseA ws).1.cls :: markW (parseA ws).1 := by unfold wordsA; rw [if_pos hr]
    obtain ⟨h1, h2, h3⟩ := right_parts hr
    have hcs := (nm_size h1).2
    have hcl : (clsW (parseA ws).1.cls).size ≤ 100 := by rcases h2 with e | e | e <;> rw [e] <;> decide
    rw [hw] at e
    have hmk : (markW (parseA ws).1).length ≤ 2 ∧ ∀ y ∈ markW (parseA ws).1, y.size ≤ 100 := by
      unfold markW
      rcases marks_ways h3 with ⟨q1, q2, q3, q4⟩ | ⟨q1, q2, q3, q4, _⟩ | ⟨q1, q2, q3, q4, _⟩ | ⟨q1, q2, q3, q4, q5, _⟩ | ⟨q1, q2, q3, q4, q5, _⟩
      · rw [q1, q2, q4, q3, neB_empty]; simp
      · rw [q1]; simp; decide
      · rw [q1, q2]; simp; decide
      · have := (nm_size q3).2
        rw [q1, q2, q5, q4]; simp; exact ⟨by decide, by omega⟩
      · have := (nm_size q3).2
        rw [q1, q2, q5]; simp; exact ⟨by decide, by omega⟩
    rw [← e]
    refine ⟨by simp, by simp; omega, fun y hy => ?_⟩
    rcases List.mem_cons.1 hy with rfl | hy
    · exact t100.1
    · rcases List.mem_cons.1 hy with rfl | hy
      · omega
      · rcases List.mem_cons.1 hy with rfl | hy
        · exact hcl
        · exact hmk.2 y hy
  · rcases Fl.parse_err ws with e | ⟨e, hr, _⟩
    · rw [e] at hp; simp at hp
    · rw [Fl.words_of hr] at e
      obtain ⟨h1, h2⟩ := Fl.right_parts hr
      have hcs := (nm_size h1).2
      have hcl : (Fl.kindW (Fl.parseF ws).1.kind).size ≤ 100 := by rcases h2 with e | e | e | e | e <;> rw [e] <;> decide
      rw [← e]
      refine ⟨by simp, by simp, fun y hy => ?_⟩
      simp at hy
      rcases hy with rfl | rfl | rfl
      · exact t100.2.1
      · omega
      · exact hcl
  · obtain ⟨s1, _, _⟩ := formed_sizes hf
    rcases formed_ways hf with ⟨h0, a, b, e, ha, hb⟩ | ⟨h0, a, b, c, e, ha, hb, hc⟩ | ⟨_, a, e, ha⟩
    · have := (nm_size ha).2
      have := (nm_size hb).2
      rw [h0] at s1
      rw [e]
      refine ⟨by simp, by simp, fun y hy => ?_⟩
      simp at hy
      rcases hy with rfl | rfl | rfl <;> omega
    · have := (nm_size ha).2
      have := (nm_size hb).2
      have := (nm_size hc).2
      rw [h0] at s1
      rw [e]
      refine ⟨by simp, by simp, fun y hy => ?_⟩
      simp at hy
      rcases hy with rfl | rfl | rfl | rfl <;> omega
    · have := (nm_size ha).2
      rw [e]
      refine ⟨by simp, by simp, fun y hy => ?_⟩
      simp at hy
      rcases hy with rfl | rfl <;> omega
theorem szL_count (l : List (List ByteArray)) : l.length ≤ szL l := by
  induction l with
  | nil => exact Nat.zero_le _
  | cons ws l ih =>
    have : szL (ws :: l) = szW ws + szL l := rfl
    rw [this]
    unfold szW
    simp only [List.length_cons]
    omega
theorem szW_le {l : List (List ByteArray)} {ws : List ByteArray} (h : ws ∈ l) : szW ws ≤ szL l := by
  induction l with
  | nil => cases h
  | cons a l ih =>
    have : szL (a :: l) = szW a + szL l := rfl
    rw [this]
    rcases List.mem_cons.1 h with rfl | h
    · omega
    · have := ih h; omega
end Go.Proofs.YticdmlijacnjbaaGreatDoor.Un
