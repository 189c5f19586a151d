
/- The walk of the document's Lines: at every text of at most 30000 bytes it hands back the plain lines, and the plain number; memory that was there stays. -/
import Derived.Test.YtjinlldfniflbaaLexRwords
import Derived.Test.YtjinlldfniflbaaLexLines
import Derived.Shelf.Strings.FieldsFuncAny
namespace Go.Proofs.Ytjinlldfniflbaa
open Go.RowKit

theorem info_rline2 : (Try.prog.info? 45).map (fun i => (i.zero, i.size, i.bytes)) = some (some (.agg #[.int .i64 0, .slice none 0 0]), 2, 32) := by kernel_rfl
/-- The lines of l from the line n on, of which the bytes from 'from' to k are read. -/
def RLinesAt (w : World) (l : List UInt8) (s5 s6 s7 s8 : Value) (wr : World) : Prop :=
  ∃ (k f n : Nat) (LV : List (Int × Value)) (out : List (Nat × List (List UInt8))), s8 = .int .i64 (k : Int) ∧ s7 = .int .i64 (f : Int) ∧ s6 = .int .i64 (n : Int) ∧ k ≤ l.length + 1 ∧ f ≤ l.length + 1 ∧ n ≤ k + 1 ∧ out.length ≤ k ∧
    (k ≤ l.length → f ≤ k ∧ linesL l = out ++ numP (enumL n (linesGo (pieceL l (f, k)) (l.drop k)))) ∧ (k = l.length + 1 → linesL l = out) ∧
    wr.ownsRow w.heap.size 45 2 s5 LV.length (flatL LV) ∧ WordsOwn wr w.heap.size 9 LV (asB out) ∧ Below w.heap.size w wr

theorem own_slice {W : World} {B : Nat} {e : TypeId} {s : Nat} {v : Value} {n : Nat} {xs : List Value} (h : W.ownsRow B e s v n xs) : ∃ a c, v = .slice a n c := by
  rcases h.2 with ⟨rfl, rfl⟩ | ⟨g, cap, cur, rfl, _⟩
  · exact ⟨_, _, rfl⟩
  · exact ⟨_, _, rfl⟩
theorem numP_cons (n : Nat) (x : List UInt8) (r : List (Nat × List UInt8)) : numP ((n, x) :: r) = numP [(n, x)] ++ numP r := by
  rw [← numP_append]; rfl
theorem pieceL_nil (l : List UInt8) (a : Nat) : pieceL l (a, a) = [] := by simp [pieceL]
/-- What the end of a line makes of the lines. -/
theorem rl_end (l out : List UInt8) (o : List (Nat × List (List UInt8))) (n f k : Nat) (h : linesL l = o ++ numP (enumL n (linesGo (pieceL l (f, k)) (l.drop k)))) (hk : l.drop k = 10 :: out) (h1 : l.drop (k + 1) = out) :
    linesL l = (o ++ numP [(n, pieceL l (f, k))]) ++ numP (enumL (n + 1) (linesGo (pieceL l (k + 1, k + 1)) (l.drop (k + 1)))) := by
  rw [h, hk, h1, pieceL_nil]
  simp only [linesGo, if_true, enumL]
  rw [numP_cons]
  simp
theorem rl_last (l : List UInt8) (o : List (Nat × List (List UInt8))) (n f k : Nat) (h : linesL l = o ++ numP (enumL n (linesGo (pieceL l (f, k)) (l.drop k)))) (hk : l.drop k = []) :
    linesL l = o ++ numP [(n, pieceL l (f, k))] := by
  rw [h, hk]; rfl

theorem rlines_big (s : ByteArray) (w : World) (h : 20000 < s.size) (hs : s.size ≤ 30000) :
    Calls Try.prog 12 #[.string s] w (LinesPost w [] 4) := by
  go_enter Try.func12, Try.ntmps12
  go_wp2
  go_ret2
  exact ⟨_, rfl, LinesV.nil _, Below.refl _ _⟩
set_option maxRecDepth 100000 in
set_option maxHeartbeats 4000000 in
theorem rlines_small (s : ByteArray) (w : World) (hs : s.size ≤ 20000) :
    Calls Try.prog 12 #[.string s] w (LinesPost w (asB (if okL s.data.toList then linesL s.data.toList else [])) (if okL s.data.toList then 0 else 5)) := by
  obtain ⟨RV, hRV⟩ : ∃ RV, asB (if okL s.data.toList then linesL s.data.toList else []) = RV := ⟨_, rfl⟩
  obtain ⟨RE, hRE⟩ : ∃ RE : Int, (if okL s.data.toList then (0 : Int) else 5) = RE := ⟨_, rfl⟩
  rw [hRV, hRE]
  have HRV := Lib.hid hRV
  have HRE := Lib.hid hRE
  have HSL := Lib.hid (size_list s)
  clear hRV hRE
  have HBAD : Hid (okL s.data.toList = false → ∀ W, LinesPost W RV RE (.returned (.tuple #[.slice none 0 0, .int .i64 5])) W) := Lib.hid fun hno W => by
    rw [← HRE.out, ← HRV.out, hno]
    exact ⟨_, rfl, LinesV.nil _, Below.refl _ _⟩
  have h1 : ¬ 20000 < s.size := by omega
  obtain ⟨i0, hi, hz0, hz1, hz2⟩ := info_parts info_rline2
  have HI := Lib.hid (And.intro hi (And.intro hz0 (And.intro hz1 hz2)))
  clear hi hz0 hz1 hz2
  go_enter Try.func12, Try.ntmps12
  go_wp2
  go_loop [4] (fun i => ∃ k : Nat, k ≤ s.size ∧ i = .int .i64 k ∧ (s.data.toList.take k).all okB = true) (fun i => s.size - (intOf i).toNat)
  case atStart => exact ⟨0, Nat.zero_le _, rfl, rfl⟩
  case round =>
    obtain ⟨k, hk, rfl, hd⟩ := hrel
    have HD := Lib.hid hd
    clear hd
    by_cases hlt : k < s.size
    · have HO := Lib.hid (okB_dec s[k])
      have hb : s[k].toNat < 256 := UInt8.toNat_lt _
      go_wp2
      all_goals first
        | (go_ret2
           exact HBAD.out (all_no okB s k hlt (by rw [HO.out]; exact decide_eq_false (by omega))) _)
        | (go_round
           case rel => exact ⟨k + 1, by omega, by go_num, by rw [all_take okB s k hlt, HD.out, HO.out]; exact decide_eq_true (by first | omega | (simp only [bne_eq_false_iff_eq] at *; omega))⟩
           case measure => simp [intOf]; omega)
    · have hok : okL s.data.toList = true := all_end okB s k hlt hk HD.out
      have HRV' : Hid (asB (linesL s.data.toList) = RV) := Lib.hid (by rw [← HRV.out, hok]; rfl)
      have HRE' : Hid (RE = 0) := Lib.hid (by rw [← HRE.out, hok]; rfl)
      clear hok
      go_wp2
      go_loopw [5, 6, 7, 8] (fun s5 s6 s7 s8 wr => RLinesAt w s.data.toList s5 s6 s7 s8 wr) (fun _ _ _ s8 _ => s.size + 1 - (intOf s8).toNat)
      case atStart => exact ⟨0, 0, 1, [], [], rfl, rfl, rfl, by omega, by omega, by omega, Nat.le_refl _, fun _ => ⟨Nat.le_refl _, rfl⟩, fun h => by omega, World.ownsRow_nil _ _ _ _, WordsOwn.nil _ _ _, Below.refl _ _⟩
      case round =>
        obtain ⟨k2, f, n, LV, out, rfl, rfl, rfl, hk2, hf2, hn2, hol, hgo, hend, hown, hw, hnx⟩ := hrel
        rw [HSL.out] at hk2 hf2 hgo hend
        have hlv : LV.length ≤ k2 := by rw [hw.1, asB_length]; exact hol
        have HGO := Lib.hid hgo
        have HEN := Lib.hid hend
        have HOW := Lib.hid hown
        have HWW := Lib.hid hw
        have HNX := Lib.hid hnx
        clear hgo hend hown hw hnx
        by_cases hlast : k2 ≤ s.size
        · obtain ⟨hfk, hL⟩ := HGO.out hlast
          have HL := Lib.hid hL
          clear hL
          by_cases hke : k2 = s.size
          · have hdr : s.data.toList.drop k2 = [] := List.drop_eq_nil_of_le (by rw [HSL.out]; omega)
            obtain ⟨P, hP⟩ : ∃ P, pieceL s.data.toList (f, k2) = P := ⟨_, rfl⟩
            have hPx : (s.extract f k2).data.toList = P := by rw [piece_mid, mkB_data, ← hP]; rfl
            obtain ⟨x, hx⟩ : ∃ x, s.extract f k2 = x := ⟨_, rfl⟩
            rw [hx] at hPx
            have hxs : x.size ≤ 30000 := by rw [← size_list, hPx, ← hP]; unfold pieceL; rw [List.length_take, List.length_drop, HSL.out]; omega
            have HRW : Hid (∀ W, Calls Try.prog 26 #[.string x] W (RWordsPost W (wordsL P))) := Lib.hid fun W => by
              have := rwords_any x W hxs
              rwa [hPx] at this
            have c1 : (0 : Int) ≤ ↑f := by omega
            have c2 : (↑f : Int) ≤ ↑k2 := by omega
            have c3 : (↑k2 : Int) ≤ ↑s.size := by omega
            have HNEW : Hid (linesL s.data.toList = out ++ numP [(n, P)]) := Lib.hid (by rw [← hP]; exact rl_last _ _ _ _ _ HL.out hdr)
            have hkb : ((k2 : Int) == (s.size : Int)) = true := by rw [beq_iff_eq]; omega
            have HKE := Lib.hid hke
            clear hdr hP hPx hke
            by_cases hpw : wordsL P = []
            · have HP1 : Hid (numP [(n, P)] = []) := Lib.hid (by simp [numP, hpw])
              have HPW : Hid (wordsL P = []) := Lib.hid hpw
              clear hpw
              go_wp2_with fail
              refine (HRW.out _).mono ?_
              rintro e w2 ⟨v, rfl, ho, hb⟩
              obtain ⟨av, cv, rfl⟩ := own_slice ho
              rw [HPW.out]
              simp only [List.map_nil, List.length_nil]
              have HO2 := Lib.hid (row_below HOW.out hb)
              have HW2 := Lib.hid (HWW.out.mono fun u m xs hu => row_below hu hb)
              have HN2 := Lib.hid (HNX.out.trans (hb.mono HNX.out.size))
              clear ho hb
              go_wp2
              go_roundw
              case rel => exact ⟨k2 + 1, k2 + 1, n + 1, LV, out ++ numP [(n, P)], by go_num, by go_num, by go_num, by rw [HSL.out]; omega, by rw [HSL.out]; omega, by omega, by rw [HP1.out, List.append_nil]; omega, (fun h => by rw [HSL.out] at h; have := HKE.out; omega), fun _ => HNEW.out, HO2.out, by rw [HP1.out, List.append_nil]; exact HW2.out, HN2.out⟩
              case measure => simp [intOf]; omega
            · have HP1 : Hid (numP [(n, P)] = [(n, wordsL P)]) := Lib.hid (by simp [numP, hpw])
              have hpl : 0 < ((wordsL P).map mkB).length := by rw [List.length_map]; exact List.length_pos_iff.2 hpw
              obtain ⟨ws, hws⟩ : ∃ ws, (wordsL P).map mkB = ws := ⟨_, rfl⟩
              have HWS := Lib.hid hws
              rw [hws] at hpl
              clear hpw hws
              go_wp2_with fail
              refine (HRW.out _).mono ?_
              rintro e w2 ⟨v, rfl, ho, hb⟩
              rw [HWS.out] at ho
              obtain ⟨av, cv, rfl⟩ := own_slice ho
              have hrow1 := row_below HOW.out hb
              have HW2 := Lib.hid (HWW.out.mono fun u m xs hu => row_below hu hb)
              have HN2 := Lib.hid (HNX.out.trans (hb.mono HNX.out.size))
              have hsz2 : w.heap.size ≤ w2.heap.size := HN2.out.size
              have HO9 := Lib.hid (row_base ho HNX.out.size)
              have HR1 := Lib.hid hrow1
              clear ho hb hrow1
              go_wp2_with (at_builtin; refine wpList_append_own _ rfl _ _ 22 rfl w.heap.size 45 i0 (.agg #[.int .i64 0, .slice none 0 0]) 2 32 Try.underlying22 HI.out.1 HI.out.2.1 HI.out.2.2.1 HI.out.2.2.2 rfl (by decide) _ _ _ rfl (HR1.out.alloc _) ⟨w2.heap.size, 0, none⟩ 1 1 [.int .i64 (n : Int), .slice av ws.length cv] rfl rfl (cell_two_new' _ _ _ _) (by intro u hu; simp at hu; rcases hu with rfl | rfl <;> rfl) (by unfold maxLen; omega) (by omega) (by simp; omega) ?_; intro v' w3 hown' hgrow _)
              have hK9 : ∀ (u : Value) (m : Nat) (xs : List Value), w2.ownsRow w.heap.size 9 1 u m xs → w3.ownsRow w.heap.size 9 1 u m xs := fun u m xs hu =>
                (hu.alloc (.cells #[.int .i64 (n : Int), .slice av ws.length cv] 45)).kept hgrow (row_apart HR1.out hu (by decide))
              have HWF : Hid (WordsOwn w3 w.heap.size 9 (LV ++ [((n : Int), .slice av ws.length cv)]) (asB (out ++ numP [(n, P)]))) := Lib.hid (by
                rw [HP1.out, asB_append]
                have : asB [(n, wordsL P)] = [((n : Int), ws)] := by simp [asB, HWS.out]
                rw [this]
                exact (HW2.out.mono hK9).snoc _ _ _ (hK9 _ _ _ HO9.out))
              have HOF : Hid (w3.ownsRow w.heap.size 45 2 v' (LV ++ [((n : Int), Value.slice av ws.length cv)]).length (flatL (LV ++ [((n : Int), Value.slice av ws.length cv)]))) := Lib.hid (by
                rw [flatL_snoc, List.length_append]; exact hown')
              have HBF := Lib.hid (below_grown (HN2.out.alloc hsz2 _) (by simp; omega) (HR1.out.alloc _) hgrow)
              clear hK9 hown' hgrow
              go_roundw
              case rel => exact ⟨k2 + 1, k2 + 1, n + 1, _, out ++ numP [(n, P)], by go_num, by go_num, by go_num, by rw [HSL.out]; omega, by rw [HSL.out]; omega, by omega, by rw [HP1.out]; simp; omega, (fun h => by rw [HSL.out] at h; have := HKE.out; omega), fun _ => HNEW.out, HOF.out, HWF.out, HBF.out⟩
              case measure => simp [intOf]; omega
          · have hkl : k2 < s.size := by omega
            have hkb : ((k2 : Int) == (s.size : Int)) = false := by rw [beq_eq_false_iff_ne]; omega
            have hdr := drop_at s k2 hkl
            by_cases h10 : s[k2].toNat = 10
            · have hc10 : s[k2] = 10 := UInt8.toNat_inj.1 h10
              rw [hc10] at hdr
              obtain ⟨P, hP⟩ : ∃ P, pieceL s.data.toList (f, k2) = P := ⟨_, rfl⟩
              have hPx : (s.extract f k2).data.toList = P := by rw [piece_mid, mkB_data, ← hP]; rfl
              obtain ⟨x, hx⟩ : ∃ x, s.extract f k2 = x := ⟨_, rfl⟩
              rw [hx] at hPx
              have hxs : x.size ≤ 30000 := by rw [← size_list, hPx, ← hP]; unfold pieceL; rw [List.length_take, List.length_drop, HSL.out]; omega
              have HRW : Hid (∀ W, Calls Try.prog 26 #[.string x] W (RWordsPost W (wordsL P))) := Lib.hid fun W => by
                have := rwords_any x W hxs
                rwa [hPx] at this
              have c1 : (0 : Int) ≤ ↑f := by omega
              have c2 : (↑f : Int) ≤ ↑k2 := by omega
              have c3 : (↑k2 : Int) ≤ ↑s.size := by omega
              have HNEW : Hid (linesL s.data.toList = (out ++ numP [(n, P)]) ++ numP (enumL (n + 1) (linesGo (pieceL s.data.toList (k2 + 1, k2 + 1)) (s.data.toList.drop (k2 + 1))))) := Lib.hid (by rw [← hP]; exact rl_end _ _ _ _ _ _ HL.out hdr rfl)
              have hb10 : ((s[k2].toNat : Int) == 10) = true := by rw [beq_iff_eq]; omega
              clear hdr hP hPx hke h10 hc10
              by_cases hpw : wordsL P = []
              · have HP1 : Hid (numP [(n, P)] = []) := Lib.hid (by simp [numP, hpw])
                have HPW : Hid (wordsL P = []) := Lib.hid hpw
                clear hpw
                go_wp2_with fail
                refine (HRW.out _).mono ?_
                rintro e w2 ⟨v, rfl, ho, hb⟩
                obtain ⟨av, cv, rfl⟩ := own_slice ho
                rw [HPW.out]
                simp only [List.map_nil, List.length_nil]
                have HO2 := Lib.hid (row_below HOW.out hb)
                have HW2 := Lib.hid (HWW.out.mono fun u m xs hu => row_below hu hb)
                have HN2 := Lib.hid (HNX.out.trans (hb.mono HNX.out.size))
                clear ho hb
                go_wp2
                go_roundw
                case rel => exact ⟨k2 + 1, k2 + 1, n + 1, LV, out ++ numP [(n, P)], by go_num, by go_num, by go_num, by rw [HSL.out]; omega, by rw [HSL.out]; omega, by omega, by rw [HP1.out, List.append_nil]; omega, fun _ => ⟨Nat.le_refl _, HNEW.out⟩, (fun h => by rw [HSL.out] at h; omega), HO2.out, by rw [HP1.out, List.append_nil]; exact HW2.out, HN2.out⟩
                case measure => simp [intOf]; omega
              · have HP1 : Hid (numP [(n, P)] = [(n, wordsL P)]) := Lib.hid (by simp [numP, hpw])
                have hpl : 0 < ((wordsL P).map mkB).length := by rw [List.length_map]; exact List.length_pos_iff.2 hpw
                obtain ⟨ws, hws⟩ : ∃ ws, (wordsL P).map mkB = ws := ⟨_, rfl⟩
                have HWS := Lib.hid hws
                rw [hws] at hpl
                clear hpw hws
                go_wp2_with fail
                refine (HRW.out _).mono ?_
                rintro e w2 ⟨v, rfl, ho, hb⟩
                rw [HWS.out] at ho
                obtain ⟨av, cv, rfl⟩ := own_slice ho
                have hrow1 := row_below HOW.out hb
                have HW2 := Lib.hid (HWW.out.mono fun u m xs hu => row_below hu hb)
                have HN2 := Lib.hid (HNX.out.trans (hb.mono HNX.out.size))
                have hsz2 : w.heap.size ≤ w2.heap.size := HN2.out.size
                have HO9 := Lib.hid (row_base ho HNX.out.size)
                have HR1 := Lib.hid hrow1
                clear ho hb hrow1
                go_wp2_with (at_builtin; refine wpList_append_own _ rfl _ _ 22 rfl w.heap.size 45 i0 (.agg #[.int .i64 0, .slice none 0 0]) 2 32 Try.underlying22 HI.out.1 HI.out.2.1 HI.out.2.2.1 HI.out.2.2.2 rfl (by decide) _ _ _ rfl (HR1.out.alloc _) ⟨w2.heap.size, 0, none⟩ 1 1 [.int .i64 (n : Int), .slice av ws.length cv] rfl rfl (cell_two_new' _ _ _ _) (by intro u hu; simp at hu; rcases hu with rfl | rfl <;> rfl) (by unfold maxLen; omega) (by omega) (by simp; omega) ?_; intro v' w3 hown' hgrow _)
                have hK9 : ∀ (u : Value) (m : Nat) (xs : List Value), w2.ownsRow w.heap.size 9 1 u m xs → w3.ownsRow w.heap.size 9 1 u m xs := fun u m xs hu =>
                  (hu.alloc (.cells #[.int .i64 (n : Int), .slice av ws.length cv] 45)).kept hgrow (row_apart HR1.out hu (by decide))
                have HWF : Hid (WordsOwn w3 w.heap.size 9 (LV ++ [((n : Int), .slice av ws.length cv)]) (asB (out ++ numP [(n, P)]))) := Lib.hid (by
                  rw [HP1.out, asB_append]
                  have : asB [(n, wordsL P)] = [((n : Int), ws)] := by simp [asB, HWS.out]
                  rw [this]
                  exact (HW2.out.mono hK9).snoc _ _ _ (hK9 _ _ _ HO9.out))
                have HOF : Hid (w3.ownsRow w.heap.size 45 2 v' (LV ++ [((n : Int), Value.slice av ws.length cv)]).length (flatL (LV ++ [((n : Int), Value.slice av ws.length cv)]))) := Lib.hid (by
                  rw [flatL_snoc, List.length_append]; exact hown')
                have HBF := Lib.hid (below_grown (HN2.out.alloc hsz2 _) (by simp; omega) (HR1.out.alloc _) hgrow)
                clear hK9 hown' hgrow
                go_roundw
                case rel => exact ⟨k2 + 1, k2 + 1, n + 1, _, out ++ numP [(n, P)], by go_num, by go_num, by go_num, by rw [HSL.out]; omega, by rw [HSL.out]; omega, by omega, by rw [HP1.out]; simp; omega, fun _ => ⟨Nat.le_refl _, HNEW.out⟩, (fun h => by rw [HSL.out] at h; omega), HOF.out, HWF.out, HBF.out⟩
                case measure => simp [intOf]; omega
            · have HNEW : Hid (linesL s.data.toList = out ++ numP (enumL n (linesGo (pieceL s.data.toList (f, k2 + 1)) (s.data.toList.drop (k2 + 1))))) := Lib.hid (by
                rw [HL.out, hdr]
                have hc : s[k2] ≠ 10 := fun e => h10 (by rw [e]; rfl)
                have hpc : pieceL s.data.toList (f, k2) ++ [s[k2]] = pieceL s.data.toList (f, k2 + 1) := by
                  have := pieceL_snoc s.data.toList f k2 hfk (by rw [HSL.out]; exact hkl)
                  rw [← this]; rfl
                simp only [linesGo, if_neg hc]
                rw [hpc])
              have hb10 : ((s[k2].toNat : Int) == 10) = false := by rw [beq_eq_false_iff_ne]; omega
              clear hdr hke h10
              go_wp2
              go_roundw
              case rel => exact ⟨k2 + 1, f, n, LV, out, by go_num, rfl, rfl, by rw [HSL.out]; omega, by rw [HSL.out]; omega, by omega, by omega, fun _ => ⟨by omega, HNEW.out⟩, (fun h => by rw [HSL.out] at h; omega), HOW.out, HWW.out, HNX.out⟩
              case measure => simp [intOf]; omega
        · have hke : k2 = s.size + 1 := by omega
          have HFIN : Hid (LinesV wr u5 RV) := Lib.hid (by
            rw [← HRV'.out, HEN.out hke]
            exact lines_of_in HOW.out HWW.out.isIn)
          clear hke
          go_wp2
          go_ret2
          exact ⟨_, by rw [HRE'.out]; rfl, HFIN.out, HNX.out⟩
theorem rlines_any (s : ByteArray) (w : World) (hs : s.size ≤ 30000) :
    Calls Try.prog 12 #[.string s] w (LinesPost w (asB (linV s.data.toList)) (linE s.data.toList)) := by
  have hl := size_list s
  by_cases h : 20000 < s.size
  · obtain ⟨e1, e2⟩ := linE_big s.data.toList (by omega)
    rw [e1, e2]
    exact rlines_big s w h hs
  · have h1 := rlines_small s w (by omega)
    cases ho : okL s.data.toList with
    | false =>
      obtain ⟨e1, e2⟩ := linE_bad s.data.toList (by omega) ho
      rw [e1, e2]
      rwa [ho] at h1
    | true =>
      obtain ⟨e1, e2⟩ := linE_ok s.data.toList (by omega) ho
      rw [e1, e2]
      rwa [ho] at h1
end Go.Proofs.Ytjinlldfniflbaa
