
/- The walk of SplitLike: for any amount, any weights and any number it returns true. -/
import Derived.Test.YticcpcejdndplaaSplitFacts
import Derived.Test.YticcpcejdndplaaTwoRows
import Derived.BigQuiet
namespace Go.Proofs.Yticcpcejdndplaa
open Go.RowKit

theorem infoI64 : (Try.prog.info? 2).map (fun i => (i.zero, i.size, i.bytes)) = some (some (.int .i64 0), 1, 8) := by kernel_rfl
/-- The weights, as the statement takes them. -/
def ten (l : List Int) : List Int := l.map (· % 1024)
theorem ten_small (l : List Int) : Small10 (ten l) := fun x hx => by
  obtain ⟨y, _, rfl⟩ := List.mem_map.1 hx
  show 0 ≤ y % 1024 ∧ y % 1024 ≤ 1023
  omega
theorem ten_len (l : List Int) : (ten l).length = l.length := by simp [ten]
theorem nil_row (w : World) : RowIs .i64 w none 0 [] := ⟨rfl, by unfold maxLen; omega, fun i hi => absurd hi (Nat.not_lt_zero _)⟩

set_option maxRecDepth 100000 in
set_option maxHeartbeats 3200000 in
theorem like_core (a : Int) (ad : Option Addr) (n c : Nat) (l : List Int) (b : Int) (w : World) (ha : In64 a) (h : RowIs .i16 w ad n l) (hz : ∀ x ∈ l, -32768 ≤ x ∧ x ≤ 32767) (hb : InU8 b) (hn : n ≤ 200) :
    Calls Try.prog 5 #[.int .i64 a, .slice ad n c, .int .u8 b] w fun e w' => e = .returned (.bool true) ∧ RowKit.Below w.heap.size w w' := by
  obtain ⟨i0, hi, hz0, hz1, hz2⟩ := info_parts infoI64
  obtain ⟨b1, b2⟩ := hb
  obtain ⟨m, hm⟩ : ∃ m, m = b + 1 := ⟨_, rfl⟩
  have hm0 : 0 < m := by omega
  have hm1 : m ≤ 256 := by omega
  have hbm : b + 1 = m := hm.symm
  have HA := Lib.hid ha
  have HR := Lib.hid h
  have HZ := Lib.hid hz
  have HI := Lib.hid (And.intro hi (And.intro hz0 (And.intro hz1 hz2)))
  have HN := Lib.hid h.len
  clear h hz hi hz0 hz1 hz2 ha hm
  have hd1 : decide ((200 : Int) < (n : Int)) = false := by simp; omega
  go_enter Try.func5, Try.ntmps5
  go_wp2_with fail
  refine (alive_any _).mono ?_
  rintro e w1 ⟨rfl, hb1⟩
  have HB1 := Lib.hid hb1
  clear hb1
  go_wp2
  go_loopw [7, 8, 25] (fun v u i wr => ∃ k : Nat, k ≤ n ∧ i = .int .i64 k ∧ OwnI .i64 wr w1.heap.size 2 v ((ten l).take k) ∧ OwnI .i64 wr w1.heap.size 2 u (((ten l).map (· * m)).take k) ∧ Apart v u ∧ Below w1.heap.size w1 wr) (fun _ _ i _ => n - (intOf i).toNat)
  case atStart => exact ⟨0, Nat.zero_le _, rfl, OwnI.nil _ _ _ _, OwnI.nil _ _ _ _, Apart.nil _, Below.refl _ _⟩
  case round =>
    obtain ⟨k, hk, rfl, hown, hownu, hap, hnx⟩ := hrel
    have HOWN := Lib.hid hown
    have HOWNU := Lib.hid hownu
    have HAP := Lib.hid hap
    have HNX := Lib.hid hnx
    clear hown hownu hap hnx
    by_cases hlt : k < n
    · obtain ⟨b, o, rfl, hc0⟩ := HR.out.cell k hlt
      have hc : wr.cell? ⟨b, o + k, none⟩ = some (.int .i16 (l.getD k 0)) := by
        have hbk := World.block_lt_of_cell? w _ hc0
        rw [HNX.out.cell (Nat.lt_of_lt_of_le hbk HB1.out.size), HB1.out.cell hbk]; exact hc0
      clear hc0
      have hkl : k < l.length := by rw [HN.out]; exact hlt
      obtain ⟨hin1, hin2⟩ := HZ.out _ (getD_mem hkl)
      have htk : ((ten l).take k).length = k := by simp [ten]; omega
      have HTK := Lib.hid htk
      have htu : (((ten l).map (· * m)).take k).length = k := by simp [ten]; omega
      have HTU := Lib.hid htu
      clear htk htu
      have HSN := Lib.hid (take_snoc (ten l) k (by rw [ten_len]; exact hkl))
      have HSU := Lib.hid (take_snoc ((ten l).map (· * m)) k (by rw [List.length_map, ten_len]; exact hkl))
      obtain ⟨x, hx⟩ : ∃ x, x = l.getD k 0 := ⟨_, rfl⟩
      have hy : (ten l).getD k 0 = x % 1024 := by unfold ten; rw [getD_mapI _ _ _ hkl, hx]
      have hu : ((ten l).map (· * m)).getD k 0 = x % 1024 * m := by rw [getD_mapI _ _ _ (by rw [ten_len]; exact hkl), hy]
      have hand := i64_and1023 x
      obtain ⟨y, hyy⟩ : ∃ y, y = x % 1024 := ⟨_, rfl⟩
      rw [← hyy] at hy hu hand
      have hy0 : 0 ≤ y := by omega
      have hy1 : y ≤ 1023 := by omega
      obtain ⟨z, hzz⟩ : ∃ z, z = y * m := ⟨_, rfl⟩
      have hz0 : 0 ≤ z := by rw [hzz]; exact Int.mul_nonneg hy0 (by omega)
      have hz1 : z ≤ 261888 := by
        have h1 : y * m ≤ y * 256 := Int.mul_le_mul_of_nonneg_left hm1 hy0
        omega
      have hym : y * m = z := hzz.symm
      rw [hy] at HSN
      rw [hu, hym] at HSU
      rw [← hx] at hc hin1 hin2
      clear hx hy hu hyy hzz
      go_wp2_with (at_builtin; refine wpList_append_beside .i64 rfl _ _ 22 rfl w1.heap.size 2 i0 (.int .i64 0) 8 Try.underlying22 HI.out.1 HI.out.2.1 HI.out.2.2.1 HI.out.2.2.2 rfl _ (HOWN.out.alloc _) _ _ (HOWNU.out.alloc _) HAP.out [y] (rowV_one _ _ _ _) (by rw [HTK.out]; unfold maxLen; simp; omega) (by rw [HTK.out]; simp; omega) (Nat.le_trans HNX.out.size (by simp)) ?_)
      intro v' w2 hown' hownu' hap' hbel
      have HOWN2 := Lib.hid hown'
      have HOWNU2 := Lib.hid hownu'
      have HAP2 := Lib.hid hap'
      have HBEL := Lib.hid ((HNX.out.alloc HNX.out.size _).trans hbel)
      clear hown' hownu' hap' hbel HOWN HOWNU HAP HNX hc
      have hl1 : ((ten l).take k ++ [y]).length = k + 1 := by rw [List.length_append, HTK.out]; rfl
      have HL1 := Lib.hid hl1
      clear hl1
      go_wp2_with (at_builtin; refine wpList_append_beside .i64 rfl _ _ 22 rfl w1.heap.size 2 i0 (.int .i64 0) 8 Try.underlying22 HI.out.1 HI.out.2.1 HI.out.2.2.1 HI.out.2.2.2 rfl _ (HOWNU2.out.alloc _) _ _ (HOWN2.out.alloc _) HAP2.out.symm [z] (rowV_one _ _ _ _) (by rw [HTU.out]; unfold maxLen; simp; omega) (by rw [HTU.out]; simp; omega) (Nat.le_trans HBEL.out.size (by simp)) ?_)
      intro u' w3 hownu' hown' hap' hbel
      have HOWN3 := Lib.hid hown'
      have HOWNU3 := Lib.hid hownu'
      have HAP3 := Lib.hid hap'.symm
      have HBEL3 := Lib.hid ((HBEL.out.alloc HBEL.out.size _).trans hbel)
      clear hown' hownu' hap' hbel HOWN2 HOWNU2 HAP2 HBEL
      go_wp2
      go_roundw
      case rel => exact ⟨k + 1, by omega, by go_num, by rw [← HSN.out]; exact HOWN3.out, by rw [← HSU.out]; exact HOWNU3.out, HAP3.out, HBEL3.out⟩
      case measure => simp [intOf]; omega
    · have hltz : ¬ (k : Int) < (n : Int) := by omega
      have hkn : k = n := by omega
      have hall1 : (ten l).take k = ten l := by rw [hkn, List.take_of_length_le (by rw [ten_len, HN.out]; omega)]
      have hall2 : ((ten l).map (· * m)).take k = (ten l).map (· * m) := by rw [hkn, List.take_of_length_le (by rw [List.length_map, ten_len, HN.out]; omega)]
      rw [hall1] at HOWN
      rw [hall2] at HOWNU
      have BA := Lib.hid (HB1.out.trans (HNX.out.mono HB1.out.size))
      obtain ⟨a7, c7, hv7, hr7⟩ := rowIs_of_rowV HOWN.out.row
      obtain ⟨a8, c8, hv8, hr8⟩ := rowIs_of_rowV HOWNU.out.row
      have hl7 : (ten l).length = n := by rw [ten_len, HN.out]
      have hl8 : ((ten l).map (· * m)).length = n := by rw [List.length_map, hl7]
      rw [hl7] at hv7 hr7
      rw [hl8] at hv8 hr8
      have hs := ten_small l
      have hE := tgE_times hm0 hm1 hs (by omega)
      have R7 := Lib.hid hr7
      have R8 := Lib.hid hr8
      have hin7 : ∀ x ∈ ten l, In64 x := fun x hx => by
        have := hs x hx
        exact ⟨by omega, by omega⟩
      have IN7 := Lib.hid hin7
      have IN8 := Lib.hid (times_in hm0 hm1 hs)
      have HS := Lib.hid hs
      have HE := Lib.hid hE
      have HL7 := Lib.hid hl7
      have HL8 := Lib.hid hl8
      have HKN := Lib.hid hkn
      subst hv7 hv8
      clear hall1 hall2 hr7 hr8 hs hE hin7 hl7 hl8 hkn HOWN HOWNU HAP HNX HB1 HR HZ HI
      by_cases he : tgE (ten l) = 0
      · have he8 := HE.out.trans he
        have HE7 := Lib.hid he
        have HE8 := Lib.hid he8
        clear he he8
        go_wp2_with fail
        refine (by_ok a a7 n c7 (ten l) wr HA.out R7.out IN7.out HE7.out).mono ?_
        rintro e w3 ⟨pb, p, rfl, hpb, hF, hc, hb3⟩
        have HF := Lib.hid hF
        have HC := Lib.hid hc
        have R7b := Lib.hid (R7.out.keep hb3 (Nat.le_refl _))
        have R8b := Lib.hid (R8.out.keep hb3 (Nat.le_refl _))
        have B3 := Lib.hid (BA.out.trans (hb3.mono BA.out.size))
        clear hF hc hb3 hpb R7 R8 BA
        go_wp2_with fail
        refine (by_ok a a8 n c8 ((ten l).map (· * m)) w3 HA.out R8b.out IN8.out HE8.out).mono ?_
        rintro e w4 ⟨pb', p', rfl, hpb', hF', hc', hb4⟩
        have hpp := parts_times hm0 hm1 HS.out (by rw [HL7.out]; exact hn) HE7.out (by rw [HL7.out]; exact HF.out) (by rw [HL7.out]; exact hF')
        rw [hpp] at hc'
        have hpl : (partsOf a (ten l) p).length = n := by rw [parts_len, HL7.out]
        have hnm : n ≤ maxLen := by unfold maxLen; omega
        have R1 := Lib.hid ((rowIs_of_cells hpl hnm HC.out).keep hb4 (Nat.le_refl _))
        have R2 := Lib.hid (rowIs_of_cells hpl hnm hc')
        have R7c := Lib.hid (R7b.out.keep hb4 (Nat.le_refl _))
        have B4 := Lib.hid (B3.out.trans (hb4.mono B3.out.size))
        clear hF' hc' hb4 hpb' hpp hpl hnm HC R7b R8b B3
        go_wp2_with fail
        refine (same_true _ _ n _ _ (partsOf a (ten l) p) _ R1.out R2.out).mono ?_
        rintro e w5 ⟨rfl, q, rfl⟩
        have HP := Lib.hid (fun (i j : Nat) (hj : j < i) (hi : i < n) => like_parts (i := i) (k := j) HE7.out (by rw [HL7.out]; exact HF.out) hj (by rw [HL7.out]; exact hi))
        have HIN := Lib.hid (fun (i : Nat) (hi : i < n) => part_in (i := i) HE7.out HA.out (by rw [HL7.out]; exact HF.out) (by rw [HL7.out]; exact hi))
        clear R2
        obtain ⟨L, hL⟩ : ∃ L, L = partsOf a (ten l) p := ⟨_, rfl⟩
        rw [← hL] at R1 HP HIN
        have R7d : Hid (∀ q, RowIs .i64 (w4.drewN q) a7 n (ten l)) := fun q => R7c.out.drewN q
        have R1d : Hid (∀ q, RowIs .i64 (w4.drewN q) (some ⟨pb, 0, none⟩) n L) := fun q => R1.out.drewN q
        clear hL R7c R1 HF
        go_wp2
        go_loopg [68] n (fun kx v68 wr => ∃ i q : Nat, v68 = .int .i64 (i : Int) ∧ i ≤ n ∧ n - i ≤ kx ∧ Hid (wr = w4.drewN q))
        case atStart => exact ⟨0, q, rfl, Nat.zero_le _, by omega, rfl⟩
        case round =>
          obtain ⟨i, q, rfl, hin, hkx, HW⟩ := hrel
          by_cases hlt : i < n
          · have hltz2 : (i : Int) < (n : Int) := by omega
            go_wp2
            rename World => wo
            go_loopg [72] i (fun kx v72 wx => ∃ j q : Nat, v72 = .int .i64 (j : Int) ∧ j ≤ i ∧ i - j ≤ kx ∧ Hid (wx = w4.drewN q))
            case atStart => exact ⟨0, q, rfl, Nat.zero_le _, by omega, HW⟩
            case round =>
              obtain ⟨j, q, rfl, hji, hkx2, HW2⟩ := hrel
              by_cases hlt2 : j < i
              · have hltz3 : (j : Int) < (i : Int) := by omega
                obtain ⟨g7, o7, hg7, t1⟩ := (R7d.out q).cell i hlt
                obtain ⟨g7', o7', hg7', t2⟩ := (R7d.out q).cell j (by omega)
                have hjn : j < n := by omega
                rw [hg7] at hg7'
                injection hg7' with hg8
                injection hg8 with e1 e2
                subst e1 e2 hg7
                obtain ⟨gp, op, hgp, t3⟩ := (R1d.out q).cell i hlt
                injection hgp with hgp
                injection hgp with e1 e2
                subst e1 e2
                obtain ⟨gp, op, hgp, t4⟩ := (R1d.out q).cell j (by omega)
                injection hgp with hgp
                injection hgp with e1 e2
                subst e1 e2
                rw [Nat.zero_add] at t3 t4
                rw [← HW2.out] at t1 t2 t3 t4
                have hlk := HP.out i j hlt2 hlt
                have hi1 := HIN.out i hlt
                have hi2 := HIN.out j hjn
                obtain ⟨x1, hx1⟩ : ∃ x, x = (ten l).getD i 0 := ⟨_, rfl⟩
                obtain ⟨x2, hx2⟩ : ∃ x, x = (ten l).getD j 0 := ⟨_, rfl⟩
                obtain ⟨y1, hy1⟩ : ∃ x, x = L.getD i 0 := ⟨_, rfl⟩
                obtain ⟨y2, hy2⟩ : ∃ x, x = L.getD j 0 := ⟨_, rfl⟩
                rw [← hx1] at t1 hlk
                rw [← hx2] at t2 hlk
                rw [← hy1] at t3 hlk hi1
                rw [← hy2] at t4 hlk hi2
                clear hx1 hx2 hy1 hy2
                by_cases c1 : x1 = x2
                · have d1 : (x1 == x2) = true := by simpa using c1
                  by_cases c2 : y1 = y2
                  · have d2 : (y1 != y2) = false := by simpa using c2
                    clear hlk hi1 hi2 c1 c2
                    go_wp2_with fail
                    go_big_quiet (fail)
                    clear t1 t2 t3 t4
                    go_wp2
                    go_roundg (i - (j + 1))
                    case measure => omega
                    case rel => exact ⟨j + 1, q + nq, by first | rfl | go_num, by omega, Nat.le_refl _, Lib.hid (by rw [HW2.out, World.drewN_drewN])⟩
                  · have d2 : (y1 != y2) = true := by simpa using c2
                    rcases hlk c1 with h | h
                    · exact absurd h c2
                    · rcases sgn_cases a with ⟨s1, s2⟩ | ⟨s1, s2⟩ | ⟨s1, s2⟩
                      · rw [s2] at h
                        have d3 : decide (0 < a) = false := by simp; omega
                        have d4 : (y1 != y2 + 1) = false := by rw [bne_eq_false_iff_eq]; omega
                        have d5 : -9223372036854775808 ≤ y2 + 1 ∧ y2 + 1 ≤ 9223372036854775807 := by unfold In64 at *; omega
                        clear hlk hi1 hi2 c1 c2 h
                        go_wp2_with fail
                        go_big_quiet (fail)
                        clear t1 t2 t3 t4
                        go_wp2
                        go_roundg (i - (j + 1))
                        case measure => omega
                        case rel => exact ⟨j + 1, q + nq, by first | rfl | go_num, by omega, Nat.le_refl _, Lib.hid (by rw [HW2.out, World.drewN_drewN])⟩
                      · rw [s2] at h; exact absurd (by omega) c2
                      · rw [s2] at h
                        have d3 : decide (a < 0) = false := by simp; omega
                        have d4 : (y1 != y2 - 1) = false := by rw [bne_eq_false_iff_eq]; omega
                        have d5 : -9223372036854775808 ≤ y2 - 1 ∧ y2 - 1 ≤ 9223372036854775807 := by unfold In64 at *; omega
                        clear hlk hi1 hi2 c1 c2 h
                        go_wp2_with fail
                        go_big_quiet (fail)
                        clear t1 t2 t3 t4
                        go_wp2
                        go_roundg (i - (j + 1))
                        case measure => omega
                        case rel => exact ⟨j + 1, q + nq, by first | rfl | go_num, by omega, Nat.le_refl _, Lib.hid (by rw [HW2.out, World.drewN_drewN])⟩
                · have d1 : (x1 == x2) = false := by simpa using c1
                  clear hlk hi1 hi2 c1
                  go_wp2_with fail
                  go_big_quiet (fail)
                  clear t1 t2 t3 t4
                  go_wp2
                  go_roundg (i - (j + 1))
                  case measure => omega
                  case rel => exact ⟨j + 1, q + nq, by first | rfl | go_num, by omega, Nat.le_refl _, Lib.hid (by rw [HW2.out, World.drewN_drewN])⟩
              · have hltz3 : ¬ (j : Int) < (i : Int) := by omega
                go_wp2
                go_roundg (n - (i + 1))
                case measure => omega
                case rel => exact ⟨i + 1, q, by first | rfl | go_num, by omega, Nat.le_refl _, HW2⟩
          · have hltz2 : ¬ (i : Int) < (n : Int) := by omega
            go_wp2
            go_ret
            exact ⟨rfl, by rw [HW.out]; exact below_drewN B4.out q⟩
      · have HE7 := Lib.hid he
        have he8 : tgE ((ten l).map (· * m)) ≠ 0 := by rw [HE.out]; exact he
        have HE8 := Lib.hid he8
        clear he he8
        go_wp2_with fail
        refine (by_bad a a7 n c7 (ten l) wr R7.out IN7.out HE7.out).mono ?_
        rintro e w3 ⟨rfl, rfl⟩
        go_wp2_with fail
        refine (by_bad a a8 n c8 ((ten l).map (· * m)) _ R8.out IN8.out HE8.out).mono ?_
        rintro e w3 ⟨rfl, rfl⟩
        rw [HE.out]
        obtain ⟨E, hE⟩ : ∃ E, E = tgE (ten l) := ⟨_, rfl⟩
        rw [← hE]
        have hEE : (E != E) = false := by simp
        go_wp2_with fail
        refine (same_true _ _ 0 _ _ [] _ (nil_row _) (nil_row _)).mono ?_
        rintro e w5 ⟨rfl, q, rfl⟩
        go_wp2
        go_loopg [68] 0 (fun kx v68 wx => v68 = .int .i64 0 ∧ Hid (wx = wr.drewN q))
        case atStart => exact ⟨rfl, rfl⟩
        case round =>
          obtain ⟨rfl, HW⟩ := hrel
          go_wp2
          go_ret
          exact ⟨rfl, by rw [HW.out]; exact below_drewN BA.out q⟩

set_option maxHeartbeats 400000 in
theorem like_long (a : Int) (ad : Option Addr) (n c : Nat) (b : Int) (w : World) (hn : 200 < n) (hm : n ≤ maxLen) :
    Calls Try.prog 5 #[.int .i64 a, .slice ad n c, .int .u8 b] w fun e w' => e = .returned (.bool true) ∧ RowKit.Below w.heap.size w w' := by
  unfold maxLen at hm
  go_enter Try.func5, Try.ntmps5
  go_wp2_with fail
  refine (alive_any _).mono ?_
  rintro e w1 ⟨rfl, hb1⟩
  have HB1 := Lib.hid hb1
  clear hb1
  go_wp2
  go_ret
  exact ⟨rfl, HB1.out⟩

theorem splitLike_walk (a : Int) (ad : Option Addr) (n c : Nat) (l : List Int) (b : Int) (w : World) (ha : In64 a) (h : RowIs .i16 w ad n l) (hz : ∀ x ∈ l, -32768 ≤ x ∧ x ≤ 32767) (hb : InU8 b) :
    Calls Try.prog 5 #[.int .i64 a, .slice ad n c, .int .u8 b] w fun e w' => e = .returned (.bool true) ∧ RowKit.Below w.heap.size w w' := by
  by_cases hn : 200 < n
  · exact like_long a ad n c b w hn h.max
  · exact like_core a ad n c l b w ha h hz hb (by omega)
end Go.Proofs.Yticcpcejdndplaa
