
/- The walk of the document's Of: what comes of the groups, or the first error. -/
import Derived.Test.YtimeebildbmhaaaFdGet
import Derived.Test.YtimeebildbmhaaaFdPick
import Derived.Test.YtimeebildbmhaaaFaOf
import Derived.Test.YtimeebildbmhaaaCentSum
namespace Go.Proofs.Ytimeebildbmhaaa.Fa
open Go.RowKit

theorem grps_at {l : List Fact} {i : Nat} {k : Key} (h : (keysL l)[i]? = some k) : (grps l)[i]? = some (k, amts l k) := by
  unfold grps; rw [List.getElem?_map, h]; rfl
theorem amts_yes {l : List Fact} {j : Nat} {x : Fact} {k : Key} (hx : l[j]? = some x) (h : x.key = k) : amts (l.take (j + 1)) k = amts (l.take j) k ++ [x.amt] := by
  unfold amts
  rw [List.take_add_one, hx]
  simp [h]
theorem amts_no {l : List Fact} {j : Nat} {x : Fact} {k : Key} (hx : l[j]? = some x) (h : x.key ≠ k) : amts (l.take (j + 1)) k = amts (l.take j) k := by
  unfold amts
  rw [List.take_add_one, hx]
  simp [h]
theorem amts_len (l : List Fact) (j : Nat) (k : Key) : (amts (l.take j) k).length ≤ j := Nat.le_trans (amts_length _ _) (by rw [List.length_take]; exact Nat.min_le_left _ _)
theorem el_newI (w : World) (y : Int) (t : TypeId) : ElAt encI (w.alloc (.cells #[.int .i64 y] t)) w.heap.size 0 y := el_new encI w y t
set_option maxRecDepth 100000 in
set_option maxHeartbeats 8000000 in
theorem rof_any (v : Value) (l : List Fact) (w : World) (h : FactsV w v l) (hz : ∀ f ∈ l, In64 f.amt) (hL : l.length ≤ 1000) :
    Calls Try.prog 14 #[v] w (CubeTold w (ofL l)) := by
  have HK := Lib.hid (rkeys_any v l w h hL)
  have HV := Lib.hid h
  obtain ⟨p, cp, rfl, hcap, hmx, _, _⟩ := h
  obtain ⟨n, hn⟩ : ∃ n, l.length = n := ⟨_, rfl⟩
  have HKL := Lib.hid (keys_length l)
  rw [hn] at hcap hL HV HK HKL ⊢
  have HN := Lib.hid hn
  have HZ := Lib.hid (grps_in64 hz)
  obtain ⟨R, hR⟩ : ∃ R, ofL l = R := ⟨_, rfl⟩
  rw [hR]
  have HR := Lib.hid (show runG (grps l) = R from hR)
  unfold maxLen at hmx
  clear hn hz hR
  go_enter Try.func14, Try.ntmps14
  go_wp2_with (go_at_call 32; refine HK.out.mono ?_; rintro e w1 ⟨vk, rfl, hok, hb1⟩)
  have HB1 := Lib.hid hb1
  have HE := Lib.hid (els_of_own (E := encK) hok)
  obtain ⟨pk, ck, rfl, _, _, _, _⟩ := id HE.out
  obtain ⟨nk, hnk⟩ : ∃ nk, (keysL l).length = nk := ⟨_, rfl⟩
  rw [hnk] at HE HKL ⊢
  have HNK := Lib.hid hnk
  have hKL := HKL.out
  have HSZ1 := Lib.hid hb1.size
  clear hok hb1 hnk HK
  go_wp2
  go_loopw [5, 6] (fun s5 s6 wr => ∃ i : Nat, s6 = .int .i64 (i : Int) ∧ i ≤ nk ∧ Hid (okG ((grps l).take i)) ∧ Hid (wr.ownsRow w1.heap.size 28 6 s5 (accG ((grps l).take i)).length (flat encF (accG ((grps l).take i)))) ∧ Hid (Below w1.heap.size w1 wr)) (fun _ s6 _ => nk - (intOf s6).toNat)
  case atStart => exact ⟨0, rfl, Nat.zero_le _, Lib.hid (fun g hg => by simp at hg), World.ownsRow_nil _ _ _ _, Lib.hid (Below.refl _ _)⟩
  case round =>
    obtain ⟨i, rfl, hin, HG, HO, HB⟩ := hrel
    rename World => wa
    by_cases hlt : i < nk
    · obtain ⟨k, hk⟩ : ∃ k, (keysL l)[i]? = some k := ⟨_, List.getElem?_eq_getElem (by rw [HNK.out]; exact hlt)⟩
      obtain ⟨b2, o2, rfl, hat2⟩ := ElsV.at_ HE.out hk
      have HAK := Lib.hid (hat2.keep HB.out hat2.lt)
      have HGA := Lib.hid (grps_at hk)
      clear hk hat2
      go_wp2
      go_loopw [7, 8] (fun s7 s8 wr => ∃ j : Nat, s8 = .int .i64 (j : Int) ∧ j ≤ n ∧ Hid (wr.ownsRow wa.heap.size 2 1 s7 (amts (l.take j) k).length (flat encI (amts (l.take j) k))) ∧ Hid (Below wa.heap.size wa wr)) (fun _ s8 _ => n - (intOf s8).toNat)
      case atStart => exact ⟨0, rfl, Nat.zero_le _, World.ownsRow_nil _ _ _ _, Lib.hid (Below.refl _ _)⟩
      case round =>
        obtain ⟨j, rfl, hj, HO2, HB2⟩ := hrel
        by_cases hlt2 : j < n
        · obtain ⟨x, hx⟩ : ∃ x, l[j]? = some x := ⟨_, List.getElem?_eq_getElem (by rw [HN.out]; exact hlt2)⟩
          obtain ⟨b, o, rfl, hat⟩ := ElsV.at_ HV.out hx
          have HX := Lib.hid hx
          have HAT := Lib.hid (hat.keep HB1.out hat.lt)
          have HAT1 := Lib.hid (HAT.out.keep HB.out HAT.out.lt)
          obtain ⟨r0, r1, r2, r3, r4, r5⟩ := fact6 (HAT1.out.keep HB2.out HAT1.out.lt)
          obtain ⟨s0, s1, s2, s3, s4⟩ := key5 (HAK.out.keep HB2.out HAK.out.lt)
          simp only [show encF.k = 6 from rfl, show encK.k = 5 from rfl] at r0 r1 r2 r3 r4 r5 s0 s1 s2 s3 s4
          have gk := guard_rkey
          have hq := eql_rkey x.key k
          clear hx hat
          cases he : eqK x.key k with
          | true =>
            have hxk : x.key = k := of_decide_eq_true he
            have HA := Lib.hid (amts_yes HX.out hxk)
            have HLI := Lib.hid (amts_len l j k)
            rw [he] at hq
            clear he hxk
            go_wp2_with fail
            go_big_quiet (fail)
            have HB3 := Lib.hid (belowN HB2.out nq)
            have HO3 := Lib.hid (row_below HO2.out (belowN (Below.refl wr.heap.size wr) nq))
            clear hq gk r0 r1 r2 r3 r4 r5 s0 s1 s2 s3 s4 HO2
            obtain ⟨W3, hW3⟩ : ∃ W3, wr.drewN nq = W3 := ⟨_, rfl⟩
            rw [hW3] at HB3 HO3 ⊢
            clear hW3
            have HSZ3 := Lib.hid HB3.out.size
            obtain ⟨r0, r1, r2, r3, r4, r5⟩ := fact6 (HAT1.out.keep HB3.out HAT1.out.lt)
            simp only [show encF.k = 6 from rfl] at r0 r1 r2 r3 r4 r5
            go_wp2_with (at_builtin; refine wpList_append_el (E := encI) rfl _ _ 66 2 rfl infoI wa.heap.size (amts (l.take j) k) x.amt W3.heap.size (HO3.out.alloc _) rfl (el_newI _ _ _) (by have := HSZ3.out; simp; omega) (by have := HLI.out; omega) ?_; intro v9 w9 hr9 hb9 hg9)
            have HR9 := Lib.hid hr9
            have HB9 : Hid (Below wa.heap.size wa w9) := Lib.hid ((HB3.out.alloc HSZ3.out _).trans hb9)
            clear hr9 hb9 hg9 r0 r1 r2 r3 r4 r5
            go_wp2
            go_roundw
            case rel => exact ⟨j + 1, by go_num, by omega, by rw [HA.out]; exact HR9, HB9⟩
            case measure => simp [intOf]; omega
          | false =>
            have hxk : x.key ≠ k := of_decide_eq_false he
            have HA := Lib.hid (amts_no HX.out hxk)
            rw [he] at hq
            clear he hxk
            go_wp2_with fail
            go_big_quiet (fail)
            have HB3 := Lib.hid (belowN HB2.out nq)
            have HO3 := Lib.hid (row_below HO2.out (belowN (Below.refl wr.heap.size wr) nq))
            clear hq gk r0 r1 r2 r3 r4 r5 s0 s1 s2 s3 s4
            go_wp2
            go_roundw
            case rel => exact ⟨j + 1, by go_num, by omega, by rw [HA.out]; exact HO3, HB3⟩
            case measure => simp [intOf]; omega
        · have hTA : l.take j = l := List.take_of_length_le (by rw [HN.out]; omega)
          rw [hTA] at HO2
          clear hTA
          have HTK : Hid ((grps l).take (i + 1) = (grps l).take i ++ [(k, amts l k)]) := Lib.hid (by rw [List.take_add_one, HGA.out]; rfl)
          have HSP : Hid (grps l = (grps l).take i ++ (k, amts l k) :: (grps l).drop (i + 1)) := Lib.hid (by
            rw [← drop_at HGA.out, List.take_append_drop])
          have hI : ∀ y ∈ amts l k, In64 y := HZ.out _ (List.mem_of_getElem? HGA.out)
          obtain ⟨A, hA⟩ : ∃ A, amts l k = A := ⟨_, rfl⟩
          rw [hA] at HO2 HTK HSP hI
          clear hA
          have hv := els_of_own (E := encI) HO2.out
          obtain ⟨p9, c9, rfl, _⟩ := id hv
          have HSM := Lib.hid (rsum_any p9 _ c9 A wr (rowIs_els hv) hI)
          obtain ⟨S, hS⟩ : ∃ S, sumFrom 0 A = S := ⟨_, rfl⟩
          obtain ⟨sv, se⟩ := S
          rw [hS] at HSM
          have HS := Lib.hid hS
          have HBB := Lib.hid (HB.out.trans (HB2.out.mono HB.out.size))
          have HOO := Lib.hid (row_below HO.out (HB2.out.mono (Nat.le_refl _)))
          have HSZ2 := Lib.hid HB2.out.size
          have HSZa := Lib.hid HB.out.size
          clear hv hS hI HO2
          by_cases he : se = 0
          · subst he
            have HG1 := Lib.hid (ok_snoc (g := (k, A)) HG.out (by rw [HS.out]))
            by_cases h0 : sv = 0
            · subst h0
              have HAC : Hid (accG ((grps l).take (i + 1)) = accG ((grps l).take i)) := Lib.hid (by rw [HTK.out, acc_snoc, HS.out]; simp [putF])
              go_wp2_with (go_at_call 33; refine HSM.out.mono ?_; rintro e' w' ⟨rfl, rfl⟩)
              go_roundw
              case rel => exact ⟨i + 1, by go_num, by omega, by rw [HTK.out]; exact HG1, by rw [HAC.out]; exact HOO, HBB⟩
              case measure => simp [intOf]; omega
            · have hne : (sv != 0) = true := by rw [bne_iff_ne]; exact h0
              have HAC : Hid (accG ((grps l).take (i + 1)) = accG ((grps l).take i) ++ [⟨k, sv⟩]) := Lib.hid (by rw [HTK.out, acc_snoc, HS.out]; simp [putF, h0])
              have HLA : Hid ((accG ((grps l).take i)).length ≤ 1000) := Lib.hid (by
                have e1 := acc_length ((grps l).take i)
                rw [List.length_take] at e1
                have e2 := grps_length l
                rw [HN.out] at e2
                omega)
              obtain ⟨s0, s1, s2, s3, s4⟩ := key5 (HAK.out.keep HB2.out HAK.out.lt)
              simp only [show encK.k = 5 from rfl] at s0 s1 s2 s3 s4
              clear h0
              go_wp2_with (first | (go_at_call 33; refine HSM.out.mono ?_; rintro e' w' ⟨rfl, rfl⟩) | (at_builtin; refine wpList_append_el (E := encF) rfl _ _ 22 28 rfl infoR w1.heap.size (accG ((grps l).take i)) ⟨k, sv⟩ wr.heap.size (HOO.out.alloc _) rfl (el_newF wr ⟨k, sv⟩ _) (by have := HSZ2.out; have := HSZa.out; simp; omega) (by have := HLA.out; omega) ?_; intro v9 w9 hr9 hb9 hg9) | fail)
              have HR9 := Lib.hid hr9
              have HB9 : Hid (Below w1.heap.size w1 w9) := Lib.hid ((HBB.out.alloc HBB.out.size _).trans hb9)
              clear hr9 hb9 hg9 s0 s1 s2 s3 s4
              go_wp2
              go_roundw
              case rel => exact ⟨i + 1, by go_num, by omega, by rw [HTK.out]; exact HG1, by rw [HAC.out]; exact HR9, HB9⟩
              case measure => simp [intOf]; omega
          · have hne : (se != 0) = true := by rw [bne_iff_ne]; exact he
            have HRR : Hid (R = ([], se)) := Lib.hid (by
              rw [← HR.out, HSP.out, run_err _ _ (k, A) HG.out (by rw [HS.out]; exact he), HS.out])
            clear he
            go_wp2_with (go_at_call 33; refine HSM.out.mono ?_; rintro e' w' ⟨rfl, rfl⟩)
            go_ret2
            refine ⟨_, by rw [HRR.out]; rfl, by rw [HRR.out]; exact ElsV.nil _, HB1.out.trans (HBB.out.mono HB1.out.size)⟩
    · have hTA : (grps l).take i = grps l := List.take_of_length_le (by
        have : (grps l).length = nk := by unfold grps; rw [List.length_map, HNK.out]
        omega)
      rw [hTA] at HO HG
      have HRR : Hid (R = (accG (grps l), 0)) := Lib.hid (by rw [← HR.out, run_end _ HG.out])
      obtain ⟨A, hA⟩ : ∃ A, accG (grps l) = A := ⟨_, rfl⟩
      have hAL : A.length ≤ 1000 := by
        rw [← hA]
        have e1 := acc_length (grps l)
        have e2 := grps_length l
        rw [HN.out] at e2
        omega
      rw [hA] at HO HRR
      have hv := els_of_own (E := encF) HO.out
      obtain ⟨p9, c9, rfl, _⟩ := id hv
      obtain ⟨m, hm⟩ : ∃ m, A.length = m := ⟨_, rfl⟩
      rw [hm] at hv hAL ⊢
      have HV9 := Lib.hid hv
      have h2 : ¬ (2000 : Int) < (m : Int) := by omega
      clear hv hm hA hTA HO
      go_wp2
      go_ret2
      exact ⟨_, by rw [HRR.out]; rfl, by rw [HRR.out]; exact HV9.out, HB1.out.trans (HB.out.mono HB1.out.size)⟩
end Go.Proofs.Ytimeebildbmhaaa.Fa
