/- The walks of rate.Parse and rate.Print: at every text of at most 290 bytes, and every rate, they hand back what the plain facts say; memory that was there stays. -/
import Derived.Test.YtikjjbimokajfaaDoorRateBoth
import Derived.Deep.RegionHeld3
import Derived.Lib.ItoaLen
namespace Go.Proofs.YtikjjbimokajfaaDoor
open Go.RowKit

theorem prs_bad {l : List UInt8} (h : bothE (parseE (ahead l)) (parseE (behind l)) ≠ 0) : prsE l = bothE (parseE (ahead l)) (parseE (behind l)) ∧ prsN l = 0 ∧ prsD l = 0 := by
  have e : prsE l = bothE (parseE (ahead l)) (parseE (behind l)) := by
    unfold prsE bothE at *
    split
    · rfl
    · rename_i h5
      rw [if_neg h5] at h
      split
      · rfl
      · rename_i h0
        rw [if_neg h0] at h; exact absurd rfl h
  have e0 : prsE l ≠ 0 := by rw [e]; exact h
  exact ⟨e, if_neg e0, if_neg e0⟩
theorem prs_good {l : List UInt8} (h : bothE (parseE (ahead l)) (parseE (behind l)) = 0) : prsE l = mkE (parseV (ahead l)) (parseV (behind l)) ∧ prsN l = mkN (parseV (ahead l)) (parseV (behind l)) ∧ prsD l = mkD (parseV (ahead l)) (parseV (behind l)) := by
  have h2 : parseE (ahead l) = 0 ∧ parseE (behind l) = 0 := by
    unfold bothE at h
    split at h
    · cases h
    · split at h
      · cases h
      · omega
  exact prs_of rfl h2.1 rfl h2.2

set_option maxHeartbeats 1000000 in
theorem rparse_any (s : ByteArray) (w : World) (hs : s.size ≤ 290) (hL : Laid w) :
    Calls Tryd.prog 21 #[.string s] w fun e w' => e = .returned (.tuple #[.agg #[.int .i64 (prsN s.data.toList), .int .i64 (prsD s.data.toList)], .int .i64 (prsE s.data.toList)]) ∧ Below w.heap.size w w' := by
  obtain ⟨l, hl⟩ : ∃ l, s.data.toList = l := ⟨_, rfl⟩
  have hlen : l.length ≤ 290 := by rw [← hl]; simpa using hs
  have HLA : Hid ((ByteArray.mk (ahead l).toArray).size ≤ 300) := Lib.hid (by have := ahead_length l; simp [ByteArray.size]; omega)
  have HLB : Hid ((ByteArray.mk (behind l).toArray).size ≤ 300) := Lib.hid (by have := behind_length l; simp [ByteArray.size]; omega)
  rw [hl]
  have HS : Hid (s.size ≤ maxLen) := Lib.hid (by unfold maxLen; omega)
  have HE := Lib.hid hl
  have HL := Lib.hid hL
  clear hl hs hL hlen
  by_cases h : bothE (parseE (ahead l)) (parseE (behind l)) = 0
  · obtain ⟨p1, p2, p3⟩ := prs_good h
    rw [p1, p2, p3]
    clear p1 p2 p3
    have I1 := Lib.hid (in64_of_fit (fit_parseV (ahead l)))
    have I2 := Lib.hid (in64_of_fit (fit_parseV (behind l)))
    have H := Lib.hid h
    clear h
    obtain ⟨n, hn⟩ : ∃ n, parseV (ahead l) = n := ⟨_, rfl⟩
    obtain ⟨d, hd⟩ : ∃ d, parseV (behind l) = d := ⟨_, rfl⟩
    rw [hn] at I1 ⊢
    rw [hd] at I2 ⊢
    obtain ⟨x, hx⟩ : ∃ x, mkN n d = x := ⟨_, rfl⟩
    obtain ⟨y, hy⟩ : ∃ y, mkD n d = y := ⟨_, rfl⟩
    obtain ⟨z, hz⟩ : ∃ z, mkE n d = z := ⟨_, rfl⟩
    rw [hx, hy, hz]
    have HND := Lib.hid (And.intro hn hd)
    have HXYZ := Lib.hid (And.intro hx (And.intro hy hz))
    clear hn hd hx hy hz
    go_enter Tryd.func21, Tryd.ntmps21
    go_wp2_with fail
    refine (halves_any s _ HS.out).mono ?_
    rintro e w1 ⟨rfl, hb1⟩
    have HB1 := Lib.hid (((Below.refl w.heap.size w).alloc (Nat.le_refl _) _).trans (hb1.mono (by simp)))
    have V1 := Lib.hid ((RateVar.mk w 0 0 25).keep hb1 (Nat.le_refl _))
    clear hb1
    rw [HE.out]
    go_wp2_with fail
    refine (parseBoth_any _ _ _ HLA.out HLB.out (HL.out.below HB1.out)).mono ?_
    rintro e w2 ⟨rfl, hb2⟩
    have HB2 := Lib.hid (HB1.out.trans (hb2.mono HB1.out.size))
    have V2 := Lib.hid (V1.out.keep hb2 (Nat.le_refl _))
    clear hb2 V1
    rw [show (ByteArray.mk (ahead l).toArray).data.toList = ahead l from rfl, show (ByteArray.mk (behind l).toArray).data.toList = behind l from rfl, H.out, if_pos rfl, if_pos rfl, HND.out.1, HND.out.2]
    go_wp2_with fail
    refine (make_any n d _ I1.out I2.out).mono ?_
    rintro e w3 ⟨rfl, hb3⟩
    have HB3 := Lib.hid ((HB2.out.alloc HB2.out.size _).trans (hb3.mono (Nat.le_trans HB2.out.size (by simp))))
    have V3 := Lib.hid ((V2.out.keep ((Below.refl _ _).alloc (Nat.le_refl _) _) (Nat.le_refl _)).keep hb3 (Nat.le_refl _))
    clear hb3 V2
    rw [HXYZ.out.1, HXYZ.out.2.1, HXYZ.out.2.2]
    obtain ⟨⟨c0, c1⟩, f0, f1⟩ := V3.out
    go_wp2
    exact bodyPost_ret (v := .tuple #[.agg #[.int .i64 x, .int .i64 y], .int .i64 z]) (by simp [results, Tryd.results21, go_sem, c0, c1]) rfl ⟨rfl, (HB3.out.setCell (Nat.le_refl _) _).setCell (Nat.le_refl _) _⟩
  · obtain ⟨p1, p2, p3⟩ := prs_bad h
    rw [p1, p2, p3]
    clear p1 p2 p3
    have H := Lib.hid h
    have h1 : ((bothE (parseE (ahead l)) (parseE (behind l))) != 0) = true := by simpa using h
    have h2 : ((bothE (parseE (ahead l)) (parseE (behind l))) == 0) = false := by simpa using h
    clear h
    obtain ⟨E, hE⟩ : ∃ E, bothE (parseE (ahead l)) (parseE (behind l)) = E := ⟨_, rfl⟩
    rw [hE] at h1 h2 H ⊢
    have HEE := Lib.hid hE
    clear hE
    go_enter Tryd.func21, Tryd.ntmps21
    go_wp2_with fail
    refine (halves_any s _ HS.out).mono ?_
    rintro e w1 ⟨rfl, hb1⟩
    have HB1 := Lib.hid (((Below.refl w.heap.size w).alloc (Nat.le_refl _) _).trans (hb1.mono (by simp)))
    have V1 := Lib.hid ((RateVar.mk w 0 0 25).keep hb1 (Nat.le_refl _))
    clear hb1
    rw [HE.out]
    go_wp2_with fail
    refine (parseBoth_any _ _ _ HLA.out HLB.out (HL.out.below HB1.out)).mono ?_
    rintro e w2 ⟨rfl, hb2⟩
    have HB2 := Lib.hid (HB1.out.trans (hb2.mono HB1.out.size))
    have V2 := Lib.hid (V1.out.keep hb2 (Nat.le_refl _))
    clear hb2 V1
    rw [show (ByteArray.mk (ahead l).toArray).data.toList = ahead l from rfl, show (ByteArray.mk (behind l).toArray).data.toList = behind l from rfl, HEE.out, if_neg H.out, if_neg H.out]
    have V3 := Lib.hid (V2.out.keep ((Below.refl _ _).alloc (Nat.le_refl _) (.cells #[.int .i64 0, .int .i64 0] 60)) (Nat.le_refl _))
    obtain ⟨⟨c0, c1⟩, f0, f1⟩ := V3.out
    go_wp2
    exact bodyPost_ret (v := .tuple #[.agg #[.int .i64 0, .int .i64 0], .int .i64 E]) (by simp [results, Tryd.results21, go_sem, c0, c1]) rfl ⟨rfl, ((HB2.out.alloc HB2.out.size _).setCell (Nat.le_refl _) _).setCell (Nat.le_refl _) _⟩

/-- The program's Print of an amount, where a rate lies aside, and what is below a block stays. -/
theorem print_held (a n d : Int) (u : ByteArray) (w0 w : World) (g : Nat) (hu : Hid (ByteArray.mk (Lib.itoa a).toArray = u)) (ha : In64 a) (k0 : w.cell? ⟨g, 0, none⟩ = some (.int .i64 n)) (k1 : w.cell? ⟨g, 1, none⟩ = some (.int .i64 d)) (kl : Laid w0) (kb : Below w0.heap.size w0 w) :
    Calls Tryd.prog 32 #[.int .i64 a] w fun e w' => e = .returned (.string u) ∧ (w'.cell? ⟨g, 0, none⟩ = some (.int .i64 n) ∧ w'.cell? ⟨g, 1, none⟩ = some (.int .i64 d)) ∧ Below w0.heap.size w0 w' := by
  refine (print_any a w ha (kl.below kb)).mono ?_
  rintro e w' ⟨rfl, hb⟩
  rw [hu.out]
  exact ⟨rfl, ⟨(hb.cell (p := ⟨g, 0, none⟩) (World.block_lt_of_cell? w _ k0)).trans k0, (hb.cell (p := ⟨g, 1, none⟩) (World.block_lt_of_cell? w _ k1)).trans k1⟩, kb.trans (hb.mono kb.size)⟩

set_option maxRecDepth 100000 in
set_option maxHeartbeats 1000000 in
theorem rprint_any (n d : Int) (w : World) (hn : In64 n) (hd : In64 d) (hL : Laid w) :
    Calls Tryd.prog 22 #[.agg #[.int .i64 n, .int .i64 d]] w fun e w' => e = .returned (.string ⟨(prt n d).toArray⟩) ∧ Below w.heap.size w w' := by
  have HN := Lib.hid hn
  have HD := Lib.hid hd
  have HL := Lib.hid hL
  clear hn hd hL
  cases h : rightB n d with
  | false =>
    rw [show prt n d = [] by unfold prt; rw [h]; rfl]
    have H := Lib.hid h
    clear h
    go_enter Tryd.func22, Tryd.ntmps22
    go_wp2_with fail
    refine (right_any n d _ HN.out HD.out).mono ?_
    rintro e w1 ⟨rfl, hb1⟩
    have HB1 := Lib.hid (((Below.refl w.heap.size w).alloc (Nat.le_refl _) _).trans (hb1.mono (by simp)))
    clear hb1
    rw [H.out]
    go_wp2
    go_ret
    exact ⟨rfl, HB1.out⟩
  | true =>
    have H := Lib.hid h
    clear h
    by_cases h1 : d = 1
    · subst h1
      rw [show prt n 1 = Lib.itoa n by unfold prt; rw [H.out]; rfl]
      go_enter Tryd.func22, Tryd.ntmps22
      go_wp2_with fail
      refine (right_any n 1 _ HN.out HD.out).mono ?_
      rintro e w1 ⟨rfl, hb1⟩
      have HB1 := Lib.hid (((Below.refl w.heap.size w).alloc (Nat.le_refl _) _).trans (hb1.mono (by simp)))
      obtain ⟨c0, c1⟩ := (RateAt.mk w n 1 25).keep hb1 (Nat.le_refl _)
      clear hb1
      rw [H.out]
      go_wp2_with fail
      clear c0 c1
      refine (print_any n _ HN.out (HL.out.below HB1.out)).mono ?_
      rintro e w2 ⟨rfl, hb2⟩
      have HB2 := Lib.hid (HB1.out.trans (hb2.mono HB1.out.size))
      clear hb2
      go_wp2
      go_ret
      exact ⟨rfl, HB2.out⟩
    · rw [show prt n d = Lib.itoa n ++ 47 :: Lib.itoa d by unfold prt; rw [H.out, if_pos rfl, if_neg h1]]
      have h2 : (d == 1) = false := by simpa using h1
      clear h1
      obtain ⟨u, hu⟩ : ∃ u, ByteArray.mk (Lib.itoa n).toArray = u := ⟨_, rfl⟩
      obtain ⟨v, hv⟩ : ∃ v, ByteArray.mk (Lib.itoa d).toArray = v := ⟨_, rfl⟩
      have hus : u.size ≤ 21 := by rw [← hu]; have := Lib.itoa_length_le n HN.out.1 HN.out.2; simpa [ByteArray.size] using this
      have hvs : v.size ≤ 21 := by rw [← hv]; have := Lib.itoa_length_le d HD.out.1 HD.out.2; simpa [ByteArray.size] using this
      have huv : (u ++ ⟨#[47]⟩) ++ v = ⟨(Lib.itoa n ++ 47 :: Lib.itoa d).toArray⟩ := by
        rw [← hu, ← hv]
        apply ByteArray.ext
        simp [ByteArray.data_append]
      rw [← huv]
      have q1 : ¬ 9223372036854775807 < u.size + 1 := by omega
      have q2 : ¬ 9223372036854775806 < u.size := by omega
      have q3 : ¬ 9223372036854775807 < u.size + 1 + v.size := by omega
      have HU := Lib.hid hu
      have HV := Lib.hid hv
      clear hu hv huv hus hvs
      go_enter Tryd.func22, Tryd.ntmps22
      go_wp2_with fail
      refine (right_any n d _ HN.out HD.out).mono ?_
      rintro e w1 ⟨rfl, hb1⟩
      have kb := ((Below.refl w.heap.size w).alloc (Nat.le_refl _) _).trans (hb1.mono (by simp))
      obtain ⟨k0, k1⟩ := (RateAt.mk w n d 25).keep hb1 (Nat.le_refl _)
      clear hb1
      rw [H.out]
      go_wp2_with fail
      generalize w.heap.size = g at k0 k1 ⊢
      go_region_held3 (fun w' => (w'.cell? ⟨g, 0, none⟩ = some (.int .i64 n) ∧ w'.cell? ⟨g, 1, none⟩ = some (.int .i64 d)) ∧ Below w.heap.size w w') (first | exact ⟨⟨k0, k1⟩, kb⟩ | exact ⟨⟨k0, k1⟩, kb.drew⟩ | exact ⟨⟨m0, m1⟩, mb⟩ | exact ⟨⟨l0, l1⟩, lb⟩ | fail)
        (first
          | (go_at_call 32; refine (print_held n n d u w _ g HU HN.out (by exact k0) (by exact k1) HL.out (by exact kb.drew)).mono ?_; rintro e w5 ⟨rfl, ⟨l0, l1⟩, lb⟩)
          | (go_at_call 32; refine (print_held d n d v w _ g HV HD.out (by exact l0) (by exact l1) HL.out (by exact lb)).mono ?_; rintro e w6 ⟨rfl, ⟨m0, m1⟩, mb⟩)
          | fail)
      go_wp2
      go_ret
      exact ⟨rfl, mb⟩
end Go.Proofs.YtikjjbimokajfaaDoor
