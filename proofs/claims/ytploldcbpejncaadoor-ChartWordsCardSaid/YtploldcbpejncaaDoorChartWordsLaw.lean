
/- The walk of ChartWords: it returns true. -/
import Derived.Test.YtploldcbpejncaaDoorChartMarks
import Derived.Test.YtploldcbpejncaaDoorChartDocParse
namespace Go.Proofs.YtploldcbpejncaaDoor
open Go.RowKit

/-- What ChartWords' last statement reads. -/
structure WordsAt (w W : World) (g2 g5 g7 : Nat) (a x : Acct) : Prop where
  b2 : BoxA W g2 23 a
  b5 : BoxA W g5 28 x
  b7 : BoxA W g7 23 x
  bel : Below w.heap.size w W
theorem WordsAt.keep {w W W' : World} {g2 g5 g7 : Nat} {a x : Acct} (h : WordsAt w W g2 g5 g7 a x) (hb : Below W.heap.size W W') : WordsAt w W' g2 g5 g7 a x :=
  ⟨h.b2.keep hb (Array.getElem?_eq_some_iff.1 h.b2).1, h.b5.keep hb (Array.getElem?_eq_some_iff.1 h.b5).1, h.b7.keep hb (Array.getElem?_eq_some_iff.1 h.b7).1, h.bel.trans (hb.mono h.bel.size)⟩
theorem WordsAt.drew {w W : World} {g2 g5 g7 : Nat} {a x : Acct} (h : WordsAt w W g2 g5 g7 a x) : WordsAt w W.drew g2 g5 g7 a x := h.keep ⟨rfl, rfl, rfl, Nat.le_refl _, fun _ _ => rfl⟩
theorem WordsAt.drewN {w W : World} {g2 g5 g7 : Nat} {a x : Acct} (h : WordsAt w W g2 g5 g7 a x) (q : Nat) : WordsAt w (W.drewN q) g2 g5 g7 a x := h.keep (below_drewN (Below.refl _ _) q)
theorem WordsAt.three {w W : World} {g2 g5 g7 : Nat} {a x : Acct} (h : WordsAt w W g2 g5 g7 a x) : (W.cell? ⟨g2, 0, none⟩ = some (.string a.code) ∧ W.cell? ⟨g2, 1, none⟩ = some (.int .i64 a.cls) ∧ W.cell? ⟨g2, 2, none⟩ = some (.bool a.cash) ∧ W.cell? ⟨g2, 3, none⟩ = some (.bool a.both) ∧ W.cell? ⟨g2, 4, none⟩ = some (.string a.fixed) ∧ W.cell? ⟨g2, 5, none⟩ = some (.bool a.worn)) ∧ (W.cell? ⟨g5, 0, none⟩ = some (.string x.code) ∧ W.cell? ⟨g5, 1, none⟩ = some (.int .i64 x.cls) ∧ W.cell? ⟨g5, 2, none⟩ = some (.bool x.cash) ∧ W.cell? ⟨g5, 3, none⟩ = some (.bool x.both) ∧ W.cell? ⟨g5, 4, none⟩ = some (.string x.fixed) ∧ W.cell? ⟨g5, 5, none⟩ = some (.bool x.worn)) ∧ (W.cell? ⟨g7, 0, none⟩ = some (.string x.code) ∧ W.cell? ⟨g7, 1, none⟩ = some (.int .i64 x.cls) ∧ W.cell? ⟨g7, 2, none⟩ = some (.bool x.cash) ∧ W.cell? ⟨g7, 3, none⟩ = some (.bool x.both) ∧ W.cell? ⟨g7, 4, none⟩ = some (.string x.fixed) ∧ W.cell? ⟨g7, 5, none⟩ = some (.bool x.worn)) := ⟨h.b2.facts, h.b5.facts, h.b7.facts⟩
theorem sameWs {v u : Value} {ws : List ByteArray} {W : World} (h : StrsV W v ws) (h' : StrsV W u ws) : Calls Tryd.prog 14 #[v, u] W fun e w' => e = .returned (.bool true) ∧ ∃ q, w' = W.drewN q := by
  have := sameWords_any v u ws ws W h h'
  rwa [show sameW ws ws = true from decide_eq_true rfl] at this
set_option maxRecDepth 100000 in
set_option maxHeartbeats 8000000 in
theorem chartWords_walk (a : Acct) (v : Value) (ws : List ByteArray) (w : World) (h : StrsV w v ws) (hL : Laid w) : Calls Tryd.prog 3 #[aggF a, v] w fun e w' => e = .returned (.bool true) ∧ Below w.heap.size w w' := by
  have HB0 := Lib.hid ((Below.refl w.heap.size w).alloc (Nat.le_refl _) (cells23' a))
  have HX0 := Lib.hid (BoxA.new w a 23)
  have HL0 := Lib.hid (hL.below HB0.out (Nat.le_refl _))
  have HV0 := Lib.hid (h.keep HB0.out)
  obtain ⟨p, c, rfl, hcap, hm, _⟩ := h
  obtain ⟨n, hn⟩ : ∃ n, ws.length = n := ⟨_, rfl⟩
  rw [hn] at hcap hm HV0 ⊢
  unfold maxLen at hm
  clear hL hn
  obtain ⟨F, hF⟩ : ∃ F, fewA [a] = F := ⟨_, rfl⟩
  have HFW := Lib.hid (few_one a)
  rw [hF] at HFW
  clear hF
  go_enter Tryd.func3, Tryd.ntmps3
  go_wp2_with fail
  refine (alive_any _ HL0.out).mono ?_
  rintro e w1 ⟨rfl, hb1⟩
  have HB1 := Lib.hid (HB0.out.trans (hb1.mono HB0.out.size))
  have HX1 := Lib.hid (HX0.out.keep hb1 (by simp))
  have HL1 := Lib.hid (HL0.out.below hb1 (Nat.le_refl _))
  have HV1 := Lib.hid (HV0.out.keep hb1)
  have hs1 : w.heap.size < w1.heap.size := by have := hb1.size; simp at this; omega
  clear hb1 HB0 HX0 HL0 HV0
  obtain ⟨c0, c1, c2, c3, c4, c5⟩ := HX1.out.facts
  go_wp2_with fail
  clear c0 c1 c2 c3 c4 c5
  refine (HFW.out w1 _).mono ?_
  rintro e w2 ⟨rfl, hb2⟩
  have hb2' : Below w1.heap.size w1 w2 := ((Below.refl w1.heap.size w1).alloc (Nat.le_refl _) _).trans (hb2.mono (Nat.le_succ _))
  have HB2 := Lib.hid (HB1.out.trans (hb2'.mono HB1.out.size))
  have HX2 := Lib.hid (HX1.out.keep hb2' hs1)
  have HL2 := Lib.hid (HL1.out.below hb2' (Nat.le_refl _))
  have HV2 := Lib.hid (HV1.out.keep hb2')
  have hs2 : w.heap.size < w2.heap.size := Nat.lt_of_lt_of_le hs1 hb2'.size
  clear hb2 hb2' HB1 HX1 HL1 HV1
  cases F with
  | false =>
    go_wp2
    go_ret
    exact ⟨rfl, HB2.out⟩
  | true =>
    by_cases h70 : 70 < n
    · go_wp2
      go_ret
      exact ⟨rfl, HB2.out⟩
    · obtain ⟨R, hR⟩ : ∃ R, parseA ws = R := ⟨_, rfl⟩
      have HPA := Lib.hid (fun W => parse_any (.slice p n c) ws W)
      have HPB := Lib.hid (fun W => rparse_any (.slice p n c) ws W)
      rw [hR] at HPA HPB
      obtain ⟨x, E⟩ := R
      simp only at HPA HPB
      clear hR
      go_wp2_with fail
      refine (HPA.out _ HV2.out HL2.out).mono ?_
      rintro e w3 ⟨rfl, hb3⟩
      have hb4 := hb3.alloc hb3.size (.cells (cellsA x) 28)
      have HB4 := Lib.hid (HB2.out.trans (hb4.mono HB2.out.size))
      have HX4 := Lib.hid (HX2.out.keep hb4 hs2)
      have HY4 := Lib.hid (BoxA.new w3 x 28)
      have HL4 := Lib.hid (HL2.out.below hb4 (Nat.le_refl _))
      have HV4 := Lib.hid (HV2.out.keep hb4)
      have hs4 : w.heap.size < w3.heap.size := Nat.lt_of_lt_of_le hs2 hb3.size
      clear hb3 hb4
      go_wp2_with fail
      refine (HPB.out _ HV4.out).mono ?_
      rintro e w5 ⟨rfl, hb5⟩
      have hb6 := hb5.alloc hb5.size (cells23' x)
      have HAL : Hid (WordsAt w (w5.alloc (cells23' x)) w.heap.size w3.heap.size w5.heap.size a x) := Lib.hid ⟨HX4.out.keep hb6 (by simp; omega), HY4.out.keep hb6 (by simp), BoxA.new w5 x 23, HB4.out.trans (hb6.mono HB4.out.size)⟩
      have HL6 := Lib.hid (HL4.out.below hb6 (Nat.le_refl _))
      clear hb5 hb6 HX4 HY4 HL4 HV4 HB4 HX2 HL2 HV2 HPA HPB HFW
      obtain ⟨Wr, hWr⟩ : ∃ Wr, w5.alloc (cells23' x) = Wr := ⟨_, rfl⟩
      rw [hWr] at HAL HL6
      have hgd := guard_ref
      have q1 : ∀ w', Sem.run Tryd.prog (binOp .eql 23 (.agg #[.string x.code, .int .i64 x.cls, .bool x.cash, .bool x.both, .string x.fixed, .bool x.worn]) (.agg #[.string x.code, .int .i64 x.cls, .bool x.cash, .bool x.both, .string x.fixed, .bool x.worn])) w' = .ok (.bool true) w' := fun w' => by
        have := eql_ref x x w'
        rwa [show eqA x x = true from (eqA_iff _ _).2 rfl] at this
      obtain ⟨r, hr⟩ : ∃ r, rightA a = r := ⟨_, rfl⟩
      have HRT := Lib.hid (right_any a)
      have HRD := Lib.hid (rright_any a)
      rw [hr] at HRT HRD
      obtain ⟨us, hus⟩ : ∃ us, wordsA a = us := ⟨_, rfl⟩
      have HWT := Lib.hid (words_any a)
      have HWD := Lib.hid (rwords_any a)
      rw [hus] at HWT HWD
      clear hr hus
      have hrr : (r == r) = true := by simp
      have hee : (E == E) = true := by simp
      go_wp2_with fail
      have HWR := Lib.hid hWr
      clear hWr
      have k0 := HAL.out.three
      have k1 := HAL.out.drew.three
      go_region_held3 (fun w' => (w'.cell? ⟨w.heap.size, 0, none⟩ = some (.string a.code) ∧ w'.cell? ⟨w.heap.size, 1, none⟩ = some (.int .i64 a.cls) ∧ w'.cell? ⟨w.heap.size, 2, none⟩ = some (.bool a.cash) ∧ w'.cell? ⟨w.heap.size, 3, none⟩ = some (.bool a.both) ∧ w'.cell? ⟨w.heap.size, 4, none⟩ = some (.string a.fixed) ∧ w'.cell? ⟨w.heap.size, 5, none⟩ = some (.bool a.worn)) ∧ (w'.cell? ⟨w3.heap.size, 0, none⟩ = some (.string x.code) ∧ w'.cell? ⟨w3.heap.size, 1, none⟩ = some (.int .i64 x.cls) ∧ w'.cell? ⟨w3.heap.size, 2, none⟩ = some (.bool x.cash) ∧ w'.cell? ⟨w3.heap.size, 3, none⟩ = some (.bool x.both) ∧ w'.cell? ⟨w3.heap.size, 4, none⟩ = some (.string x.fixed) ∧ w'.cell? ⟨w3.heap.size, 5, none⟩ = some (.bool x.worn)) ∧ (w'.cell? ⟨w5.heap.size, 0, none⟩ = some (.string x.code) ∧ w'.cell? ⟨w5.heap.size, 1, none⟩ = some (.int .i64 x.cls) ∧ w'.cell? ⟨w5.heap.size, 2, none⟩ = some (.bool x.cash) ∧ w'.cell? ⟨w5.heap.size, 3, none⟩ = some (.bool x.both) ∧ w'.cell? ⟨w5.heap.size, 4, none⟩ = some (.string x.fixed) ∧ w'.cell? ⟨w5.heap.size, 5, none⟩ = some (.bool x.worn)))
        (first | (with_reducible exact k0) | (with_reducible exact k1) | (with_reducible exact m1) | (with_reducible exact m2) | (with_reducible exact m3) | (with_reducible exact m4) | (with_reducible exact m5) | fail)
        (first
          | (go_at_call 12; refine (HRT.out Wr.drew).mono ?_; rintro e w7 ⟨rfl, hb7⟩; have M1 := Lib.hid (HAL.out.drew.keep hb7); have m1 := M1.out.three; have L1 := Lib.hid ((Laid.below (w := Wr.drew) ⟨HL6.out.g0, HL6.out.g1, HL6.out.g2⟩ hb7 (Nat.le_refl _))))
          | (go_at_call 13; refine (HRD.out w7).mono ?_; rintro e w8 ⟨rfl, hb8⟩; have M2 := Lib.hid (M1.out.keep hb8); have m2 := M2.out.three; have L2 := Lib.hid (L1.out.below hb8 (Nat.le_refl _)))
          | (go_at_call 15; refine (HWT.out w8 L2.out).mono ?_; rintro e w9 ⟨v9, rfl, hs9, hb9⟩; have M3 := Lib.hid (M2.out.keep hb9); have m3 := M3.out.three; have S3 := Lib.hid hs9)
          | (go_at_call 16; refine (HWD.out w9).mono ?_; rintro e w10 ⟨v10, rfl, hs10, hb10⟩; have M4 := Lib.hid (M3.out.keep hb10); have m4 := M4.out.three; have S4 := Lib.hid (S3.out.keep hb10); have T4 := Lib.hid hs10)
          | (go_at_call 14; refine (sameWs S4.out T4.out).mono ?_; rintro e w' ⟨rfl, q, rfl⟩; have M5 := Lib.hid (M4.out.drewN q); have m5 := M5.out.three)
          | fail)
      all_goals
        go_wp2
        go_ret
        exact ⟨ret_true (by simp), M5.out.bel⟩
end Go.Proofs.YtploldcbpejncaaDoor
