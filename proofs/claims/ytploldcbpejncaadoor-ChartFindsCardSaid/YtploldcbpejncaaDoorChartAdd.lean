
/- The walk of chart.Add: what the plain facts say, in new memory; what was there stays. -/
import Derived.Test.YtploldcbpejncaaDoorChartInsert
import Derived.Test.YtploldcbpejncaaDoorChartBelow
import Derived.Test.YtploldcbpejncaaDoorChartRight2
import Derived.Deep.RegionHeld3
namespace Go.Proofs.YtploldcbpejncaaDoor
open Go.RowKit

/-- What Add tells. -/
def AddTold (w : World) (M : List Acct) (n : Int) (e : Ending) (w' : World) : Prop := ∃ v, e = .returned (.tuple #[v, .int .i64 n]) ∧ ChartV w' v M ∧ Below w.heap.size w w'
abbrev cellsA (a : Acct) : Array Value := #[.string a.code, .int .i64 a.cls, .bool a.cash, .bool a.both, .string a.fixed, .bool a.worn]
theorem below_undrawn {B : Nat} {w w' : World} (h : Below B w.drew w') : Below B w w' := ⟨h.os, h.tape, h.output, h.size, h.block⟩
theorem ret_pair {v : Value} {a b : Int} (h : a = b) : Ending.returned (.tuple #[v, .int .i64 a]) = .returned (.tuple #[v, .int .i64 b]) := by rw [h]
theorem ins_late {w5 : World} {v : Value} {L : List Acct} {a : Acct} {i B : Nat} (h : w5.ownsRow B 28 6 v L.length (flatA L)) (hB : B ≤ w5.heap.size) (hi : i ≤ L.length) (hL : L.length ≤ 1000) :
    Calls Tryd.prog 30 #[v, .int .i64 (i : Int), .slice (some ⟨w5.heap.size, 0, none⟩) 1 1] (w5.alloc (.cells (cellsA a) 28)) (InsTold (w5.alloc (.cells (cellsA a) 28)) B (L.take i ++ a :: L.drop i)) :=
  insert_any v L a i w5.heap.size B _ (h.alloc _) (by simp; omega) (BoxA.new w5 a _) (fun e => by have := (h.lt _ e).2; omega) hi hL
theorem ins_early {W w6 : World} {v : Value} {L : List Acct} {a : Acct} {i B : Nat} (h : W.ownsRow B 28 6 v L.length (flatA L)) (hB : B ≤ W.heap.size) (hb : Below (W.alloc (.cells (cellsA a) 28)).drew.heap.size (W.alloc (.cells (cellsA a) 28)).drew w6) (hi : i ≤ L.length) (hL : L.length ≤ 1000) :
    Calls Tryd.prog 30 #[v, .int .i64 (i : Int), .slice (some ⟨W.heap.size, 0, none⟩) 1 1] w6 (InsTold w6 B (L.take i ++ a :: L.drop i)) := by
  have h1 : (W.alloc (.cells (cellsA a) 28)).drew.ownsRow B 28 6 v L.length (flatA L) := h.alloc _
  have h2 := row_below h1 hb
  have hs := hb.size
  have hz : (W.alloc (.cells (cellsA a) 28)).drew.heap.size = W.heap.size + 1 := by show (W.alloc _).heap.size = _; simp
  exact insert_any v L a i W.heap.size B w6 h2 (by omega) (BoxA.keep (w := (W.alloc (.cells (cellsA a) 28)).drew) (BoxA.new W a _) hb (by omega)) (fun e => by have := (h.lt _ e).2; omega) hi hL
set_option maxRecDepth 100000 in
set_option maxHeartbeats 8000000 in
theorem add_any (v : Value) (L : List Acct) (a : Acct) (w : World) (h : ChartV w v L) (hL : L.length ≤ 1000) :
    Calls Tryd.prog 17 #[v, aggF a] w (AddTold w (addV L a) (addE L a)) := by
  obtain ⟨E, hE⟩ : ∃ E, addE L a = E := ⟨_, rfl⟩
  obtain ⟨M, hM⟩ : ∃ M, addV L a = M := ⟨_, rfl⟩
  rw [hE, hM]
  have HE := Lib.hid hE
  have HMV := Lib.hid hM
  clear hE hM
  have HB0 := Lib.hid ((Below.refl w.heap.size w).alloc (Nat.le_refl _) (.cells (cellsA a) 28))
  have HX0 := Lib.hid (BoxA.new w a 28)
  have HV0 := Lib.hid (h.keep HB0.out)
  have HV := Lib.hid h
  obtain ⟨p, c, rfl, hcap, hm, hpn, hc⟩ := h
  obtain ⟨n, hn⟩ : ∃ n, L.length = n := ⟨_, rfl⟩
  rw [hn] at hcap HV HV0 hL ⊢
  have HN := Lib.hid hn
  unfold maxLen at hm
  clear hc hpn hn
  obtain ⟨r, hr⟩ : ∃ r, rightA a = r := ⟨_, rfl⟩
  have HR := Lib.hid (right_any a)
  rw [hr] at HR
  have HRV := Lib.hid hr
  clear hr
  go_enter Tryd.func17, Tryd.ntmps17
  go_wp2_with fail
  refine (clone_any _ L _ HV0.out (by rw [HN.out]; exact hL)).mono ?_
  rintro e w1 ⟨v1, rfl, hown, hb1⟩
  rw [World.size_alloc] at hown
  have HO1 := Lib.hid hown
  have HX1 := Lib.hid (HX0.out.keep hb1 (by simp))
  have HV1 := Lib.hid (HV0.out.keep hb1)
  have HB1 := Lib.hid (HB0.out.trans (hb1.mono HB0.out.size))
  have HS1 : Hid (w.heap.size < w1.heap.size) := Lib.hid (by have := hb1.size; simp at this; omega)
  clear hown hb1
  obtain ⟨c0, c1, c2, c3, c4, c5⟩ := HX1.out.facts
  go_wp2_with fail
  clear c0 c1 c2 c3 c4 c5
  refine (HR.out _).mono ?_
  rintro e w2 ⟨rfl, hb2⟩
  have HO2 := Lib.hid (row_below HO1.out hb2)
  have HX2 := Lib.hid (HX1.out.keep hb2 HS1.out)
  have HV2 := Lib.hid (HV1.out.keep hb2)
  have HB2 := Lib.hid (HB1.out.trans (hb2.mono HB1.out.size))
  have HS2 : Hid (w.heap.size < w2.heap.size) := Lib.hid (Nat.lt_of_lt_of_le HS1.out hb2.size)
  clear hb2
  cases r with
  | false =>
    have hE1 : Hid (E = 1) := Lib.hid (by rw [← HE.out]; unfold addE; rw [HRV.out]; rfl)
    have hM1 : Hid (ChartV w2 v1 M) := Lib.hid (by
      rw [← HMV.out]; unfold addV; rw [HE.out, hE1.out]
      exact chart_of_own HO2.out)
    go_wp2
    go_ret2
    exact ⟨v1, ret_pair hE1.out.symm, hM1.out, HB2.out⟩
  | true =>
    obtain ⟨c0, c1, c2, c3, c4, c5⟩ := HX2.out.facts
    go_wp2_with fail
    clear c0 c1 c2 c3 c4 c5
    refine (find_any _ L a.code _ HV2.out).mono ?_
    rintro e w3 ⟨rfl, hb3⟩
    obtain ⟨f, hf⟩ : ∃ f, findV (findL L a.code) = f := ⟨_, rfl⟩
    obtain ⟨b, hb⟩ : ∃ b, (findL L a.code).isSome = b := ⟨_, rfl⟩
    rw [hf, hb]
    have HFB := Lib.hid hb
    have hb4 := hb3.alloc hb3.size (.cells (cellsA f) 28)
    have HO4 := Lib.hid (row_below HO2.out hb4)
    have HX4 := Lib.hid (HX2.out.keep hb4 HS2.out)
    have HV4 := Lib.hid (HV2.out.keep hb4)
    have HB4 := Lib.hid (HB2.out.trans (hb4.mono HB2.out.size))
    have HS4 : Hid (w.heap.size < (w3.alloc (.cells (cellsA f) 28)).heap.size) := Lib.hid (Nat.lt_of_lt_of_le HS2.out hb4.size)
    clear hb3 hb4 hf hb
    cases b with
    | true =>
      have hE1 : Hid (E = 7) := Lib.hid (by rw [← HE.out]; unfold addE; rw [HRV.out, HFB.out]; rfl)
      have hM1 : Hid (ChartV (w3.alloc (.cells (cellsA f) 28)) v1 M) := Lib.hid (by
        rw [← HMV.out]; unfold addV; rw [HE.out, hE1.out]
        exact chart_of_own HO4.out)
      go_wp2
      go_ret2
      exact ⟨v1, ret_pair hE1.out.symm, hM1.out, HB4.out⟩
    | false =>
      by_cases h60 : 60 ≤ n
      · have hE1 : Hid (E = 4) := Lib.hid (by rw [← HE.out]; unfold addE; rw [HRV.out, HFB.out, if_neg (by simp), if_neg (by simp), if_pos (by rw [HN.out]; exact h60)])
        have hM1 : Hid (ChartV (w3.alloc (.cells (cellsA f) 28)) v1 M) := Lib.hid (by
          rw [← HMV.out]; unfold addV; rw [HE.out, hE1.out]
          exact chart_of_own HO4.out)
        go_wp2
        go_ret2
        exact ⟨v1, ret_pair hE1.out.symm, hM1.out, HB4.out⟩
      · have hE1 : Hid (E = 0) := Lib.hid (by rw [← HE.out]; unfold addE; rw [HRV.out, HFB.out, if_neg (by simp), if_neg (by simp), if_neg (by rw [HN.out]; exact h60)])
        have hM1 : Hid (L.take (belowL L a.code) ++ a :: L.drop (belowL L a.code) = M) := Lib.hid (by
          rw [← HMV.out]; unfold addV; rw [HE.out, hE1.out, if_pos rfl, insL_eq])
        have hbl := belowL_le L a.code
        rw [HN.out] at hbl
        obtain ⟨k, hk⟩ : ∃ k, belowL L a.code = k := ⟨_, rfl⟩
        rw [hk] at hM1 hbl
        have HK := Lib.hid hk
        clear hk
        have HBE := Lib.hid (fun W (hW : ChartV W (.slice p n c) L) => below_any (.slice p n c) L a.code W hW)
        rw [HK.out] at HBE
        have hS4 := HS4.out
        obtain ⟨Wr, hWr⟩ : ∃ Wr, w3.alloc (.cells (cellsA f) 28) = Wr := ⟨_, rfl⟩
        rw [hWr] at HO4 HX4 HV4 HB4 hS4
        clear HO1 HX1 HV1 HB1 HS1 HO2 HX2 HV2 HB2 HS2 HX0 HV0 HB0 HV HS4 HR
        go_wp2_with fail
        have HWR := Lib.hid hWr
        clear hWr
        have bx := Below.refl Wr.heap.size Wr
        have HXa := Lib.hid (HX4.out.keep (bx.alloc (Nat.le_refl _) (.cells (cellsA a) 28)) hS4)
        have HVa := Lib.hid (HV4.out.keep (bx.alloc (Nat.le_refl _) (.cells (cellsA a) 28)))
        obtain ⟨j0, j1, j2, j3, j4, j5⟩ := (show BoxA Wr.drew w.heap.size 28 a from HX4.out).facts
        obtain ⟨o0, o1, o2, o3, o4, o5⟩ := HX4.out.facts
        obtain ⟨n0, n1, n2, n3, n4, n5⟩ := (show BoxA (Wr.alloc (.cells (cellsA a) 28)).drew w.heap.size 28 a from HXa.out).facts
        have HVd := Lib.hid (HV4.out.keep (w' := Wr.drew) ⟨rfl, rfl, rfl, Nat.le_refl _, fun _ _ => rfl⟩)
        have HVe := Lib.hid (HVa.out.keep (w' := (Wr.alloc (.cells (cellsA a) 28)).drew) ⟨rfl, rfl, rfl, Nat.le_refl _, fun _ _ => rfl⟩)
        clear bx
        go_region_held3 (fun w' => w'.cell? ⟨w.heap.size, 0, none⟩ = some (.string a.code) ∧ w'.cell? ⟨w.heap.size, 1, none⟩ = some (.int .i64 a.cls) ∧ w'.cell? ⟨w.heap.size, 2, none⟩ = some (.bool a.cash) ∧ w'.cell? ⟨w.heap.size, 3, none⟩ = some (.bool a.both) ∧ w'.cell? ⟨w.heap.size, 4, none⟩ = some (.string a.fixed) ∧ w'.cell? ⟨w.heap.size, 5, none⟩ = some (.bool a.worn))
          (first | (with_reducible exact ⟨o0, o1, o2, o3, o4, o5⟩) | (with_reducible exact ⟨j0, j1, j2, j3, j4, j5⟩) | (with_reducible exact ⟨n0, n1, n2, n3, n4, n5⟩) | (with_reducible exact ⟨m0, m1, m2, m3, m4, m5⟩) | (with_reducible exact ⟨p0, p1, p2, p3, p4, p5⟩) | (with_reducible exact ⟨s0, s1, s2, s3, s4, s5⟩) | fail)
          (first
            | (go_at_call 31; refine (HBE.out Wr.drew HVd.out).mono ?_; rintro e w5 ⟨rfl, hb5⟩; have HX5 := Lib.hid (BoxA.keep (w := Wr.drew) HX4.out hb5 hS4); have HO5 := Lib.hid (row_below (X := Wr.drew) HO4.out hb5); obtain ⟨m0, m1, m2, m3, m4, m5⟩ := HX5.out.facts; have hS5 : w.heap.size < w5.heap.size := Nat.lt_of_lt_of_le hS4 hb5.size; obtain ⟨p0, p1, p2, p3, p4, p5⟩ := (HX5.out.keep ((Below.refl w5.heap.size w5).alloc (Nat.le_refl _) (.cells (cellsA a) 28)) hS5).facts)
            | (go_at_call 31; refine (HBE.out (Wr.alloc (.cells (cellsA a) 28)).drew HVe.out).mono ?_; rintro e w6 ⟨rfl, hb6⟩; have HX6 := Lib.hid (BoxA.keep (w := (Wr.alloc (.cells (cellsA a) 28)).drew) HXa.out hb6 (by show _ < (Wr.alloc _).heap.size; simp; omega)); obtain ⟨m0, m1, m2, m3, m4, m5⟩ := HX6.out.facts)
            | (go_at_call 30; refine (ins_late (a := a) HO5.out (by omega) (by rw [HN.out]; exact hbl) (by rw [HN.out]; exact hL)).mono ?_; rintro e w9 ⟨v9, rfl, hc9, hb9⟩; have HC9 := Lib.hid hc9; have HB9 := Lib.hid hb9; obtain ⟨s0, s1, s2, s3, s4, s5⟩ := ((HX5.out.keep ((Below.refl w5.heap.size w5).alloc (Nat.le_refl _) (.cells (cellsA a) 28)) hS5).keep hb9 (Nat.lt_succ_self _)).facts)
            | (go_at_call 30; refine (ins_early (a := a) HO4.out (by omega) hb6 (by rw [HN.out]; exact hbl) (by rw [HN.out]; exact hL)).mono ?_; rintro e w9 ⟨v9, rfl, hc9, hb9⟩; have HC9 := Lib.hid hc9; have HB9 := Lib.hid hb9; obtain ⟨s0, s1, s2, s3, s4, s5⟩ := (HX6.out.keep hb9 (Nat.lt_succ_self _)).facts)
            | fail)
        all_goals
          go_wp2
          go_ret2
          have HCM : Hid (ChartV w9 v9 M) := Lib.hid (by rw [← hM1.out]; exact HC9.out)
          first
            | exact ⟨v9, ret_pair hE1.out.symm, HCM.out, ((HB4.out.trans ((below_undrawn hb5).mono HB4.out.size)).alloc (Nat.le_of_lt hS5) _).trans (HB9.out.mono (Nat.le_succ _))⟩
            | exact ⟨v9, ret_pair hE1.out.symm, HCM.out, ((HB4.out.alloc (Nat.le_of_lt hS4) _).trans ((below_undrawn hb6).mono (by show _ ≤ (Wr.alloc _).heap.size; simp; omega))).trans (HB9.out.mono (Nat.le_succ _))⟩
end Go.Proofs.YtploldcbpejncaaDoor
