
/- The walk of flow.Add: what the plain facts say, in new memory; what was there stays. -/
import Derived.Test.YtkacidoflmbjkaaDoorFlowInsert
import Derived.Test.YtkacidoflmbjkaaDoorFlowRight
import Derived.Test.YtkacidoflmbjkaaDoorFlowSearch
import Derived.Test.YtkacidoflmbjkaaDoorFlowOf
namespace Go.Proofs.YtkacidoflmbjkaaDoor.Fl
open Go.RowKit

/-- What Add tells. -/
def AddTold (w : World) (M : List Flow) (n : Int) (e : Ending) (w' : World) : Prop := ∃ v, e = .returned (.tuple #[v, .int .i64 n]) ∧ FlowsV w' v M ∧ Below w.heap.size w w'
abbrev cellsF (a : Flow) : Array Value := #[.string a.code, .int .i64 a.kind]
theorem ret_pair {v : Value} {a b : Int} (h : a = b) : Ending.returned (.tuple #[v, .int .i64 a]) = .returned (.tuple #[v, .int .i64 b]) := by rw [h]
theorem ins_late {w5 : World} {v : Value} {L : List Flow} {a : Flow} {i B : Nat} (h : w5.ownsRow B 28 2 v L.length (flat encF L)) (hB : B ≤ w5.heap.size) (hi : i ≤ L.length) (hL : L.length ≤ 1000) :
    Calls Tryd.prog 31 #[v, .int .i64 (i : Int), .slice (some ⟨w5.heap.size, 0, none⟩) 1 1] (w5.alloc (.cells (cellsF a) 28)) (InsTold (w5.alloc (.cells (cellsF a) 28)) B (L.take i ++ a :: L.drop i)) :=
  insert_any v L a i w5.heap.size B _ (h.alloc _) (by simp; omega) (BoxE.new encF w5 a _) (fun e => by have := (h.lt _ e).2; omega) hi hL
set_option maxRecDepth 100000 in
set_option maxHeartbeats 8000000 in
theorem add_any (v : Value) (L : List Flow) (a : Flow) (w : World) (h : FlowsV w v L) (hrise : riseK Flow.code L = true) (hL : L.length ≤ 1000) :
    Calls Tryd.prog 16 #[v, aggL a] w (AddTold w (addV L a) (addE L a)) := by
  obtain ⟨E, hE⟩ : ∃ E, addE L a = E := ⟨_, rfl⟩
  obtain ⟨M, hM⟩ : ∃ M, addV L a = M := ⟨_, rfl⟩
  rw [hE, hM]
  have HE := Lib.hid hE
  have HMV := Lib.hid hM
  clear hE hM
  have HRI := Lib.hid hrise
  have HB0 := Lib.hid ((Below.refl w.heap.size w).alloc (Nat.le_refl _) (.cells (cellsF a) 28))
  have HX0 := Lib.hid (BoxE.new encF w a 28)
  have HV0 := Lib.hid (h.keep HB0.out)
  obtain ⟨p, c, rfl, hcap, hm, hpn, hc⟩ := h
  obtain ⟨n, hn⟩ : ∃ n, L.length = n := ⟨_, rfl⟩
  have HLL := Lib.hid hL
  rw [hn] at hcap HV0 hL ⊢
  have HN := Lib.hid hn
  unfold maxLen at hm
  clear hc hpn hn hrise
  obtain ⟨r, hr⟩ : ∃ r, rightF a = r := ⟨_, rfl⟩
  have HR := Lib.hid (right_any a)
  rw [hr] at HR
  have HRV := Lib.hid hr
  clear hr
  go_enter Tryd.func16, Tryd.ntmps16
  go_wp2_with fail
  refine (clone_any _ L _ HV0.out HLL.out).mono ?_
  rintro e w1 ⟨v1, rfl, hown, hb1⟩
  rw [World.size_alloc] at hown
  have HO1 := Lib.hid hown
  have HX1 := Lib.hid (HX0.out.keep hb1 (by simp))
  have HV1 := Lib.hid (HV0.out.keep hb1)
  have HB1 := Lib.hid (HB0.out.trans (hb1.mono HB0.out.size))
  clear hown hb1
  obtain ⟨c0, c1⟩ := box HX1.out
  go_wp2_with fail
  clear c0 c1
  refine (HR.out _).mono ?_
  rintro e w2 ⟨rfl, hb2⟩
  have HO2 := Lib.hid (row_below HO1.out hb2)
  have HX2 := Lib.hid (HX1.out.kept hb2)
  have HV2 := Lib.hid (HV1.out.keep hb2)
  have HB2 := Lib.hid (HB1.out.trans (hb2.mono HB1.out.size))
  clear hb2
  cases r with
  | false =>
    have hE1 : Hid (E = 1) := Lib.hid (by rw [← HE.out]; unfold addE; rw [HRV.out]; rfl)
    have hM1 : Hid (FlowsV w2 v1 M) := Lib.hid (by
      rw [← HMV.out]; unfold addV; rw [HE.out, hE1.out]
      exact els_of_own HO2.out)
    go_wp2
    go_ret2
    exact ⟨v1, ret_pair hE1.out.symm, hM1.out, HB2.out⟩
  | true =>
    obtain ⟨c0, c1⟩ := box HX2.out
    obtain ⟨pl, hpl⟩ : ∃ pl, placeK Flow.code L a.code = pl := ⟨_, rfl⟩
    obtain ⟨is, his⟩ : ∃ is, isK Flow.code L a.code = is := ⟨_, rfl⟩
    have HPA := Lib.hid (place_any _ L a.code _ HV2.out HRI.out HLL.out)
    rw [hpl, his] at HPA
    have HIS := Lib.hid his
    have HPL := Lib.hid hpl
    have hpn : pl ≤ n := by rw [← hpl, ← HN.out]; exact placeK_le L a.code
    clear his hpl
    go_wp2_with fail
    clear c0 c1
    refine HPA.out.mono ?_
    rintro e w3 ⟨rfl, hb3⟩
    have HO3 := Lib.hid (row_below HO2.out hb3)
    have HX3 := Lib.hid (HX2.out.kept hb3)
    have HV3 := Lib.hid (HV2.out.keep hb3)
    have HB3 := Lib.hid (HB2.out.trans (hb3.mono HB2.out.size))
    clear hb3 HO2 HX2 HV2 HB2 HPA
    obtain ⟨c0, c1⟩ := box HX3.out
    cases is with
    | true =>
      have hE1 : Hid (E = 7) := Lib.hid (by rw [← HE.out]; unfold addE; rw [HRV.out, HIS.out]; rfl)
      have hM1 : Hid (FlowsV w3 v1 M) := Lib.hid (by
        rw [← HMV.out]; unfold addV; rw [HE.out, hE1.out]
        exact els_of_own HO3.out)
      go_wp2
      go_ret2
      exact ⟨v1, ret_pair hE1.out.symm, hM1.out, HB3.out⟩
    | false =>
      by_cases hk1 : a.kind = 1
      · have hkz : (a.kind != 1) = false := by rw [hk1]; rfl
        have HAE : Hid (E = if 60 ≤ n then 4 else 0) := Lib.hid (by
          rw [← HE.out]; unfold addE
          rw [HRV.out, HIS.out, HN.out, if_neg (by simp), if_neg (by simp [hk1])])
        clear hk1
        by_cases h60 : 60 ≤ n
        · have hE1 : Hid (E = 4) := Lib.hid (by rw [HAE.out, if_pos h60])
          have hM1 : Hid (FlowsV w3 v1 M) := Lib.hid (by
            rw [← HMV.out]; unfold addV; rw [HE.out, hE1.out]
            exact els_of_own HO3.out)
          go_wp2
          go_ret2
          exact ⟨v1, ret_pair hE1.out.symm, hM1.out, HB3.out⟩
        · have hE1 : Hid (E = 0) := Lib.hid (by rw [HAE.out, if_neg h60])
          have hM1 : Hid (L.take pl ++ a :: L.drop pl = M) := Lib.hid (by
            rw [← HMV.out]; unfold addV; rw [HE.out, hE1.out, if_pos rfl]; unfold insK; rw [HPL.out])
          go_wp2_with fail
          refine (ins_late (a := a) HO3.out (Nat.succ_le_of_lt HX3.out.lt) (by rw [HN.out]; exact hpn) HLL.out).mono ?_
          rintro e w9 ⟨v9, rfl, hc9, hb9⟩
          have HCM : Hid (FlowsV w9 v9 M) := Lib.hid (by rw [← hM1.out]; exact hc9)
          have HB9 := Lib.hid ((HB3.out.alloc HB3.out.size (.cells (cellsF a) 28)).trans (hb9.mono (Nat.le_succ _)))
          clear hc9 hb9
          go_wp2
          go_ret2
          exact ⟨v9, ret_pair hE1.out.symm, HCM.out, HB9.out⟩
      · have hkz : (a.kind != 1) = true := by simpa using hk1
        obtain ⟨hh, hhh⟩ : ∃ b, hasF L a.kind = b := ⟨_, rfl⟩
        have HHA := Lib.hid (has_any _ L a.kind _ HV3.out HLL.out)
        rw [hhh] at HHA
        have HAE : Hid (E = if hh = true then 7 else if 60 ≤ n then 4 else 0) := Lib.hid (by
          rw [← HE.out]; unfold addE
          rw [HRV.out, HIS.out, HN.out, hhh, if_neg (by simp)]
          simp [hk1])
        clear hk1 hhh
        go_wp2_with fail
        clear c0 c1
        refine HHA.out.mono ?_
        rintro e w4 ⟨rfl, hb4⟩
        have HO4 := Lib.hid (row_below HO3.out hb4)
        have HX4 := Lib.hid (HX3.out.kept hb4)
        have HB4 := Lib.hid (HB3.out.trans (hb4.mono HB3.out.size))
        clear hb4 HO3 HX3 HB3 HHA
        cases hh with
        | true =>
          have hE1 : Hid (E = 7) := Lib.hid (by rw [HAE.out]; rfl)
          have hM1 : Hid (FlowsV w4 v1 M) := Lib.hid (by
            rw [← HMV.out]; unfold addV; rw [HE.out, hE1.out]
            exact els_of_own HO4.out)
          go_wp2
          go_ret2
          exact ⟨v1, ret_pair hE1.out.symm, hM1.out, HB4.out⟩
        | false =>
          by_cases h60 : 60 ≤ n
          · have hE1 : Hid (E = 4) := Lib.hid (by rw [HAE.out, if_neg (by simp), if_pos h60])
            have hM1 : Hid (FlowsV w4 v1 M) := Lib.hid (by
              rw [← HMV.out]; unfold addV; rw [HE.out, hE1.out]
              exact els_of_own HO4.out)
            go_wp2
            go_ret2
            exact ⟨v1, ret_pair hE1.out.symm, hM1.out, HB4.out⟩
          · have hE1 : Hid (E = 0) := Lib.hid (by rw [HAE.out, if_neg (by simp), if_neg h60])
            have hM1 : Hid (L.take pl ++ a :: L.drop pl = M) := Lib.hid (by
              rw [← HMV.out]; unfold addV; rw [HE.out, hE1.out, if_pos rfl]; unfold insK; rw [HPL.out])
            obtain ⟨c0, c1⟩ := box HX4.out
            go_wp2_with fail
            refine (ins_late (a := a) HO4.out (Nat.succ_le_of_lt HX4.out.lt) (by rw [HN.out]; exact hpn) HLL.out).mono ?_
            rintro e w9 ⟨v9, rfl, hc9, hb9⟩
            have HCM : Hid (FlowsV w9 v9 M) := Lib.hid (by rw [← hM1.out]; exact hc9)
            have HB9 := Lib.hid ((HB4.out.alloc HB4.out.size (.cells (cellsF a) 28)).trans (hb9.mono (Nat.le_succ _)))
            clear hc9 hb9
            go_wp2
            go_ret2
            exact ⟨v9, ret_pair hE1.out.symm, HCM.out, HB9.out⟩
end Go.Proofs.YtkacidoflmbjkaaDoor.Fl
