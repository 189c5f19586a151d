
/- The walk of FactOrder: as long as all fits facts may stand in any order; what is put together of parts is what is put together at once. -/
import Derived.Test.YtimeebildbmhaaaFactZeros
import Derived.Test.YtimeebildbmhaaaFaStore
import Derived.Test.YtimeebildbmhaaaSegs
namespace Go.Proofs.Ytimeebildbmhaaa.Fa
open Go.RowKit

theorem bnd_perm {B : Int} {l l' : List Fact} (h : Bnd B l) (hp : l'.Perm l) : Bnd B l' := fun f hf => h f (hp.mem_iff.1 hf)
theorem in64_perm {l l' : List Fact} (h : ∀ f ∈ l, In64 f.amt) (hp : l'.Perm l) : ∀ f ∈ l', In64 f.amt := fun f hf => h f (hp.mem_iff.1 hf)
theorem cube_perm {l l' : List Fact} (hp : l'.Perm l) : cube l' = cube l := cube_eq fun k => isum_perm hp k
theorem ofL_perm {l l' : List Fact} (h : Bnd 4503599627370496 l) (hn : l.length ≤ 150) (hp : l'.Perm l) : ofL l' = (cube l, 0) := by
  rw [ofL_small (bnd_perm h hp) (by rw [hp.length_eq]; exact hn), cube_perm hp]
theorem isum_split (l : List Fact) (q : Nat) (k : Key) : isum l k = isum (l.take q) k + isum (l.drop q) k := by rw [← isum_append, List.take_append_drop]
theorem turn_perm {α : Type} (l : List α) (k : Nat) : (l.drop k ++ l.take k).Perm l := by
  have := List.perm_append_comm (l₁ := l.drop k) (l₂ := l.take k)
  rwa [List.take_append_drop] at this
/-- What stands when the facts are turned. -/
structure TurnedAt (L : List Fact) (w wr : World) (g N c : Nat) (T : List Fact) : Prop where
  own : wr.ownsRow w.heap.size 28 6 (.slice (some ⟨g, 0, none⟩) N c) N (flat encF T)
  bel : Below w.heap.size w wr
  perm : T.Perm L
theorem TurnedAt.len {L T : List Fact} {w wr : World} {g N c : Nat} (h : TurnedAt L w wr g N c T) (hn : L.length = N) : T.length = N := by rw [h.perm.length_eq, hn]
theorem own_form {w : World} {B n s : Nat} {e : TypeId} {v : Value} {xs : List Value} (h : w.ownsRow B e s v n xs) (hn : 0 < n) : ∃ g c, v = .slice (some ⟨g, 0, none⟩) n c := by
  rcases h.2 with ⟨_, h0⟩ | ⟨g, cap, _, rfl, _⟩
  · omega
  · exact ⟨g, cap, rfl⟩
theorem TurnedAt.at_ {L T : List Fact} {w wr : World} {g N c i : Nat} {x : Fact} (h : TurnedAt L w wr g N c T) (hx : T[i]? = some x) : ElAt encF wr g (i * 6) x := fun j v hj => by
  have := h.own.cells (g := g) rfl _ _ (flat_at T i x hx j v hj)
  rw [add_off, Nat.zero_add] at this
  exact this
theorem TurnedAt.base {L T : List Fact} {w wr : World} {g N c : Nat} (h : TurnedAt L w wr g N c T) : w.heap.size ≤ g := by
  rcases h.own.2 with ⟨h', _⟩ | ⟨g', _, _, h', hb, _⟩
  · cases h'
  · cases h'; exact hb
theorem infoRs : (Try.prog.info? 28).map (·.size) = some encF.k := by kernel_rfl
theorem elsV_len {α : Type} {E : Enc α} {w : World} {p : Option Addr} {n c : Nat} {L : List α} (h : ElsV E w (.slice p n c) L) : L.length = n := by
  obtain ⟨_, _, e, _⟩ := h
  cases e; rfl
set_option maxRecDepth 100000 in
set_option maxHeartbeats 16000000 in
theorem factOrder_walk (v : Value) (L : List Fact) (a : Int) (tb : Bool) (w : World) (h : FactsV w v L) (hz : ∀ f ∈ L, In64 f.key.m ∧ In64 f.amt) (ha : InU8 a) : Calls Try.prog 5 #[v, .int .u8 a, .bool tb] w fun e w' => e = .returned (.bool true) ∧ Below w.heap.size w w' := by
  obtain ⟨ha0, ha1⟩ := ha
  obtain ⟨am, rfl⟩ : ∃ am : Nat, a = (am : Int) := ⟨a.toNat, by omega⟩
  have HV := Lib.hid h
  have HZ := Lib.hid (fun f hf => (hz f hf).2)
  obtain ⟨p, cp, rfl, hcap, hmx, _, _⟩ := h
  obtain ⟨N, hN⟩ : ∃ n, L.length = n := ⟨_, rfl⟩
  rw [hN] at HV hcap ⊢
  have HN := Lib.hid hN
  have HCAP := Lib.hid (And.intro hcap hmx)
  clear hN hz hcap hmx
  go_enter Try.func5, Try.ntmps5
  go_wp2_with fail
  refine (alive_any _).mono ?_
  rintro e w1 ⟨rfl, hb1⟩
  have HB1 := Lib.hid hb1
  have HV1 := Lib.hid (HV.out.keep hb1)
  clear hb1 HV
  go_wp2_with fail
  refine (few_any _ L _ HV1.out).mono ?_
  rintro e w2 ⟨rfl, hb2⟩
  have HB2 := Lib.hid (HB1.out.trans (hb2.mono HB1.out.size))
  have HV2 := Lib.hid (HV1.out.keep hb2)
  clear hb2 HV1 HB1
  cases hf : fewL L with
  | false =>
    clear hf
    go_wp2
    go_ret
    exact ⟨rfl, HB2.out⟩
  | true =>
    have HF := Lib.hid hf
    clear hf
    go_wp2_with fail
    refine (small_any _ L _ HV2.out).mono ?_
    rintro e w3 ⟨rfl, hb3⟩
    have HB3 := Lib.hid (HB2.out.trans (hb3.mono HB2.out.size))
    have HV3 := Lib.hid (HV2.out.keep hb3)
    clear hb3 HV2 HB2
    cases hs : smallL L with
    | false =>
      clear hs
      go_wp2
      go_ret
      exact ⟨rfl, HB3.out⟩
    | true =>
      have HFS := Lib.hid (few_small HF.out hs)
      have HLN : Hid (N ≤ 150 ∧ L.length ≤ 150) := Lib.hid (by have := few_length HF.out; have := HN.out; omega)
      clear hs
      by_cases hN0 : N = 0
      · subst hN0
        go_wp2
        go_ret
        exact ⟨rfl, HB3.out⟩
      have hN1 : ((N : Int) == 0) = false := by rw [beq_eq_false_iff_ne]; omega
      obtain ⟨q, hq⟩ : ∃ q, am % N = q := ⟨_, rfl⟩
      have hqN : q < N := by rw [← hq]; exact Nat.mod_lt _ (by omega)
      have hNb : N ≤ 150 := HLN.out.1
      have hab : am ≤ 255 := by omega
      have hrem : ((am : Nat) : Int).tmod ((N : Nat) : Int) = ((q : Nat) : Int) := by
        rw [Int.tmod_eq_emod_of_nonneg (by omega), ← Int.natCast_emod, hq]
      obtain ⟨x0, hx0⟩ : ∃ x, L[0]? = some x := ⟨_, List.getElem?_eq_getElem (by rw [HN.out]; omega)⟩
      obtain ⟨b, o, rfl, _⟩ := ElsV.at_ HV3.out hx0
      have HQ : Hid (q < N ∧ N ≤ cp) := Lib.hid ⟨hqN, HCAP.out.1⟩
      have hs1 := fun W => part_lo W b o N cp q hqN HCAP.out.1
      have hs2 := fun W => part_hi W b o N cp q hqN HCAP.out.1
      obtain ⟨V1, hV1⟩ : ∃ V1, (Value.slice (some ((⟨b, o, none⟩ : Addr).add (q * 6))) (N - q) (cp - q)) = V1 := ⟨_, rfl⟩
      have HD3 := Lib.hid (facts_drop HV3.out HN.out hqN)
      have HTK3 := Lib.hid (facts_take HV3.out HN.out hqN)
      obtain ⟨V2, hV2⟩ : ∃ V2, (Value.slice (some ⟨b, o, none⟩) q cp) = V2 := ⟨_, rfl⟩
      rw [hV1] at hs1
      rw [hV2] at hs2
      have HV11 := Lib.hid hV1
      have HV22 := Lib.hid hV2
      have HDW : Hid (Below w3.heap.size w3 w3.drew) := Lib.hid ⟨rfl, rfl, rfl, Nat.le_refl _, fun _ _ => rfl⟩
      have hNz : (0 : Int) < (N : Int) := by omega
      have hqz : (q : Int) < (N : Int) := by omega
      have hcapz : (N : Int) ≤ (cp : Int) := by have := HCAP.out.1; omega
      clear hx0 hq hV1 hV2 ha0 ha1
      go_wp2_with fail
      refine wp_region_plan (.one [0, 1, 2, 4, 5, 6] 3 (.one [] 7 (.last [8]))) (by kernel_rfl) (by kernel_rfl) (fun d _ _ _ _ h => by cases d <;> exact h) ?_
      simp only [wpPlan, pick, nth]
      repeat (go_big_quiet_step (fail))
      refine wpQuiet_nil ?_
      intro K hK
      refine alone_want (by kernel_rfl) ?_
      refine wp_append_els (E := encF) _ _ 22 28 rfl infoR w3.heap.size (.slice none 0 0) [] (L.drop q) rfl (World.ownsRow_nil _ _ _ _) _ _ _ (by simp only [Act.eval]; exact HV11.out.symm) (HD3.out.keep HDW.out) (Nat.le_refl _) (by simp; have := HLN.out; omega) ?_
      intro va wa hra hba
      have HRA : Hid (wa.ownsRow w3.heap.size 28 6 va (L.drop q).length (flat encF (L.drop q))) := Lib.hid (by rw [List.nil_append] at hra; exact hra)
      have HBA := Lib.hid (HDW.out.trans hba)
      clear hra hba
      refine hK _ _ (past_in HBA.out) ?_
      clear hK K
      simp only [Act.put, List.setIfInBounds_toArray, List.set_cons_zero, List.set_cons_succ]
      refine wpQuiet_nil ?_
      intro K hK
      refine alone_want (by kernel_rfl) ?_
      refine wp_append_els (E := encF) _ _ 22 28 rfl infoR w3.heap.size va (L.drop q) (L.take q) rfl HRA.out _ _ _ (by simp only [Act.eval]; exact HV22.out.symm) (HTK3.out.keep HBA.out) HBA.out.size (by rw [List.length_drop, List.length_take]; have := HLN.out; omega) ?_
      intro vb wb hrb hbb
      have hlen : (L.drop q ++ L.take q).length = N := by rw [(turn_perm L q).length_eq, HN.out]
      rw [hlen] at hrb
      obtain ⟨g, cg, rfl⟩ := own_form hrb (by omega)
      have HTA : Hid (TurnedAt L w3 wb g N cg (L.drop q ++ L.take q)) := Lib.hid ⟨hrb, HBA.out.trans hbb, turn_perm L q⟩
      generalize L.drop q ++ L.take q = T at HTA hlen hrb
      have HLT := Lib.hid hlen
      clear hlen hrb hbb
      refine hK _ _ (past_in HTA.out.bel) ?_
      clear hK K hs1 hs2 HV11 HV22 HD3 HTK3 HBA HRA HDW
      simp only [Act.put, List.setIfInBounds_toArray, List.set_cons_zero, List.set_cons_succ]
      repeat (go_big_quiet_step (fail))
      refine wpQuiet_nil ?_
      cases tb with
      | false =>
        have HLT2 := HLT
        clear HLT
        have HTV := Lib.hid (els_of_own (E := encF) (show wb.ownsRow w3.heap.size 28 6 (.slice (some ⟨g, 0, none⟩) N cg) T.length (flat encF T) from by rw [HTA.out.len HN.out]; exact HTA.out.own))
        have HTL : Hid (T.length = N) := Lib.hid (HTA.out.len HN.out)
        have HTP := Lib.hid HTA.out.perm
        have HBz := Lib.hid (HB3.out.trans (HTA.out.bel.mono HB3.out.size))
        have HVz := Lib.hid (HV3.out.keep HTA.out.bel)
        clear HTA HV3 HB3
        go_wp2_with fail
        refine (theirs_any _ L _ HVz.out (by have := HLN.out; omega)).mono ?_
        rintro e w4 ⟨v4, rfl, hr4, hb4⟩
        have HX4 := Lib.hid (els_of_own (E := encF) hr4)
        have HV4 := Lib.hid (HVz.out.keep hb4)
        have HT4 := Lib.hid (HTV.out.keep hb4)
        have HB4 := Lib.hid (HBz.out.trans (hb4.mono HBz.out.size))
        clear hr4 hb4 HVz HBz HTV
        go_wp2_with fail
        have hO := of_any v4 L w4 HX4.out HZ.out (by have := HLN.out; omega)
        rw [HFS.out.1] at hO
        refine hO.mono ?_
        rintro e w5 ⟨v5, rfl, hv5, hb5⟩
        obtain ⟨C, hC⟩ : ∃ C, cube L = C := ⟨_, rfl⟩
        have HC := Lib.hid hC
        have hv5' : FactsV w5 v5 C := by rw [← hC]; exact hv5
        have HCL : Hid (C.length ≤ 150) := Lib.hid (by rw [← hC]; exact HFS.out.2.2.1)
        obtain ⟨p5, c5, rfl, _, _, _, _⟩ := id hv5'
        have HA5 := Lib.hid hv5'
        have HV5 := Lib.hid (HV4.out.keep hb5)
        have HT5 := Lib.hid (HT4.out.keep hb5)
        have HB5 := Lib.hid (HB4.out.trans (hb5.mono HB4.out.size))
        clear hO hb5 hC hv5 hv5' HX4 HV4 HT4 HB4
        obtain ⟨m, hm⟩ : ∃ m, C.length = m := ⟨_, rfl⟩
        rw [hm] at HA5 ⊢
        clear hm
        go_wp2_with fail
        refine (theirs_any _ T _ HT5.out (by have := HLN.out; have := HTL.out; omega)).mono ?_
        rintro e w6 ⟨v6, rfl, hr6, hb6⟩
        have HX6 := Lib.hid (els_of_own (E := encF) hr6)
        have HV6 := Lib.hid (HV5.out.keep hb6)
        have HA6 := Lib.hid (HA5.out.keep hb6)
        have HB6 := Lib.hid (HB5.out.trans (hb6.mono HB5.out.size))
        clear hr6 hb6 HV5 HA5 HB5 HT5
        go_wp2_with fail
        have hO := of_any v6 T w6 HX6.out (in64_perm HZ.out HTP.out) (by have := HLN.out; have := HTL.out; omega)
        rw [ofL_perm HFS.out.2.2.2 (by have := HLN.out; omega) HTP.out, HC.out] at hO
        refine hO.mono ?_
        rintro e w7 ⟨v7, rfl, hv7, hb7⟩
        obtain ⟨p7, c7, rfl, _, _, _, _⟩ := id hv7
        have HBB7 : Hid (FactsV w7 (.slice p7 C.length c7) C) := Lib.hid hv7
        have HV7 := Lib.hid (HV6.out.keep hb7)
        have HA7 := Lib.hid (HA6.out.keep hb7)
        have HB7 := Lib.hid (HB6.out.trans (hb7.mono HB6.out.size))
        clear hO hb7 hv7 HX6 HV6 HA6 HB6
        rw [elsV_len HA7.out] at HBB7 ⊢
        have hs2 := fun W => part_hi W b o N cp q HQ.out.1 HQ.out.2
        have hqc : (q : Int) ≤ (cp : Int) := by have := HQ.out; omega
        go_wp2_with fail
        refine (theirs_any _ (L.take q) _ (facts_take HV7.out HN.out HQ.out.1) (by rw [List.length_take]; have := HLN.out; omega)).mono ?_
        rintro e w8 ⟨v8, rfl, hr8, hb8⟩
        have HX8 := Lib.hid (els_of_own (E := encF) hr8)
        have HV8 := Lib.hid (HV7.out.keep hb8)
        have HA8 := Lib.hid (HA7.out.keep hb8)
        have HBB8 := Lib.hid (HBB7.out.keep hb8)
        have HB8 := Lib.hid (HB7.out.trans (hb8.mono HB7.out.size))
        clear hr8 hb8 HV7 HA7 HB7 HBB7 hs2
        go_wp2_with fail
        have hO := of_any v8 (L.take q) w8 HX8.out (fun f hf => HZ.out f (List.mem_of_mem_take hf)) (by rw [List.length_take]; have := HLN.out; omega)
        rw [ofL_small (fun f hf => HFS.out.2.2.2 f (List.mem_of_mem_take hf)) (by rw [List.length_take]; have := HLN.out; omega)] at hO
        refine hO.mono ?_
        rintro e w9 ⟨v9, rfl, hv9, hb9⟩
        obtain ⟨p9, c9, rfl, _, _, _, _⟩ := id hv9
        have HP9 : Hid (FactsV w9 (.slice p9 (cube (L.take q)).length c9) (cube (L.take q))) := Lib.hid hv9
        have HV9 := Lib.hid (HV8.out.keep hb9)
        have HA9 := Lib.hid (HA8.out.keep hb9)
        have HBB9 := Lib.hid (HBB8.out.keep hb9)
        have HB9 := Lib.hid (HB8.out.trans (hb9.mono HB8.out.size))
        clear hO hb9 hv9 HX8 HV8 HA8 HB8 HBB8
        obtain ⟨m1, hm1⟩ : ∃ m, (cube (L.take q)).length = m := ⟨_, rfl⟩
        rw [hm1] at HP9 ⊢
        clear hm1
        have hs1 := fun W => part_lo W b o N cp q HQ.out.1 HQ.out.2
        obtain ⟨V1, hV1⟩ : ∃ V1, (Value.slice (some ((⟨b, o, none⟩ : Addr).add (q * 6))) (N - q) (cp - q)) = V1 := ⟨_, rfl⟩
        have HD9 := facts_drop HV9.out HN.out HQ.out.1
        rw [hV1] at hs1 HD9
        have HDD := Lib.hid HD9
        clear HD9 hV1
        go_wp2_with fail
        refine (theirs_any _ (L.drop q) _ HDD.out (by rw [List.length_drop]; have := HLN.out; omega)).mono ?_
        rintro e w10 ⟨v10, rfl, hr10, hb10⟩
        have HX10 := Lib.hid (els_of_own (E := encF) hr10)
        have HP10 := Lib.hid (HP9.out.keep hb10)
        have HA10 := Lib.hid (HA9.out.keep hb10)
        have HBB10 := Lib.hid (HBB9.out.keep hb10)
        have HB10 := Lib.hid (HB9.out.trans (hb10.mono HB9.out.size))
        clear hr10 hb10 HV9 HA9 HB9 HBB9 HP9 hs1 HDD
        go_wp2_with fail
        have hO := of_any v10 (L.drop q) w10 HX10.out (fun f hf => HZ.out f (List.mem_of_mem_drop hf)) (by rw [List.length_drop]; have := HLN.out; omega)
        rw [ofL_small (fun f hf => HFS.out.2.2.2 f (List.mem_of_mem_drop hf)) (by rw [List.length_drop]; have := HLN.out; omega)] at hO
        refine hO.mono ?_
        rintro e w11 ⟨v11, rfl, hv11, hb11⟩
        obtain ⟨p11, c11, rfl, _, _, _, _⟩ := id hv11
        have HQ11 : Hid (FactsV w11 (.slice p11 (cube (L.drop q)).length c11) (cube (L.drop q))) := Lib.hid hv11
        have HP11 := Lib.hid (HP10.out.keep hb11)
        have HA11 := Lib.hid (HA10.out.keep hb11)
        have HBB11 := Lib.hid (HBB10.out.keep hb11)
        have HB11 := Lib.hid (HB10.out.trans (hb11.mono HB10.out.size))
        clear hO hb11 hv11 HX10 HP10 HA10 HB10 HBB10
        obtain ⟨m2, hm2⟩ : ∃ m, (cube (L.drop q)).length = m := ⟨_, rfl⟩
        rw [hm2] at HQ11 ⊢
        clear hm2
        go_wp2_with fail
        have hb1 : Bnd B1 (cube (L.take q)) := cube_bnd1 (fun f hf => HFS.out.2.2.2 f (List.mem_of_mem_take hf)) (by rw [List.length_take]; have := HLN.out; omega)
        have hb2 : Bnd B1 (cube (L.drop q)) := cube_bnd1 (fun f hf => HFS.out.2.2.2 f (List.mem_of_mem_drop hf)) (by rw [List.length_drop]; have := HLN.out; omega)
        have hA := add_any _ _ (cube (L.take q)) (cube (L.drop q)) w11 HP11.out HQ11.out (bnd_in64 hb1) (bnd_in64 hb2) (Nat.le_trans (cube_length _) (by rw [List.length_take]; have := HLN.out; omega)) (Nat.le_trans (cube_length _) (by rw [List.length_drop]; have := HLN.out; omega))
        rw [ofL_two (cube_rise _) (cube_rise _) hb1 hb2, cube_parts _ _ L (isum_split L q), HC.out] at hA
        refine hA.mono ?_
        rintro e w12 ⟨v12, rfl, hv12, hb12⟩
        obtain ⟨p12, c12, rfl, _, _, _, _⟩ := id hv12
        have HS12 : Hid (FactsV w12 (.slice p12 C.length c12) C) := Lib.hid hv12
        have HA12 := Lib.hid (HA11.out.keep hb12)
        have HBB12 := Lib.hid (HBB11.out.keep hb12)
        have HB12 := Lib.hid (HB11.out.trans (hb12.mono HB11.out.size))
        clear hA hb1 hb2 hb12 hv12 HP11 HQ11 HA11 HB11 HBB11
        rw [elsV_len HA12.out] at HS12 ⊢
        go_wp2_with fail
        refine (ours_any _ C w12 HA12.out (by have := HCL.out; omega)).mono ?_
        rintro e w13 ⟨v13, rfl, hr13, hb13⟩
        have HO13 := Lib.hid (els_of_own (E := encF) hr13)
        have HA13 := Lib.hid (HA12.out.keep hb13)
        have HBB13 := Lib.hid (HBB12.out.keep hb13)
        have HS13 := Lib.hid (HS12.out.keep hb13)
        have HB13 := Lib.hid (HB12.out.trans (hb13.mono HB12.out.size))
        clear hr13 hb13 HA12 HB12 HBB12 HS12
        go_wp2_with fail
        refine (ours_any _ C w13 HBB13.out (by have := HCL.out; omega)).mono ?_
        rintro e w14 ⟨v14, rfl, hr14, hb14⟩
        have HO14 := Lib.hid (els_of_own (E := encF) hr14)
        have HOA14 := Lib.hid (HO13.out.keep hb14)
        have HA14 := Lib.hid (HA13.out.keep hb14)
        have HS14 := Lib.hid (HS13.out.keep hb14)
        have HB14 := Lib.hid (HB13.out.trans (hb14.mono HB13.out.size))
        clear hr14 hb14 HA13 HB13 HBB13 HS13 HO13
        go_wp2_with fail
        have hS := same_any _ _ C C w14 HOA14.out HO14.out
        rw [show sameL C C = true from decide_eq_true rfl] at hS
        refine hS.mono ?_
        rintro e w15 ⟨rfl, hb15⟩
        have HA15 := Lib.hid (HA14.out.keep hb15)
        have HS15 := Lib.hid (HS14.out.keep hb15)
        have HB15 := Lib.hid (HB14.out.trans (hb15.mono HB14.out.size))
        clear hS hb15 HA14 HB14 HS14 HO14 HOA14
        go_wp2_with fail
        refine (ours_any _ C w15 HA15.out (by have := HCL.out; omega)).mono ?_
        rintro e w16 ⟨v16, rfl, hr16, hb16⟩
        have HO16 := Lib.hid (els_of_own (E := encF) hr16)
        have HA16 := Lib.hid (HA15.out.keep hb16)
        have HS16 := Lib.hid (HS15.out.keep hb16)
        have HB16 := Lib.hid (HB15.out.trans (hb16.mono HB15.out.size))
        clear hr16 hb16 HA15 HB15 HS15
        go_wp2_with fail
        refine (ours_any _ C w16 HS16.out (by have := HCL.out; omega)).mono ?_
        rintro e w17 ⟨v17, rfl, hr17, hb17⟩
        have HO17 := Lib.hid (els_of_own (E := encF) hr17)
        have HOA17 := Lib.hid (HO16.out.keep hb17)
        have HA17 := Lib.hid (HA16.out.keep hb17)
        have HB17 := Lib.hid (HB16.out.trans (hb17.mono HB16.out.size))
        clear hr17 hb17 HA16 HB16 HS16 HO16
        go_wp2_with fail
        have hS := same_any _ _ C C w17 HOA17.out HO17.out
        rw [show sameL C C = true from decide_eq_true rfl] at hS
        refine hS.mono ?_
        rintro e w18 ⟨rfl, hb18⟩
        have HA18 := Lib.hid (HA17.out.keep hb18)
        have HB18 := Lib.hid (HB17.out.trans (hb18.mono HB17.out.size))
        clear hS hb18 HA17 HB17 HO17 HOA17
        go_wp2_with fail
        have hR := right_any _ C w18 HA18.out (by have := HCL.out; omega)
        rw [← HC.out, cube_right L (by have := HLN.out; have := HN.out; omega)] at hR
        refine hR.mono ?_
        rintro e w19 ⟨rfl, hb19⟩
        have HB19 := Lib.hid (HB18.out.trans (hb19.mono HB18.out.size))
        clear hR hb19 HA18 HB18
        go_wp2
        go_ret
        exact ⟨rfl, HB19.out⟩
      | true =>
        obtain ⟨h2, hh2⟩ : ∃ h2, N / 2 = h2 := ⟨_, rfl⟩
        have hdiv : ((N : Nat) : Int).tdiv 2 = ((h2 : Nat) : Int) := by rw [Int.tdiv_eq_ediv_of_nonneg (by omega), ← hh2]; omega
        have hh2N : 2 * h2 ≤ N := by omega
        have HST : Hid (∃ T1, TurnedAt L w3 wb g N cg T1) := Lib.hid ⟨T, HTA.out⟩
        clear hh2 HTA HLT
        go_wp2
        go_loopw [52] (fun s52 wr => ∃ i : Nat, i ≤ h2 ∧ s52 = .int .i64 (i : Int) ∧ Hid (∃ T1, TurnedAt L w3 wr g N cg T1)) (fun s52 _ => h2 - (intOf s52).toNat)
        case atStart => exact ⟨0, Nat.zero_le _, rfl, HST⟩
        case round =>
          obtain ⟨i, hi, rfl, HKR⟩ := hrel
          obtain ⟨T1, hk1⟩ := HKR.out
          have HTA := Lib.hid hk1
          have HTL1 : Hid (T1.length = N) := Lib.hid (hk1.len HN.out)
          clear hk1 HKR
          by_cases hlt : i < h2
          · obtain ⟨j, hj⟩ : ∃ j, N - 1 - i = j := ⟨_, rfl⟩
            have hjz : (N : Int) - 1 - (i : Int) = (j : Int) := by omega
            have hltz : (i : Int) < (h2 : Int) := by omega
            have hij : i ≠ j := by omega
            have hjN : j < N := by omega
            have hiN : i < N := by omega
            obtain ⟨x1, hx1⟩ : ∃ x, T1[i]? = some x := ⟨_, List.getElem?_eq_getElem (by rw [HTL1.out]; exact hiN)⟩
            obtain ⟨x2, hx2⟩ : ∃ x, T1[j]? = some x := ⟨_, List.getElem?_eq_getElem (by rw [HTL1.out]; exact hjN)⟩
            have hwd : Below wr.heap.size wr wr.drew := ⟨rfl, rfl, rfl, Nat.le_refl _, fun _ _ => rfl⟩
            have hTd : TurnedAt L w3 wr.drew g N cg T1 := ⟨row_below HTA.out.own hwd, HTA.out.bel.trans (hwd.mono HTA.out.bel.size), HTA.out.perm⟩
            obtain ⟨wq, hwq⟩ : ∃ wq, wr.drew = wq := ⟨_, rfl⟩
            rw [hwq] at hTd
            have HTD := Lib.hid hTd
            have HS0 : Hid (Below w3.heap.size wr wq) := Lib.hid (by rw [← hwq]; exact ⟨rfl, rfl, rfl, Nat.le_refl _, fun _ _ => rfl⟩)
            obtain ⟨r0, r1, r2, r3, r4, r5⟩ := fact6 (hTd.at_ hx1)
            obtain ⟨s0, s1, s2, s3, s4, s5⟩ := fact6 (hTd.at_ hx2)
            have HX1 := Lib.hid hx1
            have HX2 := Lib.hid hx2
            have HGB := Lib.hid hTd.base
            have hiz : (i : Int) < (N : Int) := by omega
            have hjz2 : (j : Int) < (N : Int) := by omega
            clear hx1 hx2 hwd hTd hj
            go_wp2_with fail
            refine wp_region_since w3.heap.size (.two [0, 1, 2, 3, 4, 5, 6, 7, 8, 9, 10, 11, 12, 13, 14, 16, 17, 18] 15 (.one [] 19 (.one [20] 21 (.one [22] 23 (.last [])))) 19 (.one [] 15 (.one [20] 21 (.one [22] 23 (.last []))))) (by kernel_rfl) (by kernel_rfl) (fun d _ _ _ _ h => by cases d <;> exact h) ?_
            rw [hwq]
            clear hwq
            simp only [wpPlan, pick, nth]
            repeat (go_big_quiet_step (fail))
            refine wpQuiet_nil ?_
            refine ⟨?_, ?_⟩
            all_goals
              intro K hK
              refine alone_want (by kernel_rfl) ?_
              go_big_op
              refine hK _ _ (since_in HS0.out) ?_
              clear hK K
              refine wpQuiet_nil ?_
              intro K hK
              refine alone_want (by kernel_rfl) ?_
              go_big_op
              refine hK _ _ (since_in HS0.out) ?_
              clear hK K
              repeat (go_big_quiet_step (fail))
              refine wpQuiet_nil ?_
              intro K hK
              refine alone_want (by kernel_rfl) ?_
              refine wp_store_part (E := encF) 28 _ _ rfl w3.heap.size g N cg 28 T1 i x2 rfl rfl HTD.out.own HTL1.out hiN infoRs ?_
              intro wu hru hgu
              have HSU := Lib.hid (HS0.out.grown hgu (Nat.le_trans HTA.out.bel.size HS0.out.size) (fun k e => by cases e; exact HGB.out))
              have HRU := Lib.hid hru
              clear hru hgu
              refine hK _ _ (since_in HSU.out) ?_
              clear hK K r0 r1 r2 r3 r4 r5 s0 s1 s2 s3 s4 s5
              simp only [Act.put]
              repeat (go_big_quiet_step (fail))
              refine wpQuiet_nil ?_
              intro K hK
              refine alone_want (by kernel_rfl) ?_
              refine wp_store_part (E := encF) 28 _ _ rfl w3.heap.size g N cg 28 (T1.set i x2) j x1 rfl rfl HRU.out (by rw [List.length_set]; exact HTL1.out) hjN infoRs ?_
              intro wv hrv hgv
              have HSV := Lib.hid (HSU.out.grown hgv (Nat.le_trans HTA.out.bel.size HSU.out.size) (fun k e => by cases e; exact HGB.out))
              have HNX : Hid (∃ T1, TurnedAt L w3 wv g N cg T1) := Lib.hid ⟨_, hrv, HTA.out.bel.trans HSV.out, (swap_perm HX1.out HX2.out).trans HTA.out.perm⟩
              clear hrv hgv
              refine hK _ _ (since_in HSV.out) ?_
              clear hK K
              simp only [Act.put]
              refine wpQuiet_nil ?_
              go_wp2
              go_roundw
              case rel => exact ⟨i + 1, by omega, by go_num, HNX⟩
              case measure => simp [intOf]; omega
          · have hxx : ¬ (i : Int) < (h2 : Int) := by omega
            obtain ⟨T, hT⟩ : ∃ T, T1 = T := ⟨_, rfl⟩
            rw [hT] at HTA HTL1
            clear hT
            have HTV := Lib.hid (els_of_own (E := encF) (show wr.ownsRow w3.heap.size 28 6 (.slice (some ⟨g, 0, none⟩) N cg) T.length (flat encF T) from by rw [HTA.out.len HN.out]; exact HTA.out.own))
            have HTL : Hid (T.length = N) := Lib.hid (HTA.out.len HN.out)
            have HTP := Lib.hid HTA.out.perm
            have HBz := Lib.hid (HB3.out.trans (HTA.out.bel.mono HB3.out.size))
            have HVz := Lib.hid (HV3.out.keep HTA.out.bel)
            clear HTA HV3 HB3
            go_wp2_with fail
            refine (theirs_any _ L _ HVz.out (by have := HLN.out; omega)).mono ?_
            rintro e w4 ⟨v4, rfl, hr4, hb4⟩
            have HX4 := Lib.hid (els_of_own (E := encF) hr4)
            have HV4 := Lib.hid (HVz.out.keep hb4)
            have HT4 := Lib.hid (HTV.out.keep hb4)
            have HB4 := Lib.hid (HBz.out.trans (hb4.mono HBz.out.size))
            clear hr4 hb4 HVz HBz HTV
            go_wp2_with fail
            have hO := of_any v4 L w4 HX4.out HZ.out (by have := HLN.out; omega)
            rw [HFS.out.1] at hO
            refine hO.mono ?_
            rintro e w5 ⟨v5, rfl, hv5, hb5⟩
            obtain ⟨C, hC⟩ : ∃ C, cube L = C := ⟨_, rfl⟩
            have HC := Lib.hid hC
            have hv5' : FactsV w5 v5 C := by rw [← hC]; exact hv5
            have HCL : Hid (C.length ≤ 150) := Lib.hid (by rw [← hC]; exact HFS.out.2.2.1)
            obtain ⟨p5, c5, rfl, _, _, _, _⟩ := id hv5'
            have HA5 := Lib.hid hv5'
            have HV5 := Lib.hid (HV4.out.keep hb5)
            have HT5 := Lib.hid (HT4.out.keep hb5)
            have HB5 := Lib.hid (HB4.out.trans (hb5.mono HB4.out.size))
            clear hO hb5 hC hv5 hv5' HX4 HV4 HT4 HB4
            obtain ⟨m, hm⟩ : ∃ m, C.length = m := ⟨_, rfl⟩
            rw [hm] at HA5 ⊢
            clear hm
            go_wp2_with fail
            refine (theirs_any _ T _ HT5.out (by have := HLN.out; have := HTL.out; omega)).mono ?_
            rintro e w6 ⟨v6, rfl, hr6, hb6⟩
            have HX6 := Lib.hid (els_of_own (E := encF) hr6)
            have HV6 := Lib.hid (HV5.out.keep hb6)
            have HA6 := Lib.hid (HA5.out.keep hb6)
            have HB6 := Lib.hid (HB5.out.trans (hb6.mono HB5.out.size))
            clear hr6 hb6 HV5 HA5 HB5 HT5
            go_wp2_with fail
            have hO := of_any v6 T w6 HX6.out (in64_perm HZ.out HTP.out) (by have := HLN.out; have := HTL.out; omega)
            rw [ofL_perm HFS.out.2.2.2 (by have := HLN.out; omega) HTP.out, HC.out] at hO
            refine hO.mono ?_
            rintro e w7 ⟨v7, rfl, hv7, hb7⟩
            obtain ⟨p7, c7, rfl, _, _, _, _⟩ := id hv7
            have HBB7 : Hid (FactsV w7 (.slice p7 C.length c7) C) := Lib.hid hv7
            have HV7 := Lib.hid (HV6.out.keep hb7)
            have HA7 := Lib.hid (HA6.out.keep hb7)
            have HB7 := Lib.hid (HB6.out.trans (hb7.mono HB6.out.size))
            clear hO hb7 hv7 HX6 HV6 HA6 HB6
            rw [elsV_len HA7.out] at HBB7 ⊢
            have hs2 := fun W => part_hi W b o N cp q HQ.out.1 HQ.out.2
            have hqc : (q : Int) ≤ (cp : Int) := by have := HQ.out; omega
            go_wp2_with fail
            refine (theirs_any _ (L.take q) _ (facts_take HV7.out HN.out HQ.out.1) (by rw [List.length_take]; have := HLN.out; omega)).mono ?_
            rintro e w8 ⟨v8, rfl, hr8, hb8⟩
            have HX8 := Lib.hid (els_of_own (E := encF) hr8)
            have HV8 := Lib.hid (HV7.out.keep hb8)
            have HA8 := Lib.hid (HA7.out.keep hb8)
            have HBB8 := Lib.hid (HBB7.out.keep hb8)
            have HB8 := Lib.hid (HB7.out.trans (hb8.mono HB7.out.size))
            clear hr8 hb8 HV7 HA7 HB7 HBB7 hs2
            go_wp2_with fail
            have hO := of_any v8 (L.take q) w8 HX8.out (fun f hf => HZ.out f (List.mem_of_mem_take hf)) (by rw [List.length_take]; have := HLN.out; omega)
            rw [ofL_small (fun f hf => HFS.out.2.2.2 f (List.mem_of_mem_take hf)) (by rw [List.length_take]; have := HLN.out; omega)] at hO
            refine hO.mono ?_
            rintro e w9 ⟨v9, rfl, hv9, hb9⟩
            obtain ⟨p9, c9, rfl, _, _, _, _⟩ := id hv9
            have HP9 : Hid (FactsV w9 (.slice p9 (cube (L.take q)).length c9) (cube (L.take q))) := Lib.hid hv9
            have HV9 := Lib.hid (HV8.out.keep hb9)
            have HA9 := Lib.hid (HA8.out.keep hb9)
            have HBB9 := Lib.hid (HBB8.out.keep hb9)
            have HB9 := Lib.hid (HB8.out.trans (hb9.mono HB8.out.size))
            clear hO hb9 hv9 HX8 HV8 HA8 HB8 HBB8
            obtain ⟨m1, hm1⟩ : ∃ m, (cube (L.take q)).length = m := ⟨_, rfl⟩
            rw [hm1] at HP9 ⊢
            clear hm1
            have hs1 := fun W => part_lo W b o N cp q HQ.out.1 HQ.out.2
            obtain ⟨V1, hV1⟩ : ∃ V1, (Value.slice (some ((⟨b, o, none⟩ : Addr).add (q * 6))) (N - q) (cp - q)) = V1 := ⟨_, rfl⟩
            have HD9 := facts_drop HV9.out HN.out HQ.out.1
            rw [hV1] at hs1 HD9
            have HDD := Lib.hid HD9
            clear HD9 hV1
            go_wp2_with fail
            refine (theirs_any _ (L.drop q) _ HDD.out (by rw [List.length_drop]; have := HLN.out; omega)).mono ?_
            rintro e w10 ⟨v10, rfl, hr10, hb10⟩
            have HX10 := Lib.hid (els_of_own (E := encF) hr10)
            have HP10 := Lib.hid (HP9.out.keep hb10)
            have HA10 := Lib.hid (HA9.out.keep hb10)
            have HBB10 := Lib.hid (HBB9.out.keep hb10)
            have HB10 := Lib.hid (HB9.out.trans (hb10.mono HB9.out.size))
            clear hr10 hb10 HV9 HA9 HB9 HBB9 HP9 hs1 HDD
            go_wp2_with fail
            have hO := of_any v10 (L.drop q) w10 HX10.out (fun f hf => HZ.out f (List.mem_of_mem_drop hf)) (by rw [List.length_drop]; have := HLN.out; omega)
            rw [ofL_small (fun f hf => HFS.out.2.2.2 f (List.mem_of_mem_drop hf)) (by rw [List.length_drop]; have := HLN.out; omega)] at hO
            refine hO.mono ?_
            rintro e w11 ⟨v11, rfl, hv11, hb11⟩
            obtain ⟨p11, c11, rfl, _, _, _, _⟩ := id hv11
            have HQ11 : Hid (FactsV w11 (.slice p11 (cube (L.drop q)).length c11) (cube (L.drop q))) := Lib.hid hv11
            have HP11 := Lib.hid (HP10.out.keep hb11)
            have HA11 := Lib.hid (HA10.out.keep hb11)
            have HBB11 := Lib.hid (HBB10.out.keep hb11)
            have HB11 := Lib.hid (HB10.out.trans (hb11.mono HB10.out.size))
            clear hO hb11 hv11 HX10 HP10 HA10 HB10 HBB10
            obtain ⟨m2, hm2⟩ : ∃ m, (cube (L.drop q)).length = m := ⟨_, rfl⟩
            rw [hm2] at HQ11 ⊢
            clear hm2
            go_wp2_with fail
            have hb1 : Bnd B1 (cube (L.take q)) := cube_bnd1 (fun f hf => HFS.out.2.2.2 f (List.mem_of_mem_take hf)) (by rw [List.length_take]; have := HLN.out; omega)
            have hb2 : Bnd B1 (cube (L.drop q)) := cube_bnd1 (fun f hf => HFS.out.2.2.2 f (List.mem_of_mem_drop hf)) (by rw [List.length_drop]; have := HLN.out; omega)
            have hA := add_any _ _ (cube (L.take q)) (cube (L.drop q)) w11 HP11.out HQ11.out (bnd_in64 hb1) (bnd_in64 hb2) (Nat.le_trans (cube_length _) (by rw [List.length_take]; have := HLN.out; omega)) (Nat.le_trans (cube_length _) (by rw [List.length_drop]; have := HLN.out; omega))
            rw [ofL_two (cube_rise _) (cube_rise _) hb1 hb2, cube_parts _ _ L (isum_split L q), HC.out] at hA
            refine hA.mono ?_
            rintro e w12 ⟨v12, rfl, hv12, hb12⟩
            obtain ⟨p12, c12, rfl, _, _, _, _⟩ := id hv12
            have HS12 : Hid (FactsV w12 (.slice p12 C.length c12) C) := Lib.hid hv12
            have HA12 := Lib.hid (HA11.out.keep hb12)
            have HBB12 := Lib.hid (HBB11.out.keep hb12)
            have HB12 := Lib.hid (HB11.out.trans (hb12.mono HB11.out.size))
            clear hA hb1 hb2 hb12 hv12 HP11 HQ11 HA11 HB11 HBB11
            rw [elsV_len HA12.out] at HS12 ⊢
            go_wp2_with fail
            refine (ours_any _ C w12 HA12.out (by have := HCL.out; omega)).mono ?_
            rintro e w13 ⟨v13, rfl, hr13, hb13⟩
            have HO13 := Lib.hid (els_of_own (E := encF) hr13)
            have HA13 := Lib.hid (HA12.out.keep hb13)
            have HBB13 := Lib.hid (HBB12.out.keep hb13)
            have HS13 := Lib.hid (HS12.out.keep hb13)
            have HB13 := Lib.hid (HB12.out.trans (hb13.mono HB12.out.size))
            clear hr13 hb13 HA12 HB12 HBB12 HS12
            go_wp2_with fail
            refine (ours_any _ C w13 HBB13.out (by have := HCL.out; omega)).mono ?_
            rintro e w14 ⟨v14, rfl, hr14, hb14⟩
            have HO14 := Lib.hid (els_of_own (E := encF) hr14)
            have HOA14 := Lib.hid (HO13.out.keep hb14)
            have HA14 := Lib.hid (HA13.out.keep hb14)
            have HS14 := Lib.hid (HS13.out.keep hb14)
            have HB14 := Lib.hid (HB13.out.trans (hb14.mono HB13.out.size))
            clear hr14 hb14 HA13 HB13 HBB13 HS13 HO13
            go_wp2_with fail
            have hS := same_any _ _ C C w14 HOA14.out HO14.out
            rw [show sameL C C = true from decide_eq_true rfl] at hS
            refine hS.mono ?_
            rintro e w15 ⟨rfl, hb15⟩
            have HA15 := Lib.hid (HA14.out.keep hb15)
            have HS15 := Lib.hid (HS14.out.keep hb15)
            have HB15 := Lib.hid (HB14.out.trans (hb15.mono HB14.out.size))
            clear hS hb15 HA14 HB14 HS14 HO14 HOA14
            go_wp2_with fail
            refine (ours_any _ C w15 HA15.out (by have := HCL.out; omega)).mono ?_
            rintro e w16 ⟨v16, rfl, hr16, hb16⟩
            have HO16 := Lib.hid (els_of_own (E := encF) hr16)
            have HA16 := Lib.hid (HA15.out.keep hb16)
            have HS16 := Lib.hid (HS15.out.keep hb16)
            have HB16 := Lib.hid (HB15.out.trans (hb16.mono HB15.out.size))
            clear hr16 hb16 HA15 HB15 HS15
            go_wp2_with fail
            refine (ours_any _ C w16 HS16.out (by have := HCL.out; omega)).mono ?_
            rintro e w17 ⟨v17, rfl, hr17, hb17⟩
            have HO17 := Lib.hid (els_of_own (E := encF) hr17)
            have HOA17 := Lib.hid (HO16.out.keep hb17)
            have HA17 := Lib.hid (HA16.out.keep hb17)
            have HB17 := Lib.hid (HB16.out.trans (hb17.mono HB16.out.size))
            clear hr17 hb17 HA16 HB16 HS16 HO16
            go_wp2_with fail
            have hS := same_any _ _ C C w17 HOA17.out HO17.out
            rw [show sameL C C = true from decide_eq_true rfl] at hS
            refine hS.mono ?_
            rintro e w18 ⟨rfl, hb18⟩
            have HA18 := Lib.hid (HA17.out.keep hb18)
            have HB18 := Lib.hid (HB17.out.trans (hb18.mono HB17.out.size))
            clear hS hb18 HA17 HB17 HO17 HOA17
            go_wp2_with fail
            have hR := right_any _ C w18 HA18.out (by have := HCL.out; omega)
            rw [← HC.out, cube_right L (by have := HLN.out; have := HN.out; omega)] at hR
            refine hR.mono ?_
            rintro e w19 ⟨rfl, hb19⟩
            have HB19 := Lib.hid (HB18.out.trans (hb19.mono HB18.out.size))
            clear hR hb19 HA18 HB18
            go_wp2
            go_ret
            exact ⟨rfl, HB19.out⟩
end Go.Proofs.Ytimeebildbmhaaa.Fa
