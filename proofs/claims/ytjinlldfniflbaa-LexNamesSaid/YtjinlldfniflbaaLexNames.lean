
/- The walk of LexNames: it returns true. -/
import Derived.Test.YtjinlldfniflbaaLexAlive
import Derived.RegionTactic
import Derived.Laws.IdiomStrings
namespace Go.Proofs.Ytjinlldfniflbaa
open Go.RowKit

theorem inB_ok (c : UInt8) (h : inB c.toNat = true) : okB c = true ∧ gapB c = false ∧ c ≠ 10 ∧ c ≠ 35 := by
  have h1 := of_decide_eq_true h
  refine ⟨by rw [okB_dec]; exact decide_eq_true (by omega), ?_, fun e => ?_, fun e => ?_⟩
  · rw [← gapR_byte]
    unfold gapR
    rw [Bool.or_eq_false_iff]
    exact ⟨beq_false_of_ne (by omega), beq_false_of_ne (by omega)⟩
  · subst e; revert h1; decide
  · subst e; revert h1; decide
theorem nameL_parts (l : List UInt8) (h : nameL l = true) : 1 ≤ l.length ∧ l.length ≤ 12 ∧ letB (l.headD 0).toNat = true ∧ (l.all fun c => inB c.toNat) = true := by
  unfold nameL at h
  rw [Bool.and_eq_true, Bool.and_eq_true] at h
  have := of_decide_eq_true h.1.1
  exact ⟨this.1, this.2, h.1.2, h.2⟩
theorem name_linesL (l : List UInt8) (h : nameL l = true) : okL l = true ∧ linesL l = [(1, [l])] := by
  obtain ⟨h1, h2, _, h3⟩ := nameL_parts l h
  have hin := List.all_eq_true.1 h3
  have h10 : (10 : UInt8) ∉ l := fun hm => (inB_ok _ (hin _ hm)).2.2.1 rfl
  have h35 : (35 : UInt8) ∉ l := fun hm => (inB_ok _ (hin _ hm)).2.2.2 rfl
  have hne : l ≠ [] := fun e => by subst e; simp at h1
  have hw : wordsL l = [l] := by
    unfold wordsL
    rw [said_none l h35]
    have := fieldsGo_word [] l [] (List.all_eq_true.2 fun c hc => by rw [(inB_ok c (hin c hc)).2.1]; rfl)
    rw [List.append_nil, List.nil_append] at this
    rw [this]
    simp [fieldsGo, hne]
  refine ⟨List.all_eq_true.2 fun c hc => (inB_ok c (hin c hc)).1, ?_⟩
  unfold linesL
  rw [linesGo_last l h10]
  simp [enumL, numP, hw]
theorem name_lines (s : ByteArray) (w : World) (h : nameL s.data.toList = true) : Calls Try.prog 11 #[.string s] w (LinesPost w [(1, [s])] 0) := by
  obtain ⟨h1, h2, _⟩ := nameL_parts _ h
  obtain ⟨ho, hl⟩ := name_linesL _ h
  have hz := size_list s
  have := lines_good s w (by omega) ho
  rw [hl] at this
  simp only [asB, List.map_cons, List.map_nil, mkB_list] at this
  exact this
/-- Is a name with one byte more one? -/
theorem name_more (l : List UInt8) (h : nameL l = true) (k : Nat) (hk : k ≤ l.length) (c : UInt8) :
    nameL (l.take k ++ c :: l.drop k) = (decide (letB c.toNat = true ∨ 0 < k ∧ inB c.toNat = true) && decide (l.length + 1 ≤ 12)) := by
  obtain ⟨h1, h2, h3, h4⟩ := nameL_parts l h
  have hall : ((l.take k ++ c :: l.drop k).all fun c => inB c.toNat) = inB c.toNat := by
    rw [List.all_append, List.all_cons]
    have a : (l.take k).all (fun c => inB c.toNat) = true := List.all_eq_true.2 fun x hx => List.all_eq_true.1 h4 x (List.mem_of_mem_take hx)
    have b : (l.drop k).all (fun c => inB c.toNat) = true := List.all_eq_true.2 fun x hx => List.all_eq_true.1 h4 x (List.mem_of_mem_drop hx)
    rw [a, b]; simp
  have hlen : (l.take k ++ c :: l.drop k).length = l.length + 1 := by simp; omega
  have hli : letB c.toNat = true → inB c.toNat = true := fun e => by
    have := of_decide_eq_true e
    exact decide_eq_true (by omega)
  unfold nameL
  rw [hall, hlen]
  rw [Bool.eq_iff_iff]
  simp only [Bool.and_eq_true, decide_eq_true_eq]
  by_cases h0 : k = 0
  · subst h0
    simp only [List.take_zero, List.nil_append, List.headD_cons, Nat.lt_irrefl, false_and, or_false]
    constructor
    · rintro ⟨⟨a, b⟩, c⟩; exact ⟨b, a.2⟩
    · rintro ⟨a, b⟩; exact ⟨⟨⟨by omega, b⟩, a⟩, hli a⟩
  · have hh : (l.take k ++ c :: l.drop k).headD 0 = l.headD 0 := by
      cases l with
      | nil => simp at hk; omega
      | cons x r =>
        cases k with
        | zero => exact absurd rfl h0
        | succ k => simp
    rw [hh]
    constructor
    · rintro ⟨⟨a, b⟩, c⟩; exact ⟨.inr ⟨by omega, c⟩, a.2⟩
    · rintro ⟨a, b⟩; exact ⟨⟨⟨by omega, b⟩, h3⟩, a.elim hli (·.2)⟩

set_option maxRecDepth 100000 in
set_option maxHeartbeats 4000000 in
theorem lexNames_good (s : ByteArray) (m : Nat) (cy : UInt8) (w : World) (hm : m < 256) (h : nameL s.data.toList = true) :
    Calls Try.prog 5 #[.string s, .int .u8 (m : Int), .int .u8 (cy.toNat : Int)] w fun e w' => e = .returned (.bool true) ∧ Below w.heap.size w w' := by
  obtain ⟨h1, h2, _⟩ := nameL_parts _ h
  rw [size_list] at h1 h2
  have HN := Lib.hid h
  have HL := Lib.hid (fun W => name_lines s W h)
  clear h
  have a1 : ¬ 3000 < s.size := by omega
  have a2 : ¬ 12 < s.size := by omega
  have hs : s.size ≤ maxLen := by unfold maxLen; omega
  have HS := Lib.hid hs
  clear hs
  go_enter Try.func5, Try.ntmps5
  go_wp2_with fail
  refine (alive_any _).mono ?_
  rintro e w1 ⟨rfl, hb1⟩
  have HB1 := Lib.hid hb1
  clear hb1
  go_wp2_with fail
  refine (name_any s _ HS.out).mono ?_
  rintro e w' ⟨rfl, rfl⟩
  rw [HN.out]
  go_wp2_with fail
  refine (HL.out _).mono ?_
  rintro e w2 ⟨v, rfl, hv, hb2⟩
  have HB2 := Lib.hid (HB1.out.trans (hb2.mono HB1.out.size))
  clear hb2
  obtain ⟨a, c, rfl, _, hc⟩ := hv
  obtain ⟨b, o, u, rfl, d1, d2, hu⟩ := hc 0 _ rfl
  obtain ⟨a2', c2, rfl, _, _, hc2⟩ := hu
  obtain ⟨b2, o2, rfl, d3⟩ := hc2 0 _ rfl
  simp only [Nat.zero_mul, Nat.add_zero] at d1 d2 d3
  simp only [List.length_cons, List.length_nil, Nat.zero_add] at d2 ⊢
  clear hc hc2
  go_upto_region 9 with (fail)
  have hkk : ((m : Int) % ((s.size : Int) + 1)) = ((m % (s.size + 1) : Nat) : Int) := by rw [Int.natCast_emod, Int.natCast_add]; rfl
  rw [hkk]
  clear hkk
  have hkl : m % (s.size + 1) ≤ s.size := by have := Nat.mod_lt m (show 0 < s.size + 1 by omega); omega
  obtain ⟨k, hk⟩ : ∃ k, m % (s.size + 1) = k := ⟨_, rfl⟩
  rw [hk] at hkl ⊢
  have HK := Lib.hid hk
  clear hk
  have c1 : (0 : Int) ≤ ↑k := by omega
  have c2 : (↑k : Int) ≤ ↑s.size := by omega
  have e1 : (s.extract 0 k).size ≤ 12 := by rw [← size_list, piece_ahead, mkB_data, List.length_take]; omega
  have e2 : (s.extract k s.size).size ≤ 12 := by rw [← size_list, piece_behind, mkB_data, List.length_drop, size_list]; omega
  obtain ⟨u1, hu1⟩ : ∃ u, s.extract 0 k = u := ⟨_, rfl⟩
  obtain ⟨u2, hu2⟩ : ∃ u, s.extract k s.size = u := ⟨_, rfl⟩
  rw [hu1] at e1
  rw [hu2] at e2
  have hcv : (convert 41 9 (.slice (some ⟨w2.heap.size, 0, none⟩) 1 1)).run Try.prog (w2.alloc (.cells #[.int .u8 (cy.toNat : Int)] 5)).drew = .ok (.string ⟨#[cy]⟩) (w2.alloc (.cells #[.int .u8 (cy.toNat : Int)] 5)).drew :=
    run_convert_bytes_back _ _ _ _ ⟨w2.heap.size, 0, none⟩ 1 [cy] Try.underlying41 Try.underlying5 Try.underlying9 (fun j hj => by
      have h0 : j = 0 := by simp at hj; exact hj
      subst h0
      simp [Addr.add])
  have htl : (u1 ++ ⟨#[cy]⟩ ++ u2).data.toList = s.data.toList.take k ++ cy :: s.data.toList.drop k := by
    rw [← hu1, ← hu2, piece_ahead, piece_behind]
    simp [mkB, ByteArray.data_append]
  have HTN : Hid (nameL (u1 ++ ⟨#[cy]⟩ ++ u2).data.toList = (decide (letB cy.toNat = true ∨ 0 < k ∧ inB cy.toNat = true) && decide (s.size + 1 ≤ 12))) := Lib.hid (by
    rw [htl, name_more _ HN.out k (by rw [size_list]; exact hkl), size_list])
  have HTS : Hid ((u1 ++ ⟨#[cy]⟩ ++ u2).size = s.size + 1) := Lib.hid (by
    rw [← size_list, htl]
    have := size_list s
    simp only [List.length_append, List.length_take, List.length_cons, List.length_drop]
    omega)
  clear htl
  go_region
  clear hcv hu1 hu2
  obtain ⟨tt, htt⟩ : ∃ t, u1 ++ ⟨#[cy]⟩ ++ u2 = t := ⟨_, rfl⟩
  rw [htt] at HTN HTS ⊢
  clear htt
  obtain ⟨B, hB⟩ : ∃ B, nameL tt.data.toList = B := ⟨_, rfl⟩
  have HBI : Hid (B = true ↔ ((97 ≤ cy.toNat ∧ cy.toNat ≤ 122 ∨ 65 ≤ cy.toNat ∧ cy.toNat ≤ 90) ∨ 0 < k ∧ ((97 ≤ cy.toNat ∧ cy.toNat ≤ 122 ∨ 65 ≤ cy.toNat ∧ cy.toNat ≤ 90) ∨ 48 ≤ cy.toNat ∧ cy.toNat ≤ 57 ∨ cy.toNat = 46 ∨ cy.toNat = 95 ∨ cy.toNat = 45)) ∧ tt.size ≤ 12) := Lib.hid (by
    rw [← hB, HTN.out, HTS.out, Bool.and_eq_true, decide_eq_true_iff, decide_eq_true_iff]
    unfold letB inB
    rw [decide_eq_true_iff, decide_eq_true_iff])
  have HNM : Hid (∀ W, Calls Try.prog 15 #[.string tt] W fun e w' => e = .returned (.bool B) ∧ W = w') := Lib.hid fun W => by
    rw [← hB]
    exact name_any tt W (by rw [HTS.out]; unfold maxLen; omega)
  have HB3 := Lib.hid (fun x : Value => below_drewN (HB2.out.alloc HB2.out.size (.cells #[x] 5)) 1)
  have hts : tt.size ≤ 13 := by rw [HTS.out]; omega
  clear hB HTN HTS e1 e2 d1 d2 d3
  have hcy : cy.toNat < 256 := UInt8.toNat_lt cy
  go_wp2_with (go_at_call 15; refine (HNM.out _).mono ?_; rintro e w' ⟨rfl, rfl⟩)
  all_goals
    go_ret
    refine ⟨ret_true ?_, HB3.out _⟩
    have hh := HBI.out
    clear HBI HNM HB3 HK HN HL HS HB1 HB2
    cases B with
    | true =>
      have h3 := hh.1 rfl
      clear hh
      first | (simp; omega) | simp_all
    | false =>
      have h3 : ¬ _ := fun hp => Bool.noConfusion (hh.2 hp)
      clear hh
      first | rfl | (simp; omega)

set_option maxRecDepth 100000 in
set_option maxHeartbeats 1000000 in
theorem lexNames_walk (s : ByteArray) (m y : Int) (w : World) (hs : s.size ≤ maxLen) (hm : InU8 m) (hy : InU8 y) :
    Calls Try.prog 5 #[.string s, .int .u8 m, .int .u8 y] w fun e w' => e = .returned (.bool true) ∧ Below w.heap.size w w' := by
  obtain ⟨hm0, hm1⟩ := hm
  obtain ⟨hy0, hy1⟩ := hy
  by_cases h3 : 3000 < s.size
  · clear hs
    go_enter Try.func5, Try.ntmps5
    go_wp2_with fail
    refine (alive_any _).mono ?_
    rintro e w1 ⟨rfl, hb1⟩
    go_wp2
    go_ret
    exact ⟨rfl, hb1⟩
  · cases hn : nameL s.data.toList with
    | true =>
      obtain ⟨m', rfl⟩ : ∃ m' : Nat, m = (m' : Int) := ⟨m.toNat, by omega⟩
      obtain ⟨cy, rfl⟩ : ∃ cy : UInt8, y = (cy.toNat : Int) := ⟨UInt8.ofNat y.toNat, by rw [UInt8.toNat_ofNat', Nat.mod_eq_of_lt (by omega)]; omega⟩
      exact lexNames_good s m' cy w (by omega) hn
    | false =>
      have HN := Lib.hid hn
      have HS := Lib.hid hs
      clear hn hs
      go_enter Try.func5, Try.ntmps5
      go_wp2_with fail
      refine (alive_any _).mono ?_
      rintro e w1 ⟨rfl, hb1⟩
      go_wp2_with fail
      refine (name_any s _ HS.out).mono ?_
      rintro e w' ⟨rfl, rfl⟩
      rw [HN.out]
      go_wp2
      go_ret
      exact ⟨rfl, hb1⟩
end Go.Proofs.Ytjinlldfniflbaa
