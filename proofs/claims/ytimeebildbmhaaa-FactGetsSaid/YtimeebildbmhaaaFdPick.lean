
/- The walks of the document's Pick and Sum: what fits of a cube, and what it comes to. -/
import Derived.Test.YtimeebildbmhaaaFdRight
import Derived.Test.YtimeebildbmhaaaFaAsk
import Derived.Test.YtimeebildbmhaaaFaOurs
namespace Go.Proofs.Ytimeebildbmhaaa.Fa
open Go.RowKit

theorem askC (b n : ByteArray) : (b.toList.isEmpty = true ∧ askB b n = true) ∨ (b.toList.isEmpty = false ∧ (n.toList == b.toList) = true ∧ askB b n = true) ∨ (b.toList.isEmpty = false ∧ (n.toList == b.toList) = false ∧ askB b n = false) := by
  by_cases h0 : b = ⟨#[]⟩
  · subst h0
    exact .inl ⟨by simp [ByteArray.toList_eq], by simp [askB]⟩
  · have h1 : b.toList.isEmpty = false := by simpa using toList_nil h0
    by_cases h2 : n.toList = b.toList
    · have e : n = b := toList_inj h2
      subst e
      exact .inr (.inl ⟨h1, by simp, by simp [askB]⟩)
    · refine .inr (.inr ⟨h1, by simpa using h2, ?_⟩)
      unfold askB
      exact decide_eq_false (fun h => h.elim h0 (fun e => h2 (by rw [e])))
theorem el_newF (w : World) (y : Fact) (t : TypeId) : ElAt encF (w.alloc (.cells (encF.cs y).toArray t)) w.heap.size 0 y := el_new encF w y t
theorem el_new1I (w : World) (o : Obj) (y : Int) (t : TypeId) : ElAt encI ((w.alloc o).alloc (.cells #[.int .i64 y] t)) (w.heap.size + 1) 0 y := by
  have := el_new encI (w.alloc o) y t
  rw [World.size_alloc] at this
  exact this
set_option maxRecDepth 100000 in
set_option maxHeartbeats 8000000 in
theorem rpick_any (v : Value) (c : List Fact) (e : ByteArray) (m : Int) (w : World) (h : FactsV w v c) (hL : c.length ≤ 1000) :
    Calls Try.prog 28 #[v, .string e, .int .i64 m] w fun e' w' => ∃ u, e' = .returned u ∧ w'.ownsRow w.heap.size 28 6 u (pickL c e m).length (flat encF (pickL c e m)) ∧ Below w.heap.size w w' := by
  have HV := Lib.hid h
  obtain ⟨p, cp, rfl, hcap, hmx, _, _⟩ := h
  obtain ⟨n, hn⟩ : ∃ n, c.length = n := ⟨_, rfl⟩
  rw [hn] at hcap hL HV ⊢
  have HN := Lib.hid hn
  obtain ⟨S, hS⟩ : ∃ S, pickL c e m = S := ⟨_, rfl⟩
  rw [hS]
  have HS := Lib.hid hS
  unfold maxLen at hmx
  clear hn hS
  go_enter Try.func28, Try.ntmps28
  go_wp2
  go_loopw [7, 8] (fun s7 s8 wr => ∃ i : Nat, s8 = .int .i64 (i : Int) ∧ i ≤ n ∧ Hid (wr.ownsRow w.heap.size 28 6 s7 (picks c e m i).length (flat encF (picks c e m i))) ∧ Hid (Below w.heap.size w wr)) (fun _ s8 _ => n - (intOf s8).toNat)
  case atStart => exact ⟨0, rfl, Nat.zero_le _, World.ownsRow_nil _ _ _ _, Lib.hid (Below.refl _ _)⟩
  case round =>
    obtain ⟨i, rfl, hin, HO, HB⟩ := hrel
    by_cases hlt : i < n
    · obtain ⟨x, hx⟩ : ∃ x, c[i]? = some x := ⟨_, List.getElem?_eq_getElem (by rw [HN.out]; exact hlt)⟩
      obtain ⟨b, o, rfl, hat⟩ := ElsV.at_ HV.out hx
      obtain ⟨r0, r1, r2, r3, r4, r5⟩ := fact6 (hat.keep HB.out hat.lt)
      simp only [show encF.k = 6 from rfl] at r0 r1 r2 r3 r4 r5
      have HX := Lib.hid hx
      have HLI := Lib.hid (picks_length c e m i)
      have HSZ := Lib.hid HB.out.size
      clear hx hat
      rcases askC e x.key.e with ⟨hz1, hb1⟩ | ⟨hz1, ht1, hb1⟩ | ⟨hz1, ht1, hb1⟩
      rotate_left 2
      · have HFN := Lib.hid (picks_no HX.out (show pickB e m x = false by unfold pickB; rw [hb1]; rfl))
        clear hb1
        go_wp2
        go_roundw
        case rel => exact ⟨i + 1, by go_num, by omega, by rw [HFN.out]; exact HO, HB⟩
        case measure => simp [intOf]; omega
      all_goals
        by_cases hmn : m < 0
        · have HFN := Lib.hid (picks_yes HX.out (show pickB e m x = true by unfold pickB; rw [hb1, decide_eq_true hmn]; rfl))
          have hd : decide (m < 0) = true := decide_eq_true hmn
          clear hb1
          go_wp2_with (at_builtin; refine wpList_append_el (E := encF) rfl _ _ 22 28 rfl infoR w.heap.size (picks c e m i) x wr.heap.size (HO.out.alloc _) rfl (el_newF _ _ _) (by have := HSZ.out; simp; omega) (by have := HLI.out; omega) ?_; intro v9 w9 hr9 hb9 hg9)
          have HR9 := Lib.hid hr9
          have HB9 : Hid (Below w.heap.size w w9) := Lib.hid ((HB.out.alloc HSZ.out _).trans hb9)
          clear hr9 hb9 hg9
          go_wp2
          go_roundw
          case rel => exact ⟨i + 1, by go_num, by omega, by rw [HFN.out]; exact HR9, HB9⟩
          case measure => simp [intOf]; omega
        · by_cases hmm : x.key.m = m
          · have HFN := Lib.hid (picks_yes HX.out (show pickB e m x = true by unfold pickB; rw [hb1, decide_eq_true hmm]; simp))
            have hb : (x.key.m == m) = true := by rw [beq_iff_eq]; exact hmm
            clear hb1 hmm
            go_wp2_with (at_builtin; refine wpList_append_el (E := encF) rfl _ _ 22 28 rfl infoR w.heap.size (picks c e m i) x wr.heap.size (HO.out.alloc _) rfl (el_newF _ _ _) (by have := HSZ.out; simp; omega) (by have := HLI.out; omega) ?_; intro v9 w9 hr9 hb9 hg9)
            have HR9 := Lib.hid hr9
            have HB9 : Hid (Below w.heap.size w w9) := Lib.hid ((HB.out.alloc HSZ.out _).trans hb9)
            clear hr9 hb9 hg9
            go_wp2
            go_roundw
            case rel => exact ⟨i + 1, by go_num, by omega, by rw [HFN.out]; exact HR9, HB9⟩
            case measure => simp [intOf]; omega
          · have HFN := Lib.hid (picks_no HX.out (show pickB e m x = false by unfold pickB; rw [hb1, decide_eq_false hmm, decide_eq_false hmn]; rfl))
            have hb : (x.key.m == m) = false := by rw [beq_eq_false_iff_ne]; exact hmm
            clear hb1 hmm
            go_wp2
            go_roundw
            case rel => exact ⟨i + 1, by go_num, by omega, by rw [HFN.out]; exact HO, HB⟩
            case measure => simp [intOf]; omega
    · obtain rfl : i = n := by omega
      have hE : picks c e m i = S := by
        rw [← HS.out]
        unfold picks pickL
        rw [List.take_of_length_le (by rw [HN.out]; exact Nat.le_refl _)]
      have HO3 := HO.out
      rw [hE] at HO3
      have HO4 := Lib.hid HO3
      clear HO3 hE HO
      go_wp2
      go_ret
      exact ⟨_, rfl, HO4.out, HB.out⟩
end Go.Proofs.Ytimeebildbmhaaa.Fa
