
/- The walks of flow.Of, the document's Of, flow.has and flow.Whole: what the plain facts say, in new memory; what was there stays. -/
import Derived.Test.YtkacidoflmbjkaaDoorFlowPlain
import Derived.Test.YtkacidoflmbjkaaDoorChartNew
import Derived.Test.YtkacidoflmbjkaaDoorBase
import Derived.Test.YtkacidoflmbjkaaDoorProg
import Derived.WalkKit
import Derived.WalkSpells
import Derived.Lib.Hide
import Derived.OwnWalk
import Derived.Handy
import Derived.LoopTactic
namespace Go.Proofs.YtkacidoflmbjkaaDoor.Fl
open Go.RowKit

theorem info_str : (Tryd.prog.info? 9).map (fun i => (i.zero, i.size, i.bytes)) = some (some (.string ⟨#[]⟩), 1, 16) := by kernel_rfl
/-- Texts are told in new memory. -/
def StrsTold (w : World) (ws : List ByteArray) (e : Ending) (w' : World) : Prop := ∃ v, e = .returned v ∧ StrsV w' v ws ∧ Below w.heap.size w w'
/-- What the round of Of holds. -/
def OfAt (w : World) (e : TypeId) (L : List Flow) (k : Int) (s5 si : Value) (wr : World) : Prop :=
  ∃ i : Nat, i ≤ L.length ∧ si = .int .i64 (i : Int) ∧ wr.ownsRow w.heap.size e 1 s5 (ofF (L.take i) k).length ((ofF (L.take i) k).map Value.string) ∧ Below w.heap.size w wr
theorem ofF_snoc (L : List Flow) (f : Flow) (k : Int) : ofF (L ++ [f]) k = if f.kind = k then ofF L k ++ [f.code] else ofF L k := by
  unfold ofF
  rw [List.filter_append, List.map_append, List.filter_cons]
  by_cases h : f.kind = k <;> simp [h]
theorem ofF_len_le (L : List Flow) (k : Int) : (ofF L k).length ≤ L.length := by rw [ofF_length]; exact List.length_filter_le _ _
set_option maxRecDepth 100000 in
set_option maxHeartbeats 2000000 in
theorem of_any (v : Value) (L : List Flow) (k : Int) (w : World) (h : FlowsV w v L) (hL : L.length ≤ 1000) :
    Calls Tryd.prog 19 #[v, .int .i64 k] w (StrsTold w (ofF L k)) := by
  obtain ⟨a, c, rfl, hcap, hm, _, hc⟩ := h
  obtain ⟨i0, hi, hz0, hz1, hz2⟩ := info_parts info_str
  have HI := Lib.hid (And.intro hi (And.intro hz0 (And.intro hz1 hz2)))
  have HC := Lib.hid hc
  clear hi hz0 hz1 hz2 hc
  unfold maxLen at hm
  go_enter Tryd.func19, Tryd.ntmps19
  go_wp2
  go_loopw [5, 10] (fun s5 s10 wr => OfAt w 9 L k s5 s10 wr) (fun _ s10 _ => L.length - (intOf s10).toNat)
  case atStart => exact ⟨0, Nat.zero_le _, rfl, World.ownsRow_nil _ _ _ _, Below.refl _ _⟩
  case round =>
    obtain ⟨i, hik, rfl, hown, hnx⟩ := hrel
    by_cases hlt : i < L.length
    · obtain ⟨x, hx⟩ : ∃ x, L[i]? = some x := ⟨_, List.getElem?_eq_getElem hlt⟩
      obtain ⟨b, o, rfl, hat⟩ := HC.out i x hx
      obtain ⟨c0, c1⟩ := two (hat.keep hnx hat.lt)
      have HT : Hid (ofF (L.take (i + 1)) k = if x.kind = k then ofF (L.take i) k ++ [x.code] else ofF (L.take i) k) := Lib.hid (by
        rw [take_at L i hlt]
        rw [List.getElem?_eq_getElem hlt] at hx
        rw [Option.some.inj hx]; exact ofF_snoc _ _ _)
      have hle := ofF_len_le (L.take i) k
      have hlk : (L.take i).length = i := by rw [List.length_take]; omega
      rw [hlk] at hle
      have HLE := Lib.hid hle
      have hsz := hnx.size
      clear hx hat hlk hle
      by_cases hk : x.kind = k
      · have hkz : (x.kind == k) = true := by simpa using hk
        have HKK := Lib.hid hk
        clear hk
        go_wp2_with (at_builtin; refine wpList_append_own _ rfl _ _ 24 rfl w.heap.size 9 i0 (.string ⟨#[]⟩) 1 16 Tryd.underlying24 HI.out.1 HI.out.2.1 HI.out.2.2.1 HI.out.2.2.2 rfl (by decide) _ _ _ rfl ((hown.alloc _).alloc _) ⟨wr.heap.size + 1, 0, none⟩ 1 1 [.string x.code] rfl rfl (new_cells2 wr _ [.string x.code] _) (by intro u hu; simp at hu; subst hu; rfl) (by have := HLE.out; unfold maxLen; omega) (by have := HLE.out; omega) (by simp; omega) ?_; intro v' w1 hown' hgrow _)
        go_roundw
        case rel =>
          refine ⟨i + 1, by omega, by go_num, ?_, ?_⟩
          · rw [HT.out, if_pos HKK.out, List.length_append, List.map_append]; exact hown'
          · exact below_grown ((hnx.alloc hsz _).alloc (by simp; omega) _) (by simp; omega) ((hown.alloc _).alloc _) hgrow
        case measure => simp [intOf]; omega
      · have hkz : (x.kind == k) = false := by simpa using hk
        have HKK := Lib.hid hk
        clear hk
        go_wp2
        go_roundw
        case rel =>
          refine ⟨i + 1, by omega, by go_num, ?_, ?_⟩
          · rw [HT.out, if_neg HKK.out]; exact hown.alloc _
          · exact hnx.alloc hsz _
        case measure => simp [intOf]; omega
    · have hf : StrsV wr u5 (ofF L k) := by
        have : L.take i = L := List.take_of_length_le (by omega)
        rw [this] at hown
        exact strs_of_own hown
      have HF := Lib.hid hf
      clear hf
      go_wp2
      go_ret
      exact ⟨_, rfl, HF.out, hnx⟩
set_option maxRecDepth 100000 in
set_option maxHeartbeats 2000000 in
theorem rof_any (v : Value) (L : List Flow) (k : Int) (w : World) (h : FlowsV w v L) (hL : L.length ≤ 1000) :
    Calls Tryd.prog 32 #[v, .int .i64 k] w (StrsTold w (ofF L k)) := by
  obtain ⟨a, c, rfl, hcap, hm, _, hc⟩ := h
  obtain ⟨i0, hi, hz0, hz1, hz2⟩ := info_parts info_str
  have HI := Lib.hid (And.intro hi (And.intro hz0 (And.intro hz1 hz2)))
  have HC := Lib.hid hc
  clear hi hz0 hz1 hz2 hc
  unfold maxLen at hm
  go_enter Tryd.func32, Tryd.ntmps32
  go_wp2
  go_loopw [5, 6] (fun s5 s6 wr => OfAt w 9 L k s5 s6 wr) (fun _ s6 _ => L.length - (intOf s6).toNat)
  case atStart => exact ⟨0, Nat.zero_le _, rfl, World.ownsRow_nil _ _ _ _, Below.refl _ _⟩
  case round =>
    obtain ⟨i, hik, rfl, hown, hnx⟩ := hrel
    by_cases hlt : i < L.length
    · obtain ⟨x, hx⟩ : ∃ x, L[i]? = some x := ⟨_, List.getElem?_eq_getElem hlt⟩
      obtain ⟨b, o, rfl, hat⟩ := HC.out i x hx
      obtain ⟨c0, c1⟩ := two (hat.keep hnx hat.lt)
      have HT : Hid (ofF (L.take (i + 1)) k = if x.kind = k then ofF (L.take i) k ++ [x.code] else ofF (L.take i) k) := Lib.hid (by
        rw [take_at L i hlt]
        rw [List.getElem?_eq_getElem hlt] at hx
        rw [Option.some.inj hx]; exact ofF_snoc _ _ _)
      have hle := ofF_len_le (L.take i) k
      have hlk : (L.take i).length = i := by rw [List.length_take]; omega
      rw [hlk] at hle
      have HLE := Lib.hid hle
      have hsz := hnx.size
      clear hx hat hlk hle
      by_cases hk : x.kind = k
      · have hkz : (x.kind == k) = true := by simpa using hk
        have HKK := Lib.hid hk
        clear hk
        go_wp2_with (at_builtin; refine wpList_append_own _ rfl _ _ 24 rfl w.heap.size 9 i0 (.string ⟨#[]⟩) 1 16 Tryd.underlying24 HI.out.1 HI.out.2.1 HI.out.2.2.1 HI.out.2.2.2 rfl (by decide) _ _ _ rfl (hown.alloc _) ⟨wr.heap.size, 0, none⟩ 1 1 [.string x.code] rfl rfl (new_cells wr [.string x.code] _) (by intro u hu; simp at hu; subst hu; rfl) (by have := HLE.out; unfold maxLen; omega) (by have := HLE.out; omega) (by simp; omega) ?_; intro v' w1 hown' hgrow _)
        go_roundw
        case rel =>
          refine ⟨i + 1, by omega, by go_num, ?_, ?_⟩
          · rw [HT.out, if_pos HKK.out, List.length_append, List.map_append]; exact hown'
          · exact below_grown (hnx.alloc hsz _) (by simp; omega) (hown.alloc _) hgrow
        case measure => simp [intOf]; omega
      · have hkz : (x.kind == k) = false := by simpa using hk
        have HKK := Lib.hid hk
        clear hk
        go_wp2
        go_roundw
        case rel =>
          refine ⟨i + 1, by omega, by go_num, ?_, ?_⟩
          · rw [HT.out, if_neg HKK.out]; exact hown
          · exact hnx
        case measure => simp [intOf]; omega
    · have hf : StrsV wr u5 (ofF L k) := by
        have : L.take i = L := List.take_of_length_le (by omega)
        rw [this] at hown
        exact strs_of_own hown
      have HF := Lib.hid hf
      clear hf
      go_wp2
      go_ret
      exact ⟨_, rfl, HF.out, hnx⟩
set_option maxRecDepth 100000 in
set_option maxHeartbeats 2000000 in
theorem has_any (v : Value) (L : List Flow) (k : Int) (w : World) (h : FlowsV w v L) (hL : L.length ≤ 1000) :
    Calls Tryd.prog 30 #[v, .int .i64 k] w fun e w' => e = .returned (.bool (hasF L k)) ∧ Below w.heap.size w w' := by
  obtain ⟨r, hr⟩ : ∃ r, hasF L k = r := ⟨_, rfl⟩
  rw [hr]
  have HR := Lib.hid hr
  clear hr
  have HV := Lib.hid h
  obtain ⟨a, c, rfl, hcap, hm, _, hc⟩ := h
  clear hc
  unfold maxLen at hm
  go_enter Tryd.func30, Tryd.ntmps30
  go_wp2_with fail
  refine (of_any _ L k _ HV.out hL).mono ?_
  rintro e w1 ⟨v1, rfl, hs1, hb1⟩
  obtain ⟨p1, c1, rfl, _, hm1, _⟩ := hs1
  have HB1 := Lib.hid hb1
  obtain ⟨n, hn⟩ : ∃ n, (ofF L k).length = n := ⟨_, rfl⟩
  have hrn : Hid (r = decide (0 < n)) := Lib.hid (by rw [← HR.out, ← hn]; rfl)
  rw [hn] at hm1 ⊢
  unfold maxLen at hm1
  clear hn hb1
  by_cases h0 : 0 < n
  · have h0z : (0 : Int) < (n : Int) := by omega
    go_wp2
    go_ret
    exact ⟨ret_bool (by rw [hrn.out, decide_eq_true h0]), HB1.out⟩
  · obtain rfl : n = 0 := by omega
    go_wp2
    go_ret
    exact ⟨ret_bool (by rw [hrn.out]; rfl), HB1.out⟩
set_option maxRecDepth 100000 in
set_option maxHeartbeats 2000000 in
theorem whole_any (v : Value) (L : List Flow) (w : World) (h : FlowsV w v L) (hL : L.length ≤ 1000) :
    Calls Tryd.prog 23 #[v] w fun e w' => e = .returned (.bool (wholeF L)) ∧ Below w.heap.size w w' := by
  obtain ⟨b0, hb0⟩ : ∃ b, hasF L 0 = b := ⟨_, rfl⟩
  obtain ⟨b2, hb2⟩ : ∃ b, hasF L 2 = b := ⟨_, rfl⟩
  obtain ⟨b3, hb3⟩ : ∃ b, hasF L 3 = b := ⟨_, rfl⟩
  obtain ⟨b4, hb4⟩ : ∃ b, hasF L 4 = b := ⟨_, rfl⟩
  have HC0 := Lib.hid (fun W h => has_any v L 0 W h hL)
  have HC2 := Lib.hid (fun W h => has_any v L 2 W h hL)
  have HC3 := Lib.hid (fun W h => has_any v L 3 W h hL)
  have HC4 := Lib.hid (fun W h => has_any v L 4 W h hL)
  unfold wholeF
  rw [hb0] at HC0 ⊢
  rw [hb2] at HC2 ⊢
  rw [hb3] at HC3 ⊢
  rw [hb4] at HC4 ⊢
  have HV := Lib.hid h
  clear h hb0 hb2 hb3 hb4
  cases b0 with
  | false =>
    go_enter Tryd.func23, Tryd.ntmps23
    go_wp2_with (go_at_call 30; refine (HC0.out _ HV.out).mono ?_; rintro e w1 ⟨rfl, hb1⟩)
    go_ret
    exact ⟨rfl, hb1⟩
  | true =>
    cases b2 with
    | false =>
      go_enter Tryd.func23, Tryd.ntmps23
      go_wp2_with fail
      refine (HC0.out _ HV.out).mono ?_
      rintro e w1 ⟨rfl, hb1⟩
      have HV1 := Lib.hid (HV.out.keep hb1)
      go_wp2_with (go_at_call 30; refine (HC2.out _ HV1.out).mono ?_; rintro e w2 ⟨rfl, hb2⟩)
      go_ret
      exact ⟨rfl, hb1.trans (hb2.mono hb1.size)⟩
    | true =>
      cases b3 with
      | false =>
        go_enter Tryd.func23, Tryd.ntmps23
        go_wp2_with fail
        refine (HC0.out _ HV.out).mono ?_
        rintro e w1 ⟨rfl, hb1⟩
        have HV1 := Lib.hid (HV.out.keep hb1)
        go_wp2_with fail
        refine (HC2.out _ HV1.out).mono ?_
        rintro e w2 ⟨rfl, hb2⟩
        have HV2 := Lib.hid (HV1.out.keep hb2)
        go_wp2_with (go_at_call 30; refine (HC3.out _ HV2.out).mono ?_; rintro e w3 ⟨rfl, hb3⟩)
        go_ret
        exact ⟨rfl, hb1.trans ((hb2.trans (hb3.mono hb2.size)).mono hb1.size)⟩
      | true =>
        go_enter Tryd.func23, Tryd.ntmps23
        go_wp2_with fail
        refine (HC0.out _ HV.out).mono ?_
        rintro e w1 ⟨rfl, hb1⟩
        have HV1 := Lib.hid (HV.out.keep hb1)
        go_wp2_with fail
        refine (HC2.out _ HV1.out).mono ?_
        rintro e w2 ⟨rfl, hb2⟩
        have HV2 := Lib.hid (HV1.out.keep hb2)
        go_wp2_with fail
        refine (HC3.out _ HV2.out).mono ?_
        rintro e w3 ⟨rfl, hb3⟩
        have HV3 := Lib.hid (HV2.out.keep hb3)
        go_wp2_with (go_at_call 30; refine (HC4.out _ HV3.out).mono ?_; rintro e w4 ⟨rfl, hb4⟩)
        go_ret
        exact ⟨ret_bool (by simp), hb1.trans ((hb2.trans ((hb3.trans (hb4.mono hb3.size)).mono hb2.size)).mono hb1.size)⟩
end Go.Proofs.YtkacidoflmbjkaaDoor.Fl
