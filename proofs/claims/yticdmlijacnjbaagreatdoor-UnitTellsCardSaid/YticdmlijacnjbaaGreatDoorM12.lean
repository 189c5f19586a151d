/- FlowRight; FlowOf; FlowAdd; UnitReader: texts put together (each begins with what it is). -/
import Derived.Test.YticdmlijacnjbaaGreatDoorM03
import Derived.Test.YticdmlijacnjbaaGreatDoorM10
import Derived.Test.YticdmlijacnjbaaGreatDoorM01
import Derived.Test.YticdmlijacnjbaaGreatDoorProg
import Derived.WalkKit
import Derived.WalkSpells
import Derived.Lib.Hide
import Derived.Test.YticdmlijacnjbaaGreatDoorM07
import Derived.OwnWalk
import Derived.Handy
import Derived.LoopTactic
import Derived.Test.YticdmlijacnjbaaGreatDoorM11
import Derived.Test.YticdmlijacnjbaaGreatDoorM04
import Derived.Test.YticdmlijacnjbaaGreatDoorM05
import Derived.Test.YticdmlijacnjbaaGreatDoorM06
import Derived.Test.YticdmlijacnjbaaGreatDoorM08
import Derived.Test.YticdmlijacnjbaaGreatDoorM09
import Derived.Lib.SmallJoins
/- The walks of flow.Right and the document's Right: they hand back what the plain facts say; what was there stays. -/
namespace Go.Proofs.YticdmlijacnjbaaGreatDoor.Fl
open Go.RowKit

theorem name_is (s : ByteArray) (b : Bool) (h : nmB s = b) (w : World) : Calls Tryz.prog 81 #[.string s] w fun e w' => e = .returned (.bool b) ∧ w = w' := by
  rw [← h]; exact name_at s w
theorem rname_is (s : ByteArray) (b : Bool) (h : nmB s = b) (w : World) : Calls Tryz.prog 98 #[.string s] w fun e w' => e = .returned (.bool b) ∧ w = w' := by
  rw [← h]; exact rname_at s w
set_option maxRecDepth 100000 in
set_option maxHeartbeats 4000000 in
theorem right_any (f : Flow) (w : World) : Calls Tryz.prog 65 #[aggL f] w fun e w' => e = .returned (.bool (rightF f)) ∧ Below w.heap.size w w' := by
  have HB := Lib.hid ((Below.refl w.heap.size w).alloc (Nat.le_refl _) (.cells #[.string f.code, .int .i64 f.kind] 86))
  obtain ⟨r, hr⟩ : ∃ r, rightF f = r := ⟨_, rfl⟩
  rw [hr]
  have HR := Lib.hid hr
  clear hr
  obtain ⟨co, k⟩ := f
  simp only at HB HR ⊢
  cases hc : nmB co with
  | false =>
    have HC := Lib.hid hc
    clear hc
    go_enter Tryz.func65, Tryz.ntmps65
    go_wp2_with (go_at_call 81; refine (name_is co _ HC.out _).mono ?_; rintro e w' ⟨rfl, rfl⟩)
    go_ret
    exact ⟨ret_bool (by rw [← HR.out]; simp [rightF, HC.out]), HB.out⟩
  | true =>
    have HC := Lib.hid hc
    clear hc
    by_cases h0 : 0 ≤ k
    · by_cases h5 : k < 5
      · go_enter Tryz.func65, Tryz.ntmps65
        go_wp2_with (go_at_call 81; refine (name_is co _ HC.out _).mono ?_; rintro e w' ⟨rfl, rfl⟩)
        go_ret
        exact ⟨ret_bool (by rw [← HR.out]; simp [rightF, HC.out, h0, h5]), HB.out⟩
      · go_enter Tryz.func65, Tryz.ntmps65
        go_wp2_with (go_at_call 81; refine (name_is co _ HC.out _).mono ?_; rintro e w' ⟨rfl, rfl⟩)
        go_ret
        exact ⟨ret_bool (by rw [← HR.out]; have : ¬ k < 5 := (by omega); simp [rightF, this]), HB.out⟩
    · go_enter Tryz.func65, Tryz.ntmps65
      go_wp2_with (go_at_call 81; refine (name_is co _ HC.out _).mono ?_; rintro e w' ⟨rfl, rfl⟩)
      go_ret
      exact ⟨ret_bool (by rw [← HR.out]; have : ¬ 0 ≤ k := (by omega); simp [rightF, this]), HB.out⟩
set_option maxRecDepth 100000 in
set_option maxHeartbeats 4000000 in
theorem rright_any (f : Flow) (w : World) : Calls Tryz.prog 70 #[aggL f] w fun e w' => e = .returned (.bool (rightF f)) ∧ Below w.heap.size w w' := by
  have HB := Lib.hid ((Below.refl w.heap.size w).alloc (Nat.le_refl _) (.cells #[.string f.code, .int .i64 f.kind] 87))
  obtain ⟨r, hr⟩ : ∃ r, rightF f = r := ⟨_, rfl⟩
  rw [hr]
  have HR := Lib.hid hr
  clear hr
  obtain ⟨co, k⟩ := f
  simp only at HB HR ⊢
  cases hc : nmB co with
  | false =>
    have HC := Lib.hid hc
    clear hc
    go_enter Tryz.func70, Tryz.ntmps70
    go_wp2_with (go_at_call 98; refine (rname_is co _ HC.out _).mono ?_; rintro e w' ⟨rfl, rfl⟩)
    go_ret
    exact ⟨ret_bool (by rw [← HR.out]; simp [rightF, HC.out]), HB.out⟩
  | true =>
    have HC := Lib.hid hc
    clear hc
    by_cases h0 : 0 ≤ k
    · by_cases h5 : k ≤ 4
      · go_enter Tryz.func70, Tryz.ntmps70
        go_wp2_with (go_at_call 98; refine (rname_is co _ HC.out _).mono ?_; rintro e w' ⟨rfl, rfl⟩)
        go_ret
        exact ⟨ret_bool (by rw [← HR.out]; have : k < 5 := (by omega); simp [rightF, HC.out, h0, this]), HB.out⟩
      · go_enter Tryz.func70, Tryz.ntmps70
        go_wp2_with (go_at_call 98; refine (rname_is co _ HC.out _).mono ?_; rintro e w' ⟨rfl, rfl⟩)
        go_ret
        exact ⟨ret_bool (by rw [← HR.out]; have : ¬ k < 5 := (by omega); simp [rightF, this]; omega), HB.out⟩
    · go_enter Tryz.func70, Tryz.ntmps70
      go_wp2_with (go_at_call 98; refine (rname_is co _ HC.out _).mono ?_; rintro e w' ⟨rfl, rfl⟩)
      go_ret
      exact ⟨ret_bool (by rw [← HR.out]; have : ¬ 0 ≤ k := (by omega); simp [rightF, this]), HB.out⟩
end Go.Proofs.YticdmlijacnjbaaGreatDoor.Fl
/- The walks of flow.Of, the document's Of, flow.has and flow.Whole: what the plain facts say, in new memory; what was there stays. -/
namespace Go.Proofs.YticdmlijacnjbaaGreatDoor.Fl
open Go.RowKit

theorem info_str : (Tryz.prog.info? 9).map (fun i => (i.zero, i.size, i.bytes)) = some (some (.string ⟨#[]⟩), 1, 16) := by kernel_rfl
/-- Texts are told in new memory. -/
def StrsTold (w : World) (ws : List ByteArray) (e : Ending) (w' : World) : Prop := ∃ v, e = .returned v ∧ StrsV w' v ws ∧ Below w.heap.size w w'
/-- What the round of Of holds. -/
def OfAt (w : World) (e : TypeId) (L : List Flow) (k : Int) (s5 si : Value) (wr : World) : Prop :=
  ∃ i : Nat, i ≤ L.length ∧ si = .int .i64 (i : Int) ∧ wr.ownsRow w.heap.size e 1 s5 (ofF (L.take i) k).length ((ofF (L.take i) k).map Value.string) ∧ Below w.heap.size w wr
theorem ofF_snoc (L : List Flow) (f : Flow) (k : Int) : ofF (L ++ [f]) k = if f.kind = k then ofF L k ++ [f.code] else ofF L k := by
  unfold ofF
  rw [List.filter_append, List.map_append, List.filter_cons]
  by_cases h : f.kind = k <;> simp [h]
theorem ofF_len_le (L : List Flow) (k : Int) : (ofF L k).length ≤ L.length := by rw [ofF_length]; exact List.length_filter_le _ _
set_option maxRecDepth 100000 in
set_option maxHeartbeats 2000000 in
theorem of_any (v : Value) (L : List Flow) (k : Int) (w : World) (h : FlowsV w v L) (hL : L.length ≤ 1000) :
    Calls Tryz.prog 118 #[v, .int .i64 k] w (StrsTold w (ofF L k)) := by
  obtain ⟨a, c, rfl, hcap, hm, _, hc⟩ := h
  obtain ⟨i0, hi, hz0, hz1, hz2⟩ := info_parts info_str
  have HI := Lib.hid (And.intro hi (And.intro hz0 (And.intro hz1 hz2)))
  have HC := Lib.hid hc
  clear hi hz0 hz1 hz2 hc
  unfold maxLen at hm
  go_enter Tryz.func118, Tryz.ntmps118
  go_wp2
  go_loopw [5, 10] (fun s5 s10 wr => OfAt w 9 L k s5 s10 wr) (fun _ s10 _ => L.length - (intOf s10).toNat)
  case atStart => exact ⟨0, Nat.zero_le _, rfl, World.ownsRow_nil _ _ _ _, Below.refl _ _⟩
  case round =>
    obtain ⟨i, hik, rfl, hown, hnx⟩ := hrel
    by_cases hlt : i < L.length
    · obtain ⟨x, hx⟩ : ∃ x, L[i]? = some x := ⟨_, List.getElem?_eq_getElem hlt⟩
      obtain ⟨b, o, rfl, hat⟩ := HC.out i x hx
      obtain ⟨c0, c1⟩ := two (hat.keep hnx hat.lt)
      have HT : Hid (ofF (L.take (i + 1)) k = if x.kind = k then ofF (L.take i) k ++ [x.code] else ofF (L.take i) k) := Lib.hid (by
        rw [take_at L i hlt]
        rw [List.getElem?_eq_getElem hlt] at hx
        rw [Option.some.inj hx]; exact ofF_snoc _ _ _)
      have hle := ofF_len_le (L.take i) k
      have hlk : (L.take i).length = i := by rw [List.length_take]; omega
      rw [hlk] at hle
      have HLE := Lib.hid hle
      have hsz := hnx.size
      clear hx hat hlk hle
      by_cases hk : x.kind = k
      · have hkz : (x.kind == k) = true := by simpa using hk
        have HKK := Lib.hid hk
        clear hk
        go_wp2_with (at_builtin; refine wpList_append_own _ rfl _ _ 58 rfl w.heap.size 9 i0 (.string ⟨#[]⟩) 1 16 Tryz.underlying58 HI.out.1 HI.out.2.1 HI.out.2.2.1 HI.out.2.2.2 rfl (by decide) _ _ _ rfl ((hown.alloc _).alloc _) ⟨wr.heap.size + 1, 0, none⟩ 1 1 [.string x.code] rfl rfl (new_cells2 wr _ [.string x.code] _) (by intro u hu; simp at hu; subst hu; rfl) (by have := HLE.out; unfold maxLen; omega) (by have := HLE.out; omega) (by simp; omega) ?_; intro v' w1 hown' hgrow _)
        go_roundw
        case rel =>
          refine ⟨i + 1, by omega, by go_num, ?_, ?_⟩
          · rw [HT.out, if_pos HKK.out, List.length_append, List.map_append]; exact hown'
          · exact below_grown ((hnx.alloc hsz _).alloc (by simp; omega) _) (by simp; omega) ((hown.alloc _).alloc _) hgrow
        case measure => simp [intOf]; omega
      · have hkz : (x.kind == k) = false := by simpa using hk
        have HKK := Lib.hid hk
        clear hk
        go_wp2
        go_roundw
        case rel =>
          refine ⟨i + 1, by omega, by go_num, ?_, ?_⟩
          · rw [HT.out, if_neg HKK.out]; exact hown.alloc _
          · exact hnx.alloc hsz _
        case measure => simp [intOf]; omega
    · have hf : StrsV wr u5 (ofF L k) := by
        have : L.take i = L := List.take_of_length_le (by omega)
        rw [this] at hown
        exact strs_of_own hown
      have HF := Lib.hid hf
      clear hf
      go_wp2
      go_ret
      exact ⟨_, rfl, HF.out, hnx⟩
set_option maxRecDepth 100000 in
set_option maxHeartbeats 2000000 in
theorem rof_any (v : Value) (L : List Flow) (k : Int) (w : World) (h : FlowsV w v L) (hL : L.length ≤ 1000) :
    Calls Tryz.prog 90 #[v, .int .i64 k] w (StrsTold w (ofF L k)) := by
  obtain ⟨a, c, rfl, hcap, hm, _, hc⟩ := h
  obtain ⟨i0, hi, hz0, hz1, hz2⟩ := info_parts info_str
  have HI := Lib.hid (And.intro hi (And.intro hz0 (And.intro hz1 hz2)))
  have HC := Lib.hid hc
  clear hi hz0 hz1 hz2 hc
  unfold maxLen at hm
  go_enter Tryz.func90, Tryz.ntmps90
  go_wp2
  go_loopw [5, 6] (fun s5 s6 wr => OfAt w 9 L k s5 s6 wr) (fun _ s6 _ => L.length - (intOf s6).toNat)
  case atStart => exact ⟨0, Nat.zero_le _, rfl, World.ownsRow_nil _ _ _ _, Below.refl _ _⟩
  case round =>
    obtain ⟨i, hik, rfl, hown, hnx⟩ := hrel
    by_cases hlt : i < L.length
    · obtain ⟨x, hx⟩ : ∃ x, L[i]? = some x := ⟨_, List.getElem?_eq_getElem hlt⟩
      obtain ⟨b, o, rfl, hat⟩ := HC.out i x hx
      obtain ⟨c0, c1⟩ := two (hat.keep hnx hat.lt)
      have HT : Hid (ofF (L.take (i + 1)) k = if x.kind = k then ofF (L.take i) k ++ [x.code] else ofF (L.take i) k) := Lib.hid (by
        rw [take_at L i hlt]
        rw [List.getElem?_eq_getElem hlt] at hx
        rw [Option.some.inj hx]; exact ofF_snoc _ _ _)
      have hle := ofF_len_le (L.take i) k
      have hlk : (L.take i).length = i := by rw [List.length_take]; omega
      rw [hlk] at hle
      have HLE := Lib.hid hle
      have hsz := hnx.size
      clear hx hat hlk hle
      by_cases hk : x.kind = k
      · have hkz : (x.kind == k) = true := by simpa using hk
        have HKK := Lib.hid hk
        clear hk
        go_wp2_with (at_builtin; refine wpList_append_own _ rfl _ _ 58 rfl w.heap.size 9 i0 (.string ⟨#[]⟩) 1 16 Tryz.underlying58 HI.out.1 HI.out.2.1 HI.out.2.2.1 HI.out.2.2.2 rfl (by decide) _ _ _ rfl (hown.alloc _) ⟨wr.heap.size, 0, none⟩ 1 1 [.string x.code] rfl rfl (new_cells wr [.string x.code] _) (by intro u hu; simp at hu; subst hu; rfl) (by have := HLE.out; unfold maxLen; omega) (by have := HLE.out; omega) (by simp; omega) ?_; intro v' w1 hown' hgrow _)
        go_roundw
        case rel =>
          refine ⟨i + 1, by omega, by go_num, ?_, ?_⟩
          · rw [HT.out, if_pos HKK.out, List.length_append, List.map_append]; exact hown'
          · exact below_grown (hnx.alloc hsz _) (by simp; omega) (hown.alloc _) hgrow
        case measure => simp [intOf]; omega
      · have hkz : (x.kind == k) = false := by simpa using hk
        have HKK := Lib.hid hk
        clear hk
        go_wp2
        go_roundw
        case rel =>
          refine ⟨i + 1, by omega, by go_num, ?_, ?_⟩
          · rw [HT.out, if_neg HKK.out]; exact hown
          · exact hnx
        case measure => simp [intOf]; omega
    · have hf : StrsV wr u5 (ofF L k) := by
        have : L.take i = L := List.take_of_length_le (by omega)
        rw [this] at hown
        exact strs_of_own hown
      have HF := Lib.hid hf
      clear hf
      go_wp2
      go_ret
      exact ⟨_, rfl, HF.out, hnx⟩
set_option maxRecDepth 100000 in
set_option maxHeartbeats 2000000 in
theorem has_any (v : Value) (L : List Flow) (k : Int) (w : World) (h : FlowsV w v L) (hL : L.length ≤ 1000) :
    Calls Tryz.prog 88 #[v, .int .i64 k] w fun e w' => e = .returned (.bool (hasF L k)) ∧ Below w.heap.size w w' := by
  obtain ⟨r, hr⟩ : ∃ r, hasF L k = r := ⟨_, rfl⟩
  rw [hr]
  have HR := Lib.hid hr
  clear hr
  have HV := Lib.hid h
  obtain ⟨a, c, rfl, hcap, hm, _, hc⟩ := h
  clear hc
  unfold maxLen at hm
  go_enter Tryz.func88, Tryz.ntmps88
  go_wp2_with fail
  refine (of_any _ L k _ HV.out hL).mono ?_
  rintro e w1 ⟨v1, rfl, hs1, hb1⟩
  obtain ⟨p1, c1, rfl, _, hm1, _⟩ := hs1
  have HB1 := Lib.hid hb1
  obtain ⟨n, hn⟩ : ∃ n, (ofF L k).length = n := ⟨_, rfl⟩
  have hrn : Hid (r = decide (0 < n)) := Lib.hid (by rw [← HR.out, ← hn]; rfl)
  rw [hn] at hm1 ⊢
  unfold maxLen at hm1
  clear hn hb1
  by_cases h0 : 0 < n
  · have h0z : (0 : Int) < (n : Int) := by omega
    go_wp2
    go_ret
    exact ⟨ret_bool (by rw [hrn.out, decide_eq_true h0]), HB1.out⟩
  · obtain rfl : n = 0 := by omega
    go_wp2
    go_ret
    exact ⟨ret_bool (by rw [hrn.out]; rfl), HB1.out⟩
set_option maxRecDepth 100000 in
set_option maxHeartbeats 2000000 in
theorem whole_any (v : Value) (L : List Flow) (w : World) (h : FlowsV w v L) (hL : L.length ≤ 1000) :
    Calls Tryz.prog 53 #[v] w fun e w' => e = .returned (.bool (wholeF L)) ∧ Below w.heap.size w w' := by
  obtain ⟨b0, hb0⟩ : ∃ b, hasF L 0 = b := ⟨_, rfl⟩
  obtain ⟨b2, hb2⟩ : ∃ b, hasF L 2 = b := ⟨_, rfl⟩
  obtain ⟨b3, hb3⟩ : ∃ b, hasF L 3 = b := ⟨_, rfl⟩
  obtain ⟨b4, hb4⟩ : ∃ b, hasF L 4 = b := ⟨_, rfl⟩
  have HC0 := Lib.hid (fun W h => has_any v L 0 W h hL)
  have HC2 := Lib.hid (fun W h => has_any v L 2 W h hL)
  have HC3 := Lib.hid (fun W h => has_any v L 3 W h hL)
  have HC4 := Lib.hid (fun W h => has_any v L 4 W h hL)
  unfold wholeF
  rw [hb0] at HC0 ⊢
  rw [hb2] at HC2 ⊢
  rw [hb3] at HC3 ⊢
  rw [hb4] at HC4 ⊢
  have HV := Lib.hid h
  clear h hb0 hb2 hb3 hb4
  cases b0 with
  | false =>
    go_enter Tryz.func53, Tryz.ntmps53
    go_wp2_with (go_at_call 88; refine (HC0.out _ HV.out).mono ?_; rintro e w1 ⟨rfl, hb1⟩)
    go_ret
    exact ⟨rfl, hb1⟩
  | true =>
    cases b2 with
    | false =>
      go_enter Tryz.func53, Tryz.ntmps53
      go_wp2_with fail
      refine (HC0.out _ HV.out).mono ?_
      rintro e w1 ⟨rfl, hb1⟩
      have HV1 := Lib.hid (HV.out.keep hb1)
      go_wp2_with (go_at_call 88; refine (HC2.out _ HV1.out).mono ?_; rintro e w2 ⟨rfl, hb2⟩)
      go_ret
      exact ⟨rfl, hb1.trans (hb2.mono hb1.size)⟩
    | true =>
      cases b3 with
      | false =>
        go_enter Tryz.func53, Tryz.ntmps53
        go_wp2_with fail
        refine (HC0.out _ HV.out).mono ?_
        rintro e w1 ⟨rfl, hb1⟩
        have HV1 := Lib.hid (HV.out.keep hb1)
        go_wp2_with fail
        refine (HC2.out _ HV1.out).mono ?_
        rintro e w2 ⟨rfl, hb2⟩
        have HV2 := Lib.hid (HV1.out.keep hb2)
        go_wp2_with (go_at_call 88; refine (HC3.out _ HV2.out).mono ?_; rintro e w3 ⟨rfl, hb3⟩)
        go_ret
        exact ⟨rfl, hb1.trans ((hb2.trans (hb3.mono hb2.size)).mono hb1.size)⟩
      | true =>
        go_enter Tryz.func53, Tryz.ntmps53
        go_wp2_with fail
        refine (HC0.out _ HV.out).mono ?_
        rintro e w1 ⟨rfl, hb1⟩
        have HV1 := Lib.hid (HV.out.keep hb1)
        go_wp2_with fail
        refine (HC2.out _ HV1.out).mono ?_
        rintro e w2 ⟨rfl, hb2⟩
        have HV2 := Lib.hid (HV1.out.keep hb2)
        go_wp2_with fail
        refine (HC3.out _ HV2.out).mono ?_
        rintro e w3 ⟨rfl, hb3⟩
        have HV3 := Lib.hid (HV2.out.keep hb3)
        go_wp2_with (go_at_call 88; refine (HC4.out _ HV3.out).mono ?_; rintro e w4 ⟨rfl, hb4⟩)
        go_ret
        exact ⟨ret_bool (by simp), hb1.trans ((hb2.trans ((hb3.trans (hb4.mono hb3.size)).mono hb2.size)).mono hb1.size)⟩
end Go.Proofs.YticdmlijacnjbaaGreatDoor.Fl
/- The walk of flow.Add: what the plain facts say, in new memory; what was there stays. -/
namespace Go.Proofs.YticdmlijacnjbaaGreatDoor.Fl
open Go.RowKit

/-- What Add tells. -/
def AddTold (w : World) (M : List Flow) (n : Int) (e : Ending) (w' : World) : Prop := ∃ v, e = .returned (.tuple #[v, .int .i64 n]) ∧ FlowsV w' v M ∧ Below w.heap.size w w'
/-- The same in a row of the call's own. -/
def AddOwn (w : World) (M : List Flow) (n : Int) (e : Ending) (w' : World) : Prop := ∃ v, e = .returned (.tuple #[v, .int .i64 n]) ∧ w'.ownsRow w.heap.size 86 2 v M.length (flat encF M) ∧ Below w.heap.size w w'
def InsRow (w : World) (B : Nat) (M : List Flow) (e : Ending) (w' : World) : Prop := ∃ v, e = .returned v ∧ w'.ownsRow B 86 2 v M.length (flat encF M) ∧ Below B w w'
theorem insert_row (v : Value) (L : List Flow) (x : Flow) (i vb B : Nat) (w : World) (h : w.ownsRow B 86 2 v L.length (flat encF L)) (hB : B ≤ w.heap.size) (hx : BoxE encF w vb 86 x) (hne : v.ownBlock ≠ some vb) (hi : i ≤ L.length) (hL : L.length ≤ 1000) :
    Calls Tryz.prog 109 #[v, .int .i64 (i : Int), .slice (some ⟨vb, 0, none⟩) 1 1] w (InsRow w B (L.take i ++ x :: L.drop i)) :=
  (insert_own v L x i vb B w h hB hx hne hi hL).mono fun _ _ ⟨u, e, ho, hg⟩ => ⟨u, e, ho, below_grown (Below.refl B w) hB h hg⟩
abbrev cellsF (a : Flow) : Array Value := #[.string a.code, .int .i64 a.kind]
theorem ret_pair {v : Value} {a b : Int} (h : a = b) : Ending.returned (.tuple #[v, .int .i64 a]) = .returned (.tuple #[v, .int .i64 b]) := by rw [h]
theorem ins_late {w5 : World} {v : Value} {L : List Flow} {a : Flow} {i B : Nat} (h : w5.ownsRow B 86 2 v L.length (flat encF L)) (hB : B ≤ w5.heap.size) (hi : i ≤ L.length) (hL : L.length ≤ 1000) :
    Calls Tryz.prog 109 #[v, .int .i64 (i : Int), .slice (some ⟨w5.heap.size, 0, none⟩) 1 1] (w5.alloc (.cells (cellsF a) 86)) (InsRow (w5.alloc (.cells (cellsF a) 86)) B (L.take i ++ a :: L.drop i)) :=
  insert_row v L a i w5.heap.size B _ (h.alloc _) (by simp; omega) (BoxE.new encF w5 a _) (fun e => by have := (h.lt _ e).2; omega) hi hL
set_option maxRecDepth 100000 in
set_option maxHeartbeats 8000000 in
theorem add_own (v : Value) (L : List Flow) (a : Flow) (w : World) (h : FlowsV w v L) (hrise : riseK Flow.code L = true) (hL : L.length ≤ 1000) :
    Calls Tryz.prog 79 #[v, aggL a] w (AddOwn w (addV L a) (addE L a)) := by
  obtain ⟨E, hE⟩ : ∃ E, addE L a = E := ⟨_, rfl⟩
  obtain ⟨M, hM⟩ : ∃ M, addV L a = M := ⟨_, rfl⟩
  rw [hE, hM]
  have HE := Lib.hid hE
  have HMV := Lib.hid hM
  clear hE hM
  have HRI := Lib.hid hrise
  have HB0 := Lib.hid ((Below.refl w.heap.size w).alloc (Nat.le_refl _) (.cells (cellsF a) 86))
  have HX0 := Lib.hid (BoxE.new encF w a 86)
  have HV0 := Lib.hid (h.keep HB0.out)
  obtain ⟨p, c, rfl, hcap, hm, hpn, hc⟩ := h
  obtain ⟨n, hn⟩ : ∃ n, L.length = n := ⟨_, rfl⟩
  have HLL := Lib.hid hL
  rw [hn] at hcap HV0 hL ⊢
  have HN := Lib.hid hn
  unfold maxLen at hm
  clear hc hpn hn hrise
  obtain ⟨r, hr⟩ : ∃ r, rightF a = r := ⟨_, rfl⟩
  have HR := Lib.hid (right_any a)
  rw [hr] at HR
  have HRV := Lib.hid hr
  clear hr
  go_enter Tryz.func79, Tryz.ntmps79
  go_wp2_with fail
  refine (clone_any _ L _ HV0.out HLL.out).mono ?_
  rintro e w1 ⟨v1, rfl, hown, hb1⟩
  rw [World.size_alloc] at hown
  have HO1 := Lib.hid hown
  have HX1 := Lib.hid (HX0.out.keep hb1 (by simp))
  have HV1 := Lib.hid (HV0.out.keep hb1)
  have HB1 := Lib.hid (HB0.out.trans (hb1.mono HB0.out.size))
  clear hown hb1
  obtain ⟨c0, c1⟩ := box HX1.out
  go_wp2_with fail
  clear c0 c1
  refine (HR.out _).mono ?_
  rintro e w2 ⟨rfl, hb2⟩
  have HO2 := Lib.hid (row_below HO1.out hb2)
  have HX2 := Lib.hid (HX1.out.kept hb2)
  have HV2 := Lib.hid (HV1.out.keep hb2)
  have HB2 := Lib.hid (HB1.out.trans (hb2.mono HB1.out.size))
  clear hb2
  cases r with
  | false =>
    have hE1 : Hid (E = 1) := Lib.hid (by rw [← HE.out]; unfold addE; rw [HRV.out]; rfl)
    have hM1 : Hid (World.ownsRow w2 w.heap.size 86 2 v1 M.length (flat encF M)) := Lib.hid (by
      rw [← HMV.out]; unfold addV; rw [HE.out, hE1.out]
      exact row_base HO2.out (Nat.le_succ _))
    go_wp2
    go_ret2
    exact ⟨v1, ret_pair hE1.out.symm, hM1.out, HB2.out⟩
  | true =>
    obtain ⟨c0, c1⟩ := box HX2.out
    obtain ⟨pl, hpl⟩ : ∃ pl, placeK Flow.code L a.code = pl := ⟨_, rfl⟩
    obtain ⟨is, his⟩ : ∃ is, isK Flow.code L a.code = is := ⟨_, rfl⟩
    have HPA := Lib.hid (place_any _ L a.code _ HV2.out HRI.out HLL.out)
    rw [hpl, his] at HPA
    have HIS := Lib.hid his
    have HPL := Lib.hid hpl
    have hpn : pl ≤ n := by rw [← hpl, ← HN.out]; exact placeK_le L a.code
    clear his hpl
    go_wp2_with fail
    clear c0 c1
    refine HPA.out.mono ?_
    rintro e w3 ⟨rfl, hb3⟩
    have HO3 := Lib.hid (row_below HO2.out hb3)
    have HX3 := Lib.hid (HX2.out.kept hb3)
    have HV3 := Lib.hid (HV2.out.keep hb3)
    have HB3 := Lib.hid (HB2.out.trans (hb3.mono HB2.out.size))
    clear hb3 HO2 HX2 HV2 HB2 HPA
    obtain ⟨c0, c1⟩ := box HX3.out
    cases is with
    | true =>
      have hE1 : Hid (E = 7) := Lib.hid (by rw [← HE.out]; unfold addE; rw [HRV.out, HIS.out]; rfl)
      have hM1 : Hid (World.ownsRow w3 w.heap.size 86 2 v1 M.length (flat encF M)) := Lib.hid (by
        rw [← HMV.out]; unfold addV; rw [HE.out, hE1.out]
        exact row_base HO3.out (Nat.le_succ _))
      go_wp2
      go_ret2
      exact ⟨v1, ret_pair hE1.out.symm, hM1.out, HB3.out⟩
    | false =>
      by_cases hk1 : a.kind = 1
      · have hkz : (a.kind != 1) = false := by rw [hk1]; rfl
        have HAE : Hid (E = if 60 ≤ n then 4 else 0) := Lib.hid (by
          rw [← HE.out]; unfold addE
          rw [HRV.out, HIS.out, HN.out, if_neg (by simp), if_neg (by simp [hk1])])
        clear hk1
        by_cases h60 : 60 ≤ n
        · have hE1 : Hid (E = 4) := Lib.hid (by rw [HAE.out, if_pos h60])
          have hM1 : Hid (World.ownsRow w3 w.heap.size 86 2 v1 M.length (flat encF M)) := Lib.hid (by
            rw [← HMV.out]; unfold addV; rw [HE.out, hE1.out]
            exact row_base HO3.out (Nat.le_succ _))
          go_wp2
          go_ret2
          exact ⟨v1, ret_pair hE1.out.symm, hM1.out, HB3.out⟩
        · have hE1 : Hid (E = 0) := Lib.hid (by rw [HAE.out, if_neg h60])
          have hM1 : Hid (L.take pl ++ a :: L.drop pl = M) := Lib.hid (by
            rw [← HMV.out]; unfold addV; rw [HE.out, hE1.out, if_pos rfl]; unfold insK; rw [HPL.out])
          go_wp2_with fail
          refine (ins_late (a := a) HO3.out (Nat.succ_le_of_lt HX3.out.lt) (by rw [HN.out]; exact hpn) HLL.out).mono ?_
          rintro e w9 ⟨v9, rfl, hc9, hb9⟩
          have HCM : Hid (w9.ownsRow w.heap.size 86 2 v9 M.length (flat encF M)) := Lib.hid (by rw [← hM1.out]; exact row_base hc9 (Nat.le_succ _))
          have HB9 := Lib.hid ((HB3.out.alloc HB3.out.size (.cells (cellsF a) 86)).trans (hb9.mono (Nat.le_succ _)))
          clear hc9 hb9
          go_wp2
          go_ret2
          exact ⟨v9, ret_pair hE1.out.symm, HCM.out, HB9.out⟩
      · have hkz : (a.kind != 1) = true := by simpa using hk1
        obtain ⟨hh, hhh⟩ : ∃ b, hasF L a.kind = b := ⟨_, rfl⟩
        have HHA := Lib.hid (has_any _ L a.kind _ HV3.out HLL.out)
        rw [hhh] at HHA
        have HAE : Hid (E = if hh = true then 7 else if 60 ≤ n then 4 else 0) := Lib.hid (by
          rw [← HE.out]; unfold addE
          rw [HRV.out, HIS.out, HN.out, hhh, if_neg (by simp)]
          simp [hk1])
        clear hk1 hhh
        go_wp2_with fail
        clear c0 c1
        refine HHA.out.mono ?_
        rintro e w4 ⟨rfl, hb4⟩
        have HO4 := Lib.hid (row_below HO3.out hb4)
        have HX4 := Lib.hid (HX3.out.kept hb4)
        have HB4 := Lib.hid (HB3.out.trans (hb4.mono HB3.out.size))
        clear hb4 HO3 HX3 HB3 HHA
        cases hh with
        | true =>
          have hE1 : Hid (E = 7) := Lib.hid (by rw [HAE.out]; rfl)
          have hM1 : Hid (World.ownsRow w4 w.heap.size 86 2 v1 M.length (flat encF M)) := Lib.hid (by
            rw [← HMV.out]; unfold addV; rw [HE.out, hE1.out]
            exact row_base HO4.out (Nat.le_succ _))
          go_wp2
          go_ret2
          exact ⟨v1, ret_pair hE1.out.symm, hM1.out, HB4.out⟩
        | false =>
          by_cases h60 : 60 ≤ n
          · have hE1 : Hid (E = 4) := Lib.hid (by rw [HAE.out, if_neg (by simp), if_pos h60])
            have hM1 : Hid (World.ownsRow w4 w.heap.size 86 2 v1 M.length (flat encF M)) := Lib.hid (by
              rw [← HMV.out]; unfold addV; rw [HE.out, hE1.out]
              exact row_base HO4.out (Nat.le_succ _))
            go_wp2
            go_ret2
            exact ⟨v1, ret_pair hE1.out.symm, hM1.out, HB4.out⟩
          · have hE1 : Hid (E = 0) := Lib.hid (by rw [HAE.out, if_neg (by simp), if_neg h60])
            have hM1 : Hid (L.take pl ++ a :: L.drop pl = M) := Lib.hid (by
              rw [← HMV.out]; unfold addV; rw [HE.out, hE1.out, if_pos rfl]; unfold insK; rw [HPL.out])
            obtain ⟨c0, c1⟩ := box HX4.out
            go_wp2_with fail
            refine (ins_late (a := a) HO4.out (Nat.succ_le_of_lt HX4.out.lt) (by rw [HN.out]; exact hpn) HLL.out).mono ?_
            rintro e w9 ⟨v9, rfl, hc9, hb9⟩
            have HCM : Hid (w9.ownsRow w.heap.size 86 2 v9 M.length (flat encF M)) := Lib.hid (by rw [← hM1.out]; exact row_base hc9 (Nat.le_succ _))
            have HB9 := Lib.hid ((HB4.out.alloc HB4.out.size (.cells (cellsF a) 86)).trans (hb9.mono (Nat.le_succ _)))
            clear hc9 hb9
            go_wp2
            go_ret2
            exact ⟨v9, ret_pair hE1.out.symm, HCM.out, HB9.out⟩
theorem add_any (v : Value) (L : List Flow) (a : Flow) (w : World) (h : FlowsV w v L) (hrise : riseK Flow.code L = true) (hL : L.length ≤ 1000) :
    Calls Tryz.prog 79 #[v, aggL a] w (AddTold w (addV L a) (addE L a)) :=
  (add_own v L a w h hrise hL).mono fun _ _ ⟨u, e, ho, hb⟩ => ⟨u, e, els_of_own ho, hb⟩
end Go.Proofs.YticdmlijacnjbaaGreatDoor.Fl
/- The reader in memory: master data whose lists are rows of the call's own, and the map of what stands once; what keeps it, and what a store into it makes. -/
namespace Go.Proofs.YticdmlijacnjbaaGreatDoor.Un
open Go.RowKit Go.Maps

abbrev rdCells (c f e l : Value) (M : Mast) (m : Nat) : Array Value := #[c, f, e, l, .string M.cur, .string M.res, .string M.dif, .string M.min, .string M.stk, .map (some m)]
abbrev BoxRd (W : World) (R m : Nat) (c f e l : Value) (M : Mast) : Prop := W.heap[R]? = some (.cells (rdCells c f e l M m) 74 (0, 0))
abbrev MapRd (W : World) (m n : Nat) (D : DataW Unit) : Prop := W.ownsMap Tryz.prog 111 (plainElem Tryz.prog 3) m n D
structure RdAt (W : World) (B R m : Nat) (c f e l : Value) (n : Nat) (D : DataW Unit) (M : Mast) : Prop where
  box : BoxRd W R m c f e l M
  chart : W.ownsRow B 89 6 c M.chart.length (flatA M.chart)
  flows : W.ownsRow B 86 2 f M.flows.length (flat Fl.encF M.flows)
  ents : W.ownsRow B 65 2 e M.ents.length (flat encE M.ents)
  lines : W.ownsRow B 67 3 l M.lines.length (flat encL M.lines)
  map : MapRd W m n D
  geR : B ≤ R
  geM : B ≤ m
section
variable {W W' : World} {B R m n : Nat} {c f e l : Value} {D : DataW Unit} {M : Mast}
theorem RdAt.lt (h : RdAt W B R m c f e l n D M) : R < W.heap.size := (Array.getElem?_eq_some_iff.1 h.box).1
theorem RdAt.nine (h : RdAt W B R m c f e l n D M) : NineAt W R c f e l M := nine_of (more := [.map (some m)]) h.box
theorem RdAt.ten (h : RdAt W B R m c f e l n D M) : W.cell? ⟨R, 9, none⟩ = some (.map (some m)) := (cell_of_row W R 9 _ _ (0, 0) h.box).trans rfl
theorem RdAt.free (h : RdAt W B R m c f e l n D M) (o : Nat) : W.frozen? ⟨R, o, none⟩ = false := by
  have := h.box
  unfold BoxRd at this
  simp [World.frozen?, this]
theorem RdAt.mast (h : RdAt W B R m c f e l n D M) : MastIn W c f e l M := ⟨chart_of_own h.chart, els_of_own h.flows, els_of_own h.ents, els_of_own h.lines⟩
theorem RdAt.below (h : RdAt W B R m c f e l n D M) (hb : Below W.heap.size W W') : RdAt W' B R m c f e l n D M :=
  ⟨(hb.block R h.lt).trans h.box, row_below h.chart hb, row_below h.flows hb, row_below h.ents hb, row_below h.lines hb, h.map.kept (row := none) ⟨hb.os, hb.tape, hb.output, hb.size, fun j hj _ => hb.block j hj⟩ (by simp), h.geR, h.geM⟩
theorem box_apart {W : World} {R B : Nat} {t e : TypeId} {cs : Array Value} {fr : Nat × Nat} {s n : Nat} {v : Value} {xs : List Value} (hb : W.heap[R]? = some (.cells cs t fr)) (h : W.ownsRow B e s v n xs) (hne : t ≠ e) : v.ownBlock ≠ some R := by
  rcases h.2 with ⟨rfl, _⟩ | ⟨g, cap, cur, rfl, _, hg, _⟩
  · simp [Value.ownBlock]
  · intro e0
    obtain rfl : g = R := by simpa [Value.ownBlock] using e0
    rw [hb] at hg
    simp at hg
    exact hne hg.2.1
theorem map_apart {W : World} {m n B : Nat} {D : DataW Unit} {e : TypeId} {s k : Nat} {v : Value} {xs : List Value} (hm : MapRd W m n D) (h : W.ownsRow B e s v k xs) : some m ≠ v.ownBlock := by
  obtain ⟨es, cl, hb, _⟩ := hm
  rcases h.2 with ⟨rfl, _⟩ | ⟨g, cap, cur, rfl, _, hg, _⟩
  · simp [Value.ownBlock]
  · intro e0
    obtain rfl : m = g := by simpa [Value.ownBlock] using e0
    rw [hb] at hg
    cases hg
theorem own_or {v : Value} {R : Nat} (h : v.ownBlock ≠ some R) : v.ownBlock = none ∨ v.ownBlock ≠ some R := .inr h
/-- What a store into the reader makes. -/
theorem rd_stored {c' f' e' l' : Value} {M' : Mast} (i : Nat) (v : Value) (hbox : BoxRd W R m c f e l M) (heq : (rdCells c f e l M m).setIfInBounds i v = rdCells c' f' e' l' M' m)
    (h0 : W.ownsRow B 89 6 c' M'.chart.length (flatA M'.chart)) (h1 : W.ownsRow B 86 2 f' M'.flows.length (flat Fl.encF M'.flows)) (h2 : W.ownsRow B 65 2 e' M'.ents.length (flat encE M'.ents)) (h3 : W.ownsRow B 67 3 l' M'.lines.length (flat encL M'.lines))
    (hm : MapRd W m n D) (gR : B ≤ R) (gM : B ≤ m) : RdAt (W.setCell ⟨R, i, none⟩ v) B R m c' f' e' l' n D M' := by
  have hg : W.grownBy (W.setCell ⟨R, i, none⟩ v) (some R) := ⟨rfl, rfl, rfl, by simp [World.setCell], fun k _ hk => Below.heap_setCell W _ v k (fun e => hk (by rw [e]))⟩
  refine ⟨?_, h0.kept hg (own_or (box_apart hbox h0 (by decide))), h1.kept hg (own_or (box_apart hbox h1 (by decide))), h2.kept hg (own_or (box_apart hbox h2 (by decide))), h3.kept hg (own_or (box_apart hbox h3 (by decide))), hm.kept hg (fun e => ?_), gR, gM⟩
  · have := Joins.block_setCell (i := i) hbox v
    rw [heq] at this
    exact this
  · obtain ⟨es, cl, hb, _⟩ := hm
    cases e
    rw [hbox] at hb; cases hb
/-- What was there ahead of the reader is as it was behind a store into it. -/
theorem below_stored {W1 : World} (h : Below B W1 W) (hR : B ≤ R) (i : Nat) (v : Value) : Below B W1 (W.setCell ⟨R, i, none⟩ v) := h.setCell (p := ⟨R, i, none⟩) hR v
end
end Go.Proofs.YticdmlijacnjbaaGreatDoor.Un
