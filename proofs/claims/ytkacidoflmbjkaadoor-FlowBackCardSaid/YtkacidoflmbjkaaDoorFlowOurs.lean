
/- The walks of the statements' ours, theirs and few, and of the document's Same: the same flows, in new memory; whether flows are few and short; whether lists are the same. -/
import Derived.Test.YtkacidoflmbjkaaDoorFlowOf
import Derived.BigQuiet
import Derived.Deep.QuietTactic
import Derived.Deep.LoopGhost
import Derived.Laws.StructEq
namespace Go.Proofs.YtkacidoflmbjkaaDoor.Fl
open Go.RowKit

theorem info_ours : (Tryd.prog.info? 23).map (fun i => (i.zero, i.size, i.bytes)) = some (some (.agg #[.string ⟨#[]⟩, .int .i64 0]), 2, 24) := by kernel_rfl
theorem info_theirs : (Tryd.prog.info? 28).map (fun i => (i.zero, i.size, i.bytes)) = some (some (.agg #[.string ⟨#[]⟩, .int .i64 0]), 2, 24) := by kernel_rfl
/-- What the round of a copying loop holds. -/
def CopyAt (w : World) (e : TypeId) (L : List Flow) (s3 s8 : Value) (wr : World) : Prop :=
  ∃ k : Nat, k ≤ L.length ∧ s8 = .int .i64 (k : Int) ∧ wr.ownsRow w.heap.size e 2 s3 (L.take k).length (flat encF (L.take k)) ∧ Below w.heap.size w wr
/-- A list is told in new memory. -/
def FlowsTold (w : World) (L : List Flow) (e : Ending) (w' : World) : Prop := ∃ v, e = .returned v ∧ FlowsV w' v L ∧ Below w.heap.size w w'
set_option maxRecDepth 100000 in
set_option maxHeartbeats 1000000 in
theorem ours_any (v : Value) (L : List Flow) (w : World) (h : FlowsV w v L) (hL : L.length ≤ 1000) :
    Calls Tryd.prog 18 #[v] w (FlowsTold w L) := by
  obtain ⟨a, c, rfl, hcap, hm, _, hc⟩ := h
  obtain ⟨i0, hi, hz0, hz1, hz2⟩ := info_parts info_ours
  have HI := Lib.hid (And.intro hi (And.intro hz0 (And.intro hz1 hz2)))
  have HC := Lib.hid hc
  clear hi hz0 hz1 hz2 hc
  unfold maxLen at hm
  go_enter Tryd.func18, Tryd.ntmps18
  go_wp2
  go_loopw [3, 8] (fun s3 s8 wr => CopyAt w 23 L s3 s8 wr) (fun _ s8 _ => L.length - (intOf s8).toNat)
  case atStart => exact ⟨0, Nat.zero_le _, rfl, World.ownsRow_nil _ _ _ _, Below.refl _ _⟩
  case round =>
    obtain ⟨k, hk, rfl, hown, hnx⟩ := hrel
    by_cases hlt : k < L.length
    · obtain ⟨x, hx⟩ : ∃ x, L[k]? = some x := ⟨_, List.getElem?_eq_getElem hlt⟩
      obtain ⟨b, o, rfl, hat⟩ := HC.out k x hx
      obtain ⟨c0, c1⟩ := two (hat.keep hnx hat.lt)
      have HT : Hid (L.take (k + 1) = L.take k ++ [x]) := Lib.hid (by rw [take_at L k hlt]; rw [List.getElem?_eq_getElem hlt] at hx; rw [Option.some.inj hx])
      have hlk : (L.take k).length = k := by rw [List.length_take]; omega
      have HLK := Lib.hid hlk
      have hsz := hnx.size
      clear hx hat hlk
      go_wp2_with (at_builtin; refine wpList_append_own _ rfl _ _ 27 rfl w.heap.size 23 i0 (.agg #[.string ⟨#[]⟩, .int .i64 0]) 2 24 Tryd.underlying27 HI.out.1 HI.out.2.1 HI.out.2.2.1 HI.out.2.2.2 rfl (by decide) _ _ _ rfl ((hown.alloc _).alloc _) ⟨wr.heap.size + 1, 0, none⟩ 1 1 (encF.cs x) rfl rfl (new_cells2 wr _ (encF.cs x) _) (encF.one x) (by rw [HLK.out]; unfold maxLen; omega) (by rw [HLK.out]; omega) (by simp; omega) ?_; intro v' w1 hown' hgrow _)
      go_roundw
      case rel =>
        refine ⟨k + 1, by omega, by go_num, ?_, ?_⟩
        · rw [HT.out, flat_append, List.length_append, flat_one]; exact hown'
        · exact below_grown ((hnx.alloc hsz _).alloc (by simp; omega) _) (by simp; omega) ((hown.alloc _).alloc _) hgrow
      case measure => simp [intOf]; omega
    · have hf : FlowsV wr u3 L := by
        have : L.take k = L := List.take_of_length_le (by omega)
        rw [this] at hown
        exact els_of_own hown
      have HF := Lib.hid hf
      clear hf
      go_wp2
      go_ret
      exact ⟨_, rfl, HF.out, hnx⟩
set_option maxRecDepth 100000 in
set_option maxHeartbeats 1000000 in
theorem theirs_any (v : Value) (L : List Flow) (w : World) (h : FlowsV w v L) (hL : L.length ≤ 1000) :
    Calls Tryd.prog 22 #[v] w (FlowsTold w L) := by
  obtain ⟨a, c, rfl, hcap, hm, _, hc⟩ := h
  obtain ⟨i0, hi, hz0, hz1, hz2⟩ := info_parts info_theirs
  have HI := Lib.hid (And.intro hi (And.intro hz0 (And.intro hz1 hz2)))
  have HC := Lib.hid hc
  clear hi hz0 hz1 hz2 hc
  unfold maxLen at hm
  go_enter Tryd.func22, Tryd.ntmps22
  go_wp2
  go_loopw [3, 8] (fun s3 s8 wr => CopyAt w 28 L s3 s8 wr) (fun _ s8 _ => L.length - (intOf s8).toNat)
  case atStart => exact ⟨0, Nat.zero_le _, rfl, World.ownsRow_nil _ _ _ _, Below.refl _ _⟩
  case round =>
    obtain ⟨k, hk, rfl, hown, hnx⟩ := hrel
    by_cases hlt : k < L.length
    · obtain ⟨x, hx⟩ : ∃ x, L[k]? = some x := ⟨_, List.getElem?_eq_getElem hlt⟩
      obtain ⟨b, o, rfl, hat⟩ := HC.out k x hx
      obtain ⟨c0, c1⟩ := two (hat.keep hnx hat.lt)
      have HT : Hid (L.take (k + 1) = L.take k ++ [x]) := Lib.hid (by rw [take_at L k hlt]; rw [List.getElem?_eq_getElem hlt] at hx; rw [Option.some.inj hx])
      have hlk : (L.take k).length = k := by rw [List.length_take]; omega
      have HLK := Lib.hid hlk
      have hsz := hnx.size
      clear hx hat hlk
      go_wp2_with (at_builtin; refine wpList_append_own _ rfl _ _ 41 rfl w.heap.size 28 i0 (.agg #[.string ⟨#[]⟩, .int .i64 0]) 2 24 Tryd.underlying41 HI.out.1 HI.out.2.1 HI.out.2.2.1 HI.out.2.2.2 rfl (by decide) _ _ _ rfl ((hown.alloc _).alloc _) ⟨wr.heap.size + 1, 0, none⟩ 1 1 (encF.cs x) rfl rfl (new_cells2 wr _ (encF.cs x) _) (encF.one x) (by rw [HLK.out]; unfold maxLen; omega) (by rw [HLK.out]; omega) (by simp; omega) ?_; intro v' w1 hown' hgrow _)
      go_roundw
      case rel =>
        refine ⟨k + 1, by omega, by go_num, ?_, ?_⟩
        · rw [HT.out, flat_append, List.length_append, flat_one]; exact hown'
        · exact below_grown ((hnx.alloc hsz _).alloc (by simp; omega) _) (by simp; omega) ((hown.alloc _).alloc _) hgrow
      case measure => simp [intOf]; omega
    · have hf : FlowsV wr u3 L := by
        have : L.take k = L := List.take_of_length_le (by omega)
        rw [this] at hown
        exact els_of_own hown
      have HF := Lib.hid hf
      clear hf
      go_wp2
      go_ret
      exact ⟨_, rfl, HF.out, hnx⟩
def shortF (a : Flow) : Bool := decide (a.code.size ≤ 60)
def fewF (L : List Flow) : Bool := decide (L.length ≤ 70) && L.all shortF
theorem fewF_parts {L : List Flow} (h : fewF L = true) : L.length ≤ 70 ∧ ∀ x ∈ L, x.code.size ≤ 60 := by
  unfold fewF at h
  rw [Bool.and_eq_true] at h
  refine ⟨of_decide_eq_true h.1, fun x hx => ?_⟩
  have := List.all_eq_true.1 h.2 x hx
  unfold shortF at this
  exact of_decide_eq_true this
theorem fewF_no {L : List Flow} {x : Flow} (hx : x ∈ L) (h : shortF x = false) : fewF L = false := by
  cases hb : fewF L with
  | false => rfl
  | true =>
    unfold fewF at hb
    rw [Bool.and_eq_true] at hb
    rw [← h]; exact (List.all_eq_true.1 hb.2 x hx).symm
set_option maxRecDepth 100000 in
set_option maxHeartbeats 2000000 in
theorem few_any (v : Value) (L : List Flow) (w : World) (h : FlowsV w v L) :
    Calls Tryd.prog 8 #[v] w fun e w' => e = .returned (.bool (fewF L)) ∧ Below w.heap.size w w' := by
  obtain ⟨a, c, rfl, hcap, hm, _, hc⟩ := h
  obtain ⟨n, hn⟩ : ∃ n, L.length = n := ⟨_, rfl⟩
  obtain ⟨r, hr⟩ : ∃ r, fewF L = r := ⟨_, rfl⟩
  rw [hn] at hcap ⊢
  rw [hr]
  have HC := Lib.hid hc
  have HN := Lib.hid hn
  have HR := Lib.hid hr
  unfold maxLen at hm
  clear hc hn hr
  go_enter Tryd.func8, Tryd.ntmps8
  go_wp2
  go_loopw [7] (fun s7 wr => ∃ i : Nat, i ≤ n ∧ s7 = .int .i64 (i : Int) ∧ Below w.heap.size w wr ∧ Hid (∀ x ∈ L.take i, shortF x = true)) (fun s7 _ => n - (intOf s7).toNat)
  case atStart => exact ⟨0, Nat.zero_le _, rfl, Below.refl _ _, Lib.hid fun x hx => by simp at hx⟩
  case round =>
    obtain ⟨i, hi, rfl, hnx, HNO⟩ := hrel
    by_cases hlt : i < n
    · have hil : i < L.length := by rw [HN.out]; exact hlt
      obtain ⟨x, hx⟩ : ∃ x, L[i]? = some x := ⟨_, List.getElem?_eq_getElem hil⟩
      obtain ⟨b, o, rfl, hat⟩ := HC.out i x hx
      obtain ⟨c0, c1⟩ := two (hat.keep hnx hat.lt)
      have HMem := Lib.hid (List.mem_of_getElem? hx)
      have HTK : Hid (L.take (i + 1) = L.take i ++ [x]) := Lib.hid (by rw [take_at L i hil]; rw [List.getElem?_eq_getElem hil] at hx; rw [Option.some.inj hx])
      have HNX := Lib.hid (hnx.alloc hnx.size (.cells #[.string x.code, .int .i64 x.kind] 23))
      clear hx hat hil
      by_cases h1 : 60 < x.code.size
      · have hres : Hid (r = false) := Lib.hid (by
          rw [← HR.out]
          refine fewF_no HMem.out ?_
          unfold shortF
          rw [decide_eq_false (by omega)])
        go_wp2
        go_ret
        exact ⟨ret_bool hres.out.symm, HNX.out⟩
      · have hsh : Hid (shortF x = true) := Lib.hid (by unfold shortF; rw [decide_eq_true (by omega)])
        go_wp2
        go_roundw
        case rel => exact ⟨i + 1, by omega, by go_num, HNX.out, Lib.hid fun z hz => by
          rw [HTK.out] at hz
          rcases List.mem_append.1 hz with h | h
          · exact HNO.out z h
          · simp at h; subst h; exact hsh.out⟩
        case measure => simp [intOf]; omega
    · have hall : Hid (r = decide ((n : Int) ≤ 70)) := Lib.hid (by
        rw [← HR.out]
        unfold fewF
        rw [HN.out]
        have : L.all shortF = true := List.all_eq_true.2 fun z hz => HNO.out z (by rw [List.take_of_length_le (by rw [HN.out]; omega)]; exact hz)
        rw [this, Bool.and_true]
        rw [Bool.eq_iff_iff]; simp; omega)
      go_wp2
      go_ret
      exact ⟨ret_bool hall.out.symm, hnx⟩

/-! ### How two flows compare -/
def eqF (a b : Flow) : Bool := decide (a = b)
def eqFs (a b : Flow) : Bool := a.code.toList == b.code.toList && a.kind == b.kind
theorem eqFs_eq (a b : Flow) : eqFs a b = eqF a b := by
  unfold eqFs eqF
  rw [Bool.eq_iff_iff]
  simp only [Bool.and_eq_true, beq_iff_eq, decide_eq_true_eq]
  constructor
  · rintro ⟨h0, h1⟩
    exact Flow.ext' (toList_inj h0) h1
  · rintro rfl; exact ⟨rfl, rfl⟩
theorem eql_ref (a b : Flow) (w : World) : Sem.run Tryd.prog (binOp .eql 23 (aggL a) (aggL b)) w = .ok (.bool (eqF a b)) w := by
  have hS : Tryd.prog.underlying 23 = some (.struct (Tryd.prog.fieldsOf 23)) := by kernel_rfl
  have hp : Tryd.prog.stoodInHeld 23 = false := by kernel_rfl
  rw [run_eql_struct, show (10000 : Nat) = 9999 + 1 from rfl, run_equalIn_agg w 9999 23 _ _ hS hp, ← eqFs_eq]
  simp only [Program.fieldsOf, Tryd.underlying23]
  go_simp
  unfold eqFs
  by_cases h0 : a.code.toList = b.code.toList
  · by_cases h1 : a.kind = b.kind <;> simp [h0, h1]
  · simp [h0]
theorem neq_ref (a b : Flow) (w : World) : Sem.run Tryd.prog (binOp .neq 23 (aggL a) (aggL b)) w = .ok (.bool (!eqF a b)) w := by
  have hS : Tryd.prog.underlying 23 = some (.struct (Tryd.prog.fieldsOf 23)) := by kernel_rfl
  have hp : Tryd.prog.stoodInHeld 23 = false := by kernel_rfl
  rw [run_neq_struct, show (10000 : Nat) = 9999 + 1 from rfl, run_equalIn_agg w 9999 23 _ _ hS hp, ← eqFs_eq]
  simp only [Program.fieldsOf, Tryd.underlying23]
  go_simp
  unfold eqFs
  by_cases h0 : a.code.toList = b.code.toList
  · by_cases h1 : a.kind = b.kind <;> simp [h0, h1]
  · simp [h0]
theorem eql_flow (a b : Flow) (w : World) : Sem.run Tryd.prog (binOp .eql 28 (aggL a) (aggL b)) w = .ok (.bool (eqF a b)) w := by
  have hS : Tryd.prog.underlying 28 = some (.struct (Tryd.prog.fieldsOf 28)) := by kernel_rfl
  have hp : Tryd.prog.stoodInHeld 28 = false := by kernel_rfl
  rw [run_eql_struct, show (10000 : Nat) = 9999 + 1 from rfl, run_equalIn_agg w 9999 28 _ _ hS hp, ← eqFs_eq]
  simp only [Program.fieldsOf, Tryd.underlying28]
  go_simp
  unfold eqFs
  by_cases h0 : a.code.toList = b.code.toList
  · by_cases h1 : a.kind = b.kind <;> simp [h0, h1]
  · simp [h0]
theorem guard_ref : Tryd.prog.eqGuardType Tryd.prog.depth 23 = false := by kernel_rfl
theorem guard_flow : Tryd.prog.eqGuardType Tryd.prog.depth 28 = false := by kernel_rfl
theorem eqF_iff (a b : Flow) : eqF a b = true ↔ a = b := by simp [eqF]
theorem eqF_no (a b : Flow) : eqF a b = false ↔ a ≠ b := by simp [eqF]
def sameF (L M : List Flow) : Bool := decide (L = M)
theorem sameF_len {us vs : List Flow} (h : us.length ≠ vs.length) : sameF us vs = false := decide_eq_false fun e => h (by rw [e])
theorem sameF_no {us vs : List Flow} {i : Nat} {x y : Flow} (hx : us[i]? = some x) (hy : vs[i]? = some y) (h : x ≠ y) : sameF us vs = false :=
  decide_eq_false fun e => h (by rw [e, hy] at hx; exact (Option.some.inj hx).symm)
theorem sameF_yes {us vs : List Flow} {n : Nat} (hu : us.length = n) (hv : vs.length = n) (h : ∀ (j : Nat) (x y : Flow), j < n → us[j]? = some x → vs[j]? = some y → x = y) : sameF us vs = true :=
  decide_eq_true (by
    apply List.ext_getElem?
    intro j
    by_cases hj : j < n
    · rw [List.getElem?_eq_getElem (by omega), List.getElem?_eq_getElem (by omega)]
      rw [h j _ _ hj (List.getElem?_eq_getElem (by omega)) (List.getElem?_eq_getElem (by omega))]
    · rw [List.getElem?_eq_none (by omega), List.getElem?_eq_none (by omega)])
set_option maxRecDepth 100000 in
set_option maxHeartbeats 4000000 in
theorem same_any (v u : Value) (vs us : List Flow) (w : World) (h : FlowsV w v vs) (h' : FlowsV w u us) :
    Calls Tryd.prog 17 #[v, u] w fun e w' => e = .returned (.bool (sameF vs us)) ∧ ∃ q, w' = w.drewN q := by
  obtain ⟨a, c, rfl, hk, hm, _, hc⟩ := h
  obtain ⟨a', c', rfl, hk', hm', _, hc'⟩ := h'
  obtain ⟨n, hn⟩ : ∃ n, vs.length = n := ⟨_, rfl⟩
  obtain ⟨n', hn'⟩ : ∃ n, us.length = n := ⟨_, rfl⟩
  obtain ⟨r, hr⟩ : ∃ r, sameF vs us = r := ⟨_, rfl⟩
  rw [hn] at hk ⊢
  rw [hn'] at hk' ⊢
  rw [hr]
  have H := Lib.hid hc
  have H' := Lib.hid hc'
  have HN := Lib.hid hn
  have HN' := Lib.hid hn'
  have HR := Lib.hid hr
  unfold maxLen at hm hm'
  clear hc hc' hn hn' hr
  by_cases hne : n = n'
  · subst hne
    have hnn : ((n : Int) != (n : Int)) = false := by simp
    have hgd := guard_ref
    go_enter Tryd.func17, Tryd.ntmps17
    go_wp2
    go_loopg [5] n (fun kx vi wr => ∃ i q : Nat, vi = .int .i64 (i : Int) ∧ i ≤ n ∧ n - i ≤ kx ∧ Hid (wr = w.drewN q) ∧ Hid (∀ (j : Nat) (x y : Flow), j < i → vs[j]? = some x → us[j]? = some y → x = y))
    case atStart => exact ⟨0, 0, rfl, Nat.zero_le _, by omega, rfl, Lib.hid fun j x y hj => absurd hj (Nat.not_lt_zero _)⟩
    case round =>
      obtain ⟨i, q, rfl, hin, hkx, HW, HA⟩ := hrel
      by_cases hlt : i < n
      · obtain ⟨x, hx⟩ : ∃ y, vs[i]? = some y := ⟨_, List.getElem?_eq_getElem (by rw [HN.out]; exact hlt)⟩
        obtain ⟨y, hy⟩ : ∃ y, us[i]? = some y := ⟨_, List.getElem?_eq_getElem (by rw [HN'.out]; exact hlt)⟩
        obtain ⟨b1, o1, rfl, d1⟩ := H.out i _ hx
        obtain ⟨b2, o2, rfl, d2⟩ := H'.out i _ hy
        have HX := Lib.hid hx
        have HY := Lib.hid hy
        clear hx hy
        have hd1 := d1.drewN q
        have hd2 := d2.drewN q
        rw [← HW.out] at hd1 hd2
        obtain ⟨e0, e1⟩ := two hd1
        obtain ⟨k0, k1⟩ := two hd2
        clear d1 d2 hd1 hd2
        have hltz : (i : Int) < (n : Int) := by omega
        have hq := neq_ref x y
        cases hxy : eqF x y with
        | true =>
          have HXE := Lib.hid ((eqF_iff x y).1 hxy)
          rw [hxy] at hq
          clear hxy
          go_wp2_with fail
          go_big_quiet (fail)
          clear e0 e1 k0 k1
          go_wp2
          go_roundg (n - (i + 1))
          case measure => omega
          case rel => exact ⟨i + 1, q + nq, by first | rfl | go_num, by omega, Nat.le_refl _, Lib.hid (by rw [HW.out, World.drewN_drewN]), Lib.hid fun j z t hj hz ht => by
            rcases Nat.lt_or_ge j i with h | h
            · exact HA.out j z t h hz ht
            · obtain rfl : j = i := by omega
              rw [HX.out] at hz; rw [HY.out] at ht
              cases hz; cases ht; exact HXE.out⟩
        | false =>
          have HXE := Lib.hid ((eqF_no x y).1 hxy)
          rw [hxy] at hq
          clear hxy
          go_wp2_with fail
          go_big_quiet (fail)
          clear e0 e1 k0 k1
          go_wp2
          go_ret
          exact ⟨ret_bool (by rw [← HR.out, sameF_no HX.out HY.out HXE.out]), q + nq, by rw [HW.out, World.drewN_drewN]⟩
      · have hltz : ¬ (i : Int) < (n : Int) := by omega
        go_wp2
        go_ret
        exact ⟨ret_bool (by rw [← HR.out, sameF_yes HN.out HN'.out fun j x y hj => HA.out j x y (by omega)]), q, HW.out⟩
  · have hnn : ((n : Int) != (n' : Int)) = true := by simp; omega
    have HNE := Lib.hid hne
    clear hne
    go_enter Tryd.func17, Tryd.ntmps17
    go_wp2
    go_ret
    exact ⟨ret_bool (by rw [← HR.out, sameF_len (by rw [HN.out, HN'.out]; exact HNE.out)]), 0, rfl⟩
end Go.Proofs.YtkacidoflmbjkaaDoor.Fl
