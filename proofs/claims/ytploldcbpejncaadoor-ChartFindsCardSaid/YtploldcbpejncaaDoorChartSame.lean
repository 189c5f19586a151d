
/- The walks of the document's Same and Rise over accounts; how two accounts compare. -/
import Derived.Test.YtploldcbpejncaaDoorChartFind
import Derived.BigQuiet
import Derived.Deep.QuietTactic
import Derived.Laws.StructEq
namespace Go.Proofs.YtploldcbpejncaaDoor
open Go.RowKit

def eqA (a b : Acct) : Bool := decide (a = b)
def eqFs (a b : Acct) : Bool := a.code.toList == b.code.toList && (a.cls == b.cls && (a.cash == b.cash && (a.both == b.both && (a.fixed.toList == b.fixed.toList && a.worn == b.worn))))
theorem eqFs_eq (a b : Acct) : eqFs a b = eqA a b := by
  unfold eqFs eqA
  rw [Bool.eq_iff_iff]
  simp only [Bool.and_eq_true, beq_iff_eq, decide_eq_true_eq]
  constructor
  · rintro ⟨h0, h1, h2, h3, h4, h5⟩
    exact Acct.ext' (toList_inj h0) h1 h2 h3 (toList_inj h4) h5
  · rintro rfl; exact ⟨rfl, rfl, rfl, rfl, rfl, rfl⟩
theorem eql_ref (a b : Acct) (w : World) : Sem.run Tryd.prog (binOp .eql 23 (aggF a) (aggF b)) w = .ok (.bool (eqA a b)) w := by
  have hS : Tryd.prog.underlying 23 = some (.struct (Tryd.prog.fieldsOf 23)) := by kernel_rfl
  have hp : Tryd.prog.stoodInHeld 23 = false := by kernel_rfl
  rw [run_eql_struct, show (10000 : Nat) = 9999 + 1 from rfl, run_equalIn_agg w 9999 23 _ _ hS hp, ← eqFs_eq]
  simp only [Program.fieldsOf, Tryd.underlying23]
  go_simp
  unfold eqFs
  by_cases h0 : a.code.toList = b.code.toList
  · by_cases h1 : a.cls = b.cls
    · by_cases h2 : a.cash = b.cash
      · by_cases h3 : a.both = b.both
        · by_cases h4 : a.fixed.toList = b.fixed.toList
          · by_cases h5 : a.worn = b.worn <;> simp [h0, h1, h2, h3, h4, h5]
          · simp [h0, h1, h2, h3, h4]
        · simp [h0, h1, h2, h3]
      · simp [h0, h1, h2]
    · simp [h0, h1]
  · simp [h0]
theorem neq_ref (a b : Acct) (w : World) : Sem.run Tryd.prog (binOp .neq 23 (aggF a) (aggF b)) w = .ok (.bool (!eqA a b)) w := by
  have hS : Tryd.prog.underlying 23 = some (.struct (Tryd.prog.fieldsOf 23)) := by kernel_rfl
  have hp : Tryd.prog.stoodInHeld 23 = false := by kernel_rfl
  rw [run_neq_struct, show (10000 : Nat) = 9999 + 1 from rfl, run_equalIn_agg w 9999 23 _ _ hS hp, ← eqFs_eq]
  simp only [Program.fieldsOf, Tryd.underlying23]
  go_simp
  unfold eqFs
  by_cases h0 : a.code.toList = b.code.toList
  · by_cases h1 : a.cls = b.cls
    · by_cases h2 : a.cash = b.cash
      · by_cases h3 : a.both = b.both
        · by_cases h4 : a.fixed.toList = b.fixed.toList
          · by_cases h5 : a.worn = b.worn <;> simp [h0, h1, h2, h3, h4, h5]
          · simp [h0, h1, h2, h3, h4]
        · simp [h0, h1, h2, h3]
      · simp [h0, h1, h2]
    · simp [h0, h1]
  · simp [h0]
theorem eql_acc (a b : Acct) (w : World) : Sem.run Tryd.prog (binOp .eql 28 (aggF a) (aggF b)) w = .ok (.bool (eqA a b)) w := by
  have hS : Tryd.prog.underlying 28 = some (.struct (Tryd.prog.fieldsOf 28)) := by kernel_rfl
  have hp : Tryd.prog.stoodInHeld 28 = false := by kernel_rfl
  rw [run_eql_struct, show (10000 : Nat) = 9999 + 1 from rfl, run_equalIn_agg w 9999 28 _ _ hS hp, ← eqFs_eq]
  simp only [Program.fieldsOf, Tryd.underlying28]
  go_simp
  unfold eqFs
  by_cases h0 : a.code.toList = b.code.toList
  · by_cases h1 : a.cls = b.cls
    · by_cases h2 : a.cash = b.cash
      · by_cases h3 : a.both = b.both
        · by_cases h4 : a.fixed.toList = b.fixed.toList
          · by_cases h5 : a.worn = b.worn <;> simp [h0, h1, h2, h3, h4, h5]
          · simp [h0, h1, h2, h3, h4]
        · simp [h0, h1, h2, h3]
      · simp [h0, h1, h2]
    · simp [h0, h1]
  · simp [h0]
theorem guard_ref : Tryd.prog.eqGuardType Tryd.prog.depth 23 = false := by kernel_rfl
theorem guard_acc : Tryd.prog.eqGuardType Tryd.prog.depth 28 = false := by kernel_rfl
theorem eqA_iff (a b : Acct) : eqA a b = true ↔ a = b := by simp [eqA]
theorem eqA_no (a b : Acct) : eqA a b = false ↔ a ≠ b := by simp [eqA]
theorem cellQ (w : World) (q : Nat) (p : Addr) : (w.drewN q).cell? p = w.cell? p := rfl
theorem AcctAt.drewN {w : World} {b o : Nat} {a : Acct} (h : AcctAt w b o a) (q : Nat) : AcctAt (w.drewN q) b o a := ⟨h.c0, h.c1, h.c2, h.c3, h.c4, h.c5⟩
def sameA (L M : List Acct) : Bool := decide (L = M)
theorem sameA_len {us vs : List Acct} (h : us.length ≠ vs.length) : sameA us vs = false := decide_eq_false fun e => h (by rw [e])
theorem sameA_no {us vs : List Acct} {i : Nat} {x y : Acct} (hx : us[i]? = some x) (hy : vs[i]? = some y) (h : x ≠ y) : sameA us vs = false :=
  decide_eq_false fun e => h (by rw [e, hy] at hx; exact (Option.some.inj hx).symm)
theorem sameA_yes {us vs : List Acct} {n : Nat} (hu : us.length = n) (hv : vs.length = n) (h : ∀ (j : Nat) (x y : Acct), j < n → us[j]? = some x → vs[j]? = some y → x = y) : sameA us vs = true :=
  decide_eq_true (by
    apply List.ext_getElem?
    intro j
    by_cases hj : j < n
    · rw [List.getElem?_eq_getElem (by omega), List.getElem?_eq_getElem (by omega)]
      rw [h j _ _ hj (List.getElem?_eq_getElem (by omega)) (List.getElem?_eq_getElem (by omega))]
    · rw [List.getElem?_eq_none (by omega), List.getElem?_eq_none (by omega)])

set_option maxRecDepth 100000 in
set_option maxHeartbeats 4000000 in
theorem same_any (v u : Value) (vs us : List Acct) (w : World) (h : ChartV w v vs) (h' : ChartV w u us) :
    Calls Tryd.prog 18 #[v, u] w fun e w' => e = .returned (.bool (sameA vs us)) ∧ ∃ q, w' = w.drewN q := by
  obtain ⟨a, c, rfl, hk, hm, _, hc⟩ := h
  obtain ⟨a', c', rfl, hk', hm', _, hc'⟩ := h'
  obtain ⟨n, hn⟩ : ∃ n, vs.length = n := ⟨_, rfl⟩
  obtain ⟨n', hn'⟩ : ∃ n, us.length = n := ⟨_, rfl⟩
  obtain ⟨r, hr⟩ : ∃ r, sameA vs us = r := ⟨_, rfl⟩
  rw [hn] at hk ⊢
  rw [hn'] at hk' ⊢
  rw [hr]
  have H := Lib.hid hc
  have H' := Lib.hid hc'
  have HN := Lib.hid hn
  have HN' := Lib.hid hn'
  have HR := Lib.hid hr
  unfold maxLen at hm hm'
  clear hc hc' hn hn' hr
  by_cases hne : n = n'
  · subst hne
    have hnn : ((n : Int) != (n : Int)) = false := by simp
    have hgd := guard_ref
    go_enter Tryd.func18, Tryd.ntmps18
    go_wp2
    go_loopg [5] n (fun kx vi wr => ∃ i q : Nat, vi = .int .i64 (i : Int) ∧ i ≤ n ∧ n - i ≤ kx ∧ Hid (wr = w.drewN q) ∧ Hid (∀ (j : Nat) (x y : Acct), j < i → vs[j]? = some x → us[j]? = some y → x = y))
    case atStart => exact ⟨0, 0, rfl, Nat.zero_le _, by omega, rfl, Lib.hid fun j x y hj => absurd hj (Nat.not_lt_zero _)⟩
    case round =>
      obtain ⟨i, q, rfl, hin, hkx, HW, HA⟩ := hrel
      by_cases hlt : i < n
      · obtain ⟨x, hx⟩ : ∃ y, vs[i]? = some y := ⟨_, List.getElem?_eq_getElem (by rw [HN.out]; exact hlt)⟩
        obtain ⟨y, hy⟩ : ∃ y, us[i]? = some y := ⟨_, List.getElem?_eq_getElem (by rw [HN'.out]; exact hlt)⟩
        obtain ⟨b1, o1, rfl, d1⟩ := H.out i _ hx
        obtain ⟨b2, o2, rfl, d2⟩ := H'.out i _ hy
        have HX := Lib.hid hx
        have HY := Lib.hid hy
        clear hx hy
        have hd1 := d1.drewN q
        have hd2 := d2.drewN q
        rw [← HW.out] at hd1 hd2
        obtain ⟨e0, e1, e2, e3, e4, e5⟩ := hd1
        obtain ⟨k0, k1, k2, k3, k4, k5⟩ := hd2
        clear d1 d2
        have hltz : (i : Int) < (n : Int) := by omega
        have hq := neq_ref x y
        cases hxy : eqA x y with
        | true =>
          have HXE := Lib.hid ((eqA_iff x y).1 hxy)
          rw [hxy] at hq
          clear hxy
          go_wp2_with fail
          go_big_quiet (fail)
          clear e0 e1 e2 e3 e4 e5 k0 k1 k2 k3 k4 k5
          go_wp2
          go_roundg (n - (i + 1))
          case measure => omega
          case rel => exact ⟨i + 1, q + nq, by first | rfl | go_num, by omega, Nat.le_refl _, Lib.hid (by rw [HW.out, World.drewN_drewN]), Lib.hid fun j z t hj hz ht => by
            rcases Nat.lt_or_ge j i with h | h
            · exact HA.out j z t h hz ht
            · obtain rfl : j = i := by omega
              rw [HX.out] at hz; rw [HY.out] at ht
              cases hz; cases ht; exact HXE.out⟩
        | false =>
          have HXE := Lib.hid ((eqA_no x y).1 hxy)
          rw [hxy] at hq
          clear hxy
          go_wp2_with fail
          go_big_quiet (fail)
          clear e0 e1 e2 e3 e4 e5 k0 k1 k2 k3 k4 k5
          go_wp2
          go_ret
          exact ⟨ret_bool (by rw [← HR.out, sameA_no HX.out HY.out HXE.out]), q + nq, by rw [HW.out, World.drewN_drewN]⟩
      · have hltz : ¬ (i : Int) < (n : Int) := by omega
        go_wp2
        go_ret
        exact ⟨ret_bool (by rw [← HR.out, sameA_yes HN.out HN'.out fun j x y hj => HA.out j x y (by omega)]), q, HW.out⟩
  · have hnn : ((n : Int) != (n' : Int)) = true := by simp; omega
    have HNE := Lib.hid hne
    clear hne
    go_enter Tryd.func18, Tryd.ntmps18
    go_wp2
    go_ret
    exact ⟨ret_bool (by rw [← HR.out, sameA_len (by rw [HN.out, HN'.out]; exact HNE.out)]), 0, rfl⟩
set_option maxRecDepth 100000 in
set_option maxHeartbeats 4000000 in
theorem rise_any (v : Value) (vs : List Acct) (w : World) (h : ChartV w v vs) :
    Calls Tryd.prog 21 #[v] w fun e w' => e = .returned (.bool (riseL vs)) ∧ ∃ q, w' = w.drewN q := by
  obtain ⟨a, c, rfl, hk, hm, _, hc⟩ := h
  obtain ⟨n, hn⟩ : ∃ n, vs.length = n := ⟨_, rfl⟩
  obtain ⟨r, hr⟩ : ∃ r, riseL vs = r := ⟨_, rfl⟩
  rw [hn] at hk ⊢
  rw [hr]
  have H := Lib.hid hc
  have HN := Lib.hid hn
  have HR := Lib.hid hr
  unfold maxLen at hm
  clear hc hn hr
  go_enter Tryd.func21, Tryd.ntmps21
  go_wp2
  go_loopg [3] (n + 1) (fun kx vi wr => ∃ i q : Nat, vi = .int .i64 ((i : Int) + 1) ∧ n - i ≤ kx ∧ i ≤ n ∧ Hid (wr = w.drewN q) ∧ Hid (∀ (j : Nat) (x y : Acct), j < i → vs[j]? = some x → vs[j + 1]? = some y → ltS x.code y.code = true))
  case atStart => exact ⟨0, 0, rfl, by omega, Nat.zero_le _, rfl, Lib.hid fun j x y hj => absurd hj (Nat.not_lt_zero _)⟩
  case round =>
    obtain ⟨i, q, rfl, hkx, hin, HW, HA⟩ := hrel
    by_cases hlt : i + 1 < n
    · obtain ⟨x, hx⟩ : ∃ y, vs[i]? = some y := ⟨_, List.getElem?_eq_getElem (by rw [HN.out]; omega)⟩
      obtain ⟨y, hy⟩ : ∃ y, vs[i + 1]? = some y := ⟨_, List.getElem?_eq_getElem (by rw [HN.out]; exact hlt)⟩
      obtain ⟨b1, o1, rfl, d1⟩ := H.out i _ hx
      obtain ⟨b2, o2, e', d2⟩ := H.out (i + 1) _ hy
      cases e'
      have HX := Lib.hid hx
      have HY := Lib.hid hy
      clear hx hy
      have e0 := (d1.drewN q).c0
      have k0 := (d2.drewN q).c0
      rw [← HW.out] at e0 k0
      clear d1 d2
      have hltz : (i : Int) + 1 < (n : Int) := by omega
      have hp1 : (i : Int) + 1 - 1 = (i : Int) := by omega
      cases hxy : ltS x.code y.code with
      | true =>
        have HXE := Lib.hid hxy
        unfold ltS at hxy
        go_wp2_with fail
        go_big_quiet (fail)
        clear e0 k0 hxy
        go_wp2
        go_roundg (n - (i + 1))
        case measure => omega
        case rel => exact ⟨i + 1, q + nq, by first | rfl | go_num | (congr 1; omega), by omega, by omega, Lib.hid (by rw [HW.out, World.drewN_drewN]), Lib.hid fun j z t hj hz ht => by
          rcases Nat.lt_or_ge j i with h | h
          · exact HA.out j z t h hz ht
          · obtain rfl : j = i := by omega
            rw [HX.out] at hz; rw [HY.out] at ht
            cases hz; cases ht; exact HXE.out⟩
      | false =>
        have HXE := Lib.hid hxy
        unfold ltS at hxy
        go_wp2_with fail
        go_big_quiet (fail)
        clear e0 k0 hxy
        go_wp2
        go_ret
        exact ⟨ret_bool (by rw [← HR.out, rise_no HX.out HY.out HXE.out]), q + nq, by rw [HW.out, World.drewN_drewN]⟩
    · have hltz : ¬ (i : Int) + 1 < (n : Int) := by omega
      go_wp2
      go_ret
      exact ⟨ret_bool (by rw [← HR.out]; symm; exact rise_of fun j x y hx hy => HA.out j x y (by have := (List.getElem?_eq_some_iff.1 hy).1; rw [HN.out] at this; omega) hx hy), q, HW.out⟩
end Go.Proofs.YtploldcbpejncaaDoor
