/- The walk of the law CentSums: for any two slices of 32-bit numbers it returns true, and memory that was there stays. -/
import Derived.Test.YthakilmimcgbiaaDoorCentAlive
import Derived.Test.YthakilmimcgbiaaDoorMem
namespace Go.Proofs.YthakilmimcgbiaaDoor
open Go.RowKit

theorem rowIs_of_rowV {k : IntKind} {w : World} {v : Value} {l : List Int} (h : RowV k w v l) : ∃ a c, v = .slice a l.length c ∧ RowIs k w a l.length l := by
  rcases h with ⟨rfl, rfl⟩ | ⟨b, o, c, rfl, hm, hc⟩
  · exact ⟨none, 0, rfl, rfl, by unfold maxLen; simp, fun i hi => absurd hi (by simp)⟩
  · exact ⟨_, c, rfl, rfl, hm, fun i hi => ⟨b, o, rfl, hc i hi⟩⟩
theorem sum_val (v : Value) (l : List Int) (w : World) (h : RowV .i64 w v l) (hz : ∀ x ∈ l, In64 x) :
    Calls Tryd.prog 16 #[v] w fun e w' => e = .returned (.tuple #[.int .i64 (sumFrom 0 l).1, .int .i64 (sumFrom 0 l).2]) ∧ w = w' := by
  obtain ⟨a, c, rfl, hr⟩ := rowIs_of_rowV h
  exact sum_any a _ c l w hr hz

/-- The sum of many, without a bound. -/
def tot : List Int → Int
  | [] => 0
  | a :: r => a + tot r
theorem tot_append (a b : List Int) : tot (a ++ b) = tot a + tot b := by
  induction a with
  | nil => simp [tot]
  | cons x r ih => simp only [List.cons_append, tot, ih]; omega
def Small (l : List Int) : Prop := ∀ x ∈ l, -2147483648 ≤ x ∧ x ≤ 2147483647
theorem tot_bound (l : List Int) (h : Small l) : -(2147483648 * (l.length : Int)) ≤ tot l ∧ tot l ≤ 2147483648 * (l.length : Int) := by
  induction l with
  | nil => simp [tot]
  | cons x r ih =>
    have h1 := h x (by simp)
    have h2 := ih (fun y hy => h y (by simp [hy]))
    simp only [tot, List.length_cons]
    omega
theorem sum_small (l : List Int) : ∀ n : Int, Small l → -(2147483648 * (1000 - (l.length : Int))) ≤ n → n ≤ 2147483648 * (1000 - (l.length : Int)) → l.length ≤ 600 → sumFrom n l = (n + tot l, 0) := by
  induction l with
  | nil => intro n _ _ _ _; simp [sumFrom, tot]
  | cons x r ih =>
    intro n h h1 h2 h3
    have hx := h x (by simp)
    simp only [List.length_cons] at h1 h2 h3
    have hf : fit (n + x) = true := (fit_iff _).2 (by omega)
    rw [sumFrom_yes r hf, ih (n + x) (fun y hy => h y (by simp [hy])) (by omega) (by omega) (by omega)]
    simp only [tot]
    rw [show n + x + tot r = n + (x + tot r) by omega]
theorem sum_tot (l : List Int) (h : Small l) (hl : l.length ≤ 600) : sumFrom 0 l = (tot l, 0) := by
  rw [sum_small l 0 h (by omega) (by omega) hl, Int.zero_add]
theorem small_64 {l : List Int} (h : Small l) : ∀ x ∈ l, In64 x := fun x hx => by
  have := h x hx
  exact ⟨by omega, by omega⟩
theorem small_append {a b : List Int} (h : Small a) (k : Small b) : Small (a ++ b) := fun x hx => by
  rcases List.mem_append.1 hx with hx | hx
  · exact h x hx
  · exact k x hx

theorem infoI64 : (Tryd.prog.info? 2).map (fun i => (i.zero, i.size, i.bytes)) = some (some (.int .i64 0), 1, 8) := by kernel_rfl

set_option maxHeartbeats 1000000 in
theorem sums_core (pa pb : Option Addr) (na nb ca cb : Nat) (la lb : List Int) (w : World) (ha : RowIs .i32 w pa na la) (hb : RowIs .i32 w pb nb lb) (sa : Small la) (sb : Small lb) (hna : na ≤ 300) (hnb : nb ≤ 300) (hL : Laid w) :
    Calls Tryd.prog 7 #[.slice pa na ca, .slice pb nb cb] w fun e w' => e = .returned (.bool true) ∧ Below w.heap.size w w' := by
  obtain ⟨i0, hi, hz0, hz1, hz2⟩ := info_parts infoI64
  have HL := Lib.hid hL
  have HA := Lib.hid ha
  have HB := Lib.hid hb
  have SA := Lib.hid sa
  have SB := Lib.hid sb
  have HI := Lib.hid (And.intro hi (And.intro hz0 (And.intro hz1 hz2)))
  clear hL ha hb sa sb hi hz0 hz1 hz2
  have hd1 : decide ((300 : Int) < (na : Int)) = false := by simp; omega
  have hd2 : decide ((300 : Int) < (nb : Int)) = false := by simp; omega
  go_enter Tryd.func7, Tryd.ntmps7
  go_wp2_with fail
  refine (alive_any _ HL.out).mono ?_
  rintro e w1 ⟨rfl, hb1⟩
  have HB1 := Lib.hid hb1
  clear hb1
  go_wp2
  go_loopw [5, 31] (fun v i wr => ∃ k : Nat, k ≤ na ∧ i = .int .i64 k ∧ OwnI .i64 wr w1.heap.size 2 v (la.take k) ∧ Below w1.heap.size w1 wr) (fun _ i _ => na - (intOf i).toNat)
  case atStart => exact ⟨0, Nat.zero_le _, rfl, OwnI.nil _ _ _ _, Below.refl _ _⟩
  case round =>
    obtain ⟨k, hk, rfl, hown, hnx⟩ := hrel
    have HOWN := Lib.hid hown
    have HNX := Lib.hid hnx
    clear hown hnx
    by_cases hlt : k < na
    · obtain ⟨b, o, rfl, hc0⟩ := HA.out.cell k hlt
      have hc : wr.cell? ⟨b, o + k, none⟩ = some (.int .i32 (la.getD k 0)) := by
        have hbk := World.block_lt_of_cell? w _ hc0
        rw [HNX.out.cell (Nat.lt_of_lt_of_le hbk HB1.out.size), HB1.out.cell hbk]; exact hc0
      clear hc0
      have hin : -2147483648 ≤ la.getD k 0 ∧ la.getD k 0 ≤ 2147483647 := by
        have hl := HA.out.len
        rw [getD_at la k (by omega)]
        exact SA.out _ (List.getElem_mem _)
      obtain ⟨hin1, hin2⟩ := hin
      have htk : (la.take k).length = k := by have hl := HA.out.len; simp; omega
      have HTK := Lib.hid htk
      clear htk
      have HSN := Lib.hid (take_snoc la k (by rw [HA.out.len]; exact hlt))
      generalize la.getD k 0 = x at *
      go_wp2_with (at_builtin; refine wpList_append_rowV .i64 rfl _ _ 22 rfl w1.heap.size 2 i0 (.int .i64 0) 8 Tryd.underlying22 HI.out.1 HI.out.2.1 HI.out.2.2.1 HI.out.2.2.2 rfl (la.take k) (HOWN.out.alloc _) [x] (rowV_one _ _ _ _) (by rw [HTK.out]; unfold maxLen; simp; omega) (by rw [HTK.out]; simp; omega) (Nat.le_trans HNX.out.size (by simp)) ?_)
      intro v' w2 hown' hbel
      have HOWN2 := Lib.hid hown'
      have HBEL := Lib.hid ((HNX.out.alloc HNX.out.size _).trans hbel)
      clear hown' hbel
      go_wp2
      go_roundw
      case rel => exact ⟨k + 1, by omega, by go_num, by rw [← HSN.out]; exact HOWN2.out, HBEL.out⟩
      case measure => simp [intOf]; omega
    · have hkn : k = na := by omega
      have hall : la.take k = la := by rw [hkn, List.take_of_length_le (by rw [HA.out.len]; omega)]
      have HOWN1 := Lib.hid (hall ▸ HOWN.out)
      clear HOWN hall hkn
      have HNX1 := Lib.hid HNX.out
      clear HNX
      go_wp2
      rename World => wa
      go_loopw [6, 43] (fun v i wx => ∃ k : Nat, k ≤ nb ∧ i = .int .i64 k ∧ OwnI .i64 wx wa.heap.size 2 v (lb.take k) ∧ Below wa.heap.size wa wx) (fun _ i _ => nb - (intOf i).toNat)
      case atStart => exact ⟨0, Nat.zero_le _, rfl, OwnI.nil _ _ _ _, Below.refl _ _⟩
      case round =>
        obtain ⟨k, hk, rfl, hown, hnx⟩ := hrel
        have HOWN := Lib.hid hown
        have HNX := Lib.hid hnx
        clear hown hnx
        by_cases hlt : k < nb
        · obtain ⟨b, o, rfl, hc0⟩ := HB.out.cell k hlt
          have hc : wr.cell? ⟨b, o + k, none⟩ = some (.int .i32 (lb.getD k 0)) := by
            have hbk := World.block_lt_of_cell? w _ hc0
            rw [HNX.out.cell (Nat.lt_of_lt_of_le hbk (Nat.le_trans HB1.out.size HNX1.out.size)), HNX1.out.cell (Nat.lt_of_lt_of_le hbk HB1.out.size), HB1.out.cell hbk]; exact hc0
          clear hc0
          have hin : -2147483648 ≤ lb.getD k 0 ∧ lb.getD k 0 ≤ 2147483647 := by
            have hl := HB.out.len
            rw [getD_at lb k (by omega)]
            exact SB.out _ (List.getElem_mem _)
          obtain ⟨hin1, hin2⟩ := hin
          have htk : (lb.take k).length = k := by have hl := HB.out.len; simp; omega
          have HTK := Lib.hid htk
          clear htk
          have HSN := Lib.hid (take_snoc lb k (by rw [HB.out.len]; exact hlt))
          generalize lb.getD k 0 = x at *
          go_wp2_with (at_builtin; refine wpList_append_rowV .i64 rfl _ _ 22 rfl wa.heap.size 2 i0 (.int .i64 0) 8 Tryd.underlying22 HI.out.1 HI.out.2.1 HI.out.2.2.1 HI.out.2.2.2 rfl (lb.take k) (HOWN.out.alloc _) [x] (rowV_one _ _ _ _) (by rw [HTK.out]; unfold maxLen; simp; omega) (by rw [HTK.out]; simp; omega) (Nat.le_trans HNX.out.size (by simp)) ?_)
          intro v' w2 hown' hbel
          have HOWN2 := Lib.hid hown'
          have HBEL := Lib.hid ((HNX.out.alloc HNX.out.size _).trans hbel)
          clear hown' hbel
          go_wp2
          go_roundw
          case rel => exact ⟨k + 1, by omega, by go_num, by rw [← HSN.out]; exact HOWN2.out, HBEL.out⟩
          case measure => simp [intOf]; omega
        · have hkn2 : k = nb := by omega
          have hall2 : lb.take k = lb := by rw [hkn2, List.take_of_length_le (by rw [HB.out.len]; omega)]
          have HOWN3 := Lib.hid (hall2 ▸ HOWN.out)
          clear HOWN hall2 hkn2
          have HR1 := Lib.hid (HOWN1.out.row.keep HNX.out (Nat.le_refl _))
          have HR2 := Lib.hid HOWN3.out.row
          have HBW := Lib.hid ((HB1.out.trans (HNX1.out.mono HB1.out.size)).trans (HNX.out.mono (Nat.le_trans HB1.out.size HNX1.out.size)))
          have hla := HA.out.len
          have hlb := HB.out.len
          have HS1 := Lib.hid (sum_tot la SA.out (by omega))
          have HS2 := Lib.hid (sum_tot lb SB.out (by omega))
          have HS3 := Lib.hid (sum_tot (la ++ lb) (small_append SA.out SB.out) (by simp; omega))
          have HT := Lib.hid (tot_append la lb)
          have HT1 := Lib.hid (tot_bound la SA.out)
          have HT2 := Lib.hid (tot_bound lb SB.out)
          have HLA := Lib.hid hla
          have HLB := Lib.hid hlb
          clear hla hlb
          go_wp2_with fail
          refine (sum_val _ la _ HR1.out (small_64 SA.out)).mono ?_
          rintro e w' ⟨rfl, rfl⟩
          rw [HS1.out]
          go_wp2_with fail
          refine (sum_val _ lb _ HR2.out (small_64 SB.out)).mono ?_
          rintro e w' ⟨rfl, rfl⟩
          rw [HS2.out]
          go_wp2_with (at_builtin; refine wpList_append_rowV .i64 rfl _ _ 22 rfl wr.heap.size 2 i0 (.int .i64 0) 8 Tryd.underlying22 HI.out.1 HI.out.2.1 HI.out.2.2.1 HI.out.2.2.2 rfl [] (OwnI.nil _ _ _ _) la HR1.out (by rw [HLA.out]; unfold maxLen; simp; omega) (by rw [HLA.out]; simp; omega) (Nat.le_refl _) ?_)
          intro v4 w4 hown4 hbel4
          have HOWN4 := Lib.hid hown4
          have HR24 := Lib.hid (HR2.out.keep hbel4 (Nat.le_refl _))
          have HBEL4 := Lib.hid hbel4
          have HC1 := Lib.hid (show la.length + lb.length ≤ maxLen by rw [HLA.out, HLB.out]; unfold maxLen; omega)
          have HC2 := Lib.hid (show (la.length + lb.length) * 8 ≤ 140737488355328 by rw [HLA.out, HLB.out]; omega)
          clear hown4 hbel4
          go_wp2_with (at_builtin; refine wpList_append_rowV .i64 rfl _ _ 22 rfl wr.heap.size 2 i0 (.int .i64 0) 8 Tryd.underlying22 HI.out.1 HI.out.2.1 HI.out.2.2.1 HI.out.2.2.2 rfl la HOWN4.out lb HR24.out HC1.out HC2.out HBEL4.out.size ?_)
          intro v5 w5 hown5 hbel5
          have HOWN5 := Lib.hid (show OwnI .i64 w5 wr.heap.size 2 v5 (la ++ lb) from hown5)
          have HBEL5 := Lib.hid (HBEL4.out.trans hbel5)
          clear hown5 hbel5
          go_wp2_with fail
          refine (sum_val _ (la ++ lb) _ HOWN5.out.row (small_64 (small_append SA.out SB.out))).mono ?_
          rintro e w' ⟨rfl, rfl⟩
          rw [HS3.out, HT.out]
          have q1 := HT1.out
          have q2 := HT2.out
          rw [HLA.out] at q1
          rw [HLB.out] at q2
          have HF := Lib.hid (show fit (tot la + tot lb) = true from (fit_iff _).2 (by omega))
          have hi1 : In64 (tot la) := ⟨by omega, by omega⟩
          have hi2 : In64 (tot lb) := ⟨by omega, by omega⟩
          have HI1 := Lib.hid hi1
          have HI2 := Lib.hid hi2
          clear q1 q2 hi1 hi2
          go_wp2_with fail
          refine (add_any _ _ _ HI1.out HI2.out).mono ?_
          rintro e w' ⟨rfl, rfl⟩
          rw [addV_yes HF.out, addE_yes HF.out]
          go_wp2
          go_ret
          exact ⟨rfl, HBW.out.trans (HBEL5.out.mono HBW.out.size)⟩

set_option maxHeartbeats 400000 in
theorem sums_long (pa pb : Option Addr) (na nb ca cb : Nat) (w : World) (h : 300 < na ∨ (na ≤ 300 ∧ 300 < nb)) (hna : na ≤ maxLen) (hnb : nb ≤ maxLen) (hL : Laid w) :
    Calls Tryd.prog 7 #[.slice pa na ca, .slice pb nb cb] w fun e w' => e = .returned (.bool true) ∧ Below w.heap.size w w' := by
  have HL := Lib.hid hL
  clear hL
  unfold maxLen at hna hnb
  rcases h with h | ⟨h, h'⟩
  all_goals
    go_enter Tryd.func7, Tryd.ntmps7
    go_wp2_with fail
    refine (alive_any _ HL.out).mono ?_
    rintro e w1 ⟨rfl, hb1⟩
    have HB1 := Lib.hid hb1
    clear hb1
    go_wp2
    go_ret
    exact ⟨rfl, HB1.out⟩

theorem centSums_walk (pa : Option Addr) (na ca : Nat) (la : List Int) (pb : Option Addr) (nb cb : Nat) (lb : List Int) (w : World) (ha : RowIs .i32 w pa na la) (sa : Small la) (hb : RowIs .i32 w pb nb lb) (sb : Small lb) (hL : Laid w) :
    Calls Tryd.prog 7 #[.slice pa na ca, .slice pb nb cb] w fun e w' => e = .returned (.bool true) ∧ Below w.heap.size w w' := by
  by_cases h1 : 300 < na
  · exact sums_long pa pb na nb ca cb w (.inl h1) ha.max hb.max hL
  · by_cases h2 : 300 < nb
    · exact sums_long pa pb na nb ca cb w (.inr ⟨by omega, h2⟩) ha.max hb.max hL
    · exact sums_core pa pb na nb ca cb la lb w ha hb sa sb (by omega) (by omega) hL
end Go.Proofs.YthakilmimcgbiaaDoor
