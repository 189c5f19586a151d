
/- The walk of slices.Clone at charts: the same accounts in a row of the call's own. -/
import Derived.Test.YtploldcbpejncaaDoorChartOurs
import Derived.Lib.Walk
import Derived.Lib.SliceRun
namespace Go.Proofs.YtploldcbpejncaaDoor
open Go.RowKit

/-- A row of accounts that the call itself owns. -/
def RowTold (w : World) (L : List Acct) (e : Ending) (w' : World) : Prop := ∃ v, e = .returned v ∧ w'.ownsRow w.heap.size 28 6 v L.length (flatA L) ∧ Below w.heap.size w w'
set_option maxRecDepth 100000 in
set_option maxHeartbeats 2000000 in
theorem clone_any (v : Value) (L : List Acct) (w : World) (h : ChartV w v L) (hL : L.length ≤ 1000) :
    Calls Tryd.prog 29 #[v] w (RowTold w L) := by
  have HV := Lib.hid h
  obtain ⟨p, c, rfl, hcap, hm, hp, hc⟩ := h
  have hq : ∀ (w : World) (a : Option Addr) (n c n' c' : Nat), (binOp .eql 42 (.slice a n c) (.slice none n' c')).run Tryd.prog w = .ok (.bool a.isNone) w := fun w a n c n' c' => Lib.run_eql_slice_nil w _ _ a n c n' c' Tryd.underlying42
  obtain ⟨i0, hi, hz0, hz1, hz2⟩ := info_parts info_theirs_any
  have HI := Lib.hid (And.intro hi (And.intro hz0 (And.intro hz1 hz2)))
  clear hi hz0 hz1 hz2 hc
  unfold maxLen at hm
  cases p with
  | none =>
    have h0 := hp rfl
    have : L = [] := List.eq_nil_of_length_eq_zero (by omega)
    subst this
    clear HV hp
    go_enter Tryd.func29, Tryd.ntmps29
    go_wp2
    go_ret
    exact ⟨_, rfl, World.ownsRow_nil _ _ _ _, Below.refl _ _⟩
  | some ad =>
    have HC : Hid (∀ (j : Nat) u, (flatA L)[j]? = some u → w.cell? (ad.add j) = some u) := Lib.hid (fun j u hj => by
      by_cases hne : L = []
      · subst hne; simp [flatA] at hj
      · obtain ⟨b, o, e, _, hcell⟩ := HV.out.cells hne
        cases e
        rw [add_off]; exact hcell j u hj)
    obtain ⟨n, hn⟩ : ∃ n, L.length = n := ⟨_, rfl⟩
    have HN := Lib.hid hn
    rw [hn] at hcap hL ⊢
    clear hn hp HV
    go_enter Tryd.func29, Tryd.ntmps29
    go_wp2_with (at_builtin; refine wpList_append_own _ rfl _ _ 42 rfl w.heap.size 28 i0 (.agg #[.string ⟨#[]⟩, .int .i64 0, .bool false, .bool false, .string ⟨#[]⟩, .bool false]) 6 56 Tryd.underlying42 HI.out.1 HI.out.2.1 HI.out.2.2.1 HI.out.2.2.2 rfl (by decide) _ _ _ rfl (World.ownsRow_made w #[] 0 (Nat.le_refl _) (Nat.zero_le _) (by simp)) ad n c (flatA L) rfl ?qc1 ?qc2 ?qc3 ?qc4 ?qc5 ?qc6 ?_)
    case qc1 => rw [flatA_length, HN.out]
    case qc2 => exact fun j u hj => Lib.cell?_alloc_some _ (HC.out j u hj)
    case qc3 => exact flatA_one L
    case qc4 => rw [Nat.zero_add]; unfold maxLen; omega
    case qc5 => rw [Nat.zero_add]; omega
    case qc6 => simp
    intro v' w1 hown hgrow hnil
    have HOW : Hid (w1.ownsRow w.heap.size 28 6 v' L.length (flatA L)) := Lib.hid (by rw [HN.out]; simpa using hown)
    have HBL := Lib.hid (((Below.refl _ w).alloc (Nat.le_refl _) (.cells #[] 28)).grown hgrow (by simp) (by intro k hk; simp [Value.ownBlock] at hk; omega))
    clear hown hgrow hnil
    go_wp2
    go_ret
    exact ⟨v', rfl, HOW.out, HBL.out⟩
end Go.Proofs.YtploldcbpejncaaDoor
