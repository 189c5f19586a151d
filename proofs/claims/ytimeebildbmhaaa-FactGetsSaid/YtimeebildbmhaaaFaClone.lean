
/- The walk of slices.Clone at a kind of elements: the same ones in a row of the call's own. -/
import Derived.Test.YtimeebildbmhaaaFaMem
import Derived.Test.YtimeebildbmhaaaChartNew
import Derived.Test.YtimeebildbmhaaaBase
import Derived.Test.YtimeebildbmhaaaProg
import Derived.WalkKit
import Derived.WalkSpells
import Derived.Lib.Hide
import Derived.OwnWalk
import Derived.Handy
import Derived.Lib.Walk
import Derived.Lib.SliceRun
namespace Go.Proofs.Ytimeebildbmhaaa.Fa
open Go.RowKit

theorem gen_info : (Try.prog.info? 60).map (fun i => (i.zero, i.size, i.bytes)) = some (some (.agg #[.string ⟨#[]⟩, .string ⟨#[]⟩, .string ⟨#[]⟩, .string ⟨#[]⟩, .int .i64 0, .int .i64 0]), 6, 80) := by kernel_rfl
theorem gen_length (L : List Fact) : (flat encF L).length = L.length * 6 := flat_length L
theorem gen_take (L : List Fact) (k : Nat) : flat encF (L.take k) = (flat encF L).take (k * 6) := flat_take L k
theorem gen_drop (L : List Fact) (k : Nat) : flat encF (L.drop k) = (flat encF L).drop (k * 6) := flat_drop L k
/-- A row of elements that the call itself owns. -/
def RowTold (w : World) (L : List Fact) (e : Ending) (w' : World) : Prop := ∃ v, e = .returned v ∧ w'.ownsRow w.heap.size 60 6 v L.length (flat encF L) ∧ Below w.heap.size w w'
set_option maxRecDepth 100000 in
set_option maxHeartbeats 2000000 in
theorem clone_any (v : Value) (L : List Fact) (w : World) (h : ElsV encF w v L) (hL : L.length ≤ 1000) :
    Calls Try.prog 42 #[v] w (RowTold w L) := by
  have HV := Lib.hid h
  obtain ⟨p, c, rfl, hcap, hm, hp, hc⟩ := h
  have hq : ∀ (w : World) (a : Option Addr) (n c n' c' : Nat), (binOp .eql 29 (.slice a n c) (.slice none n' c')).run Try.prog w = .ok (.bool a.isNone) w := fun w a n c n' c' => Lib.run_eql_slice_nil w _ _ a n c n' c' Try.underlying29
  obtain ⟨i0, hi, hz0, hz1, hz2⟩ := info_parts gen_info
  have HI := Lib.hid (And.intro hi (And.intro hz0 (And.intro hz1 hz2)))
  clear hi hz0 hz1 hz2 hc
  unfold maxLen at hm
  cases p with
  | none =>
    have h0 := hp rfl
    have : L = [] := List.eq_nil_of_length_eq_zero (by omega)
    subst this
    clear HV hp
    go_enter Try.func42, Try.ntmps42
    go_wp2
    go_ret
    exact ⟨_, rfl, World.ownsRow_nil _ _ _ _, Below.refl _ _⟩
  | some ad =>
    have HC : Hid (∀ (j : Nat) u, (flat encF L)[j]? = some u → w.cell? (ad.add j) = some u) := Lib.hid (fun j u hj => by
      by_cases hne : L = []
      · subst hne; simp [flat] at hj
      · obtain ⟨b, o, e, _, hcell⟩ := HV.out.cells hne
        cases e
        rw [add_off]; exact hcell j u hj)
    obtain ⟨n, hn⟩ : ∃ n, L.length = n := ⟨_, rfl⟩
    have HN := Lib.hid hn
    rw [hn] at hcap hL ⊢
    clear hn hp HV
    go_enter Try.func42, Try.ntmps42
    go_wp2_with (at_builtin; refine wpList_append_own _ rfl _ _ 29 rfl w.heap.size 60 i0 (.agg #[.string ⟨#[]⟩, .string ⟨#[]⟩, .string ⟨#[]⟩, .string ⟨#[]⟩, .int .i64 0, .int .i64 0]) 6 80 Try.underlying29 HI.out.1 HI.out.2.1 HI.out.2.2.1 HI.out.2.2.2 rfl (by decide) _ _ _ rfl (World.ownsRow_made w #[] 0 (Nat.le_refl _) (Nat.zero_le _) (by simp)) ad n c (flat encF L) rfl ?qc1 ?qc2 ?qc3 ?qc4 ?qc5 ?qc6 ?_)
    case qc1 => rw [gen_length, HN.out]
    case qc2 => exact fun j u hj => Lib.cell?_alloc_some _ (HC.out j u hj)
    case qc3 => exact flat_ones L
    case qc4 => rw [Nat.zero_add]; unfold maxLen; omega
    case qc5 => rw [Nat.zero_add]; omega
    case qc6 => simp
    intro v' w1 hown hgrow hnil
    have HOW : Hid (w1.ownsRow w.heap.size 60 6 v' L.length (flat encF L)) := Lib.hid (by rw [HN.out]; simpa using hown)
    have HBL := Lib.hid (((Below.refl _ w).alloc (Nat.le_refl _) (.cells #[] 60)).grown hgrow (by simp) (by intro k hk; simp [Value.ownBlock] at hk; omega))
    clear hown hgrow hnil
    go_wp2
    go_ret
    exact ⟨v', rfl, HOW.out, HBL.out⟩
end Go.Proofs.Ytimeebildbmhaaa.Fa
