
/- The walk of chart.marked: what the plain facts say; what was there stays. -/
import Derived.Test.YtploldcbpejncaaDoorChartLaid
namespace Go.Proofs.YtploldcbpejncaaDoor
open Go.RowKit

theorem list_cash : tCash.toList = [99, 97, 115, 104] := by rw [ByteArray.toList_eq]; rfl
theorem list_both : tMutual.toList = [109, 117, 116, 117, 97, 108] := by rw [ByteArray.toList_eq]; rfl
theorem list_worn : tWorn.toList = [119, 111, 114, 110] := by rw [ByteArray.toList_eq]; rfl
theorem beq_cash (x : ByteArray) : (x.toList == [99, 97, 115, 104]) = decide (x = tCash) := by rw [← list_cash, beqS]
theorem beq_both (x : ByteArray) : (x.toList == [109, 117, 116, 117, 97, 108]) = decide (x = tMutual) := by rw [← list_both, beqS]
theorem beq_worn (x : ByteArray) : (x.toList == [119, 111, 114, 110]) = decide (x = tWorn) := by rw [← list_worn, beqS]
set_option maxRecDepth 100000 in
set_option maxHeartbeats 2000000 in
theorem marked_any (a : Acct) (v : Value) (ws : List ByteArray) (w : World) (h : StrsV w v ws) :
    Calls Tryd.prog 23 #[aggF a, v] w fun e w' => e = .returned (aggF (markedA a ws)) ∧ Below w.heap.size w w' := by
  obtain ⟨p, c, rfl, _, hm, hc⟩ := h
  obtain ⟨r, hr⟩ : ∃ r, markedA a ws = r := ⟨_, rfl⟩
  rw [hr]
  have HR := Lib.hid hr
  clear hr
  unfold maxLen at hm
  have hc0 := hc
  clear hc
  match ws, hc0, hm, HR with
  | [], hc, hm, HR =>
    clear hc0 hc
    go_enter Tryd.func23, Tryd.ntmps23
    go_wp2
    refine bodyPost_ret (v := .agg #[.string a.code, .int .i64 a.cls, .bool a.cash, .bool a.both, .string a.fixed, .bool a.worn]) (by simp [results, Tryd.results23, go_sem]) rfl ⟨?_, ((Below.refl _ _).alloc (Nat.le_refl _) _).alloc (by simp) _⟩
    rw [← HR.out]; rfl
  | [x], hc, hm, HR =>
    obtain ⟨b, o, rfl, d0⟩ := hc 0 x rfl
    have d : w.cell? ⟨b, o, none⟩ = some (.string x) := d0
    clear d0
    clear hc0 hc
    have hlt := World.block_lt_of_cell? w _ d
    go_enter Tryd.func23, Tryd.ntmps23
    go_wp2
    refine bodyPost_ret (v := .agg #[.string a.code, .int .i64 a.cls, .bool (x.toList == [99, 97, 115, 104]), .bool (x.toList == [109, 117, 116, 117, 97, 108]), .string a.fixed, .bool a.worn]) (by simp [results, Tryd.results23, go_sem]) rfl ⟨?_, ((Below.refl _ _).alloc (Nat.le_refl _) _).alloc (by simp) _⟩
    rw [← HR.out, beq_cash, beq_both]; rfl
  | [x, y], hc, hm, HR =>
    obtain ⟨b, o, rfl, d0⟩ := hc 0 x rfl
    have d : w.cell? ⟨b, o, none⟩ = some (.string x) := d0
    clear d0
    obtain ⟨b', o', e', d'⟩ := hc 1 y rfl
    cases e'
    have d2 : w.cell? ⟨b, o + 1, none⟩ = some (.string y) := d'
    clear d'
    clear hc0 hc
    have hlt := World.block_lt_of_cell? w _ d
    go_enter Tryd.func23, Tryd.ntmps23
    go_wp2
    refine bodyPost_ret (v := .agg #[.string a.code, .int .i64 a.cls, .bool a.cash, .bool a.both, .string y, .bool (x.toList == [119, 111, 114, 110])]) (by simp [results, Tryd.results23, go_sem]) rfl ⟨?_, ((Below.refl _ _).alloc (Nat.le_refl _) _).alloc (by simp) _⟩
    rw [← HR.out, beq_worn]; rfl
  | x :: y :: z :: l, hc, hm, HR =>
    clear hc0 hc
    have h1 : ¬ ((l.length : Int) + 1 + 1 + 1 = 1) := by omega
    go_enter Tryd.func23, Tryd.ntmps23
    go_wp2
    refine bodyPost_ret (v := .agg #[.string a.code, .int .i64 a.cls, .bool a.cash, .bool a.both, .string a.fixed, .bool a.worn]) (by simp [results, Tryd.results23, go_sem]) rfl ⟨?_, ((Below.refl _ _).alloc (Nat.le_refl _) _).alloc (by simp) _⟩
    rw [← HR.out]; rfl
end Go.Proofs.YtploldcbpejncaaDoor
