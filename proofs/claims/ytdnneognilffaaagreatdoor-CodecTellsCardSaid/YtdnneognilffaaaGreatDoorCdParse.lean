
/- The walk of codec.Parse: the cube of any text, or none; what is given up by a panic is recovered. What was there stays. -/
import Derived.Test.YtdnneognilffaaaGreatDoorCdRead
import Derived.Defers
import Derived.Recover
import Derived.Laws.Pointers
namespace Go.Proofs.YtdnneognilffaaaGreatDoor.Cd
open Go.Proofs.YtdnneognilffaaaGreatDoor.Fa Go.RowKit
theorem catch_idle (p q : Addr) (w : World) :
    CallsD Tryz.prog 20 #[.pointer (some p), .pointer (some q)] .returning w fun e u' w' => e = .returned (.tuple #[]) ∧ u' = .returning ∧ w' = w := by
  refine callsD_of_wpS Tryz.func20 rfl fun c₀ cs hu => ?_
  change Code.wpS _ _ _ { tmps := #[.pointer (some p), .pointer (some q), undef, undef, undef, undef, undef, undef, undef, undef, undef], defers := [] } _ _
  apply wpS_seq
  apply wpS_region
  simp [wpOpsS, go_sem, recoverD, hu, Exit.thenS]
  refine wpS_of_wp ?_
  go_wp2
  cases c₀
  simp_all [bodyPostS, results, Tryz.results20]
theorem asserts (w : World) : (Instr.typeAssert (.iface 57 (.agg #[])) 20 57 true).run Tryz.prog w = .ok (.tuple #[.agg #[], .bool true]) w := by
  kernel_rfl
theorem boxed_other {W : World} {B C : Nat} {t : TypeId} {v : Value} (h : Boxed W B t v) (u : Value) (hne : B ≠ C) : Boxed (W.setCell ⟨C, 0, none⟩ u) B t v := h.kept (grownBy_setCell' W C u) (by simpa using hne)
set_option maxRecDepth 100000 in
theorem catch_gave (B : Nat) (x y : Value) (w : World) (hp : Boxed w B 32 x) (hq : Boxed w (B + 1) 25 y) :
    CallsD Tryz.prog 20 #[.pointer (some ⟨B, 0, none⟩), .pointer (some ⟨B + 1, 0, none⟩)] (.panicking [{ v := .iface 57 (.agg #[]), recovered := false }]) w fun e u' w' => e = .returned (.tuple #[]) ∧ u' = .panicking [{ v := .iface 57 (.agg #[]), recovered := true }] ∧ Boxed w' B 32 (.slice none 0 0) ∧ Boxed w' (B + 1) 25 (.int .i64 5) ∧ w' = ((w.alloc (.cells #[] 57)).setCell ⟨B, 0, none⟩ (.slice none 0 0)).setCell ⟨B + 1, 0, none⟩ (.int .i64 5) := by
  have ht := asserts
  have p1 := hp.alloc (.cells #[] 57)
  have q1 := hq.alloc (.cells #[] 57)
  have q2 := boxed_other q1 (.slice none 0 0) (Nat.succ_ne_self B)
  have HQ := Lib.hid (And.intro (boxed_other (p1.set (.slice none 0 0)) (.int .i64 5) (Nat.succ_ne_self B).symm) (q2.set (.int .i64 5)))
  have cp := p1.cell
  have fp := p1.frozen
  have cq := q2.cell
  have fq := q2.frozen
  clear p1 q1 q2 hp hq
  refine callsD_of_wpS Tryz.func20 rfl fun c₀ cs hu => ?_
  change Code.wpS _ _ _ { tmps := #[.pointer (some ⟨B, 0, none⟩), .pointer (some ⟨B + 1, 0, none⟩), undef, undef, undef, undef, undef, undef, undef, undef, undef], defers := [] } _ _
  apply wpS_seq
  apply wpS_region
  simp [wpOpsS, go_sem, recoverD, hu, Exit.thenS]
  refine wpS_of_wp ?_
  go_wp2
  obtain ⟨h1, h2⟩ := HQ.out
  clear cp fp cq fq ht HQ
  cases c₀
  simp_all [bodyPostS, results, Tryz.results20]
/-- What Parse tells. -/
def parsC (l : List UInt8) : List Fact := (parseP l).getD []
def parsE (l : List UInt8) : Int := if (parseP l).isSome = true then 0 else 5
theorem parsC_some {l : List UInt8} {c : List Fact} (h : parseP l = some c) : parsC l = c ∧ parsE l = 0 := by simp [parsC, parsE, h]
theorem parsC_none {l : List UInt8} (h : parseP l = none) : parsC l = [] ∧ parsE l = 5 := by simp [parsC, parsE, h]
set_option maxRecDepth 100000 in
set_option maxHeartbeats 4000000 in
theorem cparse_any (s : ByteArray) (w : World) (hs : s.size ≤ 100000) (hl : Laid w) :
    Calls Tryz.prog 9 #[.string s] w fun e w' => ∃ v, e = .returned (.tuple #[v, .int .i64 (parsE s.data.toList)]) ∧ FactsV w' v (parsC s.data.toList) ∧ Below w.heap.size w w' := by
  have hmf : ∀ (fn : Fn) (first cap : Array Value) (w : World), (Instr.makeFunc fn first cap).run Tryz.prog w = .ok (.func fn first cap) w := fun _ _ _ _ => rfl
  obtain ⟨W2, hW2⟩ : ∃ W2, (w.alloc (.cells #[.slice none 0 0] 32)).alloc (.cells #[.int .i64 0] 25) = W2 := ⟨_, rfl⟩
  have HB2 : Hid (Below w.heap.size w W2) := Lib.hid (by rw [← hW2]; exact ((Below.refl _ w).alloc (Nat.le_refl _) _).alloc (by simp) _)
  have HX2 : Hid (Boxed W2 w.heap.size 32 (.slice none 0 0)) := Lib.hid (by rw [← hW2]; exact (Boxed.new w _ _).alloc _)
  have HY2 : Hid (Boxed W2 (w.heap.size + 1) 25 (.int .i64 0)) := Lib.hid (by
    rw [← hW2]
    have := Boxed.new (w.alloc (.cells #[.slice none 0 0] 32)) 25 (.int .i64 0)
    rw [World.size_alloc] at this
    exact this)
  have HRD := Lib.hid (read_any s W2 hs (hl.below HB2.out))
  obtain ⟨E, hE⟩ : ∃ E, parsE s.data.toList = E := ⟨_, rfl⟩
  obtain ⟨C, hC⟩ : ∃ C, parsC s.data.toList = C := ⟨_, rfl⟩
  rw [hE, hC]
  have HEC := Lib.hid (And.intro hE hC)
  clear hE hC hl
  go_enter_defers Tryz.func9, Tryz.ntmps9
  go_wp2_with fail
  refine HRD.out.mono ?_
  rintro e w3 ⟨hr, hb3⟩
  have HB3 := Lib.hid (HB2.out.trans (hb3.mono HB2.out.size))
  have x3 := boxed_below HX2.out hb3
  have y3 := boxed_below HY2.out hb3
  clear hb3 hW2
  rcases hr with ⟨c, v, hp, rfl, ho⟩ | ⟨hp, rfl⟩
  · obtain ⟨rfl, rfl⟩ : E = 0 ∧ C = c := ⟨by rw [← HEC.out.1, (parsC_some hp).2], by rw [← HEC.out.2, (parsC_some hp).1]⟩
    obtain ⟨pv, cv, rfl⟩ := row_slice' ho
    have y4 := boxed_other y3 (.slice pv C.length cv) (Nat.succ_ne_self w.heap.size)
    have cx := x3.cell
    have fx := x3.frozen
    have cy := y4.cell
    have fy := y4.frozen
    obtain ⟨W5, hW5⟩ : ∃ W5, (w3.setCell ⟨w.heap.size, 0, none⟩ (.slice pv C.length cv)).setCell ⟨w.heap.size + 1, 0, none⟩ (.int .i64 0) = W5 := ⟨_, rfl⟩
    have x5 : Boxed W5 w.heap.size 32 (.slice pv C.length cv) := by rw [← hW5]; exact boxed_other (x3.set (.slice pv C.length cv)) _ (Nat.succ_ne_self _).symm
    have y5 : Boxed W5 (w.heap.size + 1) 25 (.int .i64 0) := by rw [← hW5]; exact y4.set _
    have HB5 : Hid (Below w.heap.size w W5) := Lib.hid (by rw [← hW5]; exact (HB3.out.setCell (p := ⟨w.heap.size, 0, none⟩) (Nat.le_refl _) _).setCell (p := ⟨w.heap.size + 1, 0, none⟩) (Nat.le_succ _) _)
    have ho4 := ho.kept (grownBy_setCell' w3 w.heap.size (.slice pv C.length cv)) (.inr (x3.not_row (by decide) ho).symm)
    have ho5 := ho4.kept (grownBy_setCell' _ (w.heap.size + 1) (.int .i64 0)) (.inr (y4.not_row (by decide) ho4).symm)
    have HV5 : Hid (FactsV W5 (.slice pv C.length cv) C) := Lib.hid (by rw [← hW5]; exact els_of_own (E := encF) ho5)
    have HX5 := Lib.hid x5
    have HY5 := Lib.hid y5
    clear HEC hp ho ho4 ho5 x3 y3 y4 x5 y5 HB3
    go_wp2
    refine leaves_cons (f := 20) (args := #[.pointer (some ⟨w.heap.size, 0, none⟩), .pointer (some ⟨w.heap.size + 1, 0, none⟩)]) (by simp) (by simp [go_sem]) ?_
    refine (catch_idle _ _ _).mono ?_
    rintro e u' w'' ⟨rfl, rfl, rfl⟩
    have k1 := HX5.out.cell
    have k2 := HY5.out.cell
    refine ⟨.tuple #[.slice pv C.length cv, .int .i64 0], by simp [results, Tryz.results9, go_sem, k1, k2], _, rfl, HV5.out, HB5.out⟩
  · obtain ⟨rfl, rfl⟩ : E = 5 ∧ C = [] := ⟨by rw [← HEC.out.1, (parsC_none hp).2], by rw [← HEC.out.2, (parsC_none hp).1]⟩
    have HX3 := Lib.hid x3
    have HY3 := Lib.hid y3
    clear x3 y3 HEC hp
    go_wp2
    refine leaves_cons (f := 20) (args := #[.pointer (some ⟨w.heap.size, 0, none⟩), .pointer (some ⟨w.heap.size + 1, 0, none⟩)]) (by simp) (by simp [go_sem]) ?_
    refine (catch_gave w.heap.size _ _ w3 HX3.out HY3.out).mono ?_
    rintro e u' w'' ⟨rfl, rfl, x4, y4, rfl⟩
    have k1 := x4.cell
    have k2 := y4.cell
    have HB4 : Below w.heap.size w (((w3.alloc (.cells #[] 57)).setCell ⟨w.heap.size, 0, none⟩ (.slice none 0 0)).setCell ⟨w.heap.size + 1, 0, none⟩ (.int .i64 5)) := ((HB3.out.alloc HB3.out.size _).setCell (p := ⟨w.heap.size, 0, none⟩) (Nat.le_refl _) _).setCell (p := ⟨w.heap.size + 1, 0, none⟩) (Nat.le_succ _) _
    exact ⟨.tuple #[.slice none 0 0, .int .i64 5], by simp [results, Tryz.results9, go_sem, k1, k2], _, rfl, ElsV.nil _, HB4⟩
end Go.Proofs.YtdnneognilffaaaGreatDoor.Cd
