/- The walks of rate.parseBoth and rate.Parse: at every text of at most 290 bytes they hand back what the plain facts say; memory that was there stays. -/
import Derived.Test.YtikjjbimokajfaaDoorRateText
namespace Go.Proofs.YtikjjbimokajfaaDoor
open Go.RowKit

set_option maxRecDepth 100000 in
set_option maxHeartbeats 1000000 in
theorem parseBoth_00 (s t : ByteArray) (p q : Int) (w : World) (hs : s.size ≤ 300) (ht : t.size ≤ 300) (hL : Laid w) (h1 : parseE s.data.toList = 0) (h2 : parseE t.data.toList = 0) (h3 : parseV s.data.toList = p) (h4 : parseV t.data.toList = q) :
    Calls Tryd.prog 30 #[.agg #[.string s, .string t]] w fun e w' => e = .returned (.tuple #[.agg #[.int .i64 p, .int .i64 q], .int .i64 0]) ∧ Below w.heap.size w w' := by
  have H := Lib.hid (And.intro h1 h3)
  have K := Lib.hid (And.intro h2 h4)
  have HS := Lib.hid hs
  have HT := Lib.hid ht
  have HL := Lib.hid hL
  clear h1 h2 h3 h4 hs ht hL
  have i0 : ∀ w, (Instr.index 63 (.agg #[.string s, .string t]) (.int .i64 0)).run Tryd.prog w = .ok (.string s) w := fun _ => by kernel_rfl
  have i1 : ∀ w, (Instr.index 63 (.agg #[.string s, .string t]) (.int .i64 1)).run Tryd.prog w = .ok (.string t) w := fun _ => by kernel_rfl
  obtain ⟨W, hW⟩ : ∃ W, ((w.alloc (Obj.cells #[Value.string s, Value.string t] 63)).alloc (Obj.cells #[Value.int IntKind.i64 0, Value.int IntKind.i64 0] 60)).alloc (Obj.cells #[Value.int IntKind.i64 0, Value.int IntKind.i64 0] 60) = W := ⟨_, rfl⟩
  have BW : Hid (Below w.heap.size w W) := Lib.hid (by rw [← hW]; exact (((Below.refl _ _).alloc (Nat.le_refl _) _).alloc (by simp) _).alloc (by simp; omega) _)
  have LW : Hid (Laid W) := Lib.hid (HL.out.below BW.out)
  have V2 : Hid (RateVar W (w.heap.size + 1) 0 0) := Lib.hid (by
    have := (RateVar.mk (w.alloc (Obj.cells #[Value.string s, Value.string t] 63)) 0 0 60).keep ((Below.refl _ _).alloc (Nat.le_refl _) (Obj.cells #[Value.int IntKind.i64 0, Value.int IntKind.i64 0] 60)) (Nat.le_refl _)
    rw [hW] at this
    simpa using this)
  have V4 : Hid (RateVar W (w.heap.size + 1 + 1) 0 0) := Lib.hid (by
    have := RateVar.mk ((w.alloc (Obj.cells #[Value.string s, Value.string t] 63)).alloc (Obj.cells #[Value.int IntKind.i64 0, Value.int IntKind.i64 0] 60)) 0 0 60
    rw [hW] at this
    simpa using this)
  subst hW
  go_enter Tryd.func30, Tryd.ntmps30
  go_wp2
  refine wp_loop_rounds 3 ?_
  rw [rounds_succ]
  go_wp2_with fail
  refine (parse_any s _ HS.out LW.out).mono ?_
  rintro e w1 ⟨rfl, hb1⟩
  have HB1 := Lib.hid (BW.out.trans (hb1.mono BW.out.size))
  have U2 := Lib.hid (V2.out.keep hb1 (Nat.le_refl _))
  have U4 := Lib.hid (V4.out.keep hb1 (Nat.le_refl _))
  clear hb1 V2 V4 BW LW
  rw [H.out.1, H.out.2]
  obtain ⟨⟨d0, d1⟩, e0, e1⟩ := U4.out
  go_wp2
  rw [rounds_succ]
  go_wp2_with fail
  clear d0 d1 e0 e1
  have HB2 := Lib.hid (HB1.out.setCell (p := ⟨w.heap.size + 1 + 1, 0, none⟩) (by simp; omega) (.int .i64 p))
  have T2 := Lib.hid (U2.out.other (g' := w.heap.size + 1 + 1) (o := 0) (.int .i64 p) (by omega))
  have T4 := Lib.hid (U4.out.set0 p)
  refine (parse_any t _ HT.out (HL.out.below HB2.out)).mono ?_
  rintro e w2 ⟨rfl, hb2⟩
  have HB3 := Lib.hid (HB2.out.trans (hb2.mono HB2.out.size))
  have S2 := Lib.hid (T2.out.keep hb2 (Nat.le_refl _))
  have S4 := Lib.hid (T4.out.keep hb2 (Nat.le_refl _))
  clear hb2 T2 T4 U2 U4
  rw [K.out.1, K.out.2]
  obtain ⟨⟨c0, c1⟩, f0, f1⟩ := S2.out
  obtain ⟨⟨d0, d1⟩, e0, e1⟩ := S4.out
  go_wp2
  rw [rounds_succ]
  go_wp2
  exact bodyPost_ret (v := .tuple #[.agg #[.int .i64 p, .int .i64 q], .int .i64 0]) (by simp [results, Tryd.results30, go_sem, c0, c1]) rfl ⟨rfl, ((HB3.out.setCell (by simp; omega) _).setCell (by simp) _).setCell (by simp) _⟩

set_option maxRecDepth 100000 in
set_option maxHeartbeats 1000000 in
theorem parseBoth_02 (s t : ByteArray) (p q : Int) (w : World) (hs : s.size ≤ 300) (ht : t.size ≤ 300) (hL : Laid w) (h1 : parseE s.data.toList = 0) (h2 : parseE t.data.toList = 2) (h3 : parseV s.data.toList = p) (h4 : parseV t.data.toList = q) :
    Calls Tryd.prog 30 #[.agg #[.string s, .string t]] w fun e w' => e = .returned (.tuple #[.agg #[.int .i64 0, .int .i64 0], .int .i64 4]) ∧ Below w.heap.size w w' := by
  have H := Lib.hid (And.intro h1 h3)
  have K := Lib.hid (And.intro h2 h4)
  have HS := Lib.hid hs
  have HT := Lib.hid ht
  have HL := Lib.hid hL
  clear h1 h2 h3 h4 hs ht hL
  have i0 : ∀ w, (Instr.index 63 (.agg #[.string s, .string t]) (.int .i64 0)).run Tryd.prog w = .ok (.string s) w := fun _ => by kernel_rfl
  have i1 : ∀ w, (Instr.index 63 (.agg #[.string s, .string t]) (.int .i64 1)).run Tryd.prog w = .ok (.string t) w := fun _ => by kernel_rfl
  obtain ⟨W, hW⟩ : ∃ W, ((w.alloc (Obj.cells #[Value.string s, Value.string t] 63)).alloc (Obj.cells #[Value.int IntKind.i64 0, Value.int IntKind.i64 0] 60)).alloc (Obj.cells #[Value.int IntKind.i64 0, Value.int IntKind.i64 0] 60) = W := ⟨_, rfl⟩
  have BW : Hid (Below w.heap.size w W) := Lib.hid (by rw [← hW]; exact (((Below.refl _ _).alloc (Nat.le_refl _) _).alloc (by simp) _).alloc (by simp; omega) _)
  have LW : Hid (Laid W) := Lib.hid (HL.out.below BW.out)
  have V2 : Hid (RateVar W (w.heap.size + 1) 0 0) := Lib.hid (by
    have := (RateVar.mk (w.alloc (Obj.cells #[Value.string s, Value.string t] 63)) 0 0 60).keep ((Below.refl _ _).alloc (Nat.le_refl _) (Obj.cells #[Value.int IntKind.i64 0, Value.int IntKind.i64 0] 60)) (Nat.le_refl _)
    rw [hW] at this
    simpa using this)
  have V4 : Hid (RateVar W (w.heap.size + 1 + 1) 0 0) := Lib.hid (by
    have := RateVar.mk ((w.alloc (Obj.cells #[Value.string s, Value.string t] 63)).alloc (Obj.cells #[Value.int IntKind.i64 0, Value.int IntKind.i64 0] 60)) 0 0 60
    rw [hW] at this
    simpa using this)
  subst hW
  go_enter Tryd.func30, Tryd.ntmps30
  go_wp2
  refine wp_loop_rounds 3 ?_
  rw [rounds_succ]
  go_wp2_with fail
  refine (parse_any s _ HS.out LW.out).mono ?_
  rintro e w1 ⟨rfl, hb1⟩
  have HB1 := Lib.hid (BW.out.trans (hb1.mono BW.out.size))
  have U2 := Lib.hid (V2.out.keep hb1 (Nat.le_refl _))
  have U4 := Lib.hid (V4.out.keep hb1 (Nat.le_refl _))
  clear hb1 V2 V4 BW LW
  rw [H.out.1, H.out.2]
  obtain ⟨⟨d0, d1⟩, e0, e1⟩ := U4.out
  go_wp2
  rw [rounds_succ]
  go_wp2_with fail
  clear d0 d1 e0 e1
  have HB2 := Lib.hid (HB1.out.setCell (p := ⟨w.heap.size + 1 + 1, 0, none⟩) (by simp; omega) (.int .i64 p))
  have T2 := Lib.hid (U2.out.other (g' := w.heap.size + 1 + 1) (o := 0) (.int .i64 p) (by omega))
  have T4 := Lib.hid (U4.out.set0 p)
  refine (parse_any t _ HT.out (HL.out.below HB2.out)).mono ?_
  rintro e w2 ⟨rfl, hb2⟩
  have HB3 := Lib.hid (HB2.out.trans (hb2.mono HB2.out.size))
  have S2 := Lib.hid (T2.out.keep hb2 (Nat.le_refl _))
  have S4 := Lib.hid (T4.out.keep hb2 (Nat.le_refl _))
  clear hb2 T2 T4 U2 U4
  rw [K.out.1, K.out.2]
  obtain ⟨⟨c0, c1⟩, f0, f1⟩ := S2.out
  obtain ⟨⟨d0, d1⟩, e0, e1⟩ := S4.out
  go_wp2
  rw [rounds_succ]
  go_wp2
  exact bodyPost_ret (v := .tuple #[.agg #[.int .i64 0, .int .i64 0], .int .i64 4]) (by simp [results, Tryd.results30, go_sem, c0, c1]) rfl ⟨rfl, ((HB3.out.setCell (by simp; omega) _).setCell (by simp) _).setCell (by simp) _⟩

set_option maxRecDepth 100000 in
set_option maxHeartbeats 1000000 in
theorem parseBoth_05 (s t : ByteArray) (p q : Int) (w : World) (hs : s.size ≤ 300) (ht : t.size ≤ 300) (hL : Laid w) (h1 : parseE s.data.toList = 0) (h2 : parseE t.data.toList = 5) (h3 : parseV s.data.toList = p) (h4 : parseV t.data.toList = q) :
    Calls Tryd.prog 30 #[.agg #[.string s, .string t]] w fun e w' => e = .returned (.tuple #[.agg #[.int .i64 0, .int .i64 0], .int .i64 5]) ∧ Below w.heap.size w w' := by
  have H := Lib.hid (And.intro h1 h3)
  have K := Lib.hid (And.intro h2 h4)
  have HS := Lib.hid hs
  have HT := Lib.hid ht
  have HL := Lib.hid hL
  clear h1 h2 h3 h4 hs ht hL
  have i0 : ∀ w, (Instr.index 63 (.agg #[.string s, .string t]) (.int .i64 0)).run Tryd.prog w = .ok (.string s) w := fun _ => by kernel_rfl
  have i1 : ∀ w, (Instr.index 63 (.agg #[.string s, .string t]) (.int .i64 1)).run Tryd.prog w = .ok (.string t) w := fun _ => by kernel_rfl
  obtain ⟨W, hW⟩ : ∃ W, ((w.alloc (Obj.cells #[Value.string s, Value.string t] 63)).alloc (Obj.cells #[Value.int IntKind.i64 0, Value.int IntKind.i64 0] 60)).alloc (Obj.cells #[Value.int IntKind.i64 0, Value.int IntKind.i64 0] 60) = W := ⟨_, rfl⟩
  have BW : Hid (Below w.heap.size w W) := Lib.hid (by rw [← hW]; exact (((Below.refl _ _).alloc (Nat.le_refl _) _).alloc (by simp) _).alloc (by simp; omega) _)
  have LW : Hid (Laid W) := Lib.hid (HL.out.below BW.out)
  have V2 : Hid (RateVar W (w.heap.size + 1) 0 0) := Lib.hid (by
    have := (RateVar.mk (w.alloc (Obj.cells #[Value.string s, Value.string t] 63)) 0 0 60).keep ((Below.refl _ _).alloc (Nat.le_refl _) (Obj.cells #[Value.int IntKind.i64 0, Value.int IntKind.i64 0] 60)) (Nat.le_refl _)
    rw [hW] at this
    simpa using this)
  have V4 : Hid (RateVar W (w.heap.size + 1 + 1) 0 0) := Lib.hid (by
    have := RateVar.mk ((w.alloc (Obj.cells #[Value.string s, Value.string t] 63)).alloc (Obj.cells #[Value.int IntKind.i64 0, Value.int IntKind.i64 0] 60)) 0 0 60
    rw [hW] at this
    simpa using this)
  subst hW
  go_enter Tryd.func30, Tryd.ntmps30
  go_wp2
  refine wp_loop_rounds 3 ?_
  rw [rounds_succ]
  go_wp2_with fail
  refine (parse_any s _ HS.out LW.out).mono ?_
  rintro e w1 ⟨rfl, hb1⟩
  have HB1 := Lib.hid (BW.out.trans (hb1.mono BW.out.size))
  have U2 := Lib.hid (V2.out.keep hb1 (Nat.le_refl _))
  have U4 := Lib.hid (V4.out.keep hb1 (Nat.le_refl _))
  clear hb1 V2 V4 BW LW
  rw [H.out.1, H.out.2]
  obtain ⟨⟨d0, d1⟩, e0, e1⟩ := U4.out
  go_wp2
  rw [rounds_succ]
  go_wp2_with fail
  clear d0 d1 e0 e1
  have HB2 := Lib.hid (HB1.out.setCell (p := ⟨w.heap.size + 1 + 1, 0, none⟩) (by simp; omega) (.int .i64 p))
  have T2 := Lib.hid (U2.out.other (g' := w.heap.size + 1 + 1) (o := 0) (.int .i64 p) (by omega))
  have T4 := Lib.hid (U4.out.set0 p)
  refine (parse_any t _ HT.out (HL.out.below HB2.out)).mono ?_
  rintro e w2 ⟨rfl, hb2⟩
  have HB3 := Lib.hid (HB2.out.trans (hb2.mono HB2.out.size))
  have S2 := Lib.hid (T2.out.keep hb2 (Nat.le_refl _))
  have S4 := Lib.hid (T4.out.keep hb2 (Nat.le_refl _))
  clear hb2 T2 T4 U2 U4
  rw [K.out.1, K.out.2]
  obtain ⟨⟨c0, c1⟩, f0, f1⟩ := S2.out
  go_wp2
  exact bodyPost_ret (v := .tuple #[.agg #[.int .i64 0, .int .i64 0], .int .i64 5]) (by simp [results, Tryd.results30, go_sem, c0, c1]) rfl ⟨rfl, (HB3.out.setCell (by simp) _).setCell (by simp) _⟩

set_option maxRecDepth 100000 in
set_option maxHeartbeats 1000000 in
theorem parseBoth_20 (s t : ByteArray) (p q : Int) (w : World) (hs : s.size ≤ 300) (ht : t.size ≤ 300) (hL : Laid w) (h1 : parseE s.data.toList = 2) (h2 : parseE t.data.toList = 0) (h3 : parseV s.data.toList = p) (h4 : parseV t.data.toList = q) :
    Calls Tryd.prog 30 #[.agg #[.string s, .string t]] w fun e w' => e = .returned (.tuple #[.agg #[.int .i64 0, .int .i64 0], .int .i64 4]) ∧ Below w.heap.size w w' := by
  have H := Lib.hid (And.intro h1 h3)
  have K := Lib.hid (And.intro h2 h4)
  have HS := Lib.hid hs
  have HT := Lib.hid ht
  have HL := Lib.hid hL
  clear h1 h2 h3 h4 hs ht hL
  have i0 : ∀ w, (Instr.index 63 (.agg #[.string s, .string t]) (.int .i64 0)).run Tryd.prog w = .ok (.string s) w := fun _ => by kernel_rfl
  have i1 : ∀ w, (Instr.index 63 (.agg #[.string s, .string t]) (.int .i64 1)).run Tryd.prog w = .ok (.string t) w := fun _ => by kernel_rfl
  obtain ⟨W, hW⟩ : ∃ W, ((w.alloc (Obj.cells #[Value.string s, Value.string t] 63)).alloc (Obj.cells #[Value.int IntKind.i64 0, Value.int IntKind.i64 0] 60)).alloc (Obj.cells #[Value.int IntKind.i64 0, Value.int IntKind.i64 0] 60) = W := ⟨_, rfl⟩
  have BW : Hid (Below w.heap.size w W) := Lib.hid (by rw [← hW]; exact (((Below.refl _ _).alloc (Nat.le_refl _) _).alloc (by simp) _).alloc (by simp; omega) _)
  have LW : Hid (Laid W) := Lib.hid (HL.out.below BW.out)
  have V2 : Hid (RateVar W (w.heap.size + 1) 0 0) := Lib.hid (by
    have := (RateVar.mk (w.alloc (Obj.cells #[Value.string s, Value.string t] 63)) 0 0 60).keep ((Below.refl _ _).alloc (Nat.le_refl _) (Obj.cells #[Value.int IntKind.i64 0, Value.int IntKind.i64 0] 60)) (Nat.le_refl _)
    rw [hW] at this
    simpa using this)
  have V4 : Hid (RateVar W (w.heap.size + 1 + 1) 0 0) := Lib.hid (by
    have := RateVar.mk ((w.alloc (Obj.cells #[Value.string s, Value.string t] 63)).alloc (Obj.cells #[Value.int IntKind.i64 0, Value.int IntKind.i64 0] 60)) 0 0 60
    rw [hW] at this
    simpa using this)
  subst hW
  go_enter Tryd.func30, Tryd.ntmps30
  go_wp2
  refine wp_loop_rounds 3 ?_
  rw [rounds_succ]
  go_wp2_with fail
  refine (parse_any s _ HS.out LW.out).mono ?_
  rintro e w1 ⟨rfl, hb1⟩
  have HB1 := Lib.hid (BW.out.trans (hb1.mono BW.out.size))
  have U2 := Lib.hid (V2.out.keep hb1 (Nat.le_refl _))
  have U4 := Lib.hid (V4.out.keep hb1 (Nat.le_refl _))
  clear hb1 V2 V4 BW LW
  rw [H.out.1, H.out.2]
  obtain ⟨⟨d0, d1⟩, e0, e1⟩ := U4.out
  go_wp2
  rw [rounds_succ]
  go_wp2_with fail
  clear d0 d1 e0 e1
  have HB2 := Lib.hid (HB1.out.setCell (p := ⟨w.heap.size + 1 + 1, 0, none⟩) (by simp; omega) (.int .i64 p))
  have T2 := Lib.hid (U2.out.other (g' := w.heap.size + 1 + 1) (o := 0) (.int .i64 p) (by omega))
  have T4 := Lib.hid (U4.out.set0 p)
  refine (parse_any t _ HT.out (HL.out.below HB2.out)).mono ?_
  rintro e w2 ⟨rfl, hb2⟩
  have HB3 := Lib.hid (HB2.out.trans (hb2.mono HB2.out.size))
  have S2 := Lib.hid (T2.out.keep hb2 (Nat.le_refl _))
  have S4 := Lib.hid (T4.out.keep hb2 (Nat.le_refl _))
  clear hb2 T2 T4 U2 U4
  rw [K.out.1, K.out.2]
  obtain ⟨⟨c0, c1⟩, f0, f1⟩ := S2.out
  obtain ⟨⟨d0, d1⟩, e0, e1⟩ := S4.out
  go_wp2
  rw [rounds_succ]
  go_wp2
  exact bodyPost_ret (v := .tuple #[.agg #[.int .i64 0, .int .i64 0], .int .i64 4]) (by simp [results, Tryd.results30, go_sem, c0, c1]) rfl ⟨rfl, ((HB3.out.setCell (by simp; omega) _).setCell (by simp) _).setCell (by simp) _⟩

set_option maxRecDepth 100000 in
set_option maxHeartbeats 1000000 in
theorem parseBoth_22 (s t : ByteArray) (p q : Int) (w : World) (hs : s.size ≤ 300) (ht : t.size ≤ 300) (hL : Laid w) (h1 : parseE s.data.toList = 2) (h2 : parseE t.data.toList = 2) (h3 : parseV s.data.toList = p) (h4 : parseV t.data.toList = q) :
    Calls Tryd.prog 30 #[.agg #[.string s, .string t]] w fun e w' => e = .returned (.tuple #[.agg #[.int .i64 0, .int .i64 0], .int .i64 4]) ∧ Below w.heap.size w w' := by
  have H := Lib.hid (And.intro h1 h3)
  have K := Lib.hid (And.intro h2 h4)
  have HS := Lib.hid hs
  have HT := Lib.hid ht
  have HL := Lib.hid hL
  clear h1 h2 h3 h4 hs ht hL
  have i0 : ∀ w, (Instr.index 63 (.agg #[.string s, .string t]) (.int .i64 0)).run Tryd.prog w = .ok (.string s) w := fun _ => by kernel_rfl
  have i1 : ∀ w, (Instr.index 63 (.agg #[.string s, .string t]) (.int .i64 1)).run Tryd.prog w = .ok (.string t) w := fun _ => by kernel_rfl
  obtain ⟨W, hW⟩ : ∃ W, ((w.alloc (Obj.cells #[Value.string s, Value.string t] 63)).alloc (Obj.cells #[Value.int IntKind.i64 0, Value.int IntKind.i64 0] 60)).alloc (Obj.cells #[Value.int IntKind.i64 0, Value.int IntKind.i64 0] 60) = W := ⟨_, rfl⟩
  have BW : Hid (Below w.heap.size w W) := Lib.hid (by rw [← hW]; exact (((Below.refl _ _).alloc (Nat.le_refl _) _).alloc (by simp) _).alloc (by simp; omega) _)
  have LW : Hid (Laid W) := Lib.hid (HL.out.below BW.out)
  have V2 : Hid (RateVar W (w.heap.size + 1) 0 0) := Lib.hid (by
    have := (RateVar.mk (w.alloc (Obj.cells #[Value.string s, Value.string t] 63)) 0 0 60).keep ((Below.refl _ _).alloc (Nat.le_refl _) (Obj.cells #[Value.int IntKind.i64 0, Value.int IntKind.i64 0] 60)) (Nat.le_refl _)
    rw [hW] at this
    simpa using this)
  have V4 : Hid (RateVar W (w.heap.size + 1 + 1) 0 0) := Lib.hid (by
    have := RateVar.mk ((w.alloc (Obj.cells #[Value.string s, Value.string t] 63)).alloc (Obj.cells #[Value.int IntKind.i64 0, Value.int IntKind.i64 0] 60)) 0 0 60
    rw [hW] at this
    simpa using this)
  subst hW
  go_enter Tryd.func30, Tryd.ntmps30
  go_wp2
  refine wp_loop_rounds 3 ?_
  rw [rounds_succ]
  go_wp2_with fail
  refine (parse_any s _ HS.out LW.out).mono ?_
  rintro e w1 ⟨rfl, hb1⟩
  have HB1 := Lib.hid (BW.out.trans (hb1.mono BW.out.size))
  have U2 := Lib.hid (V2.out.keep hb1 (Nat.le_refl _))
  have U4 := Lib.hid (V4.out.keep hb1 (Nat.le_refl _))
  clear hb1 V2 V4 BW LW
  rw [H.out.1, H.out.2]
  obtain ⟨⟨d0, d1⟩, e0, e1⟩ := U4.out
  go_wp2
  rw [rounds_succ]
  go_wp2_with fail
  clear d0 d1 e0 e1
  have HB2 := Lib.hid (HB1.out.setCell (p := ⟨w.heap.size + 1 + 1, 0, none⟩) (by simp; omega) (.int .i64 p))
  have T2 := Lib.hid (U2.out.other (g' := w.heap.size + 1 + 1) (o := 0) (.int .i64 p) (by omega))
  have T4 := Lib.hid (U4.out.set0 p)
  refine (parse_any t _ HT.out (HL.out.below HB2.out)).mono ?_
  rintro e w2 ⟨rfl, hb2⟩
  have HB3 := Lib.hid (HB2.out.trans (hb2.mono HB2.out.size))
  have S2 := Lib.hid (T2.out.keep hb2 (Nat.le_refl _))
  have S4 := Lib.hid (T4.out.keep hb2 (Nat.le_refl _))
  clear hb2 T2 T4 U2 U4
  rw [K.out.1, K.out.2]
  obtain ⟨⟨c0, c1⟩, f0, f1⟩ := S2.out
  obtain ⟨⟨d0, d1⟩, e0, e1⟩ := S4.out
  go_wp2
  rw [rounds_succ]
  go_wp2
  exact bodyPost_ret (v := .tuple #[.agg #[.int .i64 0, .int .i64 0], .int .i64 4]) (by simp [results, Tryd.results30, go_sem, c0, c1]) rfl ⟨rfl, ((HB3.out.setCell (by simp; omega) _).setCell (by simp) _).setCell (by simp) _⟩

set_option maxRecDepth 100000 in
set_option maxHeartbeats 1000000 in
theorem parseBoth_25 (s t : ByteArray) (p q : Int) (w : World) (hs : s.size ≤ 300) (ht : t.size ≤ 300) (hL : Laid w) (h1 : parseE s.data.toList = 2) (h2 : parseE t.data.toList = 5) (h3 : parseV s.data.toList = p) (h4 : parseV t.data.toList = q) :
    Calls Tryd.prog 30 #[.agg #[.string s, .string t]] w fun e w' => e = .returned (.tuple #[.agg #[.int .i64 0, .int .i64 0], .int .i64 5]) ∧ Below w.heap.size w w' := by
  have H := Lib.hid (And.intro h1 h3)
  have K := Lib.hid (And.intro h2 h4)
  have HS := Lib.hid hs
  have HT := Lib.hid ht
  have HL := Lib.hid hL
  clear h1 h2 h3 h4 hs ht hL
  have i0 : ∀ w, (Instr.index 63 (.agg #[.string s, .string t]) (.int .i64 0)).run Tryd.prog w = .ok (.string s) w := fun _ => by kernel_rfl
  have i1 : ∀ w, (Instr.index 63 (.agg #[.string s, .string t]) (.int .i64 1)).run Tryd.prog w = .ok (.string t) w := fun _ => by kernel_rfl
  obtain ⟨W, hW⟩ : ∃ W, ((w.alloc (Obj.cells #[Value.string s, Value.string t] 63)).alloc (Obj.cells #[Value.int IntKind.i64 0, Value.int IntKind.i64 0] 60)).alloc (Obj.cells #[Value.int IntKind.i64 0, Value.int IntKind.i64 0] 60) = W := ⟨_, rfl⟩
  have BW : Hid (Below w.heap.size w W) := Lib.hid (by rw [← hW]; exact (((Below.refl _ _).alloc (Nat.le_refl _) _).alloc (by simp) _).alloc (by simp; omega) _)
  have LW : Hid (Laid W) := Lib.hid (HL.out.below BW.out)
  have V2 : Hid (RateVar W (w.heap.size + 1) 0 0) := Lib.hid (by
    have := (RateVar.mk (w.alloc (Obj.cells #[Value.string s, Value.string t] 63)) 0 0 60).keep ((Below.refl _ _).alloc (Nat.le_refl _) (Obj.cells #[Value.int IntKind.i64 0, Value.int IntKind.i64 0] 60)) (Nat.le_refl _)
    rw [hW] at this
    simpa using this)
  have V4 : Hid (RateVar W (w.heap.size + 1 + 1) 0 0) := Lib.hid (by
    have := RateVar.mk ((w.alloc (Obj.cells #[Value.string s, Value.string t] 63)).alloc (Obj.cells #[Value.int IntKind.i64 0, Value.int IntKind.i64 0] 60)) 0 0 60
    rw [hW] at this
    simpa using this)
  subst hW
  go_enter Tryd.func30, Tryd.ntmps30
  go_wp2
  refine wp_loop_rounds 3 ?_
  rw [rounds_succ]
  go_wp2_with fail
  refine (parse_any s _ HS.out LW.out).mono ?_
  rintro e w1 ⟨rfl, hb1⟩
  have HB1 := Lib.hid (BW.out.trans (hb1.mono BW.out.size))
  have U2 := Lib.hid (V2.out.keep hb1 (Nat.le_refl _))
  have U4 := Lib.hid (V4.out.keep hb1 (Nat.le_refl _))
  clear hb1 V2 V4 BW LW
  rw [H.out.1, H.out.2]
  obtain ⟨⟨d0, d1⟩, e0, e1⟩ := U4.out
  go_wp2
  rw [rounds_succ]
  go_wp2_with fail
  clear d0 d1 e0 e1
  have HB2 := Lib.hid (HB1.out.setCell (p := ⟨w.heap.size + 1 + 1, 0, none⟩) (by simp; omega) (.int .i64 p))
  have T2 := Lib.hid (U2.out.other (g' := w.heap.size + 1 + 1) (o := 0) (.int .i64 p) (by omega))
  have T4 := Lib.hid (U4.out.set0 p)
  refine (parse_any t _ HT.out (HL.out.below HB2.out)).mono ?_
  rintro e w2 ⟨rfl, hb2⟩
  have HB3 := Lib.hid (HB2.out.trans (hb2.mono HB2.out.size))
  have S2 := Lib.hid (T2.out.keep hb2 (Nat.le_refl _))
  have S4 := Lib.hid (T4.out.keep hb2 (Nat.le_refl _))
  clear hb2 T2 T4 U2 U4
  rw [K.out.1, K.out.2]
  obtain ⟨⟨c0, c1⟩, f0, f1⟩ := S2.out
  go_wp2
  exact bodyPost_ret (v := .tuple #[.agg #[.int .i64 0, .int .i64 0], .int .i64 5]) (by simp [results, Tryd.results30, go_sem, c0, c1]) rfl ⟨rfl, (HB3.out.setCell (by simp) _).setCell (by simp) _⟩

theorem parseBoth_any (s t : ByteArray) (w : World) (hs : s.size ≤ 300) (ht : t.size ≤ 300) (hL : Laid w) :
    Calls Tryd.prog 30 #[.agg #[.string s, .string t]] w fun e w' => e = .returned (.tuple #[.agg #[.int .i64 (if bothE (parseE s.data.toList) (parseE t.data.toList) = 0 then parseV s.data.toList else 0), .int .i64 (if bothE (parseE s.data.toList) (parseE t.data.toList) = 0 then parseV t.data.toList else 0)], .int .i64 (bothE (parseE s.data.toList) (parseE t.data.toList))]) ∧ Below w.heap.size w w' := by
  rcases parseE_cases s.data.toList with h1 | h1 | h1
  · rcases parseE_cases t.data.toList with h2 | h2 | h2
    · rw [h1, h2]; exact parseBoth_00 s t _ _ w hs ht hL h1 h2 rfl rfl
    · rw [h1, h2]; exact parseBoth_02 s t _ _ w hs ht hL h1 h2 rfl rfl
    · rw [h1, h2]; exact parseBoth_05 s t _ _ w hs ht hL h1 h2 rfl rfl
  · rcases parseE_cases t.data.toList with h2 | h2 | h2
    · rw [h1, h2]; exact parseBoth_20 s t _ _ w hs ht hL h1 h2 rfl rfl
    · rw [h1, h2]; exact parseBoth_22 s t _ _ w hs ht hL h1 h2 rfl rfl
    · rw [h1, h2]; exact parseBoth_25 s t _ _ w hs ht hL h1 h2 rfl rfl
  · have e : bothE 5 (parseE t.data.toList) = 5 := if_pos (.inl rfl)
    rw [h1, e]
    exact parseBoth_first s t w hs hL h1
end Go.Proofs.YtikjjbimokajfaaDoor
