
/- The walk of the statements' own check 'alive': it returns true. -/
import Derived.Test.YtjinlldfniflbaaLexLines
import Derived.Test.YtjinlldfniflbaaLexOurs
import Derived.Test.YtjinlldfniflbaaLexSame
import Derived.Test.YtjinlldfniflbaaLexJoin
namespace Go.Proofs.Ytjinlldfniflbaa
open Go.RowKit

def L0 : List (Int × List ByteArray) := [(1, [⟨#[97]⟩, ⟨#[98]⟩]), (3, [⟨#[100]⟩])]
theorem alive_lines (w : World) : Calls Try.prog 11 #[.string ⟨#[97, 32, 98, 32, 35, 32, 99, 10, 10, 32, 100]⟩] w (LinesPost w L0 0) := by
  have h := lines_any ⟨#[97, 32, 98, 32, 35, 32, 99, 10, 10, 32, 100]⟩ w (by decide)
  have e1 : linE [97, 32, 98, 32, 35, 32, 99, 10, 10, 32, 100] = 0 := by decide
  have e2 : asB (linV [97, 32, 98, 32, 35, 32, 99, 10, 10, 32, 100]) = L0 := by decide
  rw [show (ByteArray.mk #[97, 32, 98, 32, 35, 32, 99, 10, 10, 32, 100]).data.toList = [97, 32, 98, 32, 35, 32, 99, 10, 10, 32, 100] from rfl, e1, e2] at h
  exact h
theorem alive_form (w : World) : Calls Try.prog 11 #[.string ⟨#[0]⟩] w (LinesPost w [] 5) := by
  have h := lines_any ⟨#[0]⟩ w (by decide)
  have e1 : linE [0] = 5 := by decide
  have e2 : asB (linV [0]) = [] := by decide
  rw [show (ByteArray.mk #[0]).data.toList = [0] from rfl, e1, e2] at h
  exact h
theorem alive_name (w : World) : Calls Try.prog 15 #[.string ⟨#[97, 98, 45, 49]⟩] w fun e w' => e = .returned (.bool true) ∧ w = w' := by
  have h := name_any ⟨#[97, 98, 45, 49]⟩ w (by decide)
  rw [show (ByteArray.mk #[97, 98, 45, 49]).data.toList = [97, 98, 45, 49] from rfl, show nameL [97, 98, 45, 49] = true by decide] at h
  exact h
theorem alive_noname (w : World) : Calls Try.prog 15 #[.string ⟨#[49, 97]⟩] w fun e w' => e = .returned (.bool false) ∧ w = w' := by
  have h := name_any ⟨#[49, 97]⟩ w (by decide)
  rw [show (ByteArray.mk #[49, 97]).data.toList = [49, 97] from rfl, show nameL [49, 97] = false by decide] at h
  exact h
theorem alive_join (v : Value) (w : World) (h : LinesV w v L0) : Calls Try.prog 17 #[v] w fun e w' => e = .returned (.string ⟨#[97, 32, 98, 10, 100, 10]⟩) ∧ Below w.heap.size w w' := by
  have h := join_any v L0 w h (by decide)
  rw [show mkB (joinL L0) = ⟨#[97, 32, 98, 10, 100, 10]⟩ by decide] at h
  exact h
theorem alive_pick (v : Value) (w : World) (h : StrsV w v [⟨#[97]⟩, ⟨#[98]⟩]) : Calls Try.prog 20 #[.string ⟨#[98]⟩, v] w fun e w' => e = .returned (.int .i64 1) ∧ w = w' := by
  have h := pick_any ⟨#[98]⟩ v [⟨#[97]⟩, ⟨#[98]⟩] w h
  rw [show pickL [⟨#[97]⟩, ⟨#[98]⟩] ⟨#[98]⟩ = 1 by decide] at h
  exact h
/-- A slice of texts that was just laid. -/
theorem strs_new (w : World) (ws : List ByteArray) (t : TypeId) (hl : ws.length ≤ maxLen) : StrsV (w.alloc (.cells (ws.map Value.string).toArray t)) (.slice (some ⟨w.heap.size, 0, none⟩) ws.length ws.length) ws :=
  ⟨_, _, rfl, Nat.le_refl _, hl, fun i x hx => ⟨w.heap.size, 0, rfl, by
    rw [Nat.zero_add, cell_of_row _ w.heap.size i _ t (0, 0) (heap_alloc_new w _)]
    simp [hx]⟩⟩

theorem lit_lines (w : World) : LinesV (((w.alloc (.cells #[.string ⟨#[97]⟩, .string ⟨#[98]⟩] 9)).alloc (.cells #[.string ⟨#[100]⟩] 9)).alloc
    (.cells #[.int .i64 1, .slice (some ⟨w.heap.size, 0, none⟩) 2 2, .int .i64 3, .slice (some ⟨w.heap.size + 1, 0, none⟩) 1 1] 45)) (.slice (some ⟨w.heap.size + 1 + 1, 0, none⟩) 2 2) L0 := by
  have s1 := ((strs_new w [⟨#[97]⟩, ⟨#[98]⟩] 9 (by decide)).keep ((Below.refl _ _).alloc (Nat.le_refl _) (.cells #[.string ⟨#[100]⟩] 9))).keep ((Below.refl _ _).alloc (Nat.le_refl _) (.cells #[.int .i64 1, .slice (some ⟨w.heap.size, 0, none⟩) 2 2, .int .i64 3, .slice (some ⟨w.heap.size + 1, 0, none⟩) 1 1] 45))
  have s2 := (strs_new (w.alloc (.cells #[.string ⟨#[97]⟩, .string ⟨#[98]⟩] 9)) [⟨#[100]⟩] 9 (by decide)).keep ((Below.refl _ _).alloc (Nat.le_refl _) (.cells #[.int .i64 1, .slice (some ⟨w.heap.size, 0, none⟩) 2 2, .int .i64 3, .slice (some ⟨w.heap.size + 1, 0, none⟩) 1 1] 45))
  have hz : ((w.alloc (.cells #[.string ⟨#[97]⟩, .string ⟨#[98]⟩] 9)).alloc (.cells #[.string ⟨#[100]⟩] 9)).heap.size = w.heap.size + 1 + 1 := by simp
  rw [World.size_alloc] at s2
  have hc : ∀ i, ((((w.alloc (.cells #[.string ⟨#[97]⟩, .string ⟨#[98]⟩] 9)).alloc (.cells #[.string ⟨#[100]⟩] 9)).alloc
    (.cells #[.int .i64 1, .slice (some ⟨w.heap.size, 0, none⟩) 2 2, .int .i64 3, .slice (some ⟨w.heap.size + 1, 0, none⟩) 1 1] 45))).cell? ⟨w.heap.size + 1 + 1, i, none⟩ = (#[.int .i64 1, .slice (some ⟨w.heap.size, 0, none⟩) 2 2, .int .i64 3, .slice (some ⟨w.heap.size + 1, 0, none⟩) 1 1] : Array Value)[i]? := fun i => by
    have := heap_alloc_new ((w.alloc (.cells #[.string ⟨#[97]⟩, .string ⟨#[98]⟩] 9)).alloc (.cells #[.string ⟨#[100]⟩] 9)) (.cells #[.int .i64 1, .slice (some ⟨w.heap.size, 0, none⟩) 2 2, .int .i64 3, .slice (some ⟨w.heap.size + 1, 0, none⟩) 1 1] 45)
    rw [hz] at this
    exact cell_of_row _ _ i _ _ (0, 0) this
  refine ⟨_, _, rfl, by decide, fun i x hx => ?_⟩
  match i, hx with
  | 0, hx => cases hx; exact ⟨_, 0, _, rfl, hc 0, hc 1, s1⟩
  | 1, hx => cases hx; exact ⟨_, 0, _, rfl, hc 2, hc 3, s2⟩
  | i + 2, hx => simp [L0] at hx

set_option maxRecDepth 100000 in
set_option maxHeartbeats 2000000 in
theorem alive_any (w : World) : Calls Try.prog 9 #[] w fun e w' => e = .returned (.bool true) ∧ Below w.heap.size w w' := by
  go_enter Try.func9, Try.ntmps9
  go_wp2_with fail
  refine (alive_lines _).mono ?_
  rintro e w1 ⟨v, rfl, hv, hb1⟩
  have HV := Lib.hid hv
  have HB1 := Lib.hid hb1
  obtain ⟨a, c, rfl, _⟩ := hv
  clear hb1
  simp only [show L0.length = 2 from rfl] at HV ⊢
  go_wp2_with fail
  refine (alive_form _).mono ?_
  rintro e w2 ⟨v2, rfl, hv2, hb2⟩
  obtain ⟨a2, c2, rfl, _⟩ := hv2
  have HB2 := Lib.hid (HB1.out.trans (hb2.mono HB1.out.size))
  have HV2 := Lib.hid (HV.out.keep hb2)
  clear hb2
  simp only [List.length_nil]
  go_wp2_with fail
  refine (ours_any _ L0 _ HV2.out (by decide)).mono ?_
  rintro e w3 ⟨v3, rfl, hv3, hb3⟩
  have HV3 := Lib.hid hv3
  have HV1 := Lib.hid (HV2.out.keep hb3)
  have HB3 := Lib.hid (HB2.out.trans (hb3.mono HB2.out.size))
  obtain ⟨a3, c3, rfl, _⟩ := hv3
  simp only [show L0.length = 2 from rfl] at HV3 ⊢
  clear hb3
  have hB4 := (((Below.refl w3.heap.size w3).alloc (Nat.le_refl _) (.cells #[.string ⟨#[97]⟩, .string ⟨#[98]⟩] 9)).alloc (by simp) (.cells #[.string ⟨#[100]⟩] 9)).alloc (by simp; omega)
    (.cells #[.int .i64 1, .slice (some ⟨w3.heap.size, 0, none⟩) 2 2, .int .i64 3, .slice (some ⟨w3.heap.size + 1, 0, none⟩) 1 1] 45)
  have H4 := Lib.hid hB4
  have HL := Lib.hid (lit_lines w3)
  clear hB4
  go_wp2_with fail
  refine (lsame_true _ _ L0 _ (HV3.out.keep H4.out) HL.out).mono ?_
  rintro e w4 ⟨rfl, q, hq⟩
  have hb4 : Below w3.heap.size w3 w4 := by rw [hq]; exact below_drewN H4.out q
  have HV4 := Lib.hid (HV1.out.keep hb4)
  have HB4 := Lib.hid (HB3.out.trans (hb4.mono HB3.out.size))
  clear hb4 hq HL H4
  go_wp2_with fail
  refine (alive_name _).mono ?_
  rintro e w5 ⟨rfl, rfl⟩
  go_wp2_with fail
  refine (alive_noname _).mono ?_
  rintro e w5 ⟨rfl, rfl⟩
  go_wp2_with fail
  refine (alive_join _ _ HV4.out).mono ?_
  rintro e w5 ⟨rfl, hb5⟩
  have HB5 := Lib.hid (HB4.out.trans (hb5.mono HB4.out.size))
  clear hb5
  have HS := Lib.hid (strs_new w5 [⟨#[97]⟩, ⟨#[98]⟩] 9 (by decide))
  go_wp2_with fail
  refine (alive_pick _ _ HS.out).mono ?_
  rintro e w6 ⟨rfl, rfl⟩
  go_wp2
  go_ret
  exact ⟨rfl, HB5.out.alloc HB5.out.size _⟩
end Go.Proofs.Ytjinlldfniflbaa
