/- The walk of the statements' own 'alive': the answers that the document fixes are given, whatever memory holds besides the library's variables; memory that was there stays. -/
import Derived.Test.YthakilmimcgbiaaDoorCentText
import Derived.Test.YthakilmimcgbiaaDoorCentSum
namespace Go.Proofs.YthakilmimcgbiaaDoor
open Go.RowKit

/-- A row of amounts that the call itself has just laid. -/
theorem rowIs_new (w : World) (t : TypeId) (l : List Int) (hl : l.length ≤ maxLen) :
    RowIs .i64 (w.alloc (.cells (l.map fun x => Value.int .i64 x).toArray t)) (some ⟨w.heap.size, 0, none⟩) l.length l where
  len := rfl
  max := hl
  cell := fun i hi => ⟨w.heap.size, 0, rfl, by
    rw [Nat.zero_add, cell_of_row _ w.heap.size i _ t (0, 0) (heap_alloc_new w _)]
    simp [List.getD, hi]⟩

set_option maxHeartbeats 400000 in
theorem alive_any (w : World) (hL : Laid w) :
    Calls Tryd.prog 9 #[] w fun e w' => e = .returned (.bool true) ∧ Below w.heap.size w w' := by
  have HL := Lib.hid hL
  clear hL
  go_enter Tryd.func9, Tryd.ntmps9
  go_wp2_with fail
  refine (add_any 2 3 _ ⟨by omega, by omega⟩ ⟨by omega, by omega⟩).mono ?_
  rintro e w' ⟨rfl, rfl⟩
  rw [show addV 2 3 = 5 from by decide, show addE 2 3 = 0 from by decide]
  go_wp2_with fail
  refine (add_any 9223372036854775807 1 _ ⟨by omega, by omega⟩ ⟨by omega, by omega⟩).mono ?_
  rintro e w' ⟨rfl, rfl⟩
  rw [show addV 9223372036854775807 1 = 0 from by decide, show addE 9223372036854775807 1 = 2 from by decide]
  go_wp2_with fail
  refine (parse_any _ _ (by decide) HL.out).mono ?_
  rintro e w1 ⟨rfl, hb1⟩
  have HL1 := Lib.hid (HL.out.below hb1)
  have HB1 := Lib.hid hb1
  clear hb1
  rw [show parseV (ByteArray.mk #[45, 49, 50]).data.toList = -12 from by decide, show parseE (ByteArray.mk #[45, 49, 50]).data.toList = 0 from by decide]
  go_wp2_with fail
  refine (parse_any _ _ (by decide) HL1.out).mono ?_
  rintro e w2 ⟨rfl, hb2⟩
  have HL2 := Lib.hid (HL1.out.below hb2)
  have HB2 := Lib.hid (HB1.out.trans (hb2.mono HB1.out.size))
  clear hb2
  rw [show parseV (ByteArray.mk #[45, 48]).data.toList = 0 from by decide, show parseE (ByteArray.mk #[45, 48]).data.toList = 5 from by decide]
  go_wp2_with fail
  refine (sum_any _ 3 3 [1, 2, 3] _ (rowIs_new w2 2 [1, 2, 3] (by unfold maxLen; simp)) (fun x hx => by simp at hx; rcases hx with rfl | rfl | rfl <;> exact ⟨by omega, by omega⟩)).mono ?_
  rintro e w' ⟨rfl, rfl⟩
  have hb3 : Below w2.heap.size w2 (w2.alloc (Obj.cells #[Value.int IntKind.i64 1, Value.int IntKind.i64 2, Value.int IntKind.i64 3] 2)) := (Below.refl _ _).alloc (Nat.le_refl _) _
  have HL3 := Lib.hid (HL2.out.below hb3)
  have HB3 := Lib.hid (HB2.out.trans (hb3.mono HB2.out.size))
  clear hb3
  rw [show (sumFrom 0 [1, 2, 3]).1 = 6 from by decide, show (sumFrom 0 [1, 2, 3]).2 = 0 from by decide]
  go_wp2_with fail
  refine (print_any (-7) _ ⟨by omega, by omega⟩ HL3.out).mono ?_
  rintro e w4 ⟨rfl, hb4⟩
  have HB4 := Lib.hid (HB3.out.trans (hb4.mono HB3.out.size))
  clear hb4
  rw [show (ByteArray.mk (Lib.itoa (-7)).toArray) = ⟨#[45, 55]⟩ from by rw [Lib.itoa, if_pos (by decide), dec_small (by decide)]; rfl]
  go_wp2
  go_ret
  exact ⟨rfl, HB4.out⟩
end Go.Proofs.YthakilmimcgbiaaDoor
