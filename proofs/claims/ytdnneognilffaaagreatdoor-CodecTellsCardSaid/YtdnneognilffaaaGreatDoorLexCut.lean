
/- The walks of strings.Cut at one byte, and of lex.wordsOf: at every text of bytes below 128 they hand back what the plain facts say; memory that was there stays. -/
import Derived.Test.YtdnneognilffaaaGreatDoorLexShelf
import Derived.Test.YtdnneognilffaaaGreatDoorLexBytes
import Derived.RegionTactic
import Derived.OwnWalk
import Derived.Handy
namespace Go.Proofs.YtdnneognilffaaaGreatDoor
open Go.RowKit Go.Shelf

set_option maxHeartbeats 400000 in
theorem liteCut_miss (d : UInt8) (s : ByteArray) (w : World) (h : Lib.indexByte s.data.toList d = -1) :
    Calls Tryz.prog 44 #[.string s, .string ⟨#[d]⟩] w fun e w' => e = .returned (.tuple #[.string s, .string ⟨#[]⟩, .bool false]) ∧ w = w' := by
  have H := Lib.hid h
  clear h
  go_enter Tryz.func44, Tryz.ntmps44
  go_wp2_with fail
  refine (Tryz.stringslite_Index_one s d _).mono ?_
  rintro e w' ⟨rfl, rfl⟩
  rw [H.out]
  go_wp2
  go_ret3
  exact ⟨rfl, rfl⟩
set_option maxHeartbeats 400000 in
theorem liteCut_hit (d : UInt8) (s : ByteArray) (i : Nat) (w : World) (h : Lib.indexByte s.data.toList d = (i : Int)) (hi : i < s.size) (hs : s.size ≤ maxLen) :
    Calls Tryz.prog 44 #[.string s, .string ⟨#[d]⟩] w fun e w' => e = .returned (.tuple #[.string (s.extract 0 i), .string (s.extract (i + 1) s.size), .bool true]) ∧ ∃ n, w' = w.drewN n := by
  have H := Lib.hid h
  clear h
  unfold maxLen at hs
  have c1 : (0 : Int) ≤ ↑i := by omega
  have c2 : (↑i : Int) ≤ ↑s.size := by omega
  have c3 : (0 : Int) ≤ ↑i + 1 := by omega
  have c4 : (↑i + 1 : Int) ≤ ↑s.size := by omega
  have c5 : IntKind.i64.wrap (↑i + 1) = ↑i + 1 := IntWalk.i64_in _ (by omega)
  have c6 : ((↑i : Int) + 1).toNat = i + 1 := by omega
  go_enter Tryz.func44, Tryz.ntmps44
  go_wp2_with fail
  refine (Tryz.stringslite_Index_one s d _).mono ?_
  rintro e w' ⟨rfl, rfl⟩
  rw [H.out]
  go_wp2
  go_region
  go_wp2
  go_ret3
  exact ⟨rfl, 1, rfl⟩

set_option maxHeartbeats 400000 in
theorem cut_miss (d : UInt8) (s : ByteArray) (w : World) (h : Lib.indexByte s.data.toList d = -1) :
    Calls Tryz.prog 33 #[.string s, .string ⟨#[d]⟩] w fun e w' => e = .returned (.tuple #[.string s, .string ⟨#[]⟩, .bool false]) ∧ w = w' := by
  have H := Lib.hid h
  clear h
  go_enter Tryz.func33, Tryz.ntmps33
  go_wp2_with fail
  refine (liteCut_miss d s _ H.out).mono ?_
  rintro e w' ⟨rfl, rfl⟩
  go_wp2
  go_ret3
  exact ⟨rfl, rfl⟩
set_option maxHeartbeats 400000 in
theorem cut_hit (d : UInt8) (s : ByteArray) (i : Nat) (w : World) (h : Lib.indexByte s.data.toList d = (i : Int)) (hi : i < s.size) (hs : s.size ≤ maxLen) :
    Calls Tryz.prog 33 #[.string s, .string ⟨#[d]⟩] w fun e w' => e = .returned (.tuple #[.string (s.extract 0 i), .string (s.extract (i + 1) s.size), .bool true]) ∧ ∃ n, w' = w.drewN n := by
  have H := Lib.hid h
  have HI := Lib.hid hi
  have HS := Lib.hid hs
  clear h hi hs
  go_enter Tryz.func33, Tryz.ntmps33
  go_wp2_with fail
  refine (liteCut_hit d s i _ H.out HI.out HS.out).mono ?_
  rintro e w' ⟨rfl, n, rfl⟩
  go_wp2
  go_ret3
  exact ⟨rfl, n, rfl⟩

/-- What is handed back for the words of a text. -/
def WordsPost (w : World) (ws : List ByteArray) (e : Ending) (w' : World) : Prop :=
  ∃ A, e = .returned (.slice (some ⟨A, 0, none⟩) ws.length ws.length) ∧ w.heap.size ≤ A ∧
    w'.ownsRow w.heap.size 9 1 (.slice (some ⟨A, 0, none⟩) ws.length ws.length) ws.length (ws.map Value.string) ∧ Below w.heap.size w w'
theorem WordsPost.from {w w0 : World} {ws : List ByteArray} {e : Ending} {w' : World} (h : WordsPost w0 ws e w') (hb : Below w.heap.size w w0) (hz : w0.heap.size = w.heap.size) : WordsPost w ws e w' := by
  obtain ⟨A, he, hA, ho, hb'⟩ := h
  rw [hz] at hA ho hb'
  exact ⟨A, he, hA, ho, hb.trans hb'⟩

end Go.Proofs.YtdnneognilffaaaGreatDoor
