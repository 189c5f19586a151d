/- The walks of strings.Cut at a slash, rate.halves, rate.parseBoth, rate.Parse and rate.Print: at every text of at most 290 bytes they hand back what the plain facts say; memory that was there stays. -/
import Derived.Test.YtikjjbimokajfaaDoorRateCalls
import Derived.Test.YtikjjbimokajfaaDoorCentText
import Derived.RegionTactic
import Derived.OwnWalk
import Derived.Handy
import Derived.Lib.IndexMore
import Derived.Lib.IndexBytes
namespace Go.Proofs.YtikjjbimokajfaaDoor
open Go.RowKit

theorem cut_cases (l : List UInt8) : (Lib.indexByte l 47 = -1 ∧ ahead l = l ∧ behind l = [49]) ∨ ∃ i : Nat, Lib.indexByte l 47 = (i : Int) ∧ i < l.length ∧ ahead l = l.take i ∧ behind l = l.drop (i + 1) := by
  induction l with
  | nil => exact .inl ⟨rfl, rfl, rfl⟩
  | cons c r ih =>
    by_cases h : c = 47
    · subst h
      exact .inr ⟨0, rfl, by simp, rfl, rfl⟩
    · have hb : (c == 47) = false := by simpa using h
      rcases ih with ⟨h1, h2, h3⟩ | ⟨i, h1, h2, h3, h4⟩
      · exact .inl ⟨by simp [Lib.indexByte, hb, h1], by simp [ahead, h, h2], by simp [behind, h, h3]⟩
      · refine .inr ⟨i + 1, ?_, by simpa using h2, by simp [ahead, h, h3], by simp [behind, h, h4]⟩
        simp [Lib.indexByte, hb, h1]
theorem piece_ahead (s : ByteArray) (i : Nat) : s.extract 0 i = ⟨(s.data.toList.take i).toArray⟩ := by
  apply ByteArray.ext
  apply Array.ext'
  rw [ByteArray.data_extract, Array.toList_extract]
  simp
theorem piece_behind (s : ByteArray) (i : Nat) : s.extract i s.size = ⟨(s.data.toList.drop i).toArray⟩ := by
  apply ByteArray.ext
  apply Array.ext'
  exact Lib.extract_to_end s i

set_option maxHeartbeats 400000 in
theorem liteCut_miss (s : ByteArray) (w : World) (h : Lib.indexByte s.data.toList 47 = -1) :
    Calls Tryd.prog 58 #[.string s, .string ⟨#[47]⟩] w fun e w' => e = .returned (.tuple #[.string s, .string ⟨#[]⟩, .bool false]) ∧ w = w' := by
  have H := Lib.hid h
  clear h
  go_enter Tryd.func58, Tryd.ntmps58
  go_wp2_with fail
  refine (Tryd.stringslite_Index_one s 47 _).mono ?_
  rintro e w' ⟨rfl, rfl⟩
  rw [H.out]
  go_wp2
  go_ret3
  exact ⟨rfl, rfl⟩
set_option maxHeartbeats 400000 in
theorem liteCut_hit (s : ByteArray) (i : Nat) (w : World) (h : Lib.indexByte s.data.toList 47 = (i : Int)) (hi : i < s.size) (hs : s.size ≤ maxLen) :
    Calls Tryd.prog 58 #[.string s, .string ⟨#[47]⟩] w fun e w' => e = .returned (.tuple #[.string (s.extract 0 i), .string (s.extract (i + 1) s.size), .bool true]) ∧ ∃ n, w' = w.drewN n := by
  have H := Lib.hid h
  clear h
  unfold maxLen at hs
  have c1 : (0 : Int) ≤ ↑i := by omega
  have c2 : (↑i : Int) ≤ ↑s.size := by omega
  have c3 : (0 : Int) ≤ ↑i + 1 := by omega
  have c4 : (↑i + 1 : Int) ≤ ↑s.size := by omega
  have c5 : IntKind.i64.wrap (↑i + 1) = ↑i + 1 := IntWalk.i64_in _ (by omega)
  have c6 : ((↑i : Int) + 1).toNat = i + 1 := by omega
  go_enter Tryd.func58, Tryd.ntmps58
  go_wp2_with fail
  refine (Tryd.stringslite_Index_one s 47 _).mono ?_
  rintro e w' ⟨rfl, rfl⟩
  rw [H.out]
  go_wp2
  go_region
  go_wp2
  go_ret3
  exact ⟨rfl, 1, rfl⟩

set_option maxHeartbeats 400000 in
theorem cut_miss (s : ByteArray) (w : World) (h : Lib.indexByte s.data.toList 47 = -1) :
    Calls Tryd.prog 47 #[.string s, .string ⟨#[47]⟩] w fun e w' => e = .returned (.tuple #[.string s, .string ⟨#[]⟩, .bool false]) ∧ w = w' := by
  have H := Lib.hid h
  clear h
  go_enter Tryd.func47, Tryd.ntmps47
  go_wp2_with fail
  refine (liteCut_miss s _ H.out).mono ?_
  rintro e w' ⟨rfl, rfl⟩
  go_wp2
  go_ret3
  exact ⟨rfl, rfl⟩
set_option maxHeartbeats 400000 in
theorem cut_hit (s : ByteArray) (i : Nat) (w : World) (h : Lib.indexByte s.data.toList 47 = (i : Int)) (hi : i < s.size) (hs : s.size ≤ maxLen) :
    Calls Tryd.prog 47 #[.string s, .string ⟨#[47]⟩] w fun e w' => e = .returned (.tuple #[.string (s.extract 0 i), .string (s.extract (i + 1) s.size), .bool true]) ∧ ∃ n, w' = w.drewN n := by
  have H := Lib.hid h
  have HI := Lib.hid hi
  have HS := Lib.hid hs
  clear h hi hs
  go_enter Tryd.func47, Tryd.ntmps47
  go_wp2_with fail
  refine (liteCut_hit s i _ H.out HI.out HS.out).mono ?_
  rintro e w' ⟨rfl, n, rfl⟩
  go_wp2
  go_ret3
  exact ⟨rfl, n, rfl⟩

set_option maxHeartbeats 400000 in
theorem halves_any (s : ByteArray) (w : World) (hs : s.size ≤ maxLen) :
    Calls Tryd.prog 31 #[.string s] w fun e w' => e = .returned (.agg #[.string ⟨(ahead s.data.toList).toArray⟩, .string ⟨(behind s.data.toList).toArray⟩]) ∧ Below w.heap.size w w' := by
  rcases cut_cases s.data.toList with ⟨h1, h2, h3⟩ | ⟨i, h1, h2, h3, h4⟩
  · rw [h2, h3, show (ByteArray.mk s.data.toList.toArray) = s by simp]
    have H := Lib.hid h1
    clear h1 h2 h3
    go_enter Tryd.func31, Tryd.ntmps31
    go_wp2_with fail
    refine (cut_miss s _ H.out).mono ?_
    rintro e w' ⟨rfl, rfl⟩
    go_wp2
    exact bodyPost_ret (v := .agg #[.string s, .string ⟨#[49]⟩]) (by simp [results, Tryd.results31, go_sem]) rfl ⟨rfl, (Below.refl _ _).alloc (Nat.le_refl _) _⟩
  · rw [h3, h4, ← piece_ahead, ← piece_behind]
    have H := Lib.hid h1
    have HI : Hid (i < s.size) := Lib.hid (by simpa using h2)
    have HS := Lib.hid hs
    clear h1 h2 h3 h4 hs
    obtain ⟨u, hu⟩ : ∃ u, s.extract 0 i = u := ⟨_, rfl⟩
    obtain ⟨v, hv⟩ : ∃ v, s.extract (i + 1) s.size = v := ⟨_, rfl⟩
    rw [hu, hv]
    have HU := Lib.hid (And.intro hu hv)
    clear hu hv
    go_enter Tryd.func31, Tryd.ntmps31
    go_wp2_with fail
    refine (cut_hit s i _ H.out HI.out HS.out).mono ?_
    rintro e w' ⟨rfl, n, rfl⟩
    rw [HU.out.1, HU.out.2]
    go_wp2
    refine bodyPost_ret (v := .agg #[.string u, .string v]) (by simp [results, Tryd.results31, go_sem]) rfl ⟨rfl, ?_⟩
    exact ((below_drewN ((Below.refl _ _).alloc (Nat.le_refl _) _) _).setCell (Nat.le_refl _) _).setCell (Nat.le_refl _) _

/-- What both texts' numbers are told as. -/
def bothE (e f : Int) : Int := if e = 5 ∨ f = 5 then 5 else if e ≠ 0 ∨ f ≠ 0 then 4 else 0
theorem parseE_cases (l : List UInt8) : parseE l = 0 ∨ parseE l = 2 ∨ parseE l = 5 := by
  unfold parseE; split
  · split
    · exact .inl rfl
    · exact .inr (.inl rfl)
  · exact .inr (.inr rfl)

set_option maxRecDepth 100000 in
set_option maxHeartbeats 1000000 in
theorem parseBoth_first (s t : ByteArray) (w : World) (hs : s.size ≤ 300) (hL : Laid w) (h : parseE s.data.toList = 5) :
    Calls Tryd.prog 30 #[.agg #[.string s, .string t]] w fun e w' => e = .returned (.tuple #[.agg #[.int .i64 0, .int .i64 0], .int .i64 5]) ∧ Below w.heap.size w w' := by
  have H := Lib.hid h
  have HS := Lib.hid hs
  have HL := Lib.hid hL
  clear h hs hL
  have i0 : ∀ w, (Instr.index 63 (.agg #[.string s, .string t]) (.int .i64 0)).run Tryd.prog w = .ok (.string s) w := fun _ => by kernel_rfl
  have i1 : ∀ w, (Instr.index 63 (.agg #[.string s, .string t]) (.int .i64 1)).run Tryd.prog w = .ok (.string t) w := fun _ => by kernel_rfl
  obtain ⟨W, hW⟩ : ∃ W, ((w.alloc (Obj.cells #[Value.string s, Value.string t] 63)).alloc (Obj.cells #[Value.int IntKind.i64 0, Value.int IntKind.i64 0] 60)).alloc (Obj.cells #[Value.int IntKind.i64 0, Value.int IntKind.i64 0] 60) = W := ⟨_, rfl⟩
  have BW : Hid (Below w.heap.size w W) := Lib.hid (by rw [← hW]; exact (((Below.refl _ _).alloc (Nat.le_refl _) _).alloc (by simp) _).alloc (by simp; omega) _)
  have LW : Hid (Laid W) := Lib.hid (HL.out.below BW.out)
  have V2 : Hid (RateVar W (w.heap.size + 1) 0 0) := Lib.hid (by
    have := (RateVar.mk (w.alloc (Obj.cells #[Value.string s, Value.string t] 63)) 0 0 60).keep ((Below.refl _ _).alloc (Nat.le_refl _) (Obj.cells #[Value.int IntKind.i64 0, Value.int IntKind.i64 0] 60)) (Nat.le_refl _)
    rw [hW] at this
    simpa using this)
  have V4 : Hid (RateVar W (w.heap.size + 1 + 1) 0 0) := Lib.hid (by
    have := RateVar.mk ((w.alloc (Obj.cells #[Value.string s, Value.string t] 63)).alloc (Obj.cells #[Value.int IntKind.i64 0, Value.int IntKind.i64 0] 60)) 0 0 60
    rw [hW] at this
    simpa using this)
  subst hW
  go_enter Tryd.func30, Tryd.ntmps30
  go_wp2
  refine wp_loop_rounds 3 ?_
  rw [rounds_succ]
  go_wp2_with fail
  refine (parse_any s _ HS.out LW.out).mono ?_
  rintro e w1 ⟨rfl, hb1⟩
  have HB1 := Lib.hid (BW.out.trans (hb1.mono BW.out.size))
  have U2 := Lib.hid (V2.out.keep hb1 (Nat.le_refl _))
  clear hb1
  rw [H.out]
  obtain ⟨⟨c0, c1⟩, f0, f1⟩ := U2.out
  go_wp2
  exact bodyPost_ret (v := .tuple #[.agg #[.int .i64 0, .int .i64 0], .int .i64 5]) (by simp [results, Tryd.results30, go_sem, c0, c1]) rfl ⟨rfl, (HB1.out.setCell (by simp) _).setCell (by simp) _⟩
end Go.Proofs.YtikjjbimokajfaaDoor
