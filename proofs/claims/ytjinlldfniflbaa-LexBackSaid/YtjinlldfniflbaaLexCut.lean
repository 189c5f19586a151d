
/- The walks of strings.Cut at one byte, and of lex.wordsOf: at every text of bytes below 128 they hand back what the plain facts say; memory that was there stays. -/
import Derived.Test.YtjinlldfniflbaaLexShelf
import Derived.Test.YtjinlldfniflbaaLexBytes
import Derived.RegionTactic
import Derived.OwnWalk
import Derived.Handy
namespace Go.Proofs.Ytjinlldfniflbaa
open Go.RowKit Go.Shelf

set_option maxHeartbeats 400000 in
theorem liteCut_miss (d : UInt8) (s : ByteArray) (w : World) (h : Lib.indexByte s.data.toList d = -1) :
    Calls Try.prog 40 #[.string s, .string ⟨#[d]⟩] w fun e w' => e = .returned (.tuple #[.string s, .string ⟨#[]⟩, .bool false]) ∧ w = w' := by
  have H := Lib.hid h
  clear h
  go_enter Try.func40, Try.ntmps40
  go_wp2_with fail
  refine (Try.stringslite_Index_one s d _).mono ?_
  rintro e w' ⟨rfl, rfl⟩
  rw [H.out]
  go_wp2
  go_ret3
  exact ⟨rfl, rfl⟩
set_option maxHeartbeats 400000 in
theorem liteCut_hit (d : UInt8) (s : ByteArray) (i : Nat) (w : World) (h : Lib.indexByte s.data.toList d = (i : Int)) (hi : i < s.size) (hs : s.size ≤ maxLen) :
    Calls Try.prog 40 #[.string s, .string ⟨#[d]⟩] w fun e w' => e = .returned (.tuple #[.string (s.extract 0 i), .string (s.extract (i + 1) s.size), .bool true]) ∧ ∃ n, w' = w.drewN n := by
  have H := Lib.hid h
  clear h
  unfold maxLen at hs
  have c1 : (0 : Int) ≤ ↑i := by omega
  have c2 : (↑i : Int) ≤ ↑s.size := by omega
  have c3 : (0 : Int) ≤ ↑i + 1 := by omega
  have c4 : (↑i + 1 : Int) ≤ ↑s.size := by omega
  have c5 : IntKind.i64.wrap (↑i + 1) = ↑i + 1 := IntWalk.i64_in _ (by omega)
  have c6 : ((↑i : Int) + 1).toNat = i + 1 := by omega
  go_enter Try.func40, Try.ntmps40
  go_wp2_with fail
  refine (Try.stringslite_Index_one s d _).mono ?_
  rintro e w' ⟨rfl, rfl⟩
  rw [H.out]
  go_wp2
  go_region
  go_wp2
  go_ret3
  exact ⟨rfl, 1, rfl⟩

set_option maxHeartbeats 400000 in
theorem cut_miss (d : UInt8) (s : ByteArray) (w : World) (h : Lib.indexByte s.data.toList d = -1) :
    Calls Try.prog 35 #[.string s, .string ⟨#[d]⟩] w fun e w' => e = .returned (.tuple #[.string s, .string ⟨#[]⟩, .bool false]) ∧ w = w' := by
  have H := Lib.hid h
  clear h
  go_enter Try.func35, Try.ntmps35
  go_wp2_with fail
  refine (liteCut_miss d s _ H.out).mono ?_
  rintro e w' ⟨rfl, rfl⟩
  go_wp2
  go_ret3
  exact ⟨rfl, rfl⟩
set_option maxHeartbeats 400000 in
theorem cut_hit (d : UInt8) (s : ByteArray) (i : Nat) (w : World) (h : Lib.indexByte s.data.toList d = (i : Int)) (hi : i < s.size) (hs : s.size ≤ maxLen) :
    Calls Try.prog 35 #[.string s, .string ⟨#[d]⟩] w fun e w' => e = .returned (.tuple #[.string (s.extract 0 i), .string (s.extract (i + 1) s.size), .bool true]) ∧ ∃ n, w' = w.drewN n := by
  have H := Lib.hid h
  have HI := Lib.hid hi
  have HS := Lib.hid hs
  clear h hi hs
  go_enter Try.func35, Try.ntmps35
  go_wp2_with fail
  refine (liteCut_hit d s i _ H.out HI.out HS.out).mono ?_
  rintro e w' ⟨rfl, n, rfl⟩
  go_wp2
  go_ret3
  exact ⟨rfl, n, rfl⟩

/-- What is handed back for the words of a text. -/
def WordsPost (w : World) (ws : List ByteArray) (e : Ending) (w' : World) : Prop :=
  ∃ A, e = .returned (.slice (some ⟨A, 0, none⟩) ws.length ws.length) ∧ w.heap.size ≤ A ∧
    w'.ownsRow w.heap.size 9 1 (.slice (some ⟨A, 0, none⟩) ws.length ws.length) ws.length (ws.map Value.string) ∧ Below w.heap.size w w'
theorem between_pred (w : World) : PredAtRunes Try.prog 37 #[] gapR w := fun W x hx _ =>
  (between_any x W hx).mono fun _ _ ⟨he, hw⟩ => ⟨he, 0, hw.symm⟩
theorem fields_any (s : ByteArray) (w : World) (hs : s.size ≤ 30000) (ha : ∀ c ∈ s.data.toList, c.toNat < 128) :
    Calls Try.prog 36 #[.string s, .func (.func 37) #[] #[]] w (WordsPost w ((fieldsGo [] s.data.toList).map mkB)) := by
  rw [← fields_plain s ha]
  exact Try.strings_FieldsFunc_runes 37 #[] (enters_of Try.func37 (by kernel_rfl) rfl) gapR s w (by omega) (between_pred w)
theorem WordsPost.from {w w0 : World} {ws : List ByteArray} {e : Ending} {w' : World} (h : WordsPost w0 ws e w') (hb : Below w.heap.size w w0) (hz : w0.heap.size = w.heap.size) : WordsPost w ws e w' := by
  obtain ⟨A, he, hA, ho, hb'⟩ := h
  rw [hz] at hA ho hb'
  exact ⟨A, he, hA, ho, hb.trans hb'⟩

set_option maxHeartbeats 400000 in
theorem wordsOf_any (s : ByteArray) (w : World) (hs : s.size ≤ 30000) (ha : ∀ c ∈ s.data.toList, c.toNat < 128) :
    Calls Try.prog 25 #[.string s] w (WordsPost w ((wordsL s.data.toList).map mkB)) := by
  rcases cut_cases 35 s.data.toList with ⟨h1, h2⟩ | ⟨i, h1, h2, h3, h4⟩
  · have e0 : wordsL s.data.toList = fieldsGo [] s.data.toList := by unfold wordsL; rw [said_none _ h2]
    rw [e0]
    have H := Lib.hid h1
    have HA := Lib.hid ha
    have HF := Lib.hid (fields_any s w hs ha)
    clear h1 h2 e0 ha
    obtain ⟨ws, hws⟩ : ∃ ws, (fieldsGo [] s.data.toList).map mkB = ws := ⟨_, rfl⟩
    rw [hws] at HF ⊢
    clear hws
    go_enter Try.func25, Try.ntmps25
    go_wp2_with fail
    refine (cut_miss 35 s _ H.out).mono ?_
    rintro e w' ⟨rfl, rfl⟩
    go_wp2_with fail
    refine HF.out.mono ?_
    rintro e w1 ⟨A, rfl, hA, ho, hb⟩
    go_wp2
    go_ret
    exact ⟨A, rfl, hA, ho, hb⟩
  · have hi : i < s.size := by rw [← size_list]; exact h2
    have e0 : wordsL s.data.toList = fieldsGo [] (s.data.toList.take i) := by
      unfold wordsL
      have : said s.data.toList = s.data.toList.take i := by
        conv => lhs; rw [h4]
        exact said_mark _ _ h3
      rw [this]
    rw [e0]
    have hx : (s.extract 0 i).data.toList = s.data.toList.take i := by rw [piece_ahead, mkB_data]
    have hz : (s.extract 0 i).size ≤ 30000 := by rw [← size_list, hx, List.length_take]; have := size_list s; omega
    have ha' : ∀ c ∈ (s.extract 0 i).data.toList, c.toNat < 128 := fun c hc => ha c (by rw [hx] at hc; exact List.mem_of_mem_take hc)
    have HF : Hid (∀ n, Calls Try.prog 36 #[.string (s.extract 0 i), .func (.func 37) #[] #[]] (w.drewN n) (WordsPost w ((fieldsGo [] (s.data.toList.take i)).map mkB))) := Lib.hid fun n => by
      have := fields_any (s.extract 0 i) (w.drewN n) hz ha'
      rw [hx] at this
      exact this.mono fun e w' h => h.from (below_drewN (Below.refl _ _) n) (by simp)
    have H := Lib.hid h1
    have HI := Lib.hid hi
    have HS : Hid (s.size ≤ maxLen) := Lib.hid (by unfold maxLen; omega)
    clear h1 h2 h3 h4 hi e0 hx hz ha' ha hs
    obtain ⟨ws, hws⟩ : ∃ ws, (fieldsGo [] (s.data.toList.take i)).map mkB = ws := ⟨_, rfl⟩
    rw [hws] at HF ⊢
    clear hws
    obtain ⟨u, hu⟩ : ∃ u, s.extract 0 i = u := ⟨_, rfl⟩
    obtain ⟨v, hv⟩ : ∃ v, s.extract (i + 1) s.size = v := ⟨_, rfl⟩
    rw [hu] at HF
    have HU := Lib.hid (And.intro hu hv)
    clear hu hv
    go_enter Try.func25, Try.ntmps25
    go_wp2_with fail
    refine (cut_hit 35 s i _ H.out HI.out HS.out).mono ?_
    rintro e w' ⟨rfl, n, rfl⟩
    rw [HU.out.1, HU.out.2]
    go_wp2_with fail
    refine (HF.out n).mono ?_
    rintro e w1 ⟨A, rfl, hA, ho, hb⟩
    go_wp2
    go_ret
    exact ⟨A, rfl, hA, ho, hb⟩
end Go.Proofs.Ytjinlldfniflbaa
