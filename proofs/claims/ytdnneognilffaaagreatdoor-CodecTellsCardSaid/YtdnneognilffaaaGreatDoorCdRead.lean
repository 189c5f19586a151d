
/- The walk of codec's read: the cube whose text it is, or the panic that gives the text up. What was there stays. -/
import Derived.Test.YtdnneognilffaaaGreatDoorCdFact
import Derived.Test.YtdnneognilffaaaGreatDoorCdPrint
import Derived.Test.YtdnneognilffaaaGreatDoorLexCut
namespace Go.Proofs.YtdnneognilffaaaGreatDoor.Cd
open Go.Proofs.YtdnneognilffaaaGreatDoor.Fa Go.RowKit

theorem readFact_any (s : ByteArray) (w : World) (hs : s.size ≤ 1000000) (hl : Laid w) : Calls Tryz.prog 34 #[.string s] w (FactTold w s) := by
  by_cases h : (pieces s).length = 6
  · match hp : pieces s, h with
    | [a, b, c, d, m, n], _ => exact readFact_six s a b c d m n w hs hl hp
  · exact (readFact_len s w hs h).mono fun e w' ⟨he, hb⟩ => ⟨.inr ⟨factOf_len h, he⟩, hb⟩
theorem readF_in64 {l : ByteArray} {f : Fact} (h : readF l = some f) : In64 f.key.m ∧ In64 f.amt := by
  unfold readF factOf at h
  split at h
  · unfold factW at h
    split at h
    · cases h; exact ⟨in64_of_fit (fit_parseV _), in64_of_fit (fit_parseV _)⟩
    · cases h
  · cases h
theorem readAll_in64 : ∀ {L : List (List UInt8)} {c : List Fact}, readAll L = some c → In64s c
  | [], c, h => by
    cases h
    exact fun f hf => absurd hf (List.not_mem_nil)
  | l :: L, c, h => by
    cases hr : readF (mkB l) with
    | none => rw [readAll_none hr] at h; cases h
    | some f =>
      rw [readAll_some hr] at h
      cases ht : readAll L with
      | none => rw [ht] at h; cases h
      | some d =>
        rw [ht] at h
        cases h
        intro g hg
        rcases List.mem_cons.1 hg with rfl | hg
        · exact readF_in64 hr
        · exact readAll_in64 ht g hg
/-- What Cut tells at the end of a line. -/
def CutTold (w : World) (s : ByteArray) (e : Ending) (w' : World) : Prop :=
  ∃ (u r : ByteArray) (b : Bool), e = .returned (.tuple #[.string u, .string r, .bool b]) ∧ r.data.toList = behind s.data.toList ∧ (s.data.toList ≠ [] → rowsGo [] s.data.toList = u.data.toList :: rowsGo [] r.data.toList) ∧ r.size ≤ s.size ∧ (s.data.toList ≠ [] → r.size + 1 ≤ s.size) ∧ u.size ≤ s.size ∧ Below w.heap.size w w'
theorem cut_line (s : ByteArray) (w : World) (hs : s.size ≤ 1000000) : Calls Tryz.prog 33 #[.string s, .string ⟨#[10]⟩] w (CutTold w s) := by
  rcases cut_cases 10 s.data.toList with ⟨h1, h2⟩ | ⟨i, h1, h2, h3, h4⟩
  · refine (cut_miss 10 s w h1).mono ?_
    rintro e w' ⟨rfl, rfl⟩
    refine ⟨s, ⟨#[]⟩, false, rfl, (behind_none _ h2).symm, fun h0 => ?_, Nat.zero_le _, fun h0 => ?_, Nat.le_refl _, Below.refl _ _⟩
    · rw [rowsGo_last _ h2 h0]; rfl
    · have := List.length_pos_iff.2 h0
      rw [size_list] at this
      show 0 + 1 ≤ _
      omega
  · have hi : i < s.size := by rw [← size_list]; exact h2
    refine (cut_hit 10 s i w h1 hi (by unfold maxLen; omega)).mono ?_
    rintro e w' ⟨rfl, n, rfl⟩
    have e1 : (s.extract 0 i).data.toList = s.data.toList.take i := by rw [piece_ahead, mkB_data]
    have e2 : (s.extract (i + 1) s.size).data.toList = s.data.toList.drop (i + 1) := by rw [piece_behind, mkB_data]
    refine ⟨_, _, true, rfl, ?_, fun _ => ?_, ?_, fun _ => ?_, ?_, belowN (Below.refl _ _) n⟩
    · rw [e2]
      conv => rhs; rw [h4]
      rw [behind_cut _ _ h3]
    · rw [e1, e2]
      conv => lhs; rw [h4]
      exact rowsGo_cut _ _ h3
    · rw [ByteArray.size_extract]; omega
    · rw [ByteArray.size_extract]; omega
    · rw [ByteArray.size_extract]; omega
theorem read_step {u : List UInt8} {R : List (List UInt8)} {f : Fact} {done : List Fact} (h : readF (mkB u) = some f) : (readAll (u :: R)).map (done ++ ·) = (readAll R).map ((done ++ [f]) ++ ·) := by
  rw [readAll_some h]
  cases readAll R with
  | none => rfl
  | some d => simp
theorem nil_text {s : ByteArray} (h : s = ⟨#[]⟩) : s.data.toList = [] := by subst h; rfl
theorem text_nil {s : ByteArray} (h : s ≠ ⟨#[]⟩) : s.data.toList ≠ [] := fun e => h (by rw [← mkB_list s, e]; rfl)
theorem infoC : InfoE Tryz.prog 32 43 encF := .of (z := .agg #[.string ⟨#[]⟩, .string ⟨#[]⟩, .string ⟨#[]⟩, .string ⟨#[]⟩, .int .i64 0, .int .i64 0]) (n := 80) Tryz.underlying32 (by kernel_rfl) rfl (by decide)
/-- What read tells of a text. -/
def ReadTold (w : World) (l : List UInt8) (e : Ending) (w' : World) : Prop := ((∃ c v, parseP l = some c ∧ e = .returned v ∧ w'.ownsRow w.heap.size 43 6 v c.length (flat encF c)) ∨ (parseP l = none ∧ e = gaveUp)) ∧ Below w.heap.size w w'
def sizeOfS : Value → Nat
  | .string x => x.size
  | _ => 0
theorem parse_hit {l : List UInt8} {c : List Fact} (hr : readP l = some c) (h1 : okC c = true) (h2 : textL c = l) : parseP l = some c := by
  unfold parseP
  rw [hr]
  exact if_pos ⟨h1, h2⟩
theorem parse_miss {l : List UInt8} {c : List Fact} (hr : readP l = some c) (h : ¬ (okC c = true ∧ textL c = l)) : parseP l = none := by
  unfold parseP
  rw [hr]
  exact if_neg h
theorem parse_none {l : List UInt8} (hr : readP l = none) : parseP l = none := by
  unfold parseP
  rw [hr]
set_option maxRecDepth 100000 in
set_option maxHeartbeats 16000000 in
theorem read_any (s : ByteArray) (w : World) (hs : s.size ≤ 100000) (hl : Laid w) :
    Calls Tryz.prog 21 #[.string s] w (ReadTold w s.data.toList) := by
  have HL := Lib.hid hl
  have HC0 := Lib.hid (cut_line s w (by omega))
  have HRP : Hid (∀ r : ByteArray, r.data.toList = behind s.data.toList → readP s.data.toList = (readAll (rowsGo [] r.data.toList)).map (([] : List Fact) ++ ·)) := Lib.hid (fun r h => by
    rw [h]
    unfold readP
    cases readAll (rowsGo [] (behind s.data.toList)) <;> simp)
  clear hl
  go_enter Tryz.func21, Tryz.ntmps21
  go_wp2_with fail
  refine HC0.out.mono ?_
  rintro e w1 ⟨u0, r0, b0, rfl, hr0, _, hz0, _, _, hb1⟩
  have HB1 := Lib.hid hb1
  have HR1 := Lib.hid (HRP.out r0 hr0)
  have HZ1 : Hid (([] : List Fact).length + r0.size ≤ 100000) := Lib.hid (by simp; omega)
  clear hb1 hr0 hz0 HC0 HRP
  go_wp2
  go_loopw [3, 5] (fun s3 s5 wr => ∃ (done : List Fact) (rest : ByteArray), s5 = .string rest ∧ Hid (wr.ownsRow w.heap.size 43 6 s3 done.length (flat encF done)) ∧ Hid (Below w.heap.size w wr) ∧ Hid (readP s.data.toList = (readAll (rowsGo [] rest.data.toList)).map (done ++ ·)) ∧ Hid (done.length + rest.size ≤ 100000)) (fun _ s5 _ => sizeOfS s5)
  case atStart => exact ⟨[], r0, rfl, Lib.hid (World.ownsRow_nil _ _ _ _), HB1, HR1, HZ1⟩
  case round =>
    obtain ⟨done, rest, rfl, HO, HB, HR, HZ⟩ := hrel
    by_cases hre : rest = ⟨#[]⟩
    · have he := empty_yes hre
      have HRD : Hid (readP s.data.toList = some done) := Lib.hid (by rw [HR.out, nil_text hre]; simp [rowsGo, readAll])
      have HLN : Hid (done.length ≤ 100000) := Lib.hid (by have := HZ.out; omega)
      have HIN : Hid (In64s done) := Lib.hid (readAll_in64 (by have := HRD.out; unfold readP at this; exact this))
      clear hre HR HZ
      have HV := Lib.hid (els_of_own (E := encF) HO.out)
      obtain ⟨pv, cv, rfl⟩ := row_slice' HO.out
      go_wp2_with fail
      refine (cprint_any _ done _ HV.out HLN.out HIN.out (HL.out.below HB.out)).mono ?_
      rintro e w2 ⟨rfl, hb2⟩
      have HO2 := Lib.hid (row_below HO.out hb2)
      have HB2 := Lib.hid (HB.out.trans (hb2.mono HB.out.size))
      clear hb2 HV HO HB
      cases hok : okC done with
      | false =>
        have HPN := Lib.hid (parse_miss HRD.out (fun h => by rw [hok] at h; exact absurd h.1 (by decide)))
        rw [prS_no hok, prE_no hok]
        clear hok
        go_wp2
        exact ⟨rfl, .inr ⟨HPN.out, rfl⟩, HB2.out⟩
      | true =>
        rw [prS_yes hok, prE_yes hok]
        by_cases ht : textL done = s.data.toList
        · have HPS := Lib.hid (parse_hit HRD.out hok ht)
          have hmk : mkB (textL done) = s := by rw [ht, mkB_list]
          rw [hmk]
          have hne : (s.toList == s.toList) = true := by simp
          clear hok ht hmk
          go_wp2
          go_ret
          exact ⟨.inl ⟨_, _, HPS.out, rfl, HO2.out⟩, HB2.out⟩
        · have HPN := Lib.hid (parse_miss HRD.out (fun h => ht h.2))
          obtain ⟨OWN, hOWN⟩ : ∃ OWN, mkB (textL done) = OWN := ⟨_, rfl⟩
          have hne : (OWN.toList == s.toList) = false := by
            rw [beq_eq_false_iff_ne]
            exact fun e => ht (by rw [← toList_inj e, ← hOWN, mkB_data])
          rw [hOWN]
          clear hok ht hOWN
          go_wp2
          exact ⟨rfl, .inr ⟨HPN.out, rfl⟩, HB2.out⟩
    · have he := empty_no hre
      have HTN := Lib.hid (text_nil hre)
      have hsz : rest.size ≤ 100000 := by have := HZ.out; omega
      clear hre
      go_wp2_with fail
      refine (cut_line rest _ (by omega)).mono ?_
      rintro e w2 ⟨u, r, b, rfl, _, hrows, _, hrs, hus, hb2⟩
      have HRW := Lib.hid (hrows HTN.out)
      have hrs2 := hrs HTN.out
      have HB2 := Lib.hid (HB.out.trans (hb2.mono HB.out.size))
      have HO2 := Lib.hid (row_below HO.out hb2)
      clear hrows hrs hb2 HB HO
      go_wp2_with fail
      refine (readFact_any u _ (by omega) (HL.out.below HB2.out)).mono ?_
      rintro e w3 ⟨hf, hb3⟩
      have HB3 := Lib.hid (HB2.out.trans (hb3.mono HB2.out.size))
      have HO3 := Lib.hid (row_below HO2.out hb3)
      clear hb3 HB2 HO2
      rcases hf with ⟨f, hf, rfl⟩ | ⟨hf, rfl⟩
      · have HR3 : Hid (readP s.data.toList = (readAll (rowsGo [] r.data.toList)).map ((done ++ [f]) ++ ·)) := Lib.hid (by rw [HR.out, HRW.out]; exact read_step (by rw [mkB_list]; exact hf))
        have HZ3 : Hid ((done ++ [f]).length + r.size ≤ 100000) := Lib.hid (by have := HZ.out; rw [List.length_append, List.length_singleton]; omega)
        clear hf HR
        go_wp2_with (at_builtin; refine wpList_append_el (E := encF) rfl _ _ 32 43 rfl infoC w.heap.size done f w3.heap.size (HO3.out.alloc _) rfl (el_new encF _ _ _) (by have := HB3.out.size; simp; omega) (by have := HZ.out; omega) ?_; intro v9 w9 hr9 hb9 hg9)
        have HR9 := Lib.hid hr9
        have HB9 : Hid (Below w.heap.size w w9) := Lib.hid ((HB3.out.alloc HB3.out.size _).trans hb9)
        clear hr9 hb9 hg9
        go_wp2
        go_roundw
        case rel => exact ⟨done ++ [f], r, rfl, HR9, HB9, HR3, HZ3⟩
        case measure => simp only [sizeOfS]; omega
      · have HPN := Lib.hid (parse_none (l := s.data.toList) (by rw [HR.out, HRW.out, readAll_none (by rw [mkB_list]; exact hf)]; rfl))
        clear hf
        go_wp2
        exact ⟨rfl, .inr ⟨HPN.out, rfl⟩, HB3.out⟩
end Go.Proofs.YtdnneognilffaaaGreatDoor.Cd
