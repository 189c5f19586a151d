
/- The walks of strings.SplitN at a blank, and of codec's readNumber and readFact: the fact that a line tells, or the panic that gives the text up. What was there stays. -/
import Derived.Test.YtdnneognilffaaaGreatDoorCdPlain
import Derived.Test.YtdnneognilffaaaGreatDoorCentText
import Derived.Test.YtdnneognilffaaaGreatDoorStoreEl
import Derived.Test.YtdnneognilffaaaGreatDoorSegs
import Derived.Test.YtdnneognilffaaaGreatDoorCdNamed
import Derived.BigQuiet
import Derived.WalkLawsBesides
namespace Go.Proofs.YtdnneognilffaaaGreatDoor.Cd
open Go.Proofs.YtdnneognilffaaaGreatDoor.Fa Go.RowKit Go.Shelf

/-! ### strings.SplitN at a blank, seven at most -/
theorem info_strs : (Tryz.prog.info? 9).map (fun i => (i.zero, i.size, i.bytes)) = some (some (.string ByteArray.empty), 1, 16) := by kernel_rfl
theorem index_blank (x : ByteArray) (W : World) : Calls Tryz.prog 74 #[.string x, .string ⟨#[32]⟩] W fun e w' => e = .returned (.int .i64 (Lib.indexB x ⟨#[32]⟩)) ∧ w' = W :=
  (Any.strings_Index_one (ρ := Tryz.lays147_ren) { Tryz.lays147 with } x 32 W).mono fun e w' ⟨he, hw⟩ => ⟨by rw [he, Lib.indexB]; show _ = Ending.returned (Value.int .i64 (Lib.index x.data.toList [32])); rw [Lib.index_one], hw⟩
theorem count_blank (x : ByteArray) (W : World) : Calls Tryz.prog 73 #[.string x, .string ⟨#[32]⟩] W fun e w' => e = .returned (.int .i64 (Lib.countB x ⟨#[32]⟩)) ∧ w' = W :=
  (Any.strings_Count_one (ρ := Tryz.lays147_ren) { Tryz.lays147 with } x 32 W).mono fun e w' ⟨he, hw⟩ => ⟨by
    rw [he]
    show _ = Ending.returned (Value.int .i64 ((Lib.count x.data.toList [32] : Nat) : Int))
    rw [Lib.count_one]; rfl, hw⟩
theorem genSplit_seven (s : ByteArray) (w : World) (hs : s.size ≤ 1000000) :
    Calls Tryz.prog 57 #[.string s, .string ⟨#[32]⟩, .int .i64 0, .int .i64 7] w fun e w' => e = .returned (.slice (some ⟨w.heap.size, 0, none⟩) (pieces s).length (min 7 (s.size + 1))) ∧ w' = w.alloc (.cells (Lib.cellsOf (pieces s) (min 7 (s.size + 1))) 9) :=
  Any.strings_genSplit_core (ρ := Tryz.lays147_ren) { Tryz.lays147 with } info_strs s ⟨#[32]⟩ 0 7 (min 7 (s.size + 1)) w (by omega) (by decide) (by decide) (fun x c _ => index_blank x _) (count_blank s w) (by decide) (by decide) (by rw [if_neg (by decide)]; omega)
/-- What SplitN tells. -/
def PiecesAt (w : World) (s : ByteArray) (e : Ending) (w' : World) : Prop := ∃ c, e = .returned (.slice (some ⟨w.heap.size, 0, none⟩) (pieces s).length c) ∧ (pieces s).length ≤ c ∧ c ≤ 7 ∧ (∀ i x, (pieces s)[i]? = some x → w'.cell? ⟨w.heap.size, i, none⟩ = some (.string x)) ∧ Below w.heap.size w w'
theorem pieces_length (s : ByteArray) : (pieces s).length ≤ min 7 (s.size + 1) := by
  have := Lib.splitB_length_le ⟨#[32]⟩ 0 (min 7 (s.size + 1) - 1) s
  unfold pieces
  omega
set_option maxHeartbeats 1000000 in
theorem splitN_seven (s : ByteArray) (w : World) (hs : s.size ≤ 1000000) : Calls Tryz.prog 45 #[.string s, .string ⟨#[32]⟩, .int .i64 7] w (PiecesAt w s) := by
  have HG := Lib.hid (genSplit_seven s w hs)
  have HP : Hid (∀ N, N = min 7 (s.size + 1) → PiecesAt w s (.returned (.slice (some ⟨w.heap.size, 0, none⟩) (pieces s).length N)) (w.alloc (.cells (Lib.cellsOf (pieces s) N) 9))) := Lib.hid (fun N hN => by
    have hl := pieces_length s
    refine ⟨N, rfl, by omega, by omega, fun i x hx => ?_, (Below.refl _ _).alloc (Nat.le_refl _) _⟩
    rw [cell_of_row _ w.heap.size i _ 9 (0, 0) (heap_alloc_new w _)]
    have hi := (List.getElem?_eq_some_iff.1 hx).1
    unfold Lib.cellsOf
    rw [List.getElem?_toArray, List.getElem?_append_left (by simpa using hi)]
    simp [hx])
  obtain ⟨N, hN⟩ : ∃ N, min 7 (s.size + 1) = N := ⟨_, rfl⟩
  rw [hN] at HG
  have HQ := Lib.hid (HP.out N hN.symm)
  obtain ⟨L, hL⟩ : ∃ L, (pieces s).length = L := ⟨_, rfl⟩
  rw [hL] at HG HQ
  clear hN hL HP hs
  go_enter Tryz.func45, Tryz.ntmps45
  go_wp2_with fail
  refine HG.out.mono ?_
  rintro e w1 ⟨rfl, rfl⟩
  go_wp2
  go_ret
  exact HQ.out

/-! ### Worlds that have grown, but for one block -/
structure But (g : Nat) (w : World) where
  to : World
  grown : w.grownBy to (some g)
theorem grown_of {w w' : World} (hb : Below w.heap.size w w') (r : Option Nat) : w.grownBy w' r := ⟨hb.os, hb.tape, hb.output, hb.size, fun j hj _ => hb.block j hj⟩
theorem drew_grown (w : World) (r : Option Nat) : w.grownBy w.drew r := ⟨rfl, rfl, rfl, Nat.le_refl _, fun _ _ _ => rfl⟩
instance (g : Nat) (w : World) : Nonempty (But g w) := ⟨⟨w, grown_of (Below.refl _ _) _⟩⟩
theorem cell_but {g : Nat} {w : World} {b o : Nat} {v : Value} (h : w.cell? ⟨b, o, none⟩ = some v) (hne : b ≠ g) (p : But g w) : p.to.cell? ⟨b, o, none⟩ = some v := by
  have hb := World.block_lt_of_cell? w _ h
  rw [← h]
  unfold World.cell?
  rw [p.grown.block b hb (by simpa using hne)]
theorem but_in {g : Nat} {w0 w : World} (h : w0.grownBy w (some g)) : ∃ p : But g w0, w = p.to := ⟨⟨w, h⟩, rfl⟩

/-! ### Numbers and facts -/
/-- The text is given up. -/
abbrev gaveUp : Ending := .panicked [{ v := .iface 57 (.agg #[]), recovered := false }]
theorem parseE_ne {l : List UInt8} (h : parseE l ≠ 0) : (parseE l != 0) = true := by simpa using h
set_option maxHeartbeats 1000000 in
theorem number_ok (s : ByteArray) (w : World) (hs : s.size ≤ 1000000) (hl : Laid w) (h : parseE s.data.toList = 0) :
    Calls Tryz.prog 46 #[.string s] w fun e w' => e = .returned (.int .i64 (parseV s.data.toList)) ∧ Below w.heap.size w w' := by
  have HP := Lib.hid (parse_long s w hs hl)
  rw [h] at HP
  clear hs hl h
  obtain ⟨V, hV⟩ : ∃ V, parseV s.data.toList = V := ⟨_, rfl⟩
  rw [hV] at HP ⊢
  clear hV
  go_enter Tryz.func46, Tryz.ntmps46
  go_wp2_with fail
  refine HP.out.mono ?_
  rintro e w1 ⟨rfl, hb1⟩
  go_wp2
  go_ret
  exact ⟨rfl, hb1⟩
set_option maxHeartbeats 1000000 in
theorem number_bad (s : ByteArray) (w : World) (hs : s.size ≤ 1000000) (hl : Laid w) (h : parseE s.data.toList ≠ 0) :
    Calls Tryz.prog 46 #[.string s] w fun e w' => e = gaveUp ∧ Below w.heap.size w w' := by
  have HP := Lib.hid (parse_long s w hs hl)
  have hE := parseE_ne h
  clear hs hl h
  obtain ⟨V, hV⟩ : ∃ V, parseV s.data.toList = V := ⟨_, rfl⟩
  obtain ⟨E, hE'⟩ : ∃ E, parseE s.data.toList = E := ⟨_, rfl⟩
  rw [hV, hE'] at HP
  rw [hE'] at hE
  clear hV hE'
  go_enter Tryz.func46, Tryz.ntmps46
  go_wp2_with fail
  refine HP.out.mono ?_
  rintro e w1 ⟨rfl, hb1⟩
  go_wp2
  exact ⟨rfl, rfl, hb1⟩
def zeroF : Fact := ⟨⟨⟨#[]⟩, ⟨#[]⟩, ⟨#[]⟩, ⟨#[]⟩, 0⟩, 0⟩
/-- What readFact tells of a line. -/
def FactTold (w : World) (s : ByteArray) (e : Ending) (w' : World) : Prop := ((∃ f, readF s = some f ∧ e = .returned (aggF f)) ∨ (readF s = none ∧ e = gaveUp)) ∧ Below w.heap.size w w'
theorem factOf_len {L : List ByteArray} (h : L.length ≠ 6) : factOf L = none := by
  match L, h with
  | [], _ | [_], _ | [_, _], _ | [_, _, _], _ | [_, _, _, _], _ | [_, _, _, _, _], _ => rfl
  | [_, _, _, _, _, _], h => exact absurd rfl h
  | _ :: _ :: _ :: _ :: _ :: _ :: _ :: _, _ => rfl
set_option maxRecDepth 100000 in
set_option maxHeartbeats 4000000 in
theorem readFact_len (s : ByteArray) (w : World) (hs : s.size ≤ 1000000) (h : (pieces s).length ≠ 6) :
    Calls Tryz.prog 34 #[.string s] w fun e w' => e = gaveUp ∧ Below w.heap.size w w' := by
  have HZ : Hid (BoxE encF (w.alloc (.cells #[.string ⟨#[]⟩, .string ⟨#[]⟩, .string ⟨#[]⟩, .string ⟨#[]⟩, .int .i64 0, .int .i64 0] 43)) w.heap.size 43 zeroF) := Lib.hid (BoxE.new encF w zeroF 43)
  have HB0 := Lib.hid ((Below.refl w.heap.size w).alloc (Nat.le_refl _) (.cells #[.string ⟨#[]⟩, .string ⟨#[]⟩, .string ⟨#[]⟩, .string ⟨#[]⟩, .int .i64 0, .int .i64 0] 43))
  have HSN := Lib.hid (splitN_seven s (w.alloc (.cells #[.string ⟨#[]⟩, .string ⟨#[]⟩, .string ⟨#[]⟩, .string ⟨#[]⟩, .int .i64 0, .int .i64 0] 43)) hs)
  have hne : (((pieces s).length : Int) != 6) = true := by simp; omega
  obtain ⟨L, hL⟩ : ∃ L, pieces s = L := ⟨_, rfl⟩
  unfold PiecesAt at HSN
  rw [hL] at HSN hne
  clear hL h hs HZ
  go_enter Tryz.func34, Tryz.ntmps34
  go_wp2_with fail
  refine HSN.out.mono ?_
  rintro e w1 ⟨c, rfl, _, _, _, hb1⟩
  have HB1 := Lib.hid (HB0.out.trans (hb1.mono HB0.out.size))
  clear hb1 HSN
  go_wp2
  exact ⟨rfl, rfl, HB1.out⟩
theorem splitB_size (sep : ByteArray) : ∀ (k : Nat) (s : ByteArray), ∀ x ∈ Lib.splitB sep 0 k s, x.size ≤ s.size
  | 0, s, x, hx => by
    simp only [Lib.splitB, List.mem_singleton] at hx
    rw [hx]; exact Nat.le_refl _
  | k + 1, s, x, hx => by
    unfold Lib.splitB at hx
    split at hx
    · simp only [List.mem_singleton] at hx
      rw [hx]; exact Nat.le_refl _
    · rcases List.mem_cons.1 hx with rfl | hx
      · rw [ByteArray.size_extract]; omega
      · have := splitB_size sep k _ x hx
        rw [ByteArray.size_extract] at this
        omega
theorem pieces_size {s x : ByteArray} (h : x ∈ pieces s) : x.size ≤ s.size := splitB_size _ _ _ _ h
set_option maxRecDepth 100000 in
set_option maxHeartbeats 16000000 in
theorem readFact_six (s a b c d m n : ByteArray) (w : World) (hs : s.size ≤ 1000000) (hl : Laid w) (hp : pieces s = [a, b, c, d, m, n]) :
    Calls Tryz.prog 34 #[.string s] w (FactTold w s) := by
  have HZ : Hid (BoxE encF (w.alloc (.cells #[.string ⟨#[]⟩, .string ⟨#[]⟩, .string ⟨#[]⟩, .string ⟨#[]⟩, .int .i64 0, .int .i64 0] 43)) w.heap.size 43 zeroF) := Lib.hid (BoxE.new encF w zeroF 43)
  have HB0 := Lib.hid ((Below.refl w.heap.size w).alloc (Nat.le_refl _) (.cells #[.string ⟨#[]⟩, .string ⟨#[]⟩, .string ⟨#[]⟩, .string ⟨#[]⟩, .int .i64 0, .int .i64 0] 43))
  have HSN := Lib.hid (splitN_seven s (w.alloc (.cells #[.string ⟨#[]⟩, .string ⟨#[]⟩, .string ⟨#[]⟩, .string ⟨#[]⟩, .int .i64 0, .int .i64 0] 43)) hs)
  have HLW := Lib.hid hl
  have HSM : Hid (m.size ≤ 1000000 ∧ n.size ≤ 1000000) := Lib.hid ⟨Nat.le_trans (pieces_size (by rw [hp]; simp)) hs, Nat.le_trans (pieces_size (by rw [hp]; simp)) hs⟩
  clear hl hs
  by_cases hd : d = ⟨#[45]⟩
  · subst hd
    have hun : unpart ⟨#[45]⟩ = ⟨#[]⟩ := rfl
    have hde : ((⟨#[45]⟩ : ByteArray).toList == [45]) = true := by rw [ByteArray.toList_eq]; rfl
    have HPL : Hid ((pieces s).length = 6) := Lib.hid (by rw [hp]; rfl)
    have HPC : Hid (∀ (W : World) (g : Nat), (∀ i x, (pieces s)[i]? = some x → W.cell? ⟨g, i, none⟩ = some (.string x)) → W.cell? ⟨g, 0, none⟩ = some (.string a) ∧ W.cell? ⟨g, 1, none⟩ = some (.string b) ∧ W.cell? ⟨g, 2, none⟩ = some (.string c) ∧ W.cell? ⟨g, 3, none⟩ = some (.string ⟨#[45]⟩) ∧ W.cell? ⟨g, 4, none⟩ = some (.string m) ∧ W.cell? ⟨g, 5, none⟩ = some (.string n)) := Lib.hid (fun W g h => by
      rw [hp] at h
      exact ⟨h 0 _ rfl, h 1 _ rfl, h 2 _ rfl, h 3 _ rfl, h 4 _ rfl, h 5 _ rfl⟩)
    by_cases hm : parseE m.data.toList = 0
    · by_cases hn : parseE n.data.toList = 0
      · have HRN : Hid (readF s = some ⟨⟨a, b, c, ⟨#[]⟩, parseV m.data.toList⟩, parseV n.data.toList⟩) := Lib.hid (by simp [readF, hp, factOf, factW, hm, hn, hun])
        have HEM := Lib.hid hm
        have HEN := Lib.hid hn
        clear hp hun hm hn
        go_enter Tryz.func34, Tryz.ntmps34
        go_wp2_with fail
        refine HSN.out.mono ?_
        rintro e w2 ⟨cc, rfl, hlc, hc7, hcs, hb2⟩
        rw [HPL.out]
        have HB2 := Lib.hid (HB0.out.trans (hb2.mono HB0.out.size))
        have HZ2 := Lib.hid (HZ.out.kept hb2)
        have HL2 := Lib.hid (HLW.out.below HB2.out)
        obtain ⟨k0, k1, k2, k3, k4, k5⟩ := HPC.out _ _ hcs
        rw [World.size_alloc] at k0 k1 k2 k3 k4 k5
        obtain ⟨wq, hwq⟩ : ∃ wq, w2.drew = wq := ⟨_, rfl⟩
        have HBQ : Hid (Below w.heap.size w wq) := Lib.hid (by rw [← hwq]; exact HB2.out.trans ⟨rfl, rfl, rfl, Nat.le_refl _, fun _ _ => rfl⟩)
        have HSQ : Hid (w2.grownBy wq (some w.heap.size)) := Lib.hid (by rw [← hwq]; exact drew_grown w2 _)
        have HZQ : Hid (BoxE encF wq w.heap.size 43 zeroF) := Lib.hid (by rw [← hwq]; exact HZ2.out)
        have HLQ : Hid (Laid wq) := Lib.hid (by rw [← hwq]; exact HL2.out.below ⟨rfl, rfl, rfl, Nat.le_refl _, fun _ _ => rfl⟩)
        have q0 := fun p : But w.heap.size w2 => cell_but k0 (Nat.succ_ne_self _) p
        have q1 := fun p : But w.heap.size w2 => cell_but k1 (Nat.succ_ne_self _) p
        have q2 := fun p : But w.heap.size w2 => cell_but k2 (Nat.succ_ne_self _) p
        have q3 := fun p : But w.heap.size w2 => cell_but k3 (Nat.succ_ne_self _) p
        have q4 := fun p : But w.heap.size w2 => cell_but k4 (Nat.succ_ne_self _) p
        have q5 := fun p : But w.heap.size w2 => cell_but k5 (Nat.succ_ne_self _) p
        clear hcs hb2 hlc hc7
        go_wp2_with fail
        refine wp_region_plan_if (S := fun w' => ∃ p : But w.heap.size w2, w' = p.to) (.one [0, 1, 2, 3, 4, 5, 6, 7, 8, 9, 10, 11, 12, 15, 16, 17] 13 (.one [14] 18 (.one [19] 20 (.last [])))) (by kernel_rfl) (by kernel_rfl) (fun d _ _ _ _ h => by cases d <;> exact h) ⟨⟨w2.drew, drew_grown w2 _⟩, rfl⟩ ?_
        rw [hwq]
        clear hwq
        simp only [wpPlan, pick, nth]
        repeat (go_big_quiet_step (fail))
        refine wpQuiet_nil ?_
        intro K hK
        refine alone_want (by kernel_rfl) ?_
        go_big_op
        clear k0 k1 k2 k3 k4 k5 q0 q1 q2 q3 q4 q5
        refine (number_ok m _ HSM.out.1 HLQ.out HEM.out).mono ?_
        rintro en w3 ⟨rfl, hb3⟩
        have HB3 := Lib.hid (HBQ.out.trans (hb3.mono HBQ.out.size))
        have HZ3 := Lib.hid (HZQ.out.kept hb3)
        have HL3 := Lib.hid (HLQ.out.below hb3)
        have HS3 := Lib.hid (HSQ.out.trans (grown_of hb3 _))
        clear hb3
        refine hK _ _ (but_in HS3.out) ?_
        clear hK K
        repeat (go_big_quiet_step (fail))
        refine wpQuiet_nil ?_
        intro K hK
        refine alone_want (by kernel_rfl) ?_
        go_big_op
        refine (number_ok n _ HSM.out.2 HL3.out HEN.out).mono ?_
        rintro en w4 ⟨rfl, hb4⟩
        have HB4 := Lib.hid (HB3.out.trans (hb4.mono HB3.out.size))
        have HZ4 := Lib.hid (HZ3.out.kept hb4)
        have HS4 := Lib.hid (HS3.out.trans (grown_of hb4 _))
        clear hb4
        refine hK _ _ (but_in HS4.out) ?_
        clear hK K
        repeat (go_big_quiet_step (fail))
        refine wpQuiet_nil ?_
        intro K hK
        refine alone_want (by kernel_rfl) ?_
        refine wp_store_box (E := encF) 43 _ _ rfl w.heap.size 43 zeroF ⟨⟨a, b, c, ⟨#[]⟩, parseV m.data.toList⟩, parseV n.data.toList⟩ rfl rfl HZ4.out (by kernel_rfl) ?_
        intro w5 hat5 hg5
        have HB5 := Lib.hid (HB4.out.grown hg5 HB4.out.size (fun k e => by cases e; exact Nat.le_refl _))
        have HS5 := Lib.hid (HS4.out.trans hg5)
        have HAT := Lib.hid hat5
        clear hat5 hg5
        refine hK _ _ (but_in HS5.out) ?_
        clear hK K
        simp only [Act.put]
        refine wpQuiet_nil ?_
        go_wp2
        obtain ⟨d0, d1, d2, d3, d4, d5⟩ := fact6 HAT.out
        simp only [Nat.zero_add] at d0 d1 d2 d3 d4 d5
        exact bodyPost_ret (v := aggF ⟨⟨a, b, c, ⟨#[]⟩, parseV m.data.toList⟩, parseV n.data.toList⟩) (by simp [results, Tryz.results34, go_sem, d0, d1, d2, d3, d4, d5]) rfl ⟨.inl ⟨_, HRN.out, rfl⟩, HB5.out⟩
      · have HRN : Hid (readF s = none) := Lib.hid (by simp [readF, hp, factOf, factW, hn])
        have HEM := Lib.hid hm
        have HEN := Lib.hid hn
        clear hp hun hm hn
        go_enter Tryz.func34, Tryz.ntmps34
        go_wp2_with fail
        refine HSN.out.mono ?_
        rintro e w2 ⟨cc, rfl, hlc, hc7, hcs, hb2⟩
        rw [HPL.out]
        have HB2 := Lib.hid (HB0.out.trans (hb2.mono HB0.out.size))
        have HZ2 := Lib.hid (HZ.out.kept hb2)
        have HL2 := Lib.hid (HLW.out.below HB2.out)
        obtain ⟨k0, k1, k2, k3, k4, k5⟩ := HPC.out _ _ hcs
        rw [World.size_alloc] at k0 k1 k2 k3 k4 k5
        obtain ⟨wq, hwq⟩ : ∃ wq, w2.drew = wq := ⟨_, rfl⟩
        have HBQ : Hid (Below w.heap.size w wq) := Lib.hid (by rw [← hwq]; exact HB2.out.trans ⟨rfl, rfl, rfl, Nat.le_refl _, fun _ _ => rfl⟩)
        have HSQ : Hid (w2.grownBy wq (some w.heap.size)) := Lib.hid (by rw [← hwq]; exact drew_grown w2 _)
        have HZQ : Hid (BoxE encF wq w.heap.size 43 zeroF) := Lib.hid (by rw [← hwq]; exact HZ2.out)
        have HLQ : Hid (Laid wq) := Lib.hid (by rw [← hwq]; exact HL2.out.below ⟨rfl, rfl, rfl, Nat.le_refl _, fun _ _ => rfl⟩)
        have q0 := fun p : But w.heap.size w2 => cell_but k0 (Nat.succ_ne_self _) p
        have q1 := fun p : But w.heap.size w2 => cell_but k1 (Nat.succ_ne_self _) p
        have q2 := fun p : But w.heap.size w2 => cell_but k2 (Nat.succ_ne_self _) p
        have q3 := fun p : But w.heap.size w2 => cell_but k3 (Nat.succ_ne_self _) p
        have q4 := fun p : But w.heap.size w2 => cell_but k4 (Nat.succ_ne_self _) p
        have q5 := fun p : But w.heap.size w2 => cell_but k5 (Nat.succ_ne_self _) p
        clear hcs hb2 hlc hc7
        go_wp2_with fail
        refine wp_region_plan_if (S := fun w' => ∃ p : But w.heap.size w2, w' = p.to) (.one [0, 1, 2, 3, 4, 5, 6, 7, 8, 9, 10, 11, 12, 15, 16, 17] 13 (.one [14] 18 (.one [19] 20 (.last [])))) (by kernel_rfl) (by kernel_rfl) (fun d _ _ _ _ h => by cases d <;> exact h) ⟨⟨w2.drew, drew_grown w2 _⟩, rfl⟩ ?_
        rw [hwq]
        clear hwq
        simp only [wpPlan, pick, nth]
        repeat (go_big_quiet_step (fail))
        refine wpQuiet_nil ?_
        intro K hK
        refine alone_want (by kernel_rfl) ?_
        go_big_op
        clear k0 k1 k2 k3 k4 k5 q0 q1 q2 q3 q4 q5
        refine (number_ok m _ HSM.out.1 HLQ.out HEM.out).mono ?_
        rintro en w3 ⟨rfl, hb3⟩
        have HB3 := Lib.hid (HBQ.out.trans (hb3.mono HBQ.out.size))
        have HZ3 := Lib.hid (HZQ.out.kept hb3)
        have HL3 := Lib.hid (HLQ.out.below hb3)
        have HS3 := Lib.hid (HSQ.out.trans (grown_of hb3 _))
        clear hb3
        refine hK _ _ (but_in HS3.out) ?_
        clear hK K
        repeat (go_big_quiet_step (fail))
        refine wpQuiet_nil ?_
        intro K hK
        refine alone_want (by kernel_rfl) ?_
        go_big_op
        refine (number_bad n _ HSM.out.2 HL3.out HEN.out).mono ?_
        rintro en w4 ⟨rfl, hb4⟩
        exact ⟨rfl, .inr ⟨HRN.out, rfl⟩, HB3.out.trans (hb4.mono HB3.out.size)⟩
    · have HRN : Hid (readF s = none) := Lib.hid (by simp [readF, hp, factOf, factW, hm])
      have HEM := Lib.hid hm
      clear hp hun hm
      go_enter Tryz.func34, Tryz.ntmps34
      go_wp2_with fail
      refine HSN.out.mono ?_
      rintro e w2 ⟨cc, rfl, hlc, hc7, hcs, hb2⟩
      rw [HPL.out]
      have HB2 := Lib.hid (HB0.out.trans (hb2.mono HB0.out.size))
      have HZ2 := Lib.hid (HZ.out.kept hb2)
      have HL2 := Lib.hid (HLW.out.below HB2.out)
      obtain ⟨k0, k1, k2, k3, k4, k5⟩ := HPC.out _ _ hcs
      rw [World.size_alloc] at k0 k1 k2 k3 k4 k5
      obtain ⟨wq, hwq⟩ : ∃ wq, w2.drew = wq := ⟨_, rfl⟩
      have HBQ : Hid (Below w.heap.size w wq) := Lib.hid (by rw [← hwq]; exact HB2.out.trans ⟨rfl, rfl, rfl, Nat.le_refl _, fun _ _ => rfl⟩)
      have HSQ : Hid (w2.grownBy wq (some w.heap.size)) := Lib.hid (by rw [← hwq]; exact drew_grown w2 _)
      have HZQ : Hid (BoxE encF wq w.heap.size 43 zeroF) := Lib.hid (by rw [← hwq]; exact HZ2.out)
      have HLQ : Hid (Laid wq) := Lib.hid (by rw [← hwq]; exact HL2.out.below ⟨rfl, rfl, rfl, Nat.le_refl _, fun _ _ => rfl⟩)
      have q0 := fun p : But w.heap.size w2 => cell_but k0 (Nat.succ_ne_self _) p
      have q1 := fun p : But w.heap.size w2 => cell_but k1 (Nat.succ_ne_self _) p
      have q2 := fun p : But w.heap.size w2 => cell_but k2 (Nat.succ_ne_self _) p
      have q3 := fun p : But w.heap.size w2 => cell_but k3 (Nat.succ_ne_self _) p
      have q4 := fun p : But w.heap.size w2 => cell_but k4 (Nat.succ_ne_self _) p
      have q5 := fun p : But w.heap.size w2 => cell_but k5 (Nat.succ_ne_self _) p
      clear hcs hb2 hlc hc7
      go_wp2_with fail
      refine wp_region_plan_if (S := fun w' => ∃ p : But w.heap.size w2, w' = p.to) (.one [0, 1, 2, 3, 4, 5, 6, 7, 8, 9, 10, 11, 12, 15, 16, 17] 13 (.one [14] 18 (.one [19] 20 (.last [])))) (by kernel_rfl) (by kernel_rfl) (fun d _ _ _ _ h => by cases d <;> exact h) ⟨⟨w2.drew, drew_grown w2 _⟩, rfl⟩ ?_
      rw [hwq]
      clear hwq
      simp only [wpPlan, pick, nth]
      repeat (go_big_quiet_step (fail))
      refine wpQuiet_nil ?_
      intro K hK
      refine alone_want (by kernel_rfl) ?_
      go_big_op
      clear k0 k1 k2 k3 k4 k5 q0 q1 q2 q3 q4 q5
      refine (number_bad m _ HSM.out.1 HLQ.out HEM.out).mono ?_
      rintro en w3 ⟨rfl, hb3⟩
      exact ⟨rfl, .inr ⟨HRN.out, rfl⟩, HBQ.out.trans (hb3.mono HBQ.out.size)⟩
  · have hun : unpart d = d := if_neg hd
    have hde : (d.toList == [45]) = false := by
      rw [beq_eq_false_iff_ne]
      exact fun e => hd (toList_inj (e.trans (ByteArray.toList_eq ⟨#[45]⟩).symm))
    clear hd
    have HPL : Hid ((pieces s).length = 6) := Lib.hid (by rw [hp]; rfl)
    have HPC : Hid (∀ (W : World) (g : Nat), (∀ i x, (pieces s)[i]? = some x → W.cell? ⟨g, i, none⟩ = some (.string x)) → W.cell? ⟨g, 0, none⟩ = some (.string a) ∧ W.cell? ⟨g, 1, none⟩ = some (.string b) ∧ W.cell? ⟨g, 2, none⟩ = some (.string c) ∧ W.cell? ⟨g, 3, none⟩ = some (.string d) ∧ W.cell? ⟨g, 4, none⟩ = some (.string m) ∧ W.cell? ⟨g, 5, none⟩ = some (.string n)) := Lib.hid (fun W g h => by
      rw [hp] at h
      exact ⟨h 0 _ rfl, h 1 _ rfl, h 2 _ rfl, h 3 _ rfl, h 4 _ rfl, h 5 _ rfl⟩)
    by_cases hm : parseE m.data.toList = 0
    · by_cases hn : parseE n.data.toList = 0
      · have HRN : Hid (readF s = some ⟨⟨a, b, c, d, parseV m.data.toList⟩, parseV n.data.toList⟩) := Lib.hid (by simp [readF, hp, factOf, factW, hm, hn, hun])
        have HEM := Lib.hid hm
        have HEN := Lib.hid hn
        clear hp hun hm hn
        go_enter Tryz.func34, Tryz.ntmps34
        go_wp2_with fail
        refine HSN.out.mono ?_
        rintro e w2 ⟨cc, rfl, hlc, hc7, hcs, hb2⟩
        rw [HPL.out]
        have HB2 := Lib.hid (HB0.out.trans (hb2.mono HB0.out.size))
        have HZ2 := Lib.hid (HZ.out.kept hb2)
        have HL2 := Lib.hid (HLW.out.below HB2.out)
        obtain ⟨k0, k1, k2, k3, k4, k5⟩ := HPC.out _ _ hcs
        rw [World.size_alloc] at k0 k1 k2 k3 k4 k5
        obtain ⟨wq, hwq⟩ : ∃ wq, w2.drew = wq := ⟨_, rfl⟩
        have HBQ : Hid (Below w.heap.size w wq) := Lib.hid (by rw [← hwq]; exact HB2.out.trans ⟨rfl, rfl, rfl, Nat.le_refl _, fun _ _ => rfl⟩)
        have HSQ : Hid (w2.grownBy wq (some w.heap.size)) := Lib.hid (by rw [← hwq]; exact drew_grown w2 _)
        have HZQ : Hid (BoxE encF wq w.heap.size 43 zeroF) := Lib.hid (by rw [← hwq]; exact HZ2.out)
        have HLQ : Hid (Laid wq) := Lib.hid (by rw [← hwq]; exact HL2.out.below ⟨rfl, rfl, rfl, Nat.le_refl _, fun _ _ => rfl⟩)
        have q0 := fun p : But w.heap.size w2 => cell_but k0 (Nat.succ_ne_self _) p
        have q1 := fun p : But w.heap.size w2 => cell_but k1 (Nat.succ_ne_self _) p
        have q2 := fun p : But w.heap.size w2 => cell_but k2 (Nat.succ_ne_self _) p
        have q3 := fun p : But w.heap.size w2 => cell_but k3 (Nat.succ_ne_self _) p
        have q4 := fun p : But w.heap.size w2 => cell_but k4 (Nat.succ_ne_self _) p
        have q5 := fun p : But w.heap.size w2 => cell_but k5 (Nat.succ_ne_self _) p
        clear hcs hb2 hlc hc7
        go_wp2_with fail
        refine wp_region_plan_if (S := fun w' => ∃ p : But w.heap.size w2, w' = p.to) (.one [0, 1, 2, 3, 4, 5, 6, 7, 8, 9, 10, 11, 12, 15, 16, 17] 13 (.one [14] 18 (.one [19] 20 (.last [])))) (by kernel_rfl) (by kernel_rfl) (fun d _ _ _ _ h => by cases d <;> exact h) ⟨⟨w2.drew, drew_grown w2 _⟩, rfl⟩ ?_
        rw [hwq]
        clear hwq
        simp only [wpPlan, pick, nth]
        repeat (go_big_quiet_step (fail))
        refine wpQuiet_nil ?_
        intro K hK
        refine alone_want (by kernel_rfl) ?_
        go_big_op
        clear k0 k1 k2 k3 k4 k5 q0 q1 q2 q3 q4 q5
        refine (number_ok m _ HSM.out.1 HLQ.out HEM.out).mono ?_
        rintro en w3 ⟨rfl, hb3⟩
        have HB3 := Lib.hid (HBQ.out.trans (hb3.mono HBQ.out.size))
        have HZ3 := Lib.hid (HZQ.out.kept hb3)
        have HL3 := Lib.hid (HLQ.out.below hb3)
        have HS3 := Lib.hid (HSQ.out.trans (grown_of hb3 _))
        clear hb3
        refine hK _ _ (but_in HS3.out) ?_
        clear hK K
        repeat (go_big_quiet_step (fail))
        refine wpQuiet_nil ?_
        intro K hK
        refine alone_want (by kernel_rfl) ?_
        go_big_op
        refine (number_ok n _ HSM.out.2 HL3.out HEN.out).mono ?_
        rintro en w4 ⟨rfl, hb4⟩
        have HB4 := Lib.hid (HB3.out.trans (hb4.mono HB3.out.size))
        have HZ4 := Lib.hid (HZ3.out.kept hb4)
        have HS4 := Lib.hid (HS3.out.trans (grown_of hb4 _))
        clear hb4
        refine hK _ _ (but_in HS4.out) ?_
        clear hK K
        repeat (go_big_quiet_step (fail))
        refine wpQuiet_nil ?_
        intro K hK
        refine alone_want (by kernel_rfl) ?_
        refine wp_store_box (E := encF) 43 _ _ rfl w.heap.size 43 zeroF ⟨⟨a, b, c, d, parseV m.data.toList⟩, parseV n.data.toList⟩ rfl rfl HZ4.out (by kernel_rfl) ?_
        intro w5 hat5 hg5
        have HB5 := Lib.hid (HB4.out.grown hg5 HB4.out.size (fun k e => by cases e; exact Nat.le_refl _))
        have HS5 := Lib.hid (HS4.out.trans hg5)
        have HAT := Lib.hid hat5
        clear hat5 hg5
        refine hK _ _ (but_in HS5.out) ?_
        clear hK K
        simp only [Act.put]
        refine wpQuiet_nil ?_
        go_wp2
        obtain ⟨d0, d1, d2, d3, d4, d5⟩ := fact6 HAT.out
        simp only [Nat.zero_add] at d0 d1 d2 d3 d4 d5
        exact bodyPost_ret (v := aggF ⟨⟨a, b, c, d, parseV m.data.toList⟩, parseV n.data.toList⟩) (by simp [results, Tryz.results34, go_sem, d0, d1, d2, d3, d4, d5]) rfl ⟨.inl ⟨_, HRN.out, rfl⟩, HB5.out⟩
      · have HRN : Hid (readF s = none) := Lib.hid (by simp [readF, hp, factOf, factW, hn])
        have HEM := Lib.hid hm
        have HEN := Lib.hid hn
        clear hp hun hm hn
        go_enter Tryz.func34, Tryz.ntmps34
        go_wp2_with fail
        refine HSN.out.mono ?_
        rintro e w2 ⟨cc, rfl, hlc, hc7, hcs, hb2⟩
        rw [HPL.out]
        have HB2 := Lib.hid (HB0.out.trans (hb2.mono HB0.out.size))
        have HZ2 := Lib.hid (HZ.out.kept hb2)
        have HL2 := Lib.hid (HLW.out.below HB2.out)
        obtain ⟨k0, k1, k2, k3, k4, k5⟩ := HPC.out _ _ hcs
        rw [World.size_alloc] at k0 k1 k2 k3 k4 k5
        obtain ⟨wq, hwq⟩ : ∃ wq, w2.drew = wq := ⟨_, rfl⟩
        have HBQ : Hid (Below w.heap.size w wq) := Lib.hid (by rw [← hwq]; exact HB2.out.trans ⟨rfl, rfl, rfl, Nat.le_refl _, fun _ _ => rfl⟩)
        have HSQ : Hid (w2.grownBy wq (some w.heap.size)) := Lib.hid (by rw [← hwq]; exact drew_grown w2 _)
        have HZQ : Hid (BoxE encF wq w.heap.size 43 zeroF) := Lib.hid (by rw [← hwq]; exact HZ2.out)
        have HLQ : Hid (Laid wq) := Lib.hid (by rw [← hwq]; exact HL2.out.below ⟨rfl, rfl, rfl, Nat.le_refl _, fun _ _ => rfl⟩)
        have q0 := fun p : But w.heap.size w2 => cell_but k0 (Nat.succ_ne_self _) p
        have q1 := fun p : But w.heap.size w2 => cell_but k1 (Nat.succ_ne_self _) p
        have q2 := fun p : But w.heap.size w2 => cell_but k2 (Nat.succ_ne_self _) p
        have q3 := fun p : But w.heap.size w2 => cell_but k3 (Nat.succ_ne_self _) p
        have q4 := fun p : But w.heap.size w2 => cell_but k4 (Nat.succ_ne_self _) p
        have q5 := fun p : But w.heap.size w2 => cell_but k5 (Nat.succ_ne_self _) p
        clear hcs hb2 hlc hc7
        go_wp2_with fail
        refine wp_region_plan_if (S := fun w' => ∃ p : But w.heap.size w2, w' = p.to) (.one [0, 1, 2, 3, 4, 5, 6, 7, 8, 9, 10, 11, 12, 15, 16, 17] 13 (.one [14] 18 (.one [19] 20 (.last [])))) (by kernel_rfl) (by kernel_rfl) (fun d _ _ _ _ h => by cases d <;> exact h) ⟨⟨w2.drew, drew_grown w2 _⟩, rfl⟩ ?_
        rw [hwq]
        clear hwq
        simp only [wpPlan, pick, nth]
        repeat (go_big_quiet_step (fail))
        refine wpQuiet_nil ?_
        intro K hK
        refine alone_want (by kernel_rfl) ?_
        go_big_op
        clear k0 k1 k2 k3 k4 k5 q0 q1 q2 q3 q4 q5
        refine (number_ok m _ HSM.out.1 HLQ.out HEM.out).mono ?_
        rintro en w3 ⟨rfl, hb3⟩
        have HB3 := Lib.hid (HBQ.out.trans (hb3.mono HBQ.out.size))
        have HZ3 := Lib.hid (HZQ.out.kept hb3)
        have HL3 := Lib.hid (HLQ.out.below hb3)
        have HS3 := Lib.hid (HSQ.out.trans (grown_of hb3 _))
        clear hb3
        refine hK _ _ (but_in HS3.out) ?_
        clear hK K
        repeat (go_big_quiet_step (fail))
        refine wpQuiet_nil ?_
        intro K hK
        refine alone_want (by kernel_rfl) ?_
        go_big_op
        refine (number_bad n _ HSM.out.2 HL3.out HEN.out).mono ?_
        rintro en w4 ⟨rfl, hb4⟩
        exact ⟨rfl, .inr ⟨HRN.out, rfl⟩, HB3.out.trans (hb4.mono HB3.out.size)⟩
    · have HRN : Hid (readF s = none) := Lib.hid (by simp [readF, hp, factOf, factW, hm])
      have HEM := Lib.hid hm
      clear hp hun hm
      go_enter Tryz.func34, Tryz.ntmps34
      go_wp2_with fail
      refine HSN.out.mono ?_
      rintro e w2 ⟨cc, rfl, hlc, hc7, hcs, hb2⟩
      rw [HPL.out]
      have HB2 := Lib.hid (HB0.out.trans (hb2.mono HB0.out.size))
      have HZ2 := Lib.hid (HZ.out.kept hb2)
      have HL2 := Lib.hid (HLW.out.below HB2.out)
      obtain ⟨k0, k1, k2, k3, k4, k5⟩ := HPC.out _ _ hcs
      rw [World.size_alloc] at k0 k1 k2 k3 k4 k5
      obtain ⟨wq, hwq⟩ : ∃ wq, w2.drew = wq := ⟨_, rfl⟩
      have HBQ : Hid (Below w.heap.size w wq) := Lib.hid (by rw [← hwq]; exact HB2.out.trans ⟨rfl, rfl, rfl, Nat.le_refl _, fun _ _ => rfl⟩)
      have HSQ : Hid (w2.grownBy wq (some w.heap.size)) := Lib.hid (by rw [← hwq]; exact drew_grown w2 _)
      have HZQ : Hid (BoxE encF wq w.heap.size 43 zeroF) := Lib.hid (by rw [← hwq]; exact HZ2.out)
      have HLQ : Hid (Laid wq) := Lib.hid (by rw [← hwq]; exact HL2.out.below ⟨rfl, rfl, rfl, Nat.le_refl _, fun _ _ => rfl⟩)
      have q0 := fun p : But w.heap.size w2 => cell_but k0 (Nat.succ_ne_self _) p
      have q1 := fun p : But w.heap.size w2 => cell_but k1 (Nat.succ_ne_self _) p
      have q2 := fun p : But w.heap.size w2 => cell_but k2 (Nat.succ_ne_self _) p
      have q3 := fun p : But w.heap.size w2 => cell_but k3 (Nat.succ_ne_self _) p
      have q4 := fun p : But w.heap.size w2 => cell_but k4 (Nat.succ_ne_self _) p
      have q5 := fun p : But w.heap.size w2 => cell_but k5 (Nat.succ_ne_self _) p
      clear hcs hb2 hlc hc7
      go_wp2_with fail
      refine wp_region_plan_if (S := fun w' => ∃ p : But w.heap.size w2, w' = p.to) (.one [0, 1, 2, 3, 4, 5, 6, 7, 8, 9, 10, 11, 12, 15, 16, 17] 13 (.one [14] 18 (.one [19] 20 (.last [])))) (by kernel_rfl) (by kernel_rfl) (fun d _ _ _ _ h => by cases d <;> exact h) ⟨⟨w2.drew, drew_grown w2 _⟩, rfl⟩ ?_
      rw [hwq]
      clear hwq
      simp only [wpPlan, pick, nth]
      repeat (go_big_quiet_step (fail))
      refine wpQuiet_nil ?_
      intro K hK
      refine alone_want (by kernel_rfl) ?_
      go_big_op
      clear k0 k1 k2 k3 k4 k5 q0 q1 q2 q3 q4 q5
      refine (number_bad m _ HSM.out.1 HLQ.out HEM.out).mono ?_
      rintro en w3 ⟨rfl, hb3⟩
      exact ⟨rfl, .inr ⟨HRN.out, rfl⟩, HBQ.out.trans (hb3.mono HBQ.out.size)⟩
end Go.Proofs.YtdnneognilffaaaGreatDoor.Cd
