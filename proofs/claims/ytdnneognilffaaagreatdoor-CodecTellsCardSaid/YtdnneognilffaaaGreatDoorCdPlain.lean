
/- The plain facts of layer codec: the text of a cube, how the program and the document read a text, and that a cube comes back from its text. No walk in it. -/
import Derived.Test.YtdnneognilffaaaGreatDoorFaRight
import Derived.Test.YtdnneognilffaaaGreatDoorCentNum
import Derived.Test.YtdnneognilffaaaGreatDoorLexBytes
import Derived.Test.YtdnneognilffaaaGreatDoorLexJoin
import Derived.Lib.SplitLaws
namespace Go.Proofs.YtdnneognilffaaaGreatDoor.Cd
open Go.Proofs.YtdnneognilffaaaGreatDoor.Fa

/-! ### The text of a cube -/
def nameB (s : ByteArray) : Bool := nameL s.data.toList
/-- Has a key names? -/
def named (k : Key) : Bool := nameB k.e && nameB k.a && nameB k.f && (decide (k.p = ⟨#[]⟩) || nameB k.p)
def marked (k : Key) : Bool := decide (0 ≤ k.m) && decide (k.m ≤ 4)
def keyOk (k : Key) : Bool := named k && marked k
/-- May facts be printed? -/
def okC (c : List Fact) : Bool := rightL c && c.all fun f => keyOk f.key
def partB (p : ByteArray) : ByteArray := if p = ⟨#[]⟩ then ⟨#[45]⟩ else p
def numB (n : Int) : ByteArray := ⟨(Lib.itoa n).toArray⟩
def wordsF (f : Fact) : List ByteArray := [f.key.e, f.key.a, f.key.f, partB f.key.p, numB f.key.m, numB f.amt]
def headB : ByteArray := ⟨#[99, 117, 98, 101]⟩
def linesC (c : List Fact) : List (Int × List ByteArray) := (0, [headB, numB (c.length : Int)]) :: c.map fun f => (0, wordsF f)
def textL (c : List Fact) : List UInt8 := joinL (linesC c)
/-- The line of a fact, and the first line. -/
def factL (f : Fact) : List UInt8 := lineL (wordsF f)
def firstL (n : Nat) : List UInt8 := [99, 117, 98, 101, 32] ++ Lib.itoa (n : Int)
def rowsL (c : List Fact) : List UInt8 := c.flatMap fun f => factL f ++ [10]
theorem rowsL_cons (f : Fact) (c : List Fact) : rowsL (f :: c) = factL f ++ 10 :: rowsL c := by simp [rowsL]
theorem rowsL_append (a b : List Fact) : rowsL (a ++ b) = rowsL a ++ rowsL b := by simp [rowsL]
theorem numB_list (n : Int) : (numB n).data.toList = Lib.itoa n := by simp [numB]
theorem textL_eq (c : List Fact) : textL c = firstL c.length ++ 10 :: rowsL c := by
  unfold textL linesC joinL rowsL factL firstL
  rw [List.flatMap_cons, List.flatMap_map]
  simp [lineL, Lib.join, List.intercalate, numB_list, headB]
theorem factL_eq (f : Fact) : factL f = f.key.e.data.toList ++ 32 :: (f.key.a.data.toList ++ 32 :: (f.key.f.data.toList ++ 32 :: ((partB f.key.p).data.toList ++ 32 :: (Lib.itoa f.key.m ++ 32 :: Lib.itoa f.amt)))) := by
  simp [factL, lineL, wordsF, Lib.join, List.intercalate, numB_list]

/-! ### Bytes of words -/
/-- May a word have this byte? -/
def wordC (c : UInt8) : Bool := inB c.toNat
theorem wordC_no {c : UInt8} (h : wordC c = true) : c ≠ 10 ∧ c ≠ 32 ∧ c ≠ 9 ∧ c ≠ 35 := by
  refine ⟨?_, ?_, ?_, ?_⟩ <;> (rintro rfl; revert h; decide)
theorem dig_word {c : UInt8} (h : dig c = true) : wordC c = true := by
  have := (dig_iff c).1 h
  unfold wordC inB
  rw [decide_eq_true_eq]; omega
theorem itoa_word (n : Int) : (Lib.itoa n).all wordC = true := by
  have hd : ∀ u, (Lib.decDigits u).all wordC = true := fun u => by
    have := digs_dec u
    unfold digs at this
    rw [List.all_eq_true] at this ⊢
    exact fun x hx => dig_word (this x hx)
  unfold Lib.itoa
  split
  · rw [List.all_cons, hd]; rfl
  · exact hd _
theorem name_word {s : ByteArray} (h : nameB s = true) : s.data.toList.all wordC = true ∧ s.data.toList ≠ [] ∧ s.data.toList ≠ [45] ∧ s.size ≤ 12 := by
  unfold nameB nameL at h
  simp only [Bool.and_eq_true, decide_eq_true_eq] at h
  refine ⟨h.2, fun e => ?_, fun e => ?_, ?_⟩
  · rw [e] at h; simp at h
  · rw [e] at h; exact absurd h.1.2 (by decide)
  · rw [← size_list]; exact h.1.1.2
theorem part_word {p : ByteArray} (h : (decide (p = ⟨#[]⟩) || nameB p) = true) : (partB p).data.toList.all wordC = true ∧ (partB p).data.toList ≠ [] ∧ (partB p).size ≤ 12 := by
  unfold partB
  split
  · exact ⟨by decide, by decide, by decide⟩
  · rename_i hp
    rw [decide_eq_false hp, Bool.false_or] at h
    have := name_word h
    exact ⟨this.1, this.2.1, this.2.2.2⟩
/-- What a key that may be printed has. -/
theorem key_words {k : Key} (h : keyOk k = true) : nameB k.e = true ∧ nameB k.a = true ∧ nameB k.f = true ∧ (decide (k.p = ⟨#[]⟩) || nameB k.p) = true ∧ 0 ≤ k.m ∧ k.m ≤ 4 := by
  unfold keyOk named marked at h
  simp only [Bool.and_eq_true, decide_eq_true_eq] at h
  exact ⟨h.1.1.1.1, h.1.1.1.2, h.1.1.2, h.1.2, h.2.1, h.2.2⟩
theorem words_fact {f : Fact} (h : keyOk f.key = true) : ∀ x ∈ wordsF f, x.data.toList.all wordC = true ∧ x.data.toList ≠ [] := by
  obtain ⟨h1, h2, h3, h4, _, _⟩ := key_words h
  intro x hx
  simp only [wordsF, List.mem_cons, List.not_mem_nil, or_false] at hx
  rcases hx with rfl | rfl | rfl | rfl | rfl | rfl
  · exact ⟨(name_word h1).1, (name_word h1).2.1⟩
  · exact ⟨(name_word h2).1, (name_word h2).2.1⟩
  · exact ⟨(name_word h3).1, (name_word h3).2.1⟩
  · exact ⟨(part_word h4).1, (part_word h4).2.1⟩
  · exact ⟨by rw [numB_list]; exact itoa_word _, by rw [numB_list]; exact itoa_ne_nil _⟩
  · exact ⟨by rw [numB_list]; exact itoa_word _, by rw [numB_list]; exact itoa_ne_nil _⟩
theorem no_of_word {l : List UInt8} (h : l.all wordC = true) : 10 ∉ l ∧ 32 ∉ l ∧ 35 ∉ l := by
  rw [List.all_eq_true] at h
  exact ⟨fun m => (wordC_no (h _ m)).1 rfl, fun m => (wordC_no (h _ m)).2.1 rfl, fun m => (wordC_no (h _ m)).2.2.2 rfl⟩
theorem no_in_fact {f : Fact} (h : keyOk f.key = true) : 10 ∉ factL f ∧ 35 ∉ factL f := by
  obtain ⟨h1, h2, h3, h4, _, _⟩ := key_words h
  have a := no_of_word (name_word h1).1
  have b := no_of_word (name_word h2).1
  have c := no_of_word (name_word h3).1
  have d := no_of_word (part_word h4).1
  have i := no_of_word (itoa_word f.key.m)
  have j := no_of_word (itoa_word f.amt)
  rw [factL_eq]
  simp only [List.mem_append, List.mem_cons]
  refine ⟨?_, ?_⟩
  · rintro (h | h | h | h | h | h | h | h | h | h | h) <;> first | exact absurd h (by decide) | exact a.1 h | exact b.1 h | exact c.1 h | exact d.1 h | exact i.1 h | exact j.1 h
  · rintro (h | h | h | h | h | h | h | h | h | h | h) <;> first | exact absurd h (by decide) | exact a.2.2 h | exact b.2.2 h | exact c.2.2 h | exact d.2.2 h | exact i.2.2 h | exact j.2.2 h

/-! ### How the program reads a line -/
def pieces (l : ByteArray) : List ByteArray := Lib.splitB ⟨#[32]⟩ 0 (min 7 (l.size + 1) - 1) l
def unpart (p : ByteArray) : ByteArray := if p = ⟨#[45]⟩ then ⟨#[]⟩ else p
/-- The fact of six words. -/
def factW (e a f p m n : ByteArray) : Option Fact := if parseE m.data.toList = 0 ∧ parseE n.data.toList = 0 then some ⟨⟨e, a, f, unpart p, parseV m.data.toList⟩, parseV n.data.toList⟩ else none
def factOf : List ByteArray → Option Fact
  | [e, a, f, p, m, n] => factW e a f p m n
  | _ => none
def readF (l : ByteArray) : Option Fact := factOf (pieces l)
theorem unpart_part {p : ByteArray} (h : (decide (p = ⟨#[]⟩) || nameB p) = true) : unpart (partB p) = p := by
  unfold unpart partB
  by_cases hp : p = ⟨#[]⟩
  · subst hp; rfl
  · rw [if_neg hp, if_neg]
    rintro rfl
    rw [decide_eq_false hp, Bool.false_or] at h
    exact (name_word h).2.2.1 rfl
theorem factW_back {f : Fact} (h : keyOk f.key = true) (hf : fit f.amt = true) : factW f.key.e f.key.a f.key.f (partB f.key.p) (numB f.key.m) (numB f.amt) = some f := by
  obtain ⟨_, _, _, h4, h5, h6⟩ := key_words h
  have hm : fit f.key.m = true := (fit_iff _).2 (by omega)
  unfold factW
  rw [numB_list, numB_list, (parse_itoa hm).1, (parse_itoa hm).2, (parse_itoa hf).1, (parse_itoa hf).2, if_pos ⟨rfl, rfl⟩, unpart_part h4]
theorem indexByte_hit (d : UInt8) (u r : List UInt8) (h : d ∉ u) : Lib.indexByte (u ++ d :: r) d = (u.length : Int) := by
  rcases cut_cases d (u ++ d :: r) with ⟨_, h2⟩ | ⟨i, h1, _, h3, h4⟩
  · exact absurd (by simp) h2
  · rw [h1]
    rcases Nat.lt_trichotomy i u.length with hl | he | hg
    · exfalso
      rw [List.take_append_of_le_length (by omega)] at h4
      have e : (u ++ d :: r)[i]? = some d := by
        rw [h4, List.getElem?_append_right (by rw [List.length_take]; omega), List.length_take, Nat.min_eq_left (by omega), Nat.sub_self]; rfl
      rw [List.getElem?_append_left hl] at e
      exact h (List.mem_of_getElem? e)
    · rw [he]
    · exfalso
      refine h3 ?_
      rw [List.mem_take_iff_getElem]
      refine ⟨u.length, by simp; omega, ?_⟩
      rw [List.getElem_append_right (Nat.le_refl _)]
      simp
theorem splitK_hit (u r : List UInt8) (k : Nat) (h : 32 ∉ u) : Lib.splitK [32] 0 (k + 1) (u ++ 32 :: r) = u :: Lib.splitK [32] 0 k r := by
  conv => lhs; unfold Lib.splitK
  have hi := indexByte_hit 32 u r h
  rw [Lib.index_one, hi, if_neg (by rw [beq_iff_eq]; omega)]
  have e1 : ((u.length : Int).toNat + 0) = u.length := by omega
  have e2 : ((u.length : Int).toNat + [(32 : UInt8)].length) = u.length + 1 := by simp
  rw [e1, e2]
  have e3 : (u ++ 32 :: r).take u.length = u := by simp
  have e4 : (u ++ 32 :: r).drop (u.length + 1) = r := by simp
  rw [e3, e4]
theorem splitK_miss (u : List UInt8) (k : Nat) (h : 32 ∉ u) : Lib.splitK [32] 0 k u = [u] := by
  cases k with
  | zero => rfl
  | succ k =>
    unfold Lib.splitK
    rcases cut_cases 32 u with ⟨h1, _⟩ | ⟨i, _, h2, _, h4⟩
    · rw [Lib.index_one, h1]; rfl
    · exact absurd (by rw [h4]; simp) h
theorem map_data_inj {a b : List ByteArray} (h : a.map (·.data.toList) = b.map (·.data.toList)) : a = b := by
  induction a generalizing b with
  | nil => cases b with
    | nil => rfl
    | cons y b => simp at h
  | cons x a ih => cases b with
    | nil => simp at h
    | cons y b =>
      simp only [List.map_cons, List.cons.injEq] at h
      rw [data_inj' h.1, ih h.2]
theorem factL_size {f : Fact} (h : keyOk f.key = true) : 11 ≤ (factL f).length := by
  obtain ⟨h1, h2, h3, h4, _, _⟩ := key_words h
  have a := List.length_pos_iff.2 (name_word h1).2.1
  have b := List.length_pos_iff.2 (name_word h2).2.1
  have c := List.length_pos_iff.2 (name_word h3).2.1
  have d := List.length_pos_iff.2 (part_word h4).2.1
  have i := List.length_pos_iff.2 (itoa_ne_nil f.key.m)
  have j := List.length_pos_iff.2 (itoa_ne_nil f.amt)
  rw [factL_eq]
  simp only [List.length_append, List.length_cons]
  omega
theorem pieces_fact {f : Fact} (h : keyOk f.key = true) : pieces (mkB (factL f)) = wordsF f := by
  obtain ⟨h1, h2, h3, h4, _, _⟩ := key_words h
  have a := (no_of_word (name_word h1).1).2.1
  have b := (no_of_word (name_word h2).1).2.1
  have c := (no_of_word (name_word h3).1).2.1
  have d := (no_of_word (part_word h4).1).2.1
  have i := (no_of_word (itoa_word f.key.m)).2.1
  have j := (no_of_word (itoa_word f.amt)).2.1
  apply map_data_inj
  unfold pieces
  rw [Lib.splitB_data, mkB_size, mkB_data]
  have hs := factL_size h
  rw [show min 7 ((factL f).length + 1) - 1 = 6 by omega, factL_eq]
  show Lib.splitK [32] 0 6 _ = _
  rw [splitK_hit _ _ _ a, splitK_hit _ _ _ b, splitK_hit _ _ _ c, splitK_hit _ _ _ d, splitK_hit _ _ _ i, splitK_miss _ _ j]
  simp [wordsF, numB_list]
theorem readF_back {f : Fact} (h : keyOk f.key = true) (hf : fit f.amt = true) : readF (mkB (factL f)) = some f := by
  unfold readF
  rw [pieces_fact h]
  exact factW_back h hf

/-! ### How the program reads a text -/
/-- The lines of a text, the last one without its end if it has none. -/
def rowsGo (cur : List UInt8) : List UInt8 → List (List UInt8)
  | [] => if cur = [] then [] else [cur]
  | c :: r => if c = 10 then cur :: rowsGo [] r else rowsGo (cur ++ [c]) r
theorem rowsGo_no (cur u r : List UInt8) (h : 10 ∉ u) : rowsGo cur (u ++ r) = rowsGo (cur ++ u) r := by
  induction u generalizing cur with
  | nil => simp
  | cons c u ih =>
    have hc : c ≠ 10 := fun e => h (by simp [e])
    simp only [List.cons_append, rowsGo, if_neg hc]
    rw [ih _ (fun e => h (List.mem_cons_of_mem _ e))]
    simp
theorem rowsGo_cut (u r : List UInt8) (h : 10 ∉ u) : rowsGo [] (u ++ 10 :: r) = u :: rowsGo [] r := by
  rw [rowsGo_no _ _ _ h]; simp [rowsGo]
theorem rowsGo_last (u : List UInt8) (h : 10 ∉ u) (h0 : u ≠ []) : rowsGo [] u = [u] := by
  have := rowsGo_no [] u [] h
  simpa [rowsGo, h0] using this
/-- What is behind the first line. -/
def behind : List UInt8 → List UInt8
  | [] => []
  | c :: r => if c = 10 then r else behind r
theorem behind_cut (u r : List UInt8) (h : 10 ∉ u) : behind (u ++ 10 :: r) = r := by
  induction u with
  | nil => simp [behind]
  | cons c u ih =>
    have hc : c ≠ 10 := fun e => h (by simp [e])
    simp only [List.cons_append, behind, if_neg hc]
    exact ih (fun e => h (List.mem_cons_of_mem _ e))
theorem behind_none (u : List UInt8) (h : 10 ∉ u) : behind u = [] := by
  induction u with
  | nil => rfl
  | cons c u ih =>
    have hc : c ≠ 10 := fun e => h (by simp [e])
    simp only [behind, if_neg hc]
    exact ih (fun e => h (List.mem_cons_of_mem _ e))
def readAll : List (List UInt8) → Option (List Fact)
  | [] => some []
  | l :: r => match readF (mkB l) with
    | none => none
    | some f => (readAll r).map (f :: ·)
theorem readAll_none {l : List UInt8} {r : List (List UInt8)} (h : readF (mkB l) = none) : readAll (l :: r) = none := by simp [readAll, h]
theorem readAll_some {l : List UInt8} {r : List (List UInt8)} {f : Fact} (h : readF (mkB l) = some f) : readAll (l :: r) = (readAll r).map (f :: ·) := by simp [readAll, h]
def readP (l : List UInt8) : Option (List Fact) := readAll (rowsGo [] (behind l))
/-- The cube whose text it is. -/
def parseP (l : List UInt8) : Option (List Fact) := match readP l with
  | none => none
  | some c => if okC c = true ∧ textL c = l then some c else none
theorem rowsGo_facts : ∀ {c : List Fact}, (∀ f ∈ c, keyOk f.key = true) → rowsGo [] (rowsL c) = c.map factL
  | [], _ => rfl
  | f :: c, h => by
    rw [rowsL_cons, rowsGo_cut _ _ (no_in_fact (h f (List.mem_cons_self ..))).1, rowsGo_facts fun g hg => h g (List.mem_cons_of_mem _ hg)]
    rfl
theorem readAll_facts : ∀ {c : List Fact}, (∀ f ∈ c, keyOk f.key = true) → (∀ f ∈ c, fit f.amt = true) → readAll (c.map factL) = some c
  | [], _, _ => rfl
  | f :: c, h, hf => by
    rw [List.map_cons, readAll_some (readF_back (h f (List.mem_cons_self ..)) (hf f (List.mem_cons_self ..))), readAll_facts (fun g hg => h g (List.mem_cons_of_mem _ hg)) fun g hg => hf g (List.mem_cons_of_mem _ hg)]
    rfl
theorem firstL_no (n : Nat) : 10 ∉ firstL n := by
  unfold firstL
  rw [List.mem_append]
  rintro (h | h)
  · exact absurd h (by decide)
  · exact (no_of_word (itoa_word _)).1 h
/-- Rows of facts come back, whatever the first line is. -/
theorem readP_rows (n : Nat) {c : List Fact} (h : ∀ f ∈ c, keyOk f.key = true) (hf : ∀ f ∈ c, fit f.amt = true) : readP (firstL n ++ 10 :: rowsL c) = some c := by
  unfold readP
  rw [behind_cut _ _ (firstL_no n), rowsGo_facts h, readAll_facts h hf]
theorem okC_keys {c : List Fact} (h : okC c = true) : ∀ f ∈ c, keyOk f.key = true := by
  unfold okC at h
  rw [Bool.and_eq_true, List.all_eq_true] at h
  exact h.2
theorem okC_right {c : List Fact} (h : okC c = true) : rightL c = true := by
  unfold okC at h
  rw [Bool.and_eq_true] at h
  exact h.1
theorem okC_mk {c : List Fact} (h : rightL c = true) (hk : ∀ f ∈ c, keyOk f.key = true) : okC c = true := by
  unfold okC
  rw [Bool.and_eq_true, List.all_eq_true]
  exact ⟨h, hk⟩
/-- Amounts of 64 bits. -/
def FitC (c : List Fact) : Prop := ∀ f ∈ c, fit f.amt = true
theorem readP_text {c : List Fact} (h : okC c = true) (hf : FitC c) : readP (textL c) = some c := by
  rw [textL_eq]; exact readP_rows _ (okC_keys h) hf
theorem parseP_text {c : List Fact} (h : okC c = true) (hf : FitC c) : parseP (textL c) = some c := by
  unfold parseP
  rw [readP_text h hf]
  exact if_pos ⟨h, rfl⟩
theorem parseP_some {l : List UInt8} {c : List Fact} (h : parseP l = some c) : okC c = true ∧ textL c = l ∧ readP l = some c := by
  unfold parseP at h
  cases hr : readP l with
  | none => rw [hr] at h; cases h
  | some d =>
    rw [hr] at h
    simp only at h
    split at h
    · rename_i hd
      cases h
      exact ⟨hd.1, hd.2, rfl⟩
    · cases h
theorem readF_fit {l : ByteArray} {f : Fact} (h : readF l = some f) : fit f.amt = true := by
  unfold readF factOf at h
  split at h
  · unfold factW at h
    split at h
    · cases h; exact fit_parseV _
    · cases h
  · cases h
theorem readAll_fit : ∀ {L : List (List UInt8)} {c : List Fact}, readAll L = some c → FitC c
  | [], c, h => by
    cases h
    exact fun f hf => absurd hf (List.not_mem_nil)
  | l :: L, c, h => by
    cases hr : readF (mkB l) with
    | none => rw [readAll_none hr] at h; cases h
    | some f =>
      rw [readAll_some hr] at h
      cases ht : readAll L with
      | none => rw [ht] at h; cases h
      | some d =>
        rw [ht] at h
        cases h
        intro g hg
        rcases List.mem_cons.1 hg with rfl | hg
        · exact readF_fit hr
        · exact readAll_fit ht g hg
theorem parseP_fit {l : List UInt8} {c : List Fact} (h : parseP l = some c) : FitC c := readAll_fit (parseP_some h).2.2
/-- Texts of cubes are of one cube each. -/
theorem text_inj {c d : List Fact} (hc : okC c = true) (hd : okC d = true) (fc : FitC c) (fd : FitC d) (h : textL c = textL d) : c = d := by
  have := parseP_text hc fc
  rw [h, parseP_text hd fd] at this
  exact (Option.some.inj this).symm
/-- A text that has been read and is none of a cube is none of any cube. -/
theorem parseP_none {l : List UInt8} (h : ∀ c, okC c = true → FitC c → textL c ≠ l) : parseP l = none := by
  cases hp : parseP l with
  | none => rfl
  | some c => exact absurd (parseP_some hp).2.1 (h c (parseP_some hp).1 (parseP_fit hp))
end Go.Proofs.YtdnneognilffaaaGreatDoor.Cd
