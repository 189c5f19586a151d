
/- The plain facts of how the document's answer reads a text: lines with an end, words by blanks and tabs, ahead of a mark; a cube comes back. No walk in it. -/
import Derived.Test.YtdnneognilffaaaGreatDoorCdPlain
import Derived.Test.YtdnneognilffaaaGreatDoorLexRwords
namespace Go.Proofs.YtdnneognilffaaaGreatDoor.Cd
open Go.Proofs.YtdnneognilffaaaGreatDoor.Fa

/-- The fact of six words, if its mark is one. -/
def rfactW (e a f p m n : ByteArray) : Option Fact := if (parseE m.data.toList = 0 ∧ parseE n.data.toList = 0) ∧ 0 ≤ parseV m.data.toList ∧ parseV m.data.toList ≤ 4 then some ⟨⟨e, a, f, unpart p, parseV m.data.toList⟩, parseV n.data.toList⟩ else none
def rfactOf : List ByteArray → Option Fact
  | [e, a, f, p, m, n] => rfactW e a f p m n
  | _ => none
def rreadF (l : List UInt8) : Option Fact := rfactOf ((wordsL l).map mkB)
/-- The facts of what is still to be read: cur is read of a line; the first line is no fact's. -/
def rgo (first : Bool) (cur : List UInt8) : List UInt8 → Option (List Fact)
  | [] => some []
  | c :: r => if c = 10 then (if first then rgo false [] r else match rreadF cur with
      | none => none
      | some f => (rgo false [] r).map (f :: ·)) else rgo first (cur ++ [c]) r
theorem rgo_in (first : Bool) (cur : List UInt8) (c : UInt8) (r : List UInt8) (h : c ≠ 10) : rgo first cur (c :: r) = rgo first (cur ++ [c]) r := by simp [rgo, h]
theorem rgo_first (cur r : List UInt8) : rgo true cur (10 :: r) = rgo false [] r := by simp [rgo]
theorem rgo_none {cur r : List UInt8} (h : rreadF cur = none) : rgo false cur (10 :: r) = none := by simp [rgo, h]
theorem rgo_some {cur r : List UInt8} {f : Fact} (h : rreadF cur = some f) : rgo false cur (10 :: r) = (rgo false [] r).map (f :: ·) := by simp [rgo, h]
theorem rgo_no (first : Bool) (cur u r : List UInt8) (h : 10 ∉ u) : rgo first cur (u ++ r) = rgo first (cur ++ u) r := by
  induction u generalizing cur with
  | nil => simp
  | cons c u ih =>
    have hc : c ≠ 10 := fun e => h (by simp [e])
    rw [List.cons_append, rgo_in _ _ _ _ hc, ih _ (fun e => h (List.mem_cons_of_mem _ e))]
    simp
def rreadP (l : List UInt8) : Option (List Fact) := rgo true [] l
theorem rfactW_back {f : Fact} (h : keyOk f.key = true) (hf : fit f.amt = true) : rfactW f.key.e f.key.a f.key.f (partB f.key.p) (numB f.key.m) (numB f.amt) = some f := by
  obtain ⟨_, _, _, h4, h5, h6⟩ := key_words h
  have hm : fit f.key.m = true := (fit_iff _).2 (by omega)
  unfold rfactW
  rw [numB_list, numB_list, (parse_itoa hm).1, (parse_itoa hm).2, (parse_itoa hf).1, (parse_itoa hf).2, if_pos ⟨⟨rfl, rfl⟩, h5, h6⟩, unpart_part h4]
theorem wordC_gap {l : List UInt8} (h : l.all wordC = true) : l.all (fun c => !gapB c) = true := by
  rw [List.all_eq_true] at h ⊢
  intro x hx
  have := wordC_no (h x hx)
  simp [gapB, this.2.1, this.2.2.1]
theorem fields_cut (u r : List UInt8) (h : u.all wordC = true) (h0 : u ≠ []) : fieldsGo [] (u ++ 32 :: r) = u :: fieldsGo [] r := by
  rw [fieldsGo_word _ _ _ (wordC_gap h), List.nil_append]
  exact fieldsGo_gap u [32] r (by simp) h0 (by decide)
theorem fields_last (u : List UInt8) (h : u.all wordC = true) (h0 : u ≠ []) : fieldsGo [] u = [u] := by
  have := fieldsGo_word [] u [] (wordC_gap h)
  rw [List.append_nil, List.nil_append] at this
  rw [this]
  simp [fieldsGo, h0]
theorem wordsL_fact {f : Fact} (h : keyOk f.key = true) : (wordsL (factL f)).map mkB = wordsF f := by
  obtain ⟨h1, h2, h3, h4, _, _⟩ := key_words h
  have a := name_word h1
  have b := name_word h2
  have c := name_word h3
  have d := part_word h4
  unfold wordsL
  rw [said_none _ (no_in_fact h).2, factL_eq, fields_cut _ _ a.1 a.2.1, fields_cut _ _ b.1 b.2.1, fields_cut _ _ c.1 c.2.1, fields_cut _ _ d.1 d.2.1, fields_cut _ _ (itoa_word _) (itoa_ne_nil _), fields_last _ (itoa_word _) (itoa_ne_nil _)]
  simp only [List.map_cons, List.map_nil, mkB_list]
  rfl
theorem rreadF_back {f : Fact} (h : keyOk f.key = true) (hf : fit f.amt = true) : rreadF (factL f) = some f := by
  unfold rreadF
  rw [wordsL_fact h]
  exact rfactW_back h hf
theorem rgo_rows : ∀ {c : List Fact}, (∀ f ∈ c, keyOk f.key = true) → (∀ f ∈ c, fit f.amt = true) → rgo false [] (rowsL c) = some c
  | [], _, _ => rfl
  | f :: c, h, hf => by
    rw [rowsL_cons, rgo_no _ _ _ _ (no_in_fact (h f (List.mem_cons_self ..))).1, List.nil_append, rgo_some (rreadF_back (h f (List.mem_cons_self ..)) (hf f (List.mem_cons_self ..))), rgo_rows (fun g hg => h g (List.mem_cons_of_mem _ hg)) fun g hg => hf g (List.mem_cons_of_mem _ hg)]
    rfl
theorem rreadP_text {c : List Fact} (h : okC c = true) (hf : FitC c) : rreadP (textL c) = some c := by
  unfold rreadP
  rw [textL_eq, rgo_no _ _ _ _ (firstL_no _), List.nil_append, rgo_first]
  exact rgo_rows (okC_keys h) hf
/-- What has been read, and has that text, is what Parse tells. -/
theorem rparse_hit {l : List UInt8} {c : List Fact} (h : okC c = true ∧ textL c = l) (hf : FitC c) : parseP l = some c := by
  rw [← h.2]; exact parseP_text h.1 hf
theorem rparse_miss {l : List UInt8} {c : List Fact} (hr : rreadP l = some c) (h : ¬ (okC c = true ∧ textL c = l)) : parseP l = none :=
  parseP_none fun d hd fd e => h (by
    have := rreadP_text hd fd
    rw [e, hr] at this
    cases this
    exact ⟨hd, e⟩)
theorem rparse_none {l : List UInt8} (hr : rreadP l = none) : parseP l = none :=
  parseP_none fun d hd fd e => by
    have := rreadP_text hd fd
    rw [e, hr] at this
    cases this
theorem rreadF_fit {l : List UInt8} {f : Fact} (h : rreadF l = some f) : fit f.amt = true := by
  unfold rreadF rfactOf at h
  split at h
  · unfold rfactW at h
    split at h
    · cases h; exact fit_parseV _
    · cases h
  · cases h
end Go.Proofs.YtdnneognilffaaaGreatDoor.Cd
