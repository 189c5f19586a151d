/- FaSums; MapKeys; MapEntry; FaWant; FactGets: texts put together (each begins with what it is). -/
import Derived.Test.YtimeebildbmhaaaFaMarks
import Derived.Test.YtimeebildbmhaaaLexPlain
import Derived.Test.YtimeebildbmhaaaProg
import Derived.Maps.RangeWalk
import Derived.Maps.OwnSet
import Derived.Maps.OwnOps
import Derived.Maps.Own
import Derived.Maps.Ext
import Derived.StringKeys
import Derived.Test.YtimeebildbmhaaaMem
import Derived.WideKeyEntry
import Derived.Maps.Views
import Derived.DeepKeys4
/- Sums over a cube: over any part of it they are sums over the facts that it is made of. -/
namespace Go.Proofs.Ytimeebildbmhaaa.Fa
open Go.RowKit

/-- What the facts come to whose keys are so. -/
def psum (p : Key → Bool) (l : List Fact) : Int := ((l.filter fun f => p f.key).map Fact.amt).sum
def sumK (K : List Key) (g : Key → Int) : Int := (K.map g).sum
theorem psum_cons (p : Key → Bool) (f : Fact) (l : List Fact) : psum p (f :: l) = (if p f.key = true then f.amt else 0) + psum p l := by
  unfold psum
  rw [List.filter_cons]
  cases p f.key <;> simp
theorem psum_snoc (p : Key → Bool) (l : List Fact) (f : Fact) : psum p (l ++ [f]) = psum p l + (if p f.key = true then f.amt else 0) := by
  unfold psum
  rw [List.filter_append]
  cases h : p f.key <;> simp [h]
theorem psum_congr {p q : Key → Bool} {l : List Fact} (h : ∀ f ∈ l, p f.key = q f.key) : psum p l = psum q l := by
  unfold psum
  rw [List.filter_congr h]
theorem isum_snoc (l : List Fact) (f : Fact) (k : Key) : isum (l ++ [f]) k = isum l k + (if f.key = k then f.amt else 0) := by
  rw [isum_append, isum_cons, isum_nil]; omega
theorem sumK_add (K : List Key) (a b : Key → Int) : sumK K (fun k => a k + b k) = sumK K a + sumK K b := by
  induction K with
  | nil => rfl
  | cons k K ih =>
    unfold sumK at ih ⊢
    simp only [List.map_cons, List.sum_cons, ih]
    omega
theorem sumK_zero (K : List Key) : sumK K (fun _ => 0) = 0 := by
  induction K with
  | nil => rfl
  | cons k K ih =>
    unfold sumK at ih ⊢
    simp only [List.map_cons, List.sum_cons, ih]
    rfl
theorem sumK_one {K : List Key} (h : K.Nodup) (x : Key) (v : Int) : sumK K (fun k => if x = k then v else 0) = if x ∈ K then v else 0 := by
  induction K with
  | nil => simp [sumK]
  | cons k K ih =>
    obtain ⟨h1, h2⟩ := List.nodup_cons.1 h
    have ih := ih h2
    unfold sumK at ih ⊢
    rw [List.map_cons, List.sum_cons, ih]
    by_cases e : x = k
    · subst e; simp [h1]
    · simp [e]
theorem sumK_isum {K : List Key} (h : K.Nodup) (l : List Fact) : sumK K (isum l) = psum (fun k => decide (k ∈ K)) l := by
  induction l with
  | nil => exact sumK_zero K
  | cons f l ih =>
    rw [psum_cons, ← ih, show isum (f :: l) = fun k => (if f.key = k then f.amt else 0) + isum l k from funext fun k => isum_cons f l k, sumK_add, sumK_one h]
    simp only [decide_eq_true_eq]
theorem psum_bnd {B : Int} (hB : 0 ≤ B) {l : List Fact} (h : Bnd B l) {n : Nat} (hn : l.length ≤ n) (p : Key → Bool) : -((n : Int) * B) ≤ psum p l ∧ psum p l ≤ (n : Int) * B := by
  have h1 := sum_bnd hB (((l.filter fun f => p f.key).map Fact.amt)) (fun x hx => by
    obtain ⟨f, hf, rfl⟩ := List.mem_map.1 hx
    exact h f (List.mem_filter.1 hf).1)
  have h2 : ((l.filter fun f => p f.key).map Fact.amt).length ≤ n := by rw [List.length_map]; exact Nat.le_trans (List.length_filter_le _ _) hn
  have h3 : ((((l.filter fun f => p f.key).map Fact.amt).length : Nat) : Int) * B ≤ (n : Int) * B := Int.mul_le_mul_of_nonneg_right (by omega) hB
  unfold psum
  omega
theorem fit_in64 {x : Int} (h : In64 x) : fit x = true := by
  unfold In64 at h
  unfold fit
  simp only [Bool.and_eq_true, decide_eq_true_eq]
  omega
theorem sumFrom_pre : ∀ (ns : List Int) (n : Int), (∀ j, j ≤ ns.length → In64 (n + (ns.take j).sum)) → sumFrom n ns = (n + ns.sum, 0)
  | [], n, _ => by simp [sumFrom]
  | a :: r, n, h => by
    have h1 := h 1 (by simp)
    simp at h1
    unfold sumFrom
    rw [if_pos (fit_in64 h1), sumFrom_pre r (n + a) fun j hj => by
      have := h (j + 1) (by simp; omega)
      rw [List.take_succ_cons, List.sum_cons] at this
      rwa [Int.add_assoc]]
    rw [List.sum_cons, Int.add_assoc]
theorem rise_nodup {K : List Key} (h : Rise K) : K.Nodup := List.Pairwise.imp (fun h => ltK_ne h) h
theorem rise_keys_nodup {c : List Fact} (h : RiseF c) : (c.map Fact.key).Nodup := by
  unfold List.Nodup
  rw [List.pairwise_map]
  exact List.Pairwise.imp (fun h => ltK_ne h) h
theorem part_sum {l d : List Fact} (h : d.Sublist (cube l)) : (d.map Fact.amt).sum = psum (fun k => decide (k ∈ d.map Fact.key)) l := by
  have hr : RiseF d := List.Pairwise.sublist h (cube_rise l)
  rw [← sumK_isum (rise_keys_nodup hr)]
  unfold sumK
  rw [List.map_map]
  refine congrArg List.sum (List.map_congr_left fun f hf => ?_)
  exact (mem_cube.1 (h.subset hf)).1
theorem put_sum (p : Key → Bool) (g : Key → Int) (K : List Key) : (((K.flatMap fun k => putF k (g k)).filter fun f => p f.key).map Fact.amt).sum = sumK (K.filter p) g := by
  induction K with
  | nil => rfl
  | cons k K ih =>
    rw [List.flatMap_cons, List.filter_append, List.map_append, List.sum_append, ih, List.filter_cons]
    unfold sumK putF
    by_cases h0 : g k = 0
    · cases hp : p k <;> simp [h0]
    · cases hp : p k <;> simp [h0, hp]
theorem sums_cube {l : List Fact} (hB : Bnd 4503599627370496 l) (hn : l.length ≤ 150) (p : Key → Bool) : sumFrom 0 (((cube l).filter fun f => p f.key).map Fact.amt) = (psum p l, 0) := by
  have ht : (((cube l).filter fun f => p f.key).map Fact.amt).sum = psum p l := by
    unfold cube
    rw [put_sum, sumK_isum ((rise_nodup (rise_keys l)).filter p)]
    refine psum_congr fun f hf => ?_
    rw [Bool.eq_iff_iff, decide_eq_true_eq, List.mem_filter]
    exact ⟨fun h => h.2, fun h => ⟨mem_keys.2 ⟨f, hf, rfl⟩, h⟩⟩
  rw [sumFrom_pre, ht, Int.zero_add]
  intro j _
  rw [← List.map_take, part_sum ((List.take_sublist _ _).trans List.filter_sublist), Int.zero_add]
  have := psum_bnd (by decide) hB hn (fun k => decide (k ∈ (List.take j ((cube l).filter fun f => p f.key)).map Fact.key))
  unfold In64
  omega
theorem sumL_cube {l : List Fact} (hB : Bnd 4503599627370496 l) (hn : l.length ≤ 150) (s : ByteArray) : sumL (cube l) s ⟨#[]⟩ ⟨#[]⟩ = (psum (fun k => askB s k.e) l, 0) := by
  rw [← sums_cube hB hn]
  unfold sumL
  refine congrArg (fun x => sumFrom 0 (List.map Fact.amt x)) (List.filter_congr fun f _ => ?_)
  unfold fitB
  simp [askB]
theorem psum_ask {s : ByteArray} (h : s ≠ ⟨#[]⟩) (l : List Fact) : psum (fun k => askB s k.e) l = psum (fun k => decide (k.e = s)) l := psum_congr fun f _ => by
  unfold askB
  rw [Bool.eq_iff_iff, decide_eq_true_eq, decide_eq_true_eq]
  exact ⟨fun e => e.elim (fun e => absurd e h) Eq.symm, fun e => .inr e.symm⟩
theorem psum_all (l : List Fact) : psum (fun k => askB ⟨#[]⟩ k.e) l = psum (fun _ => true) l := psum_congr fun f _ => by simp [askB]
theorem small64 {l : List Fact} (hB : Bnd 4503599627370496 l) (hn : l.length ≤ 150) (p : Key → Bool) : -675539944105574400 ≤ psum p l ∧ psum p l ≤ 675539944105574400 := by
  have := psum_bnd (by decide) hB hn p
  omega
end Go.Proofs.Ytimeebildbmhaaa.Fa
/- Maps by texts: their keys. -/
namespace Go.Proofs.Ytimeebildbmhaaa
open Go.RowKit Go.Maps

theorem data_inj {x y : ByteArray} (h : x.data.toList = y.data.toList) : x = y := by rw [← mkB_list x, h, mkB_list]
/-- The key of a code. -/
def kS (s : ByteArray) : Lit := .string s.data.toList
theorem kS_inj {x y : ByteArray} (h : kS x = kS y) : x = y := data_inj (by unfold kS at h; simpa using h)
theorem kS_key (s : ByteArray) : WideAt.IsKeyLit (kS s) := trivial
theorem law9 : Keyed Try.prog 9 := string_keyed Try.underlying9
theorem invK (key : Value) (kl : Lit) (h : keyOf Try.prog 9 key = some kl) : ∃ s : ByteArray, key = .string s := by
  obtain ⟨s, e, _⟩ := WideMaps.string_of_keyOf Try.underlying9 h
  exact ⟨s, e⟩
theorem keyS {s : ByteArray} {kl : Lit} (h : keyOf Try.prog 9 (.string s) = some kl) : kl = kS s := by
  obtain ⟨t, e, e', _⟩ := WideMaps.string_of_keyOf Try.underlying9 h
  cases e; exact e'
end Go.Proofs.Ytimeebildbmhaaa
/- Maps that the call itself makes: 'm[k]++' as the place of an entry, a look-up ahead of it or behind it, and a store into the entry. Over any program. -/
namespace Go.Proofs.Ytimeebildbmhaaa
open Go.RowKit Go.Maps Go.WideElems Go.ChangeShapes Go.WideShapes Go.MapKept Go.ChangeMaps
section
variable {H : Type} {P : Program} {w : World} {t k e : TypeId} {R : Value → Option (DataW H × List MemPlace)} {b n : Nat} {D : DataW H}
theorem grownBy_block (w : World) {b : Nat} {es : Array MapEntry} {c : Nat} (hb : w.heap[b]? = some (.map es c)) (o : Obj) : w.grownBy (setBlock w b o) (some b) :=
  ⟨rfl, rfl, rfl, by simp [setBlock], fun i _ hi => heap_setBlock_other hb _ (fun e => hi (by rw [e]))⟩
theorem setBlock_set (w : World) (b : Nat) (o o' : Obj) : setBlock (setBlock w b o) b o' = setBlock w b o' := by
  unfold setBlock
  simp
theorem run_inj {α : Type} {a a' : α} {x y : World} {r : Result α} (h1 : r = .ok a x) (h2 : r = .ok a' y) : x = y := by
  rw [h1] at h2; injection h2
/-- The place of an entry, and what is stored there. -/
theorem own_entry (h : w.ownsMap P k R b n D) (K : Keyed P k) (ht : P.underlying t = some (.map k e)) {z : Value} (hz : ∀ u : World, (zeroValue e).run P u = .ok z u) {zd : DataW H} {zp : List MemPlace} (hzd : R z = some (zd, zp)) (hn : n < maxLen)
    {key : Value} {kl : Lit} (hkey : keyOf P k key = some kl) :
    ∃ (v0 : Value) (st : Nat) (w1 : World) (dv : DataW H), (Instr.mapEntry t (.map (some b)) key).run P w = .ok (.tuple #[v0, goInt st]) w1 ∧ w.grownBy w1 (some b) ∧ w1.ownsMap P k R b (n + 1) (D.put kl dv) ∧ dv = D.atKey kl zd ∧
      ∀ (val : Value) (d : DataW H) (ps : List MemPlace), R val = some (d, ps) → ∃ w2, (Instr.entryStore t (.map (some b)) (goInt st) val).run P w1 = .ok () w2 ∧ w2.ownsMap P k R b (n + 1) (D.put kl d) ∧ w1.grownBy w2 (some b) := by
  have h0 := h
  obtain ⟨es, clock, hb, F, hs, hD⟩ := h
  obtain ⟨s1, s2, _⟩ := F.stamped
  rcases K.find w hkey es.toList F.keys with ⟨h1, h2⟩ | ⟨j, e0, h1, h2, h3⟩
  · have hup : ∀ val, (Instr.mapUpdate t (.map (some b)) key val).run P w = .ok () (setBlock w b (.map (es.push ⟨key, val, clock⟩) (clock + 1))) := fun val => by
      simp [Instr.mapUpdate, run_underlying ht, MapKept.run_getObj_map hb, K.check w false hkey, h1, MapKept.run_setObj_map _ hb, Result.andThen, setBlock]
    have hat : D.atKey kl zd = zd := by
      obtain ⟨v, ps, hr, hv⟩ := h0.lookup K ht (hz w) hzd hkey
      rcases Maps.fit_look false K ht (hz w) hb F hkey with ⟨_, _, hat⟩ | ⟨e1, y, he1, hk1, _⟩
      · rw [hD]; exact hat zd
      · exact absurd hk1 (h2 e1 he1)
    refine ⟨z, clock, setBlock w b (.map (es.push ⟨key, z, clock⟩) (clock + 1)), zd, ?_, grownBy_block w hb _, ?_, hat.symm, fun val d ps hv => ?_⟩
    · simp [Instr.mapEntry, run_underlying ht, MapKept.run_getObj_map hb, K.check w false hkey, h1, hz, MapKept.run_setObj_map _ hb, Result.andThen, setBlock]
    · obtain ⟨w', hr, ho, _⟩ := h0.update K ht hn hkey hzd
      rw [run_inj (hup z) hr]; exact ho
    · obtain ⟨w', hr, ho, _⟩ := h0.update K ht hn hkey hv
      have hidx : (es.push ⟨key, z, clock⟩).findIdx? (fun e => ((e.born : Nat) : Int) == ((clock : Nat) : Int)) = some es.size := by
        rw [findIdx_arr]
        exact findIdx_born (l := (es.push ⟨key, z, clock⟩).toList) (j := es.size) (e0 := ⟨key, z, clock⟩) (by
          simp only [Array.toList_push, List.map_append, List.map_cons, List.map_nil]
          refine List.nodup_append.2 ⟨s2, by simp, fun a ha c hc e1 => ?_⟩
          simp only [List.mem_singleton] at hc
          obtain ⟨x, hx, rfl⟩ := List.mem_map.1 ha
          have := s1 x hx
          omega) (by simp)
      have hmod : (es.push ⟨key, z, clock⟩).modify es.size (fun e => { e with val := val }) = es.push ⟨key, val, clock⟩ := by
        apply Array.ext'
        rw [Array.toList_modify, Array.toList_push, Array.toList_push, ← Array.length_toList, modify_last]
      have hw2 : (setBlock w b (.map (es.push ⟨key, z, clock⟩) (clock + 1))).heap[b]? = some (.map (es.push ⟨key, z, clock⟩) (clock + 1)) := heap_setBlock_same hb _
      refine ⟨setBlock (setBlock w b (.map (es.push ⟨key, z, clock⟩) (clock + 1))) b (.map (es.push ⟨key, val, clock⟩) (clock + 1)), ?_, ?_, grownBy_block _ hw2 _⟩
      · generalize setBlock w b (.map (es.push ⟨key, z, clock⟩) (clock + 1)) = w1 at hw2
        simp [Instr.entryStore, MapKept.run_getObj_map hw2, asInt, asIntOf, goInt, hidx, hmod, MapKept.run_setObj_map _ hw2, Result.andThen, setBlock]
      · rw [setBlock_set w b, run_inj (hup val) hr]; exact ho
  · have hj : es[j]? = some e0 := by simpa using h2
    have hsame : es.modify j (fun e => { e with key := key }) = es := by
      apply Array.ext'
      rw [Array.toList_modify, modify_eq_set _ _ _ _ h2]
      have : ({ e0 with key := key } : MapEntry) = e0 := by rw [← h3]
      rw [this]
      exact set_self _ _ _ h2
    have hup : ∀ val, (Instr.mapUpdate t (.map (some b)) key val).run P w = .ok () (setBlock w b (.map (es.modify j (fun e' => { e' with key := key, val := val })) clock)) := fun val => by
      simp [Instr.mapUpdate, run_underlying ht, MapKept.run_getObj_map hb, K.check w false hkey, h1, hj, h3, K.stays w hkey, MapKept.run_setObj_map _ hb, Result.andThen, setBlock]
    have hwb : setBlock w b (.map es clock) = w := by
      unfold setBlock
      have : w.heap.setIfInBounds b (.map es clock) = w.heap := by
        apply Array.ext_getElem?
        intro i
        by_cases hi : i = b
        · subst hi
          have hlt := (Array.getElem?_eq_some_iff.1 hb).1
          rw [Array.getElem?_setIfInBounds_self_of_lt hlt, hb]
        · rw [Array.getElem?_setIfInBounds_ne (fun e => hi e.symm)]
      rw [this]
    have hself : es.modify j (fun e' => { e' with key := key, val := e0.val }) = es := by
      apply Array.ext'
      rw [Array.toList_modify, modify_eq_set _ _ _ _ h2]
      have : ({ e0 with key := key, val := e0.val } : MapEntry) = e0 := by rw [← h3]
      rw [this]
      exact set_self _ _ _ h2
    obtain ⟨dv, pv, hrv, hat⟩ : ∃ dv pv, R e0.val = some (dv, pv) ∧ dv = D.atKey kl zd := by
      rcases Maps.fit_look false K ht (hz w) hb F hkey with ⟨_, hno, _⟩ | ⟨e1, y, he1, hk1, hrun, hRv, hat, _⟩
      · exact absurd h3 (hno e0 (List.mem_of_getElem? h2))
      · have he : e1 = e0 := by
          have hnd : es.toList.Pairwise (fun x y => x.key ≠ y.key) := ((stamped_iff es clock).1 F.stamped).2.2
          by_cases heq : e1 = e0
          · exact heq
          · obtain ⟨i1, hi1, hi1e⟩ := List.getElem_of_mem he1
            have hlt2 := (List.getElem?_eq_some_iff.1 h2).1
            have h2' : es.toList[j] = e0 := (List.getElem?_eq_some_iff.1 h2).2
            have hp := List.pairwise_iff_getElem.1 hnd
            rcases Nat.lt_trichotomy i1 j with hl | hl | hl
            · exact absurd (by rw [hi1e, h2', hk1, h3]) (hp i1 j hi1 hlt2 hl)
            · subst hl; rw [h2'] at hi1e; exact hi1e.symm
            · exact absurd (by rw [hi1e, h2', hk1, h3]) (hp j i1 hlt2 hi1 hl)
        subst he
        exact ⟨y.1, y.2, hRv, by rw [hD]; exact (hat zd).symm⟩
    refine ⟨e0.val, e0.born, w, dv, ?_, World.grownBy.refl _ _, ?_, hat, fun val d ps hv => ?_⟩
    · conv => rhs; rw [← hwb]
      simp [Instr.mapEntry, run_underlying ht, MapKept.run_getObj_map hb, K.check w false hkey, h1, hj, h3, K.stays w hkey, hsame, MapKept.run_setObj_map _ hb, Result.andThen, setBlock]
    · obtain ⟨w', hr, ho, _⟩ := h0.update K ht hn hkey hrv
      have h4 := hup e0.val
      rw [hself, hwb] at h4
      rw [run_inj h4 hr]; exact ho
    · obtain ⟨w', hr, ho, _⟩ := h0.update K ht hn hkey hv
      have hidx : es.findIdx? (fun e => ((e.born : Nat) : Int) == ((e0.born : Nat) : Int)) = some j := by
        rw [findIdx_arr]
        exact findIdx_born s2 h2
      have hmod : es.modify j (fun e => { e with val := val }) = es.modify j (fun e' => { e' with key := key, val := val }) := by
        apply Array.ext'
        rw [Array.toList_modify, Array.toList_modify, modify_eq_set _ _ _ _ h2, modify_eq_set _ _ _ _ h2, ← h3]
      refine ⟨_, ?_, (by rw [run_inj (hup val) hr]; exact ho), grownBy_block w hb _⟩
      simp [Instr.entryStore, MapKept.run_getObj_map hb, asInt, asIntOf, goInt, hidx, hmod, MapKept.run_setObj_map _ hb, Result.andThen, setBlock]
end
end Go.Proofs.Ytimeebildbmhaaa
/- What facts come to, key by key and entity by entity, in maps that the call makes: by a struct of four texts and a number, and by a text. -/
namespace Go.Proofs.Ytimeebildbmhaaa.Fa
open Go.RowKit Go.Maps

theorem laidOut : laidOutB Try.prog = true := by kernel_rfl
theorem keyRow : (24 : TypeId) < Try.prog.types.size := of_decide_eq_true (by kernel_rfl)
theorem keyWide : (match Try.prog.underlying 24 with | some (.array _ _) | some (.struct _) => true | _ => false) = true := by kernel_rfl
theorem keyAt2 : Try.prog.keyTypeAt 2 24 = true := by kernel_rfl
set_option maxRecDepth 100000 in
theorem lawK : Keyed Try.prog 24 := Keyed.of_law (deep_law_laid laidOut (m := 2) (by decide) keyRow keyAt2 keyWide)
def klitK (k : Key) : Lit := .string (keyBytes [.string k.e.data.toList, .string k.a.data.toList, .string k.f.data.toList, .string k.p.data.toList, .int .i64 k.m])
/-- A key that a map may have. -/
def GoodK (k : Key) : Prop := k.e.size ≤ maxLen ∧ k.a.size ≤ maxLen ∧ k.f.size ≤ maxLen ∧ k.p.size ≤ maxLen ∧ In64 k.m
theorem key_fields : Try.prog.underlying 24 = some (.struct (Try.prog.fieldsOf 24)) ∧ (Try.prog.fieldsOf 24).toList.map (fun f => (f.offset, f.type, f.name != "_")) = [(0, 9, true), (1, 9, true), (2, 9, true), (3, 9, true), (4, 3, true)] := ⟨by kernel_rfl, by kernel_rfl⟩
theorem size_two : ∃ n, Try.prog.types.size + 1 = n + 1 + 1 := by
  have : Try.prog.types.size ≠ 0 := Nat.ne_of_gt (Nat.lt_of_le_of_lt (Nat.zero_le _) keyRow)
  exact ⟨Try.prog.types.size - 1, by omega⟩
theorem lits_string (n : Nat) (s : ByteArray) (h : s.size ≤ maxLen) : Try.prog.keyLits (n + 1) 9 [.string s] = some [.string s.data.toList] := by
  unfold Program.keyLits
  rw [Try.underlying9]
  simp [h]
theorem lits_int (n : Nat) (x : Int) (h : In64 x) : Try.prog.keyLits (n + 1) 3 [.int .i64 x] = some [.int .i64 x] := by
  have hw := wf_in64 h
  unfold Program.keyLits
  rw [Try.underlying3]
  simp [hw]
theorem lits_fields (n : Nat) (k : Key) (g : GoodK k) : ∀ (fs : List Field), fs.map (fun f => (f.offset, f.type, f.name != "_")) = [(0, 9, true), (1, 9, true), (2, 9, true), (3, 9, true), (4, 3, true)] →
    (fs.mapM fun f => Try.prog.keyLits (n + 1) f.type (([Value.string k.e, .string k.a, .string k.f, .string k.p, .int .i64 k.m].drop f.offset).take (Try.prog.cellsOf f.type))) = some [[.string k.e.data.toList], [.string k.a.data.toList], [.string k.f.data.toList], [.string k.p.data.toList], [.int .i64 k.m]] := by
  intro fs h
  obtain ⟨g0, g1, g2, g3, g4⟩ := g
  have hc9 : Try.prog.cellsOf 9 = 1 := by kernel_rfl
  have hc3 : Try.prog.cellsOf 3 = 1 := by kernel_rfl
  obtain ⟨f0, f1, f2, f3, f4, rfl⟩ : ∃ f0 f1 f2 f3 f4, fs = [f0, f1, f2, f3, f4] := by
    have hl : fs.length = 5 := by simpa using congrArg List.length h
    match fs, hl with
    | [f0, f1, f2, f3, f4], _ => exact ⟨f0, f1, f2, f3, f4, rfl⟩
  simp only [List.map_cons, List.map_nil, List.cons.injEq, Prod.mk.injEq, and_true] at h
  obtain ⟨⟨o0, t0, _⟩, ⟨o1, t1, _⟩, ⟨o2, t2, _⟩, ⟨o3, t3, _⟩, ⟨o4, t4, _⟩⟩ := h
  simp only [List.mapM_cons, List.mapM_nil, o0, o1, o2, o3, o4, t0, t1, t2, t3, t4, hc9, hc3, List.drop_zero, List.drop_succ_cons, List.take_succ_cons, List.take_zero, lits_string n _ g0, lits_string n _ g1, lits_string n _ g2, lits_string n _ g3, lits_int n _ g4]
  rfl
theorem keyOf_mkK (k : Key) (g : GoodK k) : keyOf Try.prog 24 (aggK k) = some (klitK k) := by
  obtain ⟨hu, hf⟩ := key_fields
  have hck : Try.prog.cellsOf 24 = 5 := by kernel_rfl
  have hkt : Try.prog.keyType 24 = true := by kernel_rfl
  obtain ⟨n, hn⟩ := size_two
  have hfl := lits_fields n k g _ hf
  have hall : (Try.prog.fieldsOf 24).all (·.name != "_") = true := by kernel_rfl
  have hlits : Try.prog.keyLits (Try.prog.types.size + 1) 24 [.string k.e, .string k.a, .string k.f, .string k.p, .int .i64 k.m] = some [.string k.e.data.toList, .string k.a.data.toList, .string k.f.data.toList, .string k.p.data.toList, .int .i64 k.m] := by
    rw [hn]
    unfold Program.keyLits
    rw [hu]
    simp only [hck, List.length_cons, List.length_nil, hall, and_self, if_true]
    rw [hfl]
    rfl
  unfold keyOf
  rw [hu]
  have hfm : (aggK k).formed Try.prog 24 = true := by simp [Value.formed, hu, hck]
  simp only [hkt, hfm, Bool.and_self, if_true]
  have hcl : (aggK k).cells.toList = [.string k.e, .string k.a, .string k.f, .string k.p, .int .i64 k.m] := rfl
  rw [hcl, hlits]
  rfl
theorem klitK_inj {k k' : Key} (g : GoodK k) (g' : GoodK k') (h : klitK k = klitK k') : k = k' := by
  have h1 := keyOf_mkK k g
  have h2 := keyOf_mkK k' g'
  rw [← h] at h2
  have := lawK.inj h1 h2
  cases k; cases k'
  injection this with e
  injection e with e
  injection e with e0 e
  injection e with e1 e
  injection e with e2 e
  injection e with e3 e
  injection e with e4 e
  injection e0 with e0
  injection e1 with e1
  injection e2 with e2
  injection e3 with e3
  injection e4 with _ e4
  simp only at e0 e1 e2 e3 e4
  rw [e0, e1, e2, e3, e4]
theorem zero64 (w : World) : (zeroValue 2).run Try.prog w = .ok (.int .i64 0) w := by kernel_rfl
abbrev HadK (w : World) (b n : Nat) (D : DataW Unit) : Prop := w.ownsMap Try.prog 24 (plainElem (H := Unit) Try.prog 2) b n D
abbrev HadS (w : World) (b n : Nat) (D : DataW Unit) : Prop := w.ownsMap Try.prog 9 (plainElem (H := Unit) Try.prog 2) b n D
def z64 : DataW Unit := .lit (.int .i64 0)
def d64 (x : Int) : DataW Unit := .lit (.int .i64 x)
/-- The map has of each key what the facts come to. -/
structure WantOf (c : List Fact) (D : DataW Unit) : Prop where
  has : ∀ kl, Maps.has D kl = true → ∃ f ∈ c, kl = klitK f.key
  at_ : ∀ k, GoodK k → D.atKey (klitK k) z64 = d64 (isum c k)
theorem want_nil : WantOf [] (.map []) := ⟨fun kl h => by simp [Maps.has] at h, fun k _ => rfl⟩
theorem want_put {c : List Fact} {D : DataW Unit} (h : WantOf c D) (hD : IsMap D) (x : Fact) (gx : GoodK x.key) {y : Int} (hy : y = isum c x.key + x.amt) : WantOf (c ++ [x]) (D.put (klitK x.key) (d64 y)) := by
  refine ⟨fun kl hk => ?_, fun k gk => ?_⟩
  · by_cases e : kl = klitK x.key
    · exact ⟨x, by simp, e⟩
    · rw [has_put_other e] at hk
      obtain ⟨f, hf, e'⟩ := h.has kl hk
      exact ⟨f, List.mem_append_left _ hf, e'⟩
  · rw [isum_snoc]
    by_cases e : x.key = k
    · subst e
      rw [atKey_put_same hD (show WideAt.IsKeyLit (klitK x.key) from trivial), if_pos rfl, hy]
    · rw [atKey_put_other (fun e' => e (klitK_inj gk gx e').symm), h.at_ k gk, if_neg e, Int.add_zero]
/-- The map has of each entity what its facts come to. -/
structure EntOf (c : List Fact) (D : DataW Unit) : Prop where
  has : ∀ kl, Maps.has D kl = true → ∃ f ∈ c, kl = kS f.key.e
  at_ : ∀ s, D.atKey (kS s) z64 = d64 (psum (fun k => decide (k.e = s)) c)
theorem ent_nil : EntOf [] (.map []) := ⟨fun kl h => by simp [Maps.has] at h, fun k => rfl⟩
theorem ent_put {c : List Fact} {D : DataW Unit} (h : EntOf c D) (hD : IsMap D) (x : Fact) {y : Int} (hy : y = psum (fun k => decide (k.e = x.key.e)) c + x.amt) : EntOf (c ++ [x]) (D.put (kS x.key.e) (d64 y)) := by
  refine ⟨fun kl hk => ?_, fun s => ?_⟩
  · by_cases e : kl = kS x.key.e
    · exact ⟨x, by simp, e⟩
    · rw [has_put_other e] at hk
      obtain ⟨f, hf, e'⟩ := h.has kl hk
      exact ⟨f, List.mem_append_left _ hf, e'⟩
  · rw [psum_snoc]
    by_cases e : x.key.e = s
    · subst e
      rw [atKey_put_same hD (kS_key _), hy]; simp
    · rw [atKey_put_other (fun e' => e (kS_inj e').symm), h.at_ s]
      simp [e]
theorem d64_inj {x y : Int} (h : d64 x = .lit (.int .i64 y)) : y = x := by
  unfold d64 at h
  simp only [DataW.lit.injEq, Lit.int.injEq, true_and] at h
  exact h.symm
section
variable {ops : Array Oper} {rest : List Oper} {o : Oper} {a : Act} {Q : Exit → Act → World → Prop}
/-- The step of a loop over a map by keys. -/
theorem wpList_next_keys (w : World) (hg : o.guard = none) (it : Operand) (hop : o.op = Op.next it false) (b r n : Nat) (D : DataW Unit) (left : Lit → Bool) (cnt : Nat) (hit : a.eval it = .pointer (some ⟨r, 0, none⟩)) (h : w.ranges Try.prog 24 (plainElem (H := Unit) Try.prog 2) b r n D left cnt)
    {c : List Fact} (hW : WantOf c D) (hG : ∀ f ∈ c, GoodK f.key) (hL : ∀ kl, left kl = true → Maps.has D kl = true)
    (hDone : wpList Try.prog ops Q rest (a.put o.dst (.tuple #[.bool false])) w)
    (hMore : ∀ (k : Key) (w' : World) (cnt' : Nat), w'.ranges Try.prog 24 (plainElem (H := Unit) Try.prog 2) b r n D (fun z => left z && !z.sameKey (klitK k)) cnt' → cnt' < cnt → (∀ kl, (left kl && !kl.sameKey (klitK k)) = true → Maps.has D kl = true) →
      w.grownBy w' (some r) → (Instr.entry (.pointer (some ⟨r, 0, none⟩))).run Try.prog w' = .ok (.tuple #[aggK k, .int .i64 (isum c k)]) w' → wpList Try.prog ops Q rest (a.put o.dst (.tuple #[.bool true, aggK k, .int .i64 (isum c k)])) w') :
    wpList Try.prog ops Q (o :: rest) a w := by
  refine wpList_next_ranges w hg it hop 24 lawK _ (fun v : Value => v) (Value.int .i64) (fun key _ _ => ⟨key, rfl⟩) (fun v y hv => by obtain ⟨x, rfl, _⟩ := plainElem_int_inv Try.underlying2 hv; exact ⟨x, rfl⟩) b r n D left cnt hit h (fun _ _ => hDone) ?_
  intro x y kl dy w' cnt' hkey hlk hv hat hrg hlt hgr hsz hen
  obtain ⟨f, hf, rfl⟩ := hW.has kl (hL kl hlk)
  have e := lawK.inj hkey (keyOf_mkK f.key (hG f hf))
  subst e
  obtain ⟨y', ey, rfl, _⟩ := plainElem_int_inv Try.underlying2 hv
  cases ey
  have e2 : y = isum c f.key := d64_inj (by rw [← hW.at_ f.key (hG f hf)]; exact hat z64)
  subst e2
  exact hMore f.key w' cnt' hrg hlt (fun kl hk => hL kl (by rw [Bool.and_eq_true] at hk; exact hk.1)) hgr hen
/-- The step of a loop over a map by entities. -/
theorem wpList_next_ents (w : World) (hg : o.guard = none) (it : Operand) (hop : o.op = Op.next it false) (b r n : Nat) (D : DataW Unit) (left : Lit → Bool) (cnt : Nat) (hit : a.eval it = .pointer (some ⟨r, 0, none⟩)) (h : w.ranges Try.prog 9 (plainElem (H := Unit) Try.prog 2) b r n D left cnt)
    {c : List Fact} (hW : EntOf c D)
    (hDone : wpList Try.prog ops Q rest (a.put o.dst (.tuple #[.bool false])) w)
    (hMore : ∀ (s : ByteArray) (w' : World) (cnt' : Nat), w'.ranges Try.prog 9 (plainElem (H := Unit) Try.prog 2) b r n D (fun z => left z && !z.sameKey (kS s)) cnt' → cnt' < cnt →
      w.grownBy w' (some r) → (Instr.entry (.pointer (some ⟨r, 0, none⟩))).run Try.prog w' = .ok (.tuple #[.string s, .int .i64 (psum (fun k => decide (k.e = s)) c)]) w' → wpList Try.prog ops Q rest (a.put o.dst (.tuple #[.bool true, .string s, .int .i64 (psum (fun k => decide (k.e = s)) c)])) w') :
    wpList Try.prog ops Q (o :: rest) a w := by
  refine wpList_next_ranges w hg it hop 9 law9 _ Value.string (Value.int .i64) (fun key kl h => invK key kl h) (fun v y hv => by obtain ⟨x, rfl, _⟩ := plainElem_int_inv Try.underlying2 hv; exact ⟨x, rfl⟩) b r n D left cnt hit h (fun _ _ => hDone) ?_
  intro s y kl dy w' cnt' hkey hlk hv hat hrg hlt hgr hsz hen
  obtain rfl := keyS hkey
  obtain ⟨y', ey, rfl, _⟩ := plainElem_int_inv Try.underlying2 hv
  cases ey
  have e2 : y = psum (fun k => decide (k.e = s)) c := d64_inj (by rw [← hW.at_ s]; exact hat z64)
  subst e2
  exact hMore s w' cnt' hrg hlt hgr hen
end
section
variable {P : Program} {o : Oper} {a : Act} {w w' : World} {K : Act → World → Prop} {Q : Exit → Act → World → Prop}
/-- A look-up, an entry's place, and a store there, that stand by themselves. -/
theorem wp_lookup (t : TypeId) (m x : Operand) (v : Value) (hop : o.op = Op.lookup t m x false) (hr : (Instr.lookup t (a.eval m) (a.eval x) false).run P w = .ok v w') (h : K (a.put o.dst v) w') : o.wp P a w K Q := by
  unfold Oper.wp
  simp [execOp, hop, hr, Result.andThen]
  exact h
theorem wp_mapEntry (t : TypeId) (m x : Operand) (v : Value) (hop : o.op = Op.mapEntry t m x) (hr : (Instr.mapEntry t (a.eval m) (a.eval x)).run P w = .ok v w') (h : K (a.put o.dst v) w') : o.wp P a w K Q := by
  unfold Oper.wp
  simp [execOp, hop, hr, Result.andThen]
  exact h
theorem wp_entryStore (t : TypeId) (m s x : Operand) (hop : o.op = Op.entryStore t m s x) (hr : (Instr.entryStore t (a.eval m) (a.eval s) (a.eval x)).run P w = .ok () w') (h : K (a.put o.dst undef) w') : o.wp P a w K Q := by
  unfold Oper.wp
  simp [execOp, hop, hr, Result.andThen]
  exact h
end
/-- A world that is this one but for a block. -/
structure But (B : Nat) (w : World) where
  world : World
  grown : w.grownBy world (some B)
instance (B : Nat) (w : World) : Nonempty (But B w) := ⟨⟨w, World.grownBy.refl _ _⟩⟩
theorem cell_but {B : Nat} {w : World} {ad : Addr} {v : Value} (h : w.cell? ad = some v) (hB : ad.block ≠ B) (p : But B w) : p.world.cell? ad = some v := p.grown.cell h (fun e => hB (by cases e; rfl))
theorem but_in {B : Nat} {w0 w : World} (h : w0.grownBy w (some B)) : ∃ p : But B w0, w = p.world := ⟨⟨w, h⟩, rfl⟩
end Go.Proofs.Ytimeebildbmhaaa.Fa
/- The walk of FactGets: each key has the sum of its facts, and the sums of all parts are the sum of all. -/
namespace Go.Proofs.Ytimeebildbmhaaa.Fa
open Go.RowKit Go.Maps

theorem few_good {l : List Fact} (h : fewL l = true) (hz : ∀ f ∈ l, In64 f.key.m) : ∀ f ∈ l, GoodK f.key := fun f hf => by
  unfold fewL at h
  rw [Bool.and_eq_true] at h
  have := List.all_eq_true.1 h.1 f hf
  unfold shortB at this
  simp only [Bool.and_eq_true, decide_eq_true_eq] at this
  unfold GoodK maxLen
  have h2 := hz f hf
  refine ⟨by omega, by omega, by omega, by omega, h2⟩
/-- The map's entry of a key. -/
theorem want_entry {W : World} {B n : Nat} {D : DataW Unit} {c : List Fact} {x : Fact} (hm : HadK W B n D) (hw : WantOf c D) (gx : GoodK x.key) (hn : n < maxLen) :
    (Instr.lookup 56 (.map (some B)) (aggK x.key) false).run Try.prog W = .ok (.int .i64 (isum c x.key)) W ∧
    ∃ (v0 : Value) (st : Nat) (W2 : World), (Instr.mapEntry 56 (.map (some B)) (aggK x.key)).run Try.prog W = .ok (.tuple #[v0, .int .i64 (st : Int)]) W2 ∧ W.grownBy W2 (some B) ∧
      (Instr.lookup 56 (.map (some B)) (aggK x.key) false).run Try.prog W2 = .ok (.int .i64 (isum c x.key)) W2 ∧
      ∀ y, In64 y → ∃ W3, (Instr.entryStore 56 (.map (some B)) (.int .i64 (st : Int)) (.int .i64 y)).run Try.prog W2 = .ok () W3 ∧ HadK W3 B (n + 1) (D.put (klitK x.key) (d64 y)) ∧ W2.grownBy W3 (some B) := by
  have hkey := keyOf_mkK x.key gx
  have hT := Try.underlying56
  have hI := Try.underlying2
  constructor
  · obtain ⟨c0, hrun, hat, _⟩ := hm.lookup_int lawK hT hI (zero64 _) hkey
    have e : c0 = isum c x.key := d64_inj (by rw [← hw.at_ _ gx]; exact hat)
    rw [e] at hrun
    exact hrun
  · have hz0 : plainElem (H := Unit) Try.prog 2 (.int .i64 0) = some (.lit (.int .i64 0), []) := plainElem_int hI (by decide)
    obtain ⟨v0, st, W2, dv, he, hg2, ho2, hdv, hs⟩ := own_entry hm lawK hT (z := .int .i64 0) (fun u => zero64 u) hz0 hn hkey
    obtain ⟨c0, hrun, hat, _⟩ := ho2.lookup_int lawK hT hI (zero64 _) hkey
    have e : c0 = isum c x.key := by
      rw [atKey_put_same (hm.tidy lawK).isMap (show WideAt.IsKeyLit (klitK x.key) from trivial), hdv] at hat
      exact d64_inj (by rw [← hw.at_ _ gx]; exact hat)
    rw [e] at hrun
    refine ⟨v0, st, W2, he, hg2, hrun, fun y hy => ?_⟩
    obtain ⟨W3, h1, h2, h3⟩ := hs (.int .i64 y) _ _ (plainElem_int hI (wf_in64 hy))
    exact ⟨W3, h1, h2, h3⟩
theorem grown_drew (w : World) (B : Nat) : w.grownBy w.drew (some B) := ⟨rfl, rfl, rfl, Nat.le_refl _, fun _ _ _ => rfl⟩
theorem psum_le {B : Int} (hB : 0 ≤ B) {l : List Fact} (h : Bnd B l) (p : Key → Bool) (i : Nat) {n : Nat} (hn : l.length ≤ n) : -((n : Int) * B) ≤ psum p (l.take i) ∧ psum p (l.take i) ≤ (n : Int) * B :=
  psum_bnd hB (fun f hf => h f (List.mem_of_mem_take hf)) (by rw [List.length_take]; omega) p
theorem wrap_small {a b : Int} (ha : -675539944105574400 ≤ a ∧ a ≤ 675539944105574400) (hb : -4503599627370496 ≤ b ∧ b ≤ 4503599627370496) : wrap64 (a + b) = a + b ∧ IntKind.i64.wrap (a + b) = a + b ∧ In64 (a + b) := by
  have h : IntKind.i64.wrap (a + b) = a + b := by rw [IntKind.wrap_i64]; omega
  exact ⟨by unfold wrap64; omega, h, by unfold In64; omega⟩
set_option maxRecDepth 100000 in
set_option maxHeartbeats 16000000 in
theorem factGets_walk (v : Value) (L : List Fact) (w : World) (h : FactsV w v L) (hz : ∀ f ∈ L, In64 f.key.m ∧ In64 f.amt) : Calls Try.prog 6 #[v] w fun e w' => e = .returned (.bool true) ∧ Below w.heap.size w w' := by
  have HV := Lib.hid h
  have HZ := Lib.hid (fun f hf => (hz f hf).2)
  have HZK := Lib.hid (fun f hf => (hz f hf).1)
  obtain ⟨p, cp, rfl, _, _, _, _⟩ := h
  obtain ⟨n, hn⟩ : ∃ n, L.length = n := ⟨_, rfl⟩
  rw [hn] at HV ⊢
  have HN := Lib.hid hn
  clear hn hz
  have hmm := @run_makeMap Try.prog
  go_enter Try.func6, Try.ntmps6
  go_wp2_with fail
  refine (alive_any _).mono ?_
  rintro e w1 ⟨rfl, hb1⟩
  have HB1 := Lib.hid hb1
  have HV1 := Lib.hid (HV.out.keep hb1)
  clear hb1 HV
  go_wp2_with fail
  refine (few_any _ L _ HV1.out).mono ?_
  rintro e w2 ⟨rfl, hb2⟩
  have HB2 := Lib.hid (HB1.out.trans (hb2.mono HB1.out.size))
  have HV2 := Lib.hid (HV1.out.keep hb2)
  clear hb2 HV1 HB1
  cases hf : fewL L with
  | false =>
    clear hf
    go_wp2
    go_ret
    exact ⟨rfl, HB2.out⟩
  | true =>
  have HF := Lib.hid hf
  clear hf
  go_wp2_with fail
  refine (small_any _ L _ HV2.out).mono ?_
  rintro e w3 ⟨rfl, hb3⟩
  have HB3 := Lib.hid (HB2.out.trans (hb3.mono HB2.out.size))
  have HV3 := Lib.hid (HV2.out.keep hb3)
  clear hb3 HV2 HB2
  cases hs : smallL L with
  | false =>
    clear hs
    go_wp2
    go_ret
    exact ⟨rfl, HB3.out⟩
  | true =>
  have HFS := Lib.hid (few_small HF.out hs)
  have HLN : Hid (n ≤ 150 ∧ L.length ≤ 150) := Lib.hid (by have := few_length HF.out; have := HN.out; omega)
  clear hs
  have HGK := Lib.hid (few_good HF.out HZK.out)
  go_wp2_with fail
  refine (theirs_any _ L _ HV3.out (by have := HLN.out; omega)).mono ?_
  rintro e w4 ⟨v4, rfl, hr4, hb4⟩
  have HX4 := Lib.hid (els_of_own (E := encF) hr4)
  have HB4 := Lib.hid (HB3.out.trans (hb4.mono HB3.out.size))
  have HV4 := Lib.hid (HV3.out.keep hb4)
  clear hr4 hb4 HV3 HB3
  go_wp2_with fail
  have hO := of_any v4 L w4 HX4.out HZ.out (by have := HLN.out; omega)
  rw [HFS.out.1] at hO
  refine hO.mono ?_
  rintro e w5 ⟨v5, rfl, hv5, hb5⟩
  have hv5' : FactsV w5 v5 (cube L) := hv5
  have HBN := Lib.hid HFS.out.2.2.2
  have HRI := Lib.hid (cube_rise L)
  have HIC := Lib.hid (bnd_in64 HFS.out.2.1)
  have HGL := Lib.hid (getL_cube L)
  have HCL : Hid ((cube L).length ≤ 150) := Lib.hid HFS.out.2.2.1
  have HSL := Lib.hid (sumL_cube HFS.out.2.2.2 HLN.out.2)
  obtain ⟨C, hC⟩ : ∃ C, cube L = C := ⟨_, rfl⟩
  rw [hC] at HRI HIC HGL HCL HSL hv5'
  obtain ⟨p5, c5, rfl, _, hm5, _, _⟩ := id hv5'
  obtain ⟨m, hm⟩ : ∃ m, C.length = m := ⟨_, rfl⟩
  have HM := Lib.hid hm
  rw [hm] at hv5' HCL ⊢
  have HA5 := Lib.hid hv5'
  have HV5 := Lib.hid (HV4.out.keep hb5)
  have HB5 := Lib.hid (HB4.out.trans (hb5.mono HB4.out.size))
  have hn150 := HLN.out.1
  clear hO hb5 hC hm hv5 hv5' HX4 HB4 HV4 HFS HF HZ HZK
  obtain ⟨B1, hB1⟩ : ∃ B1, w5.heap.size = B1 := ⟨_, rfl⟩
  have HB6 : Hid (Below w5.heap.size w5 ((w5.alloc (.map #[] 0)).alloc (.map #[] 0))) := Lib.hid (((Below.refl w5.heap.size w5).alloc (Nat.le_refl _) _).alloc (by simp) _)
  have HH0 : Hid (HadK ((w5.alloc (.map #[] 0)).alloc (.map #[] 0)) w5.heap.size 0 (.map [])) := Lib.hid ((World.ownsMap_made _ _ _ _).alloc _)
  have HS0 : Hid (HadS ((w5.alloc (.map #[] 0)).alloc (.map #[] 0)) (w5.heap.size + 1) 0 (.map [])) := Lib.hid (by
    have := World.ownsMap_made (H := Unit) (w5.alloc (.map #[] 0)) Try.prog 9 (plainElem (H := Unit) Try.prog 2)
    rw [World.size_alloc] at this
    exact this)
  clear hB1 B1
  go_wp2
  go_loopw [6, 40] (fun s6 s40 wr => ∃ (i : Nat) (D1 D2 : DataW Unit), s40 = .int .i64 (i : Int) ∧ s6 = .int .i64 (psum (fun _ => true) (L.take i)) ∧ i ≤ n ∧ Hid (HadK wr w5.heap.size i D1) ∧ Hid (WantOf (L.take i) D1) ∧ Hid (HadS wr (w5.heap.size + 1) i D2) ∧ Hid (EntOf (L.take i) D2) ∧ Hid (Below w5.heap.size w5 wr)) (fun _ s40 _ => n - (intOf s40).toNat)
  case atStart => exact ⟨0, _, _, rfl, rfl, Nat.zero_le _, HH0, Lib.hid want_nil, HS0, Lib.hid ent_nil, HB6⟩
  case round =>
    obtain ⟨i, D1, D2, rfl, rfl, hin, HH, HW, HS, HE, HB⟩ := hrel
    by_cases hlt : i < n
    · obtain ⟨x, hx⟩ : ∃ x, L[i]? = some x := ⟨_, List.getElem?_eq_getElem (by rw [HN.out]; exact hlt)⟩
      obtain ⟨b, o, rfl, hat⟩ := ElsV.at_ HV5.out hx
      obtain ⟨r0, r1, r2, r3, r4, r5⟩ := fact6 (hat.keep HB.out hat.lt)
      simp only [show encF.k = 6 from rfl] at r0 r1 r2 r3 r4 r5
      have HTK : Hid (L.take (i + 1) = L.take i ++ [x]) := Lib.hid (by rw [List.take_add_one, hx]; rfl)
      have hxm := List.mem_of_getElem? hx
      have HGX := Lib.hid (HGK.out x hxm)
      have HXB := HBN.out x hxm
      have HKS : Hid (keyOf Try.prog 9 (.string x.key.e) = some (kS x.key.e)) := Lib.hid (WideMaps.keyOf_string_mk Try.underlying9 HGX.out.1)
      obtain ⟨W1, hW1⟩ : ∃ W1, wr.alloc (.cells #[.string x.key.e, .string x.key.a, .string x.key.f, .string x.key.p, .int .i64 x.key.m, .int .i64 x.amt] 28) = W1 := ⟨_, rfl⟩
      have HH1 : Hid (HadK W1 w5.heap.size i D1) := Lib.hid (by rw [← hW1]; exact World.ownsMap.alloc HH.out _)
      have HS1 : Hid (HadS W1 (w5.heap.size + 1) i D2) := Lib.hid (by rw [← hW1]; exact World.ownsMap.alloc HS.out _)
      have HB1 : Hid (Below w5.heap.size w5 W1) := Lib.hid (by rw [← hW1]; exact HB.out.alloc HB.out.size _)
      have HBX : Hid (BoxE encF W1 wr.heap.size 28 x) := Lib.hid (by rw [← hW1]; exact BoxE.new encF wr x 28)
      have hne : wr.heap.size ≠ w5.heap.size := by have := World.ownsMap.lt HH.out; omega
      obtain ⟨d0, d1, d2, d3, d4, d5⟩ := fact6 HBX.out.at0
      simp only [Nat.zero_add] at d0 d1 d2 d3 d4 d5
      have u0 := fun p : But w5.heap.size W1 => cell_but d0 hne p
      have u1 := fun p : But w5.heap.size W1 => cell_but d1 hne p
      have u2 := fun p : But w5.heap.size W1 => cell_but d2 hne p
      have u3 := fun p : But w5.heap.size W1 => cell_but d3 hne p
      have u4 := fun p : But w5.heap.size W1 => cell_but d4 hne p
      have u5 := fun p : But w5.heap.size W1 => cell_but d5 hne p
      have HNE := Lib.hid hne
      have HWE := Lib.hid (want_entry (x := x) (World.ownsMap.drew HH1.out) HW.out HGX.out (by unfold maxLen; omega))
      have hcb := small64 (l := L.take i) (fun f hf => HBN.out f (List.mem_of_mem_take hf)) (by rw [List.length_take]; have := HLN.out; omega)
      have hT := wrap_small (hcb (fun _ => true)) HXB
      have hcb2 := isum_bnd (B := 4503599627370496) (by decide) (l := L.take i) (fun f hf => HBN.out f (List.mem_of_mem_take hf)) (n := 150) (by rw [List.length_take]; have := HLN.out; omega) x.key
      have hC := wrap_small (a := isum (L.take i) x.key) (by omega) HXB
      have HEE : Hid (∀ ct, D2.atKey (kS x.key.e) (.lit (.int .i64 0)) = .lit (.int .i64 ct) → wrap64 (ct + x.amt) = psum (fun k => decide (k.e = x.key.e)) (L.take i) + x.amt) := Lib.hid (fun ct hct => by
        have e : ct = psum (fun k => decide (k.e = x.key.e)) (L.take i) := d64_inj (by rw [← HE.out.at_ x.key.e]; exact hct)
        rw [e]
        exact (wrap_small (hcb _) HXB).1)
      have HPT : Hid (psum (fun _ => true) (L.take (i + 1)) = psum (fun _ => true) (L.take i) + x.amt) := Lib.hid (by rw [HTK.out, psum_snoc]; simp)
      obtain ⟨T, hTT⟩ : ∃ T, psum (fun _ => true) (L.take i) = T := ⟨_, rfl⟩
      obtain ⟨c, hc⟩ : ∃ c, isum (L.take i) x.key = c := ⟨_, rfl⟩
      have HC := Lib.hid hc
      rw [hTT] at hT HPT ⊢
      rw [hc] at hC
      simp only [hc] at HWE
      obtain ⟨hT1, hT2, _⟩ := hT
      obtain ⟨hC1, hC2, hC3⟩ := hC
      have HC3 := Lib.hid hC3
      clear hx hat hxm hne HH HS hcb hcb2 hTT hc hC3 HXB d0 d1 d2 d3 d4 d5
      go_wp2_with fail
      try rw [hW1]
      clear hW1
      refine wp_region_plan_if (S := fun w' => ∃ p : But w5.heap.size W1, w' = p.world) (.two [0, 1, 2, 4, 5] 3 (.one [6] 7 (.one [8] 9 (.last []))) 7 (.one [8] 3 (.one [6] 9 (.last [])))) (by kernel_rfl) (by kernel_rfl) (fun d _ _ _ _ h => by cases d <;> exact h) (but_in (grown_drew _ _)) ?_
      simp only [wpPlan, pick, nth]
      repeat (go_big_quiet_step (fail))
      refine wpQuiet_nil ?_
      refine ⟨?_, ?_⟩
      · obtain ⟨h1, v0, st, w2, h2, g2, h4, h5⟩ := HWE.out
        obtain ⟨w3, h6, h7, g3⟩ := h5 (c + x.amt) HC3.out
        intro K hK
        refine alone_want (by kernel_rfl) ?_
        refine wp_lookup 56 _ _ _ rfl h1 ?_
        refine hK _ _ (but_in (grown_drew _ _)) ?_
        clear hK K
        simp only [Act.put, List.setIfInBounds_toArray, List.set_cons_zero, List.set_cons_succ]
        repeat (go_big_quiet_step (fail))
        refine wpQuiet_nil ?_
        intro K hK
        refine alone_want (by kernel_rfl) ?_
        refine wp_mapEntry 56 _ _ _ rfl h2 ?_
        refine hK _ _ (but_in ((grown_drew _ _).trans g2)) ?_
        clear hK K
        simp only [Act.put, List.setIfInBounds_toArray, List.set_cons_zero, List.set_cons_succ]
        repeat (go_big_quiet_step (fail))
        refine wpQuiet_nil ?_
        intro K hK
        refine alone_want (by kernel_rfl) ?_
        refine wp_entryStore 56 _ _ _ rfl h6 ?_
        refine hK _ _ (but_in (((grown_drew _ _).trans g2).trans g3)) ?_
        clear hK K
        simp only [Act.put]
        repeat (go_big_quiet_step (fail))
        refine wpQuiet_nil ?_
        have HH3 := Lib.hid h7
        have HG3 := Lib.hid (((grown_drew W1 w5.heap.size).trans g2).trans g3)
        have HS3 := Lib.hid (World.ownsMap.kept HS1.out HG3.out (by simp))
        have HB3 := Lib.hid (HB1.out.grown HG3.out HB1.out.size (fun j hj => by cases hj; exact Nat.le_refl _))
        have q0 := u0 ⟨w3, HG3.out⟩
        have q5 := u5 ⟨w3, HG3.out⟩
        dsimp only at q0 q5
        clear u0 u1 u2 u3 u4 u5 h1 h2 g2 h4 h5 h6 h7 g3
        go_wp2_with (first
          | (at_lookup; refine wpList_lookup_own_int _ rfl _ _ 57 rfl 9 2 .i64 law9 Try.underlying57 Try.underlying2 (zero64 _) (w5.heap.size + 1) i D2 rfl HS3.out _ _ rfl HKS.out ?_; intro ct hct hwct)
          | (at_mapUpdate; refine wpList_mapUpdate_own _ rfl _ _ _ 57 rfl 9 2 law9 Try.underlying57 (plainElem (H := Unit) Try.prog 2) (w5.heap.size + 1) i D2 rfl HS3.out (by unfold maxLen; omega) _ _ (kS x.key.e) rfl rfl HKS.out _ [] (plainElem_int Try.underlying2 (wrap64_wf _)) ?_; intro w7 hown7 hg7; go_frame)
          | fail)
        have HH7 := Lib.hid (World.ownsMap.kept HH3.out hg7 (by simp))
        have HS7 := Lib.hid hown7
        have HB7 := Lib.hid (HB3.out.grown hg7 HB3.out.size (fun j hj => by cases hj; omega))
        have HE7 := Lib.hid (ent_put HE.out (World.ownsMap.tidy HS3.out law9).isMap x (HEE.out ct hct))
        have HW7 := Lib.hid (want_put HW.out (World.ownsMap.tidy HH1.out lawK).isMap x HGX.out (show c + x.amt = _ by rw [HC.out]))
        rw [← HTK.out] at HE7 HW7
        clear hown7 hg7
        go_roundw
        case rel => exact ⟨i + 1, _, _, by go_num, by rw [HPT.out], by omega, HH7, HW7, HS7, HE7, HB7⟩
        case measure => simp [intOf]; omega
      · obtain ⟨h1, v0, st, w2, h2, g2, h4, h5⟩ := HWE.out
        obtain ⟨w3, h6, h7, g3⟩ := h5 (c + x.amt) HC3.out
        intro K hK
        refine alone_want (by kernel_rfl) ?_
        refine wp_mapEntry 56 _ _ _ rfl h2 ?_
        refine hK _ _ (but_in ((grown_drew _ _).trans g2)) ?_
        clear hK K
        simp only [Act.put, List.setIfInBounds_toArray, List.set_cons_zero, List.set_cons_succ]
        repeat (go_big_quiet_step (fail))
        refine wpQuiet_nil ?_
        intro K hK
        refine alone_want (by kernel_rfl) ?_
        refine wp_lookup 56 _ _ _ rfl h4 ?_
        refine hK _ _ (but_in ((grown_drew _ _).trans g2)) ?_
        clear hK K
        simp only [Act.put, List.setIfInBounds_toArray, List.set_cons_zero, List.set_cons_succ]
        repeat (go_big_quiet_step (fail))
        refine wpQuiet_nil ?_
        intro K hK
        refine alone_want (by kernel_rfl) ?_
        refine wp_entryStore 56 _ _ _ rfl h6 ?_
        refine hK _ _ (but_in (((grown_drew _ _).trans g2).trans g3)) ?_
        clear hK K
        simp only [Act.put]
        repeat (go_big_quiet_step (fail))
        refine wpQuiet_nil ?_
        have HH3 := Lib.hid h7
        have HG3 := Lib.hid (((grown_drew W1 w5.heap.size).trans g2).trans g3)
        have HS3 := Lib.hid (World.ownsMap.kept HS1.out HG3.out (by simp))
        have HB3 := Lib.hid (HB1.out.grown HG3.out HB1.out.size (fun j hj => by cases hj; exact Nat.le_refl _))
        have q0 := u0 ⟨w3, HG3.out⟩
        have q5 := u5 ⟨w3, HG3.out⟩
        dsimp only at q0 q5
        clear u0 u1 u2 u3 u4 u5 h1 h2 g2 h4 h5 h6 h7 g3
        go_wp2_with (first
          | (at_lookup; refine wpList_lookup_own_int _ rfl _ _ 57 rfl 9 2 .i64 law9 Try.underlying57 Try.underlying2 (zero64 _) (w5.heap.size + 1) i D2 rfl HS3.out _ _ rfl HKS.out ?_; intro ct hct hwct)
          | (at_mapUpdate; refine wpList_mapUpdate_own _ rfl _ _ _ 57 rfl 9 2 law9 Try.underlying57 (plainElem (H := Unit) Try.prog 2) (w5.heap.size + 1) i D2 rfl HS3.out (by unfold maxLen; omega) _ _ (kS x.key.e) rfl rfl HKS.out _ [] (plainElem_int Try.underlying2 (wrap64_wf _)) ?_; intro w7 hown7 hg7; go_frame)
          | fail)
        have HH7 := Lib.hid (World.ownsMap.kept HH3.out hg7 (by simp))
        have HS7 := Lib.hid hown7
        have HB7 := Lib.hid (HB3.out.grown hg7 HB3.out.size (fun j hj => by cases hj; omega))
        have HE7 := Lib.hid (ent_put HE.out (World.ownsMap.tidy HS3.out law9).isMap x (HEE.out ct hct))
        have HW7 := Lib.hid (want_put HW.out (World.ownsMap.tidy HH1.out lawK).isMap x HGX.out (show c + x.amt = _ by rw [HC.out]))
        rw [← HTK.out] at HE7 HW7
        clear hown7 hg7
        go_roundw
        case rel => exact ⟨i + 1, _, _, by go_num, by rw [HPT.out], by omega, HH7, HW7, HS7, HE7, HB7⟩
        case measure => simp [intOf]; omega
    · obtain rfl : i = n := by omega
      rename World => wa
      have hLn : L.take i = L := List.take_of_length_le (by rw [HN.out]; exact Nat.le_refl _)
      rw [hLn] at HW HE ⊢
      obtain ⟨T, hT⟩ : ∃ T, psum (fun _ => true) L = T := ⟨_, rfl⟩
      have HT := Lib.hid hT
      rw [hT]
      have HSZ := Lib.hid HB.out.size
      have HSL0 := Lib.hid (World.ownsMap.lt HS.out)
      clear hT hLn hlt HH0 HS0 HB6
      go_wp2_with (at_range; refine wpList_range_own _ rfl _ 56 rfl 24 2 lawK Try.underlying56 (plainElem (H := Unit) Try.prog 2) w5.heap.size i D1 rfl HH.out ?_; intro w0 hrg0 hg0 hs0)
      go_frame
      have HR0 := Lib.hid hrg0
      have HS0 := Lib.hid (World.ownsMap.kept HS.out hg0 (by simp))
      have HB0 := Lib.hid (HB.out.grown hg0 HB.out.size (fun j hj => by cases hj))
      clear hrg0 hg0 hs0
      go_loopw [10, 11] (fun _ _ wr => ∃ (left : Lit → Bool) (cnt : Nat), Hid (wr.ranges Try.prog 24 (plainElem (H := Unit) Try.prog 2) w5.heap.size wa.heap.size i D1 left cnt) ∧ Hid (∀ kl, left kl = true → Maps.has D1 kl = true) ∧ Hid (HadS wr (w5.heap.size + 1) i D2) ∧ Hid (Below w5.heap.size w5 wr)) (fun _ _ wr => wr.rangeLeft w5.heap.size wa.heap.size)
      case atStart => exact ⟨_, _, HR0, Lib.hid (fun _ h => h), HS0, HB0⟩
      case round =>
        obtain ⟨left, cnt, HRG, HLH, HSr, HBr⟩ := hrel
        go_wp2_with (first
          | (at_next; refine wpList_next_keys _ rfl _ rfl w5.heap.size wa.heap.size i D1 left cnt rfl HRG.out HW.out HGK.out HLH.out ?_ ?_)
          | (at_range; refine wpList_range_own _ rfl _ 57 rfl 9 2 law9 Try.underlying57 (plainElem (H := Unit) Try.prog 2) (w5.heap.size + 1) i D2 rfl HSr.out ?_; intro wb hrgb hgb hsb; go_frame)
          | fail)
        · have HRb := Lib.hid hrgb
          have HBb := Lib.hid (HBr.out.grown hgb HBr.out.size (fun j hj => by cases hj))
          have HSB := Lib.hid HBr.out.size
          obtain ⟨sb, hsb1⟩ : ∃ sb, wr.heap.size = sb := ⟨_, rfl⟩
          rw [hsb1] at HRb HSB ⊢
          clear hrgb hgb hsb hsb1 HRG HLH HSr HBr HR0 HS0 HB0
          go_loopw [12, 13] (fun _ _ wr => ∃ (left : Lit → Bool) (cnt : Nat), Hid (wr.ranges Try.prog 9 (plainElem (H := Unit) Try.prog 2) (w5.heap.size + 1) sb i D2 left cnt) ∧ Hid (Below w5.heap.size w5 wr)) (fun _ _ wr => wr.rangeLeft (w5.heap.size + 1) sb)
          case atStart => exact ⟨_, _, HRb, HBb⟩
          case round =>
            obtain ⟨leftE, cntE, HRGE, HBE⟩ := hrel
            go_wp2_with (at_next; refine wpList_next_ents _ rfl _ rfl (w5.heap.size + 1) sb i D2 leftE cntE rfl HRGE.out HE.out ?_ ?_)
            · have hG := sumP_any (.slice p5 m c5) C ⟨#[]⟩ ⟨#[]⟩ ⟨#[]⟩
              rw [HSL.out, show psum (fun k => askB ⟨#[]⟩ k.e) L = T by rw [← HT.out]; exact psum_congr fun f _ => by simp [askB]] at hG
              have HG := Lib.hid hG
              have hTs : (T == T) = true := by simp
              have HBZ := Lib.hid HBE.out
              clear hG HRGE HBE
              go_wp2_with fail
              refine (HG.out _ (HA5.out.keep HBZ.out) HIC.out (by have := HM.out; have := HCL.out; omega)).mono ?_
              rintro e w9 ⟨rfl, hb9⟩
              have HB9 := Lib.hid (HB5.out.trans ((HBZ.out.trans (hb9.mono HBZ.out.size)).mono HB5.out.size))
              clear hb9 HBZ HG
              go_wp2
              go_ret
              exact ⟨rfl, HB9.out⟩
            · intro s w8 cnt1 hrg1 hlt1 hg1 hen
              have HRG1 := Lib.hid hrg1
              have HLT1 := Lib.hid hlt1
              have HB1 := Lib.hid (HBE.out.grown hg1 HBE.out.size (fun j hj => by cases hj; exact HSB.out))
              have HLE := Lib.hid HRGE.out.left_eq
              obtain ⟨y, hy⟩ : ∃ y, psum (fun k => decide (k.e = s)) L = y := ⟨_, rfl⟩
              rw [hy] at hen ⊢
              have hG := sumP_any (.slice p5 m c5) C s ⟨#[]⟩ ⟨#[]⟩
              rw [HSL.out] at hG
              obtain ⟨z, hz⟩ : ∃ z, psum (fun k => askB s k.e) L = z := ⟨_, rfl⟩
              rw [hz] at hG
              have HG := Lib.hid hG
              have HZY : Hid (s ≠ ⟨#[]⟩ → z = y) := Lib.hid (fun h => by rw [← hz, ← hy, psum_ask h])
              clear hrg1 hlt1 hg1 hy hz hG HRGE HBE
              go_wp2_with fail
              refine (HG.out _ (HA5.out.keep HB1.out) HIC.out (by have := HM.out; have := HCL.out; omega)).mono ?_
              rintro e w9 ⟨rfl, hb9⟩
              have HRG9 := Lib.hid (HRG1.out.kept (below_grown0 hb9) (by simp) (by simp))
              have HB9 := Lib.hid (HB1.out.trans (hb9.mono HB1.out.size))
              clear hb9 hen HRG1 HB1 HG
              by_cases hs : s = ⟨#[]⟩
              · subst hs
                clear HZY
                go_wp2
                go_roundw
                case rel => exact ⟨_, cnt1, HRG9, HB9⟩
                case measure => rw [HRG9.out.left_eq, HLE.out]; exact HLT1.out
              · have hz : z = y := HZY.out hs
                subst hz
                have hse : s.toList.isEmpty = false := by simpa using toList_nil hs
                have hzz : (z == z) = true := by simp
                clear HZY hs
                go_wp2
                go_roundw
                case rel => exact ⟨_, cnt1, HRG9, HB9⟩
                case measure => rw [HRG9.out.left_eq, HLE.out]; exact HLT1.out
        · intro k w8 cnt1 hrg1 hlt1 hlh1 hg1 hen
          have HRG1 := Lib.hid hrg1
          have HLT1 := Lib.hid hlt1
          have HLH1 := Lib.hid hlh1
          have HS1 := Lib.hid (World.ownsMap.kept HSr.out hg1 (by simp; have := HSL0.out; omega))
          have HB1 := Lib.hid (HBr.out.grown hg1 HBr.out.size (fun j hj => by cases hj; exact HSZ.out))
          have HLE := Lib.hid HRG.out.left_eq
          have hbs : isum L k = isum L k := rfl
          obtain ⟨s, hs⟩ : ∃ s, isum L k = s := ⟨_, rfl⟩
          rw [hs] at hen ⊢
          have hG := get_any (.slice p5 m c5) C k
          rw [HGL.out, hs] at hG
          have HG := Lib.hid hG
          clear hrg1 hlt1 hlh1 hg1 hs hbs hG HRG HLH HSr HBr
          go_wp2_with fail
          refine (HG.out _ (HA5.out.keep (HB1.out.alloc HB1.out.size _)) HRI.out (by have := HM.out; have := HCL.out; omega)).mono ?_
          rintro e w9 ⟨rfl, hb9⟩
          have hb8 := ((Below.refl w8.heap.size w8).alloc (Nat.le_refl _) (.cells #[.string k.e, .string k.a, .string k.f, .string k.p, .int .i64 k.m] 24)).trans (hb9.mono (by simp))
          have HRG9 := Lib.hid (HRG1.out.kept (below_grown0 hb8) (by simp) (by simp))
          have HS9 := Lib.hid (World.ownsMap.kept HS1.out (below_grown0 hb8) (by simp))
          have HB9 := Lib.hid (HB1.out.trans (hb8.mono HB1.out.size))
          have hss : (s == s) = true := by simp
          clear hb8 hb9 hen HRG1 HS1 HB1 HG
          go_wp2
          go_roundw
          case rel => exact ⟨_, cnt1, HRG9, Lib.hid (fun kl hk => by rw [Bool.and_eq_true] at hk; exact HLH1.out kl hk.1 (by simpa using hk.2)), HS9, HB9⟩
          case measure => rw [HRG9.out.left_eq, HLE.out]; exact HLT1.out
end Go.Proofs.Ytimeebildbmhaaa.Fa
