
/- The walk of the document's Parse: the cube of any text, or none; what was there stays. -/
import Derived.Test.YtdnneognilffaaaGreatDoorCdDocPrint
import Derived.Test.YtdnneognilffaaaGreatDoorCdParse
import Derived.Test.YtdnneognilffaaaGreatDoorStoreEl
import Derived.Test.YtdnneognilffaaaGreatDoorFaOurs
import Derived.Lib.SmallJoins
namespace Go.Proofs.YtdnneognilffaaaGreatDoor.Cd
open Go.Proofs.YtdnneognilffaaaGreatDoor.Fa Go.RowKit

/-! ### Plain -/
theorem fieldsGo_le (cur l : List UInt8) : ∀ x ∈ fieldsGo cur l, x.length ≤ cur.length + l.length := by
  induction l generalizing cur with
  | nil =>
    intro x hx
    simp only [fieldsGo] at hx
    split at hx
    · cases hx
    · simp at hx; subst hx; simp
  | cons c r ih =>
    intro x hx
    simp only [fieldsGo] at hx
    split at hx
    · split at hx
      · have := ih [] x hx
        simp at this ⊢; omega
      · rcases List.mem_cons.1 hx with rfl | h
        · simp
        · have := ih [] x h
          simp at this ⊢; omega
    · have := ih _ x hx
      simp at this ⊢; omega
theorem wordsL_le {l x : List UInt8} (h : x ∈ wordsL l) : x.length ≤ l.length := by
  have h1 := fieldsGo_le [] (said l) x h
  have h2 := said_length l
  simp at h1; omega
theorem six_le {l : List UInt8} {ws : List ByteArray} (h : (wordsL l).map mkB = ws) : ∀ x ∈ ws, x.size ≤ l.length := by
  intro x hx
  rw [← h] at hx
  obtain ⟨y, hy, rfl⟩ := List.mem_map.1 hx
  rw [mkB_size]
  exact wordsL_le hy
theorem rfactOf_len {L : List ByteArray} (h : L.length ≠ 6) : rfactOf L = none := by
  match L, h with
  | [], _ | [_], _ | [_, _], _ | [_, _, _], _ | [_, _, _, _], _ | [_, _, _, _, _], _ => rfl
  | [_, _, _, _, _, _], h => exact absurd rfl h
  | _ :: _ :: _ :: _ :: _ :: _ :: _ :: _, _ => rfl
theorem rreadF_in64 {l : List UInt8} {f : Fact} (h : rreadF l = some f) : In64 f.key.m ∧ In64 f.amt := by
  unfold rreadF rfactOf at h
  split at h
  · unfold rfactW at h
    split at h
    · cases h; exact ⟨in64_of_fit (fit_parseV _), in64_of_fit (fit_parseV _)⟩
    · cases h
  · cases h
/-- How far the text has been read: of the line that began at a up to k. -/
def ReadTo (l : List UInt8) (first : Bool) (a k : Nat) (done : List Fact) : Prop := rreadP l = (rgo first ((l.drop a).take (k - a)) (l.drop k)).map (done ++ ·)
theorem readTo_in {l : List UInt8} {first : Bool} {a k : Nat} {done : List Fact} (h : ReadTo l first a k done) (hk : k < l.length) (ha : a ≤ k) (hc : l[k] ≠ 10) : ReadTo l first a (k + 1) done := by
  unfold ReadTo at h ⊢
  rw [h, List.drop_eq_getElem_cons hk, rgo_in _ _ _ _ hc]
  congr 2
  rw [show k + 1 - a = (k - a) + 1 by omega, List.take_succ_eq_append_getElem (by rw [List.length_drop]; omega), List.getElem_drop]
  congr 2
  simp only [show a + (k - a) = k by omega]
theorem readTo_first {l : List UInt8} {a k : Nat} {done : List Fact} (h : ReadTo l true a k done) (hk : k < l.length) (hc : l[k] = 10) : ReadTo l false (k + 1) (k + 1) done := by
  unfold ReadTo at h ⊢
  rw [h, List.drop_eq_getElem_cons hk, hc, rgo_first]
  simp
theorem readTo_next {l : List UInt8} {a k : Nat} {done : List Fact} {f : Fact} (h : ReadTo l false a k done) (hk : k < l.length) (hc : l[k] = 10) (hf : rreadF ((l.drop a).take (k - a)) = some f) : ReadTo l false (k + 1) (k + 1) (done ++ [f]) := by
  unfold ReadTo at h ⊢
  rw [h, List.drop_eq_getElem_cons hk, hc, rgo_some hf, Nat.sub_self, List.take_zero]
  cases rgo false [] (l.drop (k + 1)) <;> simp
theorem readTo_none {l : List UInt8} {a k : Nat} {done : List Fact} (h : ReadTo l false a k done) (hk : k < l.length) (hc : l[k] = 10) (hf : rreadF ((l.drop a).take (k - a)) = none) : parseP l = none := by
  unfold ReadTo at h
  refine rparse_none ?_
  rw [h, List.drop_eq_getElem_cons hk, hc, rgo_none hf]
  rfl
theorem readTo_end {l : List UInt8} {first : Bool} {a k : Nat} {done : List Fact} (h : ReadTo l first a k done) (hk : l.length ≤ k) : rreadP l = some done := by
  unfold ReadTo at h
  rw [h, List.drop_of_length_le hk]
  simp [rgo]
theorem readTo_start (l : List UInt8) : ReadTo l true 0 0 [] := by
  unfold ReadTo rreadP
  rw [List.drop_zero, List.take_zero]
  cases rgo true [] l <;> simp

/-! ### A key's box -/
def keyZ : Key := ⟨⟨#[]⟩, ⟨#[]⟩, ⟨#[]⟩, ⟨#[]⟩, 0⟩
theorem own_boxE {α : Type} {E : Enc α} {w : World} {B b : Nat} {t : TypeId} {a : α} (h : w.ownsRow B t E.k (.slice (some ⟨b, 0, none⟩) 1 1) 1 (flat E [a])) : BoxE E w b t a := by
  rcases h.2 with ⟨h', _⟩ | ⟨g, cap, cur, e, _, hg, _, _, hsz, htk⟩
  · cases h'
  · cases e
    unfold BoxE
    rw [hg]
    have : cur.toList = E.cs a := by
      rw [flat_one] at htk
      rw [← htk, List.take_of_length_le (by rw [Array.length_toList, hsz]; exact Nat.le_refl _)]
    rw [← this]
theorem wp_store_boxE {α : Type} {E : Enc α} {P : Program} {o : Oper} {a : Act} {w : World} {K : Act → World → Prop} {Q : Exit → Act → World → Prop} (ty : TypeId) (x y : Operand) (ho : o.op = .store ty x y)
    (g : Nat) (t : TypeId) (z0 z : α) (hx : a.eval x = .pointer (some ⟨g, 0, none⟩)) (hy : a.eval y = .agg (E.cs z).toArray) (hg : BoxE E w g t z0) (hti : (P.info? ty).map (·.size) = some E.k)
    (h : ∀ w', BoxE E w' g t z → w.grownBy w' (some g) → K (a.put o.dst undef) w') : o.wp P a w K Q :=
  wp_store_part ty x y ho g g 1 1 t [z0] 0 z (by rw [Nat.zero_mul]; exact hx) hy (box_own hg (Nat.le_refl _)) rfl (by omega) hti (fun w' h1 h2 => h w' (own_boxE h1) h2)
theorem box_p {W : World} {g : Nat} {t : TypeId} {k : Key} (h : BoxE encK W g t k) (u : ByteArray) : BoxE encK (W.setCell ⟨g, 3, none⟩ (.string u)) g t ⟨k.e, k.a, k.f, u, k.m⟩ := by
  unfold BoxE at h ⊢
  rw [Joins.block_setCell h]
  rfl
theorem box_m {W : World} {g : Nat} {t : TypeId} {k : Key} (h : BoxE encK W g t k) (m : Int) : BoxE encK (W.setCell ⟨g, 4, none⟩ (.int .i64 m)) g t ⟨k.e, k.a, k.f, k.p, m⟩ := by
  unfold BoxE at h ⊢
  rw [Joins.block_setCell h]
  rfl
theorem box_free {α : Type} {E : Enc α} {W : World} {g : Nat} {t : TypeId} {k : α} (h : BoxE E W g t k) (o : Nat) : W.frozen? ⟨g, o, none⟩ = false := by simp [World.frozen?, show W.heap[g]? = _ from h]
theorem infoRK : (Tryz.prog.info? 44).map (·.size) = some encK.k := by kernel_rfl
theorem words_cells {W : World} {B b cap : Nat} {e : TypeId} {ws : List ByteArray} (h : W.ownsRow B e 1 (.slice (some ⟨b, 0, none⟩) ws.length cap) ws.length (ws.map Value.string)) (i : Nat) (x : ByteArray) (hx : ws[i]? = some x) : W.cell? ⟨b, i, none⟩ = some (.string x) := by
  have := h.cells (g := b) rfl i (.string x) (by simp [hx])
  rwa [add_off, Nat.zero_add] at this
set_option maxRecDepth 100000 in
set_option maxHeartbeats 32000000 in
theorem rparse10_any (s : ByteArray) (w : World) (hs : s.size ≤ 30000) :
    Calls Tryz.prog 10 #[.string s] w fun e w' => ∃ v, e = .returned (.tuple #[v, .int .i64 (parsE s.data.toList)]) ∧ FactsV w' v (parsC s.data.toList) ∧ Below w.heap.size w w' := by
  have HSL := Lib.hid (size_list s)
  obtain ⟨E, hE⟩ : ∃ E, parsE s.data.toList = E := ⟨_, rfl⟩
  obtain ⟨C, hC⟩ : ∃ C, parsC s.data.toList = C := ⟨_, rfl⟩
  rw [hE, hC]
  have HEC := Lib.hid (And.intro hE hC)
  have HNO : Hid (parseP s.data.toList = none → E = 5 ∧ C = []) := Lib.hid (fun h => ⟨by rw [← HEC.out.1, (parsC_none h).2], by rw [← HEC.out.2, (parsC_none h).1]⟩)
  have HYES : Hid (∀ d, parseP s.data.toList = some d → E = 0 ∧ C = d) := Lib.hid (fun d h => ⟨by rw [← HEC.out.1, (parsC_some h).2], by rw [← HEC.out.2, (parsC_some h).1]⟩)
  clear hE hC
  go_enter Tryz.func10, Tryz.ntmps10
  go_wp2
  go_loopw [4, 5, 6, 7] (fun s4 s5 s6 s7 wr => ∃ (k a : Nat) (first : Bool) (done : List Fact), s7 = .int .i64 (k : Int) ∧ s5 = .int .i64 (a : Int) ∧ s6 = .bool first ∧ a ≤ k ∧ k ≤ s.size ∧ Hid (wr.ownsRow w.heap.size 46 6 s4 done.length (flat encF done)) ∧ Hid (Below w.heap.size w wr) ∧ Hid (ReadTo s.data.toList first a k done) ∧ Hid (done.length ≤ k ∧ In64s done)) (fun _ _ _ s7 _ => s.size - (intOf s7).toNat)
  case atStart => exact ⟨0, 0, true, [], rfl, rfl, rfl, Nat.le_refl _, Nat.zero_le _, Lib.hid (World.ownsRow_nil _ _ _ _), Lib.hid (Below.refl _ _), Lib.hid (readTo_start _), Lib.hid ⟨Nat.le_refl _, fun f hf => absurd hf (List.not_mem_nil)⟩⟩
  case round =>
    obtain ⟨k, a, first, done, rfl, rfl, rfl, hak, hks, HO, HB, HR, HD⟩ := hrel
    by_cases hlt : k < s.size
    · have hkl : k < s.data.toList.length := by rw [HSL.out]; exact hlt
      have hbyte : s[k] = s.data.toList[k] := by simp [ByteArray.getElem_eq_getElem_data]
      have hcb : s[k].toNat < 256 := UInt8.toNat_lt _
      by_cases h10 : s[k] = 10
      · have HC : Hid (s.data.toList[k] = 10) := Lib.hid (by rw [← hbyte]; exact h10)
        have n10 : ((s[k].toNat : Int) != 10) = false := by rw [h10]; rfl
        have c1 : (0 : Int) ≤ (a : Int) := by omega
        have c2 : (a : Int) ≤ (k : Int) := by omega
        have c3 : (k : Int) ≤ (s.size : Int) := by omega
        obtain ⟨cur, hcur⟩ : ∃ cur, (s.data.toList.drop a).take (k - a) = cur := ⟨_, rfl⟩
        obtain ⟨L, hL⟩ : ∃ L, s.extract a k = L := ⟨_, rfl⟩
        have HLD : Hid (L.data.toList = cur) := Lib.hid (by rw [← hL, piece_mid, mkB_data, hcur])
        have HLZ : Hid (L.size ≤ 30000) := Lib.hid (by rw [← hL, ByteArray.size_extract]; omega)
        have HCU := Lib.hid hcur
        clear hbyte h10 hcur
        go_wp2_with fail
        refine (lrwords_any L _ HLZ.out).mono ?_
        rintro e w2 ⟨v2, rfl, ho2, hb2⟩
        rw [HLD.out] at ho2
        obtain ⟨ws, hws⟩ : ∃ ws, (wordsL cur).map mkB = ws := ⟨_, rfl⟩
        rw [hws] at ho2
        have HWS := Lib.hid hws
        have HO2 := Lib.hid (row_below HO.out hb2)
        have HB2 := Lib.hid (HB.out.trans (hb2.mono HB.out.size))
        obtain ⟨pv2, cv2, rfl⟩ := row_slice' ho2
        have HW2 := Lib.hid ho2
        clear hb2 ho2 hws HO HB hL
        cases first with
        | true =>
          have HR2 := Lib.hid (readTo_first HR.out hkl HC.out)
          have HD2 : Hid (done.length ≤ k + 1 ∧ In64s done) := Lib.hid ⟨Nat.le_succ_of_le HD.out.1, HD.out.2⟩
          go_wp2
          go_roundw
          case rel => exact ⟨k + 1, k + 1, false, done, by go_num, by go_num, rfl, Nat.le_refl _, by omega, HO2, HB2, HR2, HD2⟩
          case measure => simp [intOf]; omega
        | false =>
          by_cases h6 : ws.length = 6
          · obtain ⟨x0, x1, x2, x3, m, n, rfl⟩ : ∃ x0 x1 x2 x3 m n, ws = [x0, x1, x2, x3, m, n] := by
              match ws, h6 with
              | [x0, x1, x2, x3, m, n], _ => exact ⟨_, _, _, _, _, _, rfl⟩
            have HMN : Hid (m.size ≤ maxLen ∧ n.size ≤ maxLen) := Lib.hid (by
              have h1 := six_le HWS.out m (by simp)
              have h2 := six_le HWS.out n (by simp)
              have h3 := HLZ.out
              rw [← size_list, HLD.out] at h3
              unfold maxLen
              omega)
            obtain ⟨b, cb, e3⟩ : ∃ b cb, Value.slice pv2 6 cv2 = .slice (some ⟨b, 0, none⟩) 6 cb := by
              rcases HW2.out.2 with ⟨_, h0⟩ | ⟨g', cap', _, e', _⟩
              · cases h0
              · exact ⟨g', cap', e'⟩
            cases e3
            have k0 := words_cells HW2.out 0 x0 rfl
            have k1 := words_cells HW2.out 1 x1 rfl
            have k2 := words_cells HW2.out 2 x2 rfl
            have k3 := words_cells HW2.out 3 x3 rfl
            have k4 := words_cells HW2.out 4 m rfl
            have k5 := words_cells HW2.out 5 n rfl
            have HLB : Hid (b < w2.heap.size) := Lib.hid (World.block_lt_of_cell? w2 _ k0)
            have u0 := fun p : Past w2 => cell_past k0 p
            have u1 := fun p : Past w2 => cell_past k1 p
            have u2 := fun p : Past w2 => cell_past k2 p
            have u3 := fun p : Past w2 => cell_past k3 p
            obtain ⟨wq, hwq⟩ : ∃ wq, w2.drew = wq := ⟨_, rfl⟩
            have HDQ : Hid (Below w2.heap.size w2 wq) := Lib.hid (by rw [← hwq]; exact ⟨rfl, rfl, rfl, Nat.le_refl _, fun _ _ => rfl⟩)
            have HZQ : Hid (BoxE encK (wq.alloc (.cells #[.string ⟨#[]⟩, .string ⟨#[]⟩, .string ⟨#[]⟩, .string ⟨#[]⟩, .int .i64 0] 44)) wq.heap.size 44 keyZ) := Lib.hid (BoxE.new encK wq keyZ _)
            have HDA : Hid (Below w2.heap.size w2 (wq.alloc (.cells #[.string ⟨#[]⟩, .string ⟨#[]⟩, .string ⟨#[]⟩, .string ⟨#[]⟩, .int .i64 0] 44))) := Lib.hid (HDQ.out.alloc HDQ.out.size _)
            clear h6 k0 k1 k2 k3
            go_wp2_with fail
            refine wp_region_plan (.one [0, 1, 2, 3, 4, 5, 6, 7, 8, 9, 10, 11, 12] 13 (.one [] 14 (.last []))) (by kernel_rfl) (by kernel_rfl) (fun d _ _ _ _ h => by cases d <;> exact h) ?_
            rw [hwq]
            clear hwq
            simp only [wpPlan, pick, nth]
            repeat (go_big_quiet_step (fail))
            refine wpQuiet_nil ?_
            intro K hK
            refine alone_want (by kernel_rfl) ?_
            go_big_op
            refine hK _ _ (past_in HDA.out) ?_
            clear hK K
            refine wpQuiet_nil ?_
            intro K hK
            refine alone_want (by kernel_rfl) ?_
            refine wp_store_boxE (E := encK) 44 _ _ rfl wq.heap.size 44 keyZ ⟨x0, x1, x2, x3, 0⟩ rfl rfl HZQ.out infoRK ?_
            intro w4 hbx4 hg4
            have HB4 := Lib.hid (HDA.out.grown hg4 HDA.out.size (fun k e => by cases e; exact HDQ.out.size))
            have HX4 := Lib.hid hbx4
            obtain ⟨g, hg⟩ : ∃ g, wq.heap.size = g := ⟨_, rfl⟩
            have HGE : Hid (w2.heap.size ≤ g) := Lib.hid (by rw [← hg]; exact HDQ.out.size)
            clear hbx4 hg4 u0 u1 u2 u3
            refine hK _ _ (past_in HB4.out) ?_
            clear hK K
            simp only [Act.put]
            refine wpQuiet_nil ?_
            rw [hg] at HX4 ⊢
            clear hg
            have k4 := (HB4.out.cell (p := ⟨b, 4, none⟩) HLB.out).trans k4
            have k5 := (HB4.out.cell (p := ⟨b, 5, none⟩) HLB.out).trans k5
            obtain ⟨j0, j1, j2, j3, j4⟩ := key5 HX4.out.at0
            simp only [Nat.zero_add] at j0 j1 j2 j3 j4
            by_cases hd : x3 = ⟨#[45]⟩
            · subst hd
              have hde : ((⟨#[45]⟩ : ByteArray).toList == [45]) = true := by rw [ByteArray.toList_eq]; rfl
              have f3 := box_free HX4.out 3
              obtain ⟨WX, hWX⟩ : ∃ WX, w4.setCell ⟨g, 3, none⟩ (.string ⟨#[]⟩) = WX := ⟨_, rfl⟩
              have HBX : Hid (BoxE encK WX g 44 ⟨x0, x1, x2, ⟨#[]⟩, 0⟩) := Lib.hid (by rw [← hWX]; exact box_p HX4.out ⟨#[]⟩)
              have HBWX : Hid (Below w2.heap.size w2 WX) := Lib.hid (by rw [← hWX]; exact HB4.out.setCell (p := ⟨g, 3, none⟩) HGE.out _)
              have HBWW := Lib.hid (HB2.out.trans (HBWX.out.mono HB2.out.size))
              have k4 : WX.cell? ⟨b, 4, none⟩ = some (.string m) := (HBWX.out.cell (p := ⟨b, 4, none⟩) HLB.out).trans (words_cells HW2.out 4 m rfl)
              have k5 : WX.cell? ⟨b, 5, none⟩ = some (.string n) := (HBWX.out.cell (p := ⟨b, 5, none⟩) HLB.out).trans (words_cells HW2.out 5 n rfl)
              go_wp2_with fail
              refine (rparse_any m _ HMN.out.1).mono ?_
              rintro e w5 ⟨rfl, rfl⟩
              go_wp2_with fail
              refine (rparse_any n _ HMN.out.2).mono ?_
              rintro e w5 ⟨rfl, rfl⟩
              obtain ⟨EM, hEM⟩ : ∃ EM, parseE m.data.toList = EM := ⟨_, rfl⟩
              obtain ⟨EN, hEN⟩ : ∃ EN, parseE n.data.toList = EN := ⟨_, rfl⟩
              obtain ⟨VM, hVM⟩ : ∃ VM, parseV m.data.toList = VM := ⟨_, rfl⟩
              obtain ⟨VN, hVN⟩ : ∃ VN, parseV n.data.toList = VN := ⟨_, rfl⟩
              have HRF : Hid (rreadF ((s.data.toList.drop a).take (k - a)) = if (EM = 0 ∧ EN = 0) ∧ 0 ≤ VM ∧ VM ≤ 4 then some ⟨⟨x0, x1, x2, ⟨#[]⟩, VM⟩, VN⟩ else none) := Lib.hid (by
                rw [HCU.out, ← hEM, ← hEN, ← hVM, ← hVN]
                unfold rreadF
                rw [HWS.out]
                show rfactW x0 x1 x2 _ m n = _
                unfold rfactW
                rw [show unpart ⟨#[45]⟩ = ⟨#[]⟩ from rfl])
              rw [hEM, hEN, hVM, hVN]
              clear hEM hEN hVM hVN k4 k5
              by_cases hem : EM = 0
              · have gm : (EM != 0) = false := by rw [hem]; rfl
                by_cases hen : EN = 0
                · have gn : (EN != 0) = false := by rw [hen]; rfl
                  by_cases hv0 : 0 ≤ VM
                  · by_cases hv4 : VM ≤ 4
                    · have HF : Hid (rreadF ((s.data.toList.drop a).take (k - a)) = some ⟨⟨x0, x1, x2, ⟨#[]⟩, VM⟩, VN⟩) := Lib.hid (by rw [HRF.out, if_pos ⟨⟨hem, hen⟩, hv0, hv4⟩])
                      have HR2 := Lib.hid (readTo_next HR.out hkl HC.out HF.out)
                      have HD2 : Hid ((done ++ [(⟨⟨x0, x1, x2, ⟨#[]⟩, VM⟩, VN⟩ : Fact)]).length ≤ k + 1 ∧ In64s (done ++ [⟨⟨x0, x1, x2, ⟨#[]⟩, VM⟩, VN⟩])) := Lib.hid ⟨by rw [List.length_append, List.length_singleton]; have := HD.out.1; omega, fun f hf => by
                        rcases List.mem_append.1 hf with hf | hf
                        · exact HD.out.2 f hf
                        · rw [List.mem_singleton.1 hf]; exact rreadF_in64 HF.out⟩
                      have hv0' : ¬ VM < 0 := by omega
                      have hv4' : ¬ 4 < VM := by omega
                      obtain ⟨-, -, -, -, j4⟩ := key5 HBX.out.at0
                      simp only [Nat.zero_add] at j4
                      have f4 := box_free HBX.out 4
                      obtain ⟨W7, hW7⟩ : ∃ W7, WX.setCell ⟨g, 4, none⟩ (.int .i64 VM) = W7 := ⟨_, rfl⟩
                      have HB7x : Hid (BoxE encK W7 g 44 ⟨x0, x1, x2, ⟨#[]⟩, VM⟩) := Lib.hid (by rw [← hW7]; exact box_m HBX.out VM)
                      have HB7 : Hid (Below w2.heap.size w2 W7) := Lib.hid (by rw [← hW7]; exact HBWX.out.setCell (p := ⟨g, 4, none⟩) HGE.out _)
                      obtain ⟨q0, q1, q2, q3, q4⟩ := key5 HB7x.out.at0
                      simp only [Nat.zero_add] at q0 q1 q2 q3 q4
                      have HO7 := Lib.hid (row_below HO2.out HB7.out)
                      have HBW7 := Lib.hid (HB2.out.trans (HB7.out.mono HB2.out.size))
                      clear hem hen hv0 hv4 HRF
                      go_wp2_with (at_builtin; refine wpList_append_el (E := encF) rfl _ _ 22 46 rfl infoR w.heap.size done ⟨⟨x0, x1, x2, ⟨#[]⟩, VM⟩, VN⟩ W7.heap.size (HO7.out.alloc _) rfl (el_new encF _ _ _) (by have := HBW7.out.size; simp; omega) (by have := HD.out.1; omega) ?_; intro v9 w9 hr9 hb9 hg9)
                      have HR9 := Lib.hid hr9
                      have HB9 : Hid (Below w.heap.size w w9) := Lib.hid ((HBW7.out.alloc HBW7.out.size _).trans hb9)
                      clear hr9 hb9 hg9 hW7 j4 f4 q0 q1 q2 q3 q4
                      go_wp2
                      go_roundw
                      case rel => exact ⟨k + 1, k + 1, false, done ++ [(⟨⟨x0, x1, x2, ⟨#[]⟩, VM⟩, VN⟩ : Fact)], by go_num, by go_num, rfl, Nat.le_refl _, by omega, HR9, HB9, HR2, HD2⟩
                      case measure => simp [intOf]; omega
                    · obtain ⟨rfl, rfl⟩ := HNO.out (readTo_none HR.out hkl HC.out (by rw [HRF.out, if_neg (fun h => hv4 h.2.2)]))
                      have hv0' : ¬ VM < 0 := by omega
                      have hv4' : 4 < VM := by omega
                      clear hem hen hv0 hv4 HRF
                      go_wp2
                      go_ret2
                      exact ⟨_, rfl, ElsV.nil _, HBWW.out⟩
                  · obtain ⟨rfl, rfl⟩ := HNO.out (readTo_none HR.out hkl HC.out (by rw [HRF.out, if_neg (fun h => hv0 h.2.1)]))
                    have hv0' : VM < 0 := by omega
                    clear hem hen hv0 HRF
                    go_wp2
                    go_ret2
                    exact ⟨_, rfl, ElsV.nil _, HBWW.out⟩
                · obtain ⟨rfl, rfl⟩ := HNO.out (readTo_none HR.out hkl HC.out (by rw [HRF.out, if_neg (fun h => hen h.1.2)]))
                  have gn : (EN != 0) = true := by rw [bne_iff_ne]; exact hen
                  clear hem hen HRF
                  go_wp2
                  go_ret2
                  exact ⟨_, rfl, ElsV.nil _, HBWW.out⟩
              · obtain ⟨rfl, rfl⟩ := HNO.out (readTo_none HR.out hkl HC.out (by rw [HRF.out, if_neg (fun h => hem h.1.1)]))
                have gm : (EM != 0) = true := by rw [bne_iff_ne]; exact hem
                clear hem HRF
                go_wp2
                go_ret2
                exact ⟨_, rfl, ElsV.nil _, HBWW.out⟩
            · have hde : (x3.toList == [45]) = false := by
                rw [beq_eq_false_iff_ne]
                exact fun e => hd (toList_inj (e.trans (ByteArray.toList_eq ⟨#[45]⟩).symm))
              have HUN : Hid (unpart x3 = x3) := Lib.hid (if_neg hd)
              obtain ⟨WX, hWX⟩ : ∃ WX, w4 = WX := ⟨_, rfl⟩
              subst hWX
              have HBX := HX4
              have HBWX := HB4
              have HBWW := Lib.hid (HB2.out.trans (HBWX.out.mono HB2.out.size))
              clear hd
              go_wp2_with fail
              refine (rparse_any m _ HMN.out.1).mono ?_
              rintro e w5 ⟨rfl, rfl⟩
              go_wp2_with fail
              refine (rparse_any n _ HMN.out.2).mono ?_
              rintro e w5 ⟨rfl, rfl⟩
              obtain ⟨EM, hEM⟩ : ∃ EM, parseE m.data.toList = EM := ⟨_, rfl⟩
              obtain ⟨EN, hEN⟩ : ∃ EN, parseE n.data.toList = EN := ⟨_, rfl⟩
              obtain ⟨VM, hVM⟩ : ∃ VM, parseV m.data.toList = VM := ⟨_, rfl⟩
              obtain ⟨VN, hVN⟩ : ∃ VN, parseV n.data.toList = VN := ⟨_, rfl⟩
              have HRF : Hid (rreadF ((s.data.toList.drop a).take (k - a)) = if (EM = 0 ∧ EN = 0) ∧ 0 ≤ VM ∧ VM ≤ 4 then some ⟨⟨x0, x1, x2, x3, VM⟩, VN⟩ else none) := Lib.hid (by
                rw [HCU.out, ← hEM, ← hEN, ← hVM, ← hVN]
                unfold rreadF
                rw [HWS.out]
                show rfactW x0 x1 x2 _ m n = _
                unfold rfactW
                rw [HUN.out])
              rw [hEM, hEN, hVM, hVN]
              clear hEM hEN hVM hVN k4 k5
              by_cases hem : EM = 0
              · have gm : (EM != 0) = false := by rw [hem]; rfl
                by_cases hen : EN = 0
                · have gn : (EN != 0) = false := by rw [hen]; rfl
                  by_cases hv0 : 0 ≤ VM
                  · by_cases hv4 : VM ≤ 4
                    · have HF : Hid (rreadF ((s.data.toList.drop a).take (k - a)) = some ⟨⟨x0, x1, x2, x3, VM⟩, VN⟩) := Lib.hid (by rw [HRF.out, if_pos ⟨⟨hem, hen⟩, hv0, hv4⟩])
                      have HR2 := Lib.hid (readTo_next HR.out hkl HC.out HF.out)
                      have HD2 : Hid ((done ++ [(⟨⟨x0, x1, x2, x3, VM⟩, VN⟩ : Fact)]).length ≤ k + 1 ∧ In64s (done ++ [⟨⟨x0, x1, x2, x3, VM⟩, VN⟩])) := Lib.hid ⟨by rw [List.length_append, List.length_singleton]; have := HD.out.1; omega, fun f hf => by
                        rcases List.mem_append.1 hf with hf | hf
                        · exact HD.out.2 f hf
                        · rw [List.mem_singleton.1 hf]; exact rreadF_in64 HF.out⟩
                      have hv0' : ¬ VM < 0 := by omega
                      have hv4' : ¬ 4 < VM := by omega
                      obtain ⟨-, -, -, -, j4⟩ := key5 HBX.out.at0
                      simp only [Nat.zero_add] at j4
                      have f4 := box_free HBX.out 4
                      obtain ⟨W7, hW7⟩ : ∃ W7, w4.setCell ⟨g, 4, none⟩ (.int .i64 VM) = W7 := ⟨_, rfl⟩
                      have HB7x : Hid (BoxE encK W7 g 44 ⟨x0, x1, x2, x3, VM⟩) := Lib.hid (by rw [← hW7]; exact box_m HBX.out VM)
                      have HB7 : Hid (Below w2.heap.size w2 W7) := Lib.hid (by rw [← hW7]; exact HBWX.out.setCell (p := ⟨g, 4, none⟩) HGE.out _)
                      obtain ⟨q0, q1, q2, q3, q4⟩ := key5 HB7x.out.at0
                      simp only [Nat.zero_add] at q0 q1 q2 q3 q4
                      have HO7 := Lib.hid (row_below HO2.out HB7.out)
                      have HBW7 := Lib.hid (HB2.out.trans (HB7.out.mono HB2.out.size))
                      clear hem hen hv0 hv4 HRF
                      go_wp2_with (at_builtin; refine wpList_append_el (E := encF) rfl _ _ 22 46 rfl infoR w.heap.size done ⟨⟨x0, x1, x2, x3, VM⟩, VN⟩ W7.heap.size (HO7.out.alloc _) rfl (el_new encF _ _ _) (by have := HBW7.out.size; simp; omega) (by have := HD.out.1; omega) ?_; intro v9 w9 hr9 hb9 hg9)
                      have HR9 := Lib.hid hr9
                      have HB9 : Hid (Below w.heap.size w w9) := Lib.hid ((HBW7.out.alloc HBW7.out.size _).trans hb9)
                      clear hr9 hb9 hg9 hW7 j4 f4 q0 q1 q2 q3 q4
                      go_wp2
                      go_roundw
                      case rel => exact ⟨k + 1, k + 1, false, done ++ [(⟨⟨x0, x1, x2, x3, VM⟩, VN⟩ : Fact)], by go_num, by go_num, rfl, Nat.le_refl _, by omega, HR9, HB9, HR2, HD2⟩
                      case measure => simp [intOf]; omega
                    · obtain ⟨rfl, rfl⟩ := HNO.out (readTo_none HR.out hkl HC.out (by rw [HRF.out, if_neg (fun h => hv4 h.2.2)]))
                      have hv0' : ¬ VM < 0 := by omega
                      have hv4' : 4 < VM := by omega
                      clear hem hen hv0 hv4 HRF
                      go_wp2
                      go_ret2
                      exact ⟨_, rfl, ElsV.nil _, HBWW.out⟩
                  · obtain ⟨rfl, rfl⟩ := HNO.out (readTo_none HR.out hkl HC.out (by rw [HRF.out, if_neg (fun h => hv0 h.2.1)]))
                    have hv0' : VM < 0 := by omega
                    clear hem hen hv0 HRF
                    go_wp2
                    go_ret2
                    exact ⟨_, rfl, ElsV.nil _, HBWW.out⟩
                · obtain ⟨rfl, rfl⟩ := HNO.out (readTo_none HR.out hkl HC.out (by rw [HRF.out, if_neg (fun h => hen h.1.2)]))
                  have gn : (EN != 0) = true := by rw [bne_iff_ne]; exact hen
                  clear hem hen HRF
                  go_wp2
                  go_ret2
                  exact ⟨_, rfl, ElsV.nil _, HBWW.out⟩
              · obtain ⟨rfl, rfl⟩ := HNO.out (readTo_none HR.out hkl HC.out (by rw [HRF.out, if_neg (fun h => hem h.1.1)]))
                have gm : (EM != 0) = true := by rw [bne_iff_ne]; exact hem
                clear hem HRF
                go_wp2
                go_ret2
                exact ⟨_, rfl, ElsV.nil _, HBWW.out⟩
          · have hne : ((ws.length : Int) != 6) = true := by simp; omega
            obtain ⟨rfl, rfl⟩ := HNO.out (readTo_none HR.out hkl HC.out (by rw [HCU.out]; unfold rreadF; rw [HWS.out]; exact rfactOf_len h6))
            clear h6
            go_wp2
            go_ret2
            exact ⟨_, rfl, ElsV.nil _, HB2.out⟩
      · have HR2 := Lib.hid (readTo_in HR.out hkl hak (by rw [← hbyte]; exact h10))
        have HD2 : Hid (done.length ≤ k + 1 ∧ In64s done) := Lib.hid ⟨Nat.le_succ_of_le HD.out.1, HD.out.2⟩
        have n10 : ((s[k].toNat : Int) != 10) = true := by
          rw [bne_iff_ne]
          intro e
          exact h10 (UInt8.toNat_inj.1 (by show _ = 10; omega))
        clear h10 hbyte
        go_wp2
        go_roundw
        case rel => exact ⟨k + 1, a, first, done, by go_num, rfl, rfl, by omega, by omega, HO, HB, HR2, HD2⟩
        case measure => simp [intOf]; omega
    · have HRD := Lib.hid (readTo_end HR.out (by rw [HSL.out]; omega))
      have HV := Lib.hid (els_of_own (E := encF) HO.out)
      obtain ⟨pv, cv, rfl⟩ := row_slice' HO.out
      go_wp2_with fail
      refine (rprint10_any _ done _ HV.out (by have := HD.out.1; omega) HD.out.2).mono ?_
      rintro e w2 ⟨rfl, hb2⟩
      have HV2 := Lib.hid (HV.out.keep hb2)
      have HB2 := Lib.hid (HB.out.trans (hb2.mono HB.out.size))
      clear hb2 HV HO HB HR
      cases hok : okC done with
      | false =>
        obtain ⟨rfl, rfl⟩ := HNO.out (rparse_miss HRD.out (fun h => by rw [hok] at h; exact absurd h.1 (by decide)))
        rw [prS_no hok, prE_no hok]
        clear hok
        go_wp2
        go_ret2
        exact ⟨_, rfl, ElsV.nil _, HB2.out⟩
      | true =>
        rw [prS_yes hok, prE_yes hok]
        by_cases ht : textL done = s.data.toList
        · obtain ⟨rfl, rfl⟩ := HYES.out done (rparse_hit ⟨hok, ht⟩ HD.out.2.fit)
          have hmk : mkB (textL C) = s := by rw [ht, mkB_list]
          rw [hmk]
          have hne : (s.toList == s.toList) = true := by simp
          clear hok ht hmk
          go_wp2
          go_ret2
          exact ⟨_, rfl, HV2.out, HB2.out⟩
        · obtain ⟨rfl, rfl⟩ := HNO.out (rparse_miss HRD.out (fun h => ht h.2))
          obtain ⟨OWN, hOWN⟩ : ∃ OWN, mkB (textL done) = OWN := ⟨_, rfl⟩
          have hne : (OWN.toList == s.toList) = false := by
            rw [beq_eq_false_iff_ne]
            exact fun e => ht (by rw [← toList_inj e, ← hOWN, mkB_data])
          rw [hOWN]
          clear hok ht hOWN
          go_wp2
          go_ret2
          exact ⟨_, rfl, ElsV.nil _, HB2.out⟩
end Go.Proofs.YtdnneognilffaaaGreatDoor.Cd
