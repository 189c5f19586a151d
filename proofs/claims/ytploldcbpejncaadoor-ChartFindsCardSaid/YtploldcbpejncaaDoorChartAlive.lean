
/- The walk of the statements' own check 'alive': it returns true. -/
import Derived.Test.YtploldcbpejncaaDoorChartParse
import Derived.Test.YtploldcbpejncaaDoorChartAdd
import Derived.Test.YtploldcbpejncaaDoorChartSame
import Derived.Test.YtploldcbpejncaaDoorChartWordsSame
import Derived.Deep.RegionHeld3
namespace Go.Proofs.YtploldcbpejncaaDoor
open Go.RowKit

def aBank : Acct := ⟨⟨#[98, 97, 110, 107]⟩, 0, true, false, ⟨#[]⟩, false⟩
def aPlant : Acct := ⟨⟨#[112, 108, 97, 110, 116]⟩, 0, false, false, ⟨#[107]⟩, true⟩
theorem right_bank : rightA aBank = true := by
  have h : nmB ⟨#[98, 97, 110, 107]⟩ = true := by decide
  simp [rightA, marksA, aBank, h, neB_empty]
theorem ne_k : neB ⟨#[107]⟩ = true := (neB_iff _).2 (by decide)
theorem right_plant : rightA aPlant = true := by
  have h : nmB ⟨#[112, 108, 97, 110, 116]⟩ = true := by decide
  have h2 : nmB ⟨#[107]⟩ = true := by decide
  simp [rightA, marksA, aPlant, h, h2, ne_k]
theorem words_bank : wordsA aBank = [tAccount, ⟨#[98, 97, 110, 107]⟩, tAsset, tCash] := by
  unfold wordsA; rw [right_bank]; simp [markW, aBank, clsW]
theorem words_plant : wordsA aPlant = [tAccount, ⟨#[112, 108, 97, 110, 116]⟩, tAsset, tWorn, ⟨#[107]⟩] := by
  unfold wordsA; rw [right_plant]; simp [markW, aPlant, clsW]
theorem parse_plant : parseA [tAccount, ⟨#[112, 108, 97, 110, 116]⟩, tAsset, tWorn, ⟨#[107]⟩] = (aPlant, 0) := parse_of right_plant words_plant
theorem gt_plant : gtS aPlant.code aBank.code = true := by
  rw [gtS_iff]; unfold ltS aPlant aBank
  rw [ByteArray.toList_eq, ByteArray.toList_eq]; decide
theorem ne_codes : aPlant.code ≠ aBank.code := by decide
theorem add1E : addE [] aPlant = 0 := by unfold addE; rw [right_plant]; rfl
theorem add1V : addV [] aPlant = [aPlant] := by unfold addV; rw [add1E]; rfl
theorem add2E : addE [aPlant] aBank = 0 := by unfold addE; rw [right_bank]; simp [findL, ne_codes]
theorem add2V : addV [aPlant] aBank = [aBank, aPlant] := by unfold addV; rw [add2E]; simp [insL, gt_plant]
theorem add3E : addE [aBank, aPlant] aBank = 7 := by unfold addE; rw [right_bank]; simp [findL]
theorem find_plant : findL [aBank, aPlant] ⟨#[112, 108, 97, 110, 116]⟩ = some aPlant := by
  have h1 : aBank.code ≠ ⟨#[112, 108, 97, 110, 116]⟩ := by decide
  have h2 : aPlant.code = ⟨#[112, 108, 97, 110, 116]⟩ := rfl
  simp [findL, h1, h2]
theorem four {W : World} {g1 g2 g3 b o : Nat} {a1 a2 : Acct} (h1 : BoxA W g1 28 a1) (h2 : BoxA W g2 28 a2) (h3 : BoxA W g3 28 a2) (h4 : AcctAt W b o a1) :
    (W.cell? ⟨g1, 0, none⟩ = some (.string a1.code) ∧ W.cell? ⟨g1, 1, none⟩ = some (.int .i64 a1.cls) ∧ W.cell? ⟨g1, 2, none⟩ = some (.bool a1.cash) ∧ W.cell? ⟨g1, 3, none⟩ = some (.bool a1.both) ∧ W.cell? ⟨g1, 4, none⟩ = some (.string a1.fixed) ∧ W.cell? ⟨g1, 5, none⟩ = some (.bool a1.worn)) ∧ (W.cell? ⟨g2, 0, none⟩ = some (.string a2.code) ∧ W.cell? ⟨g2, 1, none⟩ = some (.int .i64 a2.cls) ∧ W.cell? ⟨g2, 2, none⟩ = some (.bool a2.cash) ∧ W.cell? ⟨g2, 3, none⟩ = some (.bool a2.both) ∧ W.cell? ⟨g2, 4, none⟩ = some (.string a2.fixed) ∧ W.cell? ⟨g2, 5, none⟩ = some (.bool a2.worn)) ∧ (W.cell? ⟨g3, 0, none⟩ = some (.string a2.code) ∧ W.cell? ⟨g3, 1, none⟩ = some (.int .i64 a2.cls) ∧ W.cell? ⟨g3, 2, none⟩ = some (.bool a2.cash) ∧ W.cell? ⟨g3, 3, none⟩ = some (.bool a2.both) ∧ W.cell? ⟨g3, 4, none⟩ = some (.string a2.fixed) ∧ W.cell? ⟨g3, 5, none⟩ = some (.bool a2.worn)) ∧ (W.cell? ⟨b, o, none⟩ = some (.string a1.code) ∧ W.cell? ⟨b, o + 1, none⟩ = some (.int .i64 a1.cls) ∧ W.cell? ⟨b, o + 2, none⟩ = some (.bool a1.cash) ∧ W.cell? ⟨b, o + 3, none⟩ = some (.bool a1.both) ∧ W.cell? ⟨b, o + 4, none⟩ = some (.string a1.fixed) ∧ W.cell? ⟨b, o + 5, none⟩ = some (.bool a1.worn)) :=
  ⟨h1.facts, h2.facts, h3.facts, ⟨h4.c0, h4.c1, h4.c2, h4.c3, h4.c4, h4.c5⟩⟩
/-- What alive's last statement reads. -/
structure AliveAt (w W : World) (g1 g2 g3 b o : Nat) : Prop where
  b1 : BoxA W g1 28 aBank
  b2 : BoxA W g2 28 aPlant
  b3 : BoxA W g3 28 aPlant
  at4 : AcctAt W b o aBank
  bel : Below w.heap.size w W
theorem AliveAt.keep {w W W' : World} {g1 g2 g3 b o : Nat} (h : AliveAt w W g1 g2 g3 b o) (hb : Below W.heap.size W W') : AliveAt w W' g1 g2 g3 b o :=
  ⟨h.b1.keep hb (Array.getElem?_eq_some_iff.1 h.b1).1, h.b2.keep hb (Array.getElem?_eq_some_iff.1 h.b2).1, h.b3.keep hb (Array.getElem?_eq_some_iff.1 h.b3).1, h.at4.keep hb h.at4.lt, h.bel.trans (hb.mono h.bel.size)⟩
theorem AliveAt.drew {w W : World} {g1 g2 g3 b o : Nat} (h : AliveAt w W g1 g2 g3 b o) : AliveAt w W.drew g1 g2 g3 b o := h.keep ⟨rfl, rfl, rfl, Nat.le_refl _, fun _ _ => rfl⟩
theorem AliveAt.drewN {w W : World} {g1 g2 g3 b o : Nat} (h : AliveAt w W g1 g2 g3 b o) (q : Nat) : AliveAt w (W.drewN q) g1 g2 g3 b o := h.keep (below_drewN (Below.refl _ _) q)
theorem AliveAt.alloc {w W : World} {g1 g2 g3 b o : Nat} (h : AliveAt w W g1 g2 g3 b o) (x : Obj) : AliveAt w (W.alloc x) g1 g2 g3 b o := h.keep ((Below.refl _ _).alloc (Nat.le_refl _) x)
abbrev words4 : Array Value := #[.string ⟨#[97, 99, 99, 111, 117, 110, 116]⟩, .string ⟨#[98, 97, 110, 107]⟩, .string ⟨#[97, 115, 115, 101, 116]⟩, .string ⟨#[99, 97, 115, 104]⟩]
def W4 : List ByteArray := [tAccount, ⟨#[98, 97, 110, 107]⟩, tAsset, tCash]
theorem same4 {v u : Value} {W : World} (h : StrsV W v W4) (h' : StrsV W u W4) : Calls Tryd.prog 14 #[v, u] W fun e w' => e = .returned (.bool true) ∧ ∃ q, w' = W.drewN q := by
  have := sameWords_any v u W4 W4 W h h'
  rwa [show sameW W4 W4 = true from decide_eq_true rfl] at this
theorem AliveAt.four {w W : World} {g1 g2 g3 b o : Nat} (h : AliveAt w W g1 g2 g3 b o) {A P : Acct} (hA : aBank = A) (hP : aPlant = P) : (W.cell? ⟨g1, 0, none⟩ = some (.string A.code) ∧ W.cell? ⟨g1, 1, none⟩ = some (.int .i64 A.cls) ∧ W.cell? ⟨g1, 2, none⟩ = some (.bool A.cash) ∧ W.cell? ⟨g1, 3, none⟩ = some (.bool A.both) ∧ W.cell? ⟨g1, 4, none⟩ = some (.string A.fixed) ∧ W.cell? ⟨g1, 5, none⟩ = some (.bool A.worn)) ∧ (W.cell? ⟨g2, 0, none⟩ = some (.string P.code) ∧ W.cell? ⟨g2, 1, none⟩ = some (.int .i64 P.cls) ∧ W.cell? ⟨g2, 2, none⟩ = some (.bool P.cash) ∧ W.cell? ⟨g2, 3, none⟩ = some (.bool P.both) ∧ W.cell? ⟨g2, 4, none⟩ = some (.string P.fixed) ∧ W.cell? ⟨g2, 5, none⟩ = some (.bool P.worn)) ∧ (W.cell? ⟨g3, 0, none⟩ = some (.string P.code) ∧ W.cell? ⟨g3, 1, none⟩ = some (.int .i64 P.cls) ∧ W.cell? ⟨g3, 2, none⟩ = some (.bool P.cash) ∧ W.cell? ⟨g3, 3, none⟩ = some (.bool P.both) ∧ W.cell? ⟨g3, 4, none⟩ = some (.string P.fixed) ∧ W.cell? ⟨g3, 5, none⟩ = some (.bool P.worn)) ∧ (W.cell? ⟨b, o, none⟩ = some (.string A.code) ∧ W.cell? ⟨b, o + 1, none⟩ = some (.int .i64 A.cls) ∧ W.cell? ⟨b, o + 2, none⟩ = some (.bool A.cash) ∧ W.cell? ⟨b, o + 3, none⟩ = some (.bool A.both) ∧ W.cell? ⟨b, o + 4, none⟩ = some (.string A.fixed) ∧ W.cell? ⟨b, o + 5, none⟩ = some (.bool A.worn)) := by
  subst hA hP; exact Proofs.YtploldcbpejncaaDoor.four h.b1 h.b2 h.b3 h.at4
set_option maxRecDepth 100000 in
set_option maxHeartbeats 8000000 in
theorem alive_any (w : World) (hL : Laid w) : Calls Tryd.prog 8 #[] w fun e w' => e = .returned (.bool true) ∧ Below w.heap.size w w' := by
  have HB0 := Lib.hid ((Below.refl w.heap.size w).alloc (Nat.le_refl _) (.cells (cellsA aBank) 28))
  have HX0 := Lib.hid (BoxA.new w aBank 28)
  have HBB := Lib.hid ((Below.refl (w.alloc (.cells (cellsA aBank) 28)).heap.size (w.alloc (.cells (cellsA aBank) 28))).alloc (Nat.le_refl _) (.cells #[.string tAccount, .string ⟨#[112, 108, 97, 110, 116]⟩, .string tAsset, .string tWorn, .string ⟨#[107]⟩] 9))
  have HS0 := Lib.hid (strs_new (w.alloc (.cells (cellsA aBank) 28)) [tAccount, ⟨#[112, 108, 97, 110, 116]⟩, tAsset, tWorn, ⟨#[107]⟩] 9 (by decide))
  have HL1 := Lib.hid ((hL.below HB0.out (Nat.le_refl _)).below HBB.out (Nat.le_refl _))
  have HX1 := Lib.hid (HX0.out.keep HBB.out (by simp))
  have HB1 := Lib.hid (HB0.out.trans (HBB.out.mono HB0.out.size))
  clear hL HX0 HB0 HBB
  go_enter Tryd.func8, Tryd.ntmps8
  go_wp2_with fail
  have HPA := parse_any _ _ _ HS0.out HL1.out
  rw [parse_plant] at HPA
  rw [World.size_alloc] at HPA
  refine HPA.mono ?_
  rintro e w1 ⟨rfl, hb1⟩
  have HX1' := Lib.hid (HX1.out.keep hb1 (by simp; omega))
  have HL2 := Lib.hid (HL1.out.below hb1 (by simp))
  have HB2 := Lib.hid (HB1.out.trans (hb1.mono (by simp; omega)))
  have hs1 : w.heap.size < w1.heap.size := by have := hb1.size; simp at this; omega
  have HX2 := Lib.hid (HX1'.out.keep ((Below.refl w1.heap.size w1).alloc (Nat.le_refl _) (.cells (cellsA aPlant) 28)) hs1)
  have HY2 := Lib.hid (BoxA.new w1 aPlant 28)
  have HL3 := Lib.hid (HL2.out.below ((Below.refl w1.heap.size w1).alloc (Nat.le_refl _) (.cells (cellsA aPlant) 28)) (Nat.le_refl _))
  have HB3 := Lib.hid (HB2.out.alloc HB2.out.size (.cells (cellsA aPlant) 28))
  clear hb1 HX1' HL2 HB2 HX1 HL1 HB1 HPA HS0
  have HA1 := Lib.hid (add_any (.slice none 0 0) [] aPlant _ (ChartV.nil (w1.alloc (.cells (cellsA aPlant) 28))) (by simp))
  rw [add1E, add1V] at HA1
  go_wp2_with fail
  refine HA1.out.mono ?_
  rintro e w2 ⟨v2, rfl, hc2, hb2⟩
  have HC2 := Lib.hid hc2
  have HX3 := Lib.hid (HX2.out.keep hb2 (by simp; omega))
  have HY3 := Lib.hid (HY2.out.keep hb2 (by simp))
  have HL4 := Lib.hid (HL3.out.below hb2 (Nat.le_refl _))
  have HB4 := Lib.hid (HB3.out.trans (hb2.mono HB3.out.size))
  have hs2 : w1.heap.size < w2.heap.size := by have := hb2.size; simp at this; omega
  clear hc2 hb2 HX2 HY2 HL3 HB3 HA1
  have HA2 := Lib.hid (add_any v2 [aPlant] aBank _ HC2.out (by simp))
  rw [add2E, add2V] at HA2
  obtain ⟨c0, c1, c2, c3, c4, c5⟩ := HX3.out.facts
  go_wp2_with fail
  clear c0 c1 c2 c3 c4 c5
  refine HA2.out.mono ?_
  rintro e w3 ⟨v3, rfl, hc3, hb3⟩
  have HC3 := Lib.hid hc3
  have HX4 := Lib.hid (HX3.out.keep hb3 (by omega))
  have HY4 := Lib.hid (HY3.out.keep hb3 hs2)
  have HL5 := Lib.hid (HL4.out.below hb3 (Nat.le_refl _))
  have HB5 := Lib.hid (HB4.out.trans (hb3.mono HB4.out.size))
  have hs3 : w1.heap.size < w3.heap.size := Nat.lt_of_lt_of_le hs2 hb3.size
  clear hc3 hb3 HX3 HY3 HL4 HB4 HA2 HC2
  have HA3 := Lib.hid (add_any v3 [aBank, aPlant] aBank _ HC3.out (by simp))
  rw [add3E] at HA3
  obtain ⟨c0, c1, c2, c3, c4, c5⟩ := HX4.out.facts
  go_wp2_with fail
  clear c0 c1 c2 c3 c4 c5
  refine HA3.out.mono ?_
  rintro e w4 ⟨v4, rfl, _, hb4⟩
  have HC4 := Lib.hid (HC3.out.keep hb4)
  have HX5 := Lib.hid (HX4.out.keep hb4 (by omega))
  have HY5 := Lib.hid (HY4.out.keep hb4 hs3)
  have HL6 := Lib.hid (HL5.out.below hb4 (Nat.le_refl _))
  have HB6 := Lib.hid (HB5.out.trans (hb4.mono HB5.out.size))
  have hs4 : w1.heap.size < w4.heap.size := Nat.lt_of_lt_of_le hs3 hb4.size
  clear hb4 HX4 HY4 HL5 HB5 HA3 HC3
  have HFI := Lib.hid (find_any v3 [aBank, aPlant] ⟨#[112, 108, 97, 110, 116]⟩ w4 HC4.out)
  rw [find_plant] at HFI
  go_wp2_with fail
  refine HFI.out.mono ?_
  rintro e w5 ⟨rfl, hb5⟩
  have hb6 := hb5.alloc hb5.size (.cells (cellsA aPlant) 28)
  have HC6 := Lib.hid (HC4.out.keep hb6)
  have HL7 := Lib.hid (HL6.out.below hb6 (Nat.le_refl _))
  have HAL0 : Hid (∃ p c b o, v3 = .slice p 2 c ∧ p = some ⟨b, o, none⟩ ∧ AcctAt (w5.alloc (.cells (cellsA aPlant) 28)) b o aBank) := Lib.hid (by
    obtain ⟨p, c, e, _, _, _, hc⟩ := HC6.out
    obtain ⟨b, o, e', h⟩ := hc 0 aBank rfl
    exact ⟨p, c, b, o, e, e', by simpa using h⟩)
  obtain ⟨_, c, b, o, rfl, rfl, hat⟩ := HAL0.out
  have HAL := Lib.hid (AliveAt.mk (w := w) (W := w5.alloc (.cells (cellsA aPlant) 28)) (HX5.out.keep hb6 (by omega)) (HY5.out.keep hb6 hs4) (BoxA.new w5 aPlant 28) hat (HB6.out.trans (hb6.mono HB6.out.size)))
  clear hb5 hb6 hat HAL0 HFI HX5 HY5 HB6 HC4 HC6 HL6
  obtain ⟨Wr, hWr⟩ : ∃ Wr, w5.alloc (.cells (cellsA aPlant) 28) = Wr := ⟨_, rfl⟩
  rw [hWr] at HAL HL7
  rw [show (findV (some aPlant)) = aPlant from rfl]
  obtain ⟨A, hA⟩ : ∃ A, aBank = A := ⟨_, rfl⟩
  obtain ⟨P, hP⟩ : ∃ P, aPlant = P := ⟨_, rfl⟩
  have hgd := guard_acc
  have q1 : ∀ w', Sem.run Tryd.prog (binOp .eql 28 (.agg #[.string P.code, .int .i64 P.cls, .bool P.cash, .bool P.both, .string P.fixed, .bool P.worn]) (.agg #[.string ⟨#[112, 108, 97, 110, 116]⟩, .int .i64 0, .bool false, .bool false, .string ⟨#[107]⟩, .bool true])) w' = .ok (.bool true) w' := fun w' => by
    have := eql_acc aPlant aPlant w'
    rw [show eqA aPlant aPlant = true from (eqA_iff _ _).2 rfl] at this
    rw [← hP]; exact this
  have q2 : ∀ w', Sem.run Tryd.prog (binOp .eql 28 (.agg #[.string A.code, .int .i64 A.cls, .bool A.cash, .bool A.both, .string A.fixed, .bool A.worn]) (.agg #[.string A.code, .int .i64 A.cls, .bool A.cash, .bool A.both, .string A.fixed, .bool A.worn])) w' = .ok (.bool true) w' := fun w' => by
    have := eql_acc A A w'
    rwa [show eqA A A = true from (eqA_iff _ _).2 rfl] at this
  have q3 : ∀ w', Sem.run Tryd.prog (binOp .eql 28 (.agg #[.string P.code, .int .i64 P.cls, .bool P.cash, .bool P.both, .string P.fixed, .bool P.worn]) (.agg #[.string P.code, .int .i64 P.cls, .bool P.cash, .bool P.both, .string P.fixed, .bool P.worn])) w' = .ok (.bool true) w' := fun w' => by
    have := eql_acc P P w'
    rwa [show eqA P P = true from (eqA_iff _ _).2 rfl] at this
  have HRT : Hid (∀ W, Calls Tryd.prog 12 #[aggF A] W fun e w' => e = .returned (.bool true) ∧ Below W.heap.size W w') := Lib.hid (fun W => by
    have := right_any aBank W
    rw [right_bank] at this
    rw [← hA]; exact this)
  have HWT : Hid (∀ W, Laid W → Calls Tryd.prog 15 #[aggF A] W (WordsTold W W4)) := Lib.hid (fun W hW => by
    have := words_any aBank W hW
    rw [words_bank] at this
    rw [← hA]; exact this)
  have HA := Lib.hid hA
  have HP := Lib.hid hP
  clear hA hP
  go_wp2_with fail
  have HWR := Lib.hid hWr
  clear hWr
  have k0 := HAL.out.four HA.out HP.out
  have k1 := HAL.out.drew.four HA.out HP.out
  have k2 := (HAL.out.alloc (.cells words4 9)).drew.four HA.out HP.out
  have HLa : Hid (Laid Wr.drew) := Lib.hid ⟨HL7.out.g0, HL7.out.g1, HL7.out.g2⟩
  have HLb : Hid (Laid (Wr.alloc (.cells words4 9)).drew) := Lib.hid (by
    have := HL7.out.below ((Below.refl Wr.heap.size Wr).alloc (Nat.le_refl _) (.cells words4 9)) (Nat.le_refl _)
    exact ⟨this.g0, this.g1, this.g2⟩)
  have HSb : Hid (StrsV (Wr.alloc (.cells words4 9)).drew (.slice (some ⟨Wr.heap.size, 0, none⟩) 4 4) W4) := Lib.hid (strs_new Wr W4 9 (by decide))
  go_region_held3 (fun w' => (w'.cell? ⟨w.heap.size, 0, none⟩ = some (.string A.code) ∧ w'.cell? ⟨w.heap.size, 1, none⟩ = some (.int .i64 A.cls) ∧ w'.cell? ⟨w.heap.size, 2, none⟩ = some (.bool A.cash) ∧ w'.cell? ⟨w.heap.size, 3, none⟩ = some (.bool A.both) ∧ w'.cell? ⟨w.heap.size, 4, none⟩ = some (.string A.fixed) ∧ w'.cell? ⟨w.heap.size, 5, none⟩ = some (.bool A.worn)) ∧ (w'.cell? ⟨w1.heap.size, 0, none⟩ = some (.string P.code) ∧ w'.cell? ⟨w1.heap.size, 1, none⟩ = some (.int .i64 P.cls) ∧ w'.cell? ⟨w1.heap.size, 2, none⟩ = some (.bool P.cash) ∧ w'.cell? ⟨w1.heap.size, 3, none⟩ = some (.bool P.both) ∧ w'.cell? ⟨w1.heap.size, 4, none⟩ = some (.string P.fixed) ∧ w'.cell? ⟨w1.heap.size, 5, none⟩ = some (.bool P.worn)) ∧ (w'.cell? ⟨w5.heap.size, 0, none⟩ = some (.string P.code) ∧ w'.cell? ⟨w5.heap.size, 1, none⟩ = some (.int .i64 P.cls) ∧ w'.cell? ⟨w5.heap.size, 2, none⟩ = some (.bool P.cash) ∧ w'.cell? ⟨w5.heap.size, 3, none⟩ = some (.bool P.both) ∧ w'.cell? ⟨w5.heap.size, 4, none⟩ = some (.string P.fixed) ∧ w'.cell? ⟨w5.heap.size, 5, none⟩ = some (.bool P.worn)) ∧ (w'.cell? ⟨b, o, none⟩ = some (.string A.code) ∧ w'.cell? ⟨b, o + 1, none⟩ = some (.int .i64 A.cls) ∧ w'.cell? ⟨b, o + 2, none⟩ = some (.bool A.cash) ∧ w'.cell? ⟨b, o + 3, none⟩ = some (.bool A.both) ∧ w'.cell? ⟨b, o + 4, none⟩ = some (.string A.fixed) ∧ w'.cell? ⟨b, o + 5, none⟩ = some (.bool A.worn)))
    (first | (with_reducible exact k0) | (with_reducible exact k1) | (with_reducible exact k2) | (with_reducible exact m7) | (with_reducible exact mm) | (with_reducible exact mq) | (with_reducible exact mr) | fail)
    (first
      | (go_at_call 15; refine (HWT.out Wr.drew HLa.out).mono ?_; rintro e w7 ⟨v7, rfl, hs7, hb7⟩; have M7 := Lib.hid (HAL.out.drew.keep hb7); have m7 := M7.out.four HA.out HP.out; have mm := (M7.out.alloc (.cells words4 9)).four HA.out HP.out; have HS7 := Lib.hid (hs7.keep ((Below.refl w7.heap.size w7).alloc (Nat.le_refl _) (.cells words4 9))); have HT7 := Lib.hid (strs_new w7 W4 9 (by decide)))
      | (go_at_call 15; refine (HWT.out (Wr.alloc (.cells words4 9)).drew HLb.out).mono ?_; rintro e w8 ⟨v8, rfl, hs8, hb8⟩; have M8 := Lib.hid ((HAL.out.alloc (.cells words4 9)).drew.keep hb8); have m7 := M8.out.four HA.out HP.out; have HS8 := Lib.hid hs8; have HT8 := Lib.hid (HSb.out.keep hb8))
      | (go_at_call 14; refine (same4 HS7.out HT7.out).mono ?_; rintro e w' ⟨rfl, q, rfl⟩; have MQ := Lib.hid ((M7.out.alloc (.cells words4 9)).drewN q); have mq := MQ.out.four HA.out HP.out)
      | (go_at_call 14; refine (same4 HS8.out HT8.out).mono ?_; rintro e w' ⟨rfl, q, rfl⟩; have MQ := Lib.hid (M8.out.drewN q); have mq := MQ.out.four HA.out HP.out)
      | (go_at_call 12; refine (HRT.out _).mono ?_; rintro e w9 ⟨rfl, hb9⟩; have MR := Lib.hid (MQ.out.keep hb9); have mr := MR.out.four HA.out HP.out)
      | fail)
  all_goals
    go_wp2
    go_ret
    exact ⟨rfl, MR.out.bel⟩
end Go.Proofs.YtploldcbpejncaaDoor
