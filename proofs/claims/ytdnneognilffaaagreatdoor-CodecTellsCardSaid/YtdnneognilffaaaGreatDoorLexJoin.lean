
/- The walk of lex.Join: the text of lines, as the plain facts say; memory that was there stays. -/
import Derived.Test.YtdnneognilffaaaGreatDoorLexMem
import Derived.Test.YtdnneognilffaaaGreatDoorLexShelf
import Derived.WalkKit
import Derived.WalkSpells
import Derived.Lib.Hide
import Derived.OwnWalk
import Derived.Handy
namespace Go.Proofs.YtdnneognilffaaaGreatDoor
open Go.RowKit

/-- The text of a line's words, and of lines. -/
def lineL (ws : List ByteArray) : List UInt8 := Lib.join (ws.map (·.data.toList)) [32]
def joinL (L : List (Int × List ByteArray)) : List UInt8 := L.flatMap fun x => lineL x.2 ++ [10]
theorem joinL_snoc (L : List (Int × List ByteArray)) (n : Int) (ws : List ByteArray) : joinL (L ++ [(n, ws)]) = joinL L ++ (lineL ws ++ [10]) := by simp [joinL]
theorem joinL_take (L : List (Int × List ByteArray)) (k : Nat) : (joinL (L.take k)).length ≤ (joinL L).length := by
  conv => rhs; rw [← List.take_append_drop k L]
  unfold joinL
  rw [List.flatMap_append, List.length_append]
  omega
theorem sjoin (v : Value) (ws : List ByteArray) (w : World) (h : StrsV w v ws) (hlen : (lineL ws).length ≤ 1000000000) :
    Calls Tryz.prog 29 #[v, .string ⟨#[32]⟩] w fun e w' => e = .returned (.string (mkB (lineL ws))) ∧ Below w.heap.size w w' := by
  obtain ⟨a, c, rfl, hcap, hm, hc⟩ := h
  cases ws with
  | nil => exact (bjoin_none a c ⟨#[32]⟩ w).mono fun e w' ⟨he, hw⟩ => ⟨he, by rw [hw]; exact Below.refl _ _⟩
  | cons x r =>
    obtain ⟨b, o, rfl, h0⟩ := hc 0 x rfl
    have hb := World.block_lt_of_cell? w _ h0
    refine bjoin b o c (x :: r) ⟨#[32]⟩ w (fun j y hy => ?_) hb ?_ hcap (Nat.le_trans hlen (by decide))
    · obtain ⟨b', o', e, hc'⟩ := hc j y hy
      injection e with e
      injection e with e1 e2
      subst e1 e2
      exact hc'
    · -- as many bytes and more
      have : (x :: r).length ≤ (lineL (x :: r)).length + 1 := by
        unfold lineL
        generalize x :: r = l
        have gen : ∀ (l : List ByteArray), l.length ≤ (Lib.join (l.map (·.data.toList)) [32]).length + 1 := by
          intro l
          induction l with
          | nil => simp
          | cons y t ih =>
            cases t with
            | nil => simp
            | cons z t =>
              have e : Lib.join (List.map (·.data.toList) (y :: z :: t)) [32] = y.data.toList ++ ([32] ++ Lib.join (List.map (·.data.toList) (z :: t)) [32]) := by
                simp [Lib.join, List.intercalate]
              rw [e]
              simp only [List.length_append, List.length_cons, List.length_nil] at ih ⊢
              omega
        exact gen l
      omega

theorem builder_below {T e : TypeId} {B b : Nat} {bs : List Value} {w w' : World} (h : Lib.IsBuilder T e B b bs w) (hb : Below w.heap.size w w') : Lib.IsBuilder T e B b bs w' := by
  have one : ∀ p, Lib.BuilderAt T e B b p bs w → Lib.BuilderAt T e B b p bs w' := fun p ⟨h1, v, h2, h3, h4⟩ =>
    ⟨h1, v, (hb.block b (Array.getElem?_eq_some_iff.1 h2).1).trans h2, row_below h3 hb, h4⟩
  exact h.elim (fun x => .inl (one _ x)) (fun x => .inr (one _ x))
theorem builder_new (T e : TypeId) (w : World) : Lib.IsBuilder T e w.heap.size w.heap.size [] (w.alloc (.cells #[.pointer none, .slice none 0 0] T)) :=
  .inl ⟨Nat.le_refl _, _, World.alloc_heap_new w _, World.ownsRow_nil _ _ _ _, by simp [Value.ownBlock]⟩
/-- At the head of Join's loop. -/
def JoinAt (w : World) (L : List (Int × List ByteArray)) (s8 : Value) (wr : World) : Prop :=
  ∃ k : Nat, k ≤ L.length ∧ s8 = .int .i64 (k : Int) ∧ Lib.IsBuilder 67 5 w.heap.size w.heap.size (Lib.byteCells (joinL (L.take k))) wr ∧ Below w.heap.size w wr

set_option maxRecDepth 100000 in
set_option maxHeartbeats 1000000 in
theorem join_any (v : Value) (L : List (Int × List ByteArray)) (w : World) (h : LinesV w v L) (hlen : (joinL L).length ≤ 1000000000) :
    Calls Tryz.prog 16 #[v] w fun e w' => e = .returned (.string (mkB (joinL L))) ∧ Below w.heap.size w w' := by
  obtain ⟨a, c, rfl, hm, hc⟩ := h
  have HC := Lib.hid hc
  have HL := Lib.hid hlen
  unfold maxLen at hm
  clear hc hlen
  obtain ⟨r, hr⟩ : ∃ r, mkB (joinL L) = r := ⟨_, rfl⟩
  rw [hr]
  have HR := Lib.hid hr
  clear hr
  go_enter Tryz.func16, Tryz.ntmps16
  go_wp2
  go_loopw [8] (fun s8 wr => JoinAt w L s8 wr) (fun s8 _ => L.length - (intOf s8).toNat)
  case atStart => exact ⟨0, Nat.zero_le _, rfl, builder_new _ _ _, (Below.refl _ _).alloc (Nat.le_refl _) _⟩
  case round =>
    obtain ⟨k, hk, rfl, hbld, hnx⟩ := hrel
    have HB := Lib.hid hbld
    clear hbld
    by_cases hlt : k < L.length
    · obtain ⟨⟨nn, ws⟩, hget⟩ : ∃ y, L[k]? = some y := ⟨_, List.getElem?_eq_getElem hlt⟩
      obtain ⟨b, o, u, rfl, c1, c2, hu⟩ := HC.out k _ hget
      dsimp only at c1 hu
      have hbk := World.block_lt_of_cell? w _ c1
      have d1 := (hnx.cell (p := ⟨b, o + k * 2, none⟩) hbk).trans c1
      have d2 := (hnx.cell (p := ⟨b, o + k * 2 + 1, none⟩) hbk).trans c2
      have HT : Hid (L.take (k + 1) = L.take k ++ [(nn, ws)]) := Lib.hid (by rw [take_at L k hlt]; rw [List.getElem?_eq_getElem hlt] at hget; rw [Option.some.inj hget])
      have hjl := joinL_take L (k + 1)
      rw [HT.out, joinL_snoc] at hjl
      simp only [List.length_append, List.length_cons, List.length_nil] at hjl
      have hjl2 : (joinL (L.take k)).length + (lineL ws).length ≤ 1000000000 := by have := HL.out; omega
      have HU : Hid (∀ W, Below w.heap.size w W → StrsV W u ws) := Lib.hid fun W hW => hu.keep hW
      obtain ⟨a2, c2', rfl, _⟩ := hu
      obtain ⟨nw, hnw⟩ : ∃ nw, ws.length = nw := ⟨_, rfl⟩
      rw [hnw] at d2 HU
      clear c1 c2 hget hnw hjl
      have hsz := hnx.size
      go_wp2_with fail
      refine (sjoin _ ws _ (HU.out _ (hnx.alloc hsz _)) (by omega)).mono ?_
      rintro e w1 ⟨rfl, hb1⟩
      have hb1' : Below wr.heap.size wr w1 := ((Below.refl _ _).alloc (Nat.le_refl _) _).trans (hb1.mono (by simp))
      have HN1 := Lib.hid (hnx.trans (hb1'.mono hsz))
      have HB1 := Lib.hid (builder_below HB.out hb1')
      clear hb1 hb1'
      obtain ⟨t, ht⟩ : ∃ t, mkB (lineL ws) = t := ⟨_, rfl⟩
      rw [ht]
      have HTT := Lib.hid ht
      clear ht
      go_wp2_with fail
      refine (bwrite _ _ _ t _ HB1.out (by rw [Lib.byteCells_length, ← HTT.out, mkB_size]; omega) HN1.out.size).mono ?_
      rintro e w2 ⟨rfl, hbl2, hb2⟩
      have HN2 := Lib.hid (HN1.out.trans hb2)
      have HB2 : Hid (Lib.IsBuilder 67 5 w.heap.size w.heap.size (Lib.byteCells (joinL (L.take k) ++ lineL ws)) w2) := Lib.hid (by
        have := hbl2
        rw [Lib.strCells_eq, ← HTT.out, mkB_data, ← Lib.byteCells_append] at this
        exact .inr this)
      clear hbl2 hb2
      go_wp2_with fail
      refine (bwrite _ _ _ ⟨#[10]⟩ _ HB2.out (by rw [Lib.byteCells_length, List.length_append]; show _ + 1 ≤ _; omega) HN2.out.size).mono ?_
      rintro e w3 ⟨rfl, hbl3, hb3⟩
      have HN3 := Lib.hid (HN2.out.trans hb3)
      have HB3 : Hid (Lib.IsBuilder 67 5 w.heap.size w.heap.size (Lib.byteCells (joinL (L.take (k + 1)))) w3) := Lib.hid (by
        have := hbl3
        rw [Lib.strCells_eq, ← Lib.byteCells_append] at this
        rw [HT.out, joinL_snoc, ← List.append_assoc]
        exact .inr this)
      clear hbl3 hb3
      go_wp2
      go_roundw
      case rel => exact ⟨k + 1, by omega, by go_num, HB3.out, HN3.out⟩
      case measure => simp [intOf]; omega
    · have HB' : Hid (Lib.IsBuilder 67 5 w.heap.size w.heap.size (Lib.byteCells (joinL L)) wr) := Lib.hid (by
        have := HB.out
        rwa [List.take_of_length_le (by omega)] at this)
      go_wp2_with fail
      refine (bstring _ _ _ _ HB'.out hnx.size).mono ?_
      rintro e w1 ⟨rfl, hb1⟩
      have HE : Hid ((⟨(joinL L).toArray⟩ : ByteArray) = r) := HR
      rw [HE.out]
      go_wp2
      go_ret
      exact ⟨rfl, hnx.trans hb1⟩
end Go.Proofs.YtdnneognilffaaaGreatDoor
