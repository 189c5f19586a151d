/- ChartDocFind; UnitOurs; UnitOurs2; FlowOurs; UnitSame: texts put together (each begins with what it is). -/
import Derived.Test.YticdmlijacnjbaaGreatDoorM04
import Derived.Test.YticdmlijacnjbaaGreatDoorM05
import Derived.Test.YticdmlijacnjbaaGreatDoorM12
import Derived.Test.YticdmlijacnjbaaGreatDoorM25
import Derived.Test.YticdmlijacnjbaaGreatDoorM09
import Derived.Test.YticdmlijacnjbaaGreatDoorM14
import Derived.Deep.CutBlock
import Derived.BigQuiet
import Derived.Deep.QuietTactic
import Derived.Deep.LoopGhost
import Derived.Laws.StructEq
import Derived.Test.YticdmlijacnjbaaGreatDoorM17
/- The walk of the document's Find of a chart; a chart read as elements. What was there stays. -/
namespace Go.Proofs.YticdmlijacnjbaaGreatDoor.Un
open Go.RowKit

theorem acct_el {w : World} {b o : Nat} {a : Acct} (h : AcctAt w b o a) : ElAt encA w b o a := fun j v hj => h.cell j v hj
theorem el_acct {w : World} {b o : Nat} {a : Acct} (h : ElAt encA w b o a) : AcctAt w b o a := acct_of fun j v hj => h j v hj
theorem acct6 {w : World} {b o : Nat} {a : Acct} (h : ElAt encA w b o a) : w.cell? ⟨b, o, none⟩ = some (.string a.code) ∧ w.cell? ⟨b, o + 1, none⟩ = some (.int .i64 a.cls) ∧ w.cell? ⟨b, o + 2, none⟩ = some (.bool a.cash) ∧ w.cell? ⟨b, o + 3, none⟩ = some (.bool a.both) ∧ w.cell? ⟨b, o + 4, none⟩ = some (.string a.fixed) ∧ w.cell? ⟨b, o + 5, none⟩ = some (.bool a.worn) := ⟨h 0 _ rfl, h 1 _ rfl, h 2 _ rfl, h 3 _ rfl, h 4 _ rfl, h 5 _ rfl⟩
theorem chart_els {w : World} {v : Value} {L : List Acct} : ChartV w v L ↔ ElsV encA w v L := by
  constructor
  · rintro ⟨p, c, e, h1, h2, h3, hc⟩
    exact ⟨p, c, e, h1, h2, h3, fun i x hx => by
      obtain ⟨b, o, e', hat⟩ := hc i x hx
      exact ⟨b, o, e', acct_el hat⟩⟩
  · rintro ⟨p, c, e, h1, h2, h3, hc⟩
    exact ⟨p, c, e, h1, h2, h3, fun i x hx => by
      obtain ⟨b, o, e', hat⟩ := hc i x hx
      exact ⟨b, o, e', el_acct hat⟩⟩
set_option maxRecDepth 100000 in
set_option maxHeartbeats 2000000 in
theorem rcfind_any (v : Value) (L : List Acct) (code : ByteArray) (w : World) (h : ChartV w v L) :
    Calls Tryz.prog 60 #[v, .string code] w fun e w' => e = .returned (.tuple #[aggF (findV (findL L code)), .bool (findL L code).isSome]) ∧ Below w.heap.size w w' := by
  obtain ⟨a, c, rfl, hcap, hm, _, hc⟩ := h
  obtain ⟨n, hn⟩ : ∃ n, L.length = n := ⟨_, rfl⟩
  obtain ⟨r, hr⟩ : ∃ r, findL L code = r := ⟨_, rfl⟩
  rw [hn] at hcap ⊢
  rw [hr]
  have HC := Lib.hid hc
  have HN := Lib.hid hn
  have HR := Lib.hid hr
  unfold maxLen at hm
  clear hc hn hr
  obtain ⟨R, hR⟩ : ∃ R, findV r = R := ⟨_, rfl⟩
  obtain ⟨S, hS⟩ : ∃ S, r.isSome = S := ⟨_, rfl⟩
  rw [hR, hS]
  have HRV := Lib.hid hR
  have HSV := Lib.hid hS
  clear hR hS
  have HB0 := Lib.hid ((Below.refl w.heap.size w).alloc (Nat.le_refl _) (.cells #[.string ⟨#[]⟩, .int .i64 0, .bool false, .bool false, .string ⟨#[]⟩, .bool false] 99))
  have HC0 := Lib.hid (BoxA.new w zeroA 99)
  go_enter Tryz.func60, Tryz.ntmps60
  go_wp2
  go_loopw [6] (fun s6 wr => ∃ i : Nat, i ≤ n ∧ s6 = .int .i64 (i : Int) ∧ Below w.heap.size w wr ∧ w.heap.size < wr.heap.size ∧ BoxA wr w.heap.size 99 zeroA ∧ Hid (∀ (j : Nat) (y : Acct), j < i → L[j]? = some y → y.code ≠ code)) (fun s6 _ => n - (intOf s6).toNat)
  case atStart => exact ⟨0, Nat.zero_le _, rfl, HB0.out, by simp, HC0.out, Lib.hid fun j y hj => absurd hj (Nat.not_lt_zero _)⟩
  case round =>
    obtain ⟨i, hi, rfl, hnx, hsz, hbox, HNO⟩ := hrel
    by_cases hlt : i < n
    · obtain ⟨x, hx⟩ : ∃ x, L[i]? = some x := ⟨_, List.getElem?_eq_getElem (by rw [HN.out]; exact hlt)⟩
      obtain ⟨b, o, rfl, hat⟩ := HC.out i x hx
      obtain ⟨c0, c1, c2, c3, c4, c5⟩ := hat.keep hnx hat.lt
      have HX := Lib.hid hx
      have HBX := Lib.hid hbox
      have HNX := Lib.hid hnx
      have HSZ := Lib.hid hsz
      clear hx hbox hat hnx hsz
      cases hxe : (x.code.toList == code.toList) with
      | false =>
        have HXE := Lib.hid ((Lib.bytes_beq_false_iff x.code code).1 hxe)
        go_wp2
        go_roundw
        case rel => exact ⟨i + 1, by omega, by go_num, HNX.out, HSZ.out, HBX.out, Lib.hid fun j y hj hy => by
          rcases Nat.lt_or_ge j i with h | h
          · exact HNO.out j y h hy
          · obtain rfl : j = i := by omega
            rw [HX.out] at hy; cases hy; exact HXE.out⟩
        case measure => simp [intOf]; omega
      | true =>
        have HXE := Lib.hid ((Lib.bytes_beq_iff x.code code).1 hxe)
        have hres : Hid (r = some x) := Lib.hid (by rw [← HR.out]; exact find_at HNO.out HX.out HXE.out)
        go_wp2_with (refine wpList_store_acct rfl 99 (.tmp 4) (.tmp 23) rfl w.heap.size zeroA x 99 rfl rfl HBX.out (by kernel_rfl) ?_; intro w2 hb2 hg2)
        have HF := Lib.hid (HNX.out.grown hg2 HNX.out.size (fun j hj => by cases hj; exact Nat.le_refl _))
        obtain ⟨d0, d1, d2, d3, d4, d5⟩ := hb2.facts
        clear hb2 hg2
        refine bodyPost_ret (v := .tuple #[aggF x, .bool true]) (by simp [results, Tryz.results60, go_sem, d0, d1, d2, d3, d4, d5]) rfl ⟨?_, HF.out⟩
        rw [← HRV.out, ← HSV.out, hres.out]; rfl
    · have hres : Hid (r = none) := Lib.hid (by
        rw [← HR.out]
        refine find_none fun j y hy => HNO.out j y ?_ hy
        have := (List.getElem?_eq_some_iff.1 hy).1
        rw [HN.out] at this; omega)
      have HNX := Lib.hid hnx
      go_wp2_with (refine wpList_store_acct rfl 99 (.tmp 4) (.tmp 24) rfl w.heap.size zeroA zeroA 99 rfl rfl hbox (by kernel_rfl) ?_; intro w2 hb2 hg2)
      have HF := Lib.hid (HNX.out.grown hg2 HNX.out.size (fun j hj => by cases hj; exact Nat.le_refl _))
      obtain ⟨d0, d1, d2, d3, d4, d5⟩ := hb2.facts
      clear hb2 hg2
      refine bodyPost_ret (v := .tuple #[aggF zeroA, .bool false]) (by simp [results, Tryz.results60, go_sem, d0, d1, d2, d3, d4, d5]) rfl ⟨?_, HF.out⟩
      rw [← HRV.out, ← HSV.out, hres.out]; rfl
end Go.Proofs.YticdmlijacnjbaaGreatDoor.Un
/- The walk of the statements' Ours: the same master data in new memory. -/
namespace Go.Proofs.YticdmlijacnjbaaGreatDoor.Un
open Go.RowKit

/-- All that lies below B, but for one block, is as it was. -/
def KeptBut (B g : Nat) (w w' : World) : Prop := ∀ j, j < B → j ≠ g → w'.heap[j]? = w.heap[j]?
abbrev nil5 : Value := .slice none 0 0
theorem KeptBut.refl (B g : Nat) (w : World) : KeptBut B g w w := fun _ _ _ => rfl
theorem KeptBut.below {B g : Nat} {w w1 w2 : World} (h : KeptBut B g w w1) (hb : Below B w1 w2) : KeptBut B g w w2 := fun j hj hg => (hb.block j hj).trans (h j hj hg)
theorem KeptBut.set {B g : Nat} {w w1 : World} (h : KeptBut B g w w1) (i : Nat) (v : Value) : KeptBut B g w (w1.setCell ⟨g, i, none⟩ v) := fun j hj hg => (Below.heap_setCell w1 ⟨g, i, none⟩ v j hg).trans (h j hj hg)
/-- The box of the new master data while its lists grow. -/
abbrev boxO (w : World) (g : Nat) (vc vf ve vl : Value) (M : Mast) : Prop := w.heap[g]? = some (.cells (cellsM vc vf ve vl M) 39 (0, 0))
structure OursAt (W0 wx wr : World) (B g : Nat) (vc vf ve vl : Value) (M : Mast) (F : List Fl.Flow) (E : List Ent) (L : List Lin) : Prop where
  box : boxO wr g vc vf ve vl M
  but : KeptBut B g wx wr
  flows : wr.ownsRow B 87 2 vf F.length (flat Fl.encF F)
  ents : wr.ownsRow B 80 2 ve E.length (flat encE E)
  lines : wr.ownsRow B 81 3 vl L.length (flat encL L)
  bel : Below W0.heap.size W0 wr
  lo : W0.heap.size ≤ g
  hi : g < B
  le : B ≤ wr.heap.size
section
variable {W0 wx wr w' w2 : World} {B g : Nat} {vc vf ve vl v' : Value} {M : Mast} {F : List Fl.Flow} {E : List Ent} {L : List Lin}
theorem OursAt.keep (h : OursAt W0 wx wr B g vc vf ve vl M F E L) (hb : Below wr.heap.size wr w') : OursAt W0 wx w' B g vc vf ve vl M F E L :=
  ⟨(hb.block g (Nat.lt_of_lt_of_le h.hi h.le)).trans h.box, h.but.below (hb.mono h.le), row_below h.flows hb, row_below h.ents hb, row_below h.lines hb, h.bel.trans (hb.mono h.bel.size), h.lo, h.hi, Nat.le_trans h.le hb.size⟩
theorem set_grown (w : World) (g i : Nat) (v : Value) : w.grownBy (w.setCell ⟨g, i, none⟩ v) (some g) := ⟨rfl, rfl, rfl, by simp [World.setCell], fun k _ hk => Below.heap_setCell w _ v k (fun e => hk (by rw [e]))⟩
theorem OursAt.flow (h : OursAt W0 wx wr B g vc vf ve vl M F E L) {x : Fl.Flow} (hr : w2.ownsRow B 87 2 v' (F ++ [x]).length (flat Fl.encF (F ++ [x]))) (hb : Below B wr w2) (hg : wr.grownBy w2 vf.ownBlock) : OursAt W0 wx (w2.setCell ⟨g, 1, none⟩ v') B g vc v' ve vl M (F ++ [x]) E L := by
  have hbox : boxO w2 g vc vf ve vl M := (hb.block g h.hi).trans h.box
  have hs := set_grown w2 g 1 v'
  have he := h.ents.kept hg (row_apart h.flows h.ents (by decide))
  have hl := h.lines.kept hg (row_apart h.flows h.lines (by decide))
  refine ⟨?_, (h.but.below hb).set 1 v', hr.kept hs (own_or (box_apart hbox hr (by decide))), he.kept hs (own_or (box_apart hbox he (by decide))), hl.kept hs (own_or (box_apart hbox hl (by decide))), (h.bel.trans (hb.mono (Nat.le_trans h.lo (Nat.le_of_lt h.hi)))).setCell (p := ⟨g, 1, none⟩) h.lo v', h.lo, h.hi, by have := hb.size; have := h.le; simp [World.setCell]; omega⟩
  exact Joins.block_setCell (i := 1) hbox v'
theorem OursAt.ent (h : OursAt W0 wx wr B g vc vf ve vl M F E L) {x : Ent} (hr : w2.ownsRow B 80 2 v' (E ++ [x]).length (flat encE (E ++ [x]))) (hb : Below B wr w2) (hg : wr.grownBy w2 ve.ownBlock) : OursAt W0 wx (w2.setCell ⟨g, 2, none⟩ v') B g vc vf v' vl M F (E ++ [x]) L := by
  have hbox : boxO w2 g vc vf ve vl M := (hb.block g h.hi).trans h.box
  have hs := set_grown w2 g 2 v'
  have he := h.flows.kept hg (row_apart h.ents h.flows (by decide))
  have hl := h.lines.kept hg (row_apart h.ents h.lines (by decide))
  refine ⟨?_, (h.but.below hb).set 2 v', he.kept hs (own_or (box_apart hbox he (by decide))), hr.kept hs (own_or (box_apart hbox hr (by decide))), hl.kept hs (own_or (box_apart hbox hl (by decide))), (h.bel.trans (hb.mono (Nat.le_trans h.lo (Nat.le_of_lt h.hi)))).setCell (p := ⟨g, 2, none⟩) h.lo v', h.lo, h.hi, by have := hb.size; have := h.le; simp [World.setCell]; omega⟩
  exact Joins.block_setCell (i := 2) hbox v'
theorem OursAt.line (h : OursAt W0 wx wr B g vc vf ve vl M F E L) {x : Lin} (hr : w2.ownsRow B 81 3 v' (L ++ [x]).length (flat encL (L ++ [x]))) (hb : Below B wr w2) (hg : wr.grownBy w2 vl.ownBlock) : OursAt W0 wx (w2.setCell ⟨g, 3, none⟩ v') B g vc vf ve v' M F E (L ++ [x]) := by
  have hbox : boxO w2 g vc vf ve vl M := (hb.block g h.hi).trans h.box
  have hs := set_grown w2 g 3 v'
  have he := h.flows.kept hg (row_apart h.lines h.flows (by decide))
  have hl := h.ents.kept hg (row_apart h.lines h.ents (by decide))
  refine ⟨?_, (h.but.below hb).set 3 v', he.kept hs (own_or (box_apart hbox he (by decide))), hl.kept hs (own_or (box_apart hbox hl (by decide))), hr.kept hs (own_or (box_apart hbox hr (by decide))), (h.bel.trans (hb.mono (Nat.le_trans h.lo (Nat.le_of_lt h.hi)))).setCell (p := ⟨g, 3, none⟩) h.lo v', h.lo, h.hi, by have := hb.size; have := h.le; simp [World.setCell]; omega⟩
  exact Joins.block_setCell (i := 3) hbox v'
theorem OursAt.nine (h : OursAt W0 wx wr B g vc vf ve vl M F E L) : NineAt wr g vc vf ve vl M := nine_of (more := []) h.box
theorem OursAt.free (h : OursAt W0 wx wr B g vc vf ve vl M F E L) (o : Nat) : wr.frozen? ⟨g, o, none⟩ = false := by
  have := h.box
  unfold boxO at this
  simp [World.frozen?, this]
theorem chart_but {wx wr : World} {B g : Nat} {v : Value} {C : List Acct} (h : ChartV wx v C) (hB : wx.heap.size = B) (hn : ∀ o k, wx.cell? ⟨g, o, none⟩ ≠ some (.int .i64 k)) (hk : KeptBut B g wx wr) : ChartV wr v C := by
  obtain ⟨p, c, e, h1, h2, h3, hc⟩ := h
  refine ⟨p, c, e, h1, h2, h3, fun i x hx => ?_⟩
  obtain ⟨b, o, e', hat⟩ := hc i x hx
  refine ⟨b, o, e', ?_⟩
  have hb : b < B := by rw [← hB]; exact hat.lt
  have hg : b ≠ g := fun e => hn _ _ (by rw [← e]; exact hat.c1)
  have hh := hk b hb hg
  have cell : ∀ q, wr.cell? ⟨b, q, none⟩ = wx.cell? ⟨b, q, none⟩ := fun q => by simp [World.cell?, hh]
  exact ⟨by rw [cell]; exact hat.c0, by rw [cell]; exact hat.c1, by rw [cell]; exact hat.c2, by rw [cell]; exact hat.c3, by rw [cell]; exact hat.c4, by rw [cell]; exact hat.c5⟩
end
end Go.Proofs.YticdmlijacnjbaaGreatDoor.Un
/- The walk of the statements' Ours, from its box to its end. -/
namespace Go.Proofs.YticdmlijacnjbaaGreatDoor.Un
open Go.RowKit

abbrev zcellsM : Array Value := #[nil5, nil5, nil5, nil5, .string emp, .string emp, .string emp, .string emp, .string emp]
abbrev cellsO (vc : Value) (M : Mast) : Array Value := cellsM vc nil5 nil5 nil5 M
/-- The nine cells of a box, written one behind the other. -/
abbrev put9 (w : World) (g : Nat) (vc : Value) (M : Mast) : World :=
  ((((((((w.setCell ⟨g, 0, none⟩ vc).setCell ⟨g, 1, none⟩ nil5).setCell ⟨g, 2, none⟩ nil5).setCell ⟨g, 3, none⟩ nil5).setCell ⟨g, 4, none⟩ (.string M.cur)).setCell ⟨g, 5, none⟩ (.string M.res)).setCell ⟨g, 6, none⟩ (.string M.dif)).setCell ⟨g, 7, none⟩ (.string M.min)).setCell ⟨g, 8, none⟩ (.string M.stk)
theorem put9_eq {w : World} {g : Nat} {t : TypeId} {c f e l : Value} {Z : Mast} (h : w.heap[g]? = some (.cells (cellsM c f e l Z) t (0, 0))) (vc : Value) (M : Mast) : put9 w g vc M = w.setRow g (cellsO vc M) := by
  unfold put9
  rw [setCell_eq_setRow w g 0 _ t (0, 0) _ h,
    setCell_eq_setRow _ g 1 _ t (0, 0) _ (setRow_heap w g _ _ t _ h), setRow_setRow,
    setCell_eq_setRow _ g 2 _ t (0, 0) _ (setRow_heap w g _ _ t _ h), setRow_setRow,
    setCell_eq_setRow _ g 3 _ t (0, 0) _ (setRow_heap w g _ _ t _ h), setRow_setRow,
    setCell_eq_setRow _ g 4 _ t (0, 0) _ (setRow_heap w g _ _ t _ h), setRow_setRow,
    setCell_eq_setRow _ g 5 _ t (0, 0) _ (setRow_heap w g _ _ t _ h), setRow_setRow,
    setCell_eq_setRow _ g 6 _ t (0, 0) _ (setRow_heap w g _ _ t _ h), setRow_setRow,
    setCell_eq_setRow _ g 7 _ t (0, 0) _ (setRow_heap w g _ _ t _ h), setRow_setRow,
    setCell_eq_setRow _ g 8 _ t (0, 0) _ (setRow_heap w g _ _ t _ h), setRow_setRow]
  simp
/-- What Ours holds ahead of its loops. -/
def OursStart (W0 wx : World) (g : Nat) (vc : Value) (M : Mast) : Prop := boxO wx g vc nil5 nil5 nil5 M ∧ W0.heap.size ≤ g ∧ ChartV wx vc M.chart ∧ Below W0.heap.size W0 wx
theorem ours_late {W0 w5 : World} {vc : Value} {M : Mast} (hc : ChartV w5 vc M.chart) (hb : Below W0.drew.heap.size W0.drew w5) :
    OursStart W0 (w5.alloc (.cells (cellsO vc M) 39)) w5.heap.size vc M := by
  have hb' : Below W0.heap.size W0 w5 := below_undrew hb
  exact ⟨heap_alloc_new w5 _, hb'.size, hc.keep ((Below.refl w5.heap.size w5).alloc (Nat.le_refl _) _), hb'.alloc hb'.size _⟩
theorem ours_early {W0 w5 : World} {vc : Value} {M : Mast} (hc : ChartV w5 vc M.chart) (hx : boxO w5 W0.heap.size nil5 nil5 nil5 nil5 zeroM) (hb : Below (W0.alloc (.cells zcellsM 39)).drew.heap.size (W0.alloc (.cells zcellsM 39)).drew w5) :
    OursStart W0 (put9 w5 W0.heap.size vc M) W0.heap.size vc M := by
  have hb' : Below W0.heap.size W0 w5 := ((Below.refl W0.heap.size W0).alloc (Nat.le_refl _) _).trans ((below_undrew hb).mono (by simp))
  rw [put9_eq hx]
  have h1 : boxO (w5.setRow W0.heap.size (cellsO vc M)) W0.heap.size vc nil5 nil5 nil5 M := setRow_heap w5 _ _ _ _ _ hx
  have h2 := grownBy_setRow w5 W0.heap.size (cellsO vc M)
  refine ⟨h1, Nat.le_refl _, ?_, hb'.grown h2 hb'.size (fun j hj => by cases hj; exact Nat.le_refl _)⟩
  refine chart_but (B := w5.heap.size) (g := W0.heap.size) hc rfl (fun o k => ?_) (fun j _ hj => setRow_other w5 _ j _ hj)
  intro hk
  have hn := nine_of (more := []) hx
  unfold boxO at hx
  simp only [World.cell?, hx] at hk
  match o, hk with
  | 0, hk => simp at hk
  | 1, hk => simp at hk
  | 2, hk => simp at hk
  | 3, hk => simp at hk
  | 4, hk => simp at hk
  | 5, hk => simp at hk
  | 6, hk => simp at hk
  | 7, hk => simp at hk
  | 8, hk => simp at hk
  | o + 9, hk => simp at hk
/-- The cells that Ours reads. -/
abbrev Six (w' : World) (b : Nat) (c : Value) (M : Mast) : Prop := w'.cell? ⟨b, 0, none⟩ = some c ∧ w'.cell? ⟨b, 4, none⟩ = some (.string M.cur) ∧ w'.cell? ⟨b, 5, none⟩ = some (.string M.res) ∧ w'.cell? ⟨b, 6, none⟩ = some (.string M.dif) ∧ w'.cell? ⟨b, 7, none⟩ = some (.string M.min) ∧ w'.cell? ⟨b, 8, none⟩ = some (.string M.stk)
theorem six_keep {w w' : World} {b : Nat} {c : Value} {M : Mast} (h : Six w b c M) (hb : Below w.heap.size w w') : Six w' b c M := by
  obtain ⟨h0, h4, h5, h6, h7, h8⟩ := h
  exact ⟨cell_later hb h0, cell_later hb h4, cell_later hb h5, cell_later hb h6, cell_later hb h7, cell_later hb h8⟩
theorem six_put {w : World} {b g : Nat} {c vc : Value} {M : Mast} {Z : Mast} (h : Six w b c M) (hx : boxO w g nil5 nil5 nil5 nil5 Z) (hn : b ≠ g) : Six (put9 w g vc M) b c M := by
  rw [put9_eq hx]
  have hg := grownBy_setRow w g (cellsO vc M)
  obtain ⟨h0, h4, h5, h6, h7, h8⟩ := h
  have hne : some b ≠ some g := fun e => hn (Option.some.inj e)
  exact ⟨hg.cell h0 hne, hg.cell h4 hne, hg.cell h5 hne, hg.cell h6 hne, hg.cell h7 hne, hg.cell h8 hne⟩
theorem boxO_free {w : World} {g : Nat} {vc vf ve vl : Value} {M : Mast} (h : boxO w g vc vf ve vl M) (o : Nat) : w.frozen? ⟨g, o, none⟩ = false := by
  unfold boxO at h
  simp [World.frozen?, h]
theorem info_oflow : InfoE Tryz.prog 35 87 Fl.encF :=
  InfoE.of (z := .agg #[.string ⟨#[]⟩, .int .i64 0]) (n := 24) Tryz.underlying35 (by kernel_rfl) (by kernel_rfl) (by decide)
theorem info_oent : InfoE Tryz.prog 36 80 encE :=
  InfoE.of (z := .agg #[.string ⟨#[]⟩, .string ⟨#[]⟩]) (n := 32) Tryz.underlying36 (by kernel_rfl) (by kernel_rfl) (by decide)
theorem info_olin : InfoE Tryz.prog 37 81 encL :=
  InfoE.of (z := .agg #[.string ⟨#[]⟩, .string ⟨#[]⟩, .string ⟨#[]⟩]) (n := 48) Tryz.underlying37 (by kernel_rfl) (by kernel_rfl) (by decide)
theorem take_small {α : Type} {L : List α} {i n : Nat} (hn : L.length = n) (h : n ≤ 1000) : (L.take i).length ≤ 1000000 := by rw [List.length_take]; omega
theorem take_more {α : Type} {L : List α} {i : Nat} {x : α} (hx : L[i]? = some x) : L.take (i + 1) = L.take i ++ [x] := by
  rw [List.take_succ_eq_append_getElem (List.getElem?_eq_some_iff.1 hx).1, (List.getElem?_eq_some_iff.1 hx).2]
theorem box_noint {w : World} {g : Nat} {vc vf ve vl : Value} {M : Mast} (h : boxO w g vc vf ve vl M) (o : Nat) (k : Int) (hc : ∀ k, vc ≠ .int .i64 k) (hf : ∀ k, vf ≠ .int .i64 k) (he : ∀ k, ve ≠ .int .i64 k) (hl : ∀ k, vl ≠ .int .i64 k) : w.cell? ⟨g, o, none⟩ ≠ some (.int .i64 k) := by
  intro hk
  unfold boxO at h
  simp only [World.cell?, h] at hk
  match o, hk with
  | 0, hk => simp at hk; exact hc _ hk
  | 1, hk => simp at hk; exact hf _ hk
  | 2, hk => simp at hk; exact he _ hk
  | 3, hk => simp at hk; exact hl _ hk
  | 4, hk => simp at hk
  | 5, hk => simp at hk
  | 6, hk => simp at hk
  | 7, hk => simp at hk
  | 8, hk => simp at hk
  | o + 9, hk => simp at hk
theorem row_sl {W : World} {B : Nat} {e : TypeId} {s : Nat} {v : Value} {n : Nat} {xs : List Value} (h : W.ownsRow B e s v n xs) : ∃ a c, v = .slice a n c := by
  rcases h.2 with ⟨rfl, rfl⟩ | ⟨g, cap, cur, rfl, _⟩
  · exact ⟨none, 0, rfl⟩
  · exact ⟨_, _, rfl⟩
theorem own_far {w : World} {B s n b : Nat} {e : TypeId} {v : Value} {xs : List Value} (h : w.ownsRow B e s v n xs) (hb : b < B) : v.ownBlock = none ∨ v.ownBlock ≠ some b := by
  rcases h.2 with ⟨rfl, _⟩ | ⟨g, cap, cur, rfl, hg, _⟩
  · exact .inl rfl
  · refine .inr fun e => ?_
    have : g = b := by simpa [Value.ownBlock] using e
    omega
theorem own_one {w : World} {B s n : Nat} {e : TypeId} {v : Value} {xs : List Value} (h : w.ownsRow B e s v n xs) : v.oneCell' = true := by
  rcases h.2 with ⟨rfl, _⟩ | ⟨g, cap, cur, rfl, _⟩ <;> rfl
theorem chart_noint {w : World} {v : Value} {C : List Acct} (h : ChartV w v C) (k : Int) : v ≠ .int .i64 k := by
  obtain ⟨p, c, rfl, _⟩ := h
  intro e; cases e
def MastGiven (w : World) (M : Mast) (en : Ending) (w' : World) : Prop := ∃ v', en = .returned v' ∧ MastV w' v' M ∧ Below w.heap.size w w'
set_option maxRecDepth 100000 in
set_option maxHeartbeats 16000000 in
theorem ours_any (c f e l : Value) (M : Mast) (w : World) (h : MastIn w c f e l M) (hc : M.chart.length ≤ 1000) (hf : M.flows.length ≤ 1000) (he : M.ents.length ≤ 1000) (hl : M.lines.length ≤ 1000) :
    Calls Tryz.prog 14 #[aggM c f e l M] w (MastGiven w M) := by
  have hB1 := (Below.refl w.heap.size w).alloc (Nat.le_refl _) (.cells (cellsM c f e l M) 30)
  have hB0 := hB1.alloc (by simp) (.cells zcellsM 39)
  have hN0 := (nine_new w c f e l M 30).kept ((Below.refl _ (w.alloc (.cells (cellsM c f e l M) 30))).alloc (Nat.le_refl _) (.cells zcellsM 39))
  have hX0 : boxO ((w.alloc (.cells (cellsM c f e l M) 30)).alloc (.cells zcellsM 39)) (w.heap.size + 1) nil5 nil5 nil5 nil5 zeroM := by
    have := heap_alloc_new (w.alloc (.cells (cellsM c f e l M) 30)) (.cells zcellsM 39)
    rw [World.size_alloc] at this; exact this
  have hM0 := h.keep hB0
  have hS0 : ((w.alloc (.cells (cellsM c f e l M) 30)).alloc (.cells zcellsM 39)).heap.size = w.heap.size + 2 := by simp
  obtain ⟨W0, hW0⟩ : ∃ W0, (w.alloc (.cells (cellsM c f e l M) 30)).alloc (.cells zcellsM 39) = W0 := ⟨_, rfl⟩
  rw [hW0] at hB0 hN0 hX0 hM0 hS0
  have HB0 := Lib.hid hB0
  have HN0 := Lib.hid hN0
  have HX0 := Lib.hid hX0
  have HM0 := Lib.hid hM0
  have HS0 := Lib.hid hS0
  have HLC := Lib.hid hc
  have HLF := Lib.hid hf
  have HLE := Lib.hid he
  have HLL := Lib.hid hl
  clear h hB1 hB0 hN0 hX0 hM0 hS0 hc hf he hl
  go_enter Tryz.func14, Tryz.ntmps14
  go_upto_region 1 with (fail)
  clear hW0
  go_cut [3] (fun s3 wx => ∃ g vc, s3 = .pointer (some ⟨g, 0, none⟩) ∧ OursStart W0 wx g vc M)
  case first =>
    obtain ⟨k0, k1, k2, k3, k4, k5, k6, k7, k8⟩ := HN0.out
    have hlt : w.heap.size < W0.heap.size := World.block_lt_of_cell? W0 _ k0
    have S0 : Six W0 w.heap.size c M := ⟨k0, k4, k5, k6, k7, k8⟩
    clear k0 k1 k2 k3 k4 k5 k6 k7 k8
    have S1 : Six W0.drew w.heap.size c M := S0
    have HBA := Lib.hid ((Below.refl W0.heap.size W0).alloc (Nat.le_refl _) (.cells zcellsM 39))
    have S2 : Six (W0.alloc (.cells zcellsM 39)) w.heap.size c M := six_keep S0 HBA.out
    have S3 : Six (W0.alloc (.cells zcellsM 39)).drew w.heap.size c M := S2
    have HMC := Lib.hid HM0.out.chart
    have HMD : Hid (ChartV (W0.alloc (.cells zcellsM 39)) c M.chart) := Lib.hid (HM0.out.chart.keep HBA.out)
    have HXA : Hid (boxO (W0.alloc (.cells zcellsM 39)) W0.heap.size nil5 nil5 nil5 nil5 zeroM) := Lib.hid (heap_alloc_new W0 _)
    have HNE : Hid (w.heap.size ≠ W0.heap.size) := Lib.hid (by omega)
    have HC1 : Hid (Calls Tryz.prog 32 #[c] W0.drew (ChartTold W0.drew M.chart)) := Lib.hid (Go.Proofs.YticdmlijacnjbaaGreatDoor.ours_any c M.chart W0.drew (HMC.out.keep ⟨rfl, rfl, rfl, Nat.le_refl _, fun _ _ => rfl⟩) HLC.out)
    have HC2 : Hid (Calls Tryz.prog 32 #[c] (W0.alloc (.cells zcellsM 39)).drew (ChartTold (W0.alloc (.cells zcellsM 39)).drew M.chart)) := Lib.hid (Go.Proofs.YticdmlijacnjbaaGreatDoor.ours_any c M.chart _ (HMD.out.keep ⟨rfl, rfl, rfl, Nat.le_refl _, fun _ _ => rfl⟩) HLC.out)
    go_region_held3 (fun w' => Six w' w.heap.size c M)
      (first | (with_reducible exact S0) | (with_reducible exact S1) | (with_reducible exact S2) | (with_reducible exact S3) | (with_reducible exact S5) | (with_reducible exact S6 _) | (with_reducible exact S7) | fail)
      (first
        | (go_at_call 32; refine HC1.out.mono ?_; rintro en w5 ⟨vc, rfl, hvc, hb5⟩; have HVC := Lib.hid hvc; obtain ⟨pv, cv, rfl, _⟩ := hvc; have S5 := six_keep S1 hb5; have S6 := fun C : Array Value => six_keep S5 ((Below.refl w5.heap.size w5).alloc (Nat.le_refl _) (.cells C 39)))
        | (go_at_call 32; refine HC2.out.mono ?_; rintro en w5 ⟨vc, rfl, hvc, hb5⟩; have HVC := Lib.hid hvc; obtain ⟨pv, cv, rfl, _⟩ := hvc; have S5 := six_keep S3 hb5; have HX5 : Hid (boxO w5 W0.heap.size nil5 nil5 nil5 nil5 zeroM) := Lib.hid ((hb5.block W0.heap.size (by simp)).trans HXA.out); obtain ⟨y0, y1, y2, y3, y4, y5, y6, y7, y8⟩ := nine_of (more := []) HX5.out; have f0 := boxO_free HX5.out 0; have f1 := boxO_free HX5.out 1; have f2 := boxO_free HX5.out 2; have f3 := boxO_free HX5.out 3; have f4 := boxO_free HX5.out 4; have f5 := boxO_free HX5.out 5; have f6 := boxO_free HX5.out 6; have f7 := boxO_free HX5.out 7; have f8 := boxO_free HX5.out 8; have S7 := six_put (vc := .slice pv M.chart.length cv) S5 HX5.out HNE.out)
        | fail)
    all_goals
      go_wp2_with fail
      go_meet
      case rel =>
        refine ⟨_, .slice pv M.chart.length cv, rfl, ?_⟩
        first | (with_reducible exact ours_late HVC.out hb5) | (with_reducible exact ours_early HVC.out HX5.out hb5)
  case rest =>
    obtain ⟨g, vc, rfl, hO⟩ := hcut
    rename World => wx
    have HO := Lib.hid hO
    obtain ⟨hbo, hlo, hch, hbl⟩ := hO
    have hgi : g < wx.heap.size := (Array.getElem?_eq_some_iff.1 hbo).1
    have HST : Hid (OursAt W0 wx wx wx.heap.size g vc nil5 nil5 nil5 M [] [] []) := Lib.hid ⟨hbo, KeptBut.refl _ _ _, World.ownsRow_nil _ _ _ _, World.ownsRow_nil _ _ _ _, World.ownsRow_nil _ _ _ _, hbl, hlo, hgi, Nat.le_refl _⟩
    obtain ⟨p0, c0, e0, hc0, hm0, _, hv0⟩ := HM0.out.flows
    obtain ⟨p1, c1, e1, hc1, hm1, _, hv1⟩ := HM0.out.ents
    obtain ⟨p2, c2, e2, hc2, hm2, _, hv2⟩ := HM0.out.lines
    subst e0 e1 e2
    obtain ⟨n0, hn0⟩ : ∃ n, M.flows.length = n := ⟨_, rfl⟩
    obtain ⟨n1, hn1⟩ : ∃ n, M.ents.length = n := ⟨_, rfl⟩
    obtain ⟨n2, hn2⟩ : ∃ n, M.lines.length = n := ⟨_, rfl⟩
    have hL0 := HLF.out
    have hL1 := HLE.out
    have hL2 := HLL.out
    rw [hn0] at hc0 hL0
    rw [hn1] at hc1 hL1
    rw [hn2] at hc2 hL2
    rw [hn0, hn1, hn2] at HN0
    have HN0' := Lib.hid hn0
    have HN1 := Lib.hid hn1
    have HN2 := Lib.hid hn2
    have HV0 := Lib.hid hv0
    have HV1 := Lib.hid hv1
    have HV2 := Lib.hid hv2
    unfold maxLen at hm0 hm1 hm2
    clear hbo hlo hch hbl hgi hv0 hv1 hv2 hn0 hn1 hn2
    obtain ⟨k0, k1, k2, k3, k4, k5, k6, k7, k8⟩ := HN0.out.keep HST.out.bel HN0.out.lt
    go_wp2
    clear k0 k1 k2 k3 k4 k5 k6 k7 k8
    go_loopw [27] (fun si wr => ∃ (i : Nat) (vf : Value), i ≤ n0 ∧ si = .int .i64 (i : Int) ∧ Hid (OursAt W0 wx wr wx.heap.size g vc vf nil5 nil5 M (M.flows.take i) [] [])) (fun si _ => n0 - (intOf si).toNat)
    case atStart => exact ⟨0, _, Nat.zero_le _, rfl, HST⟩
    case round =>
      obtain ⟨i, vf, hi, rfl, HA⟩ := hrel
      by_cases hlt : i < n0
      · obtain ⟨x, hx⟩ : ∃ x, M.flows[i]? = some x := ⟨_, List.getElem?_eq_getElem (by rw [HN0'.out]; exact hlt)⟩
        obtain ⟨b, o, rfl, hat⟩ := HV0.out i x hx
        obtain ⟨d0, d1⟩ := Fl.two (hat.keep HA.out.bel hat.lt)
        have HTK := Lib.hid (take_more hx)
        have HBX := Lib.hid (((Below.refl wr.heap.size wr).alloc (Nat.le_refl _) (.cells (Fl.encF.cs x).toArray 86)).alloc (by simp) (.cells (Fl.encF.cs x).toArray 87))
        have HA1 := Lib.hid (HA.out.keep ((Below.refl wr.heap.size wr).alloc (Nat.le_refl _) (.cells (Fl.encF.cs x).toArray 86)))
        have HA2 := Lib.hid (HA.out.keep HBX.out)
        obtain ⟨q0, q1⟩ := Fl.two (BoxE.new Fl.encF wr x 86).at0
        have y0 := HA1.out.nine.c1
        clear hx hat
        go_wp2_with (at_builtin; refine wpList_append_el (E := Fl.encF) rfl _ _ 35 87 rfl info_oflow wx.heap.size _ x (wr.heap.size + 1) HA2.out.flows rfl (by have := el_new Fl.encF (wr.alloc (.cells (Fl.encF.cs x).toArray 86)) x 87; rw [World.size_alloc] at this; exact this) HA2.out.le (take_small HN0'.out hL0) ?_; intro v9 w9 hr9 hb9 hg9; obtain ⟨p9, c9, rfl⟩ := row_sl hr9; have HX9 : Hid (boxO w9 g vc vf nil5 nil5 M) := Lib.hid ((hb9.block g HA2.out.hi).trans HA2.out.box); have HF9 := Lib.hid (HA2.out.flow hr9 hb9 hg9); have z0 := (nine_of (more := []) HX9.out).c1; have z1 := boxO_free HX9.out 1; clear hr9 hb9 hg9 y0 q0 q1 d0 d1; generalize (M.flows.take i ++ [x]).length = N9 at *)
        clear z0 z1
        go_roundw
        case rel => exact ⟨i + 1, _, by omega, by go_num, by rw [HTK.out]; exact HF9⟩
        case measure => simp [intOf]; omega
      · have hte : M.flows.take i = M.flows := List.take_of_length_le (by rw [HN0'.out]; omega)
        rw [hte] at HA
        clear hte
        rename World => wa0
        obtain ⟨vf0, hvf⟩ : ∃ y, y = vf := ⟨_, rfl⟩
        subst hvf
        have HD0 := HA
        obtain ⟨k0, k1, k2, k3, k4, k5, k6, k7, k8⟩ := HN0.out.keep HD0.out.bel HN0.out.lt
        go_wp2
        clear k0 k1 k2 k3 k4 k5 k6 k7 k8
        go_loopw [41] (fun si wr => ∃ (i : Nat) (ve : Value), i ≤ n1 ∧ si = .int .i64 (i : Int) ∧ Hid (OursAt W0 wx wr wx.heap.size g vc vf0 ve nil5 M M.flows (M.ents.take i) [])) (fun si _ => n1 - (intOf si).toNat)
        case atStart => exact ⟨0, _, Nat.zero_le _, rfl, HD0⟩
        case round =>
          obtain ⟨i, ve, hi, rfl, HA⟩ := hrel
          by_cases hlt : i < n1
          · obtain ⟨x, hx⟩ : ∃ x, M.ents[i]? = some x := ⟨_, List.getElem?_eq_getElem (by rw [HN1.out]; exact hlt)⟩
            obtain ⟨b, o, rfl, hat⟩ := HV1.out i x hx
            obtain ⟨d0, d1⟩ := ent2 (hat.keep HA.out.bel hat.lt)
            have HTK := Lib.hid (take_more hx)
            have HBX := Lib.hid (((Below.refl wr.heap.size wr).alloc (Nat.le_refl _) (.cells (encE.cs x).toArray 65)).alloc (by simp) (.cells (encE.cs x).toArray 80))
            have HA1 := Lib.hid (HA.out.keep ((Below.refl wr.heap.size wr).alloc (Nat.le_refl _) (.cells (encE.cs x).toArray 65)))
            have HA2 := Lib.hid (HA.out.keep HBX.out)
            obtain ⟨q0, q1⟩ := ent2 (BoxE.new encE wr x 65).at0
            have y0 := HA1.out.nine.c2
            clear hx hat
            go_wp2_with (at_builtin; refine wpList_append_el (E := encE) rfl _ _ 36 80 rfl info_oent wx.heap.size _ x (wr.heap.size + 1) HA2.out.ents rfl (by have := el_new encE (wr.alloc (.cells (encE.cs x).toArray 65)) x 80; rw [World.size_alloc] at this; exact this) HA2.out.le (take_small HN1.out hL1) ?_; intro v9 w9 hr9 hb9 hg9; obtain ⟨p9, c9, rfl⟩ := row_sl hr9; have HX9 : Hid (boxO w9 g vc vf0 ve nil5 M) := Lib.hid ((hb9.block g HA2.out.hi).trans HA2.out.box); have HF9 := Lib.hid (HA2.out.ent hr9 hb9 hg9); have z0 := (nine_of (more := []) HX9.out).c2; have z1 := boxO_free HX9.out 2; clear hr9 hb9 hg9 y0 q0 q1 d0 d1; generalize (M.ents.take i ++ [x]).length = N9 at *)
            clear z0 z1
            go_roundw
            case rel => exact ⟨i + 1, _, by omega, by go_num, by rw [HTK.out]; exact HF9⟩
            case measure => simp [intOf]; omega
          · have hte : M.ents.take i = M.ents := List.take_of_length_le (by rw [HN1.out]; omega)
            rw [hte] at HA
            clear hte
            rename World => wa1
            obtain ⟨ve0, hve⟩ : ∃ y, y = ve := ⟨_, rfl⟩
            subst hve
            have HD1 := HA
            obtain ⟨k0, k1, k2, k3, k4, k5, k6, k7, k8⟩ := HN0.out.keep HD1.out.bel HN0.out.lt
            go_wp2
            clear k0 k1 k2 k3 k4 k5 k6 k7 k8
            go_loopw [55] (fun si wr => ∃ (i : Nat) (vl : Value), i ≤ n2 ∧ si = .int .i64 (i : Int) ∧ Hid (OursAt W0 wx wr wx.heap.size g vc vf0 ve0 vl M M.flows M.ents (M.lines.take i))) (fun si _ => n2 - (intOf si).toNat)
            case atStart => exact ⟨0, _, Nat.zero_le _, rfl, HD1⟩
            case round =>
              obtain ⟨i, vl, hi, rfl, HA⟩ := hrel
              by_cases hlt : i < n2
              · obtain ⟨x, hx⟩ : ∃ x, M.lines[i]? = some x := ⟨_, List.getElem?_eq_getElem (by rw [HN2.out]; exact hlt)⟩
                obtain ⟨b, o, rfl, hat⟩ := HV2.out i x hx
                obtain ⟨d0, d1, d2⟩ := lin3 (hat.keep HA.out.bel hat.lt)
                have HTK := Lib.hid (take_more hx)
                have HBX := Lib.hid (((Below.refl wr.heap.size wr).alloc (Nat.le_refl _) (.cells (encL.cs x).toArray 67)).alloc (by simp) (.cells (encL.cs x).toArray 81))
                have HA1 := Lib.hid (HA.out.keep ((Below.refl wr.heap.size wr).alloc (Nat.le_refl _) (.cells (encL.cs x).toArray 67)))
                have HA2 := Lib.hid (HA.out.keep HBX.out)
                obtain ⟨q0, q1, q2⟩ := lin3 (BoxE.new encL wr x 67).at0
                have y0 := HA1.out.nine.c3
                clear hx hat
                go_wp2_with (at_builtin; refine wpList_append_el (E := encL) rfl _ _ 37 81 rfl info_olin wx.heap.size _ x (wr.heap.size + 1) HA2.out.lines rfl (by have := el_new encL (wr.alloc (.cells (encL.cs x).toArray 67)) x 81; rw [World.size_alloc] at this; exact this) HA2.out.le (take_small HN2.out hL2) ?_; intro v9 w9 hr9 hb9 hg9; obtain ⟨p9, c9, rfl⟩ := row_sl hr9; have HX9 : Hid (boxO w9 g vc vf0 ve0 vl M) := Lib.hid ((hb9.block g HA2.out.hi).trans HA2.out.box); have HF9 := Lib.hid (HA2.out.line hr9 hb9 hg9); have z0 := (nine_of (more := []) HX9.out).c3; have z1 := boxO_free HX9.out 3; clear hr9 hb9 hg9 y0 q0 q1 q2 d0 d1 d2; generalize (M.lines.take i ++ [x]).length = N9 at *)
                clear z0 z1
                go_roundw
                case rel => exact ⟨i + 1, _, by omega, by go_num, by rw [HTK.out]; exact HF9⟩
                case measure => simp [intOf]; omega
              · have hte : M.lines.take i = M.lines := List.take_of_length_le (by rw [HN2.out]; omega)
                rw [hte] at HA
                clear hte
                obtain ⟨y0, y1, y2, y3, y4, y5, y6, y7, y8⟩ := HA.out.nine
                have HCH : Hid (ChartV wr vc M.chart) := Lib.hid (chart_but HO.out.2.2.1 rfl (fun o k => box_noint HO.out.1 o k (chart_noint HO.out.2.2.1) (fun _ e => by cases e) (fun _ e => by cases e) (fun _ e => by cases e)) HA.out.but)
                have HX2 : Hid (BoxM wr (w.heap.size + 1) 39 nil5 nil5 nil5 nil5 zeroM) := Lib.hid ((HA.out.bel.block _ (by rw [HS0.out]; omega)).trans HX0.out)
                have HCH' := HCH.out
                obtain ⟨pz, cz, rfl, _⟩ := HCH'
                go_wp2_with (refine wpList_store_mast rfl 39 (.tmp 2) (.tmp 66) rfl (w.heap.size + 1) _ _ _ _ _ _ _ _ _ _ 39 rfl rfl HX2.out ⟨rfl, own_one HA.out.flows, own_one HA.out.ents, own_one HA.out.lines⟩ (by kernel_rfl) ?_; intro w8 hb8 hg8)
                have HB8 : Hid (Below w.heap.size w w8) := Lib.hid ((HB0.out.trans (HA.out.bel.mono HB0.out.size)).grown hg8 (Nat.le_trans HB0.out.size HA.out.bel.size) (fun j hj => by cases hj; omega))
                have hlow : w.heap.size + 1 < wx.heap.size := by have := HST.out.lo; have := HST.out.hi; have := HS0.out; omega
                have HM8 : Hid (MastIn w8 (.slice pz M.chart.length cz) vf0 ve0 vl M) := Lib.hid ⟨chart_but HCH.out rfl (fun o k => box_noint (g := w.heap.size + 1) HX2.out o k (fun _ e => by cases e) (fun _ e => by cases e) (fun _ e => by cases e) (fun _ e => by cases e)) (fun j hj hne => hg8.block j hj (fun e0 => hne (Option.some.inj e0))), els_of_own (HA.out.flows.kept hg8 (own_far HA.out.flows hlow)), els_of_own (HA.out.ents.kept hg8 (own_far HA.out.ents hlow)), els_of_own (HA.out.lines.kept hg8 (own_far HA.out.lines hlow))⟩
                obtain ⟨z0, z1, z2, z3, z4, z5, z6, z7, z8⟩ := hb8.nine
                exact bodyPost_ret (v := aggM (.slice pz M.chart.length cz) vf0 ve0 vl M) (by simp [results, Tryz.results14, go_sem, z0, z1, z2, z3, z4, z5, z6, z7, z8]) rfl ⟨_, rfl, ⟨_, _, _, _, rfl, HM8.out⟩, HB8.out⟩
end Go.Proofs.YticdmlijacnjbaaGreatDoor.Un
/- The walks of the statements' ours, theirs and few, and of the document's Same: the same flows, in new memory; whether flows are few and short; whether lists are the same. -/
namespace Go.Proofs.YticdmlijacnjbaaGreatDoor.Fl
open Go.RowKit

theorem info_ours : (Tryz.prog.info? 87).map (fun i => (i.zero, i.size, i.bytes)) = some (some (.agg #[.string ⟨#[]⟩, .int .i64 0]), 2, 24) := by kernel_rfl
theorem info_theirs : (Tryz.prog.info? 86).map (fun i => (i.zero, i.size, i.bytes)) = some (some (.agg #[.string ⟨#[]⟩, .int .i64 0]), 2, 24) := by kernel_rfl
/-- What the round of a copying loop holds. -/
def CopyAt (w : World) (e : TypeId) (L : List Flow) (s3 s8 : Value) (wr : World) : Prop :=
  ∃ k : Nat, k ≤ L.length ∧ s8 = .int .i64 (k : Int) ∧ wr.ownsRow w.heap.size e 2 s3 (L.take k).length (flat encF (L.take k)) ∧ Below w.heap.size w wr
/-- A list is told in new memory. -/
def FlowsTold (w : World) (L : List Flow) (e : Ending) (w' : World) : Prop := ∃ v, e = .returned v ∧ FlowsV w' v L ∧ Below w.heap.size w w'
def shortF (a : Flow) : Bool := decide (a.code.size ≤ 60)
def fewF (L : List Flow) : Bool := decide (L.length ≤ 70) && L.all shortF
theorem fewF_parts {L : List Flow} (h : fewF L = true) : L.length ≤ 70 ∧ ∀ x ∈ L, x.code.size ≤ 60 := by
  unfold fewF at h
  rw [Bool.and_eq_true] at h
  refine ⟨of_decide_eq_true h.1, fun x hx => ?_⟩
  have := List.all_eq_true.1 h.2 x hx
  unfold shortF at this
  exact of_decide_eq_true this
theorem fewF_no {L : List Flow} {x : Flow} (hx : x ∈ L) (h : shortF x = false) : fewF L = false := by
  cases hb : fewF L with
  | false => rfl
  | true =>
    unfold fewF at hb
    rw [Bool.and_eq_true] at hb
    rw [← h]; exact (List.all_eq_true.1 hb.2 x hx).symm
/-! ### How two flows compare -/
def eqF (a b : Flow) : Bool := decide (a = b)
def eqFs (a b : Flow) : Bool := a.code.toList == b.code.toList && a.kind == b.kind
theorem eqFs_eq (a b : Flow) : eqFs a b = eqF a b := by
  unfold eqFs eqF
  rw [Bool.eq_iff_iff]
  simp only [Bool.and_eq_true, beq_iff_eq, decide_eq_true_eq]
  constructor
  · rintro ⟨h0, h1⟩
    exact Flow.ext' (toList_inj h0) h1
  · rintro rfl; exact ⟨rfl, rfl⟩
theorem eql_ref (a b : Flow) (w : World) : Sem.run Tryz.prog (binOp .eql 87 (aggL a) (aggL b)) w = .ok (.bool (eqF a b)) w := by
  have hS : Tryz.prog.underlying 87 = some (.struct (Tryz.prog.fieldsOf 87)) := by kernel_rfl
  have hp : Tryz.prog.stoodInHeld 87 = false := by kernel_rfl
  rw [run_eql_struct, show (10000 : Nat) = 9999 + 1 from rfl, run_equalIn_agg w 9999 87 _ _ hS hp, ← eqFs_eq]
  simp only [Program.fieldsOf, Tryz.underlying87]
  go_simp
  unfold eqFs
  by_cases h0 : a.code.toList = b.code.toList
  · by_cases h1 : a.kind = b.kind <;> simp [h0, h1]
  · simp [h0]
theorem neq_ref (a b : Flow) (w : World) : Sem.run Tryz.prog (binOp .neq 87 (aggL a) (aggL b)) w = .ok (.bool (!eqF a b)) w := by
  have hS : Tryz.prog.underlying 87 = some (.struct (Tryz.prog.fieldsOf 87)) := by kernel_rfl
  have hp : Tryz.prog.stoodInHeld 87 = false := by kernel_rfl
  rw [run_neq_struct, show (10000 : Nat) = 9999 + 1 from rfl, run_equalIn_agg w 9999 87 _ _ hS hp, ← eqFs_eq]
  simp only [Program.fieldsOf, Tryz.underlying87]
  go_simp
  unfold eqFs
  by_cases h0 : a.code.toList = b.code.toList
  · by_cases h1 : a.kind = b.kind <;> simp [h0, h1]
  · simp [h0]
theorem eql_flow (a b : Flow) (w : World) : Sem.run Tryz.prog (binOp .eql 86 (aggL a) (aggL b)) w = .ok (.bool (eqF a b)) w := by
  have hS : Tryz.prog.underlying 86 = some (.struct (Tryz.prog.fieldsOf 86)) := by kernel_rfl
  have hp : Tryz.prog.stoodInHeld 86 = false := by kernel_rfl
  rw [run_eql_struct, show (10000 : Nat) = 9999 + 1 from rfl, run_equalIn_agg w 9999 86 _ _ hS hp, ← eqFs_eq]
  simp only [Program.fieldsOf, Tryz.underlying86]
  go_simp
  unfold eqFs
  by_cases h0 : a.code.toList = b.code.toList
  · by_cases h1 : a.kind = b.kind <;> simp [h0, h1]
  · simp [h0]
theorem guard_ref : Tryz.prog.eqGuardType Tryz.prog.depth 87 = false := by kernel_rfl
theorem guard_flow : Tryz.prog.eqGuardType Tryz.prog.depth 86 = false := by kernel_rfl
theorem eqF_iff (a b : Flow) : eqF a b = true ↔ a = b := by simp [eqF]
theorem eqF_no (a b : Flow) : eqF a b = false ↔ a ≠ b := by simp [eqF]
def sameF (L M : List Flow) : Bool := decide (L = M)
theorem sameF_len {us vs : List Flow} (h : us.length ≠ vs.length) : sameF us vs = false := decide_eq_false fun e => h (by rw [e])
theorem sameF_no {us vs : List Flow} {i : Nat} {x y : Flow} (hx : us[i]? = some x) (hy : vs[i]? = some y) (h : x ≠ y) : sameF us vs = false :=
  decide_eq_false fun e => h (by rw [e, hy] at hx; exact (Option.some.inj hx).symm)
theorem sameF_yes {us vs : List Flow} {n : Nat} (hu : us.length = n) (hv : vs.length = n) (h : ∀ (j : Nat) (x y : Flow), j < n → us[j]? = some x → vs[j]? = some y → x = y) : sameF us vs = true :=
  decide_eq_true (by
    apply List.ext_getElem?
    intro j
    by_cases hj : j < n
    · rw [List.getElem?_eq_getElem (by omega), List.getElem?_eq_getElem (by omega)]
      rw [h j _ _ hj (List.getElem?_eq_getElem (by omega)) (List.getElem?_eq_getElem (by omega))]
    · rw [List.getElem?_eq_none (by omega), List.getElem?_eq_none (by omega)])
set_option maxRecDepth 100000 in
set_option maxHeartbeats 4000000 in
theorem same_any (v u : Value) (vs us : List Flow) (w : World) (h : FlowsV w v vs) (h' : FlowsV w u us) :
    Calls Tryz.prog 31 #[v, u] w fun e w' => e = .returned (.bool (sameF vs us)) ∧ ∃ q, w' = w.drewN q := by
  obtain ⟨a, c, rfl, hk, hm, _, hc⟩ := h
  obtain ⟨a', c', rfl, hk', hm', _, hc'⟩ := h'
  obtain ⟨n, hn⟩ : ∃ n, vs.length = n := ⟨_, rfl⟩
  obtain ⟨n', hn'⟩ : ∃ n, us.length = n := ⟨_, rfl⟩
  obtain ⟨r, hr⟩ : ∃ r, sameF vs us = r := ⟨_, rfl⟩
  rw [hn] at hk ⊢
  rw [hn'] at hk' ⊢
  rw [hr]
  have H := Lib.hid hc
  have H' := Lib.hid hc'
  have HN := Lib.hid hn
  have HN' := Lib.hid hn'
  have HR := Lib.hid hr
  unfold maxLen at hm hm'
  clear hc hc' hn hn' hr
  by_cases hne : n = n'
  · subst hne
    have hnn : ((n : Int) != (n : Int)) = false := by simp
    have hgd := guard_ref
    go_enter Tryz.func31, Tryz.ntmps31
    go_wp2
    go_loopg [5] n (fun kx vi wr => ∃ i q : Nat, vi = .int .i64 (i : Int) ∧ i ≤ n ∧ n - i ≤ kx ∧ Hid (wr = w.drewN q) ∧ Hid (∀ (j : Nat) (x y : Flow), j < i → vs[j]? = some x → us[j]? = some y → x = y))
    case atStart => exact ⟨0, 0, rfl, Nat.zero_le _, by omega, rfl, Lib.hid fun j x y hj => absurd hj (Nat.not_lt_zero _)⟩
    case round =>
      obtain ⟨i, q, rfl, hin, hkx, HW, HA⟩ := hrel
      by_cases hlt : i < n
      · obtain ⟨x, hx⟩ : ∃ y, vs[i]? = some y := ⟨_, List.getElem?_eq_getElem (by rw [HN.out]; exact hlt)⟩
        obtain ⟨y, hy⟩ : ∃ y, us[i]? = some y := ⟨_, List.getElem?_eq_getElem (by rw [HN'.out]; exact hlt)⟩
        obtain ⟨b1, o1, rfl, d1⟩ := H.out i _ hx
        obtain ⟨b2, o2, rfl, d2⟩ := H'.out i _ hy
        have HX := Lib.hid hx
        have HY := Lib.hid hy
        clear hx hy
        have hd1 := d1.drewN q
        have hd2 := d2.drewN q
        rw [← HW.out] at hd1 hd2
        obtain ⟨e0, e1⟩ := two hd1
        obtain ⟨k0, k1⟩ := two hd2
        clear d1 d2 hd1 hd2
        have hltz : (i : Int) < (n : Int) := by omega
        have hq := neq_ref x y
        cases hxy : eqF x y with
        | true =>
          have HXE := Lib.hid ((eqF_iff x y).1 hxy)
          rw [hxy] at hq
          clear hxy
          go_wp2_with fail
          go_big_quiet (fail)
          clear e0 e1 k0 k1
          go_wp2
          go_roundg (n - (i + 1))
          case measure => omega
          case rel => exact ⟨i + 1, q + nq, by first | rfl | go_num, by omega, Nat.le_refl _, Lib.hid (by rw [HW.out, World.drewN_drewN]), Lib.hid fun j z t hj hz ht => by
            rcases Nat.lt_or_ge j i with h | h
            · exact HA.out j z t h hz ht
            · obtain rfl : j = i := by omega
              rw [HX.out] at hz; rw [HY.out] at ht
              cases hz; cases ht; exact HXE.out⟩
        | false =>
          have HXE := Lib.hid ((eqF_no x y).1 hxy)
          rw [hxy] at hq
          clear hxy
          go_wp2_with fail
          go_big_quiet (fail)
          clear e0 e1 k0 k1
          go_wp2
          go_ret
          exact ⟨ret_bool (by rw [← HR.out, sameF_no HX.out HY.out HXE.out]), q + nq, by rw [HW.out, World.drewN_drewN]⟩
      · have hltz : ¬ (i : Int) < (n : Int) := by omega
        go_wp2
        go_ret
        exact ⟨ret_bool (by rw [← HR.out, sameF_yes HN.out HN'.out fun j x y hj => HA.out j x y (by omega)]), q, HW.out⟩
  · have hnn : ((n : Int) != (n' : Int)) = true := by simp; omega
    have HNE := Lib.hid hne
    clear hne
    go_enter Tryz.func31, Tryz.ntmps31
    go_wp2
    go_ret
    exact ⟨ret_bool (by rw [← HR.out, sameF_len (by rw [HN.out, HN'.out]; exact HNE.out)]), 0, rfl⟩
end Go.Proofs.YticdmlijacnjbaaGreatDoor.Fl
/- The walk of the document's Same at master data that are the same. What was there stays. -/
namespace Go.Proofs.YticdmlijacnjbaaGreatDoor.Un
open Go.RowKit

theorem neq_ent (x : Ent) (w : World) : Sem.run Tryz.prog (binOp .neq 80 (.agg #[.string x.code, .string x.cur]) (.agg #[.string x.code, .string x.cur])) w = .ok (.bool false) w := by
  have hS : Tryz.prog.underlying 80 = some (.struct (Tryz.prog.fieldsOf 80)) := by kernel_rfl
  have hp : Tryz.prog.stoodInHeld 80 = false := by kernel_rfl
  rw [run_neq_struct, show (10000 : Nat) = 9999 + 1 from rfl, run_equalIn_agg w 9999 80 _ _ hS hp]
  simp only [Program.fieldsOf, Tryz.underlying80]
  go_simp
theorem neq_lin (x : Lin) (w : World) : Sem.run Tryz.prog (binOp .neq 81 (.agg #[.string x.acc, .string x.flow, .string x.to]) (.agg #[.string x.acc, .string x.flow, .string x.to])) w = .ok (.bool false) w := by
  have hS : Tryz.prog.underlying 81 = some (.struct (Tryz.prog.fieldsOf 81)) := by kernel_rfl
  have hp : Tryz.prog.stoodInHeld 81 = false := by kernel_rfl
  rw [run_neq_struct, show (10000 : Nat) = 9999 + 1 from rfl, run_equalIn_agg w 9999 81 _ _ hS hp]
  simp only [Program.fieldsOf, Tryz.underlying81]
  go_simp
theorem guard_ent : Tryz.prog.eqGuardType Tryz.prog.depth 80 = false := by kernel_rfl
theorem guard_lin : Tryz.prog.eqGuardType Tryz.prog.depth 81 = false := by kernel_rfl
theorem chart_self {v u : Value} {L : List Acct} {W : World} (h : ChartV W v L) (h' : ChartV W u L) : Calls Tryz.prog 30 #[v, u] W fun e w' => e = .returned (.bool true) ∧ Below W.heap.size W w' := by
  have := same_any v u L L W h h'
  rw [show sameA L L = true from decide_eq_true rfl] at this
  exact this.mono fun e w' ⟨h1, q, h2⟩ => ⟨h1, by rw [h2]; exact below_drewN (Below.refl _ _) q⟩
theorem flow_self {v u : Value} {L : List Fl.Flow} {W : World} (h : Fl.FlowsV W v L) (h' : Fl.FlowsV W u L) : Calls Tryz.prog 31 #[v, u] W fun e w' => e = .returned (.bool true) ∧ Below W.heap.size W w' := by
  have := Fl.same_any v u L L W h h'
  rw [show Fl.sameF L L = true from decide_eq_true rfl] at this
  exact this.mono fun e w' ⟨h1, q, h2⟩ => ⟨h1, by rw [h2]; exact below_drewN (Below.refl _ _) q⟩
set_option maxRecDepth 100000 in
set_option maxHeartbeats 16000000 in
theorem same_any (c f e l c' f' e' l' : Value) (M : Mast) (w : World) (h : MastIn w c f e l M) (h' : MastIn w c' f' e' l' M) :
    Calls Tryz.prog 13 #[aggM c f e l M, aggM c' f' e' l' M] w fun en w' => en = .returned (.bool true) ∧ Below w.heap.size w w' := by
  have hB1 := (Below.refl w.heap.size w).alloc (Nat.le_refl _) (.cells (cellsM c f e l M) 39)
  have hB0 := hB1.alloc (by simp) (.cells (cellsM c' f' e' l' M) 39)
  have hN0 := (nine_new w c f e l M 39).kept ((Below.refl _ (w.alloc (.cells (cellsM c f e l M) 39))).alloc (Nat.le_refl _) (.cells (cellsM c' f' e' l' M) 39))
  have hP0 := nine_new (w.alloc (.cells (cellsM c f e l M) 39)) c' f' e' l' M 39
  rw [World.size_alloc] at hP0
  have hM0 := h.keep hB0
  have hQ0 := h'.keep hB0
  obtain ⟨W0, hW0⟩ : ∃ W0, (w.alloc (.cells (cellsM c f e l M) 39)).alloc (.cells (cellsM c' f' e' l' M) 39) = W0 := ⟨_, rfl⟩
  rw [hW0] at hB0 hN0 hP0 hM0 hQ0
  have HB0 := Lib.hid hB0
  have HM0 := Lib.hid hM0
  have HQ0 := Lib.hid hQ0
  obtain ⟨p1, c1, e1, hc1, hm1, _, hv1⟩ := hM0.ents
  obtain ⟨p2, c2, e2, hc2, hm2, _, hv2⟩ := hM0.lines
  obtain ⟨p3, c3, e3, hc3, hm3, _, hv3⟩ := hQ0.ents
  obtain ⟨p4, c4, e4, hc4, hm4, _, hv4⟩ := hQ0.lines
  subst e1 e2 e3 e4
  obtain ⟨n1, hn1⟩ : ∃ n, M.ents.length = n := ⟨_, rfl⟩
  obtain ⟨n2, hn2⟩ : ∃ n, M.lines.length = n := ⟨_, rfl⟩
  rw [hn1] at hc1 hc3
  rw [hn2] at hc2 hc4
  rw [hn1, hn2] at hN0 hP0 hW0 HM0 HQ0 ⊢
  have HN0 := Lib.hid hN0
  have HP0 := Lib.hid hP0
  have HN1 := Lib.hid hn1
  have HN2 := Lib.hid hn2
  have HV1 := Lib.hid hv1
  have HV2 := Lib.hid hv2
  have HV3 := Lib.hid hv3
  have HV4 := Lib.hid hv4
  have hd1 : ((n1 : Int) != (n1 : Int)) = false := by simp
  have hd2 : ((n2 : Int) != (n2 : Int)) = false := by simp
  have hg1 := guard_ent
  have hg2 := guard_lin
  unfold maxLen at hm1 hm2 hm3 hm4
  clear h h' hB1 hB0 hM0 hQ0 hn1 hn2 hv1 hv2 hv3 hv4
  obtain ⟨k0, k1, k2, k3, k4, k5, k6, k7, k8⟩ := hN0
  obtain ⟨j0, j1, j2, j3, j4, j5, j6, j7, j8⟩ := hP0
  go_enter Tryz.func13, Tryz.ntmps13
  go_wp2
  clear k0 k1 k2 k3 k4 k5 k6 k7 k8 j0 j1 j2 j3 j4 j5 j6 j7 j8 hW0
  go_loopw [5] (fun si wr => ∃ (i : Nat), i ≤ n1 ∧ si = .int .i64 (i : Int) ∧ Hid (Below W0.heap.size W0 wr)) (fun si _ => n1 - (intOf si).toNat)
  case atStart => exact ⟨0, Nat.zero_le _, rfl, Lib.hid (Below.refl _ _)⟩
  case round =>
    obtain ⟨i, hi, rfl, HB⟩ := hrel
    obtain ⟨k0, k1, k2, k3, k4, k5, k6, k7, k8⟩ := HN0.out.keep HB.out HN0.out.lt
    obtain ⟨j0, j1, j2, j3, j4, j5, j6, j7, j8⟩ := HP0.out.keep HB.out HP0.out.lt
    by_cases hlt : i < n1
    · obtain ⟨x, hx⟩ : ∃ x, M.ents[i]? = some x := ⟨_, List.getElem?_eq_getElem (by rw [HN1.out]; exact hlt)⟩
      obtain ⟨b, o, rfl, hat⟩ := HV1.out i x hx
      obtain ⟨b', o', rfl, hat'⟩ := HV3.out i x hx
      obtain ⟨d0, d1⟩ := ent2 (hat.keep HB.out hat.lt)
      obtain ⟨y0, y1⟩ := ent2 (hat'.keep HB.out hat'.lt)
      have hq := fun W => neq_ent x W
      clear hx hat hat'
      go_wp2_with fail
      go_big_quiet (fail)
      have HB1 := Lib.hid (below_drewN HB.out nq)
      clear k0 k1 k2 k3 k4 k5 k6 k7 k8 j0 j1 j2 j3 j4 j5 j6 j7 j8 d0 d1 y0 y1 hq
      go_wp2
      go_roundw
      case rel => exact ⟨i + 1, by omega, by go_num, HB1⟩
      case measure => simp [intOf]; omega
    · rename World => wa
      go_wp2
      clear k0 k1 k2 k3 k4 k5 k6 k7 k8 j0 j1 j2 j3 j4 j5 j6 j7 j8
      go_loopw [6] (fun si wr => ∃ (i : Nat), i ≤ n2 ∧ si = .int .i64 (i : Int) ∧ Hid (Below W0.heap.size W0 wr)) (fun si _ => n2 - (intOf si).toNat)
      case atStart => exact ⟨0, Nat.zero_le _, rfl, HB⟩
      case round =>
        obtain ⟨i, hi, rfl, HB⟩ := hrel
        obtain ⟨k0, k1, k2, k3, k4, k5, k6, k7, k8⟩ := HN0.out.keep HB.out HN0.out.lt
        obtain ⟨j0, j1, j2, j3, j4, j5, j6, j7, j8⟩ := HP0.out.keep HB.out HP0.out.lt
        by_cases hlt : i < n2
        · obtain ⟨x, hx⟩ : ∃ x, M.lines[i]? = some x := ⟨_, List.getElem?_eq_getElem (by rw [HN2.out]; exact hlt)⟩
          obtain ⟨b, o, rfl, hat⟩ := HV2.out i x hx
          obtain ⟨b', o', rfl, hat'⟩ := HV4.out i x hx
          obtain ⟨d0, d1, d2⟩ := lin3 (hat.keep HB.out hat.lt)
          obtain ⟨y0, y1, y2⟩ := lin3 (hat'.keep HB.out hat'.lt)
          have hq := fun W => neq_lin x W
          clear hx hat hat'
          go_wp2_with fail
          go_big_quiet (fail)
          have HB1 := Lib.hid (below_drewN HB.out nq)
          clear k0 k1 k2 k3 k4 k5 k6 k7 k8 j0 j1 j2 j3 j4 j5 j6 j7 j8 d0 d1 d2 y0 y1 y2 hq
          go_wp2
          go_roundw
          case rel => exact ⟨i + 1, by omega, by go_num, HB1⟩
          case measure => simp [intOf]; omega
        · have HMR := Lib.hid (HM0.out.keep HB.out)
          have HQR := Lib.hid (HQ0.out.keep HB.out)
          go_wp2_with fail
          refine (chart_self HMR.out.chart HQR.out.chart).mono ?_
          rintro en w2 ⟨rfl, hb2⟩
          have HB2 := Lib.hid (HB.out.trans (hb2.mono HB.out.size))
          have HMS := Lib.hid (HMR.out.keep hb2)
          have HQS := Lib.hid (HQR.out.keep hb2)
          clear hb2 k0 k1 k2 k3 k4 k5 k6 k7 k8 j0 j1 j2 j3 j4 j5 j6 j7 j8
          obtain ⟨k0, k1, k2, k3, k4, k5, k6, k7, k8⟩ := HN0.out.keep HB2.out HN0.out.lt
          obtain ⟨j0, j1, j2, j3, j4, j5, j6, j7, j8⟩ := HP0.out.keep HB2.out HP0.out.lt
          go_wp2_with fail
          refine (flow_self HMS.out.flows HQS.out.flows).mono ?_
          rintro en w3 ⟨rfl, hb3⟩
          have HB3 := Lib.hid (HB2.out.trans (hb3.mono HB2.out.size))
          clear hb3 k0 k1 k2 k3 k4 k5 k6 k7 k8 j0 j1 j2 j3 j4 j5 j6 j7 j8
          obtain ⟨k0, k1, k2, k3, k4, k5, k6, k7, k8⟩ := HN0.out.keep HB3.out HN0.out.lt
          obtain ⟨j0, j1, j2, j3, j4, j5, j6, j7, j8⟩ := HP0.out.keep HB3.out HP0.out.lt
          have s4 : (M.cur.toList == M.cur.toList) = true := by simp
          have s5 : (M.res.toList == M.res.toList) = true := by simp
          have s6 : (M.dif.toList == M.dif.toList) = true := by simp
          have s7 : (M.min.toList == M.min.toList) = true := by simp
          have s8 : (M.stk.toList == M.stk.toList) = true := by simp
          go_wp2
          go_ret
          exact ⟨rfl, HB0.out.trans (HB3.out.mono HB0.out.size)⟩
end Go.Proofs.YticdmlijacnjbaaGreatDoor.Un
