/- ChartWordsOwn; UnitRows; FlowDocWords; ChartDocRight: texts put together (each begins with what it is). -/
import Derived.Test.YticdmlijacnjbaaGreatDoorM13
import Derived.Test.YticdmlijacnjbaaGreatDoorM05
import Derived.Test.YticdmlijacnjbaaGreatDoorM17
import Derived.Test.YticdmlijacnjbaaGreatDoorM14
import Derived.Test.YticdmlijacnjbaaGreatDoorM11
/- The walks of chart.Words, told more of: the words lie in a row of the call's own. -/
namespace Go.Proofs.YticdmlijacnjbaaGreatDoor.Ow
open Go.RowKit

/-- Words in a row of the call's own. -/
def StrsOwned (w : World) (ws : List ByteArray) (e : Ending) (w' : World) : Prop := ∃ v, e = .returned v ∧ w'.ownsRow w.heap.size 9 1 v ws.length (ws.map Value.string) ∧ Below w.heap.size w w'
theorem own_words {W : World} {B B' : Nat} {e : TypeId} {u : Value} {ws : List ByteArray} (h : W.ownsRow B e 1 u ws.length (ws.map Value.string)) (hB : B' ≤ B) : W.ownsRow B' e 1 u ws.length (ws.map Value.string) := row_base h hB
set_option maxRecDepth 100000 in
set_option maxHeartbeats 4000000 in
theorem words_no (a : Acct) (w : World) (h : rightA a = false) : Calls Tryz.prog 34 #[aggF a] w (StrsOwned w (wordsA a)) := by
  have HR := Lib.hid (right_any a)
  rw [h] at HR
  rw [words_nil h]
  have HB := Lib.hid ((Below.refl w.heap.size w).alloc (Nat.le_refl _) (.cells #[.string a.code, .int .i64 a.cls, .bool a.cash, .bool a.both, .string a.fixed, .bool a.worn] 89))
  clear h
  go_enter Tryz.func34, Tryz.ntmps34
  go_wp2_with fail
  refine (HR.out _).mono ?_
  rintro e w1 ⟨rfl, hb1⟩
  have HB1 := Lib.hid hb1
  clear hb1
  go_wp2
  go_ret
  exact ⟨_, rfl, World.ownsRow_nil _ _ _ _, HB.out.trans (HB1.out.mono HB.out.size)⟩
set_option maxRecDepth 100000 in
set_option maxHeartbeats 4000000 in
theorem words_plain (co : ByteArray) (cl : Int) (w : World) (hL : Laid w) (h : rightA ⟨co, cl, false, false, ⟨#[]⟩, false⟩ = true) : Calls Tryz.prog 34 #[aggF ⟨co, cl, false, false, ⟨#[]⟩, false⟩] w (StrsOwned w (wordsA ⟨co, cl, false, false, ⟨#[]⟩, false⟩)) := by
  have HR := Lib.hid (right_any ⟨co, cl, false, false, ⟨#[]⟩, false⟩)
  rw [h] at HR
  have hcl := (right_parts h).2.1
  simp only at hcl
  have HW : Hid (wordsA ⟨co, cl, false, false, ⟨#[]⟩, false⟩ = [tAccount, co, clsW cl]) := Lib.hid (by unfold wordsA; rw [if_pos h]; simp [markW, neB_empty])
  rw [HW.out]
  obtain ⟨i0, hi, hz0, hz1, hz2⟩ := info_parts info_str
  have HI := Lib.hid (And.intro hi (And.intro hz0 (And.intro hz1 hz2)))
  clear h HW hi hz0 hz1 hz2
  have HB := Lib.hid ((Below.refl w.heap.size w).alloc (Nat.le_refl _) (.cells #[.string co, .int .i64 cl, .bool false, .bool false, .string ⟨#[]⟩, .bool false] 89))
  have HL0 := Lib.hid (hL.below HB.out (Nat.le_refl _))
  have HX0 := Lib.hid (BoxA.new w ⟨co, cl, false, false, ⟨#[]⟩, false⟩ 89)
  clear hL
  rcases hcl with rfl | rfl | rfl
  all_goals
    go_enter Tryz.func34, Tryz.ntmps34
    go_wp2_with fail
    refine (HR.out _).mono ?_
    rintro e w1 ⟨rfl, hb1⟩
    have HB1 := Lib.hid (HB.out.trans (hb1.mono HB.out.size))
    have hlt : w.heap.size < w1.heap.size := by have := hb1.size; simp at this; omega
    obtain ⟨g0, g1, g2⟩ := HL0.out.below hb1 (Nat.le_refl _)
    obtain ⟨c0, c1, c2, c3, c4, c5⟩ := (HX0.out.keep hb1 (by simp)).facts
    simp only at c0 c1 c2 c3 c4 c5
    clear hb1
    go_wp2
    go_region
    clear g0 g1 g2
    go_wp2
    go_ret
    exact ⟨_, rfl, row_base (own_three w1 tAccount _ _ _) HB1.out.size, below_drewN (HB1.out.alloc HB1.out.size _) 1⟩
set_option maxRecDepth 100000 in
set_option maxHeartbeats 4000000 in
theorem words_cash (co : ByteArray) (w : World) (hL : Laid w) (h : rightA ⟨co, 0, true, false, ⟨#[]⟩, false⟩ = true) : Calls Tryz.prog 34 #[aggF ⟨co, 0, true, false, ⟨#[]⟩, false⟩] w (StrsOwned w (wordsA ⟨co, 0, true, false, ⟨#[]⟩, false⟩)) := by
  have HR := Lib.hid (right_any ⟨co, 0, true, false, ⟨#[]⟩, false⟩)
  rw [h] at HR
  have HW : Hid (wordsA ⟨co, 0, true, false, ⟨#[]⟩, false⟩ = [tAccount, co, tAsset, tCash]) := Lib.hid (by unfold wordsA; rw [if_pos h]; simp [markW, clsW])
  rw [HW.out]
  obtain ⟨i0, hi, hz0, hz1, hz2⟩ := info_parts info_str
  have HI := Lib.hid (And.intro hi (And.intro hz0 (And.intro hz1 hz2)))
  clear h HW hi hz0 hz1 hz2
  have HB := Lib.hid ((Below.refl w.heap.size w).alloc (Nat.le_refl _) (.cells #[.string co, .int .i64 0, .bool true, .bool false, .string ⟨#[]⟩, .bool false] 89))
  have HL0 := Lib.hid (hL.below HB.out (Nat.le_refl _))
  have HX0 := Lib.hid (BoxA.new w ⟨co, 0, true, false, ⟨#[]⟩, false⟩ 89)
  clear hL
  go_enter Tryz.func34, Tryz.ntmps34
  go_wp2_with fail
  refine (HR.out _).mono ?_
  rintro e w1 ⟨rfl, hb1⟩
  have HB1 := Lib.hid (HB.out.trans (hb1.mono HB.out.size))
  have hlt : w.heap.size < w1.heap.size := by have := hb1.size; simp at this; omega
  obtain ⟨g0, g1, g2⟩ := HL0.out.below hb1 (Nat.le_refl _)
  obtain ⟨c0, c1, c2, c3, c4, c5⟩ := (HX0.out.keep hb1 (by simp)).facts
  simp only at c0 c1 c2 c3 c4 c5
  clear hb1
  go_wp2
  go_region
  clear g0 g1 g2
  go_wp2_with (at_builtin; refine wpList_append_own _ rfl _ _ 58 rfl w1.heap.size 9 i0 (.string ⟨#[]⟩) 1 16 Tryz.underlying58 HI.out.1 HI.out.2.1 HI.out.2.2.1 HI.out.2.2.2 rfl (by decide) _ 3 _ rfl ((own_three w1 tAccount _ _ _).alloc _) ⟨w1.heap.size + 1, 0, none⟩ 1 1 [.string tCash] rfl rfl (new_cells2 w1 _ [.string tCash] _) (by intro u hu; simp at hu; rcases hu with rfl <;> rfl) (by unfold maxLen; omega) (by omega) (by simp; omega) ?_; intro v' w2 hown' hgrow _)
  have HF := Lib.hid (below_grown (below_drewN ((HB1.out.alloc HB1.out.size _).alloc (by have := HB1.out.size; simp; omega) _) 1) (by have := HB1.out.size; simp; omega) (row_base ((own_three w1 tAccount _ _ _).alloc _) HB1.out.size) hgrow)
  go_wp2
  go_ret
  exact ⟨_, rfl, own_words (ws := [tAccount, co, tAsset, tCash]) hown' HB1.out.size, HF.out⟩
set_option maxRecDepth 100000 in
set_option maxHeartbeats 4000000 in
theorem words_both (co : ByteArray) (cl : Int) (w : World) (hL : Laid w) (h : rightA ⟨co, cl, false, true, ⟨#[]⟩, false⟩ = true) (h2 : cl ≠ 2) : Calls Tryz.prog 34 #[aggF ⟨co, cl, false, true, ⟨#[]⟩, false⟩] w (StrsOwned w (wordsA ⟨co, cl, false, true, ⟨#[]⟩, false⟩)) := by
  have HR := Lib.hid (right_any ⟨co, cl, false, true, ⟨#[]⟩, false⟩)
  rw [h] at HR
  have hcl := (right_parts h).2.1
  simp only at hcl
  have HW : Hid (wordsA ⟨co, cl, false, true, ⟨#[]⟩, false⟩ = [tAccount, co, clsW cl, tMutual]) := Lib.hid (by unfold wordsA; rw [if_pos h]; simp [markW])
  rw [HW.out]
  obtain ⟨i0, hi, hz0, hz1, hz2⟩ := info_parts info_str
  have HI := Lib.hid (And.intro hi (And.intro hz0 (And.intro hz1 hz2)))
  clear h HW hi hz0 hz1 hz2
  have HB := Lib.hid ((Below.refl w.heap.size w).alloc (Nat.le_refl _) (.cells #[.string co, .int .i64 cl, .bool false, .bool true, .string ⟨#[]⟩, .bool false] 89))
  have HL0 := Lib.hid (hL.below HB.out (Nat.le_refl _))
  have HX0 := Lib.hid (BoxA.new w ⟨co, cl, false, true, ⟨#[]⟩, false⟩ 89)
  clear hL
  rcases (by omega : cl = 0 ∨ cl = 1) with rfl | rfl
  all_goals
    go_enter Tryz.func34, Tryz.ntmps34
    go_wp2_with fail
    refine (HR.out _).mono ?_
    rintro e w1 ⟨rfl, hb1⟩
    have HB1 := Lib.hid (HB.out.trans (hb1.mono HB.out.size))
    have hlt : w.heap.size < w1.heap.size := by have := hb1.size; simp at this; omega
    obtain ⟨g0, g1, g2⟩ := HL0.out.below hb1 (Nat.le_refl _)
    obtain ⟨c0, c1, c2, c3, c4, c5⟩ := (HX0.out.keep hb1 (by simp)).facts
    simp only at c0 c1 c2 c3 c4 c5
    clear hb1
    go_wp2
    go_region
    clear g0 g1 g2
    go_wp2_with (at_builtin; refine wpList_append_own _ rfl _ _ 58 rfl w1.heap.size 9 i0 (.string ⟨#[]⟩) 1 16 Tryz.underlying58 HI.out.1 HI.out.2.1 HI.out.2.2.1 HI.out.2.2.2 rfl (by decide) _ 3 _ rfl ((own_three w1 tAccount _ _ _).alloc _) ⟨w1.heap.size + 1, 0, none⟩ 1 1 [.string tMutual] rfl rfl (new_cells2 w1 _ [.string tMutual] _) (by intro u hu; simp at hu; rcases hu with rfl <;> rfl) (by unfold maxLen; omega) (by omega) (by simp; omega) ?_; intro v' w2 hown' hgrow _)
    have HF := Lib.hid (below_grown (below_drewN ((HB1.out.alloc HB1.out.size _).alloc (by have := HB1.out.size; simp; omega) _) 1) (by have := HB1.out.size; simp; omega) (row_base ((own_three w1 tAccount _ _ _).alloc _) HB1.out.size) hgrow)
    go_wp2
    go_ret
    exact ⟨_, rfl, own_words (ws := [tAccount, co, _, tMutual]) hown' HB1.out.size, HF.out⟩
set_option maxRecDepth 100000 in
set_option maxHeartbeats 4000000 in
theorem words_fixed (co fi : ByteArray) (w : World) (hL : Laid w) (h : rightA ⟨co, 0, false, false, fi, false⟩ = true) (hf : neB fi = true) : Calls Tryz.prog 34 #[aggF ⟨co, 0, false, false, fi, false⟩] w (StrsOwned w (wordsA ⟨co, 0, false, false, fi, false⟩)) := by
  have HR := Lib.hid (right_any ⟨co, 0, false, false, fi, false⟩)
  rw [h] at HR
  have HW : Hid (wordsA ⟨co, 0, false, false, fi, false⟩ = [tAccount, co, tAsset, tFixed, fi]) := Lib.hid (by unfold wordsA; rw [if_pos h]; simp [markW, clsW, hf])
  rw [HW.out]
  obtain ⟨i0, hi, hz0, hz1, hz2⟩ := info_parts info_str
  have HI := Lib.hid (And.intro hi (And.intro hz0 (And.intro hz1 hz2)))
  clear h HW hi hz0 hz1 hz2
  have HB := Lib.hid ((Below.refl w.heap.size w).alloc (Nat.le_refl _) (.cells #[.string co, .int .i64 0, .bool false, .bool false, .string fi, .bool false] 89))
  have HL0 := Lib.hid (hL.below HB.out (Nat.le_refl _))
  have HX0 := Lib.hid (BoxA.new w ⟨co, 0, false, false, fi, false⟩ 89)
  clear hL
  have HN := Lib.hid hf
  unfold neB at hf
  go_enter Tryz.func34, Tryz.ntmps34
  go_wp2_with fail
  refine (HR.out _).mono ?_
  rintro e w1 ⟨rfl, hb1⟩
  have HB1 := Lib.hid (HB.out.trans (hb1.mono HB.out.size))
  have hlt : w.heap.size < w1.heap.size := by have := hb1.size; simp at this; omega
  obtain ⟨g0, g1, g2⟩ := HL0.out.below hb1 (Nat.le_refl _)
  obtain ⟨c0, c1, c2, c3, c4, c5⟩ := (HX0.out.keep hb1 (by simp)).facts
  simp only at c0 c1 c2 c3 c4 c5
  clear hb1
  go_wp2
  go_region
  clear g0 g1 g2
  go_wp2_with (at_builtin; refine wpList_append_own _ rfl _ _ 58 rfl w1.heap.size 9 i0 (.string ⟨#[]⟩) 1 16 Tryz.underlying58 HI.out.1 HI.out.2.1 HI.out.2.2.1 HI.out.2.2.2 rfl (by decide) _ 3 _ rfl ((own_three w1 tAccount _ _ _).alloc _) ⟨w1.heap.size + 1, 0, none⟩ 2 2 [.string tFixed, .string fi] rfl rfl (new_cells2 w1 _ [.string tFixed, .string fi] _) (by intro u hu; simp at hu; rcases hu with rfl | rfl <;> rfl) (by unfold maxLen; omega) (by omega) (by simp; omega) ?_; intro v' w2 hown' hgrow _)
  have HF := Lib.hid (below_grown (below_drewN ((HB1.out.alloc HB1.out.size _).alloc (by have := HB1.out.size; simp; omega) _) 1) (by have := HB1.out.size; simp; omega) (row_base ((own_three w1 tAccount _ _ _).alloc _) HB1.out.size) hgrow)
  go_wp2
  go_ret
  exact ⟨_, rfl, own_words (ws := [tAccount, co, tAsset, tFixed, fi]) hown' HB1.out.size, HF.out⟩
set_option maxRecDepth 100000 in
set_option maxHeartbeats 4000000 in
theorem words_worn (co fi : ByteArray) (w : World) (hL : Laid w) (h : rightA ⟨co, 0, false, false, fi, true⟩ = true) : Calls Tryz.prog 34 #[aggF ⟨co, 0, false, false, fi, true⟩] w (StrsOwned w (wordsA ⟨co, 0, false, false, fi, true⟩)) := by
  have HR := Lib.hid (right_any ⟨co, 0, false, false, fi, true⟩)
  rw [h] at HR
  have HW : Hid (wordsA ⟨co, 0, false, false, fi, true⟩ = [tAccount, co, tAsset, tWorn, fi]) := Lib.hid (by unfold wordsA; rw [if_pos h]; simp [markW, clsW])
  rw [HW.out]
  obtain ⟨i0, hi, hz0, hz1, hz2⟩ := info_parts info_str
  have HI := Lib.hid (And.intro hi (And.intro hz0 (And.intro hz1 hz2)))
  clear h HW hi hz0 hz1 hz2
  have HB := Lib.hid ((Below.refl w.heap.size w).alloc (Nat.le_refl _) (.cells #[.string co, .int .i64 0, .bool false, .bool false, .string fi, .bool true] 89))
  have HL0 := Lib.hid (hL.below HB.out (Nat.le_refl _))
  have HX0 := Lib.hid (BoxA.new w ⟨co, 0, false, false, fi, true⟩ 89)
  clear hL
  go_enter Tryz.func34, Tryz.ntmps34
  go_wp2_with fail
  refine (HR.out _).mono ?_
  rintro e w1 ⟨rfl, hb1⟩
  have HB1 := Lib.hid (HB.out.trans (hb1.mono HB.out.size))
  have hlt : w.heap.size < w1.heap.size := by have := hb1.size; simp at this; omega
  obtain ⟨g0, g1, g2⟩ := HL0.out.below hb1 (Nat.le_refl _)
  obtain ⟨c0, c1, c2, c3, c4, c5⟩ := (HX0.out.keep hb1 (by simp)).facts
  simp only at c0 c1 c2 c3 c4 c5
  clear hb1
  go_wp2
  go_region
  clear g0 g1 g2
  go_wp2_with (at_builtin; refine wpList_append_own _ rfl _ _ 58 rfl w1.heap.size 9 i0 (.string ⟨#[]⟩) 1 16 Tryz.underlying58 HI.out.1 HI.out.2.1 HI.out.2.2.1 HI.out.2.2.2 rfl (by decide) _ 3 _ rfl ((own_three w1 tAccount _ _ _).alloc _) ⟨w1.heap.size + 1, 0, none⟩ 2 2 [.string tWorn, .string fi] rfl rfl (new_cells2 w1 _ [.string tWorn, .string fi] _) (by intro u hu; simp at hu; rcases hu with rfl | rfl <;> rfl) (by unfold maxLen; omega) (by omega) (by simp; omega) ?_; intro v' w2 hown' hgrow _)
  have HF := Lib.hid (below_grown (below_drewN ((HB1.out.alloc HB1.out.size _).alloc (by have := HB1.out.size; simp; omega) _) 1) (by have := HB1.out.size; simp; omega) (row_base ((own_three w1 tAccount _ _ _).alloc _) HB1.out.size) hgrow)
  go_wp2
  go_ret
  exact ⟨_, rfl, own_words (ws := [tAccount, co, tAsset, tWorn, fi]) hown' HB1.out.size, HF.out⟩
theorem words_any (a : Acct) (w : World) (hL : Laid w) : Calls Tryz.prog 34 #[aggF a] w (StrsOwned w (wordsA a)) := by
  cases h : rightA a with
  | false => exact words_no a w h
  | true =>
    obtain ⟨co, cl, ca, mu, fi, wo⟩ := a
    rcases marks_ways (right_parts h).2.2 with ⟨e1, e2, e3, e4⟩ | ⟨e1, e2, e3, e4, e5⟩ | ⟨e1, e2, e3, e4, e5⟩ | ⟨e1, e2, e3, e6, e4, e5⟩ | ⟨e1, e2, e3, e6, e4, e5⟩ <;> simp only at e1 e2 e3 e4 <;> subst e1 e2 e4
    · subst e3; exact words_plain co cl w hL h
    · simp only at e5; subst e3 e5; exact words_cash co w hL h
    · simp only at e5; subst e3; exact words_both co cl w hL h e5
    · simp only at e5; subst e5; exact words_fixed co fi w hL h e6
    · simp only at e5; subst e5; exact words_worn co fi w hL h
end Go.Proofs.YticdmlijacnjbaaGreatDoor.Ow
/- Lines that a call makes one by one, each with words in a row of its own: what an append keeps. -/
namespace Go.Proofs.YticdmlijacnjbaaGreatDoor.Un
open Go.RowKit

/-- Lines without a number. -/
abbrev zn (K : List (List ByteArray)) : List (Int × List ByteArray) := K.map fun ws => ((0 : Int), ws)
/-- The call's own row of lines (elements of the type t), each with words in a row of its own. -/
def RowsAt (W : World) (B : Nat) (t : TypeId) (v : Value) (K : List (List ByteArray)) : Prop :=
  ∃ LV, W.ownsRow B t 2 v LV.length (flatL LV) ∧ WordsOwn W B 9 LV (zn K)
theorem RowsAt.nil (W : World) (B : Nat) (t : TypeId) : RowsAt W B t (.slice none 0 0) [] := ⟨[], World.ownsRow_nil _ _ _ _, WordsOwn.nil _ _ _⟩
theorem RowsAt.below {W W' : World} {B : Nat} {t : TypeId} {v : Value} {K : List (List ByteArray)} (h : RowsAt W B t v K) (hb : Below W.heap.size W W') : RowsAt W' B t v K := by
  obtain ⟨LV, h1, h2⟩ := h
  exact ⟨LV, row_below h1 hb, h2.mono fun u n xs hu => row_below hu hb⟩
theorem RowsAt.lines {W : World} {B : Nat} {t : TypeId} {v : Value} {K : List (List ByteArray)} (h : RowsAt W B t v K) : LinesV W v (zn K) := by
  obtain ⟨LV, h1, h2⟩ := h
  exact lines_of_in h1 h2.isIn
/-- A block of another kind is not the rows'. -/
theorem RowsAt.apart {W : World} {B : Nat} {t e : TypeId} {v : Value} {K : List (List ByteArray)} {R : Nat} {cs : Array Value} {fr : Nat × Nat} (h : RowsAt W B t v K) (hb : W.heap[R]? = some (.cells cs e fr)) (hne : e ≠ t) : some R ≠ v.ownBlock := by
  obtain ⟨LV, h1, _⟩ := h
  rcases h1.2 with ⟨rfl, _⟩ | ⟨g, cap, cur, rfl, _, hg, _⟩
  · simp [Value.ownBlock]
  · intro e0
    obtain rfl : R = g := by simpa [Value.ownBlock] using e0
    rw [hb] at hg
    simp at hg
    exact hne hg.2.1
/-- A line more. -/
theorem wpList_append_line {P : Program} {ops : Array Oper} {rest : List Oper} {o : Oper} {a : Act} {w : World} {Q : Exit → Act → World → Prop} (hgd : o.guard = none) (s x : Operand) (t : TypeId) (ho : o.op = .call { callee := .builtin .append, args := #[s, x], argTypes := #[t, t] })
    (B : Nat) (e : TypeId) (i : TypeInfo) (ht : P.underlying t = some (.slice e)) (hi : P.info? e = some i) (hz : i.zero = some (.agg #[.int .i64 0, .slice none 0 0])) (hsz : i.size = 2) (hby : i.bytes = 32) (hne : e ≠ 9)
    (K : List (List ByteArray)) (ws : List ByteArray) (u : Value) (g : Nat) (hrow : RowsAt w B e (a.eval s) K) (hx : a.eval x = .slice (some ⟨g, 0, none⟩) 1 1) (c0 : w.cell? ⟨g, 0, none⟩ = some (.int .i64 0)) (c1 : w.cell? ⟨g, 1, none⟩ = some u) (hu : w.ownsRow B 9 1 u ws.length (ws.map Value.string)) (hB : B ≤ w.heap.size) (hK : K.length ≤ 100000)
    (h : ∀ v' w', RowsAt w' B e v' (K ++ [ws]) → Below B w w' → w.grownBy w' (a.eval s).ownBlock → wpList P ops Q rest (a.put o.dst v') w') : wpList P ops Q (o :: rest) a w := by
  obtain ⟨LV, h1, h2⟩ := hrow
  have hlen : LV.length = K.length := by have := h2.1; simpa [zn] using this
  have hu1 : ∃ p c, u = .slice p ws.length c := by
    rcases hu.2 with ⟨rfl, e0⟩ | ⟨g', cap, cur, rfl, _⟩
    · exact ⟨none, 0, by rw [e0]⟩
    · exact ⟨_, _, rfl⟩
  obtain ⟨pu, cu, rfl⟩ := hu1
  refine wpList_append_own w hgd s x t ho B e i _ 2 32 ht hi hz hsz hby rfl (by decide) _ _ _ rfl h1 ⟨g, 0, none⟩ 1 1 [.int .i64 0, .slice pu ws.length cu] hx rfl (fun j v hj => ?_) (by intro v hv; simp at hv; rcases hv with rfl | rfl <;> rfl) (by unfold maxLen; omega) (by omega) hB ?_
  · match j, hj with
    | 0, hj => cases hj; rw [add_off]; exact c0
    | 1, hj => cases hj; rw [add_off]; exact c1
    | j + 2, hj => simp at hj
  · intro v' w' h3 h4 _
    refine h v' w' ⟨LV ++ [((0 : Int), .slice pu ws.length cu)], ?_, ?_⟩ (below_grown (Below.refl _ _) hB h1 h4) h4
    · rw [flatL_snoc, List.length_append]; exact h3
    · have hk : ∀ (q : Value) (n : Nat) (xs : List Value), w.ownsRow B 9 1 q n xs → w'.ownsRow B 9 1 q n xs := fun q n xs hq => hq.kept h4 (row_apart h1 hq hne)
      have := (h2.mono hk).snoc 0 _ ws (hk _ _ _ hu)
      simpa [zn] using this
set_option maxHeartbeats 1000000 in
theorem lineOf_any (p : Option Addr) (n c : Nat) (w : World) :
    Calls Tryz.prog 33 #[.slice p n c] w fun en w' => en = .returned (.agg #[.int .i64 0, .slice p n c]) ∧ Below w.heap.size w w' := by
  have HB := Lib.hid ((Below.refl w.heap.size w).alloc (Nat.le_refl _) (.cells #[.int .i64 0, .slice p n c] 75))
  have hh := heap_alloc_new w (.cells #[.int .i64 0, .slice p n c] 75)
  have d0 := (cell_of_row _ w.heap.size 0 _ _ (0, 0) hh).trans rfl
  have d1 := (cell_of_row _ w.heap.size 1 _ _ (0, 0) hh).trans rfl
  have HD := Lib.hid (And.intro d0 d1)
  clear hh d0 d1
  go_enter Tryz.func33, Tryz.ntmps33
  go_wp2
  obtain ⟨d0, d1⟩ := HD.out
  exact bodyPost_ret (v := .agg #[.int .i64 0, .slice p n c]) (by simp [results, Tryz.results33, go_sem, d0, d1]) rfl ⟨rfl, HB.out⟩
end Go.Proofs.YticdmlijacnjbaaGreatDoor.Un
/- The walk of the document's Words of a flow: what the plain facts say, in new memory; what was there stays. -/
namespace Go.Proofs.YticdmlijacnjbaaGreatDoor.Fl
open Go.RowKit

theorem kinds_any (w : World) : Calls Tryz.prog 71 #[] w fun e w' => e = .returned (.slice (some ⟨w.heap.size, 0, none⟩) 5 5) ∧ w' = w.alloc (.cells #[.string tOpen, .string tMove, .string tFx, .string tScope, .string tClose] 9) := by
  go_enter Tryz.func71, Tryz.ntmps71
  go_wp2
  go_ret
  exact ⟨rfl, rfl⟩
theorem strs_three2 (w : World) (o : Obj) (x y z : ByteArray) (t : TypeId) : StrsV ((w.alloc o).alloc (.cells #[.string x, .string y, .string z] t)) (.slice (some ⟨w.heap.size + 1, 0, none⟩) 3 3) [x, y, z] := by
  have := strs_three (w.alloc o) x y z t
  rwa [World.size_alloc] at this
abbrev kindCells : Obj := .cells #[.string tOpen, .string tMove, .string tFx, .string tScope, .string tClose] 9
theorem kind_cell (w : World) (n : Nat) (h : n < 5) : (w.alloc kindCells).cell? ⟨w.heap.size, n, none⟩ = some (.string (kindW (n : Int))) := by
  rw [cell_of_row _ w.heap.size n _ _ (0, 0) (heap_alloc_new w _)]
  rcases (by omega : n = 0 ∨ n = 1 ∨ n = 2 ∨ n = 3 ∨ n = 4) with rfl | rfl | rfl | rfl | rfl <;> rfl
set_option maxRecDepth 100000 in
set_option maxHeartbeats 8000000 in
theorem rwords_ok (co : ByteArray) (k : Nat) (w : World) (hk : k < 5) (h : rightF ⟨co, (k : Int)⟩ = true) : Calls Tryz.prog 39 #[aggL ⟨co, (k : Int)⟩] w (StrsTold w [tFlow, co, kindW (k : Int)]) := by
  have HR := Lib.hid (rright_any ⟨co, (k : Int)⟩)
  rw [h] at HR
  have HB := Lib.hid ((Below.refl w.heap.size w).alloc (Nat.le_refl _) (.cells #[.string co, .int .i64 (k : Int)] 87))
  have HX0 := Lib.hid (BoxE.new encF w ⟨co, (k : Int)⟩ 87)
  clear h
  obtain ⟨kw, hkw⟩ : ∃ kw, kindW (k : Int) = kw := ⟨_, rfl⟩
  rw [hkw]
  have HKW := Lib.hid hkw
  clear hkw
  go_enter Tryz.func39, Tryz.ntmps39
  go_wp2_with fail
  refine (HR.out _).mono ?_
  rintro e w1 ⟨rfl, hb1⟩
  have HB1 := Lib.hid (HB.out.trans (hb1.mono HB.out.size))
  have hlt : w.heap.size < w1.heap.size := by have := hb1.size; simp at this; omega
  have HX1 := Lib.hid (HX0.out.keep hb1 (by simp))
  obtain ⟨c0, c1⟩ := box HX1.out
  simp only at c0 c1
  clear hb1
  go_wp2_with fail
  have hb2 := (Below.refl w1.heap.size w1).alloc (Nat.le_refl _) kindCells
  obtain ⟨d0, d1⟩ := box (HX1.out.keep hb2 hlt)
  simp only at d0 d1
  have HB2 := Lib.hid (HB1.out.trans (hb2.mono HB1.out.size))
  have hc := kind_cell w1 k hk
  rw [HKW.out] at hc
  have hk5 : (k : Int) < 5 := by omega
  clear hb2
  go_region_with (go_at_call 71; refine (kinds_any _).mono ?_; rintro e w' ⟨rfl, rfl⟩)
  all_goals
    go_wp2
    go_ret
    exact ⟨_, rfl, strs_three2 w1 kindCells tFlow co kw 9, below_drew' (HB2.out.alloc HB2.out.size _)⟩
set_option maxRecDepth 100000 in
set_option maxHeartbeats 4000000 in
theorem rwords_any (f : Flow) (w : World) : Calls Tryz.prog 39 #[aggL f] w (StrsTold w (wordsF f)) := by
  cases h : rightF f with
  | false =>
    have HR := Lib.hid (rright_any f)
    have HB := Lib.hid ((Below.refl w.heap.size w).alloc (Nat.le_refl _) (.cells #[.string f.code, .int .i64 f.kind] 87))
    rw [h] at HR
    rw [words_nil h]
    clear h
    go_enter Tryz.func39, Tryz.ntmps39
    go_wp2_with fail
    refine (HR.out _).mono ?_
    rintro e w1 ⟨rfl, hb1⟩
    have HB1 := Lib.hid hb1
    clear hb1
    go_wp2
    go_ret
    exact ⟨_, rfl, StrsV.nil _, HB.out.trans (HB1.out.mono HB.out.size)⟩
  | true =>
    rw [words_of h]
    obtain ⟨co, k⟩ := f
    have hk := (right_parts h).2
    simp only at hk ⊢
    obtain ⟨n, rfl⟩ : ∃ n : Nat, k = (n : Int) := ⟨k.toNat, by omega⟩
    exact rwords_ok co n w (by omega) h
end Go.Proofs.YticdmlijacnjbaaGreatDoor.Fl
/- The walk of the document's Right: it hands back what the plain facts say; what was there stays. -/
namespace Go.Proofs.YticdmlijacnjbaaGreatDoor
open Go.RowKit

set_option maxRecDepth 100000 in
set_option maxHeartbeats 8000000 in
theorem rright_any (a : Acct) (w : World) : Calls Tryz.prog 69 #[aggA a] w fun e w' => e = .returned (.bool (rightA a)) ∧ Below w.heap.size w w' := by
  have HB := Lib.hid ((Below.refl w.heap.size w).alloc (Nat.le_refl _) (.cells #[.string a.code, .int .i64 a.cls, .bool a.cash, .bool a.both, .string a.fixed, .bool a.worn] 99))
  obtain ⟨r, hr⟩ : ∃ r, rightA a = r := ⟨_, rfl⟩
  rw [hr]
  have HR := Lib.hid hr
  clear hr
  obtain ⟨co, cl, ca, mu, fi, wo⟩ := a
  simp only at HB HR ⊢
  cases hc : nmB co with
  | false =>
    have HC := Lib.hid hc
    clear hc
    go_enter Tryz.func69, Tryz.ntmps69
    go_wp2_with (go_at_call 98; refine (rname_is co _ HC.out _).mono ?_; rintro e w' ⟨rfl, rfl⟩)
    go_ret
    exact ⟨ret_bool (by rw [← HR.out]; simp [rightA, HC.out]), HB.out⟩
  | true =>
    have HC := Lib.hid hc
    clear hc
    by_cases h0 : cl < 0
    · go_enter Tryz.func69, Tryz.ntmps69
      go_wp2_with (go_at_call 98; refine (rname_is co _ HC.out _).mono ?_; rintro e w' ⟨rfl, rfl⟩)
      go_ret
      exact ⟨ret_bool (by rw [← HR.out]; have : ¬ 0 ≤ cl := (by omega); simp [rightA, this]), HB.out⟩
    · by_cases h2 : 2 < cl
      · go_enter Tryz.func69, Tryz.ntmps69
        go_wp2_with (go_at_call 98; refine (rname_is co _ HC.out _).mono ?_; rintro e w' ⟨rfl, rfl⟩)
        go_ret
        exact ⟨ret_bool (by rw [← HR.out]; have : ¬ cl < 3 := (by omega); simp [rightA, this]), HB.out⟩
      · by_cases hf : fi = ⟨#[]⟩
        · subst hf
          rcases (by omega : cl = 0 ∨ cl = 1 ∨ cl = 2) with rfl | rfl | rfl
          all_goals
            clear h0 h2
            cases ca <;> cases mu <;> cases wo
            all_goals
              go_enter Tryz.func69, Tryz.ntmps69
              go_wp2_with (go_at_call 98; refine (rname_is co _ HC.out _).mono ?_; rintro e w' ⟨rfl, rfl⟩)
              go_ret
              exact ⟨ret_bool (by rw [← HR.out]; simp [rightA, marksA, HC.out, neB_empty]), HB.out⟩
        · have hn := (neB_iff fi).2 hf
          have HN := Lib.hid hn
          unfold neB at hn
          rcases (by omega : cl = 0 ∨ cl = 1 ∨ cl = 2) with rfl | rfl | rfl
          · clear h0 h2
            cases hm : nmB fi <;> cases ca <;> cases mu <;> cases wo
            all_goals
              have HM := Lib.hid hm
              clear hm
              go_enter Tryz.func69, Tryz.ntmps69
              go_wp2_with fail
              refine (rname_is co _ HC.out _).mono ?_
              rintro e w' ⟨rfl, rfl⟩
              go_wp2_with (go_at_call 98; refine (rname_is fi _ HM.out _).mono ?_; rintro e w' ⟨rfl, rfl⟩)
              go_ret
              exact ⟨ret_bool (by rw [← HR.out]; simp [rightA, marksA, HC.out, HM.out, HN.out]), HB.out⟩
          all_goals
            clear h0 h2
            cases ca <;> cases mu <;> cases wo
            all_goals
              go_enter Tryz.func69, Tryz.ntmps69
              go_wp2_with (go_at_call 98; refine (rname_is co _ HC.out _).mono ?_; rintro e w' ⟨rfl, rfl⟩)
              go_ret
              exact ⟨ret_bool (by rw [← HR.out]; cases hm : nmB fi <;> simp [rightA, marksA, HN.out, hm]), HB.out⟩
end Go.Proofs.YticdmlijacnjbaaGreatDoor
