
/- The walk of SplitTells: for any amount, any weights and any number of parts it returns true. -/
import Derived.Test.YticcpcejdndplaaSplitRby
namespace Go.Proofs.Yticcpcejdndplaa
open Go.RowKit

/-- A share, by the program and by the document: the same answer. -/
def shV (a p : Int) : Int := if shBad p = true then 0 else mdV a p 10000
def shR (a p : Int) : Int := if shBad p = true then 0 else a - mdV a p 10000
def shE (p : Int) : Int := if shBad p = true then 1 else 0
theorem share_any (a p : Int) (w : World) (ha : In64 a) :
    Calls Try.prog 12 #[.int .i64 a, .int .i64 p] w fun e w' => e = .returned (.tuple #[.int .i64 (shV a p), .int .i64 (shR a p), .int .i64 (shE p)]) ∧ RowKit.Below w.heap.size w w' := by
  unfold shV shR shE
  cases h : shBad p with
  | true => exact (share_bad a p w h).mono fun _ _ ⟨he, hw⟩ => ⟨he, hw ▸ Below.refl _ _⟩
  | false => exact share_ok a p w ha h
theorem rshare_any (a p : Int) (w : World) (ha : In64 a) :
    Calls Try.prog 13 #[.int .i64 a, .int .i64 p] w fun e w' => e = .returned (.tuple #[.int .i64 (shV a p), .int .i64 (shR a p), .int .i64 (shE p)]) ∧ RowKit.Below w.heap.size w w' := by
  unfold shV shR shE
  cases h : shBad p with
  | true => exact (rshare_bad a p w h).mono fun _ _ ⟨he, hw⟩ => ⟨he, hw ▸ Below.refl _ _⟩
  | false => exact rshare_ok a p w ha h
/-- Both answers of By, at once: two slices that read alike, and the same error. -/
theorem nil_rowIs (w : World) : RowIs .i64 w none 0 [] := ⟨rfl, by unfold maxLen; omega, fun i hi => absurd hi (Nat.not_lt_zero _)⟩

set_option maxRecDepth 100000 in
set_option maxHeartbeats 3200000 in
theorem tells_core (a : Int) (ad : Option Addr) (n c : Nat) (l : List Int) (q : Int) (w : World) (ha : In64 a) (h : RowIs .i64 w ad n l) (hz : ∀ x ∈ l, In64 x) (hn : n ≤ 200) :
    Calls Try.prog 3 #[.int .i64 a, .slice ad n c, .int .i64 q] w fun e w' => e = .returned (.bool true) ∧ RowKit.Below w.heap.size w w' := by
  have HA := Lib.hid ha
  have HR := Lib.hid h
  have HZ := Lib.hid hz
  have HN := Lib.hid h.len
  have SH := Lib.hid (fun W => share_any a q W ha)
  have RSH := Lib.hid (fun W => rshare_any a q W ha)
  obtain ⟨V, hV⟩ : ∃ V, V = shV a q := ⟨_, rfl⟩
  obtain ⟨R, hR⟩ : ∃ V, V = shR a q := ⟨_, rfl⟩
  obtain ⟨E, hE⟩ : ∃ V, V = shE q := ⟨_, rfl⟩
  rw [← hV, ← hR, ← hE] at SH RSH
  have e1 : (V == V) = true := by simp
  have e2 : (R == R) = true := by simp
  have e3 : (E == E) = true := by simp
  clear h hz ha hV hR hE
  have hd1 : decide ((200 : Int) < (n : Int)) = false := by simp; omega
  go_enter Try.func3, Try.ntmps3
  go_wp2_with fail
  refine (alive_any _).mono ?_
  rintro e w1 ⟨rfl, hb1⟩
  have HB1 := Lib.hid hb1
  have HR1 := Lib.hid (HR.out.keep hb1 (Nat.le_refl _))
  clear hb1 HR
  by_cases he : tgE l = 0
  · have HE := Lib.hid he
    clear he
    go_wp2_with fail
    refine (by_ok a ad n c l w1 HA.out HR1.out HZ.out HE.out).mono ?_
    rintro e w2 ⟨pb, p, rfl, hpb, hF, hc, hb2⟩
    have HF := Lib.hid hF
    have hnm : n ≤ maxLen := by unfold maxLen; omega
    have HL2 := Lib.hid (rowIs_of_cells (l := partsOf a l p) (by rw [parts_len, HN.out]) hnm hc)
    have HR2 := Lib.hid (HR1.out.keep hb2 (Nat.le_refl _))
    have HB2 := Lib.hid (HB1.out.trans (hb2.mono HB1.out.size))
    clear hF hc hb2 hpb hnm HR1 HB1
    go_wp2_with fail
    refine (rby_ok a ad n c l p w2 HA.out HR2.out HZ.out HE.out HF.out).mono ?_
    rintro e w3 ⟨g, cap, rfl, hrow, hb3⟩
    have HL3 := Lib.hid (HL2.out.keep hb3 (Nat.le_refl _))
    have HG3 := Lib.hid hrow
    have HB3 := Lib.hid (HB2.out.trans (hb3.mono HB2.out.size))
    clear hrow hb3 HL2 HR2 HB2
    go_wp2_with fail
    refine (SH.out _).mono ?_
    rintro e w4 ⟨rfl, hb4⟩
    have HL4 := Lib.hid (HL3.out.keep hb4 (Nat.le_refl _))
    have HG4 := Lib.hid (HG3.out.keep hb4 (Nat.le_refl _))
    have HB4 := Lib.hid (HB3.out.trans (hb4.mono HB3.out.size))
    clear hb4 HL3 HG3 HB3
    go_wp2_with fail
    refine (RSH.out _).mono ?_
    rintro e w5 ⟨rfl, hb5⟩
    have HL5 := Lib.hid (HL4.out.keep hb5 (Nat.le_refl _))
    have HG5 := Lib.hid (HG4.out.keep hb5 (Nat.le_refl _))
    have HB5 := Lib.hid (HB4.out.trans (hb5.mono HB4.out.size))
    clear hb5 HL4 HG4 HB4
    go_wp2_with fail
    refine (same_true _ _ n _ _ (partsOf a l p) _ HL5.out HG5.out).mono ?_
    rintro e w6 ⟨rfl, k, rfl⟩
    go_wp2
    go_ret
    exact ⟨rfl, below_drewN HB5.out k⟩
  · have HE := Lib.hid he
    clear he
    go_wp2_with fail
    refine (by_bad a ad n c l w1 HR1.out HZ.out HE.out).mono ?_
    rintro e w2 ⟨rfl, rfl⟩
    go_wp2_with fail
    refine (rby_bad a ad n c l _ HR1.out HZ.out HE.out).mono ?_
    rintro e w3 ⟨rfl, rfl⟩
    have e4 : (tgE l == tgE l) = true := by simp
    generalize tgE l = D at e4 ⊢
    go_wp2_with fail
    refine (SH.out _).mono ?_
    rintro e w4 ⟨rfl, hb4⟩
    have HB4 := Lib.hid (HB1.out.trans (hb4.mono HB1.out.size))
    clear hb4 HB1
    go_wp2_with fail
    refine (RSH.out _).mono ?_
    rintro e w5 ⟨rfl, hb5⟩
    have HB5 := Lib.hid (HB4.out.trans (hb5.mono HB4.out.size))
    clear hb5 HB4
    go_wp2_with fail
    refine (same_true _ _ 0 _ _ [] _ (nil_rowIs _) (nil_rowIs _)).mono ?_
    rintro e w6 ⟨rfl, k, rfl⟩
    go_wp2
    go_ret
    exact ⟨rfl, below_drewN HB5.out k⟩

set_option maxHeartbeats 400000 in
theorem tells_long (a : Int) (ad : Option Addr) (n c : Nat) (q : Int) (w : World) (hn : 200 < n) (hm : n ≤ maxLen) :
    Calls Try.prog 3 #[.int .i64 a, .slice ad n c, .int .i64 q] w fun e w' => e = .returned (.bool true) ∧ RowKit.Below w.heap.size w w' := by
  unfold maxLen at hm
  go_enter Try.func3, Try.ntmps3
  go_wp2_with fail
  refine (alive_any _).mono ?_
  rintro e w1 ⟨rfl, hb1⟩
  have HB1 := Lib.hid hb1
  clear hb1
  go_wp2
  go_ret
  exact ⟨rfl, HB1.out⟩

theorem splitTells_walk (a : Int) (ad : Option Addr) (n c : Nat) (l : List Int) (q : Int) (w : World) (ha : In64 a) (h : RowIs .i64 w ad n l) (hz : ∀ x ∈ l, In64 x) (_hq : In64 q) :
    Calls Try.prog 3 #[.int .i64 a, .slice ad n c, .int .i64 q] w fun e w' => e = .returned (.bool true) ∧ RowKit.Below w.heap.size w w' := by
  by_cases hn : 200 < n
  · exact tells_long a ad n c q w hn h.max
  · exact tells_core a ad n c l q w ha h hz (by omega)
end Go.Proofs.Yticcpcejdndplaa
