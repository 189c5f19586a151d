
/- The statements' own look at answers that the document fixes: it comes out true. -/
import Derived.Test.YtimeebildbmhaaaFaAdd
import Derived.Test.YtimeebildbmhaaaFaAsk
import Derived.Test.YtimeebildbmhaaaFaRight
namespace Go.Proofs.Ytimeebildbmhaaa.Fa
open Go.RowKit

def kaL : Key := ⟨⟨#[69]⟩, ⟨#[97]⟩, ⟨#[]⟩, ⟨#[]⟩, 0⟩
def kbL : Key := ⟨⟨#[69]⟩, ⟨#[98]⟩, ⟨#[]⟩, ⟨#[]⟩, 0⟩
def cL : List Fact := [⟨kaL, 3⟩, ⟨kbL, 5⟩]
theorem lives1 : ofL [⟨kbL, 5⟩, ⟨kaL, 1⟩, ⟨kaL, 2⟩] = (cL, 0) := by kernel_rfl
theorem lives2 : sumL cL ⟨#[]⟩ ⟨#[]⟩ ⟨#[]⟩ = (8, 0) := by kernel_rfl
theorem lives3 : ofL (cL ++ [⟨kbL, -5⟩]) = ([⟨kaL, 3⟩], 0) := by kernel_rfl
theorem lives4 : getL cL kbL = 5 := by kernel_rfl
theorem lives5 : cmpK kaL kbL = -1 := by kernel_rfl
theorem lives6 : rightL cL = true := by kernel_rfl
theorem lives7 : pickL cL ⟨#[69]⟩ 0 = cL := by kernel_rfl
set_option maxRecDepth 100000 in
set_option maxHeartbeats 8000000 in
theorem alive_any (w : World) : Calls Try.prog 10 #[] w fun e w' => e = .returned (.bool true) ∧ Below w.heap.size w w' := by
  obtain ⟨W1, hW1⟩ : ∃ W1, (w.alloc (.cells #[.string ⟨#[69]⟩, .string ⟨#[97]⟩, .string ⟨#[]⟩, .string ⟨#[]⟩, .int .i64 0] 40)).alloc (.cells #[.string ⟨#[69]⟩, .string ⟨#[98]⟩, .string ⟨#[]⟩, .string ⟨#[]⟩, .int .i64 0] 40) = W1 := ⟨_, rfl⟩
  have HB1 : Hid (Below w.heap.size w W1) := Lib.hid (by rw [← hW1]; exact ((Below.refl _ w).alloc (Nat.le_refl _) _).alloc (by simp) _)
  have HKA : Hid (BoxE encK W1 w.heap.size 40 kaL) := Lib.hid (by
    rw [← hW1]
    exact (BoxE.new encK w kaL 40).kept ((Below.refl _ _).alloc (Nat.le_refl _) _))
  have HKB : Hid (BoxE encK W1 (w.heap.size + 1) 40 kbL) := Lib.hid (by
    rw [← hW1]
    have := BoxE.new encK (w.alloc (.cells #[.string ⟨#[69]⟩, .string ⟨#[97]⟩, .string ⟨#[]⟩, .string ⟨#[]⟩, .int .i64 0] 40)) kbL 40
    rw [World.size_alloc] at this
    exact this)
  obtain ⟨k0, k1, k2, k3, k4⟩ := key5 HKA.out.at0
  obtain ⟨j0, j1, j2, j3, j4⟩ := key5 HKB.out.at0
  simp only [Nat.zero_add, kaL, kbL] at k0 k1 k2 k3 k4 j0 j1 j2 j3 j4
  have HW1 := Lib.hid hW1
  have HSZ : Hid (W1.heap.size = w.heap.size + 1 + 1) := Lib.hid (by rw [← hW1]; simp)
  clear hW1 k0 k1 k2 k3 k4 j0 j1 j2 j3 j4
  go_enter Try.func10, Try.ntmps10
  go_wp2_with fail
  rw [HW1.out, ← HSZ.out]
  have hb2 := (Below.refl W1.heap.size W1).alloc (Nat.le_refl _) (.cells (flat encF [⟨kbL, 5⟩, ⟨kaL, 1⟩, ⟨kaL, 2⟩]).toArray 60)
  have hO := of_any _ _ _ (els_new encF W1 [⟨kbL, 5⟩, ⟨kaL, 1⟩, ⟨kaL, 2⟩] 60 (by decide)) (by intro f hf; simp at hf; rcases hf with rfl | rfl | rfl <;> exact ⟨by decide, by decide⟩) (by decide)
  rw [lives1] at hO
  refine hO.mono ?_
  rintro e w2 ⟨u, rfl, hu, hb3⟩
  have HB3 := Lib.hid (hb2.trans (hb3.mono hb2.size))
  have HU := Lib.hid hu
  clear hO hb2 hb3
  obtain ⟨p, c, rfl, _⟩ := id hu
  have HK2 := Lib.hid (HKA.out.kept HB3.out)
  have HJ2 := Lib.hid (HKB.out.kept HB3.out)
  have HBW := Lib.hid (HB1.out.trans (HB3.out.mono HB1.out.size))
  clear HKA HKB hu
  have HS := Lib.hid (sumP_any _ cL ⟨#[]⟩ ⟨#[]⟩ ⟨#[]⟩ w2 HU.out (by intro f hf; simp [cL] at hf; rcases hf with rfl | rfl <;> exact ⟨by decide, by decide⟩) (by decide))
  rw [lives2] at HS
  go_wp2_with fail
  refine HS.out.mono ?_
  rintro e w3 ⟨rfl, hb4⟩
  have HU3 := Lib.hid (HU.out.keep hb4)
  have HK3 := Lib.hid (HK2.out.kept hb4)
  have HJ3 := Lib.hid (HJ2.out.kept hb4)
  have HB4 := Lib.hid (HBW.out.trans (hb4.mono HBW.out.size))
  clear hb4 HS HU HK2 HJ2
  obtain ⟨j0, j1, j2, j3, j4⟩ := key5 HJ3.out.at0
  simp only [Nat.zero_add, kbL] at j0 j1 j2 j3 j4
  go_wp2_with fail
  have hb5 := (Below.refl w3.heap.size w3).alloc (Nat.le_refl _) (.cells (flat encF [⟨kbL, -5⟩]).toArray 60)
  have hA := add_any _ _ cL [⟨kbL, -5⟩] _ (HU3.out.keep hb5) (els_new encF w3 [⟨kbL, -5⟩] 60 (by decide)) (by intro f hf; simp [cL] at hf; rcases hf with rfl | rfl <;> exact ⟨by decide, by decide⟩) (by intro f hf; simp at hf; subst hf; exact ⟨by decide, by decide⟩) (by decide) (by decide)
  rw [lives3] at hA
  refine hA.mono ?_
  rintro e w4 ⟨u2, rfl, hu2, hb6⟩
  obtain ⟨p2, c2, rfl, _⟩ := id hu2
  have hb7 := hb5.trans (hb6.mono hb5.size)
  have HU4 := Lib.hid (HU3.out.keep hb7)
  have HK4 := Lib.hid (HK3.out.kept hb7)
  have HJ4 := Lib.hid (HJ3.out.kept hb7)
  have HB7 := Lib.hid (HB4.out.trans (hb7.mono HB4.out.size))
  clear hA hu2 hb5 hb6 hb7 j0 j1 j2 j3 j4 HU3 HK3 HJ3
  obtain ⟨j0, j1, j2, j3, j4⟩ := key5 HJ4.out.at0
  obtain ⟨b, o, rfl, hat⟩ := ElsV.at_ (i := 0) (x := ⟨kaL, 3⟩) HU4.out rfl
  obtain ⟨r0, r1, r2, r3, r4, r5⟩ := fact6 hat
  simp only [Nat.zero_add, Nat.zero_mul, Nat.add_zero, kbL] at j0 j1 j2 j3 j4 r5
  clear r0 r1 r2 r3 r4 hat
  have hG := get_any _ cL kbL w4 HU4.out (of_decide_eq_true lives6 : RightP cL).2.2 (by decide)
  rw [lives4] at hG
  have HG := Lib.hid hG
  clear hG
  go_wp2_with fail
  refine HG.out.mono ?_
  rintro e w5 ⟨rfl, hb8⟩
  have HU5 := Lib.hid (HU4.out.keep hb8)
  have HK5 := Lib.hid (HK4.out.kept hb8)
  have HJ5 := Lib.hid (HJ4.out.kept hb8)
  have HB8 := Lib.hid (HB7.out.trans (hb8.mono HB7.out.size))
  clear hb8 j0 j1 j2 j3 j4 r5 HU4 HK4 HJ4 HG
  obtain ⟨k0, k1, k2, k3, k4⟩ := key5 HK5.out.at0
  obtain ⟨j0, j1, j2, j3, j4⟩ := key5 HJ5.out.at0
  simp only [Nat.zero_add, kaL, kbL] at k0 k1 k2 k3 k4 j0 j1 j2 j3 j4
  have hC := cmp_any kaL kbL w5
  rw [lives5] at hC
  have HC := Lib.hid hC
  clear hC
  go_wp2_with fail
  refine HC.out.mono ?_
  rintro e w6 ⟨rfl, hg9⟩
  have HU6 := Lib.hid (HU5.out.keep hg9.below)
  have HB9 := Lib.hid (HB8.out.trans (hg9.below.mono HB8.out.size))
  clear hg9 k0 k1 k2 k3 k4 j0 j1 j2 j3 j4 HU5 HK5 HJ5 HC
  have hR := right_any _ cL w6 HU6.out (by decide)
  rw [lives6] at hR
  have HR := Lib.hid hR
  clear hR
  go_wp2_with fail
  refine HR.out.mono ?_
  rintro e w7 ⟨rfl, hb10⟩
  have HU7 := Lib.hid (HU6.out.keep hb10)
  have HB10 := Lib.hid (HB9.out.trans (hb10.mono HB9.out.size))
  clear hb10 HU6 HR
  have hP := pick_any _ cL ⟨#[69]⟩ 0 w7 HU7.out (by decide)
  rw [lives7] at hP
  have HP := Lib.hid hP
  clear hP
  go_wp2_with fail
  refine HP.out.mono ?_
  rintro e w8 ⟨u8, rfl, hr8, hb11⟩
  obtain ⟨g8, c8, rfl⟩ := ownsRow_succ hr8
  have HB11 := Lib.hid (HB10.out.trans (hb11.mono HB10.out.size))
  clear hr8 hb11 HP
  go_wp2
  go_ret
  exact ⟨rfl, HB11.out⟩
end Go.Proofs.Ytimeebildbmhaaa.Fa
