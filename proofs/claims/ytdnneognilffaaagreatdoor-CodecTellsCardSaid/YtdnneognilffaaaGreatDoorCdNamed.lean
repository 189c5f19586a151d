
/- The walks of codec's named and marked: they hand back what the plain facts say; what was there stays. -/
import Derived.Test.YtdnneognilffaaaGreatDoorCdPlain
import Derived.Test.YtdnneognilffaaaGreatDoorBase
import Derived.WalkKit
import Derived.WalkSpells
import Derived.Lib.Hide
namespace Go.Proofs.YtdnneognilffaaaGreatDoor.Cd
open Go.Proofs.YtdnneognilffaaaGreatDoor.Fa Go.RowKit

theorem name_is (s : ByteArray) (b : Bool) (h : nameB s = b) (w : World) : Calls Tryz.prog 38 #[.string s] w fun e w' => e = .returned (.bool b) ∧ w = w' := by
  rw [← h]; exact name_at s w
theorem empty_yes {p : ByteArray} (h : p = ⟨#[]⟩) : p.toList.isEmpty = true := by subst h; rw [ByteArray.toList_eq]; rfl
theorem empty_no {p : ByteArray} (h : p ≠ ⟨#[]⟩) : p.toList.isEmpty = false := by
  cases he : p.toList with
  | nil => exact absurd (toList_inj (he.trans (ByteArray.toList_eq ⟨#[]⟩).symm)) h
  | cons c l => rfl
set_option maxRecDepth 100000 in
set_option maxHeartbeats 4000000 in
theorem named_any (k : Key) (w : World) : Calls Tryz.prog 25 #[aggK k] w fun e w' => e = .returned (.bool (named k)) ∧ Below w.heap.size w w' := by
  have HB := Lib.hid ((Below.refl w.heap.size w).alloc (Nat.le_refl _) (.cells #[.string k.e, .string k.a, .string k.f, .string k.p, .int .i64 k.m] 41))
  obtain ⟨r, hr⟩ : ∃ r, named k = r := ⟨_, rfl⟩
  rw [hr]
  have HR := Lib.hid hr
  clear hr
  cases h1 : nameB k.e with
  | false =>
    have H1 := Lib.hid h1
    clear h1
    go_enter Tryz.func25, Tryz.ntmps25
    go_wp2_with fail
    refine (name_is k.e _ H1.out _).mono ?_
    rintro e w' ⟨rfl, rfl⟩
    go_wp2
    go_ret
    exact ⟨ret_bool (by rw [← HR.out]; simp [named, H1.out]), HB.out⟩
  | true =>
    have H1 := Lib.hid h1
    clear h1
    cases h2 : nameB k.a with
    | false =>
      have H2 := Lib.hid h2
      clear h2
      go_enter Tryz.func25, Tryz.ntmps25
      go_wp2_with fail
      refine (name_is k.e _ H1.out _).mono ?_
      rintro e w' ⟨rfl, rfl⟩
      go_wp2_with fail
      refine (name_is k.a _ H2.out _).mono ?_
      rintro e w' ⟨rfl, rfl⟩
      go_wp2
      go_ret
      exact ⟨ret_bool (by rw [← HR.out]; simp [named, H1.out, H2.out]), HB.out⟩
    | true =>
      have H2 := Lib.hid h2
      clear h2
      cases h3 : nameB k.f with
      | false =>
        have H3 := Lib.hid h3
        clear h3
        go_enter Tryz.func25, Tryz.ntmps25
        go_wp2_with fail
        refine (name_is k.e _ H1.out _).mono ?_
        rintro e w' ⟨rfl, rfl⟩
        go_wp2_with fail
        refine (name_is k.a _ H2.out _).mono ?_
        rintro e w' ⟨rfl, rfl⟩
        go_wp2_with fail
        refine (name_is k.f _ H3.out _).mono ?_
        rintro e w' ⟨rfl, rfl⟩
        go_wp2
        go_ret
        exact ⟨ret_bool (by rw [← HR.out]; simp [named, H1.out, H2.out, H3.out]), HB.out⟩
      | true =>
        have H3 := Lib.hid h3
        clear h3
        by_cases hp : k.p = ⟨#[]⟩
        · have hpe := empty_yes hp
          have HP := Lib.hid hp
          clear hp
          go_enter Tryz.func25, Tryz.ntmps25
          go_wp2_with fail
          refine (name_is k.e _ H1.out _).mono ?_
          rintro e w' ⟨rfl, rfl⟩
          go_wp2_with fail
          refine (name_is k.a _ H2.out _).mono ?_
          rintro e w' ⟨rfl, rfl⟩
          go_wp2_with fail
          refine (name_is k.f _ H3.out _).mono ?_
          rintro e w' ⟨rfl, rfl⟩
          go_wp2
          go_ret
          exact ⟨ret_bool (by rw [← HR.out]; simp [named, H1.out, H2.out, H3.out, HP.out]), HB.out⟩
        · have hpe := empty_no hp
          have HP := Lib.hid hp
          clear hp
          obtain ⟨b4, h4⟩ : ∃ b4, nameB k.p = b4 := ⟨_, rfl⟩
          have H4 := Lib.hid h4
          clear h4
          go_enter Tryz.func25, Tryz.ntmps25
          go_wp2_with fail
          refine (name_is k.e _ H1.out _).mono ?_
          rintro e w' ⟨rfl, rfl⟩
          go_wp2_with fail
          refine (name_is k.a _ H2.out _).mono ?_
          rintro e w' ⟨rfl, rfl⟩
          go_wp2_with fail
          refine (name_is k.f _ H3.out _).mono ?_
          rintro e w' ⟨rfl, rfl⟩
          go_wp2_with fail
          refine (name_is k.p _ H4.out _).mono ?_
          rintro e w' ⟨rfl, rfl⟩
          go_wp2
          go_ret
          exact ⟨ret_bool (by rw [← HR.out]; simp [named, H1.out, H2.out, H3.out, HP.out, H4.out]), HB.out⟩
set_option maxRecDepth 100000 in
set_option maxHeartbeats 4000000 in
theorem marked_any (k : Key) (w : World) : Calls Tryz.prog 26 #[aggK k] w fun e w' => e = .returned (.bool (marked k)) ∧ Below w.heap.size w w' := by
  have HB := Lib.hid ((Below.refl w.heap.size w).alloc (Nat.le_refl _) (.cells #[.string k.e, .string k.a, .string k.f, .string k.p, .int .i64 k.m] 41))
  obtain ⟨r, hr⟩ : ∃ r, marked k = r := ⟨_, rfl⟩
  rw [hr]
  have HR := Lib.hid hr
  clear hr
  by_cases h0 : 0 ≤ k.m
  · by_cases h4 : k.m ≤ 4
    · go_enter Tryz.func26, Tryz.ntmps26
      go_wp2
      go_ret
      exact ⟨ret_bool (by rw [← HR.out]; simp [marked, h0, h4]), HB.out⟩
    · go_enter Tryz.func26, Tryz.ntmps26
      go_wp2
      go_ret
      exact ⟨ret_bool (by rw [← HR.out]; simp [marked, h4]), HB.out⟩
  · go_enter Tryz.func26, Tryz.ntmps26
    go_wp2
    go_ret
    exact ⟨ret_bool (by rw [← HR.out]; simp [marked]; omega), HB.out⟩
end Go.Proofs.YtdnneognilffaaaGreatDoor.Cd
