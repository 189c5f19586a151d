
/- The walks of the document's named and Print: the text of a cube that may be printed; what was there stays. -/
import Derived.Test.YtdnneognilffaaaGreatDoorCdPrint
import Derived.Test.YtdnneognilffaaaGreatDoorCdDocPlain
import Derived.Test.YtdnneognilffaaaGreatDoorFdRight
import Derived.Test.YtdnneognilffaaaGreatDoorLexDocName
import Derived.Test.YtdnneognilffaaaGreatDoorCentRefPrint
namespace Go.Proofs.YtdnneognilffaaaGreatDoor.Cd
open Go.Proofs.YtdnneognilffaaaGreatDoor.Fa Go.RowKit

theorem rname_is (s : ByteArray) (b : Bool) (h : nameB s = b) (w : World) : Calls Tryz.prog 32 #[.string s] w fun e w' => e = .returned (.bool b) ∧ w = w' := by
  rw [← h]; exact rname_at s w
set_option maxRecDepth 100000 in
set_option maxHeartbeats 8000000 in
theorem rkey_any (k : Key) (w : World) : Calls Tryz.prog 19 #[aggK k] w fun e w' => e = .returned (.bool (keyOk k)) ∧ Below w.heap.size w w' := by
  have HB := Lib.hid ((Below.refl w.heap.size w).alloc (Nat.le_refl _) (.cells #[.string k.e, .string k.a, .string k.f, .string k.p, .int .i64 k.m] 44))
  obtain ⟨r, hr⟩ : ∃ r, keyOk k = r := ⟨_, rfl⟩
  rw [hr]
  have HR := Lib.hid hr
  clear hr
  cases h1 : nameB k.e with
  | false =>
    have H1 := Lib.hid h1
    clear h1
    go_enter Tryz.func19, Tryz.ntmps19
    go_wp2_with fail
    refine (rname_is k.e _ H1.out _).mono ?_
    rintro e w' ⟨rfl, rfl⟩
    go_wp2
    go_ret
    exact ⟨ret_bool (by rw [← HR.out]; simp [keyOk, named, H1.out]), HB.out⟩
  | true =>
    have H1 := Lib.hid h1
    clear h1
    cases h2 : nameB k.a with
    | false =>
      have H2 := Lib.hid h2
      clear h2
      go_enter Tryz.func19, Tryz.ntmps19
      go_wp2_with fail
      refine (rname_is k.e _ H1.out _).mono ?_
      rintro e w' ⟨rfl, rfl⟩
      go_wp2_with fail
      refine (rname_is k.a _ H2.out _).mono ?_
      rintro e w' ⟨rfl, rfl⟩
      go_wp2
      go_ret
      exact ⟨ret_bool (by rw [← HR.out]; simp [keyOk, named, H1.out, H2.out]), HB.out⟩
    | true =>
      have H2 := Lib.hid h2
      clear h2
      cases h3 : nameB k.f with
      | false =>
        have H3 := Lib.hid h3
        clear h3
        go_enter Tryz.func19, Tryz.ntmps19
        go_wp2_with fail
        refine (rname_is k.e _ H1.out _).mono ?_
        rintro e w' ⟨rfl, rfl⟩
        go_wp2_with fail
        refine (rname_is k.a _ H2.out _).mono ?_
        rintro e w' ⟨rfl, rfl⟩
        go_wp2_with fail
        refine (rname_is k.f _ H3.out _).mono ?_
        rintro e w' ⟨rfl, rfl⟩
        go_wp2
        go_ret
        exact ⟨ret_bool (by rw [← HR.out]; simp [keyOk, named, H1.out, H2.out, H3.out]), HB.out⟩
      | true =>
        have H3 := Lib.hid h3
        clear h3
        by_cases hp : k.p = ⟨#[]⟩
        · have hpe := empty_yes hp
          have HP := Lib.hid hp
          clear hp
          by_cases h0 : 0 ≤ k.m
          · by_cases h5 : k.m ≤ 4
            · go_enter Tryz.func19, Tryz.ntmps19
              go_wp2_with fail
              refine (rname_is k.e _ H1.out _).mono ?_
              rintro e w' ⟨rfl, rfl⟩
              go_wp2_with fail
              refine (rname_is k.a _ H2.out _).mono ?_
              rintro e w' ⟨rfl, rfl⟩
              go_wp2_with fail
              refine (rname_is k.f _ H3.out _).mono ?_
              rintro e w' ⟨rfl, rfl⟩
              go_wp2
              go_ret
              exact ⟨ret_bool (by rw [← HR.out]; simp [keyOk, named, marked, H1.out, H2.out, H3.out, HP.out, h0, h5]), HB.out⟩
            · go_enter Tryz.func19, Tryz.ntmps19
              go_wp2_with fail
              refine (rname_is k.e _ H1.out _).mono ?_
              rintro e w' ⟨rfl, rfl⟩
              go_wp2_with fail
              refine (rname_is k.a _ H2.out _).mono ?_
              rintro e w' ⟨rfl, rfl⟩
              go_wp2_with fail
              refine (rname_is k.f _ H3.out _).mono ?_
              rintro e w' ⟨rfl, rfl⟩
              go_wp2
              go_ret
              exact ⟨ret_bool (by rw [← HR.out]; rw [show keyOk k = false from by unfold keyOk marked; rw [decide_eq_false (show ¬ k.m ≤ 4 by omega), Bool.and_false, Bool.and_false]]; exact decide_eq_false (show ¬ k.m ≤ 4 by omega)), HB.out⟩
          · go_enter Tryz.func19, Tryz.ntmps19
            go_wp2_with fail
            refine (rname_is k.e _ H1.out _).mono ?_
            rintro e w' ⟨rfl, rfl⟩
            go_wp2_with fail
            refine (rname_is k.a _ H2.out _).mono ?_
            rintro e w' ⟨rfl, rfl⟩
            go_wp2_with fail
            refine (rname_is k.f _ H3.out _).mono ?_
            rintro e w' ⟨rfl, rfl⟩
            go_wp2
            go_ret
            exact ⟨ret_bool (by rw [← HR.out]; simp [keyOk, marked]; omega), HB.out⟩
        · have hpe := empty_no hp
          have HP := Lib.hid hp
          clear hp
          cases h4 : nameB k.p with
          | false =>
            have H4 := Lib.hid h4
            clear h4
            go_enter Tryz.func19, Tryz.ntmps19
            go_wp2_with fail
            refine (rname_is k.e _ H1.out _).mono ?_
            rintro e w' ⟨rfl, rfl⟩
            go_wp2_with fail
            refine (rname_is k.a _ H2.out _).mono ?_
            rintro e w' ⟨rfl, rfl⟩
            go_wp2_with fail
            refine (rname_is k.f _ H3.out _).mono ?_
            rintro e w' ⟨rfl, rfl⟩
            go_wp2_with fail
            refine (rname_is k.p _ H4.out _).mono ?_
            rintro e w' ⟨rfl, rfl⟩
            go_wp2
            go_ret
            exact ⟨ret_bool (by rw [← HR.out]; simp [keyOk, named, HP.out, H4.out]), HB.out⟩
          | true =>
            have H4 := Lib.hid h4
            clear h4
            by_cases h0 : 0 ≤ k.m
            · by_cases h5 : k.m ≤ 4
              · go_enter Tryz.func19, Tryz.ntmps19
                go_wp2_with fail
                refine (rname_is k.e _ H1.out _).mono ?_
                rintro e w' ⟨rfl, rfl⟩
                go_wp2_with fail
                refine (rname_is k.a _ H2.out _).mono ?_
                rintro e w' ⟨rfl, rfl⟩
                go_wp2_with fail
                refine (rname_is k.f _ H3.out _).mono ?_
                rintro e w' ⟨rfl, rfl⟩
                go_wp2_with fail
                refine (rname_is k.p _ H4.out _).mono ?_
                rintro e w' ⟨rfl, rfl⟩
                go_wp2
                go_ret
                exact ⟨ret_bool (by rw [← HR.out]; simp [keyOk, named, marked, H1.out, H2.out, H3.out, H4.out, h0, h5]), HB.out⟩
              · go_enter Tryz.func19, Tryz.ntmps19
                go_wp2_with fail
                refine (rname_is k.e _ H1.out _).mono ?_
                rintro e w' ⟨rfl, rfl⟩
                go_wp2_with fail
                refine (rname_is k.a _ H2.out _).mono ?_
                rintro e w' ⟨rfl, rfl⟩
                go_wp2_with fail
                refine (rname_is k.f _ H3.out _).mono ?_
                rintro e w' ⟨rfl, rfl⟩
                go_wp2_with fail
                refine (rname_is k.p _ H4.out _).mono ?_
                rintro e w' ⟨rfl, rfl⟩
                go_wp2
                go_ret
                exact ⟨ret_bool (by rw [← HR.out]; rw [show keyOk k = false from by unfold keyOk marked; rw [decide_eq_false (show ¬ k.m ≤ 4 by omega), Bool.and_false, Bool.and_false]]; exact decide_eq_false (show ¬ k.m ≤ 4 by omega)), HB.out⟩
            · go_enter Tryz.func19, Tryz.ntmps19
              go_wp2_with fail
              refine (rname_is k.e _ H1.out _).mono ?_
              rintro e w' ⟨rfl, rfl⟩
              go_wp2_with fail
              refine (rname_is k.a _ H2.out _).mono ?_
              rintro e w' ⟨rfl, rfl⟩
              go_wp2_with fail
              refine (rname_is k.f _ H3.out _).mono ?_
              rintro e w' ⟨rfl, rfl⟩
              go_wp2_with fail
              refine (rname_is k.p _ H4.out _).mono ?_
              rintro e w' ⟨rfl, rfl⟩
              go_wp2
              go_ret
              exact ⟨ret_bool (by rw [← HR.out]; simp [keyOk, marked]; omega), HB.out⟩
end Go.Proofs.YtdnneognilffaaaGreatDoor.Cd
