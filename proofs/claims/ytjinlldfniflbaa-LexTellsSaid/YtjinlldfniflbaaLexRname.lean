
/- The walks of the document's Name and Pick: what the plain facts say. -/
import Derived.Test.YtjinlldfniflbaaLexBytes
import Derived.Test.YtjinlldfniflbaaLexPicks
namespace Go.Proofs.Ytjinlldfniflbaa
open Go.RowKit

set_option maxHeartbeats 2000000 in
theorem rname_any (s : ByteArray) (w : World) (hs : s.size ≤ maxLen) :
    Calls Try.prog 16 #[.string s] w fun e w' => e = .returned (.bool (nameL s.data.toList)) ∧ w = w' := by
  unfold maxLen at hs
  by_cases hl : 0 < s.size ∧ s.size ≤ 12
  · obtain ⟨h0, h12⟩ := hl
    have HN := Lib.hid (nameL_eq s h0 h12)
    cases hf : letB s[0].toNat with
    | false =>
      have HF := Lib.hid hf
      clear hf
      have HR : Hid (nameL s.data.toList = false) := Lib.hid (by rw [HN.out, HF.out]; rfl)
      have a1 : ¬ s.size < 1 := by omega
      have a2 : ¬ 12 < s.size := by omega
      go_enter Try.func16, Try.ntmps16
      go_wp2_with fail
      refine (rletter_any _ _ (UInt8.toNat_lt _)).mono ?_
      rintro e w' ⟨rfl, rfl⟩
      rw [HF.out]
      go_wp2
      go_ret
      exact ⟨ret_bool HR.out.symm, rfl⟩
    | true =>
      have HF := Lib.hid hf
      clear hf
      have HR : Hid (nameL s.data.toList = s.data.toList.all fun c => inB c.toNat) := Lib.hid (by rw [HN.out, HF.out]; rfl)
      clear HN
      have a1 : ¬ s.size < 1 := by omega
      have a2 : ¬ 12 < s.size := by omega
      go_enter Try.func16, Try.ntmps16
      go_wp2_with fail
      refine (rletter_any _ _ (UInt8.toNat_lt _)).mono ?_
      rintro e w' ⟨rfl, rfl⟩
      rw [HF.out]
      go_wp2
      go_loop [3] (fun i => ∃ k : Nat, k ≤ s.size ∧ i = .int .i64 k ∧ (s.data.toList.take k).all (fun c => inB c.toNat) = true) (fun i => s.size - (intOf i).toNat)
      case atStart => exact ⟨0, Nat.zero_le _, rfl, rfl⟩
      case round =>
        obtain ⟨k, hk, rfl, hd⟩ := hrel
        have HD := Lib.hid hd
        clear hd
        by_cases hlt : k < s.size
        · have hb : s[k].toNat < 256 := UInt8.toNat_lt _
          cases hc : letB s[k].toNat with
          | true =>
            have HC := Lib.hid hc
            have hin : Hid (inB s[k].toNat = true) := Lib.hid (decide_eq_true (.inl (of_decide_eq_true hc)))
            clear hc
            go_wp2_with fail
            refine (rletter_any _ _ (UInt8.toNat_lt _)).mono ?_
            rintro e w' ⟨rfl, rfl⟩
            rw [HC.out]
            go_wp2
            go_round
            case rel => exact ⟨k + 1, by omega, by go_num, by rw [all_take _ s k hlt, HD.out, hin.out]; rfl⟩
            case measure => simp [intOf]; omega
          | false =>
            have HC := Lib.hid hc
            have hno : ¬ (97 ≤ s[k].toNat ∧ s[k].toNat ≤ 122 ∨ 65 ≤ s[k].toNat ∧ s[k].toNat ≤ 90) := of_decide_eq_false hc
            have HNO := Lib.hid hno
            clear hc hno
            go_wp2_with fail
            refine (rletter_any _ _ (UInt8.toNat_lt _)).mono ?_
            rintro e w' ⟨rfl, rfl⟩
            rw [HC.out]
            go_wp2
            all_goals
              have hno := HNO.out
              try simp only [bne_eq_false_iff_eq, bne_iff_ne] at *
            all_goals first
              | (go_ret
                 exact ⟨ret_bool (by rw [HR.out, all_no _ s k hlt (decide_eq_false (by omega))]), rfl⟩)
              | (go_round
                 case rel => exact ⟨k + 1, by omega, by go_num, by rw [all_take _ s k hlt, HD.out]; exact decide_eq_true (by omega)⟩
                 case measure => simp [intOf]; omega)
        · go_wp2
          go_ret
          exact ⟨ret_bool (by rw [HR.out, all_end _ s k hlt hk HD.out]), rfl⟩
  · have HR := Lib.hid (nameL_len s hl)
    rcases (by omega : s.size < 1 ∨ (¬ s.size < 1 ∧ 12 < s.size)) with a1 | ⟨a1, a2⟩
    · clear hl
      go_enter Try.func16, Try.ntmps16
      go_wp2
      go_ret
      exact ⟨ret_bool HR.out.symm, rfl⟩
    · clear hl
      go_enter Try.func16, Try.ntmps16
      go_wp2
      go_ret
      exact ⟨ret_bool HR.out.symm, rfl⟩
theorem ret_int {k : IntKind} {a b : Int} (h : a = b) : Ending.returned (.int k a) = .returned (.int k b) := by rw [h]
set_option maxHeartbeats 1000000 in
theorem rpick_any (s : ByteArray) (v : Value) (ws : List ByteArray) (w : World) (h : StrsV w v ws) :
    Calls Try.prog 21 #[.string s, v] w fun e w' => e = .returned (.int .i64 (pickL ws s)) ∧ w = w' := by
  obtain ⟨a, c, rfl, hcap, hm, hc⟩ := h
  obtain ⟨n, hn⟩ : ∃ n, ws.length = n := ⟨_, rfl⟩
  rw [hn] at hm ⊢
  have HN := Lib.hid hn
  have HC := Lib.hid hc
  unfold maxLen at hm
  clear hn hc
  obtain ⟨r, hr⟩ : ∃ r, pickL ws s = r := ⟨_, rfl⟩
  have HK := Lib.hid (pick_cases s ws)
  rw [hr] at HK ⊢
  clear hr
  go_enter Try.func21, Try.ntmps21
  go_wp2
  go_loop [5] (fun i => ∃ j : Nat, j ≤ n ∧ i = .int .i64 (j : Int) ∧ Hid (∀ m : Nat, m < j → ws[m]? ≠ some s)) (fun i => n - (intOf i).toNat)
  case atStart => exact ⟨0, Nat.zero_le _, rfl, Lib.hid fun m hm => absurd hm (Nat.not_lt_zero _)⟩
  case round =>
    obtain ⟨j, hj, rfl, HNO⟩ := hrel
    by_cases hlt : j < n
    · obtain ⟨x, hx⟩ : ∃ x, ws[j]? = some x := ⟨_, List.getElem?_eq_getElem (by rw [HN.out]; exact hlt)⟩
      obtain ⟨b, o, rfl, d⟩ := HC.out j x hx
      have HX := Lib.hid hx
      clear hx
      cases hxs : (x.toList == s.toList) with
      | true =>
        have hxe : x = s := (Lib.bytes_beq_iff x s).1 hxs
        have hrj : Hid (r = (j : Int)) := Lib.hid (by
          rcases HK.out with ⟨_, h2⟩ | ⟨k, h1, h2, h3⟩
          · exact absurd (by rw [HX.out, hxe]) (h2 j)
          · have h4 : ¬ k < j := fun h => HNO.out k h h2
            have h5 : ¬ j < k := fun h => h3 j h (by rw [HX.out, hxe])
            rw [h1]; congr 1; omega)
        clear hxe
        go_wp2
        go_ret
        exact ⟨ret_int hrj.out.symm, rfl⟩
      | false =>
        have hxe : Hid (x ≠ s) := Lib.hid ((Lib.bytes_beq_false_iff x s).1 hxs)
        go_wp2
        go_round
        case rel => exact ⟨j + 1, by omega, by go_num, Lib.hid fun m hm he => by
          rcases Nat.lt_or_ge m j with h | h
          · exact HNO.out m h he
          · obtain rfl : m = j := by omega
            rw [HX.out] at he
            exact hxe.out (Option.some.inj he)⟩
        case measure => simp [intOf]; omega
    · have hrj : Hid (r = -1) := Lib.hid (by
        rcases HK.out with ⟨h1, _⟩ | ⟨k, h1, h2, h3⟩
        · exact h1
        · have := (List.getElem?_eq_some_iff.1 h2).1
          rw [HN.out] at this
          exact absurd h2 (HNO.out k (by omega)))
      go_wp2
      go_ret
      exact ⟨ret_int hrj.out.symm, rfl⟩
end Go.Proofs.Ytjinlldfniflbaa
