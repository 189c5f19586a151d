
/- The walk of LexRemarks: it returns true. -/
import Derived.Test.YtjinlldfniflbaaLexAlive
import Derived.Lib.ConvBytes
namespace Go.Proofs.Ytjinlldfniflbaa
open Go.RowKit

def rB (c : UInt8) : Bool := decide (32 ≤ c.toNat ∧ c.toNat ≤ 126)
def sB (c : UInt8) : Bool := decide (c.toNat ≠ 35 ∧ 32 ≤ c.toNat ∧ c.toNat ≤ 126)
/-- The lines of a text of one line that has the words of l. -/
def oneL (l : List UInt8) (n : Nat) : List (Nat × List (List UInt8)) := if wordsL l = [] then [] else [(n, wordsL l)]
theorem ok_of_rB {l : List UInt8} (h : l.all rB = true) : okL l = true ∧ (10 : UInt8) ∉ l := by
  refine ⟨List.all_eq_true.2 fun c hc => ?_, fun hm => ?_⟩
  · have := of_decide_eq_true (List.all_eq_true.1 h c hc)
    rw [okB_dec]; exact decide_eq_true (by omega)
  · have := of_decide_eq_true (List.all_eq_true.1 h _ hm)
    revert this; decide
theorem rB_of_sB {l : List UInt8} (h : l.all sB = true) : l.all rB = true ∧ (35 : UInt8) ∉ l := by
  refine ⟨List.all_eq_true.2 fun c hc => ?_, fun hm => ?_⟩
  · have := of_decide_eq_true (List.all_eq_true.1 h c hc)
    exact decide_eq_true this.2
  · have := of_decide_eq_true (List.all_eq_true.1 h _ hm)
    revert this; decide
theorem okL_append (a b : List UInt8) : okL (a ++ b) = (okL a && okL b) := by simp [okL]
theorem numP_one (n : Nat) (x l : List UInt8) (h : wordsL x = wordsL l) : numP [(n, x)] = oneL l n := by simp [numP, oneL, h]
theorem rem_a {l : List UInt8} (h : l.all sB = true) : okL l = true ∧ linesL l = oneL l 1 := by
  obtain ⟨h1, h2⟩ := rB_of_sB h
  obtain ⟨h3, h4⟩ := ok_of_rB h1
  refine ⟨h3, ?_⟩
  unfold linesL
  rw [linesGo_last l h4]
  exact numP_one 1 l l rfl
theorem rem_b {l r : List UInt8} (h : l.all sB = true) (hr : r.all rB = true) : okL (l ++ 35 :: r) = true ∧ linesL (l ++ 35 :: r) = oneL l 1 := by
  obtain ⟨h1, h2⟩ := rB_of_sB h
  obtain ⟨h3, h4⟩ := ok_of_rB h1
  obtain ⟨h5, h6⟩ := ok_of_rB hr
  refine ⟨by rw [okL_append, h3, show (35 :: r : List UInt8) = [35] ++ r from rfl, okL_append, h5]; decide, ?_⟩
  have h10 : (10 : UInt8) ∉ l ++ 35 :: r := by simp [h4, h6]
  unfold linesL
  rw [linesGo_last _ h10]
  refine numP_one 1 _ l ?_
  unfold wordsL
  rw [said_mark l r h2, said_none l h2]
theorem rem_c {l r : List UInt8} (h : l.all sB = true) (hr : r.all rB = true) : okL (35 :: r ++ 10 :: l) = true ∧ linesL (35 :: r ++ 10 :: l) = oneL l 2 := by
  obtain ⟨h1, h2⟩ := rB_of_sB h
  obtain ⟨h3, h4⟩ := ok_of_rB h1
  obtain ⟨h5, h6⟩ := ok_of_rB hr
  refine ⟨by rw [okL_append, show (35 :: r : List UInt8) = [35] ++ r from rfl, okL_append, h5, show (10 :: l : List UInt8) = [10] ++ l from rfl, okL_append, h3]; decide, ?_⟩
  have h10 : (10 : UInt8) ∉ 35 :: r := by simp [h6]
  unfold linesL
  rw [linesGo_cut _ _ h10, linesGo_last l h4]
  have hw : wordsL (35 :: r) = [] := by simp [wordsL, said, fieldsGo]
  have e : numP (enumL 1 [35 :: r, l]) = numP [(2, l)] := by simp [enumL, numP, hw]
  rw [e]
  exact numP_one 2 l l rfl
/-- '[]byte(s)'. -/
theorem bytes_of (s : ByteArray) (w : World) : ∃ cap w', (convert 9 41 (.string s)).run Try.prog w = .ok (.slice (some ⟨w.heap.size, 0, none⟩) s.size cap) w' ∧ Below w.heap.size w w' ∧
    ∀ j, j < s.size → w'.cell? ⟨w.heap.size, j, none⟩ = some (.int .u8 ((s.data.toList.getD j 0).toNat : Int)) :=
  ⟨_, _, Lib.run_convert_string_bytes w 9 41 5 s Try.underlying9 Try.underlying41 Try.underlying5,
    ⟨rfl, rfl, rfl, by rw [Lib.bytesWorld_size]; omega, fun j hj => Lib.bytesWorld_at_old w _ s j hj⟩, fun j hj => Lib.bytesWorld_cell w _ s j hj⟩
theorem all_upto (p : UInt8 → Bool) (s : ByteArray) (k : Nat) (h : k < s.size) (ha : (s.data.toList.take k).all p = true) (hp : p (s.data.toList.getD k 0) = true) : (s.data.toList.take (k + 1)).all p = true := by
  rw [List.take_succ_eq_append_getElem (by rw [size_list]; exact h), List.all_append, ha]
  have : s.data.toList.getD k 0 = s.data.toList[k]'(by rw [size_list]; exact h) := by
    rw [List.getD_eq_getElem?_getD, List.getElem?_eq_getElem (by rw [size_list]; exact h)]; rfl
  rw [this] at hp
  simpa using hp
/-- The three texts' lines, told by the program. -/
structure RemCalls (s r : ByteArray) : Prop where
  a : ∀ W, Calls Try.prog 11 #[.string s] W (LinesPost W (asB (oneL s.data.toList 1)) 0)
  b : ∀ W, Calls Try.prog 11 #[.string (s ++ ⟨#[35]⟩ ++ r)] W (LinesPost W (asB (oneL s.data.toList 1)) 0)
  c : ∀ W, Calls Try.prog 11 #[.string (⟨#[35]⟩ ++ r ++ ⟨#[10]⟩ ++ s)] W (LinesPost W (asB (oneL s.data.toList 2)) 0)
theorem rem_calls (s r : ByteArray) (hs : s.size ≤ 3000) (hr : r.size ≤ 100) (h1 : s.data.toList.all sB = true) (h2 : r.data.toList.all rB = true) : RemCalls s r := by
  have z1 := size_list s
  have z2 := size_list r
  refine ⟨fun W => ?_, fun W => ?_, fun W => ?_⟩
  · obtain ⟨o, e⟩ := rem_a h1
    have := lines_good s W (by omega) o
    rwa [e] at this
  · have hd : (s ++ ⟨#[35]⟩ ++ r).data.toList = s.data.toList ++ 35 :: r.data.toList := by simp [ByteArray.data_append]
    obtain ⟨o, e⟩ := rem_b h1 h2
    have hz := size_list (s ++ ⟨#[35]⟩ ++ r)
    rw [hd] at hz
    simp only [List.length_append, List.length_cons] at hz
    have := lines_good (s ++ ⟨#[35]⟩ ++ r) W (by omega) (by rw [hd]; exact o)
    rwa [hd, e] at this
  · have hd : (⟨#[35]⟩ ++ r ++ ⟨#[10]⟩ ++ s : ByteArray).data.toList = 35 :: r.data.toList ++ 10 :: s.data.toList := by simp [ByteArray.data_append]
    obtain ⟨o, e⟩ := rem_c h1 h2
    have hz := size_list (⟨#[35]⟩ ++ r ++ ⟨#[10]⟩ ++ s)
    rw [hd] at hz
    simp only [List.length_append, List.length_cons] at hz
    have := lines_good (⟨#[35]⟩ ++ r ++ ⟨#[10]⟩ ++ s) W (by omega) (by rw [hd]; exact o)
    rwa [hd, e] at this

set_option maxRecDepth 100000 in
set_option maxHeartbeats 4000000 in
theorem lexRemarks_walk (s r : ByteArray) (w : World) (_hs : s.size ≤ maxLen) (_hr : r.size ≤ maxLen) :
    Calls Try.prog 8 #[.string s, .string r] w fun e w' => e = .returned (.bool true) ∧ Below w.heap.size w w' := by
  by_cases h3 : 3000 < s.size
  · go_enter Try.func8, Try.ntmps8
    go_wp2_with fail
    refine (alive_any _).mono ?_
    rintro e w1 ⟨rfl, hb1⟩
    go_wp2
    go_ret
    exact ⟨rfl, hb1⟩
  by_cases h4 : 100 < r.size
  · go_enter Try.func8, Try.ntmps8
    go_wp2_with fail
    refine (alive_any _).mono ?_
    rintro e w1 ⟨rfl, hb1⟩
    go_wp2
    go_ret
    exact ⟨rfl, hb1⟩
  go_enter Try.func8, Try.ntmps8
  go_wp2_with fail
  refine (alive_any _).mono ?_
  rintro e w1 ⟨rfl, hb1⟩
  obtain ⟨cap1, w2, hcv1, hb2, hc1⟩ := bytes_of r w1
  have HB2 := Lib.hid (hb1.trans (hb2.mono hb1.size))
  have HC1 := Lib.hid hc1
  clear hb1 hb2 hc1
  go_wp2
  clear hcv1
  go_loop [28] (fun i => ∃ k : Nat, k ≤ r.size ∧ i = .int .i64 (k : Int) ∧ (r.data.toList.take k).all rB = true) (fun i => r.size - (intOf i).toNat)
  case atStart => exact ⟨0, Nat.zero_le _, rfl, rfl⟩
  case round =>
    obtain ⟨k, hk, rfl, hd⟩ := hrel
    have HD := Lib.hid hd
    clear hd
    by_cases hlt : k < r.size
    · have d := HC1.out k hlt
      have HP := Lib.hid (all_upto rB r k hlt HD.out)
      generalize r.data.toList.getD k 0 = cc at d HP
      have hcc : cc.toNat < 256 := UInt8.toNat_lt cc
      go_wp2
      all_goals first
        | (go_ret
           exact ⟨rfl, HB2.out⟩)
        | (go_round
           case rel => exact ⟨k + 1, by omega, by go_num, HP.out (decide_eq_true (by omega))⟩
           case measure => simp [intOf]; omega)
    · have HA : Hid (r.data.toList.all rB = true) := Lib.hid (all_end rB r k hlt hk HD.out)
      obtain ⟨cap2, w3, hcv2, hb3, hc2⟩ := bytes_of s w2
      have HB3 := Lib.hid (HB2.out.trans (hb3.mono HB2.out.size))
      have HC2 := Lib.hid hc2
      clear hb3 hc2
      go_wp2
      clear hcv2
      go_loop [42] (fun i => ∃ k : Nat, k ≤ s.size ∧ i = .int .i64 (k : Int) ∧ (s.data.toList.take k).all sB = true) (fun i => s.size - (intOf i).toNat)
      case atStart => exact ⟨0, Nat.zero_le _, rfl, rfl⟩
      case round =>
        obtain ⟨j, hj, rfl, hd⟩ := hrel
        have HD2 := Lib.hid hd
        clear hd
        by_cases hjt : j < s.size
        · have d := HC2.out j hjt
          have HP := Lib.hid (all_upto sB s j hjt HD2.out)
          generalize s.data.toList.getD j 0 = cc at d HP
          have hcc : cc.toNat < 256 := UInt8.toNat_lt cc
          go_wp2
          all_goals first
            | (go_ret
               exact ⟨rfl, HB3.out⟩)
            | (go_round
               case rel => exact ⟨j + 1, by omega, by go_num, HP.out (decide_eq_true (by omega))⟩
               case measure => simp [intOf]; omega)
        · have HAs : Hid (s.data.toList.all sB = true) := Lib.hid (all_end sB s j hjt hj HD2.out)
          have HR := Lib.hid (rem_calls s r (by omega) (by omega) HAs.out HA.out)
          have z1 : ¬ 9223372036854775807 < s.size + 1 := by omega
          have z2 : ¬ 9223372036854775807 < s.size + 1 + r.size := by omega
          have z3 : ¬ 9223372036854775807 < 1 + r.size := by omega
          have z4 : ¬ 9223372036854775807 < 1 + r.size + 1 := by omega
          have z5 : ¬ 9223372036854775807 < 1 + r.size + 1 + s.size := by omega
          obtain ⟨WS, hWS⟩ : ∃ WS, (wordsL s.data.toList).map mkB = WS := ⟨_, rfl⟩
          by_cases hw : wordsL s.data.toList = []
          · have LA : Hid (asB (oneL s.data.toList 1) = []) := Lib.hid (by simp [oneL, hw, asB])
            have LC : Hid (asB (oneL s.data.toList 2) = []) := Lib.hid (by simp [oneL, hw, asB])
            clear hw hWS
            go_wp2_with fail
            refine (HR.out.a _).mono ?_
            rintro e w4 ⟨va, rfl, hva, hb4⟩
            rw [LA.out] at hva
            have HVA := Lib.hid hva
            have HB4 := Lib.hid (HB3.out.trans (hb4.mono HB3.out.size))
            obtain ⟨a1, c1, rfl, _⟩ := hva
            simp only [List.length_nil] at HVA ⊢
            clear hb4
            go_wp2_with fail
            refine (HR.out.b _).mono ?_
            rintro e w5 ⟨vb, rfl, hvb, hb5⟩
            rw [LA.out] at hvb
            have HVB := Lib.hid hvb
            have HVA5 := Lib.hid (HVA.out.keep hb5)
            have HB5 := Lib.hid (HB4.out.trans (hb5.mono HB4.out.size))
            obtain ⟨a2, c2, rfl, _⟩ := hvb
            simp only [List.length_nil] at HVB ⊢
            clear hb5
            go_wp2_with fail
            refine (HR.out.c _).mono ?_
            rintro e w6 ⟨vc, rfl, hvc, hb6⟩
            rw [LC.out] at hvc
            have HVC := Lib.hid hvc
            have HVA6 := Lib.hid (HVA5.out.keep hb6)
            have HVB6 := Lib.hid (HVB.out.keep hb6)
            have HB6 := Lib.hid (HB5.out.trans (hb6.mono HB5.out.size))
            obtain ⟨a3, c3, rfl, _⟩ := hvc
            simp only [List.length_nil] at HVC ⊢
            clear hb6
            go_wp2_with fail
            refine (ours_any _ [] _ HVA6.out (by simp)).mono ?_
            rintro e w7 ⟨vo, rfl, hvo, hb7⟩
            have HVO := Lib.hid hvo
            have HVA7 := Lib.hid (HVA6.out.keep hb7)
            have HVB7 := Lib.hid (HVB6.out.keep hb7)
            have HVC7 := Lib.hid (HVC.out.keep hb7)
            have HB7 := Lib.hid (HB6.out.trans (hb7.mono HB6.out.size))
            obtain ⟨a4, c4, rfl, _⟩ := hvo
            simp only [List.length_nil] at HVO ⊢
            clear hb7
            go_wp2_with fail
            refine (ours_any _ [] _ HVB7.out (by simp)).mono ?_
            rintro e w8 ⟨vp, rfl, hvp, hb8⟩
            have HVP := Lib.hid hvp
            have HVO8 := Lib.hid (HVO.out.keep hb8)
            have HVA8 := Lib.hid (HVA7.out.keep hb8)
            have HVC8 := Lib.hid (HVC7.out.keep hb8)
            have HB8 := Lib.hid (HB7.out.trans (hb8.mono HB7.out.size))
            obtain ⟨a5, c5, rfl, _⟩ := hvp
            simp only [List.length_nil] at HVP ⊢
            clear hb8
            go_wp2_with fail
            refine (lsame_true _ _ [] _ HVO8.out HVP.out).mono ?_
            rintro e w9 ⟨rfl, q, hq⟩
            have hb9 : Below w8.heap.size w8 w9 := by rw [hq]; exact below_drewN (Below.refl _ _) q
            have HB9 := Lib.hid (HB8.out.trans (hb9.mono HB8.out.size))
            clear hb9 hq
            go_wp2
            go_ret
            exact ⟨rfl, HB9.out⟩
          · have LA : Hid (asB (oneL s.data.toList 1) = [((1 : Int), WS)]) := Lib.hid (by simp [oneL, hw, asB, hWS])
            have LC : Hid (asB (oneL s.data.toList 2) = [((2 : Int), WS)]) := Lib.hid (by simp [oneL, hw, asB, hWS])
            clear hw hWS
            go_wp2_with fail
            refine (HR.out.a _).mono ?_
            rintro e w4 ⟨va, rfl, hva, hb4⟩
            rw [LA.out] at hva
            have HVA := Lib.hid hva
            have HB4 := Lib.hid (HB3.out.trans (hb4.mono HB3.out.size))
            obtain ⟨a1, c1, rfl, _⟩ := hva
            simp only [List.length_cons, List.length_nil, Nat.zero_add] at HVA ⊢
            clear hb4
            go_wp2_with fail
            refine (HR.out.b _).mono ?_
            rintro e w5 ⟨vb, rfl, hvb, hb5⟩
            rw [LA.out] at hvb
            have HVB := Lib.hid hvb
            have HVA5 := Lib.hid (HVA.out.keep hb5)
            have HB5 := Lib.hid (HB4.out.trans (hb5.mono HB4.out.size))
            obtain ⟨a2, c2, rfl, _⟩ := hvb
            simp only [List.length_cons, List.length_nil, Nat.zero_add] at HVB ⊢
            clear hb5
            go_wp2_with fail
            refine (HR.out.c _).mono ?_
            rintro e w6 ⟨vc, rfl, hvc, hb6⟩
            rw [LC.out] at hvc
            have HVC := Lib.hid hvc
            have HVA6 := Lib.hid (HVA5.out.keep hb6)
            have HVB6 := Lib.hid (HVB.out.keep hb6)
            have HB6 := Lib.hid (HB5.out.trans (hb6.mono HB5.out.size))
            obtain ⟨a3, c3, rfl, _⟩ := hvc
            simp only [List.length_cons, List.length_nil, Nat.zero_add] at HVC ⊢
            clear hb6
            go_wp2_with fail
            refine (ours_any _ [((1 : Int), WS)] _ HVA6.out (by simp)).mono ?_
            rintro e w7 ⟨vo, rfl, hvo, hb7⟩
            have HVO := Lib.hid hvo
            have HVA7 := Lib.hid (HVA6.out.keep hb7)
            have HVB7 := Lib.hid (HVB6.out.keep hb7)
            have HVC7 := Lib.hid (HVC.out.keep hb7)
            have HB7 := Lib.hid (HB6.out.trans (hb7.mono HB6.out.size))
            obtain ⟨a4, c4, rfl, _⟩ := hvo
            simp only [List.length_cons, List.length_nil, Nat.zero_add] at HVO ⊢
            clear hb7
            go_wp2_with fail
            refine (ours_any _ [((1 : Int), WS)] _ HVB7.out (by simp)).mono ?_
            rintro e w8 ⟨vp, rfl, hvp, hb8⟩
            have HVP := Lib.hid hvp
            have HVO8 := Lib.hid (HVO.out.keep hb8)
            have HVA8 := Lib.hid (HVA7.out.keep hb8)
            have HVC8 := Lib.hid (HVC7.out.keep hb8)
            have HB8 := Lib.hid (HB7.out.trans (hb8.mono HB7.out.size))
            obtain ⟨a5, c5, rfl, _⟩ := hvp
            simp only [List.length_cons, List.length_nil, Nat.zero_add] at HVP ⊢
            clear hb8
            go_wp2_with fail
            refine (lsame_true _ _ [((1 : Int), WS)] _ HVO8.out HVP.out).mono ?_
            rintro e w9 ⟨rfl, q, hq⟩
            have hb9 : Below w8.heap.size w8 w9 := by rw [hq]; exact below_drewN (Below.refl _ _) q
            have HB9 := Lib.hid (HB8.out.trans (hb9.mono HB8.out.size))
            have HVA9 := Lib.hid (HVA8.out.keep hb9)
            have HVC9 := Lib.hid (HVC8.out.keep hb9)
            clear hb9 hq
            obtain ⟨_, _, ea, _, ca⟩ := HVA9.out
            obtain ⟨_, _, ec, _, cc⟩ := HVC9.out
            injection ea with ea ea1 ea2
            injection ec with ec ec1 ec2
            clear ea1 ea2 ec1 ec2
            subst ea ec
            obtain ⟨b1, o1, _, rfl, d1, _⟩ := ca 0 _ rfl
            obtain ⟨b3, o3, _, rfl, d3, _⟩ := cc 0 _ rfl
            simp only [Nat.zero_mul, Nat.add_zero] at d1 d3
            clear ca cc z1 z2 z3 z4 z5
            go_wp2
            go_ret
            exact ⟨rfl, HB9.out⟩
end Go.Proofs.Ytjinlldfniflbaa
