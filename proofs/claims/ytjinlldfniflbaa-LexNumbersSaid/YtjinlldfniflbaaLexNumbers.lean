
/- The walk of LexNumbers: it returns true. -/
import Derived.Test.YtjinlldfniflbaaLexAlive
import Derived.Test.YtjinlldfniflbaaRow
import Derived.BigQuiet
namespace Go.Proofs.Ytjinlldfniflbaa
open Go.RowKit

/-- The text that the statement makes, and the numbers that it wants, n being the next line's. -/
def numT : List Int → List UInt8
  | [] => []
  | g :: r => List.replicate (g % 3).toNat 10 ++ (119 :: 10 :: numT r)
def numW (n : Int) : List Int → List Int
  | [] => []
  | g :: r => (n + g % 3) :: numW (n + g % 3 + 1) r
def numE (n : Int) : List Int → Int
  | [] => n
  | g :: r => numE (n + g % 3 + 1) r
theorem numT_snoc (l : List Int) (g : Int) : numT (l ++ [g]) = numT l ++ (List.replicate (g % 3).toNat 10 ++ [119, 10]) := by
  induction l with
  | nil => simp [numT]
  | cons x r ih => simp [numT, ih]
theorem numW_snoc (l : List Int) (g n : Int) : numW n (l ++ [g]) = numW n l ++ [numE n l + g % 3] := by
  induction l generalizing n with
  | nil => simp [numW, numE]
  | cons x r ih => simp [numW, numE, ih]
theorem numE_snoc (l : List Int) (g n : Int) : numE n (l ++ [g]) = numE n l + g % 3 + 1 := by
  induction l generalizing n with
  | nil => simp [numE]
  | cons x r ih => simp [numE, ih]
theorem numW_length (l : List Int) (n : Int) : (numW n l).length = l.length := by
  induction l generalizing n with
  | nil => rfl
  | cons x r ih => simp [numW, ih]
theorem numT_length (l : List Int) : (numT l).length ≤ 4 * l.length := by
  induction l with
  | nil => simp [numT]
  | cons x r ih =>
    simp only [numT, List.length_append, List.length_replicate, List.length_cons]
    have : (x % 3).toNat ≤ 2 := by omega
    omega
theorem numE_in (l : List Int) (n : Int) : n ≤ numE n l ∧ numE n l ≤ n + 3 * l.length := by
  induction l generalizing n with
  | nil => simp [numE]
  | cons x r ih =>
    have := ih (n + x % 3 + 1)
    simp only [numE, List.length_cons]
    omega
theorem numT_ok (l : List Int) : okL (numT l) = true := by
  unfold okL
  induction l with
  | nil => rfl
  | cons x r ih =>
    simp only [numT, List.all_append, List.all_cons, ih]
    have : (List.replicate (x % 3).toNat (10 : UInt8)).all okB = true := List.all_eq_true.2 fun c hc => by
      rw [(List.mem_replicate.1 hc).2]; decide
    rw [this]; decide
theorem nums_ends (k n : Nat) (l : List UInt8) : numP (enumL n (linesGo [] (List.replicate k 10 ++ l))) = numP (enumL (n + k) (linesGo [] l)) := by
  induction k generalizing n with
  | zero => simp
  | succ k ih =>
    rw [List.replicate_succ, List.cons_append]
    have : linesGo [] ((10 : UInt8) :: (List.replicate k 10 ++ l)) = [] :: linesGo [] (List.replicate k 10 ++ l) := by simp [linesGo]
    rw [this]
    have e : numP (enumL n ([] :: linesGo [] (List.replicate k 10 ++ l))) = numP (enumL (n + 1) (linesGo [] (List.replicate k 10 ++ l))) := by
      have hw : wordsL [] = [] := rfl
      simp [enumL, numP, hw]
    rw [e, ih]
    congr 2
    omega
theorem nums_all (l : List Int) (n : Nat) : numP (enumL n (linesGo [] (numT l))) = (numW (n : Int) l).map fun x => (x.toNat, [[119]]) := by
  induction l generalizing n with
  | nil => simp [numT, linesGo, enumL, numP, wordsL, said, fieldsGo, numW]
  | cons g r ih =>
    simp only [numT, numW, List.map_cons]
    rw [nums_ends]
    have e1 : linesGo [] ((119 : UInt8) :: 10 :: numT r) = [119] :: linesGo [] (numT r) := linesGo_cut [119] (numT r) (by decide)
    rw [e1]
    have hw : wordsL [119] = [[119]] := by decide
    have e2 : numP (enumL (n + (g % 3).toNat) ([119] :: linesGo [] (numT r))) = (n + (g % 3).toNat, [[119]]) :: numP (enumL (n + (g % 3).toNat + 1) (linesGo [] (numT r))) := by
      simp [enumL, numP, hw]
    rw [e2, ih]
    have hg : 0 ≤ g % 3 := by omega
    have e3 : ((n + (g % 3).toNat + 1 : Nat) : Int) = (n : Int) + g % 3 + 1 := by omega
    rw [e3]
    congr 2
    omega
theorem numW_pos (l : List Int) (n : Int) (hn : 0 ≤ n) : ∀ x ∈ numW n l, 0 ≤ x := by
  induction l generalizing n with
  | nil => intro x hx; cases hx
  | cons g r ih =>
    intro x hx
    rcases List.mem_cons.1 hx with rfl | h
    · omega
    · exact ih (n + g % 3 + 1) (by omega) x h
theorem nums_lines (l : List Int) : asB (linesL (numT l)) = (numW 1 l).map fun x => (x, [⟨#[119]⟩]) := by
  unfold linesL
  rw [nums_all l 1]
  unfold asB
  rw [List.map_map]
  apply List.map_congr_left
  intro x hx
  have h0 := numW_pos l 1 (by omega) x hx
  simp only [Function.comp, List.map_cons, List.map_nil]
  rw [Int.toNat_of_nonneg h0]
  rfl
theorem bytes_snoc (t u : ByteArray) : (t ++ u).data.toList = t.data.toList ++ u.data.toList := by simp [ByteArray.data_append]
theorem info_int : (Try.prog.info? 3).map (fun i => (i.zero, i.size, i.bytes)) = some (some (.int .i64 0), 1, 8) := by kernel_rfl
/-- At the head of the first loop. -/
def NumAt (w : World) (l : List Int) (s3 s4 s5 s19 : Value) (wr : World) : Prop :=
  ∃ (k : Nat) (t : ByteArray), k ≤ l.length ∧ s19 = .int .i64 (k : Int) ∧ s3 = .string t ∧ t.data.toList = numT (l.take k) ∧ s5 = .int .i64 (numE 1 (l.take k)) ∧ OwnI .i64 wr w.heap.size 3 s4 (numW 1 (l.take k)) ∧ Below w.heap.size w wr
def NumIn (T : List UInt8) (E : Int) (q : Nat) (s3 s5 s25 : Value) : Prop :=
  ∃ (j : Nat) (t : ByteArray), j ≤ q ∧ s25 = .int .u8 (j : Int) ∧ s3 = .string t ∧ t.data.toList = T ++ List.replicate j 10 ∧ s5 = .int .i64 (E + (j : Int))

set_option maxRecDepth 100000 in
set_option maxHeartbeats 4000000 in
theorem lexNumbers_walk (p : Option Addr) (n c : Nat) (l : List Int) (w : World) (hr : RowIs .u8 w p n l) (hl : ∀ x ∈ l, InU8 x) :
    Calls Try.prog 7 #[.slice p n c] w fun e w' => e = .returned (.bool true) ∧ Below w.heap.size w w' := by
  have hm := hr.max
  unfold maxLen at hm
  obtain ⟨i0, hi, hz0, hz1, hz2⟩ := info_parts info_int
  have HI := Lib.hid (And.intro hi (And.intro hz0 (And.intro hz1 hz2)))
  clear hi hz0 hz1 hz2
  have HR := Lib.hid hr
  have HL := Lib.hid hl
  have HN := Lib.hid hr.len
  clear hr hl
  by_cases hbig : 200 < n
  · go_enter Try.func7, Try.ntmps7
    go_wp2_with fail
    refine (alive_any _).mono ?_
    rintro e w1 ⟨rfl, hb1⟩
    go_wp2
    go_ret
    exact ⟨rfl, hb1⟩
  · go_enter Try.func7, Try.ntmps7
    go_wp2_with fail
    refine (alive_any _).mono ?_
    rintro e w1 ⟨rfl, hb1⟩
    have HB1 := Lib.hid hb1
    clear hb1
    go_wp2
    go_loopw [3, 4, 5, 19] (fun s3 s4 s5 s19 wr => NumAt w l s3 s4 s5 s19 wr) (fun _ _ _ s19 _ => n - (intOf s19).toNat)
    case atStart => exact ⟨0, ⟨#[]⟩, Nat.zero_le _, rfl, rfl, rfl, rfl, OwnI.nil _ _ _ _, HB1.out⟩
    case round =>
      obtain ⟨k, t, hk, rfl, rfl, ht, rfl, hown, hnx⟩ := hrel
      rw [HN.out] at hk
      have HT := Lib.hid ht
      have hE := numE_in (l.take k) 1
      have hTl := numT_length (l.take k)
      rw [← ht, size_list] at hTl
      have hlt0 : (l.take k).length ≤ k := by rw [List.length_take]; omega
      have hts : t.size ≤ 800 := by omega
      have hE2 : numE 1 (l.take k) ≤ 601 := by omega
      have hE1 : 1 ≤ numE 1 (l.take k) := hE.1
      clear ht hTl hE
      obtain ⟨E, hEE⟩ : ∃ E, numE 1 (l.take k) = E := ⟨_, rfl⟩
      rw [hEE] at hE2 hE1 ⊢
      have HE := Lib.hid hEE
      clear hEE
      by_cases hlt : k < n
      · obtain ⟨b, o, rfl, d⟩ := HR.out.cell k hlt
        have d' := (hnx.cell (p := ⟨b, o + k, none⟩) (World.block_lt_of_cell? w _ d)).trans d
        have hkl : k < l.length := by rw [HN.out]; exact hlt
        obtain ⟨g, hg⟩ : ∃ g, l.getD k 0 = g := ⟨_, rfl⟩
        rw [hg] at d'
        have hg8 : InU8 g := by rw [← hg, getD_at l k hkl]; exact HL.out _ (List.getElem_mem hkl)
        have HTK : Hid (l.take (k + 1) = l.take k ++ [g]) := Lib.hid (by rw [← hg, take_snoc l k hkl])
        obtain ⟨hg0, hg1⟩ := hg8
        obtain ⟨q, hq, hq2⟩ : ∃ q : Nat, g % 3 = (q : Int) ∧ q ≤ 2 := ⟨(g % 3).toNat, by omega, by omega⟩
        have HQ := Lib.hid hq
        clear hg d hq hlt0
        go_wp2
        rw [HQ.out]
        go_loop [3, 5, 25] (fun s3 s5 s25 => NumIn (numT (l.take k)) E q s3 s5 s25) (fun _ _ s25 => q - (intOf s25).toNat)
        case atStart => exact ⟨0, t, Nat.zero_le _, rfl, rfl, by simp [HT.out], by simp⟩
        case round =>
          obtain ⟨j, t2, hj, rfl, rfl, ht2, rfl⟩ := hrel
          have hl2 := congrArg List.length ht2
          rw [List.length_append, ← HT.out, size_list, size_list, List.length_replicate] at hl2
          have ht2s : t2.size ≤ 810 := by omega
          have HT2 := Lib.hid ht2
          clear ht2 hl2
          by_cases hjq : j < q
          · have z1 : ¬ 9223372036854775807 < t2.size + 1 := by omega
            go_wp2
            go_round
            case rel => exact ⟨j + 1, t2 ++ ⟨#[10]⟩, by omega, by go_num, rfl, by rw [bytes_snoc, HT2.out, List.replicate_succ']; simp, by congr 1; omega⟩
            case measure => simp [intOf]; omega
          · obtain rfl : j = q := by omega
            have z1 : ¬ 9223372036854775807 < t2.size + 2 := by omega
            have hsz := hnx.size
            go_wp2_with (at_builtin; refine wpList_append_rowV .i64 rfl _ _ 50 rfl w.heap.size 3 i0 (.int .i64 0) 8 Try.underlying50 HI.out.1 HI.out.2.1 HI.out.2.2.1 HI.out.2.2.2 rfl _ (hown.alloc _) [E + (j : Int)] (rowV_one .i64 wr (E + (j : Int)) 3) (by rw [numW_length, List.length_take]; unfold maxLen; simp; omega) (by rw [numW_length, List.length_take]; simp; omega) (by simp; omega) ?_; intro v' w2 hown' hb')
            go_roundw
            case rel =>
              refine ⟨k + 1, t2 ++ ⟨#[119, 10]⟩, by omega, by go_num, rfl, ?_, ?_, ?_, (hnx.alloc hsz _).trans hb'⟩
              · rw [bytes_snoc, HT2.out, HTK.out, numT_snoc, HQ.out]; simp
              · rw [HTK.out, numE_snoc, HE.out, HQ.out]
              · rw [HTK.out, numW_snoc, HE.out, HQ.out]; exact hown'
            case measure => simp [intOf]; omega
      · obtain rfl : k = n := by omega
        have hfull : l.take k = l := List.take_of_length_le (by rw [HN.out]; omega)
        obtain ⟨NW, hNW⟩ : ∃ NW, numW 1 l = NW := ⟨_, rfl⟩
        have hNl : NW.length = k := by rw [← hNW, numW_length, HN.out]
        rw [hfull, hNW] at hown
        have HLN : Hid (∀ W, Calls Try.prog 11 #[.string t] W (LinesPost W (NW.map fun x => (x, [⟨#[119]⟩])) 0)) := Lib.hid fun W => by
          have ht := HT.out
          rw [hfull] at ht
          have := lines_good t W (by omega) (by rw [ht]; exact numT_ok l)
          rwa [ht, nums_lines, hNW] at this
        obtain ⟨a4, c4, rfl, hrow4⟩ := rowIs_of_rowV hown.row
        rw [hNl] at hrow4 ⊢
        have HR4 := Lib.hid hrow4
        have HNL := Lib.hid hNl
        have HNX := Lib.hid hnx
        clear hown hrow4 hfull hNW hNl hnx hlt0 hlt
        rename World => wa
        go_wp2_with fail
        refine (HLN.out _).mono ?_
        rintro e w3 ⟨v, rfl, hv, hb3⟩
        have HB3 := Lib.hid (HNX.out.trans (hb3.mono HNX.out.size))
        have HR3 := Lib.hid (HR4.out.keep hb3 (Nat.le_refl _))
        obtain ⟨a, cc, rfl, _, hc⟩ := hv
        have HC := Lib.hid hc
        rw [List.length_map, HNL.out]
        clear hb3 hc
        have hkk : ((k : Int) != (k : Int)) = false := by simp
        go_wp2
        go_loopg [57] k (fun kx vi wr => ∃ j : Nat, vi = .int .i64 (j : Int) ∧ j ≤ k ∧ k - j ≤ kx ∧ Below w3.heap.size w3 wr)
        case atStart => exact ⟨0, rfl, Nat.zero_le _, by omega, Below.refl _ _⟩
        case round =>
          obtain ⟨j, rfl, hj, hkx, hnx⟩ := hrel
          by_cases hjk : j < k
          · have hjl : j < NW.length := by rw [HNL.out]; exact hjk
            obtain ⟨b, o, u, rfl, d1, d2, hu⟩ := HC.out j (NW[j], [⟨#[119]⟩]) (by rw [List.getElem?_map, List.getElem?_eq_getElem hjl]; rfl)
            obtain ⟨b4, o4, rfl, d4⟩ := HR3.out.cell j hjk
            obtain ⟨x, hx⟩ : ∃ x, NW[j] = x := ⟨_, rfl⟩
            rw [getD_at NW j hjl, hx] at d4
            dsimp only at d1 hu
            rw [hx] at d1
            obtain ⟨a2, c2, rfl, _⟩ := hu
            have hbk := World.block_lt_of_cell? w3 _ d1
            have hbk4 := World.block_lt_of_cell? w3 _ d4
            have f1 := (hnx.cell (p := ⟨b, o + j * 2, none⟩) hbk).trans d1
            have f2 := (hnx.cell (p := ⟨b, o + j * 2 + 1, none⟩) hbk).trans d2
            have f4 := ((hnx.alloc hnx.size (.cells #[.int .i64 x, .slice a2 1 c2] 46)).cell (p := ⟨b4, o4 + j, none⟩) hbk4).trans d4
            simp only [List.length_cons, List.length_nil, Nat.zero_add] at f2
            clear hx d1 d2 d4
            have hxx : (x != x) = false := by simp
            go_wp2_with fail
            go_big_quiet (fail)
            clear f1 f2 f4
            go_wp2
            go_roundg (k - (j + 1))
            case measure => omega
            case rel => exact ⟨j + 1, by first | rfl | go_num, by omega, Nat.le_refl _, below_drewN (hnx.alloc hnx.size _) _⟩
          · go_wp2
            go_ret
            exact ⟨rfl, HB3.out.trans (hnx.mono HB3.out.size)⟩
end Go.Proofs.Ytjinlldfniflbaa
