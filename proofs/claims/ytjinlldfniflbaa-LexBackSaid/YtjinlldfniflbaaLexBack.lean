
/- The walk of LexBack: it returns true. -/
import Derived.Test.YtjinlldfniflbaaLexAlive
import Derived.Test.YtjinlldfniflbaaLexFew
import Derived.Test.YtjinlldfniflbaaLexBackMem
import Derived.Test.YtjinlldfniflbaaLexRemarks
import Derived.Test.YtjinlldfniflbaaRow
import Derived.BigQuiet
import Derived.Maps.AppendAt
namespace Go.Proofs.Ytjinlldfniflbaa
open Go.RowKit

def rightW (x : ByteArray) : Bool := rightL x.data.toList
theorem info_string2 : (Try.prog.info? 9).map (fun i => (i.zero, i.size, i.bytes)) = some (some (.string ⟨#[]⟩), 1, 16) := by kernel_rfl
theorem info_strs : (Try.prog.info? 23).map (fun i => (i.zero, i.size, i.bytes)) = some (some (.slice none 0 0), 1, 24) := by kernel_rfl
/-- The words that are asked back, line by line, as memory has them. -/
def wantB (out : List (List (List UInt8))) : List (List ByteArray) := out.map (·.map mkB)
/-- At the head of the loop over lines. -/
def BackAt (w : World) (kb gb n : Nat) (pv : Value) (L : List (Int × List ByteArray)) (s5 s8 s39 : Value) (wr : World) : Prop :=
  ∃ (i : Nat) (t : ByteArray) (WV : List Value) (out : List (List (List UInt8))), i ≤ L.length ∧ s39 = .int .i64 (i : Int) ∧ s5 = .string t ∧ t.size ≤ 7000 * i ∧ out.length ≤ i ∧ Blocks t.data.toList out ∧ BackOwn w kb gb n pv wr s8 WV (wantB out)
/-- At the head of the loop over a line's words. -/
def SiftAt (wa : World) (ws : List ByteArray) (s11 s46 : Value) (wr : World) : Prop :=
  ∃ j : Nat, j ≤ ws.length ∧ s46 = .int .i64 (j : Int) ∧ wr.ownsRow wa.heap.size 9 1 s11 ((ws.take j).filter rightW).length (((ws.take j).filter rightW).map Value.string) ∧ Below wa.heap.size wa wr
/-- At the head of the loop over a word's bytes. -/
def RightAt (l : List UInt8) (s14 s55 : Value) : Prop :=
  ∃ m : Nat, m ≤ l.length ∧ s55 = .int .i64 (m : Int) ∧ s14 = .bool (decide (l ≠ []) && (l.take m).all rwB)
/-- At the head of the loop that writes a line's words. -/
def WriteAt (w : World) (kb gb n : Nat) (pv : Value) (s8 : Value) (WV : List Value) (out : List (List ByteArray)) (v11 : Value) (FW : List ByteArray) (T : List UInt8) (s5 s86 : Value) (wr : World) : Prop :=
  ∃ (j : Nat) (t : ByteArray) (U : List UInt8), j ≤ FW.length ∧ s86 = .int .i64 (j : Int) ∧ s5 = .string t ∧ t.data.toList = T ++ U ∧ U.length ≤ 3 + 102 * j ∧ PartOf U ((FW.take j).map (·.data.toList)) ∧ BackOwn w kb gb n pv wr s8 WV out ∧ wr.ownsRow w.heap.size 9 1 v11 FW.length (FW.map Value.string)

theorem own_slice2 {W : World} {B : Nat} {e : TypeId} {s : Nat} {v : Value} {n : Nat} {xs : List Value} (h : W.ownsRow B e s v n xs) : ∃ a c, v = .slice a n c := by
  rcases h.2 with ⟨rfl, rfl⟩ | ⟨g, cap, cur, rfl, _⟩
  · exact ⟨_, _, rfl⟩
  · exact ⟨_, _, rfl⟩
theorem own_str {W : World} {B : Nat} {e : TypeId} {a : Option Addr} {m c : Nat} {ws : List ByteArray} (h : W.ownsRow B e 1 (.slice a m c) ws.length (ws.map Value.string)) {i : Nat} {x : ByteArray} (hx : ws[i]? = some x) :
    ∃ b o, a = some ⟨b, o, none⟩ ∧ W.cell? ⟨b, o + i, none⟩ = some (.string x) := by
  obtain ⟨a', c', e', _, _, hc⟩ := strs_of_own h
  injection e' with e1 _ _
  subst e1
  exact hc i x hx
theorem own_at {W : World} {B : Nat} {e : TypeId} {a : Option Addr} {m c : Nat} {xs : List Value} (h : W.ownsRow B e 1 (.slice a m c) m xs) {i : Nat} {u : Value} (hx : xs[i]? = some u) :
    ∃ b o, a = some ⟨b, o, none⟩ ∧ W.cell? ⟨b, o + i, none⟩ = some u := by
  have h0 := h
  rcases h.2 with ⟨e', hm⟩ | ⟨g, cap, cur, e', _⟩
  · have := (List.getElem?_eq_some_iff.1 hx).1
    rw [h.1, hm] at this
    omega
  · injection e' with e1 _ _
    subst e1
    have := h0.cells (g := g) rfl i u hx
    rw [add_off] at this
    exact ⟨g, 0, rfl, this⟩
theorem row_max {W : World} {B : Nat} {e : TypeId} {s : Nat} {v : Value} {n : Nat} {xs : List Value} (h : W.ownsRow B e s v n xs) : n ≤ 9223372036854775807 := by
  rcases h.2 with ⟨_, hn⟩ | ⟨g, cap, cur, _, _, _, h1, h2, _⟩
  · omega
  · unfold maxLen at h2; omega
theorem gaps_a {g : ByteArray} (h : g = ⟨#[]⟩ ∨ g = ⟨#[32]⟩ ∨ g = ⟨#[9, 32, 9]⟩) : g.data.toList.all gapB = true ∧ g.size ≤ 3 := by
  rcases h with rfl | rfl | rfl <;> decide
theorem gaps_b {g : ByteArray} (h : g = ⟨#[32]⟩ ∨ g = ⟨#[9]⟩ ∨ g = ⟨#[32, 32]⟩) : g.data.toList.all gapB = true ∧ g.size ≤ 2 ∧ g.data.toList ≠ [] := by
  rcases h with rfl | rfl | rfl <;> decide
theorem gaps_c {g : ByteArray} (h : g = ⟨#[]⟩ ∨ g = ⟨#[32, 35, 32, 97, 32, 114, 101, 109, 97, 114, 107]⟩ ∨ g = ⟨#[35]⟩) : Rem g.data.toList ∧ g.size ≤ 11 := by
  rcases h with rfl | rfl | rfl
  · exact ⟨.inl rfl, by decide⟩
  · exact ⟨.inr (.inl rfl), by decide⟩
  · exact ⟨.inr (.inr rfl), by decide⟩
theorem gaps_d {g : ByteArray} (h : g = ⟨#[10]⟩ ∨ g = ⟨#[10, 10]⟩ ∨ g = ⟨#[10, 35, 10]⟩) : End g.data.toList ∧ g.size ≤ 3 := by
  rcases h with rfl | rfl | rfl
  · exact ⟨.inl rfl, by decide⟩
  · exact ⟨.inr (.inl rfl), by decide⟩
  · exact ⟨.inr (.inr rfl), by decide⟩
theorem bytes_add2 (t u : ByteArray) : (t ++ u).data.toList = t.data.toList ++ u.data.toList := by simp [ByteArray.data_append]
theorem size_add (t u : ByteArray) : (t ++ u).size = t.size + u.size := by rw [← size_list, bytes_add2, List.length_append, size_list, size_list]
theorem mk_back (FW : List ByteArray) : (FW.map (·.data.toList)).map mkB = FW := by
  rw [List.map_map]
  have : (mkB ∘ fun x : ByteArray => x.data.toList) = id := by funext x; exact mkB_list x
  rw [this, List.map_id]
theorem right_start (y : ByteArray) : (!y.toList.isEmpty) = (decide (y.data.toList ≠ []) && (y.data.toList.take 0).all rwB) := by
  rw [ByteArray.toList_eq]
  cases y.data.toList with
  | nil => rfl
  | cons a b => simp
theorem right_snoc (y : ByteArray) (m : Nat) (h : m < y.size) : (decide (y.data.toList ≠ []) && (y.data.toList.take (m + 1)).all rwB) = ((decide (y.data.toList ≠ []) && (y.data.toList.take m).all rwB) && rwB (y.data.toList.getD m 0)) := by
  have hl : m < y.data.toList.length := by rw [size_list]; exact h
  rw [List.take_succ_eq_append_getElem hl, List.all_append, List.getD_eq_getElem?_getD, List.getElem?_eq_getElem hl, Bool.and_assoc]
  simp
set_option maxRecDepth 100000 in
set_option maxHeartbeats 8000000 in
theorem lexBack_good (v : Value) (L : List (Int × List ByteArray)) (p : Option Addr) (n c : Nat) (gl : List Int) (w : World) (hv : LinesV w v L) (hr : RowIs .u8 w p n gl) (hl : ∀ x ∈ gl, InU8 x) (hf : fewB L = true) (hn : n ≤ 300) :
    Calls Try.prog 4 #[v, .slice p n c] w fun e w' => e = .returned (.bool true) ∧ Below w.heap.size w w' := by
  have HV := Lib.hid hv
  obtain ⟨a, cc, rfl, _, hc⟩ := hv
  obtain ⟨f1, f2⟩ := fewB_parts hf
  have HF2 := Lib.hid f2
  have HC := Lib.hid hc
  have HR := Lib.hid hr
  have HL := Lib.hid hl
  have HFW : Hid (∀ x W, LinesV W x L → Calls Try.prog 10 #[x] W fun e w' => e = .returned (.bool true) ∧ Below W.heap.size W w') := Lib.hid fun x W h => by
    have := few_any x L W h
    rwa [hf] at this
  obtain ⟨N, hN⟩ : ∃ N, L.length = N := ⟨_, rfl⟩
  rw [hN] at HV f1 ⊢
  have HN := Lib.hid hN
  obtain ⟨i0, hi, hz0, hz1, hz2⟩ := info_parts info_string2
  have HI := Lib.hid (And.intro hi (And.intro hz0 (And.intro hz1 hz2)))
  obtain ⟨i1, hi1, hy0, hy1, hy2⟩ := info_parts info_strs
  have HI1 := Lib.hid (And.intro hi1 (And.intro hy0 (And.intro hy1 hy2)))
  clear hi hz0 hz1 hz2 hi1 hy0 hy1 hy2 hc f2 hf hr hl hN
  have HB0 := Lib.hid ((Below.refl w.heap.size w).alloc (Nat.le_refl _) (.cells #[.slice p n c] 41))
  have HG0 := Lib.hid (Boxed.new w 41 (.slice p n c))
  go_enter Try.func4, Try.ntmps4
  go_wp2_with fail
  refine (alive_any _).mono ?_
  rintro e w1 ⟨rfl, hb1⟩
  have HB1 := Lib.hid (HB0.out.trans (hb1.mono HB0.out.size))
  have HG1 := Lib.hid (boxed_below HG0.out hb1)
  clear hb1
  go_wp2_with fail
  refine (HFW.out _ _ (HV.out.keep HB1.out)).mono ?_
  rintro e w2 ⟨rfl, hb2⟩
  have HB2 := Lib.hid (HB1.out.trans (hb2.mono HB1.out.size))
  have hg2 := boxed_below HG1.out hb2
  have HG2 := Lib.hid hg2
  have hgc := hg2.cell
  clear hb2 hg2
  have hkb : w.heap.size ≤ w2.heap.size := HB2.out.size
  have hne : w.heap.size ≠ w2.heap.size := by have := HG2.out.lt; omega
  have HNE := Lib.hid hne
  have HST : Hid (BackOwn w w2.heap.size w.heap.size n (.slice p n c) (w2.alloc (.cells #[.int .i64 0] 3)) (.slice none 0 0) [] (wantB [])) := Lib.hid
    ⟨World.ownsRow_nil _ _ _ _, rfl, (fun i u ws hu => by simp at hu), ⟨0, Nat.zero_le _, Boxed.new w2 _ _⟩, HG2.out.alloc _, HB2.out.alloc HB2.out.size _⟩
  clear hne
  go_wp2
  clear hgc
  go_loopw [5, 8, 39] (fun s5 s8 s39 wr => BackAt w w2.heap.size w.heap.size n (.slice p n c) L s5 s8 s39 wr) (fun _ _ s39 _ => N - (intOf s39).toNat)
  case atStart => exact ⟨0, ⟨#[]⟩, [], [], Nat.zero_le _, rfl, rfl, Nat.zero_le _, Nat.zero_le _, blocks_nil, HST.out⟩
  case round =>
    obtain ⟨i, t, WV, out, hiL, rfl, rfl, hts, hol, hbl, hbo⟩ := hrel
    rw [HN.out] at hiL
    have HBL := Lib.hid hbl
    have HBO := Lib.hid hbo
    clear hbl hbo
    by_cases hlt : i < N
    · have hil : i < L.length := by rw [HN.out]; exact hlt
      obtain ⟨⟨x, ws⟩, hget⟩ : ∃ y, L[i]? = some y := ⟨_, List.getElem?_eq_getElem hil⟩
      obtain ⟨g1, g2⟩ := HF2.out _ (List.mem_of_getElem? hget)
      dsimp only at g1 g2
      obtain ⟨b1, o1, u1, rfl, d1, d2, s1⟩ := HC.out i _ hget
      dsimp only at d1 s1
      obtain ⟨a1, k1, rfl, _, m1, e1⟩ := s1
      have hbk := World.block_lt_of_cell? w _ d1
      have q1 := (HBO.out.below.cell (p := ⟨b1, o1 + i * 2, none⟩) hbk).trans d1
      have q2 := (HBO.out.below.cell (p := ⟨b1, o1 + i * 2 + 1, none⟩) hbk).trans d2
      have E1 := Lib.hid e1
      have G2 := Lib.hid g2
      obtain ⟨nw, hnw⟩ : ∃ nw, ws.length = nw := ⟨_, rfl⟩
      rw [hnw] at q2 g1
      have HNW := Lib.hid hnw
      clear hget d1 d2 e1 g2 hnw m1
      have HBA := Lib.hid (HBO.out.keep ((Below.refl _ _).alloc (Nat.le_refl _) (.cells #[.int .i64 x, .slice a1 nw k1] 45)))
      obtain ⟨wa, hwa⟩ : ∃ wa, wr.alloc (.cells #[.int .i64 x, .slice a1 nw k1] 45) = wa := ⟨_, rfl⟩
      rw [hwa] at HBA
      have HWA := Lib.hid hwa
      have hsz : wr.heap.size + 1 = wa.heap.size := by rw [← hwa]; simp
      have HSZ := Lib.hid hsz
      clear hsz hwa
      go_wp2
      rw [HWA.out]
      go_loopw [11, 46] (fun s11 s46 wr => SiftAt wa ws s11 s46 wr) (fun _ s46 _ => nw - (intOf s46).toNat)
      case atStart => exact ⟨0, Nat.zero_le _, rfl, World.ownsRow_nil _ _ _ _, Below.refl _ _⟩
      case round =>
        obtain ⟨j, hj, rfl, hown, hnx⟩ := hrel
        rw [HNW.out] at hj
        by_cases hjt : j < nw
        · have hjl : j < ws.length := by rw [HNW.out]; exact hjt
          obtain ⟨y, hy⟩ : ∃ y, ws[j]? = some y := ⟨_, List.getElem?_eq_getElem hjl⟩
          obtain ⟨b3, o3, rfl, r1⟩ := E1.out j y hy
          have hys : y.size ≤ 100 := G2.out y (List.mem_of_getElem? hy)
          have hbk3 := World.block_lt_of_cell? w _ r1
          have r2 := (hnx.cell (p := ⟨b3, o3 + j, none⟩) (Nat.lt_of_lt_of_le hbk3 HBA.out.below.size)).trans ((HBA.out.below.cell (p := ⟨b3, o3 + j, none⟩) hbk3).trans r1)
          have HTJ : Hid (ws.take (j + 1) = ws.take j ++ [y]) := Lib.hid (by rw [take_at ws j hjl]; rw [List.getElem?_eq_getElem hjl] at hy; rw [Option.some.inj hy])
          obtain ⟨cap, w3, hcv, hb3, hc3⟩ := bytes_of y wr
          have HC3 := Lib.hid hc3
          have HN3 := Lib.hid (hnx.trans (hb3.mono hnx.size))
          have HO3 := Lib.hid (row_below hown hb3)
          clear hy r1 hc3 hown hb3
          go_wp2
          clear hcv r2
          go_loop [14, 55] (fun s14 s55 => RightAt y.data.toList s14 s55) (fun _ s55 => y.size - (intOf s55).toNat)
          case atStart => exact ⟨0, Nat.zero_le _, rfl, congrArg Value.bool (right_start y)⟩
          case round =>
            obtain ⟨m, hm, rfl, rfl⟩ := hrel
            rw [size_list] at hm
            obtain ⟨rb, hrb⟩ : ∃ rb, (decide (y.data.toList ≠ []) && (y.data.toList.take m).all rwB) = rb := ⟨_, rfl⟩
            rw [hrb]
            have HRB := Lib.hid hrb
            clear hrb
            by_cases hmt : m < y.size
            · have rd := HC3.out m hmt
              have HSN := Lib.hid (right_snoc y m hmt)
              generalize y.data.toList.getD m 0 = ch at rd HSN
              have hch : ch.toNat < 256 := UInt8.toNat_lt ch
              cases rb with
              | false =>
                go_wp2
                go_round
                case rel => exact ⟨m + 1, by rw [size_list]; omega, by go_num, by rw [HSN.out, HRB.out]; rfl⟩
                case measure => simp [intOf]; omega
              | true =>
                cases hw : rwB ch with
                | true =>
                  obtain ⟨w1', w2', w3'⟩ : 33 ≤ ch.toNat ∧ ch.toNat ≤ 126 ∧ ch.toNat ≠ 35 := of_decide_eq_true hw
                  have HWT := Lib.hid hw
                  have y1 : (33 : Int) ≤ (ch.toNat : Int) := by omega
                  have y2 : (ch.toNat : Int) ≤ 126 := by omega
                  have y3 : ((ch.toNat : Int) != 35) = true := by rw [bne_iff_ne]; omega
                  clear hw w1' w2' w3'
                  go_wp2
                  go_round
                  case rel => exact ⟨m + 1, by rw [size_list]; omega, by go_num, by rw [HSN.out, HRB.out, HWT.out]; rfl⟩
                  case measure => simp [intOf]; omega
                | false =>
                  have hno : ¬ (33 ≤ ch.toNat ∧ ch.toNat ≤ 126 ∧ ch.toNat ≠ 35) := of_decide_eq_false hw
                  have HWT := Lib.hid hw
                  clear hw
                  rcases (by omega : ch.toNat < 33 ∨ (33 ≤ ch.toNat ∧ 126 < ch.toNat) ∨ (33 ≤ ch.toNat ∧ ch.toNat ≤ 126 ∧ ch.toNat = 35)) with h1 | ⟨h1, h2⟩ | ⟨h1, h2, h3⟩
                  · have y1 : (ch.toNat : Int) < 33 := by omega
                    clear hno h1
                    go_wp2
                    go_round
                    case rel => exact ⟨m + 1, by rw [size_list]; omega, by go_num, by rw [HSN.out, HRB.out, HWT.out]; rfl⟩
                    case measure => simp [intOf]; omega
                  · have y1 : (33 : Int) ≤ (ch.toNat : Int) := by omega
                    have y2 : (126 : Int) < (ch.toNat : Int) := by omega
                    clear hno h1 h2
                    go_wp2
                    go_round
                    case rel => exact ⟨m + 1, by rw [size_list]; omega, by go_num, by rw [HSN.out, HRB.out, HWT.out]; rfl⟩
                    case measure => simp [intOf]; omega
                  · have y1 : (33 : Int) ≤ (ch.toNat : Int) := by omega
                    have y2 : (ch.toNat : Int) ≤ 126 := by omega
                    have y3 : ((ch.toNat : Int) != 35) = false := by rw [bne_eq_false_iff_eq]; omega
                    clear hno h1 h2 h3
                    go_wp2
                    go_round
                    case rel => exact ⟨m + 1, by rw [size_list]; omega, by go_num, by rw [HSN.out, HRB.out, HWT.out]; rfl⟩
                    case measure => simp [intOf]; omega
            · have HRW : Hid (rightW y = rb) := Lib.hid (by
                rw [← HRB.out, List.take_of_length_le (by rw [size_list]; omega)]; rfl)
              cases rb with
              | false =>
                have HFT : Hid ((ws.take (j + 1)).filter rightW = (ws.take j).filter rightW) := Lib.hid (by rw [HTJ.out, List.filter_append]; simp [HRW.out])
                go_wp2
                go_roundw
                case rel => exact ⟨j + 1, by rw [HNW.out]; omega, by go_num, by rw [HFT.out]; exact HO3.out, HN3.out⟩
                case measure => simp [intOf]; omega
              | true =>
                have HFT : Hid ((ws.take (j + 1)).filter rightW = (ws.take j).filter rightW ++ [y]) := Lib.hid (by rw [HTJ.out, List.filter_append]; simp [HRW.out])
                have hfl : ((ws.take j).filter rightW).length ≤ 60 := by
                  have h1 := List.length_filter_le rightW (ws.take j)
                  rw [List.length_take] at h1
                  omega
                have hsz3 := HN3.out.size
                go_wp2_with (at_builtin; refine wpList_append_own _ rfl _ _ 23 rfl wa.heap.size 9 i0 (.string ⟨#[]⟩) 1 16 Try.underlying23 HI.out.1 HI.out.2.1 HI.out.2.2.1 HI.out.2.2.2 rfl (by decide) _ _ _ rfl (HO3.out.alloc _) ⟨w3.heap.size, 0, none⟩ 1 1 [.string y] rfl rfl (cell_one_new _ _ _) (by intro u hu; simp at hu; subst hu; rfl) (by unfold maxLen; omega) (by omega) (by simp; omega) ?_; intro v' w4 hown' hgrow _)
                go_roundw
                case rel => exact ⟨j + 1, by rw [HNW.out]; omega, by go_num, by rw [HFT.out, List.map_append, List.length_append]; exact hown', below_grown (HN3.out.alloc hsz3 _) (by simp; omega) (HO3.out.alloc _) hgrow⟩
                case measure => simp [intOf]; omega
        · have hrow : wr.ownsRow w.heap.size 9 1 u11 (ws.filter rightW).length ((ws.filter rightW).map Value.string) := by
            rw [List.take_of_length_le (by rw [HNW.out]; omega)] at hown
            exact row_base hown HBA.out.below.size
          have HBW := Lib.hid (HBA.out.keep hnx)
          have hfl : (ws.filter rightW).length ≤ 60 := by
            have h1 := List.length_filter_le rightW ws
            rw [HNW.out] at h1
            omega
          have HFY : Hid (∀ y ∈ ws.filter rightW, y.size ≤ 100 ∧ rightL y.data.toList = true) := Lib.hid fun y hy => by
            rw [List.mem_filter] at hy
            exact ⟨G2.out y hy.1, hy.2⟩
          generalize ws.filter rightW = FW at hrow hfl HFY
          obtain ⟨a11, c11, rfl⟩ := own_slice2 hrow
          have HRW := Lib.hid hrow
          obtain ⟨nf, hnf⟩ : ∃ nf, FW.length = nf := ⟨_, rfl⟩
          rw [hnf] at hfl ⊢
          have HNF := Lib.hid hnf
          clear hown hnx hrow hnf
          go_wp2_with fail
          refine (HBW.out.pick hkb HNE.out hn HR.out HL.out _ _ _).mono ?_
          rintro e w5 ⟨g0, hg0, rfl, hbo5, hk5⟩
          have HB5 := Lib.hid hbo5
          have HR5 := Lib.hid (hk5 _ _ _ _ HRW.out)
          obtain ⟨ga1, ga2⟩ := gaps_a hg0
          have HGA := Lib.hid ga1
          have z1 : ¬ 9223372036854775807 < t.size + g0.size := by omega
          clear hbo5 hk5 hg0 ga1
          go_wp2
          clear z1
          rw [HNF.out] at HR5
          go_loopw [5, 86] (fun s5 s86 wr => WriteAt w w2.heap.size w.heap.size n (.slice p n c) u8 WV (wantB out) (.slice a11 nf c11) FW t.data.toList s5 s86 wr) (fun _ s86 _ => nf - (intOf s86).toNat)
          case atStart => exact ⟨0, t ++ g0, g0.data.toList, Nat.zero_le _, rfl, rfl, bytes_add2 _ _, by rw [size_list]; omega, part_start HGA.out, HB5.out, by rw [HNF.out]; exact HR5.out⟩
          case round =>
            obtain ⟨j2, t2, U, hj2, rfl, rfl, ht2, hU, hpart, hbo, hrow⟩ := hrel
            rw [HNF.out] at hj2
            have hl2 := congrArg List.length ht2
            rw [List.length_append, size_list, size_list] at hl2
            have ht2s : t2.size ≤ t.size + 6123 := by omega
            have HT2 := Lib.hid ht2
            have HPT := Lib.hid hpart
            have HBO2 := Lib.hid hbo
            have HRO2 := Lib.hid hrow
            clear ht2 hl2 hpart hbo hrow
            by_cases hjf : j2 < nf
            · have hjl : j2 < FW.length := by rw [HNF.out]; exact hjf
              obtain ⟨y, hy⟩ : ∃ y, FW[j2]? = some y := ⟨_, List.getElem?_eq_getElem hjl⟩
              obtain ⟨b5, o5, rfl, r5⟩ := own_str HRO2.out hy
              obtain ⟨hys, hyr⟩ := HFY.out y (List.mem_of_getElem? hy)
              have HYR := Lib.hid hyr
              have HTJ : Hid ((FW.take (j2 + 1)).map (·.data.toList) = (FW.take j2).map (·.data.toList) ++ [y.data.toList]) := Lib.hid (by
                rw [take_at FW j2 hjl]; rw [List.getElem?_eq_getElem hjl] at hy; rw [Option.some.inj hy]; simp)
              clear hy hyr
              by_cases h0 : 0 < j2
              · go_wp2_with fail
                refine (HBO2.out.pick hkb HNE.out hn HR.out HL.out _ _ _).mono ?_
                rintro e w6 ⟨g, hg, rfl, hbo6, hk6⟩
                have HB6 := Lib.hid hbo6
                have HR6 := Lib.hid (hk6 _ _ _ _ HRO2.out)
                obtain ⟨gb1, gb2, gb3⟩ := gaps_b hg
                have HGP : Hid (PartOf (U ++ g.data.toList ++ y.data.toList) ((FW.take (j2 + 1)).map (·.data.toList))) := Lib.hid (by
                  rw [HTJ.out]
                  refine (HPT.out.gap ?_ gb1 gb3).word HYR.out
                  intro e
                  have := congrArg List.length e
                  rw [List.length_map, List.length_take, List.length_nil] at this
                  omega)
                have z1 : ¬ 9223372036854775807 < t2.size + g.size := by omega
                have z2 : ¬ 9223372036854775807 < t2.size + g.size + y.size := by omega
                clear hbo6 hk6 hg gb1 gb3 r5
                go_wp2
                go_roundw
                case rel => exact ⟨j2 + 1, t2 ++ g ++ y, U ++ g.data.toList ++ y.data.toList, by omega, by go_num, rfl, by rw [bytes_add2, bytes_add2, HT2.out]; simp, by rw [List.length_append, List.length_append, size_list, size_list]; omega, HGP.out, HB6.out, HR6.out⟩
                case measure => simp [intOf]; omega
              · obtain rfl : j2 = 0 := by omega
                rw [Nat.add_zero] at r5
                have HGP : Hid (PartOf (U ++ y.data.toList) ((FW.take (0 + 1)).map (·.data.toList))) := Lib.hid (by
                  rw [HTJ.out]
                  exact HPT.out.gap0.word HYR.out)
                have z2 : ¬ 9223372036854775807 < t2.size + y.size := by omega
                go_wp2
                go_roundw
                case rel => exact ⟨1, t2 ++ y, U ++ y.data.toList, by omega, by go_num, rfl, by rw [bytes_add2, HT2.out]; simp, by rw [List.length_append, size_list]; omega, HGP.out, HBO2.out, HRO2.out⟩
                case measure => simp [intOf]; omega
            · have HPF : Hid (PartOf U (FW.map (·.data.toList))) := Lib.hid (by
                have := HPT.out
                rwa [List.take_of_length_le (by rw [HNF.out]; omega)] at this)
              go_wp2_with fail
              refine (HBO2.out.pick hkb HNE.out hn HR.out HL.out _ _ _).mono ?_
              rintro e w6 ⟨ge, hge, rfl, hbo6, hk6⟩
              have HB6 := Lib.hid hbo6
              have HR6 := Lib.hid (hk6 _ _ _ _ HRO2.out)
              obtain ⟨gc1, gc2⟩ := gaps_c hge
              have HGC := Lib.hid gc1
              clear hbo6 hk6 hge gc1
              go_wp2_with fail
              refine (HB6.out.pick hkb HNE.out hn HR.out HL.out _ _ _).mono ?_
              rintro e w7 ⟨gn, hgn, rfl, hbo7, hk7⟩
              have HB7 := Lib.hid hbo7
              have HR7 := Lib.hid (hk7 _ _ _ _ HR6.out)
              obtain ⟨gd1, gd2⟩ := gaps_d hgn
              have HGD := Lib.hid gd1
              clear hbo7 hk7 hgn gd1
              have HBN := Lib.hid (HBL.out.snoc HPF.out HGC.out HGD.out)
              have HTN : Hid ((t2 ++ (ge ++ gn)).data.toList = t.data.toList ++ (U ++ ge.data.toList ++ gn.data.toList)) := Lib.hid (by
                rw [bytes_add2, bytes_add2, HT2.out]; simp)
              have HTS : Hid ((t2 ++ (ge ++ gn)).size ≤ 7000 * (i + 1)) := Lib.hid (by
                rw [size_add, size_add]; omega)
              have z1 : ¬ 9223372036854775807 < ge.size + gn.size := by omega
              have z2 : ¬ 9223372036854775807 < t2.size + (ge.size + gn.size) := by omega
              have hWl : WV.length ≤ 60 := by rw [HB7.out.len]; unfold wantB; rw [List.length_map]; omega
              have hsz7 := HB7.out.below.size
              by_cases hnf0 : 0 < nf
              · have HFN : Hid (out ++ (if FW.map (·.data.toList) = [] then [] else [FW.map (·.data.toList)]) = out ++ [FW.map (·.data.toList)]) := Lib.hid (by
                  have : FW.map (·.data.toList) ≠ [] := fun e => by
                    have := congrArg List.length e
                    rw [List.length_map, HNF.out, List.length_nil] at this
                    omega
                  rw [if_neg this])
                have HWB : Hid (wantB (out ++ [FW.map (·.data.toList)]) = wantB out ++ [FW]) := Lib.hid (by
                  unfold wantB; rw [List.map_append, List.map_cons, List.map_nil, mk_back])
                go_wp2_with (at_builtin; refine wpList_append_own _ rfl _ _ 43 rfl w.heap.size 23 i1 (.slice none 0 0) 1 24 Try.underlying43 HI1.out.1 HI1.out.2.1 HI1.out.2.2.1 HI1.out.2.2.2 rfl (by decide) _ _ _ rfl (HB7.out.row.alloc _) ⟨w7.heap.size, 0, none⟩ 1 1 [.slice _ nf c11] rfl rfl (cell_one_new _ _ _) (by intro u hu; simp at hu; subst hu; rfl) (by unfold maxLen; omega) (by omega) (by simp; omega) ?_; intro v' w8 hown' hgrow _)
                have HB8 := Lib.hid (HB7.out.snoc HR7.out hown' hgrow)
                clear hown' hgrow z1 z2
                go_roundw
                case rel => exact ⟨i + 1, t2 ++ (ge ++ gn), _, out ++ [FW.map (·.data.toList)], by rw [HN.out]; omega, by go_num, rfl, HTS.out, by simp; omega, by rw [HTN.out, ← HFN.out]; exact HBN.out, by rw [HWB.out]; exact HB8.out⟩
                case measure => simp [intOf]; omega
              · have HFN : Hid (out ++ (if FW.map (·.data.toList) = [] then [] else [FW.map (·.data.toList)]) = out) := Lib.hid (by
                  have : FW = [] := List.eq_nil_of_length_eq_zero (by rw [HNF.out]; omega)
                  rw [this]; simp)
                go_wp2
                go_roundw
                case rel => exact ⟨i + 1, t2 ++ (ge ++ gn), WV, out, by rw [HN.out]; omega, by go_num, rfl, HTS.out, by omega, by rw [HTN.out, ← HFN.out]; exact HBN.out, HB7.out⟩
                case measure => simp [intOf]; omega
    · by_cases hbig : 20000 < t.size
      · go_wp2
        go_ret
        exact ⟨rfl, HBO.out.below⟩
      · obtain ⟨m0, hnl, hinc⟩ := HBL.out.lines
        have HLN : Hid (∀ W, Calls Try.prog 11 #[.string t] W (LinesPost W (asB (linesL t.data.toList)) 0)) := Lib.hid fun W => lines_good t W (by omega) HBL.out.1
        obtain ⟨NL, hNL⟩ : ∃ NL, linesL t.data.toList = NL := ⟨_, rfl⟩
        rw [hNL] at HLN hnl hinc
        obtain ⟨M, hM⟩ : ∃ M, out.length = M := ⟨_, rfl⟩
        have hNLl : NL.length = M := by rw [← hM, ← hnl, List.length_map]
        have hWVl : WV.length = M := by rw [HBO.out.len]; unfold wantB; rw [List.length_map]; exact hM
        have HINC := Lib.hid hinc
        have HNLl := Lib.hid hNLl
        have HNM := Lib.hid hnl
        have hMb : M ≤ 60 := by omega
        have hrow8 := HBO.out.row
        rw [hWVl] at hrow8
        obtain ⟨a8, c8, rfl⟩ := own_slice2 hrow8
        have HR8 := Lib.hid hrow8
        have HROWS := Lib.hid HBO.out.rows
        have HBEL := Lib.hid HBO.out.below
        have HWVl := Lib.hid hWVl
        clear hNL hM hNLl hWVl hinc hnl hrow8 HBO
        go_wp2_with fail
        refine (HLN.out _).mono ?_
        rintro e w9 ⟨vg, rfl, hvg, hb9⟩
        have HB9 := Lib.hid (HBEL.out.trans (hb9.mono HBEL.out.size))
        have HR9 := Lib.hid (row_below HR8.out hb9)
        have HW9 : Hid (∀ (i : Nat) (u : Value) (ws : List ByteArray), WV[i]? = some u → (wantB out)[i]? = some ws → w9.ownsRow w.heap.size 9 1 u ws.length (ws.map Value.string)) := Lib.hid fun i u ws h1 h2 => row_below (HROWS.out i u ws h1 h2) hb9
        obtain ⟨ag, cg, rfl, _, hcg⟩ := hvg
        have HCG := Lib.hid hcg
        rw [asB_length, HNLl.out]
        clear hb9 hcg
        have hMM : ((M : Int) != (M : Int)) = false := by simp
        go_wp2
        go_loopg [21, 138] M (fun kx s21 s138 wr => ∃ i2 last : Nat, s138 = .int .i64 (i2 : Int) ∧ s21 = .int .i64 (last : Int) ∧ i2 ≤ M ∧ M - i2 ≤ kx ∧ Hid (∀ (j : Nat) (x : Nat × List (List UInt8)), i2 ≤ j → NL[j]? = some x → last < x.1) ∧ Below w9.heap.size w9 wr)
        case atStart => exact ⟨0, 0, rfl, rfl, Nat.zero_le _, by omega, Lib.hid (fun j x _ hx => HINC.out.ge j x hx), Below.refl _ _⟩
        case round =>
          obtain ⟨i2, last, rfl, rfl, hi2, hkx, HLT, hnx⟩ := hrel
          by_cases hlt2 : i2 < M
          · have hil : i2 < NL.length := by rw [HNLl.out]; exact hlt2
            obtain ⟨⟨q, wsL⟩, hget⟩ : ∃ y, NL[i2]? = some y := ⟨_, List.getElem?_eq_getElem hil⟩
            obtain ⟨u2, hu2⟩ : ∃ u, WV[i2]? = some u := ⟨_, List.getElem?_eq_getElem (by rw [HWVl.out]; exact hlt2)⟩
            have hout : out[i2]? = some wsL := by rw [← HNM.out, List.getElem?_map, hget]; rfl
            have hwo : (wantB out)[i2]? = some (wsL.map mkB) := by unfold wantB; rw [List.getElem?_map, hout]; rfl
            have hrw := HW9.out i2 u2 _ hu2 hwo
            obtain ⟨bg, og, ug, rfl, d1, d2, s1⟩ := HCG.out i2 ((q : Int), wsL.map mkB) (by unfold asB; rw [List.getElem?_map, hget]; rfl)
            dsimp only at d1 s1
            have hql := HLT.out i2 _ (Nat.le_refl _) hget
            dsimp only at hql
            have HLQ : Hid (∀ (j : Nat) (x : Nat × List (List UInt8)), i2 + 1 ≤ j → NL[j]? = some x → q < x.1) := Lib.hid fun j x hj hx => HINC.out.lt i2 j _ x (by omega) hget hx
            obtain ⟨a1, k1, rfl, _, _, e1⟩ := s1
            obtain ⟨a2, k2, rfl⟩ := own_slice2 hrw
            obtain ⟨b8, o8, rfl, d8⟩ := own_at HR9.out hu2
            have hbkg := World.block_lt_of_cell? w9 _ d1
            have hbk8 := World.block_lt_of_cell? w9 _ d8
            have HRW2 := Lib.hid hrw
            have E1 := Lib.hid e1
            obtain ⟨WS, hWS⟩ : ∃ WS, wsL.map mkB = WS := ⟨_, rfl⟩
            rw [hWS] at HRW2 E1 d2 d8
            obtain ⟨m, hm⟩ : ∃ m, WS.length = m := ⟨_, rfl⟩
            rw [hm] at d2 d8
            have HM := Lib.hid hm
            have hmb : m ≤ 9223372036854775807 := by
              have := row_max hrw
              rw [hWS, hm] at this
              exact this
            have f1 := (hnx.cell (p := ⟨bg, og + i2 * 2, none⟩) hbkg).trans d1
            have f2 := (hnx.cell (p := ⟨bg, og + i2 * 2 + 1, none⟩) hbkg).trans d2
            have hnx2 := hnx.alloc hnx.size (.cells #[.int .i64 (q : Int), .slice a1 m k1] 46)
            have f8 := (hnx2.cell (p := ⟨b8, o8 + i2, none⟩) hbk8).trans d8
            have HNX2 := Lib.hid hnx2
            have HF8 := Lib.hid f8
            clear hget hu2 hout hwo hrw e1 hWS hm d1 d2 d8 hnx2
            have hq1 : decide (q ≤ last) = false := decide_eq_false (by omega)
            have hmm : ((m : Int) != (m : Int)) = false := by simp
            go_wp2_with fail
            go_big_quiet (fail)
            clear f1 f2 f8
            have x0 : ((wr.alloc (.cells #[.int .i64 (q : Int), .slice a1 m k1] 46)).drewN nq).cell? ⟨wr.heap.size, 0, none⟩ = some (.int .i64 (q : Int)) := by
              rw [cell_drewN]; exact cell_of_row _ wr.heap.size 0 _ _ (0, 0) (heap_alloc_new wr _)
            have x1 : ((wr.alloc (.cells #[.int .i64 (q : Int), .slice a1 m k1] 46)).drewN nq).cell? ⟨wr.heap.size, 1, none⟩ = some (.slice a1 m k1) := by
              rw [cell_drewN]; exact cell_of_row _ wr.heap.size 1 _ _ (0, 0) (heap_alloc_new wr _)
            have x8 : ((wr.alloc (.cells #[.int .i64 (q : Int), .slice a1 m k1] 46)).drewN nq).cell? ⟨b8, o8 + i2, none⟩ = some (.slice _ m k2) := HF8.out
            have HQB := Lib.hid (below_drewN HNX2.out nq)
            generalize (wr.alloc (.cells #[.int .i64 (q : Int), .slice a1 m k1] 46)).drewN nq = wq at x0 x1 x8 HQB ⊢
            go_wp2
            go_loop [163] (fun vi => ∃ j : Nat, vi = .int .i64 (j : Int) ∧ j ≤ m) (fun vi => m - (intOf vi).toNat)
            case atStart => exact ⟨0, rfl, Nat.zero_le _⟩
            case round =>
              obtain ⟨j, rfl, hj⟩ := hrel
              by_cases hjm : j < m
              · obtain ⟨y, hy⟩ : ∃ y, WS[j]? = some y := ⟨_, List.getElem?_eq_getElem (by rw [HM.out]; exact hjm)⟩
                obtain ⟨b3, o3, rfl, r3⟩ := E1.out j y hy
                obtain ⟨b4, o4, rfl, r4⟩ := own_str HRW2.out hy
                have r3' := (HQB.out.cell (p := ⟨b3, o3 + j, none⟩) (World.block_lt_of_cell? w9 _ r3)).trans r3
                have r4' := (HQB.out.cell (p := ⟨b4, o4 + j, none⟩) (World.block_lt_of_cell? w9 _ r4)).trans r4
                clear hy r3 r4
                go_wp2
                go_round
                case rel => exact ⟨j + 1, by go_num, by omega⟩
                case measure => simp [intOf]; omega
              · go_wp2
                go_roundg (M - (i2 + 1))
                case measure => omega
                case rel => exact ⟨i2 + 1, q, by first | rfl | go_num, rfl, by omega, Nat.le_refl _, HLQ, HQB.out⟩
          · go_wp2
            go_ret
            exact ⟨rfl, HB9.out.trans (hnx.mono HB9.out.size)⟩

set_option maxRecDepth 100000 in
set_option maxHeartbeats 2000000 in
theorem lexBack_walk (v : Value) (L : List (Int × List ByteArray)) (p : Option Addr) (n c : Nat) (gl : List Int) (w : World) (hv : LinesV w v L) (hr : RowIs .u8 w p n gl) (hl : ∀ x ∈ gl, InU8 x) :
    Calls Try.prog 4 #[v, .slice p n c] w fun e w' => e = .returned (.bool true) ∧ Below w.heap.size w w' := by
  have hm := hr.max
  unfold maxLen at hm
  have HB0 := Lib.hid ((Below.refl w.heap.size w).alloc (Nat.le_refl _) (.cells #[.slice p n c] 41))
  have HG0 := Lib.hid (Boxed.new w 41 (.slice p n c))
  cases hf : fewB L with
  | true =>
    by_cases h3 : n ≤ 300
    · exact lexBack_good v L p n c gl w hv hr hl hf h3
    · have HFW : Hid (∀ x W, LinesV W x L → Calls Try.prog 10 #[x] W fun e w' => e = .returned (.bool true) ∧ Below W.heap.size W w') := Lib.hid fun x W h => by
        have := few_any x L W h
        rwa [hf] at this
      have HV := Lib.hid hv
      obtain ⟨a, cc, rfl, _⟩ := hv
      obtain ⟨N, hN⟩ : ∃ N, L.length = N := ⟨_, rfl⟩
      rw [hN] at HV ⊢
      clear hN hf hr hl
      go_enter Try.func4, Try.ntmps4
      go_wp2_with fail
      refine (alive_any _).mono ?_
      rintro e w1 ⟨rfl, hb1⟩
      have HB1 := Lib.hid (HB0.out.trans (hb1.mono HB0.out.size))
      have HG1 := Lib.hid (boxed_below HG0.out hb1)
      clear hb1
      go_wp2_with fail
      refine (HFW.out _ _ (HV.out.keep HB1.out)).mono ?_
      rintro e w2 ⟨rfl, hb2⟩
      have HB2 := Lib.hid (HB1.out.trans (hb2.mono HB1.out.size))
      have hgc := (boxed_below HG1.out hb2).cell
      clear hb2
      go_wp2
      go_ret
      exact ⟨rfl, HB2.out⟩
  | false =>
    have HFW : Hid (∀ x W, LinesV W x L → Calls Try.prog 10 #[x] W fun e w' => e = .returned (.bool false) ∧ Below W.heap.size W w') := Lib.hid fun x W h => by
      have := few_any x L W h
      rwa [hf] at this
    have HV := Lib.hid hv
    obtain ⟨a, cc, rfl, _⟩ := hv
    obtain ⟨N, hN⟩ : ∃ N, L.length = N := ⟨_, rfl⟩
    rw [hN] at HV ⊢
    clear hN hf hr hl
    go_enter Try.func4, Try.ntmps4
    go_wp2_with fail
    refine (alive_any _).mono ?_
    rintro e w1 ⟨rfl, hb1⟩
    have HB1 := Lib.hid (HB0.out.trans (hb1.mono HB0.out.size))
    have HG1 := Lib.hid (boxed_below HG0.out hb1)
    clear hb1
    go_wp2_with fail
    refine (HFW.out _ _ (HV.out.keep HB1.out)).mono ?_
    rintro e w2 ⟨rfl, hb2⟩
    have HB2 := Lib.hid (HB1.out.trans (hb2.mono HB1.out.size))
    have hgc := (boxed_below HG1.out hb2).cell
    clear hb2
    go_wp2
    go_ret
    exact ⟨rfl, HB2.out⟩
end Go.Proofs.Ytjinlldfniflbaa
