
/- The walk of the document's Join: the text of lines that are few and short. -/
import Derived.Test.YtjinlldfniflbaaLexJoin
import Derived.Test.YtjinlldfniflbaaLexFew
namespace Go.Proofs.Ytjinlldfniflbaa
open Go.RowKit

/-- The text of some words of a line. -/
theorem lineL_snoc (ws : List ByteArray) (x : ByteArray) : lineL (ws ++ [x]) = (if ws = [] then [] else lineL ws ++ [32]) ++ x.data.toList := by
  induction ws with
  | nil => simp [lineL, Lib.join, List.intercalate]
  | cons y r ih =>
    have e : ∀ (z : ByteArray) (l : List ByteArray), l ≠ [] → lineL (z :: l) = z.data.toList ++ ([32] ++ lineL l) := fun z l hl => by
      cases l with
      | nil => exact absurd rfl hl
      | cons a b => simp [lineL, Lib.join, List.intercalate]
    rw [List.cons_append, e y (r ++ [x]) (by simp), ih]
    cases r with
    | nil => simp [lineL, Lib.join, List.intercalate]
    | cons a b => rw [e y (a :: b) (by simp)]; simp
theorem lineL_length (ws : List ByteArray) (h : ∀ y ∈ ws, y.size ≤ 100) : (lineL ws).length ≤ 101 * ws.length := by
  induction ws with
  | nil => simp [lineL, Lib.join, List.intercalate]
  | cons y r ih =>
    have h1 := h y (List.mem_cons_self ..)
    have h2 := ih fun z hz => h z (List.mem_cons_of_mem _ hz)
    have hz := size_list y
    cases r with
    | nil => simp [lineL, Lib.join, List.intercalate]; omega
    | cons a b =>
      have e : lineL (y :: a :: b) = y.data.toList ++ ([32] ++ lineL (a :: b)) := by simp [lineL, Lib.join, List.intercalate]
      rw [e]
      simp only [List.length_append, List.length_cons, List.length_nil] at h2 ⊢
      omega
theorem joinL_length (L : List (Int × List ByteArray)) (h : ∀ x ∈ L, x.2.length ≤ 60 ∧ ∀ y ∈ x.2, y.size ≤ 100) : (joinL L).length ≤ 6100 * L.length := by
  induction L with
  | nil => simp [joinL]
  | cons x r ih =>
    have h1 := h x (List.mem_cons_self ..)
    have h2 := ih fun z hz => h z (List.mem_cons_of_mem _ hz)
    have h3 := lineL_length x.2 h1.2
    have e : joinL (x :: r) = (lineL x.2 ++ [10]) ++ joinL r := by simp [joinL]
    rw [e]
    simp only [List.length_append, List.length_cons, List.length_nil]
    omega
theorem take_mem {α : Type} {L : List α} {k : Nat} {x : α} (h : x ∈ L.take k) : x ∈ L := List.mem_of_mem_take h
def RJoinAt (L : List (Int × List ByteArray)) (s3 s4 : Value) : Prop :=
  ∃ (i : Nat) (t : ByteArray), i ≤ L.length ∧ s4 = .int .i64 (i : Int) ∧ s3 = .string t ∧ t.data.toList = joinL (L.take i)
def RLineAt (T : List UInt8) (ws : List ByteArray) (s3 s5 : Value) : Prop :=
  ∃ (j : Nat) (t : ByteArray), j ≤ ws.length ∧ s5 = .int .i64 (j : Int) ∧ s3 = .string t ∧ t.data.toList = T ++ lineL (ws.take j)

set_option maxRecDepth 100000 in
set_option maxHeartbeats 2000000 in
theorem rjoin_any (v : Value) (L : List (Int × List ByteArray)) (w : World) (h : LinesV w v L) (hf : fewB L = true) :
    Calls Try.prog 19 #[v] w fun e w' => e = .returned (.string (mkB (joinL L))) ∧ w = w' := by
  obtain ⟨a, c, rfl, hm, hc⟩ := h
  obtain ⟨f1, f2⟩ := fewB_parts hf
  have HF2 := Lib.hid f2
  have HC := Lib.hid hc
  obtain ⟨n, hn⟩ : ∃ n, L.length = n := ⟨_, rfl⟩
  obtain ⟨R, hR⟩ : ∃ R, mkB (joinL L) = R := ⟨_, rfl⟩
  rw [hn] at f1 ⊢
  rw [hR]
  have HN := Lib.hid hn
  have HR := Lib.hid hR
  clear hc f2 hf hm hn hR
  go_enter Try.func19, Try.ntmps19
  go_wp2
  go_loop [3, 4] (fun s3 s4 => RJoinAt L s3 s4) (fun _ s4 => n - (intOf s4).toNat)
  case atStart => exact ⟨0, ⟨#[]⟩, Nat.zero_le _, rfl, rfl, rfl⟩
  case round =>
    obtain ⟨i, t, hi, rfl, rfl, ht⟩ := hrel
    rw [HN.out] at hi
    have hb := joinL_length (L.take i) fun x hx => HF2.out x (take_mem hx)
    rw [← ht, size_list] at hb
    have hts : t.size ≤ 366000 := by
      have : (L.take i).length ≤ 60 := by rw [List.length_take]; omega
      omega
    have HT := Lib.hid ht
    clear ht hb
    by_cases hlt : i < n
    · have hil : i < L.length := by rw [HN.out]; exact hlt
      obtain ⟨⟨x, ws⟩, hget⟩ : ∃ y, L[i]? = some y := ⟨_, List.getElem?_eq_getElem hil⟩
      obtain ⟨g1, g2⟩ := HF2.out _ (List.mem_of_getElem? hget)
      dsimp only at g1 g2
      have HTK : Hid (L.take (i + 1) = L.take i ++ [(x, ws)]) := Lib.hid (by rw [take_at L i hil]; rw [List.getElem?_eq_getElem hil] at hget; rw [Option.some.inj hget])
      obtain ⟨b1, o1, u1, rfl, d1, d2, s1⟩ := HC.out i _ hget
      obtain ⟨a1, k1, rfl, _, m1, e1⟩ := s1
      dsimp only at d2 e1 m1
      clear hget d1 m1
      have E1 := Lib.hid e1
      have G2 := Lib.hid g2
      obtain ⟨nw, hnw⟩ : ∃ nw, ws.length = nw := ⟨_, rfl⟩
      rw [hnw] at d2 g1
      have HNW := Lib.hid hnw
      clear e1 g2 hnw
      go_wp2
      go_loop [3, 5] (fun s3 s5 => RLineAt (joinL (L.take i)) ws s3 s5) (fun _ s5 => nw - (intOf s5).toNat)
      case atStart => exact ⟨0, t, Nat.zero_le _, rfl, rfl, by rw [HT.out]; simp [lineL, Lib.join, List.intercalate]⟩
      case round =>
        obtain ⟨j, t2, hj, rfl, rfl, ht2⟩ := hrel
        rw [HNW.out] at hj
        have hb2 := lineL_length (ws.take j) fun y hy => G2.out y (take_mem hy)
        have hl2 := congrArg List.length ht2
        rw [List.length_append, ← HT.out, size_list, size_list] at hl2
        have ht2s : t2.size ≤ 373000 := by
          have : (ws.take j).length ≤ 60 := by rw [List.length_take]; omega
          omega
        have HT2 := Lib.hid ht2
        clear ht2 hb2 hl2
        by_cases hjt : j < nw
        · have hjl : j < ws.length := by rw [HNW.out]; exact hjt
          obtain ⟨y, hy⟩ : ∃ y, ws[j]? = some y := ⟨_, List.getElem?_eq_getElem hjl⟩
          obtain ⟨b3, o3, rfl, q1⟩ := E1.out j y hy
          have hys : y.size ≤ 100 := G2.out y (List.mem_of_getElem? hy)
          have HTJ : Hid (ws.take (j + 1) = ws.take j ++ [y]) := Lib.hid (by rw [take_at ws j hjl]; rw [List.getElem?_eq_getElem hjl] at hy; rw [Option.some.inj hy])
          clear hy
          by_cases h0 : 0 < j
          · have z1 : ¬ 9223372036854775807 < t2.size + 1 := by omega
            have z2 : ¬ 9223372036854775807 < t2.size + 1 + y.size := by omega
            have hne : Hid (ws.take j ≠ []) := Lib.hid fun e => by
              have := congrArg List.length e
              rw [List.length_take, List.length_nil] at this
              omega
            go_wp2
            go_round
            case rel => exact ⟨j + 1, t2 ++ ⟨#[32]⟩ ++ y, by omega, by go_num, rfl, by rw [HTJ.out, lineL_snoc, if_neg hne.out]; simp [ByteArray.data_append, HT2.out]⟩
            case measure => simp [intOf]; omega
          · obtain rfl : j = 0 := by omega
            rw [Nat.add_zero] at q1
            have z2 : ¬ 9223372036854775807 < t2.size + y.size := by omega
            go_wp2
            go_round
            case rel => exact ⟨1, t2 ++ y, by omega, by go_num, rfl, by rw [HTJ.out, lineL_snoc]; simp [ByteArray.data_append, HT2.out, lineL, Lib.join, List.intercalate]⟩
            case measure => simp [intOf]; omega
        · have z1 : ¬ 9223372036854775807 < t2.size + 1 := by omega
          have HWT : Hid (ws.take j = ws) := Lib.hid (List.take_of_length_le (by rw [HNW.out]; omega))
          go_wp2
          go_round
          case rel => exact ⟨i + 1, t2 ++ ⟨#[10]⟩, by omega, by go_num, rfl, by rw [HTK.out, joinL_snoc]; simp [ByteArray.data_append, HT2.out, HWT.out]⟩
          case measure => simp [intOf]; omega
    · have HE : Hid (t = R) := Lib.hid (by
        rw [← HR.out, ← mkB_list t, HT.out, List.take_of_length_le (by rw [HN.out]; omega)])
      rw [HE.out]
      go_wp2
      go_ret
      exact ⟨rfl, rfl⟩
end Go.Proofs.Ytjinlldfniflbaa
