
/- What memory holds while LexBack builds its text: the rows of words that it wants back, a box that counts, a box that holds the gaps. -/
import Derived.Test.YtjinlldfniflbaaLexGap
import Derived.Test.YtjinlldfniflbaaLexBackPlain
namespace Go.Proofs.Ytjinlldfniflbaa
open Go.RowKit

structure BackOwn (w : World) (kb gb n : Nat) (pv : Value) (wr : World) (s8 : Value) (WV : List Value) (out : List (List ByteArray)) : Prop where
  row : wr.ownsRow w.heap.size 23 1 s8 WV.length WV
  len : WV.length = out.length
  rows : ∀ (i : Nat) (u : Value) (ws : List ByteArray), WV[i]? = some u → out[i]? = some ws → wr.ownsRow w.heap.size 9 1 u ws.length (ws.map Value.string)
  kbx : ∃ k : Nat, k ≤ n ∧ Boxed wr kb 3 (.int .i64 (k : Int))
  gbx : Boxed wr gb 41 pv
  below : Below w.heap.size w wr
theorem BackOwn.keep {w wr wr' : World} {kb gb n : Nat} {pv s8 : Value} {WV : List Value} {out : List (List ByteArray)} (h : BackOwn w kb gb n pv wr s8 WV out) (hb : Below wr.heap.size wr wr') : BackOwn w kb gb n pv wr' s8 WV out where
  row := row_below h.row hb
  len := h.len
  rows := fun i u ws hu hw => row_below (h.rows i u ws hu hw) hb
  kbx := by obtain ⟨k, hk, hx⟩ := h.kbx; exact ⟨k, hk, boxed_below hx hb⟩
  gbx := boxed_below h.gbx hb
  below := h.below.trans (hb.mono h.below.size)
theorem row_box {W W' : World} {kb : Nat} {t e : TypeId} {x v : Value} {B s m : Nat} {xs : List Value} (hk : Boxed W kb t x) (hte : t ≠ e) (hr : W.ownsRow B e s v m xs) (hg : W.grownBy W' (some kb)) : W'.ownsRow B e s v m xs :=
  hr.kept hg (.inr (hk.not_row hte hr).symm)
theorem BackOwn.gap {w wr wr' : World} {kb gb n : Nat} {pv s8 : Value} {WV : List Value} {out : List (List ByteArray)} (h : BackOwn w kb gb n pv wr s8 WV out) (hg : wr.grownBy wr' (some kb)) (hk : ∃ k : Nat, k ≤ n ∧ Boxed wr' kb 3 (.int .i64 (k : Int))) (hB : w.heap.size ≤ kb) (hne : gb ≠ kb) : BackOwn w kb gb n pv wr' s8 WV out := by
  obtain ⟨k, _, hx⟩ := h.kbx
  exact ⟨row_box hx (by decide) h.row hg, h.len, fun i u ws hu hw => row_box hx (by decide) (h.rows i u ws hu hw) hg, hk, h.gbx.kept hg (fun e => hne (Option.some.inj e)), h.below.grown hg h.below.size (fun j hj => by cases hj; exact hB)⟩
theorem BackOwn.snoc {w wr w1 : World} {kb gb n : Nat} {pv s8 v' u : Value} {WV : List Value} {out : List (List ByteArray)} {tmp : Obj} {ws : List ByteArray} (h : BackOwn w kb gb n pv wr s8 WV out)
    (hu : wr.ownsRow w.heap.size 9 1 u ws.length (ws.map Value.string)) (hown : w1.ownsRow w.heap.size 23 1 v' (WV.length + 1) (WV ++ [u])) (hg : (wr.alloc tmp).grownBy w1 s8.ownBlock) : BackOwn w kb gb n pv w1 v' (WV ++ [u]) (out ++ [ws]) := by
  have hk9 : ∀ (x : Value) (m : Nat) (xs : List Value), wr.ownsRow w.heap.size 9 1 x m xs → w1.ownsRow w.heap.size 9 1 x m xs := fun x m xs hx =>
    (hx.alloc tmp).kept hg (row_apart h.row hx (by decide))
  refine ⟨by rw [List.length_append]; exact hown, by simp [h.len], fun i x ys hx hy => ?_, ?_, ?_, ?_⟩
  · by_cases hi : i < WV.length
    · rw [List.getElem?_append_left hi] at hx
      rw [List.getElem?_append_left (by rw [← h.len]; exact hi)] at hy
      exact hk9 _ _ _ (h.rows i x ys hx hy)
    · have hi' : i = WV.length := by
        have := (List.getElem?_eq_some_iff.1 hx).1
        simp at this
        omega
      subst hi'
      simp at hx
      rw [h.len] at hy
      simp at hy
      subst hx hy
      exact hk9 _ _ _ hu
  · obtain ⟨k, hk, hx⟩ := h.kbx
    exact ⟨k, hk, (hx.alloc tmp).kept hg (hx.not_row (by decide) h.row)⟩
  · exact (h.gbx.alloc tmp).kept hg (h.gbx.not_row (by decide) h.row)
  · exact below_grown (h.below.alloc h.below.size tmp) (by have := h.below.size; simp; omega) (h.row.alloc tmp) hg
/-- A slice of three texts that was just laid. -/
theorem strs3 (w : World) (x0 x1 x2 : ByteArray) (t : TypeId) : StrsV (w.alloc (.cells #[.string x0, .string x1, .string x2] t)) (.slice (some ⟨w.heap.size, 0, none⟩) 3 3) [x0, x1, x2] :=
  ⟨_, _, rfl, by simp, by show 3 ≤ maxLen; decide, fun i x hx => ⟨w.heap.size, 0, rfl, by
    rw [Nat.zero_add, cell_of_row _ w.heap.size i _ t (0, 0) (heap_alloc_new w _)]
    match i, hx with
    | 0, hx => cases hx; rfl
    | 1, hx => cases hx; rfl
    | 2, hx => cases hx; rfl
    | i + 3, hx => simp at hx⟩⟩
/-- A gap, picked: what the walk goes on with. -/
theorem BackOwn.pick {w wr : World} {kb gb n c : Nat} {p : Option Addr} {s8 : Value} {WV : List Value} {out : List (List ByteArray)} (h : BackOwn w kb gb n (.slice p n c) wr s8 WV out) (hB : w.heap.size ≤ kb) (hne : gb ≠ kb) (hn : n ≤ 300) {gl : List Int}
    (hr : RowIs .u8 w p n gl) (hl : ∀ x ∈ gl, InU8 x) (x0 x1 x2 : ByteArray) :
    Calls Try.prog 22 #[.slice (some ⟨wr.heap.size, 0, none⟩) 3 3, .pointer (some ⟨kb, 0, none⟩), .pointer (some ⟨gb, 0, none⟩)] (wr.alloc (.cells #[.string x0, .string x1, .string x2] 9))
      fun e W' => ∃ x, (x = x0 ∨ x = x1 ∨ x = x2) ∧ e = .returned (.string x) ∧ BackOwn w kb gb n (.slice p n c) W' s8 WV out ∧ ∀ (u : Value) (B m : Nat) (xs : List Value), wr.ownsRow B 9 1 u m xs → W'.ownsRow B 9 1 u m xs := by
  have hA := h.keep ((Below.refl _ _).alloc (Nat.le_refl _) (.cells #[.string x0, .string x1, .string x2] 9))
  obtain ⟨k, hk, hx⟩ := hA.kbx
  refine (gap_any _ kb gb p n c gl k _ x0 x1 x2 (strs3 wr x0 x1 x2 9) hA.gbx hx hk hn (hr.keep hA.below (Nat.le_refl _)) hl hne).mono ?_
  rintro e W' ⟨x, k', h1, h2, h3, h4, h5⟩
  exact ⟨x, h1, h2, hA.gap h5 ⟨k', h3, h4⟩ hB hne, fun u B m xs hu => row_box hx (by decide) (hu.alloc _) h5⟩
end Go.Proofs.Ytjinlldfniflbaa
