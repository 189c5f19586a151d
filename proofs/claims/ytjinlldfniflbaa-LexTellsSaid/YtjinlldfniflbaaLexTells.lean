
/- The walk of LexTells: it returns true. -/
import Derived.Test.YtjinlldfniflbaaLexAlive
import Derived.Test.YtjinlldfniflbaaLexRlines
import Derived.Test.YtjinlldfniflbaaLexRname
import Derived.Test.YtjinlldfniflbaaLexRjoin
namespace Go.Proofs.Ytjinlldfniflbaa
open Go.RowKit

theorem asB_linV_length (l : List UInt8) (h : l.length ≤ 30000) : (asB (linV l)).length ≤ 30000 := by
  rw [asB_length]
  unfold linV
  split
  · simp
  · split
    · unfold linesL
      have h1 := numP_length (enumL 1 (linesGo [] l))
      rw [enumL_length] at h1
      have h2 := linesGo_length [] l
      omega
    · simp

set_option maxRecDepth 100000 in
set_option maxHeartbeats 4000000 in
theorem lexTells_good (s : ByteArray) (v : Value) (L : List (Int × List ByteArray)) (u : Value) (ws : List ByteArray) (w : World) (hs : s.size ≤ 3000 ∨ 20000 < s.size ∧ s.size ≤ 30000) (hf : fewB L = true) (h60 : ws.length ≤ 60) (hv : LinesV w v L) (hu : StrsV w u ws) :
    Calls Try.prog 3 #[.string s, v, u] w fun e w' => e = .returned (.bool true) ∧ Below w.heap.size w w' := by
  have hs3 : s.size ≤ 30000 := by omega
  have HS : Hid (s.size ≤ maxLen) := Lib.hid (by unfold maxLen; omega)
  have HLa := Lib.hid (fun W => lines_any s W hs3)
  have HLb := Lib.hid (fun W => rlines_any s W hs3)
  obtain ⟨LL, hLL⟩ : ∃ LL, asB (linV s.data.toList) = LL := ⟨_, rfl⟩
  obtain ⟨E, hE⟩ : ∃ E, linE s.data.toList = E := ⟨_, rfl⟩
  have hLl := asB_linV_length s.data.toList (by rw [size_list]; exact hs3)
  rw [hLL] at hLl
  rw [hLL, hE] at HLa HLb
  obtain ⟨NB, hNB⟩ : ∃ NB, nameL s.data.toList = NB := ⟨_, rfl⟩
  have HNa := Lib.hid (fun W => name_any s W HS.out)
  have HNb := Lib.hid (fun W => rname_any s W HS.out)
  rw [hNB] at HNa HNb
  obtain ⟨f1, f2⟩ := fewB_parts hf
  have hjl : (joinL L).length ≤ 1000000000 := by
    have := joinL_length L f2
    omega
  obtain ⟨J, hJ⟩ : ∃ J, mkB (joinL L) = J := ⟨_, rfl⟩
  have HJa := Lib.hid (fun x W (h : LinesV W x L) => join_any x L W h hjl)
  have HJb := Lib.hid (fun x W (h : LinesV W x L) => rjoin_any x L W h hf)
  rw [hJ] at HJa HJb
  obtain ⟨K, hK⟩ : ∃ K, pickL ws s = K := ⟨_, rfl⟩
  have HKa := Lib.hid (fun x W (h : StrsV W x ws) => pick_any s x ws W h)
  have HKb := Lib.hid (fun x W (h : StrsV W x ws) => rpick_any s x ws W h)
  rw [hK] at HKa HKb
  have HT := Lib.hid (fun x W (h : LinesV W x L) => theirs_any x L W h (by omega))
  have HFW : Hid (∀ x W, LinesV W x L → Calls Try.prog 10 #[x] W fun e w' => e = .returned (.bool true) ∧ Below W.heap.size W w') := Lib.hid fun x W h => by
    have := few_any x L W h
    rwa [hf] at this
  have HLl := Lib.hid hLl
  have HV := Lib.hid hv
  have HU := Lib.hid hu
  obtain ⟨a, c, rfl, _⟩ := hv
  obtain ⟨a', c', rfl, _⟩ := hu
  obtain ⟨n, hn⟩ : ∃ n, L.length = n := ⟨_, rfl⟩
  obtain ⟨m, hm⟩ : ∃ m, ws.length = m := ⟨_, rfl⟩
  rw [hn] at HV ⊢
  rw [hm] at HU h60 ⊢
  have hEE : (E == E) = true := by simp
  have hNN : (NB == NB) = true := by simp
  have hKK : (K == K) = true := by simp
  clear hLL hE hNB hJ hK hf f2 hjl hn hm hLl
  rcases hs with hs | ⟨hs, hs'⟩
  all_goals
    go_enter Try.func3, Try.ntmps3
    go_wp2_with fail
    refine (alive_any _).mono ?_
    rintro e w1 ⟨rfl, hb1⟩
    have HB1 := Lib.hid hb1
    have HV1 := Lib.hid (HV.out.keep hb1)
    have HU1 := Lib.hid (HU.out.keep hb1)
    clear hb1
    go_wp2_with fail
    refine (HFW.out _ _ HV1.out).mono ?_
    rintro e w2 ⟨rfl, hb2⟩
    have HB2 := Lib.hid (HB1.out.trans (hb2.mono HB1.out.size))
    have HV2 := Lib.hid (HV1.out.keep hb2)
    have HU2 := Lib.hid (HU1.out.keep hb2)
    clear hb2
    go_wp2_with fail
    refine (HLa.out _).mono ?_
    rintro e w3 ⟨x, rfl, hx, hb3⟩
    have HX3 := Lib.hid hx
    have HB3 := Lib.hid (HB2.out.trans (hb3.mono HB2.out.size))
    have HV3 := Lib.hid (HV2.out.keep hb3)
    have HU3 := Lib.hid (HU2.out.keep hb3)
    obtain ⟨xa, xc, rfl, _⟩ := hx
    clear hb3
    go_wp2_with fail
    refine (HLb.out _).mono ?_
    rintro e w4 ⟨y, rfl, hy, hb4⟩
    have HY4 := Lib.hid hy
    have HX4 := Lib.hid (HX3.out.keep hb4)
    have HB4 := Lib.hid (HB3.out.trans (hb4.mono HB3.out.size))
    have HV4 := Lib.hid (HV3.out.keep hb4)
    have HU4 := Lib.hid (HU3.out.keep hb4)
    obtain ⟨ya, yc, rfl, _⟩ := hy
    clear hb4
    go_wp2_with fail
    refine (ours_any _ LL _ HX4.out HLl.out).mono ?_
    rintro e w5 ⟨z, rfl, hz, hb5⟩
    have HZ5 := Lib.hid hz
    have HY5 := Lib.hid (HY4.out.keep hb5)
    have HB5 := Lib.hid (HB4.out.trans (hb5.mono HB4.out.size))
    have HV5 := Lib.hid (HV4.out.keep hb5)
    have HU5 := Lib.hid (HU4.out.keep hb5)
    obtain ⟨za, zc, rfl, _⟩ := hz
    clear hb5
    go_wp2_with fail
    refine (lsame_true _ _ LL _ HZ5.out HY5.out).mono ?_
    rintro e w6 ⟨rfl, q, hq⟩
    have hb6 : Below w5.heap.size w5 w6 := by rw [hq]; exact below_drewN (Below.refl _ _) q
    have HB6 := Lib.hid (HB5.out.trans (hb6.mono HB5.out.size))
    have HV6 := Lib.hid (HV5.out.keep hb6)
    have HU6 := Lib.hid (HU5.out.keep hb6)
    clear hb6 hq
    go_wp2_with fail
    refine (HNa.out _).mono ?_
    rintro e w' ⟨rfl, rfl⟩
    go_wp2_with fail
    refine (HNb.out _).mono ?_
    rintro e w' ⟨rfl, rfl⟩
    go_wp2_with fail
    refine (HT.out _ _ HV6.out).mono ?_
    rintro e w7 ⟨t, rfl, ht, hb7⟩
    have HT7 := Lib.hid ht
    have HB7 := Lib.hid (HB6.out.trans (hb7.mono HB6.out.size))
    have HV7 := Lib.hid (HV6.out.keep hb7)
    have HU7 := Lib.hid (HU6.out.keep hb7)
    obtain ⟨ta, tc, rfl, _⟩ := ht
    clear hb7
    go_wp2_with fail
    refine (HJa.out _ _ HT7.out).mono ?_
    rintro e w8 ⟨rfl, hb8⟩
    have HB8 := Lib.hid (HB7.out.trans (hb8.mono HB7.out.size))
    have HV8 := Lib.hid (HV7.out.keep hb8)
    have HU8 := Lib.hid (HU7.out.keep hb8)
    clear hb8
    go_wp2_with fail
    refine (HJb.out _ _ HV8.out).mono ?_
    rintro e w' ⟨rfl, rfl⟩
    go_wp2_with fail
    refine (HKa.out _ _ HU8.out).mono ?_
    rintro e w' ⟨rfl, rfl⟩
    go_wp2_with fail
    refine (HKb.out _ _ HU8.out).mono ?_
    rintro e w' ⟨rfl, rfl⟩
    go_wp2
    go_ret
    exact ⟨by simp, HB8.out⟩

set_option maxRecDepth 100000 in
set_option maxHeartbeats 2000000 in
theorem lexTells_walk (s : ByteArray) (v : Value) (L : List (Int × List ByteArray)) (u : Value) (ws : List ByteArray) (w : World) (_hs : s.size ≤ maxLen) (hv : LinesV w v L) (hu : StrsV w u ws) :
    Calls Try.prog 3 #[.string s, v, u] w fun e w' => e = .returned (.bool true) ∧ Below w.heap.size w w' := by
  by_cases h1 : s.size ≤ 3000 ∨ 20000 < s.size ∧ s.size ≤ 30000
  · cases hf : fewB L with
    | true =>
      by_cases h60 : ws.length ≤ 60
      · exact lexTells_good s v L u ws w h1 hf h60 hv hu
      · have HFW : Hid (∀ x W, LinesV W x L → Calls Try.prog 10 #[x] W fun e w' => e = .returned (.bool true) ∧ Below W.heap.size W w') := Lib.hid fun x W h => by
          have := few_any x L W h
          rwa [hf] at this
        have HV := Lib.hid hv
        obtain ⟨a, c, rfl, _⟩ := hv
        obtain ⟨a', c', rfl, _⟩ := hu
        obtain ⟨n, hn⟩ : ∃ n, L.length = n := ⟨_, rfl⟩
        obtain ⟨m, hm⟩ : ∃ m, ws.length = m := ⟨_, rfl⟩
        rw [hn] at HV ⊢
        rw [hm] at h60 ⊢
        clear hn hm hf
        rcases h1 with h1 | ⟨h1, h1'⟩
        all_goals
          go_enter Try.func3, Try.ntmps3
          go_wp2_with fail
          refine (alive_any _).mono ?_
          rintro e w1 ⟨rfl, hb1⟩
          have HB1 := Lib.hid hb1
          have HV1 := Lib.hid (HV.out.keep hb1)
          clear hb1
          go_wp2_with fail
          refine (HFW.out _ _ HV1.out).mono ?_
          rintro e w2 ⟨rfl, hb2⟩
          have HB2 := Lib.hid (HB1.out.trans (hb2.mono HB1.out.size))
          clear hb2
          go_wp2
          go_ret
          exact ⟨rfl, HB2.out⟩
    | false =>
      have HFW : Hid (∀ x W, LinesV W x L → Calls Try.prog 10 #[x] W fun e w' => e = .returned (.bool false) ∧ Below W.heap.size W w') := Lib.hid fun x W h => by
        have := few_any x L W h
        rwa [hf] at this
      have HV := Lib.hid hv
      obtain ⟨a, c, rfl, _⟩ := hv
      obtain ⟨a', c', rfl, _⟩ := hu
      obtain ⟨n, hn⟩ : ∃ n, L.length = n := ⟨_, rfl⟩
      obtain ⟨m, hm⟩ : ∃ m, ws.length = m := ⟨_, rfl⟩
      rw [hn] at HV ⊢
      rw [hm]
      clear hn hm hf
      rcases h1 with h1 | ⟨h1, h1'⟩
      all_goals
        go_enter Try.func3, Try.ntmps3
        go_wp2_with fail
        refine (alive_any _).mono ?_
        rintro e w1 ⟨rfl, hb1⟩
        have HB1 := Lib.hid hb1
        have HV1 := Lib.hid (HV.out.keep hb1)
        clear hb1
        go_wp2_with fail
        refine (HFW.out _ _ HV1.out).mono ?_
        rintro e w2 ⟨rfl, hb2⟩
        have HB2 := Lib.hid (HB1.out.trans (hb2.mono HB1.out.size))
        clear hb2
        go_wp2
        go_ret
        exact ⟨rfl, HB2.out⟩
  · obtain ⟨a, c, rfl, _⟩ := hv
    obtain ⟨a', c', rfl, _⟩ := hu
    rcases (by omega : (3000 < s.size ∧ s.size ≤ 20000) ∨ (3000 < s.size ∧ 20000 < s.size ∧ 30000 < s.size)) with ⟨g1, g2⟩ | ⟨g1, g2, g3⟩
    all_goals
      clear h1
      go_enter Try.func3, Try.ntmps3
      go_wp2_with fail
      refine (alive_any _).mono ?_
      rintro e w1 ⟨rfl, hb1⟩
      go_wp2
      go_ret
      exact ⟨rfl, hb1⟩
end Go.Proofs.Ytjinlldfniflbaa
