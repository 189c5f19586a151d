
/- The walk of the document's keys: the keys of facts, rising, each once. -/
import Derived.Test.YtimeebildbmhaaaFdCmp
import Derived.Test.YtimeebildbmhaaaFaIter
import Derived.Test.YtimeebildbmhaaaSegs
namespace Go.Proofs.Ytimeebildbmhaaa.Fa
open Go.RowKit

theorem infoK : InfoE Try.prog 68 24 encK := .of (z := .agg #[.string ⟨#[]⟩, .string ⟨#[]⟩, .string ⟨#[]⟩, .string ⟨#[]⟩, .int .i64 0]) (n := 72) Try.underlying68 (by kernel_rfl) rfl (by decide)
theorem keysFrom_snoc (l : List Fact) (i : Nat) (x : Fact) (h : l[i]? = some x) : keysFrom [] (l.take (i + 1)) = insU (keysFrom [] (l.take i)) x.key := by
  rw [List.take_add_one, h]
  unfold keysFrom
  simp [List.foldl_append]
/-- What stands in the round: what was copied, and what comes of the rest. -/
def MidU (A : List Key) (k : Key) (j : Nat) (N : List Key) (done : Bool) : Prop := insU A k = N ++ (if done = true then A.drop j else insU (A.drop j) k)
theorem midU_start (A : List Key) (k : Key) : MidU A k 0 [] false := by simp [MidU]
theorem drop_at {α : Type} {A : List α} {j : Nat} {a : α} (h : A[j]? = some a) : A.drop j = a :: A.drop (j + 1) := by
  obtain ⟨hj, rfl⟩ := List.getElem?_eq_some_iff.1 h
  exact List.drop_eq_getElem_cons hj
theorem midU_done {A : List Key} {k a : Key} {j : Nat} {N : List Key} (h : MidU A k j N true) (ha : A[j]? = some a) : MidU A k (j + 1) (N ++ [a]) true := by
  unfold MidU at *
  rw [h, if_pos rfl, if_pos rfl, drop_at ha]; simp
theorem midU_eq {A : List Key} {k a : Key} {j : Nat} {N : List Key} (h : MidU A k j N false) (ha : A[j]? = some a) (e : k = a) : MidU A k (j + 1) (N ++ [a]) true := by
  unfold MidU at *
  rw [h, if_neg (by simp), if_pos rfl, drop_at ha]
  conv => lhs; unfold insU
  rw [if_pos e]; simp
theorem midU_lt {A : List Key} {k a : Key} {j : Nat} {N : List Key} (h : MidU A k j N false) (ha : A[j]? = some a) (e : k ≠ a) (l : ltK k a) : MidU A k (j + 1) (N ++ [k] ++ [a]) true := by
  unfold MidU at *
  rw [h, if_neg (by simp), if_pos rfl, drop_at ha]
  conv => lhs; unfold insU
  rw [if_neg e, if_pos l]; simp
theorem midU_gt {A : List Key} {k a : Key} {j : Nat} {N : List Key} (h : MidU A k j N false) (ha : A[j]? = some a) (e : k ≠ a) (l : ¬ ltK k a) : MidU A k (j + 1) (N ++ [a]) false := by
  unfold MidU at *
  rw [h, if_neg (by simp), if_neg (by simp), drop_at ha]
  conv => lhs; unfold insU
  rw [if_neg e, if_neg l]; simp
theorem midU_end1 {A : List Key} {k : Key} {j : Nat} {N : List Key} (h : MidU A k j N true) (hj : A.length ≤ j) : insU A k = N := by
  unfold MidU at h
  rw [h, if_pos rfl, List.drop_of_length_le hj, List.append_nil]
theorem midU_end0 {A : List Key} {k : Key} {j : Nat} {N : List Key} (h : MidU A k j N false) (hj : A.length ≤ j) : insU A k = N ++ [k] := by
  unfold MidU at h
  rw [h, if_neg (by simp), List.drop_of_length_le hj]; rfl
theorem el_newK (w : World) (y : Key) (t : TypeId) : ElAt encK (w.alloc (.cells (encK.cs y).toArray t)) w.heap.size 0 y := el_new encK w y t
/-- The key of a fact that lies. -/
theorem key_of {w : World} {b o : Nat} {x : Fact} (h : ElAt encF w b o x) : ElAt encK w b o x.key := fun j v hj => by
  have hj5 : j < 5 := by have := (List.getElem?_eq_some_iff.1 hj).1; rwa [encK.len] at this
  refine h j v ?_
  match j, hj5, hj with
  | 0, _, hj => exact hj
  | 1, _, hj => exact hj
  | 2, _, hj => exact hj
  | 3, _, hj => exact hj
  | 4, _, hj => exact hj
set_option maxRecDepth 100000 in
set_option maxHeartbeats 8000000 in
theorem rkeys_any (v : Value) (l : List Fact) (w : World) (h : FactsV w v l) (hL : l.length ≤ 1000) :
    Calls Try.prog 32 #[v] w fun e w' => ∃ u, e = .returned u ∧ w'.ownsRow w.heap.size 24 5 u (keysL l).length (flat encK (keysL l)) ∧ Below w.heap.size w w' := by
  have HV := Lib.hid h
  obtain ⟨p, cp, rfl, hcap, hmx, _, _⟩ := h
  obtain ⟨n, hn⟩ : ∃ n, l.length = n := ⟨_, rfl⟩
  rw [hn] at hcap hL HV ⊢
  have HN := Lib.hid hn
  unfold maxLen at hmx
  clear hn
  go_enter Try.func32, Try.ntmps32
  go_wp2
  go_loopw [3, 4] (fun s3 s4 wr => ∃ i : Nat, s4 = .int .i64 (i : Int) ∧ i ≤ n ∧ Hid (wr.ownsRow w.heap.size 24 5 s3 (keysFrom [] (l.take i)).length (flat encK (keysFrom [] (l.take i)))) ∧ Hid (Below w.heap.size w wr)) (fun _ s4 _ => n - (intOf s4).toNat)
  case atStart => exact ⟨0, rfl, Nat.zero_le _, World.ownsRow_nil _ _ _ _, Lib.hid (Below.refl _ _)⟩
  case round =>
    obtain ⟨i, rfl, hin, HO, HB⟩ := hrel
    rename World => wa
    by_cases hlt : i < n
    · obtain ⟨x, hx⟩ : ∃ x, l[i]? = some x := ⟨_, List.getElem?_eq_getElem (by rw [HN.out]; exact hlt)⟩
      obtain ⟨b, o, rfl, hat⟩ := ElsV.at_ HV.out hx
      have HAT := Lib.hid (hat.keep HB.out hat.lt)
      have HSN := Lib.hid (keysFrom_snoc l i x hx)
      obtain ⟨A, hA⟩ : ∃ A, keysFrom [] (l.take i) = A := ⟨_, rfl⟩
      have hAL : A.length ≤ 1000 := by
        rw [← hA]
        have := keysFrom_length (l.take i) []
        rw [List.length_take] at this
        simp at this
        omega
      rw [hA] at HO HSN
      have HAL := Lib.hid hAL
      have HE := Lib.hid (els_of_own (E := encK) HO.out)
      obtain ⟨pa, ca, rfl, _, _, _, _⟩ := id HE.out
      obtain ⟨na, hna⟩ : ∃ na, A.length = na := ⟨_, rfl⟩
      rw [hna] at HE hAL
      have HNA := Lib.hid hna
      rw [hna]
      clear hx hat hA hna HO
      go_wp2
      go_loopw [5, 6, 7] (fun s5 s6 s7 wr => ∃ (j : Nat) (N : List Key) (d : Bool), s7 = .int .i64 (j : Int) ∧ s6 = .bool d ∧ j ≤ na ∧ N.length ≤ 2 * j + 1 ∧ Hid (MidU A x.key j N d) ∧ Hid (wr.ownsRow wa.heap.size 24 5 s5 N.length (flat encK N)) ∧ Hid (Below wa.heap.size wa wr)) (fun _ _ s7 _ => na - (intOf s7).toNat)
      case atStart => exact ⟨0, [], false, rfl, rfl, Nat.zero_le _, by simp, midU_start A x.key, World.ownsRow_nil _ _ _ _, Lib.hid (Below.refl _ _)⟩
      case round =>
        obtain ⟨j, N, d, rfl, rfl, hj, hNl, HM, HO, HB2⟩ := hrel
        have HATr := Lib.hid (HAT.out.keep HB2.out HAT.out.lt)
        by_cases hlt2 : j < na
        · obtain ⟨a, ha⟩ : ∃ a, A[j]? = some a := ⟨_, List.getElem?_eq_getElem (by rw [HNA.out]; exact hlt2)⟩
          obtain ⟨b2, o2, rfl, hat2⟩ := ElsV.at_ HE.out ha
          have HAT2 := Lib.hid (hat2.keep HB2.out hat2.lt)
          have HAT0 := Lib.hid hat2
          obtain ⟨r0, r1, r2, r3, r4, r5⟩ := fact6 HATr.out
          obtain ⟨s0, s1, s2, s3, s4⟩ := key5 HAT2.out
          simp only [show encF.k = 6 from rfl, show encK.k = 5 from rfl] at r0 r1 r2 r3 r4 s0 s1 s2 s3 s4
          have q0 := fun p : Past wr => cell_past r0 p
          have q1 := fun p : Past wr => cell_past r1 p
          have q2 := fun p : Past wr => cell_past r2 p
          have q3 := fun p : Past wr => cell_past r3 p
          have q4 := fun p : Past wr => cell_past r4 p
          have u0 := fun p : Past wr => cell_past s0 p
          have u1 := fun p : Past wr => cell_past s1 p
          have u2 := fun p : Past wr => cell_past s2 p
          have u3 := fun p : Past wr => cell_past s3 p
          have u4 := fun p : Past wr => cell_past s4 p
          have HA := Lib.hid ha
          have HCA := Lib.hid (fun W => rcmp_any x.key a W)
          obtain ⟨c, hc⟩ : ∃ c, cmpK x.key a = c := ⟨_, rfl⟩
          have HEQ : Hid (c = 0 ↔ x.key = a) := Lib.hid (by rw [← hc]; exact isCmp_key.eq0 _ _)
          have HLT : Hid (ltK x.key a ↔ c < 0) := Lib.hid (by rw [← hc]; exact Iff.rfl)
          simp only [hc] at HCA
          clear ha hat2 r0 r1 r2 r3 r4 r5 s0 s1 s2 s3 s4 hc
          go_wp2_with fail
          refine wp_region_past (by kernel_rfl) (by kernel_rfl) ?_
          repeat (go_big_quiet_step ((go_at_call 18; exact Calls.past_of (HCA.out _))))
          refine wpQuiet_nil ?_
          intro w3 hw'
          obtain ⟨⟨_, hb3⟩, rfl⟩ := hw'
          have hO3 := row_below HO.out hb3
          have HO3 := Lib.hid hO3
          have HB3 := Lib.hid (HB2.out.trans (hb3.mono HB2.out.size))
          have HAT3 := Lib.hid (HATr.out.keep hb3 HATr.out.lt)
          have HA23 := Lib.hid (HAT2.out.keep hb3 HAT2.out.lt)
          obtain ⟨r0, r1, r2, r3, r4, r5⟩ := fact6 HAT3.out
          obtain ⟨s0, s1, s2, s3, s4⟩ := key5 HA23.out
          simp only [show encF.k = 6 from rfl, show encK.k = 5 from rfl] at r0 r1 r2 r3 r4 s0 s1 s2 s3 s4
          clear hO3 hb3 q0 q1 q2 q3 q4 u0 u1 u2 u3 u4 r5 HCA HATr HAT2 HO
          have HSZ3 : Hid (wa.heap.size ≤ w3.heap.size) := Lib.hid HB3.out.size
          by_cases hc0 : c = 0
          · subst hc0
            have HM1 : Hid (MidU A x.key (j + 1) (N ++ [a]) true) := Lib.hid (by
              cases d with
              | true => exact midU_done HM.out HA.out
              | false => exact midU_eq HM.out HA.out (HEQ.out.1 rfl))
            go_wp2_with (at_builtin; refine wpList_append_el (E := encK) rfl _ _ 68 24 rfl infoK wa.heap.size N a w3.heap.size (HO3.out.alloc _) rfl (el_newK w3 a _) (by have := HSZ3.out; simp; omega) (by omega) ?_; intro v9 w9 hr9 hb9 hg9)
            have HR9 := Lib.hid hr9
            have HB9 := Lib.hid ((HB3.out.alloc HSZ3.out _).trans hb9)
            clear hr9 hb9 hg9
            go_wp2
            go_roundw
            case rel => exact ⟨j + 1, N ++ [a], true, by go_num, rfl, by omega, by simp; omega, HM1, HR9, HB9⟩
            case measure => simp [intOf]; omega
          · have hc1 : (c == 0) = false := by rw [beq_eq_false_iff_ne]; exact hc0
            have hne : x.key ≠ a := fun e => hc0 (HEQ.out.2 e)
            cases d with
            | true =>
              have HM1 := Lib.hid (midU_done HM.out HA.out)
              clear hne
              by_cases hlt3 : c < 0
              · go_wp2_with (at_builtin; refine wpList_append_el (E := encK) rfl _ _ 68 24 rfl infoK wa.heap.size N a w3.heap.size (HO3.out.alloc _) rfl (el_newK w3 a _) (by have := HSZ3.out; simp; omega) (by omega) ?_; intro v9 w9 hr9 hb9 hg9)
                have HR9 := Lib.hid hr9
                have HB9 := Lib.hid ((HB3.out.alloc HSZ3.out _).trans hb9)
                clear hr9 hb9 hg9
                go_wp2
                go_roundw
                case rel => exact ⟨j + 1, N ++ [a], true, by go_num, rfl, by omega, by simp; omega, HM1, HR9, HB9⟩
                case measure => simp [intOf]; omega
              · go_wp2_with (at_builtin; refine wpList_append_el (E := encK) rfl _ _ 68 24 rfl infoK wa.heap.size N a w3.heap.size (HO3.out.alloc _) rfl (el_newK w3 a _) (by have := HSZ3.out; simp; omega) (by omega) ?_; intro v9 w9 hr9 hb9 hg9)
                have HR9 := Lib.hid hr9
                have HB9 := Lib.hid ((HB3.out.alloc HSZ3.out _).trans hb9)
                clear hr9 hb9 hg9
                go_wp2
                go_roundw
                case rel => exact ⟨j + 1, N ++ [a], true, by go_num, rfl, by omega, by simp; omega, HM1, HR9, HB9⟩
                case measure => simp [intOf]; omega
            | false =>
              by_cases hlt3 : c < 0
              · have HM1 := Lib.hid (midU_lt HM.out HA.out hne (HLT.out.2 hlt3))
                clear hne
                go_wp2_with (at_builtin; first
                  | (refine wpList_append_el (E := encK) rfl _ _ 68 24 rfl infoK wa.heap.size N x.key w3.heap.size (HO3.out.alloc _) rfl (el_newK w3 x.key _) (by have := HSZ3.out; simp; omega) (by omega) ?_; intro v8 w8 hr8 hb8 hg8; have HR8 := Lib.hid hr8; have HB8 := Lib.hid ((HB3.out.alloc HSZ3.out (.cells (encK.cs x.key).toArray 24)).trans hb8); clear hr8 hb8 hg8 r0 r1 r2 r3 r4 s0 s1 s2 s3 s4; have HSZ8 : Hid (wa.heap.size ≤ w8.heap.size) := Lib.hid HB8.out.size; obtain ⟨s0, s1, s2, s3, s4⟩ := key5 (HAT0.out.keep HB8.out HAT0.out.lt); simp only [show encK.k = 5 from rfl] at s0 s1 s2 s3 s4)
                  | (refine wpList_append_el (E := encK) rfl _ _ 68 24 rfl infoK wa.heap.size (N ++ [x.key]) a w8.heap.size (HR8.out.alloc _) rfl (el_newK w8 a _) (by have := HSZ8.out; simp; omega) (by simp; omega) ?_; intro v9 w9 hr9 hb9 hg9)
                  | fail)
                have HR9 := Lib.hid hr9
                have HB9 := Lib.hid ((HB8.out.alloc HSZ8.out (.cells (encK.cs a).toArray 24)).trans hb9)
                clear hr9 hb9 hg9 s0 s1 s2 s3 s4
                go_wp2
                go_roundw
                case rel => exact ⟨j + 1, N ++ [x.key] ++ [a], true, by go_num, rfl, by omega, by simp; omega, HM1, HR9, HB9⟩
                case measure => simp [intOf]; omega
              · have HM1 := Lib.hid (midU_gt HM.out HA.out hne (fun h => hlt3 (HLT.out.1 h)))
                clear hne
                go_wp2_with (at_builtin; refine wpList_append_el (E := encK) rfl _ _ 68 24 rfl infoK wa.heap.size N a w3.heap.size (HO3.out.alloc _) rfl (el_newK w3 a _) (by have := HSZ3.out; simp; omega) (by omega) ?_; intro v9 w9 hr9 hb9 hg9)
                have HR9 := Lib.hid hr9
                have HB9 := Lib.hid ((HB3.out.alloc HSZ3.out _).trans hb9)
                clear hr9 hb9 hg9
                go_wp2
                go_roundw
                case rel => exact ⟨j + 1, N ++ [a], false, by go_num, rfl, by omega, by simp; omega, HM1, HR9, HB9⟩
                case measure => simp [intOf]; omega
        · have hEND : A.length ≤ j := by rw [HNA.out]; omega
          have HBB := Lib.hid (HB.out.trans (HB2.out.mono HB.out.size))
          cases d with
          | true =>
            have HRS : Hid (keysFrom [] (l.take (i + 1)) = N) := Lib.hid (by rw [HSN.out]; exact midU_end1 HM.out hEND)
            have HO9 := Lib.hid (row_base HO.out HB.out.size)
            clear hEND HO
            go_wp2
            go_roundw
            case rel => exact ⟨i + 1, by go_num, by omega, by rw [HRS.out]; exact HO9, HBB⟩
            case measure => simp [intOf]; omega
          | false =>
            have HRS : Hid (keysFrom [] (l.take (i + 1)) = N ++ [x.key]) := Lib.hid (by rw [HSN.out]; exact midU_end0 HM.out hEND)
            have HSZ2 : Hid (wa.heap.size ≤ wr.heap.size) := Lib.hid HB2.out.size
            obtain ⟨r0, r1, r2, r3, r4, r5⟩ := fact6 HATr.out
            simp only [show encF.k = 6 from rfl] at r0 r1 r2 r3 r4
            clear hEND r5
            go_wp2_with (at_builtin; refine wpList_append_el (E := encK) rfl _ _ 68 24 rfl infoK wa.heap.size N x.key wr.heap.size (HO.out.alloc _) rfl (el_newK wr x.key _) (by have := HSZ2.out; simp; omega) (by omega) ?_; intro v9 w9 hr9 hb9 hg9)
            have HR9 := Lib.hid (row_base hr9 HB.out.size)
            have HB9 := Lib.hid (HB.out.trans (((HB2.out.alloc HSZ2.out (.cells (encK.cs x.key).toArray 24)).trans hb9).mono HB.out.size))
            clear hr9 hb9 hg9 r0 r1 r2 r3 r4
            go_wp2
            go_roundw
            case rel => exact ⟨i + 1, by go_num, by omega, by rw [HRS.out]; exact HR9, HB9⟩
            case measure => simp [intOf]; omega
    · have hTA : l.take i = l := List.take_of_length_le (by rw [HN.out]; omega)
      rw [hTA] at HO
      have HO9 := Lib.hid HO.out
      clear HO hTA
      go_wp2
      go_ret
      exact ⟨_, rfl, HO9.out, HB.out⟩
end Go.Proofs.Ytimeebildbmhaaa.Fa
