
/- The walk of the function that byKey hands back: the keys with their amounts, one behind the other, each row of amounts just laid. -/
import Derived.Test.YtimeebildbmhaaaFaByKey
import Derived.Test.YtimeebildbmhaaaFaEql
import Derived.Test.YtimeebildbmhaaaRangeTold
import Derived.RangeFuncNested
import Derived.RangeFuncBound
import Derived.RangeFuncCalls
import Derived.RangeFuncLeaves
import Derived.Shelf.RegionOpen
import Derived.OwnWalkIn
import Derived.TacticsInMore
import Derived.LoopNIn
import Derived.LoopIn
import Derived.BigQuiet
namespace Go.Proofs.Ytimeebildbmhaaa.Fa
open Go.RowKit Go.Shelf
attribute [local go_sem] Oper.semAt_some

/-- A key with its amounts, as they are handed on. -/
structure GX where
  k : Key
  a : Option Addr
  c : Nat
  ns : List Int
def GX.grp (x : GX) : Key × List Int := (x.k, x.ns)
def encG (x : GX) : Array Value := #[aggK x.k, .slice x.a x.ns.length x.c]
/-- What the body is told: which group comes now, and how its amounts lie. -/
def RG (G : List (Key × List Int)) (pre : List GX) (x : GX) (W : World) : Prop := (∃ G', G = pre.map GX.grp ++ x.grp :: G') ∧ RowIs .i64 W x.a x.ns.length x.ns
/-- The variable at B, captured, holds a slice that reads as these facts; both lie from lo to hi. -/
def HasSI (lo hi : Nat) (W : World) (B : Nat) (S : List Fact) : Prop :=
  ∃ p c, W.cell? ⟨B, 0, none⟩ = some (.slice p S.length c) ∧ FactsV W (.slice p S.length c) S ∧ (∀ a, p = some a → lo ≤ a.block ∧ a.block < hi) ∧ lo ≤ B ∧ B < hi
/-- What lies from lo to hi lies as it lay. -/
def KpB (lo hi : Nat) (W W' : World) : Prop := W.heap.size ≤ W'.heap.size ∧ ∀ k, lo ≤ k → k < hi → W'.heap[k]? = W.heap[k]?
theorem HasSI.keep {lo hi B : Nat} {W W' : World} {S : List Fact} (h : HasSI lo hi W B S) (hk : KpB lo hi W W') : HasSI lo hi W' B S := by
  obtain ⟨p, c, h1, h2, h3, h4, h5⟩ := h
  have hcell : ∀ b o v, lo ≤ b → b < hi → W.cell? ⟨b, o, none⟩ = some v → W'.cell? ⟨b, o, none⟩ = some v := fun b o v hb1 hb2 hc => by
    rw [← hc]
    unfold World.cell?
    rw [hk.2 b hb1 hb2]
  refine ⟨p, c, hcell _ _ _ h4 h5 h1, ?_, h3, h4, h5⟩
  obtain ⟨p', c', e, k1, k2, k3, k4⟩ := h2
  cases e
  refine ⟨p, c, rfl, k1, k2, k3, fun i x hx => ?_⟩
  obtain ⟨b, o, e, hat⟩ := k4 i x hx
  obtain ⟨q1, q2⟩ := h3 _ e
  exact ⟨b, o, e, fun j v hj => hcell _ _ _ q1 q2 (hat j v hj)⟩
theorem kpB_below {lo hi B : Nat} {W W' : World} (h : Below B W W') (hB : hi ≤ B) : KpB lo hi W W' := ⟨h.size, fun k _ hk => h.block k (by omega)⟩
theorem kpB_trans {lo hi : Nat} {A B C : World} (h : KpB lo hi A B) (k : KpB lo hi B C) : KpB lo hi A C := ⟨Nat.le_trans h.1 k.1, fun i h1 h2 => (k.2 i h1 h2).trans (h.2 i h1 h2)⟩
/-- A group among the facts. -/
theorem flatG_append (A B : List (Key × List Int)) : flatG (A ++ B) = flatG A ++ flatG B := by simp [flatG]
theorem flatG_cons (g : Key × List Int) (B : List (Key × List Int)) : flatG (g :: B) = g.2.map (Fact.mk g.1) ++ flatG B := by simp [flatG]
theorem flatG_in {A B : List (Key × List Int)} {k : Key} {ns : List Int} {at_ q : Nat} (ha : (flatG A).length = at_) (h1 : at_ ≤ q) (h2 : q < at_ + ns.length) : ∃ x, ns[q - at_]? = some x ∧ (flatG (A ++ (k, ns) :: B))[q]? = some ⟨k, x⟩ := by
  have hq : q - at_ < ns.length := by omega
  refine ⟨ns[q - at_], List.getElem?_eq_getElem hq, ?_⟩
  rw [flatG_append, flatG_cons, List.getElem?_append_right (by omega), ha, List.getElem?_append_left (by simpa using hq), List.getElem?_map, List.getElem?_eq_getElem hq]
  rfl
theorem flatG_next {A B : List (Key × List Int)} {k : Key} {ns : List Int} {at_ : Nat} (hG : GrpsOk (A ++ (k, ns) :: B)) (ha : (flatG A).length = at_) {f : Fact} (hf : (flatG (A ++ (k, ns) :: B))[at_ + ns.length]? = some f) : f.key ≠ k := by
  rw [flatG_append, flatG_cons, List.getElem?_append_right (by omega), ha, List.getElem?_append_right (by simp)] at hf
  have hm := List.mem_of_getElem? hf
  unfold flatG at hm
  obtain ⟨g, hg, hm⟩ := List.mem_flatMap.1 hm
  obtain ⟨x, _, rfl⟩ := List.mem_map.1 hm
  have hr := (List.pairwise_append.1 hG.rise).2.1
  have := (List.pairwise_cons.1 hr).1 g hg
  exact fun e => ltK_ne this e.symm
theorem infoI : InfoE Try.prog 66 2 encI := .of (z := .int .i64 0) (n := 8) Try.underlying66 (by kernel_rfl) rfl (by decide)

theorem ElsV.at_ {α : Type} {E : Enc α} {w : World} {p : Option Addr} {n c : Nat} {L : List α} (h : ElsV E w (.slice p n c) L) {i : Nat} {x : α} (hx : L[i]? = some x) : ∃ b o, p = some ⟨b, o, none⟩ ∧ ElAt E w b (o + i * E.k) x := by
  obtain ⟨p', c', e, _, _, _, hc⟩ := h
  cases e
  exact hc i x hx
/-- What holds at the head of the iterator's loop. -/
def IterG (G : List (Key × List Int)) (lo hi B : Nat) (J : List GX → World → Prop) (s3 : Value) (wr : World) : Prop :=
  ∃ (pre : List GX) (G2 : List (Key × List Int)) (q : Nat), G = pre.map GX.grp ++ G2 ∧ (flatG (pre.map GX.grp)).length = q ∧ s3 = .int .i64 (q : Int) ∧ J pre wr ∧ HasSI lo hi wr B (flatG G) ∧ hi ≤ wr.heap.size
set_option maxRecDepth 100000 in
set_option maxHeartbeats 4000000 in
theorem iter_told (n : Nat) (hn : 1 ≤ n) (lo hi B : Nat) (G : List (Key × List Int)) (hG : GrpsOk G) (hlen : (flatG G).length ≤ 1000) (w : World) (hS : HasSI lo hi w B (flatG G)) (hhi : hi ≤ w.heap.size) :
    SeqTold Fence.wide n Try.prog 45 #[.pointer (some ⟨B, 0, none⟩)] encG (KpB lo hi) (RG G) (fun xs => xs.map GX.grp = G) (fun _ => True) w := by
  intro l J Jx W hW hJ hJx hY h0
  have HY := Lib.hid hY
  have HJ := Lib.hid hJ
  have HG := Lib.hid hG
  have hS0 := hS.keep (kpB_below hW hhi)
  have hhi0 : hi ≤ W.heap.size := Nat.le_trans hhi hW.size
  obtain ⟨N, hN⟩ : ∃ N, (flatG G).length = N := ⟨_, rfl⟩
  have HN := Lib.hid hN
  rw [hN] at hlen
  clear hY hJ hJx hG hS hhi hW hN
  refine callsIn_of_wp Try.func45 rfl trivial ?_ rfl
  simp only [Try.ntmps45, List.size_toArray, List.length_cons, List.length_nil, Nat.reduceAdd, Nat.reduceSub, Array.replicate_succ, Array.replicate_zero, List.push_toArray, List.append_toArray, List.nil_append, List.cons_append]
  gi_wp2
  gi_loopw [3] (fun s3 wr => IterG G lo hi B J s3 wr) (fun s3 _ => N - (intOf s3).toNat)
  case atStart => exact ⟨[], G, 0, rfl, rfl, rfl, h0, hS0, hhi0⟩
  case round =>
    obtain ⟨pre, G2, q, hG2, hq, rfl, hJs, hS1, hh1⟩ := hrel
    rename World => wa
    have HQ := Lib.hid hq
    have HG2 := Lib.hid hG2
    have HSI := Lib.hid hS1
    obtain ⟨p, c, hc1, hF, hp, hB1, hB2⟩ := hS1
    clear hq hS0 hhi0 h0 hG2
    cases G2 with
    | nil =>
      have hqn : q = N := by rw [← HQ.out, ← HN.out, HG2.out]; simp
      subst hqn
      rw [HN.out] at hc1
      gi_wp2
      go_end0
      exact ⟨⟨_, rfl⟩, .inl ⟨pre, by rw [HG2.out]; simp, hJs⟩⟩
    | cons g G3 =>
      obtain ⟨k, ns⟩ := g
      have has : 0 < ns.length := List.length_pos_iff.2 (HG.out.some (k, ns) (by rw [HG2.out]; simp))
      have hmore : q < N := by rw [← HN.out, HG2.out, flatG_append, flatG_cons]; simp; rw [HQ.out]; omega
      obtain ⟨x0, _, hx0⟩ := flatG_in (B := G3) (k := k) (ns := ns) HQ.out (Nat.le_refl q) (by omega)
      rw [← HG2.out] at hx0
      obtain ⟨b, o, rfl, hat0⟩ := ElsV.at_ hF hx0
      obtain ⟨r0, r1, r2, r3, r4, r5⟩ := fact6 hat0
      rw [HN.out] at hc1 hF
      have HF0 := Lib.hid hF
      clear hat0 hx0 hF r5
      simp only [show encF.k = 6 from rfl] at r0 r1 r2 r3 r4
      gi_wp2_with fail
      obtain ⟨W1, hW1⟩ : ∃ W1, wa.alloc (.cells #[.string k.e, .string k.a, .string k.f, .string k.p, .int .i64 k.m] 40) = W1 := ⟨_, rfl⟩
      rw [hW1]
      have HX : Hid (BoxE encK W1 wa.heap.size 40 k) := Lib.hid (by rw [← hW1]; exact BoxE.new encK wa k 40)
      have HB1 : Hid (Below wa.heap.size wa W1) := Lib.hid (by rw [← hW1]; exact (Below.refl _ wa).alloc (Nat.le_refl _) _)
      have HS1 : Hid (W1.heap.size = wa.heap.size + 1) := Lib.hid (by rw [← hW1, World.size_alloc])
      have HP := Lib.hid hp
      have HC1 := Lib.hid hc1
      have HIN := Lib.hid hB2
      have HJS := Lib.hid hJs
      clear hW1 r0 r1 r2 r3 r4 hp hc1 hB1 hB2 hJs
      have HSZ := Lib.hid hh1
      refine wpIn_wide.2 ?_
      go_loopw [3, 5] (fun s3 s5 wr => ∃ j : Nat, s3 = .int .i64 (j : Int) ∧ q ≤ j ∧ j ≤ q + ns.length ∧ Hid (wr.ownsRow (wa.heap.size + 1) 2 1 s5 (ns.take (j - q)).length (flat encI (ns.take (j - q)))) ∧ Hid (Below (wa.heap.size + 1) W1 wr)) (fun s3 _ _ => N - (intOf s3).toNat)
      case atStart => exact ⟨q, rfl, Nat.le_refl _, Nat.le_add_right _ _, by rw [Nat.sub_self]; exact World.ownsRow_nil _ _ _ _, Lib.hid (Below.refl _ _)⟩
      case round =>
        obtain ⟨j, rfl, hj1, hj2, HO, HBW⟩ := hrel
        have HBW2 := Lib.hid (HB1.out.trans (HBW.out.mono (Nat.le_succ _)))
        have hcb : wr.cell? ⟨B, 0, none⟩ = some (.slice (some ⟨b, o, none⟩) N c) := (HBW2.out.cell (p := ⟨B, 0, none⟩) (by show B < wa.heap.size; have := HIN.out; have := HSZ.out; omega)).trans HC1.out
        obtain ⟨k0, k1, k2, k3, k4⟩ := key5 (HX.out.at0.keep HBW.out (Nat.lt_succ_self _))
        simp only [Nat.zero_add] at k0 k1 k2 k3 k4
        have gk := guard_key
        by_cases hlt : j < q + ns.length
        · obtain ⟨x, hx, hfx⟩ := flatG_in (B := G3) (k := k) (ns := ns) HQ.out hj1 hlt
          rw [← HG2.out] at hfx
          obtain ⟨b', o', e, hat⟩ := ElsV.at_ HF0.out hfx
          cases e
          have hjN : j < N := by rw [← HN.out]; exact (List.getElem?_eq_some_iff.1 hfx).1
          obtain ⟨r0, r1, r2, r3, r4, r5⟩ := fact6 (hat.keep HBW2.out hat.lt)
          simp only [show encF.k = 6 from rfl] at r0 r1 r2 r3 r4 r5
          have htk : ns.take (j + 1 - q) = ns.take (j - q) ++ [x] := by
            rw [show j + 1 - q = (j - q) + 1 by omega, List.take_add_one, hx]; rfl
          have HTK := Lib.hid htk
          have hq : ∀ W, Sem.run Try.prog (binOp .eql 40 (aggK k) (aggK k)) W = .ok (.bool true) W := fun W => by rw [eql_key]; simp [eqK]
          have hd : decide ((j : Int) < (N : Int)) = true := decide_eq_true (by omega)
          have hjz : (j : Int) < (N : Int) := by omega
          clear hfx hat hx htk
          go_wp2_with fail
          go_big_quiet (fail)
          have hcb2 : (wr.drewN nq).cell? ⟨B, 0, none⟩ = some (.slice (some ⟨b, o, none⟩) N c) := hcb
          have r52 : (wr.drewN nq).cell? ⟨b, o + j * 6 + 5, none⟩ = some (.int .i64 x) := r5
          have HO2 : Hid ((wr.drewN nq).ownsRow (wa.heap.size + 1) 2 1 u5 (ns.take (j - q)).length (flat encI (ns.take (j - q)))) := HO
          have HBW3 : Hid (Below (wa.heap.size + 1) W1 (wr.drewN nq)) := Lib.hid (belowN HBW.out nq)
          clear hcb r0 r1 r2 r3 r4 r5 HO HBW HBW2 k0 k1 k2 k3 k4 hq gk
          generalize wr.drewN nq = w2 at *
          go_wp2_with (at_builtin; refine wpList_append_el (E := encI) rfl _ _ 66 2 rfl infoI (wa.heap.size + 1) (ns.take (j - q)) x w2.heap.size (HO2.out.alloc _) rfl (el_new encI w2 x _) (by have := HBW3.out.size; have := HS1.out; simp; omega) (by simp; omega) ?_; intro v9 w9 hr9 hb9 hg9)
          have HR9 : Hid (w9.ownsRow (wa.heap.size + 1) 2 1 v9 (ns.take (j + 1 - q)).length (flat encI (ns.take (j + 1 - q)))) := Lib.hid (by rw [HTK.out]; exact hr9)
          have HB9 : Hid (Below (wa.heap.size + 1) W1 w9) := Lib.hid ((HBW3.out.trans (((Below.refl w2.heap.size w2).alloc (Nat.le_refl _) _).mono (by have := HBW3.out.size; have := HS1.out; omega))).trans hb9)
          clear hr9 hb9 hg9
          go_wp2
          go_roundw
          case rel => exact ⟨j + 1, by go_num, by omega, by omega, HR9, HB9⟩
          case measure => simp [intOf]; omega
        · obtain rfl : j = q + ns.length := by omega
          have htk : ns.take (q + ns.length - q) = ns := by rw [Nat.add_sub_cancel_left, List.take_length]
          rw [htk] at HO
          have hE := els_of_own (E := encI) HO.out
          obtain ⟨p9, c9, e9, _⟩ := id hE
          have HE := Lib.hid hE
          subst e9
          have hc9 : (q : Int) + (ns.length : Int) = ((q + ns.length : Nat) : Int) := by omega
          by_cases hjN : q + ns.length < N
          · obtain ⟨f, hf⟩ : ∃ f, (flatG G)[q + ns.length]? = some f := ⟨_, List.getElem?_eq_getElem (by rw [HN.out]; exact hjN)⟩
            obtain ⟨b', o', e, hat⟩ := ElsV.at_ HF0.out hf
            cases e
            have hne : f.key ≠ k := by rw [HG2.out] at hf; exact flatG_next (by rw [← HG2.out]; exact HG.out) HQ.out hf
            obtain ⟨r0, r1, r2, r3, r4, r5⟩ := fact6 (hat.keep HBW2.out hat.lt)
            obtain ⟨j, hj⟩ : ∃ j, q + ns.length = j := ⟨_, rfl⟩
            have HJJ := Lib.hid hj
            rw [hj] at r0 r1 r2 r3 r4 hjN hf ⊢
            clear hj
            simp only [show encF.k = 6 from rfl] at r0 r1 r2 r3 r4
            have hq : ∀ W, Sem.run Try.prog (binOp .eql 40 (aggK f.key) (aggK k)) W = .ok (.bool false) W := fun W => by rw [eql_key]; simp [eqK, hne]
            have hd : decide ((j : Int) < (N : Int)) = true := decide_eq_true (by omega)
            have hjz : (j : Int) < (N : Int) := by omega
            clear hf hat r5 hne
            go_wp2_with fail
            go_big_quiet (fail)
            go_wp2_with fail
            clear hq hd hjz r0 r1 r2 r3 r4
            have HE2 : Hid (ElsV encI (wr.drewN nq) (.slice p9 ns.length c9) ns) := HE
            have HBW4 : Hid (Below wa.heap.size wa (wr.drewN nq)) := Lib.hid (belowN HBW2.out nq)
            have k02 : (wr.drewN nq).cell? ⟨wa.heap.size, 0, none⟩ = some (.string k.e) := k0
            have k12 : (wr.drewN nq).cell? ⟨wa.heap.size, 1, none⟩ = some (.string k.a) := k1
            have k22 : (wr.drewN nq).cell? ⟨wa.heap.size, 2, none⟩ = some (.string k.f) := k2
            have k32 : (wr.drewN nq).cell? ⟨wa.heap.size, 3, none⟩ = some (.string k.p) := k3
            have k42 : (wr.drewN nq).cell? ⟨wa.heap.size, 4, none⟩ = some (.int .i64 k.m) := k4
            clear hcb HE HBW HBW2 HO k0 k1 k2 k3 k4 gk
            generalize wr.drewN nq = w2 at *
            obtain ⟨fn, tmps, assign, body, hy, hR⟩ := HY.out pre ⟨k, p9, c9, ns⟩ w2 (HJ.out pre wa w2 HJS.out HBW4.out) ⟨⟨G3, HG2.out⟩, rowIs_els HE2.out⟩
            unfold encG at hy
            gi_wp2
            refine hR.mono ?_
            rintro e W3 (⟨rfl, hJ3, hk3⟩ | ⟨rfl, hJx3⟩)
            · gi_wp2
              go_roundw
              case rel => exact ⟨pre ++ [⟨k, p9, c9, ns⟩], G3, j, by rw [HG2.out]; simp [GX.grp], by rw [List.map_append, flatG_append, List.length_append, HQ.out, ← HJJ.out]; simp [flatG, GX.grp], rfl, hJ3, (HSI.out.keep (kpB_below HBW4.out HSZ.out)).keep hk3, Nat.le_trans (Nat.le_trans HSZ.out HBW4.out.size) hk3.1⟩
              case measure => simp [intOf]; have := HJJ.out; omega
            · gi_wp2
              refine bodyPost_ret (results_none rfl _ _ _) rfl ?_
              exact ⟨⟨_, rfl⟩, .inr ⟨_, trivial, hJx3⟩⟩
          · obtain ⟨j, hj⟩ : ∃ j, q + ns.length = j := ⟨_, rfl⟩
            have HJJ := Lib.hid hj
            rw [hj] at hjN ⊢
            have hd : decide ((j : Int) < (N : Int)) = false := decide_eq_false (by omega)
            have hjz : ¬ (j : Int) < (N : Int) := by omega
            clear hj
            go_wp2_with fail
            go_big_quiet (fail)
            go_wp2_with fail
            clear hd hjz
            have HE2 : Hid (ElsV encI (wr.drewN nq) (.slice p9 ns.length c9) ns) := HE
            have HBW4 : Hid (Below wa.heap.size wa (wr.drewN nq)) := Lib.hid (belowN HBW2.out nq)
            have k02 : (wr.drewN nq).cell? ⟨wa.heap.size, 0, none⟩ = some (.string k.e) := k0
            have k12 : (wr.drewN nq).cell? ⟨wa.heap.size, 1, none⟩ = some (.string k.a) := k1
            have k22 : (wr.drewN nq).cell? ⟨wa.heap.size, 2, none⟩ = some (.string k.f) := k2
            have k32 : (wr.drewN nq).cell? ⟨wa.heap.size, 3, none⟩ = some (.string k.p) := k3
            have k42 : (wr.drewN nq).cell? ⟨wa.heap.size, 4, none⟩ = some (.int .i64 k.m) := k4
            clear hcb HE HBW HBW2 HO k0 k1 k2 k3 k4 gk
            generalize wr.drewN nq = w2 at *
            obtain ⟨fn, tmps, assign, body, hy, hR⟩ := HY.out pre ⟨k, p9, c9, ns⟩ w2 (HJ.out pre wa w2 HJS.out HBW4.out) ⟨⟨G3, HG2.out⟩, rowIs_els HE2.out⟩
            unfold encG at hy
            gi_wp2
            refine hR.mono ?_
            rintro e W3 (⟨rfl, hJ3, hk3⟩ | ⟨rfl, hJx3⟩)
            · gi_wp2
              go_roundw
              case rel => exact ⟨pre ++ [⟨k, p9, c9, ns⟩], G3, j, by rw [HG2.out]; simp [GX.grp], by rw [List.map_append, flatG_append, List.length_append, HQ.out, ← HJJ.out]; simp [flatG, GX.grp], rfl, hJ3, (HSI.out.keep (kpB_below HBW4.out HSZ.out)).keep hk3, Nat.le_trans (Nat.le_trans HSZ.out HBW4.out.size) hk3.1⟩
              case measure => simp [intOf]; have := HJJ.out; omega
            · gi_wp2
              refine bodyPost_ret (results_none rfl _ _ _) rfl ?_
              exact ⟨⟨_, rfl⟩, .inr ⟨_, trivial, hJx3⟩⟩
end Go.Proofs.Ytimeebildbmhaaa.Fa
