
/- The walk of fact.Of: what comes of the groups, or the first error; memory that was there stays. -/
import Derived.Test.YtimeebildbmhaaaFaIter
import Derived.Test.YtimeebildbmhaaaCentSum
namespace Go.Proofs.Ytimeebildbmhaaa.Fa
open Go.RowKit Go.Shelf
attribute [local go_sem] Oper.semAt_some

/-- What has come of groups that fit. -/
def accG (A : List (Key × List Int)) : List Fact := A.flatMap fun g => putF g.1 (sumFrom 0 g.2).1
def okG (A : List (Key × List Int)) : Prop := ∀ g ∈ A, (sumFrom 0 g.2).2 = 0
theorem run_acc (A B : List (Key × List Int)) (h : okG A) : runG (A ++ B) = appG (accG A) (runG B) := by
  have key : ∀ (A B : List (Key × List Int)) (c : List Fact), okG A → appG c (runG (A ++ B)) = appG (c ++ accG A) (runG B) := by
    intro A
    induction A with
    | nil => intro B c _; simp [accG]
    | cons g A ih =>
      intro B c h
      rw [List.cons_append, appG_yes c g (A ++ B) (h g (List.mem_cons_self ..)), ih B _ fun x hx => h x (List.mem_cons_of_mem _ hx)]
      simp [accG]
  have := key A B [] h
  rwa [appG_none, List.nil_append] at this
theorem run_end (A : List (Key × List Int)) (h : okG A) : runG A = (accG A, 0) := by
  have := run_acc A [] h
  rw [List.append_nil] at this
  rw [this]; simp [runG, appG]
theorem run_err (A B : List (Key × List Int)) (g : Key × List Int) (h : okG A) (he : (sumFrom 0 g.2).2 ≠ 0) : runG (A ++ g :: B) = ([], (sumFrom 0 g.2).2) := by rw [run_acc A _ h, appG_no _ _ _ he]
theorem acc_snoc (A : List (Key × List Int)) (g : Key × List Int) : accG (A ++ [g]) = accG A ++ putF g.1 (sumFrom 0 g.2).1 := by simp [accG]
theorem ok_snoc {A : List (Key × List Int)} {g : Key × List Int} (h : okG A) (hg : (sumFrom 0 g.2).2 = 0) : okG (A ++ [g]) := by
  intro x hx
  rcases List.mem_append.1 hx with hx | hx
  · exact h x hx
  · simp at hx; subst hx; exact hg
theorem acc_length (A : List (Key × List Int)) : (accG A).length ≤ A.length := by
  induction A with
  | nil => simp [accG]
  | cons g A ih =>
    have : accG (g :: A) = putF g.1 (sumFrom 0 g.2).1 ++ accG A := by simp [accG]
    rw [this, List.length_append, List.length_cons]
    have : (putF g.1 (sumFrom 0 g.2).1).length ≤ 1 := by unfold putF; split <;> simp
    omega
theorem grps_length (L : List Fact) : (grps L).length ≤ L.length := by unfold grps; rw [List.length_map]; exact keys_length L
theorem grps_in64 {L : List Fact} (hz : ∀ f ∈ L, In64 f.amt) : ∀ g ∈ grps L, ∀ x ∈ g.2, In64 x := by
  intro g hg x hx
  unfold grps at hg
  obtain ⟨k, _, rfl⟩ := List.mem_map.1 hg
  unfold amts at hx
  obtain ⟨f, hf, rfl⟩ := List.mem_map.1 hx
  exact hz f (List.mem_filter.1 hf).1
theorem flat_grps_length (L : List Fact) : (flatG (grps L)).length = L.length := by
  rw [← sorted_flat]
  unfold sortedL
  have key : ∀ (K : List Key), Rise K → ∀ L : List Fact, (K.flatMap fun k => L.filter fun f => decide (f.key = k)).length = (L.filter fun f => decide (f.key ∈ K)).length := by
    intro K
    induction K with
    | nil => intro _ L; rw [List.filter_eq_nil_iff.2 (by simp)]; rfl
    | cons k K ih =>
      intro h L
      obtain ⟨h1, h2⟩ := List.pairwise_cons.1 h
      rw [List.flatMap_cons, List.length_append, ih h2 L]
      clear ih
      induction L with
      | nil => rfl
      | cons f L ihL =>
        by_cases e : f.key = k
        · have hn : f.key ∉ K := fun hm => ltK_ne (h1 _ hm) e.symm
          simp only [List.filter_cons, e, decide_true, if_true, List.mem_cons, true_or] at ihL ⊢
          rw [e] at hn
          simp only [hn, decide_false, Bool.false_eq_true, if_false, List.length_cons]
          omega
        · by_cases hm : f.key ∈ K
          · simp only [List.filter_cons, e, hm, decide_false, decide_true, Bool.false_eq_true, if_false, if_true, List.mem_cons, false_or, List.length_cons] at ihL ⊢
            omega
          · simp only [List.filter_cons, e, hm, decide_false, Bool.false_eq_true, if_false, List.mem_cons, or_self] at ihL ⊢
            exact ihL
  rw [key _ (rise_keys L) L, List.filter_eq_self.2 fun f hf => decide_eq_true (mem_keys.2 ⟨f, hf, rfl⟩)]

theorem kept3 {W4 w9 : World} {B1 C : Nat} {t : TypeId} {u v9 v' : Value} {o : Obj} (h : Boxed W4 B1 t u) (hg : (W4.alloc o).grownBy w9 v'.ownBlock) (hn : some B1 ≠ v'.ownBlock) (hne : B1 ≠ C) : Boxed (w9.setCell ⟨C, 0, none⟩ v9) B1 t u := ((h.alloc o).kept hg hn).kept (grownBy_setCell' w9 C v9) (by simp [hne])
theorem row_ge {W : World} {B k : Nat} {e : TypeId} {s n : Nat} {v : Value} {xs : List Value} (h : W.ownsRow B e s v n xs) (hk : k < B) : some k ≠ v.ownBlock := by
  rcases h.2 with ⟨rfl, _⟩ | ⟨g, cap, cur, rfl, hg, _⟩
  · simp [Value.ownBlock]
  · simp [Value.ownBlock]; omega
/-- What Of hands back. -/
def CubeTold (w : World) (x : List Fact × Int) (e : Ending) (w' : World) : Prop :=
  ∃ u, e = .returned (.tuple #[u, .int .i64 x.2]) ∧ FactsV w' u x.1 ∧ Below w.heap.size w w'
/-- Between two rounds. -/
def OfI (n0 hi : Nat) (pre : List GX) (W : World) : Prop :=
  (∃ v, Boxed W (n0 + 1 + 1) 30 v ∧ W.ownsRow hi 60 6 v (accG (pre.map GX.grp)).length (flat encF (accG (pre.map GX.grp)))) ∧ Boxed W n0 30 (.slice none 0 0) ∧ Boxed W (n0 + 1) 31 (.int .i64 0) ∧ okG (pre.map GX.grp) ∧ hi ≤ W.heap.size
theorem ofI_own (n0 hi : Nat) : Own (OfI n0 hi) := by
  rintro s X Y row ⟨⟨v, hv, hr⟩, h1, h2, h3, h4⟩ hg hrow
  have hb : ∀ {B : Nat} {t : TypeId} {u : Value}, Boxed X B t u → some B ≠ row := fun {B t u} hu e' => by
    obtain ⟨o, ho, hc⟩ := hrow _ e'.symm
    rw [show X.heap[B]? = _ from hu] at ho; cases ho; cases hc
  exact ⟨⟨v, hv.kept hg (hb hv), row_uncells hr hg hrow⟩, h1.kept hg (hb h1), h2.kept hg (hb h2), h3, Nat.le_trans h4 hg.size⟩
/-- Behind an error. -/
def OfX (n0 : Nat) (e : Int) (c : Code) (_ : List GX) (W : World) : Prop := c = .ret ∧ Boxed W n0 30 (.slice none 0 0) ∧ Boxed W (n0 + 1) 31 (.int .i64 e)
theorem ofX_own (n0 : Nat) (e : Int) (c : Code) : Own (OfX n0 e c) := by
  rintro s X Y row ⟨h0, h1, h2⟩ hg hrow
  have hb : ∀ {B : Nat} {t : TypeId} {u : Value}, Boxed X B t u → some B ≠ row := fun {B t u} hu e' => by
    obtain ⟨o, ho, hc⟩ := hrow _ e'.symm
    rw [show X.heap[B]? = _ from hu] at ho; cases ho; cases hc
  exact ⟨h0, h1.kept hg (hb h1), h2.kept hg (hb h2)⟩
theorem cell_putObj {W : World} {l : Nat} {o o' : Obj} (hl : W.heap[l]? = some o) (ho : o.isCells = false) {b i : Nat} {v : Value} (h : W.cell? ⟨b, i, none⟩ = some v) : (W.putObj l o').cell? ⟨b, i, none⟩ = some v := by
  refine (grownBy_putObj' W l o').cell h (fun e => ?_)
  cases e
  unfold World.cell? at h
  rw [hl] at h
  cases o <;> first | (simp at h; done) | (cases ho; done)
theorem boxed_putObj {W : World} {l : Nat} {o o' : Obj} (hl : W.heap[l]? = some o) (ho : o.isCells = false) {B : Nat} {t : TypeId} {u : Value} (h : Boxed W B t u) : Boxed (W.putObj l o') B t u := by
  refine h.kept (grownBy_putObj' W l o') fun e => ?_
  cases e
  rw [show W.heap[l]? = _ from h] at hl
  cases hl
  simp [Obj.isCells] at ho
theorem row_putObj {W : World} {l : Nat} {o o' : Obj} (hl : W.heap[l]? = some o) (ho : o.isCells = false) {p : Option Addr} {n : Nat} {ns : List Int} (h : RowIs .i64 W p n ns) : RowIs .i64 (W.putObj l o') p n ns :=
  ⟨h.len, h.max, fun i hi => by
    obtain ⟨b, o1, e, hc⟩ := h.cell i hi
    exact ⟨b, o1, e, cell_putObj hl ho hc⟩⟩
theorem wpListIn_append_el {F : Fence} {n : Nat} {α : Type} {E : Enc α} {P : Program} {ops : Array Oper} {rest : List Oper} {o : Oper} {a : Act} {w : World} {Q : Exit → Act → World → Prop} (hgd : o.guard = none) (s x : Operand) (t e : TypeId) (ho : o.op = .call { callee := .builtin .append, args := #[s, x], argTypes := #[t, t] }) (HI : InfoE P t e E)
    (B : Nat) (L : List α) (y : α) (g : Nat) (hrow : w.ownsRow B e E.k (a.eval s) L.length (flat E L)) (hx : a.eval x = .slice (some ⟨g, 0, none⟩) 1 1) (hc : ElAt E w g 0 y) (hB : B ≤ w.heap.size) (hL : L.length ≤ 1000000)
    (h : ∀ v' w', w'.ownsRow B e E.k v' (L ++ [y]).length (flat E (L ++ [y])) → w.grownBy w' (a.eval s).ownBlock → wpListIn F n P ops Q rest (a.put o.dst v') w') : wpListIn F n P ops Q (o :: rest) a w := by
  obtain ⟨i, z, m, hi, hz, hs, hn, hzs, hb⟩ := HI.info
  refine wpListIn_append_own w hgd s x t ho B e i z E.k m HI.under hi hz hs hn hzs E.pos _ _ _ rfl hrow ⟨g, 0, none⟩ 1 1 (E.cs y) hx (by rw [E.len, Nat.one_mul]) (fun j u hj => by rw [add_off]; exact hc j u hj) (E.one y) (by unfold maxLen; omega) ?_ hB ?_
  · exact Nat.le_trans (Nat.mul_le_mul (Nat.add_le_add_right hL 1) hb) (by decide)
  · intro v' w' h1 h2 _
    exact h v' w' (by rw [flat_append, flat_one, List.length_append]; exact h1) h2
theorem infoF : InfoE Try.prog 30 60 encF := .of (z := .agg #[.string ⟨#[]⟩, .string ⟨#[]⟩, .string ⟨#[]⟩, .string ⟨#[]⟩, .int .i64 0, .int .i64 0]) (n := 80) Try.underlying30 (by kernel_rfl) rfl (by decide)
set_option maxRecDepth 100000 in
set_option maxHeartbeats 4000000 in
theorem of_any (v : Value) (L : List Fact) (w : World) (h : FactsV w v L) (hz : ∀ f ∈ L, In64 f.amt) (hL : L.length ≤ 1000) :
    Calls Try.prog 12 #[v] w (CubeTold w (ofL L)) := by
  obtain ⟨W1, hW1⟩ : ∃ W1, ((w.alloc (.cells #[.slice none 0 0] 30)).alloc (.cells #[.int .i64 0] 31)).alloc (.cells #[.slice none 0 0] 30) = W1 := ⟨_, rfl⟩
  have HB1 : Hid (Below w.heap.size w W1) := Lib.hid (by rw [← hW1]; exact (((Below.refl _ w).alloc (Nat.le_refl _) _).alloc (by simp) _).alloc (by simp; omega) _)
  have HN1 : Hid (W1.heap.size = w.heap.size + 3) := Lib.hid (by rw [← hW1]; simp)
  have HR1 : Hid (Boxed W1 w.heap.size 30 (.slice none 0 0)) := Lib.hid (by rw [← hW1]; exact ((Boxed.new w _ _).alloc _).alloc _)
  have HR2 : Hid (Boxed W1 (w.heap.size + 1) 31 (.int .i64 0)) := Lib.hid (by
    rw [← hW1]
    have := Boxed.new (w.alloc (.cells #[.slice none 0 0] 30)) 31 (.int .i64 0)
    rw [World.size_alloc] at this
    exact this.alloc _)
  have HRC : Hid (Boxed W1 (w.heap.size + 1 + 1) 30 (.slice none 0 0)) := Lib.hid (by
    rw [← hW1]
    have := Boxed.new ((w.alloc (.cells #[.slice none 0 0] 30)).alloc (.cells #[.int .i64 0] 31)) 30 (.slice none 0 0)
    rw [World.size_alloc, World.size_alloc] at this
    exact this)
  have HK := Lib.hid (byKey_any v L W1 (h.keep HB1.out) hL)
  have HZ := Lib.hid (grps_in64 hz)
  have hlen := flat_grps_length L
  rw [← hlen] at hL
  have HGL : Hid ((grps L).length ≤ 1000) := Lib.hid (Nat.le_trans (grps_length L) (by omega))
  have HL := Lib.hid hL
  obtain ⟨R, hR⟩ : ∃ R, ofL L = R := ⟨_, rfl⟩
  have HR := Lib.hid (show runG (grps L) = R from hR)
  rw [hR]
  clear h hz hL hlen hR
  refine (callsIn_wide (n := 3)).1 ?_
  refine callsIn_of_wp_marks Try.func12 rfl trivial ?_ rfl
  simp only [Try.ntmps12, List.size_toArray, List.length_cons, List.length_nil, Nat.reduceAdd, Nat.reduceSub, Array.replicate_succ, Array.replicate_zero, List.push_toArray, List.append_toArray, List.nil_append, List.cons_append]
  gi_wp2_with (refine ⟨trivial, ?_⟩; gi_at_call 30; refine (callsIn_wide.2 HK.out).mono ?_; rintro e w2 ⟨B, rfl, hS, hb2⟩)
  have hS' : HasSI W1.heap.size w2.heap.size w2 B (flatG (grps L)) := by rw [← sorted_flat]; exact hS
  have HB2 : Hid (Below w.heap.size w w2) := Lib.hid (HB1.out.trans (hb2.mono HB1.out.size))
  have HC2 : Hid (Boxed w2 (w.heap.size + 1 + 1) 30 (.slice none 0 0)) := Lib.hid (boxed_below HRC.out hb2)
  have H12 : Hid (Boxed w2 w.heap.size 30 (.slice none 0 0)) := Lib.hid (boxed_below HR1.out hb2)
  have H22 : Hid (Boxed w2 (w.heap.size + 1) 31 (.int .i64 0)) := Lib.hid (boxed_below HR2.out hb2)
  have HSZ : Hid (W1.heap.size ≤ w2.heap.size) := Lib.hid hb2.size
  clear hS hb2
  refine wpIn_rangeFunc_told rfl (by decide) (gf := 45) (lb := #[.pointer (some ⟨B, 0, none⟩)]) rfl trivial (enters_of Try.func45 (by kernel_rfl) rfl)
    (iter_told 2 (by decide) W1.heap.size w2.heap.size B (grps L) (grps_ok L) HL.out w2 hS' (Nat.le_refl _)) kpB_trans
    (fun W l o o' hl _ _ _ => ⟨by simp, fun k _ hk => World.putObj_heap_other (by omega)⟩) (fun _ => rfl)
    (fun pre W => OfI w.heap.size w2.heap.size pre W ∧ Below w.heap.size w W)
    (fun c pre W => (OfX w.heap.size R.2 c pre W ∧ R.1 = []) ∧ Below w.heap.size w W)
    (OwnFrom.and (Own.from (ofI_own _ _) _) (ownFrom_below (Nat.le_refl _) HB2.out.size))
    (fun c => OwnFrom.and (OwnFrom.and (Own.from (ofX_own _ _ _) _) (ownFrom_pure _ _)) (ownFrom_below (Nat.le_refl _) HB2.out.size))
    ⟨⟨⟨_, HC2.out, World.ownsRow_nil _ _ _ _⟩, H12.out, H22.out, fun g hg => by simp at hg, Nat.le_refl _⟩, HB2.out⟩ ?_ ?_ ?_
  · rintro l pre x W hl ⟨⟨⟨v', hv, hr⟩, h1, h2, h3, hhi⟩, hB⟩ ⟨⟨G', hG'⟩, hrow⟩
    have HI : Hid (∀ y ∈ x.ns, In64 y) := Lib.hid (fun y hy => HZ.out x.grp (by rw [hG']; simp) y hy)
    have hbA : Below W.heap.size W (W.alloc (.cells #[.string x.k.e, .string x.k.a, .string x.k.f, .string x.k.p, .int .i64 x.k.m] 40)) := (Below.refl W.heap.size W).alloc (Nat.le_refl _) _
    have HBA := Lib.hid hbA
    have HRA := Lib.hid (row_below hr hbA)
    have HVA := Lib.hid (boxed_below hv hbA)
    have H1A := Lib.hid (boxed_below h1 hbA)
    have H2A := Lib.hid (boxed_below h2 hbA)
    have HRO := Lib.hid (hrow.keep hbA (Nat.le_refl _))
    have HXA := Lib.hid (BoxE.new encK W x.k 40)
    have HG' := Lib.hid hG'
    have HOK := Lib.hid h3
    have HBW := Lib.hid hB
    have HLC : Hid ((accG (pre.map GX.grp)).length ≤ 1000) := Lib.hid (by
      have e1 := acc_length (pre.map GX.grp)
      have e2 := HGL.out
      rw [hG'] at e2
      simp at e1 e2 ⊢
      omega)
    clear hv hr h1 h2 h3 hB hG' hrow hbA
    unfold encG
    gi_wp2_with fail
    refine ⟨keepsFrom_below _ HBA.out, kpB_below HBA.out hhi, ?_⟩
    intro o o' hlo hoc
    obtain ⟨WA, hWA⟩ : ∃ WA, W.alloc (.cells #[.string x.k.e, .string x.k.a, .string x.k.f, .string x.k.p, .int .i64 x.k.m] 40) = WA := ⟨_, rfl⟩
    rw [hWA] at HRA HVA H1A H2A HRO HBA hlo
    have HSA : Hid (WA.heap.size = W.heap.size + 1) := Lib.hid (by rw [← hWA, World.size_alloc])
    have HXB : Hid (BoxE encK WA W.heap.size 40 x.k) := Lib.hid (by rw [← hWA]; exact HXA.out)
    rw [hWA]
    obtain ⟨W4, hW4⟩ : ∃ W4, WA.putObj l o' = W4 := ⟨_, rfl⟩
    have hg4 : WA.grownBy W4 (some l) := by rw [← hW4]; exact grownBy_putObj' WA l o'
    have hv4 : Boxed W4 (w.heap.size + 1 + 1) 30 v' := by rw [← hW4]; exact boxed_putObj hlo hoc HVA.out
    have h14 : Boxed W4 w.heap.size 30 (.slice none 0 0) := by rw [← hW4]; exact boxed_putObj hlo hoc H1A.out
    have h24 : Boxed W4 (w.heap.size + 1) 31 (.int .i64 0) := by rw [← hW4]; exact boxed_putObj hlo hoc H2A.out
    have HR4 : Hid (W4.ownsRow w2.heap.size 60 6 v' (accG (pre.map GX.grp)).length (flat encF (accG (pre.map GX.grp)))) := Lib.hid (by rw [← hW4]; exact row_uncells HRA.out (grownBy_putObj' WA l o') (fun r e => by cases e; exact ⟨o, hlo, hoc⟩))
    have HRO4 : Hid (RowIs .i64 W4 x.a x.ns.length x.ns) := Lib.hid (by rw [← hW4]; exact row_putObj hlo hoc HRO.out)
    have HB4 : Hid (Below w.heap.size w W4) := Lib.hid (by
      rw [← hW4]
      exact (HBW.out.trans (HBA.out.mono HBW.out.size)).grown (grownBy_putObj' WA l o') (by have := HBW.out.size; have := HBA.out.size; omega) (fun k e => by cases e; have := HB2.out.size; omega))
    have HS4 : Hid (W4.heap.size = W.heap.size + 1) := Lib.hid (by rw [← hW4, ← HSA.out]; simp)
    obtain ⟨k0, k1, k2, k3, k4⟩ := key5 HXB.out.at0
    simp only [Nat.zero_add] at k0 k1 k2 k3 k4
    replace k0 := hW4 ▸ cell_putObj (o' := o') hlo hoc k0
    replace k1 := hW4 ▸ cell_putObj (o' := o') hlo hoc k1
    replace k2 := hW4 ▸ cell_putObj (o' := o') hlo hoc k2
    replace k3 := hW4 ▸ cell_putObj (o' := o') hlo hoc k3
    replace k4 := hW4 ▸ cell_putObj (o' := o') hlo hoc k4
    rw [hW4]
    have HHI := Lib.hid hhi
    clear HXB HXA HRA HVA H1A H2A HRO hlo hoc hg4 hW4 hWA HBA HSA hhi
    have hsum := sum_any x.a x.ns.length x.c x.ns W4 HRO4.out HI.out
    obtain ⟨sm, hsm⟩ : ∃ sm, (sumFrom 0 x.ns).1 = sm := ⟨_, rfl⟩
    obtain ⟨er, her⟩ : ∃ er, (sumFrom 0 x.ns).2 = er := ⟨_, rfl⟩
    rw [hsm, her] at hsum
    have HSM := Lib.hid hsm
    have HER := Lib.hid her
    have HSUM := Lib.hid hsum
    clear hsum hsm her
    by_cases he0 : er = 0
    · subst he0
      have HOK2 : Hid (okG ((pre ++ [x]).map GX.grp)) := Lib.hid (by rw [List.map_append]; exact ok_snoc HOK.out HER.out)
      have HAC : Hid (accG ((pre ++ [x]).map GX.grp) = accG (pre.map GX.grp) ++ putF x.k sm) := Lib.hid (by rw [List.map_append, List.map_cons, List.map_nil, acc_snoc]; show _ ++ putF x.k (sumFrom 0 x.ns).1 = _; rw [HSM.out])
      by_cases hs0 : sm = 0
      · subst hs0
        gi_wp2_with (refine ⟨trivial, ?_⟩; gi_at_call 31; refine (CallsIn.inRound l (callsIn_wide.2 HSUM.out)).mono ?_; rintro e W5 ⟨rfl, rfl⟩)
        refine ⟨KeepsFrom.refl _ _, ⟨Nat.le_refl _, fun _ _ _ => rfl⟩, ⟨⟨v', hv4, ?_⟩, h14, h24, HOK2.out, by have := HHI.out; have := HS4.out; omega⟩, HB4.out⟩
        rw [HAC.out]; simp only [putF, if_true, List.append_nil]; exact HR4.out
      · have hne : (sm != 0) = true := by simpa using hs0
        have HPF : Hid (putF x.k sm = [⟨x.k, sm⟩]) := Lib.hid (by simp [putF, hs0])
        have hcv := hv4.cell
        obtain ⟨n0, hn0⟩ : ∃ n0, (accG (pre.map GX.grp)).length = n0 := ⟨_, rfl⟩
        have HLN : Hid ((accG (pre.map GX.grp) ++ [(⟨x.k, sm⟩ : Fact)]).length = n0 + 1) := Lib.hid (by simp [hn0])
        have HN0 := Lib.hid hn0
        clear hn0
        gi_wp2_with (first
          | (refine ⟨trivial, ?_⟩; gi_at_call 31; refine (CallsIn.inRound l (callsIn_wide.2 HSUM.out)).mono ?_; rintro e W5 ⟨rfl, rfl⟩)
          | (gi_at_builtin; refine wpListIn_append_el (E := encF) rfl _ _ 30 60 rfl infoF w2.heap.size (accG (pre.map GX.grp)) ⟨x.k, sm⟩ W4.heap.size (HR4.out.alloc _) rfl (el_new encF W4 ⟨x.k, sm⟩ _) (by have := HHI.out; have := HS4.out; simp; omega) (by have := HLC.out; omega) ?_; intro v9 w9 hr9 hg9; rw [HLN.out] at hr9; obtain ⟨g9, c9, rfl⟩ := ownsRow_succ hr9; obtain ⟨hv5, hv6, hr6, hk6, hb6⟩ := hv4.appended (n₀ := w.heap.size) (by decide) (row_base HR4.out HB2.out.size) (by have := HB4.out.size; omega) (by omega) (row_base hr9 HB2.out.size) hg9; have hc5 := hv5.cell; have hf5 := hv5.frozen)
          | fail)
        have HR9 := Lib.hid hr9
        have HG9 := Lib.hid hg9
        have HV5 := Lib.hid hv5
        have HV6 := Lib.hid hv6
        have HK6 := Lib.hid hk6
        have HB6 := Lib.hid hb6
        clear hr9 hg9 hv5 hv6 hr6 hk6 hb6 hc5 hf5 hcv
        refine ⟨HK6.out.from _, ⟨HB6.out.size, fun k hk1 hk2 => ?_⟩, ⟨⟨_, HV6.out, ?_⟩, kept3 h14 HG9.out (h14.not_row (by decide) HR4.out) (by omega), kept3 h24 HG9.out (h24.not_row (by decide) HR4.out) (by omega), HOK2.out, by have := HHI.out; have := HS4.out; have := HB6.out.size; omega⟩, HB4.out.trans HB6.out⟩
        · have hn := HN1.out
          have hs := HSZ.out
          have hh := HHI.out
          have h4 := HS4.out
          have e1 := (World.grownBy_alloc W4 (.cells (encF.cs ⟨x.k, sm⟩).toArray 60) none).block k (by omega) (by simp)
          have e2 := HG9.out.block k (by simp; omega) (row_ge HR4.out hk2)
          have e3 := (grownBy_setCell' w9 (w.heap.size + 1 + 1) (.slice (some ⟨g9, 0, none⟩) (n0 + 1) c9)).block k (by have := HG9.out.size; simp at this; omega) (by simp; omega)
          exact e3.trans (e2.trans e1)
        · rw [HAC.out, HPF.out, HLN.out]
          exact HR9.out.kept (grownBy_setCell' w9 _ _) (.inr (HV5.out.not_row (by decide) HR9.out).symm)
    · have hne : (er != 0) = true := by simpa using he0
      have c1 := h14.cell
      have f1 := h14.frozen
      have h25 := h24.other (B' := w.heap.size) (by omega) (.slice none 0 0)
      have c2 := h25.cell
      have f2 := h25.frozen
      have H16 : Hid (Boxed ((W4.setCell ⟨w.heap.size, 0, none⟩ (.slice none 0 0)).setCell ⟨w.heap.size + 1, 0, none⟩ (.int .i64 er)) w.heap.size 30 (.slice none 0 0)) := Lib.hid ((h14.set _).other (by omega) _)
      have H26 : Hid (Boxed ((W4.setCell ⟨w.heap.size, 0, none⟩ (.slice none 0 0)).setCell ⟨w.heap.size + 1, 0, none⟩ (.int .i64 er)) (w.heap.size + 1) 31 (.int .i64 er)) := Lib.hid (h25.set _)
      have HK6 : Hid (KeepsFrom w2.heap.size W4 ((W4.setCell ⟨w.heap.size, 0, none⟩ (.slice none 0 0)).setCell ⟨w.heap.size + 1, 0, none⟩ (.int .i64 er))) := Lib.hid ((KeepsFrom.of_grownBy (grownBy_setCell' W4 w.heap.size (.slice none 0 0)) (fun k e => by cases e; have := HN1.out; have := HSZ.out; omega)).trans (KeepsFrom.of_grownBy (grownBy_setCell' _ (w.heap.size + 1) (.int .i64 er)) (fun k e => by cases e; have := HN1.out; have := HSZ.out; omega)))
      have HB6 : Hid (Below w.heap.size w ((W4.setCell ⟨w.heap.size, 0, none⟩ (.slice none 0 0)).setCell ⟨w.heap.size + 1, 0, none⟩ (.int .i64 er))) := Lib.hid ((HB4.out.grown (grownBy_setCell' W4 w.heap.size (.slice none 0 0)) HB4.out.size (fun k e => by cases e; exact Nat.le_refl _)).grown (grownBy_setCell' _ (w.heap.size + 1) (.int .i64 er)) (by simpa using HB4.out.size) (fun k e => by cases e; omega))
      have HRR : Hid (R.1 = [] ∧ R.2 = er) := Lib.hid (by
        have e1 := HR.out
        rw [HG'.out, run_err _ _ x.grp HOK.out (by show (sumFrom 0 x.ns).2 ≠ 0; rw [HER.out]; exact he0)] at e1
        rw [← e1]
        exact ⟨rfl, HER.out⟩)
      gi_wp2_with (refine ⟨trivial, ?_⟩; gi_at_call 31; refine (CallsIn.inRound l (callsIn_wide.2 HSUM.out)).mono ?_; rintro e W5 ⟨rfl, rfl⟩)
      exact ⟨HK6.out, ⟨⟨rfl, H16.out, by rw [HRR.out.2]; exact H26.out⟩, HRR.out.1⟩, HB6.out⟩
  · rintro D xs W hD hxs ⟨⟨⟨v', hv, hr⟩, h1, h2, h3, hhi⟩, hB⟩ hK
    have HRR : Hid (R = (accG (grps L), 0)) := Lib.hid (by rw [← HR.out, run_end _ (by rw [← hxs]; exact h3)])
    rw [hxs] at hr
    have hF := els_of_own hr
    obtain ⟨p, c, rfl, hnc, hcm, _⟩ := id hF
    obtain ⟨n0, hn0⟩ : ∃ n0, (accG (grps L)).length = n0 := ⟨_, rfl⟩
    have hn1 : n0 ≤ 1000 := by rw [← hn0]; exact Nat.le_trans (acc_length _) HGL.out
    have hF0 := hF
    rw [hn0] at hv hF0
    have HF := Lib.hid hF0
    have hcv := hv.cell
    have c1 := h1.cell
    have f1 := h1.frozen
    have h25 := h2.other (B' := w.heap.size) (by omega) (.slice p n0 c)
    have c2 := h25.cell
    have f2 := h25.frozen
    have hlt : ¬ (2000 : Int) < (n0 : Int) := by omega
    obtain ⟨W5, hW5⟩ : ∃ W5, W.setCell ⟨w.heap.size, 0, none⟩ (.slice p n0 c) = W5 := ⟨_, rfl⟩
    obtain ⟨W6, hW6⟩ : ∃ W6, W5.setCell ⟨w.heap.size + 1, 0, none⟩ (.int .i64 0) = W6 := ⟨_, rfl⟩
    have b15 : Boxed W5 w.heap.size 30 (.slice p n0 c) := by rw [← hW5]; exact h1.set _
    rw [hW5] at h25
    have b16 : Boxed W6 w.heap.size 30 (.slice p n0 c) := by rw [← hW6]; exact b15.other (by omega) _
    have b26 : Boxed W6 (w.heap.size + 1) 31 (.int .i64 0) := by rw [← hW6]; exact h25.set _
    have r5 := hr.kept (grownBy_setCell' W w.heap.size (.slice p n0 c)) (.inr (h1.not_row (by decide) hr).symm)
    rw [hW5] at r5
    have r6 := r5.kept (grownBy_setCell' W5 (w.heap.size + 1) (.int .i64 0)) (.inr (h25.not_row (by decide) r5).symm)
    rw [hW6] at r6
    have hK5 : W5.heap[D]? = some (.deferred (some [])) := by rw [← hW5]; exact ((grownBy_setCell' W w.heap.size (.slice p n0 c)).block D (Array.getElem?_eq_some_iff.1 hK).1 (by have := HB2.out.size; have := HN1.out; have := HSZ.out; simp; omega)).trans hK
    have hK6 : W6.heap[D]? = some (.deferred (some [])) := by rw [← hW6]; exact ((grownBy_setCell' W5 (w.heap.size + 1) (.int .i64 0)).block D (Array.getElem?_eq_some_iff.1 hK5).1 (by have := HB2.out.size; have := HN1.out; have := HSZ.out; simp; omega)).trans hK5
    have hB5 : Below w.heap.size w W5 := by rw [← hW5]; exact hB.grown (grownBy_setCell' W w.heap.size _) hB.size (fun k e => by cases e; exact Nat.le_refl _)
    have hB6 : Below w.heap.size w W6 := by rw [← hW6]; exact hB5.grown (grownBy_setCell' W5 (w.heap.size + 1) _) hB5.size (fun k e => by cases e; omega)
    have b17 := (boxed_putObj (o' := .deferred none) hK6 rfl b16).cell
    have b27 := (boxed_putObj (o' := .deferred none) hK6 rfl b26).cell
    have r7 := els_of_own (E := encF) (row_uncells r6 (grownBy_putObj' W6 D (.deferred none)) (fun r e => by cases e; exact ⟨_, hK6, rfl⟩))
    have hB7 := hB6.grown (grownBy_putObj' W6 D (.deferred none)) hB6.size (fun k e => by cases e; have := HB2.out.size; omega)
    rw [hn0] at r7
    have HK6 := Lib.hid hK6
    have HR7 := Lib.hid r7
    have HB7 := Lib.hid hB7
    have H17 := Lib.hid b17
    have H27 := Lib.hid b27
    clear hF hF0 hr b15 b16 b26 r5 r6 hK5 hK6 hB5 hB6 b17 b27 r7 hB7 h25 hK hB h1 h2 hv HF
    rw [hW5] at c2 f2
    gi_wp2
    refine ⟨by simp, .inl ⟨_, _, rfl, run_takeDeferred HK6.out, ?_⟩⟩
    have c17 := H17.out
    have c27 := H27.out
    refine ⟨.tuple #[.slice p n0 c, .int .i64 0], by simp [results, Try.results12, go_sem, c17, c27], .slice p n0 c, by rw [HRR.out], ?_, HB7.out⟩
    rw [HRR.out]
    exact HR7.out
  · rintro D c pre W hD _ ⟨⟨⟨rfl, h1, h2⟩, h3⟩, hB⟩ hK
    have b17 := (boxed_putObj (o' := .deferred none) hK rfl h1).cell
    have b27 := (boxed_putObj (o' := .deferred none) hK rfl h2).cell
    have hB7 := hB.grown (grownBy_putObj' W D (.deferred none)) hB.size (fun k e => by cases e; have := HB2.out.size; omega)
    have HK6 := Lib.hid hK
    have HB7 := Lib.hid hB7
    have H17 := Lib.hid b17
    have H27 := Lib.hid b27
    clear b17 b27 hB7 hK h1 h2 hB
    gi_wp2
    refine ⟨by simp, .inl ⟨_, _, rfl, run_takeDeferred HK6.out, ?_⟩⟩
    have c17 := H17.out
    have c27 := H27.out
    refine ⟨.tuple #[.slice none 0 0, .int .i64 R.2], by simp [results, Try.results12, go_sem, c17, c27], .slice none 0 0, rfl, ?_, HB7.out⟩
    rw [h3]
    exact ElsV.nil _
end Go.Proofs.Ytimeebildbmhaaa.Fa
