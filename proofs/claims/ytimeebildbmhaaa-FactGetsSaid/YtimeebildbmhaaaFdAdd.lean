
/- The walk of the document's Add: what the facts of both come to. -/
import Derived.Test.YtimeebildbmhaaaFdOf
import Derived.Test.YtimeebildbmhaaaFaAdd
import Derived.Test.YtimeebildbmhaaaFdSum
namespace Go.Proofs.Ytimeebildbmhaaa.Fa
open Go.RowKit

theorem in64_both {A B : List Fact} (ha : ∀ x ∈ A, In64 x.amt) (hb : ∀ x ∈ B, In64 x.amt) : ∀ x ∈ A ++ B, In64 x.amt := fun x hx => (List.mem_append.1 hx).elim (ha x) (hb x)
set_option maxRecDepth 100000 in
set_option maxHeartbeats 4000000 in
theorem radd_any (va vb : Value) (A B : List Fact) (w : World) (hA : FactsV w va A) (hB : FactsV w vb B) (hzA : ∀ f ∈ A, In64 f.amt) (hzB : ∀ f ∈ B, In64 f.amt) (hLA : A.length ≤ 400) (hLB : B.length ≤ 400) :
    Calls Try.prog 22 #[va, vb] w (CubeTold w (ofL (A ++ B))) := by
  have HA := Lib.hid hA
  have HB := Lib.hid hB
  have HZ := Lib.hid (in64_both hzA hzB)
  have HLA := Lib.hid hLA
  have HLB := Lib.hid hLB
  obtain ⟨R, hR⟩ : ∃ R, ofL (A ++ B) = R := ⟨_, rfl⟩
  rw [hR]
  have HR := Lib.hid hR
  clear hA hB hzA hzB hR hLA hLB
  obtain ⟨pa, ca, rfl, _, _, _, _⟩ := id HA.out
  obtain ⟨pb, cb, rfl, _, _, _, _⟩ := id HB.out
  obtain ⟨na, hna⟩ : ∃ n, A.length = n := ⟨_, rfl⟩
  obtain ⟨nb, hnb⟩ : ∃ n, B.length = n := ⟨_, rfl⟩
  rw [hna] at HA HLA
  rw [hnb] at HB HLB
  have HNA := Lib.hid hna
  have HNB := Lib.hid hnb
  rw [hna, hnb]
  have HB0 : Hid (Below w.heap.size w (w.alloc (.cells #[] 28))) := Lib.hid ((Below.refl w.heap.size w).alloc (Nat.le_refl _) _)
  have HE0 : Hid ((w.alloc (.cells #[] 28)).ownsRow w.heap.size 28 6 (.slice (some ⟨w.heap.size, 0, none⟩) 0 0) ([] : List Fact).length (flat encF [])) := Lib.hid ⟨rfl, .inr ⟨w.heap.size, 0, #[], rfl, Nat.le_refl _, heap_alloc_new w _, Nat.le_refl _, by unfold maxLen; omega, rfl, rfl⟩⟩
  have HA0 := Lib.hid (HA.out.keep HB0.out)
  clear hna hnb
  go_enter Try.func22, Try.ntmps22
  go_wp2_with (at_builtin; first
    | (refine wpList_append_els (E := encF) rfl _ _ 22 28 rfl infoR w.heap.size [] A HE0.out HA0.out HB0.out.size (by simp; have := HNA.out; have := HLA.out; omega) ?_; intro v2 w2 hr2 hb2; have HR2 : Hid (w2.ownsRow w.heap.size 28 6 v2 A.length (flat encF A)) := Lib.hid (by have := hr2; rw [List.nil_append] at this; exact this); have HB2 := Lib.hid (HB0.out.trans hb2); have HBB2 := Lib.hid (HB.out.keep HB2.out); clear hr2 hb2)
    | (refine wpList_append_els (E := encF) rfl _ _ 22 28 rfl infoR w.heap.size A B HR2.out HBB2.out HB2.out.size (by have := HNA.out; have := HNB.out; have := HLA.out; have := HLB.out; omega) ?_; intro v3 w3 hr3 hb3)
    | fail)
  have HB3 := Lib.hid (HB2.out.trans hb3)
  have HO1 := Lib.hid (rof_any v3 (A ++ B) w3 (els_of_own hr3) HZ.out (by rw [List.length_append]; have := HNA.out; have := HNB.out; have := HLA.out; have := HLB.out; omega))
  rw [HR.out] at HO1
  clear hr3 hb3
  go_wp2_with (go_at_call 14; refine HO1.out.mono ?_; rintro e w4 ⟨u, rfl, hu, hb4⟩)
  have HU := Lib.hid hu
  have HB4 := Lib.hid (HB3.out.trans (hb4.mono HB3.out.size))
  clear hu hb4
  go_ret2
  exact ⟨_, rfl, HU.out, HB4.out⟩
end Go.Proofs.Ytimeebildbmhaaa.Fa
