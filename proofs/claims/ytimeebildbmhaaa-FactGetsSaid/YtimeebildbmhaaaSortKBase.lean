
/- What Go's stable sort at a slice of facts wants of a program: its bodies, and how its types lie; the elements take k cells each. -/
import Derived.Test.YtimeebildbmhaaaProg
import Derived.Test.YtimeebildbmhaaaSortPlain
import Derived.Shelf.SlSortCmp.KitK
import Derived.Sort.WalkB2
import Derived.Sort.WalkB12
import Derived.Deep.LoopGhost
import Derived.Lib.Hide
import Derived.KernelRfl
import Derived.Ground.SlsfProg
namespace Go.Proofs.Ytimeebildbmhaaa
open Go.Shelf Go.RowKit Go.Lib Go.Sort

/-- The bodies of the sort, and its types. -/
structure SortL (P : Program) (k : Nat) : Prop where
  mixed : P.follows .mixedOrders = true
  f43 : P.funcs[43]? = some Try.f43
  f51 : P.funcs[51]? = some Try.f51
  f54 : P.funcs[54]? = some Try.f54
  f55 : P.funcs[55]? = some Try.f55
  f56 : P.funcs[56]? = some Try.f56
  ins : SlLaysF0.n20 P ⟨fun | 20 => 53 | n => n, fun | 24 => 60 | 22 => 29 | 3 => 3 | 25 => 83 | 4 => 4 | 0 => 0 | n => n, fun n => n⟩
  t0 : P.underlying 0 = some (TypeDesc.tuple #[])
  a0 : ∀ w, (isAgg 0).run P w = .ok false w
  z0 : ∀ w, (Go.sizeOf 0).run P w = .ok 1 w
  v0 : ∀ w, (zeroValue 0).run P w = .ok (Value.tuple #[]) w
  t3 : P.underlying 3 = some (TypeDesc.int IntKind.i64)
  a3 : ∀ w, (isAgg 3).run P w = .ok false w
  z3 : ∀ w, (Go.sizeOf 3).run P w = .ok 1 w
  v3 : ∀ w, (zeroValue 3).run P w = .ok (Value.int IntKind.i64 0) w
  t4 : P.underlying 4 = some (TypeDesc.bool)
  a4 : ∀ w, (isAgg 4).run P w = .ok false w
  z4 : ∀ w, (Go.sizeOf 4).run P w = .ok 1 w
  v4 : ∀ w, (zeroValue 4).run P w = .ok (Value.bool false) w
  t29 : P.underlying 29 = some (TypeDesc.slice 60)
  a29 : ∀ w, (isAgg 29).run P w = .ok false w
  z29 : ∀ w, (Go.sizeOf 29).run P w = .ok 1 w
  v29 : ∀ w, (zeroValue 29).run P w = .ok (Value.slice none 0 0) w
  t83 : P.underlying 83 = some (TypeDesc.func #[60, 60] #[3] false)
  a83 : ∀ w, (isAgg 83).run P w = .ok false w
  z83 : ∀ w, (Go.sizeOf 83).run P w = .ok 1 w
  v83 : ∀ w, (zeroValue 83).run P w = .ok (Value.nilFunc) w
  t90 : P.underlying 90 = some (TypeDesc.int IntKind.u64)
  a90 : ∀ w, (isAgg 90).run P w = .ok false w
  z90 : ∀ w, (Go.sizeOf 90).run P w = .ok 1 w
  v90 : ∀ w, (zeroValue 90).run P w = .ok (Value.int IntKind.u64 0) w
  aE : ∀ w, (isAgg 60).run P w = .ok true w
  zE : ∀ w, (Go.sizeOf 60).run P w = .ok k w
theorem sortL : SortL Try.prog 6 := {
  mixed := by kernel_rfl
  f43 := Try.func43
  f51 := Try.func51
  f54 := Try.func54
  f55 := Try.func55
  f56 := Try.func56
  ins := {
    mixed := by kernel_rfl
    f20 := ⟨Try.f53.name, by decide, Try.func53.trans (congrArg some (by kernel_rfl))⟩
    t0 := Try.underlying0
    a0 := Try.isAgg0
    z0 := Try.sizeOf0
    v0 := Try.zeroValue0
    t3 := Try.underlying3
    a3 := Try.isAgg3
    z3 := Try.sizeOf3
    v3 := Try.zeroValue3
    t4 := Try.underlying4
    a4 := Try.isAgg4
    z4 := Try.sizeOf4
    v4 := Try.zeroValue4
    t22 := Try.underlying29
    a22 := Try.isAgg29
    z22 := Try.sizeOf29
    v22 := Try.zeroValue29
    t25 := Try.underlying83
    a25 := Try.isAgg83
    z25 := Try.sizeOf83
    v25 := Try.zeroValue83 }
  t0 := Try.underlying0
  a0 := Try.isAgg0
  z0 := Try.sizeOf0
  v0 := Try.zeroValue0
  t3 := Try.underlying3
  a3 := Try.isAgg3
  z3 := Try.sizeOf3
  v3 := Try.zeroValue3
  t4 := Try.underlying4
  a4 := Try.isAgg4
  z4 := Try.sizeOf4
  v4 := Try.zeroValue4
  t29 := Try.underlying29
  a29 := Try.isAgg29
  z29 := Try.sizeOf29
  v29 := Try.zeroValue29
  t83 := Try.underlying83
  a83 := Try.isAgg83
  z83 := Try.sizeOf83
  v83 := Try.zeroValue83
  t90 := Try.underlying90
  a90 := Try.isAgg90
  z90 := Try.sizeOf90
  v90 := Try.zeroValue90
  aE := Try.isAgg60
  zE := Try.sizeOf60 }
end Go.Proofs.Ytimeebildbmhaaa
