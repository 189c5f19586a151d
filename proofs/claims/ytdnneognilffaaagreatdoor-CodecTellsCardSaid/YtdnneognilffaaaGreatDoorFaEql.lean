
/- How keys and facts compare by '=='. -/
import Derived.Test.YtdnneognilffaaaGreatDoorFaMem
import Derived.Laws.StructEq
import Derived.BigQuiet
import Derived.Deep.QuietTactic
namespace Go.Proofs.YtdnneognilffaaaGreatDoor.Fa
open Go.RowKit

def eqK (a b : Key) : Bool := decide (a = b)
def eqF (a b : Fact) : Bool := decide (a = b)
theorem toList_inj {x y : ByteArray} (h : x.toList = y.toList) : x = y := data_inj' (by rw [← ByteArray.toList_eq, ← ByteArray.toList_eq]; exact h)
def eqKs (a b : Key) : Bool := a.e.toList == b.e.toList && (a.a.toList == b.a.toList && (a.f.toList == b.f.toList && (a.p.toList == b.p.toList && a.m == b.m)))
theorem eqKs_eq (a b : Key) : eqKs a b = eqK a b := by
  unfold eqKs eqK
  rw [Bool.eq_iff_iff]
  simp only [Bool.and_eq_true, beq_iff_eq, decide_eq_true_eq]
  constructor
  · rintro ⟨h0, h1, h2, h3, h4⟩
    cases a; cases b
    simp only at h0 h1 h2 h3 h4
    rw [toList_inj h0, toList_inj h1, toList_inj h2, toList_inj h3, h4]
  · rintro rfl; exact ⟨rfl, rfl, rfl, rfl, rfl⟩
theorem eqF_eq (a b : Fact) : eqF a b = (eqK a.key b.key && a.amt == b.amt) := by
  unfold eqF eqK
  rw [Bool.eq_iff_iff]
  simp only [Bool.and_eq_true, beq_iff_eq, decide_eq_true_eq]
  constructor
  · rintro rfl; exact ⟨rfl, rfl⟩
  · rintro ⟨h0, h1⟩
    cases a; cases b
    simp only at h0 h1
    rw [h0, h1]
theorem eql_key (a b : Key) (w : World) : Sem.run Tryz.prog (binOp .eql 41 (aggK a) (aggK b)) w = .ok (.bool (eqK a b)) w := by
  have hS : Tryz.prog.underlying 41 = some (.struct (Tryz.prog.fieldsOf 41)) := by kernel_rfl
  have hp : Tryz.prog.stoodInHeld 41 = false := by kernel_rfl
  rw [run_eql_struct, show (10000 : Nat) = 9999 + 1 from rfl, run_equalIn_agg w 9999 41 _ _ hS hp, ← eqKs_eq]
  simp only [Program.fieldsOf, Tryz.underlying41]
  go_simp
  unfold eqKs
  by_cases h0 : a.e.toList = b.e.toList
  · by_cases h1 : a.a.toList = b.a.toList
    · by_cases h2 : a.f.toList = b.f.toList
      · by_cases h3 : a.p.toList = b.p.toList
        · by_cases h4 : a.m = b.m <;> simp [h0, h1, h2, h3, h4]
        · simp [h0, h1, h2, h3]
      · simp [h0, h1, h2]
    · simp [h0, h1]
  · simp [h0]
theorem eql_rkey (a b : Key) (w : World) : Sem.run Tryz.prog (binOp .eql 44 (aggK a) (aggK b)) w = .ok (.bool (eqK a b)) w := by
  have hS : Tryz.prog.underlying 44 = some (.struct (Tryz.prog.fieldsOf 44)) := by kernel_rfl
  have hp : Tryz.prog.stoodInHeld 44 = false := by kernel_rfl
  rw [run_eql_struct, show (10000 : Nat) = 9999 + 1 from rfl, run_equalIn_agg w 9999 44 _ _ hS hp, ← eqKs_eq]
  simp only [Program.fieldsOf, Tryz.underlying44]
  go_simp
  unfold eqKs
  by_cases h0 : a.e.toList = b.e.toList
  · by_cases h1 : a.a.toList = b.a.toList
    · by_cases h2 : a.f.toList = b.f.toList
      · by_cases h3 : a.p.toList = b.p.toList
        · by_cases h4 : a.m = b.m <;> simp [h0, h1, h2, h3, h4]
        · simp [h0, h1, h2, h3]
      · simp [h0, h1, h2]
    · simp [h0, h1]
  · simp [h0]
theorem in_rkey (a b : Key) (w : World) : Sem.run Tryz.prog (Op.equalIn 9999 44 (aggK a) (aggK b)) w = .ok (eqK a b) w := by
  have hS : Tryz.prog.underlying 44 = some (.struct (Tryz.prog.fieldsOf 44)) := by kernel_rfl
  have hp : Tryz.prog.stoodInHeld 44 = false := by kernel_rfl
  rw [show (9999 : Nat) = 9998 + 1 from rfl, run_equalIn_agg w 9998 44 _ _ hS hp, ← eqKs_eq]
  simp only [Program.fieldsOf, Tryz.underlying44]
  go_simp
  unfold eqKs
  by_cases h0 : a.e.toList = b.e.toList
  · by_cases h1 : a.a.toList = b.a.toList
    · by_cases h2 : a.f.toList = b.f.toList
      · by_cases h3 : a.p.toList = b.p.toList
        · by_cases h4 : a.m = b.m <;> simp [h0, h1, h2, h3, h4]
        · simp [h0, h1, h2, h3]
      · simp [h0, h1, h2]
    · simp [h0, h1]
  · simp [h0]
theorem neq_rfact (a b : Fact) (w : World) : Sem.run Tryz.prog (binOp .neq 46 (aggF a) (aggF b)) w = .ok (.bool (!eqF a b)) w := by
  have hS : Tryz.prog.underlying 46 = some (.struct (Tryz.prog.fieldsOf 46)) := by kernel_rfl
  have hp : Tryz.prog.stoodInHeld 46 = false := by kernel_rfl
  have hn := in_rkey a.key b.key w
  have hi : Sem.run Tryz.prog (Op.equalIn 9999 2 (.int .i64 a.amt) (.int .i64 b.amt)) w = .ok (a.amt == b.amt) w := run_equalIn_int w 9998 2 .i64 .i64 _ _ Tryz.underlying2
  rw [run_neq_struct, show (10000 : Nat) = 9999 + 1 from rfl, run_equalIn_agg w 9999 46 _ _ hS hp, eqF_eq]
  clear hS hp
  simp only [Program.fieldsOf, Tryz.underlying46]
  have pk : ∀ x : Fact, Sem.run Tryz.prog (part 44 #[.string x.key.e, .string x.key.a, .string x.key.f, .string x.key.p, .int .i64 x.key.m, .int .i64 x.amt] 0) w = .ok (aggK x.key) w := fun x => by go_simp
  have pi : ∀ x : Fact, Sem.run Tryz.prog (part 2 #[.string x.key.e, .string x.key.a, .string x.key.f, .string x.key.p, .int .i64 x.key.m, .int .i64 x.amt] 5) w = .ok (.int .i64 x.amt) w := fun x => by go_simp
  have e1 : ¬ ("Key" = "_") := by decide
  have e2 : ¬ ("Amount" = "_") := by decide
  simp only [Op.eqFields, ne_eq, e1, e2, not_false_eq_true, if_true, Sem.run_bind, pk, hn, Result.andThen]
  generalize (a.amt == b.amt) = r at hi ⊢
  cases eqK a.key b.key <;> cases r <;> simp [Sem.run_bind, pi, hi, Result.andThen]
theorem guard_key : Tryz.prog.eqGuardType Tryz.prog.depth 41 = false := by kernel_rfl
theorem guard_rkey : Tryz.prog.eqGuardType Tryz.prog.depth 44 = false := by kernel_rfl
theorem guard_rfact : Tryz.prog.eqGuardType Tryz.prog.depth 46 = false := by kernel_rfl
end Go.Proofs.YtdnneognilffaaaGreatDoor.Fa
