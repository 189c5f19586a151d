/- UnitPlain; FlowSearch; Past; UnitOrd: texts put together (each begins with what it is). -/
import Derived.Test.YticdmlijacnjbaaGreatDoorM02
import Derived.Test.YticdmlijacnjbaaGreatDoorM03
import Derived.Test.YticdmlijacnjbaaGreatDoorM01
import Derived.Test.YticdmlijacnjbaaGreatDoorProg
import Derived.WalkKit
import Derived.WalkSpells
import Derived.Lib.Hide
import Derived.Lib.Bytealg
import Derived.Lib.Walk
import Derived.LoopTactic
import Derived.Deep.LoopGhost
import Derived.Handy
import Derived.BigQuiet
import Derived.RegionTactic
/- The plain facts of layer unit: master data, what a line more makes of them, what is asked behind all, and the master data of lines. No program in it. -/
namespace Go.Proofs.YticdmlijacnjbaaGreatDoor.Un
open Go.RowKit

structure Ent where
  code : ByteArray
  cur : ByteArray
structure Lin where
  acc : ByteArray
  flow : ByteArray
  to : ByteArray
theorem Ent.ext' {a b : Ent} (h0 : a.code = b.code) (h1 : a.cur = b.cur) : a = b := by
  cases a; cases b; simp_all
theorem Lin.ext' {a b : Lin} (h0 : a.acc = b.acc) (h1 : a.flow = b.flow) (h2 : a.to = b.to) : a = b := by
  cases a; cases b; simp_all
instance : DecidableEq Ent := fun a b =>
  if h : a.code = b.code ∧ a.cur = b.cur then isTrue (Ent.ext' h.1 h.2)
  else isFalse fun e => h (by subst e; exact ⟨rfl, rfl⟩)
instance : DecidableEq Lin := fun a b =>
  if h : a.acc = b.acc ∧ a.flow = b.flow ∧ a.to = b.to then isTrue (Lin.ext' h.1 h.2.1 h.2.2)
  else isFalse fun e => h (by subst e; exact ⟨rfl, rfl, rfl⟩)
/-- Where a line stands. -/
def Lin.key (x : Lin) : ByteArray × ByteArray := (x.acc, x.flow)
/-- How they lie. -/
abbrev encE : Enc Ent := ⟨fun e => [.string e.code, .string e.cur], 2, fun _ => rfl, by decide, fun _ v hv => by simp at hv; rcases hv with rfl | rfl <;> rfl⟩
abbrev encL : Enc Lin := ⟨fun e => [.string e.acc, .string e.flow, .string e.to], 3, fun _ => rfl, by decide, fun _ v hv => by simp at hv; rcases hv with rfl | rfl | rfl <;> rfl⟩
abbrev encA : Enc Acct := ⟨Acct.cells, 6, fun _ => rfl, by decide, fun a v hv => by simp [Acct.cells] at hv; rcases hv with rfl | rfl | rfl | rfl | rfl | rfl <;> rfl⟩
abbrev emp : ByteArray := ⟨#[]⟩
structure Mast where
  chart : List Acct
  flows : List Fl.Flow
  ents : List Ent
  lines : List Lin
  cur : ByteArray
  res : ByteArray
  dif : ByteArray
  min : ByteArray
  stk : ByteArray
def zeroM : Mast := ⟨[], [], [], [], emp, emp, emp, emp, emp⟩

def tEntity : ByteArray := ⟨#[101, 110, 116, 105, 116, 121]⟩
def tMap : ByteArray := ⟨#[109, 97, 112]⟩
def tGroup : ByteArray := ⟨#[103, 114, 111, 117, 112]⟩
def tReserve : ByteArray := ⟨#[114, 101, 115, 101, 114, 118, 101]⟩
def tDiffer : ByteArray := ⟨#[100, 105, 102, 102, 101, 114]⟩
def tMinor : ByteArray := ⟨#[109, 105, 110, 111, 114]⟩
def tStake : ByteArray := ⟨#[115, 116, 97, 107, 101]⟩

/-- How many words a line with this first one has. -/
def lenW (h : ByteArray) : Int :=
  if h = tGroup ∨ h = tReserve ∨ h = tDiffer ∨ h = tMinor ∨ h = tStake then 2 else if h = tEntity then 3 else if h = tMap then 4 else 0
/-- The words of a line by their places. -/
def wd (ws : List ByteArray) (i : Nat) : ByteArray := ws.getD i emp
def namesW (ws : List ByteArray) : Bool := (ws.drop 1).all nmB
def formedW (ws : List ByteArray) : Bool := decide (0 < ws.length) && (decide ((ws.length : Int) = lenW (wd ws 0)) && namesW ws)
def entOf (ws : List ByteArray) : Ent := ⟨wd ws 1, wd ws 2⟩
def linOf (ws : List ByteArray) : Lin := ⟨wd ws 1, wd ws 2, wd ws 3⟩
def entE (L : List Ent) (x : Ent) : Int := if (G.findK Ent.code L x.code).isSome = true then 7 else if 60 ≤ L.length then 4 else 0
def linEr (L : List Lin) (x : Lin) : Int := if (G.findK Lin.key L x.key).isSome = true then 7 else if 1000 ≤ L.length then 4 else 0
def oneE (x : ByteArray) : Int := if x = emp then 0 else 7

/-- The number that a line more makes. -/
def stepE (M : Mast) (ws : List ByteArray) : Int :=
  if wd ws 0 = tAccount then (if (parseA ws).2 = 0 then addE M.chart (parseA ws).1 else (parseA ws).2)
  else if wd ws 0 = Fl.tFlow then (if (Fl.parseF ws).2 = 0 then Fl.addE M.flows (Fl.parseF ws).1 else (Fl.parseF ws).2)
  else if formedW ws = false then 5
  else if wd ws 0 = tEntity then entE M.ents (entOf ws)
  else if wd ws 0 = tMap then linEr M.lines (linOf ws)
  else if wd ws 0 = tGroup then oneE M.cur
  else if wd ws 0 = tReserve then oneE M.res
  else if wd ws 0 = tDiffer then oneE M.dif
  else if wd ws 0 = tMinor then oneE M.min
  else oneE M.stk
/-- What a line more makes, where the number is 0. -/
def stepV (M : Mast) (ws : List ByteArray) : Mast :=
  if wd ws 0 = tAccount then { M with chart := insL M.chart (parseA ws).1 }
  else if wd ws 0 = Fl.tFlow then { M with flows := insK Fl.Flow.code M.flows (Fl.parseF ws).1 }
  else if wd ws 0 = tEntity then { M with ents := G.insK Ent.code M.ents (entOf ws) }
  else if wd ws 0 = tMap then { M with lines := G.insK Lin.key M.lines (linOf ws) }
  else if wd ws 0 = tGroup then { M with cur := wd ws 1 }
  else if wd ws 0 = tReserve then { M with res := wd ws 1 }
  else if wd ws 0 = tDiffer then { M with dif := wd ws 1 }
  else if wd ws 0 = tMinor then { M with min := wd ws 1 }
  else { M with stk := wd ws 1 }
/-- All lines, up to the first one that is wrong. -/
def runM : Mast → List (List ByteArray) → Mast × Int
  | M, [] => (M, 0)
  | M, ws :: r => if stepE M ws = 0 then runM (stepV M ws) r else (zeroM, stepE M ws)

/-- Has a chart the code? -/
def hasA (c : List Acct) (s : ByteArray) : Bool := (findL c s).isSome
def rolesN (M : Mast) : Bool := hasA M.chart M.res && hasA M.chart M.dif && hasA M.chart M.min && hasA M.chart M.stk
def lineN (M : Mast) (x : Lin) : Bool := hasA M.chart x.acc && isK Fl.Flow.code M.flows x.flow
def linesN (M : Mast) : Bool := M.lines.all (lineN M)
/-- Is the account of a code of the class, and plain? -/
def plainA (c : List Acct) (s : ByteArray) (cls : Int) : Bool := decide ((findL c s).getD zeroA = ⟨s, cls, false, false, emp, false⟩)
def rolesP (M : Mast) : Bool := plainA M.chart M.res 2 && plainA M.chart M.dif 0 && plainA M.chart M.min 2 && plainA M.chart M.stk 0
/-- What is asked behind all lines. -/
def allE (M : Mast) : Int :=
  if (decide (M.cur = emp) || !rolesN M || !linesN M) = true then 6
  else if Fl.wholeF M.flows = false then 8
  else if rolesP M = false then 15 else 0
def endM (r : Mast × Int) : Mast × Int := if r.2 = 0 then (if allE r.1 = 0 then r else (zeroM, allE r.1)) else (zeroM, r.2)
/-- The master data of lines, and of a text. -/
def linesM (l : List (List ByteArray)) : Mast × Int := endM (runM zeroM l)
def wordsT (s : ByteArray) : List (List ByteArray) := (asB (linV s.data.toList)).map (·.2)
def parseM (s : ByteArray) : Mast × Int := if linE s.data.toList = 0 then linesM (wordsT s) else (zeroM, linE s.data.toList)

theorem runM_cons (M : Mast) (ws : List ByteArray) (r : List (List ByteArray)) (h : stepE M ws = 0) : runM M (ws :: r) = runM (stepV M ws) r := by simp [runM, h]
theorem runM_stop (M : Mast) (ws : List ByteArray) (r : List (List ByteArray)) (h : stepE M ws ≠ 0) : runM M (ws :: r) = (zeroM, stepE M ws) := by simp [runM, h]
theorem endM_stop (n : Int) (h : n ≠ 0) : endM (zeroM, n) = (zeroM, n) := by simp [endM, h]
theorem endM_no (M : Mast) (h : allE M ≠ 0) : endM (M, 0) = (zeroM, allE M) := by simp [endM, h]
theorem endM_ok (M : Mast) (h : allE M = 0) : endM (M, 0) = (M, 0) := by simp [endM, h]
end Go.Proofs.YticdmlijacnjbaaGreatDoor.Un
/- The walks of Go's comparison of texts, of flow's method 'against' and of Go's binary search with it: the place of a code among flows by rising codes; of flow.place and flow.Kind. What was there stays. -/
namespace Go.Proofs.YticdmlijacnjbaaGreatDoor.Fl
open Go.RowKit

/-- How a text stands to another. -/
def cmpB (x y : ByteArray) : Int := Lib.compareBytes x.data.toList y.data.toList
theorem cmpL_lt : ∀ (x y : List UInt8), Lib.compareBytes x y < 0 ↔ Op.bytesLess x y = true
  | [], [] => by simp [Lib.compareBytes, Op.bytesLess]
  | [], _ :: _ => by simp [Lib.compareBytes, Op.bytesLess]
  | _ :: _, [] => by simp [Lib.compareBytes, Op.bytesLess]
  | a :: x, b :: y => by
    have ih := cmpL_lt x y
    unfold Lib.compareBytes Op.bytesLess
    by_cases h1 : a < b
    · simp [h1]
    · by_cases h2 : b < a
      · have : (a == b) = false := by
          rw [beq_eq_false_iff_ne]
          rintro rfl
          exact h1 h2
        simp [h1, h2, this]
      · have : a = b := by
          rw [UInt8.lt_iff_toNat_lt] at h1 h2
          exact UInt8.toNat_inj.1 (by omega)
        subst this
        simp [h1, ih]
theorem cmpL_eq0 : ∀ (x y : List UInt8), Lib.compareBytes x y = 0 ↔ x = y
  | [], [] => by simp [Lib.compareBytes]
  | [], _ :: _ => by simp [Lib.compareBytes]
  | _ :: _, [] => by simp [Lib.compareBytes]
  | a :: x, b :: y => by
    have ih := cmpL_eq0 x y
    unfold Lib.compareBytes
    by_cases h1 : a < b
    · have : a ≠ b := by
        rintro rfl
        rw [UInt8.lt_iff_toNat_lt] at h1; omega
      simp [h1, this]
    · by_cases h2 : b < a
      · have : a ≠ b := by
          rintro rfl
          exact h1 h2
        simp [h1, h2, this]
      · have : a = b := by
          rw [UInt8.lt_iff_toNat_lt] at h1 h2
          exact UInt8.toNat_inj.1 (by omega)
        subst this
        simp [h1, ih]
theorem cmpB_lt (x y : ByteArray) : decide (cmpB x y < 0) = ltS x y := by
  rw [Bool.eq_iff_iff, decide_eq_true_eq]
  unfold cmpB ltS
  rw [cmpL_lt, ByteArray.toList_eq, ByteArray.toList_eq]
theorem cmpB_eq (x y : ByteArray) : (cmpB x y == 0) = decide (x = y) := by
  rw [Bool.eq_iff_iff, beq_iff_eq, decide_eq_true_eq]
  unfold cmpB
  rw [cmpL_eq0]
  exact ⟨fun h => toList_inj (by rw [ByteArray.toList_eq, ByteArray.toList_eq]; exact h), fun h => by rw [h]⟩
set_option maxHeartbeats 1000000 in
set_option maxRecDepth 100000 in
theorem compareString_any (a b : ByteArray) (w : World) :
    Calls Tryz.prog 132 #[.string a, .string b] w fun e w' => e = .returned (.int .i64 (cmpB a b)) ∧ w' = w := by
  go_enter Tryz.func132, Tryz.ntmps132
  go_wp2
  rw [run_callFunc_extern Tryz.func143 (by kernel_rfl) (by kernel_rfl) (by kernel_rfl) (e := Extern.BytealgCompare.compare) (by kernel_rfl), Lib.run_compareString]
  simp only [Result.andThen]
  rw [Oper.upon_value]
  go_wp2
  go_ret
  exact ⟨rfl, rfl⟩
set_option maxHeartbeats 1000000 in
theorem compare_any (a b : ByteArray) (w : World) :
    Calls Tryz.prog 114 #[.string a, .string b] w fun e w' => e = .returned (.int .i64 (cmpB a b)) ∧ w' = w := by
  go_enter Tryz.func114, Tryz.ntmps114
  go_wp2_with (go_at_call 132; refine (compareString_any _ _ _).mono ?_; rintro e w' ⟨rfl, rfl⟩)
  go_ret
  exact ⟨rfl, rfl⟩
set_option maxHeartbeats 1000000 in
theorem against_any (f : Flow) (c : ByteArray) (w : World) :
    Calls Tryz.prog 127 #[aggL f, .string c] w fun e w' => e = .returned (.int .i64 (cmpB f.code c)) ∧ Below w.heap.size w w' := by
  have HB := Lib.hid ((Below.refl w.heap.size w).alloc (Nat.le_refl _) (.cells #[.string f.code, .int .i64 f.kind] 86))
  go_enter Tryz.func127, Tryz.ntmps127
  go_wp2_with (go_at_call 114; refine (compare_any _ _ _).mono ?_; rintro e w' ⟨rfl, rfl⟩)
  go_ret
  exact ⟨rfl, HB.out⟩
/-- What the round of the search holds. -/
structure SearchAt (w wr : World) (L : List Flow) (c : ByteArray) (lo hi : Nat) : Prop where
  le : lo ≤ hi
  top : hi ≤ L.length
  bel : Below w.heap.size w wr
  low : ∀ (t : Nat) (x : Flow), t < lo → L[t]? = some x → ltS x.code c = true
  high : ∀ (t : Nat) (x : Flow), hi ≤ t → L[t]? = some x → ltS x.code c = false
set_option maxRecDepth 100000 in
set_option maxHeartbeats 4000000 in
theorem search_any (v : Value) (L : List Flow) (c : ByteArray) (w : World) (h : FlowsV w v L) (hr : riseK Flow.code L = true) (hL : L.length ≤ 1000) :
    Calls Tryz.prog 126 #[v, .string c, .func (.func 127) #[] #[]] w fun e w' => e = .returned (.tuple #[.int .i64 (placeK Flow.code L c : Nat), .bool (isK Flow.code L c)]) ∧ Below w.heap.size w w' := by
  obtain ⟨p, cap, rfl, hcap, hm, _, hc⟩ := h
  obtain ⟨n, hn⟩ : ∃ n, L.length = n := ⟨_, rfl⟩
  obtain ⟨pl, hpl⟩ : ∃ pl, placeK Flow.code L c = pl := ⟨_, rfl⟩
  obtain ⟨is, his⟩ : ∃ is, isK Flow.code L c = is := ⟨_, rfl⟩
  rw [hn] at hcap hL ⊢
  rw [hpl, his]
  have HC := Lib.hid hc
  have HN := Lib.hid hn
  have HPL := Lib.hid hpl
  have HIS := Lib.hid his
  have HRI := Lib.hid hr
  unfold maxLen at hm
  clear hc hn hpl his hr
  go_enter Tryz.func126, Tryz.ntmps126
  go_wp2
  go_loopg [9, 10] n (fun kx s9 s10 wr => ∃ lo hi : Nat, s9 = .int .i64 (lo : Int) ∧ s10 = .int .i64 (hi : Int) ∧ hi - lo ≤ kx ∧ lo ≤ hi ∧ hi ≤ n ∧ Hid (SearchAt w wr L c lo hi))
  case atStart => exact ⟨0, n, rfl, rfl, by omega, Nat.zero_le _, Nat.le_refl _, Lib.hid ⟨Nat.zero_le _, by rw [HN.out]; exact Nat.le_refl _, Below.refl _ _, fun t x ht => absurd ht (Nat.not_lt_zero _), fun t x ht hx => by
    have := (List.getElem?_eq_some_iff.1 hx).1
    rw [HN.out] at this; omega⟩⟩
  case round =>
    obtain ⟨lo, hi, rfl, rfl, hkx, hlh, hin, HA⟩ := hrel
    by_cases hlt : lo < hi
    · have hmid : (lo + hi) / 2 < n := by omega
      obtain ⟨x, hx⟩ : ∃ x, L[(lo + hi) / 2]? = some x := ⟨_, List.getElem?_eq_getElem (by rw [HN.out]; exact hmid)⟩
      obtain ⟨b, o, rfl, hat⟩ := HC.out _ x hx
      obtain ⟨c0, c1⟩ := two (hat.keep HA.out.bel hat.lt)
      have HX := Lib.hid hx
      clear hx hat
      have HAG := Lib.hid (against_any x c wr)
      obtain ⟨m, hmm⟩ : ∃ m, cmpB x.code c = m := ⟨_, rfl⟩
      have HM := Lib.hid (cmpB_lt x.code c)
      rw [hmm] at HAG HM
      clear hmm
      by_cases hm0 : m < 0
      · have HLT : Hid (ltS x.code c = true) := Lib.hid (by rw [← HM.out]; exact decide_eq_true hm0)
        go_wp2_with (go_at_call 127; refine HAG.out.mono ?_; rintro e w' ⟨rfl, hb'⟩)
        go_roundg (hi - ((lo + hi) / 2 + 1))
        case measure => omega
        case rel => exact ⟨(lo + hi) / 2 + 1, hi, by rw [show ((lo : Int) + (hi : Int)) / 2 + 1 = (((lo + hi) / 2 + 1 : Nat) : Int) by omega], rfl, Nat.le_refl _, by omega, hin, Lib.hid ⟨by omega, HA.out.top, HA.out.bel.trans (hb'.mono HA.out.bel.size), fun t y ht hy => by
            rcases Nat.lt_or_ge t ((lo + hi) / 2) with h | h
            · exact ltS_trans (riseK_at HRI.out h hy HX.out) HLT.out
            · obtain rfl : t = (lo + hi) / 2 := by omega
              rw [HX.out] at hy; cases hy; exact HLT.out, HA.out.high⟩⟩
      · have HLT : Hid (ltS x.code c = false) := Lib.hid (by rw [← HM.out]; exact decide_eq_false hm0)
        go_wp2_with (go_at_call 127; refine HAG.out.mono ?_; rintro e w' ⟨rfl, hb'⟩)
        go_roundg ((lo + hi) / 2 - lo)
        case measure => omega
        case rel => exact ⟨lo, (lo + hi) / 2, rfl, by rw [show ((lo : Int) + (hi : Int)) / 2 = (((lo + hi) / 2 : Nat) : Int) by omega], Nat.le_refl _, by omega, by omega, Lib.hid ⟨by omega, by have := HA.out.top; omega, HA.out.bel.trans (hb'.mono HA.out.bel.size), HA.out.low, fun t y ht hy => by
            rcases Nat.lt_or_ge ((lo + hi) / 2) t with h | h
            · cases hy' : ltS y.code c with
              | false => rfl
              | true => rw [ltS_trans (riseK_at HRI.out h HX.out hy) hy'] at HLT; cases HLT.out
            · obtain rfl : t = (lo + hi) / 2 := by omega
              rw [HX.out] at hy; cases hy; exact HLT.out⟩⟩
    · obtain rfl : hi = lo := by omega
      have hpl : Hid (pl = hi) := Lib.hid (by
        rw [← HPL.out]
        exact placeK_at HA.out.top HA.out.low (fun y hy => HA.out.high hi y (Nat.le_refl _) hy))
      by_cases hn : hi < n
      · obtain ⟨x, hx⟩ : ∃ x, L[hi]? = some x := ⟨_, List.getElem?_eq_getElem (by rw [HN.out]; exact hn)⟩
        obtain ⟨b, o, rfl, hat⟩ := HC.out _ x hx
        obtain ⟨c0, c1⟩ := two (hat.keep HA.out.bel hat.lt)
        have HX := Lib.hid hx
        clear hx hat
        have HAG := Lib.hid (against_any x c wr)
        obtain ⟨m, hmm⟩ : ∃ m, cmpB x.code c = m := ⟨_, rfl⟩
        have HM := Lib.hid (cmpB_eq x.code c)
        rw [hmm] at HAG HM
        clear hmm
        have HI2 : Hid (is = (m == 0)) := Lib.hid (by
          rw [← HIS.out, HM.out]
          unfold isK
          rw [HPL.out, hpl.out, HX.out])
        go_wp2_with (go_at_call 127; refine HAG.out.mono ?_; rintro e w' ⟨rfl, hb'⟩)
        go_ret2
        exact ⟨by rw [hpl.out, HI2.out]; rfl, HA.out.bel.trans (hb'.mono HA.out.bel.size)⟩
      · have HI2 : Hid (is = false) := Lib.hid (by
          rw [← HIS.out]
          unfold isK
          rw [HPL.out, hpl.out, List.getElem?_eq_none (by rw [HN.out]; omega)])
        go_wp2
        go_ret2
        exact ⟨by rw [hpl.out, HI2.out]; rfl, HA.out.bel⟩
set_option maxRecDepth 100000 in
set_option maxHeartbeats 4000000 in
theorem place_any (v : Value) (L : List Flow) (c : ByteArray) (w : World) (h : FlowsV w v L) (hr : riseK Flow.code L = true) (hL : L.length ≤ 1000) :
    Calls Tryz.prog 108 #[v, .string c] w fun e w' => e = .returned (.tuple #[.int .i64 (placeK Flow.code L c : Nat), .bool (isK Flow.code L c)]) ∧ Below w.heap.size w w' := by
  have HS := Lib.hid (search_any v L c w h hr hL)
  obtain ⟨pl, hpl⟩ : ∃ pl, placeK Flow.code L c = pl := ⟨_, rfl⟩
  obtain ⟨is, his⟩ : ∃ is, isK Flow.code L c = is := ⟨_, rfl⟩
  rw [hpl, his] at HS ⊢
  clear hpl his h hr
  go_enter Tryz.func108, Tryz.ntmps108
  go_wp2_with (go_at_call 126; refine HS.out.mono ?_; rintro e w' ⟨rfl, hb'⟩)
  go_ret2
  exact ⟨rfl, hb'⟩
set_option maxRecDepth 100000 in
set_option maxHeartbeats 4000000 in
theorem kind_any (v : Value) (L : List Flow) (c : ByteArray) (w : World) (h : FlowsV w v L) (hr : riseK Flow.code L = true) (hL : L.length ≤ 1000) :
    Calls Tryz.prog 87 #[v, .string c] w fun e w' => e = .returned (.tuple #[.int .i64 (kindL L c), .bool (isK Flow.code L c)]) ∧ Below w.heap.size w w' := by
  have HP := Lib.hid (place_any v L c w h hr hL)
  obtain ⟨pl, hpl⟩ : ∃ pl, placeK Flow.code L c = pl := ⟨_, rfl⟩
  obtain ⟨is, his⟩ : ∃ is, isK Flow.code L c = is := ⟨_, rfl⟩
  obtain ⟨k, hk⟩ : ∃ k, kindL L c = k := ⟨_, rfl⟩
  rw [hpl, his] at HP
  rw [his, hk]
  have HPL := Lib.hid hpl
  have HIS := Lib.hid his
  have HK := Lib.hid hk
  obtain ⟨p, cap, rfl, hcap, hm, _, hc⟩ := h
  unfold maxLen at hm
  have HC := Lib.hid hc
  clear hpl his hk hc hr
  cases is with
  | false =>
    have hk0 : Hid (k = 0) := Lib.hid (by rw [← HK.out]; unfold kindL; rw [HIS.out]; rfl)
    go_enter Tryz.func87, Tryz.ntmps87
    go_wp2_with (go_at_call 108; refine HP.out.mono ?_; rintro e w' ⟨rfl, hb'⟩)
    go_ret2
    exact ⟨by rw [hk0.out]; rfl, hb'⟩
  | true =>
    have hx : ∃ x, L[pl]? = some x ∧ x.kind = k := by
      have h1 := HIS.out
      have h2 := HK.out
      unfold kindL at h2
      rw [h1, HPL.out] at h2
      unfold isK at h1
      rw [HPL.out] at h1
      cases hx : L[pl]? with
      | none => rw [hx] at h1; cases h1
      | some x => rw [hx] at h2; exact ⟨x, rfl, h2⟩
    obtain ⟨x, hx, hxk⟩ := hx
    have hpn : pl < L.length := (List.getElem?_eq_some_iff.1 hx).1
    obtain ⟨b, o, rfl, hat⟩ := HC.out _ x hx
    have HAT := Lib.hid hat
    have HXK := Lib.hid hxk
    obtain ⟨n, hn⟩ : ∃ n, L.length = n := ⟨_, rfl⟩
    rw [hn] at hpn hcap hL HP ⊢
    clear hx hat hxk hn
    go_enter Tryz.func87, Tryz.ntmps87
    go_wp2_with (go_at_call 108; refine HP.out.mono ?_; rintro e w' ⟨rfl, hb'⟩; obtain ⟨c0, c1⟩ := two (HAT.out.keep hb' HAT.out.lt))
    go_ret2
    exact ⟨by rw [← HXK.out]; rfl, hb'⟩
end Go.Proofs.YticdmlijacnjbaaGreatDoor.Fl
/- A statement that leaves its order open, whose operations only read and whose callees leave all that was there: walked once, in the order of the text; the worlds in between are those that keep what was there. -/
namespace Go.Proofs.YticdmlijacnjbaaGreatDoor
open Go.RowKit

/-- A world that keeps all that lies in w. -/
structure Past (w : World) where
  to : World
  below : Below w.heap.size w to
instance (w : World) : Nonempty (Past w) := ⟨⟨w, Below.refl _ _⟩⟩
theorem wp_region_past {P : Program} {id : Nat} {Q : Exit → Act → World → Prop} {a : Act} {w : World} {l : List Oper} (hm : P.follows .mixedOrders = true) (hB : Region.lexB .any l.toArray = true)
    (h : wpQuiet P l.toArray (fun w' => ∃ p : Past w, w' = p.to) (fun a' => ∀ w', (∃ p : Past w, w' = p.to) → Q .normal a' w') l a) : (Code.region id l.toArray true).wp P Q a w :=
  wp_region_quiet (C := fun w' => ∃ p : Past w, w' = p.to) hm hB ⟨⟨w.drew, ⟨rfl, rfl, rfl, Nat.le_refl _, fun _ _ => rfl⟩⟩, rfl⟩ (by simpa using h)
theorem cell_past {w : World} {ad : Addr} {v : Value} (h : w.cell? ad = some v) (p : Past w) : p.to.cell? ad = some v :=
  (p.below.cell (World.block_lt_of_cell? w _ h)).trans h
theorem Calls.past_of {P : Program} {f : FuncId} {args : Array Value} {w : World} {p : Past w} {v : Value} (h : Calls P f args p.to fun e w' => e = .returned v ∧ Below p.to.heap.size p.to w') :
    Calls P f args p.to fun e w'' => e = .returned v ∧ ∃ p' : Past w, w'' = p'.to :=
  h.mono fun _ w'' ⟨he, hb⟩ => ⟨he, ⟨w'', p.below.trans (hb.mono p.below.size)⟩, rfl⟩
theorem OwnI.keepB {k : IntKind} {w w' : World} {B : Nat} {e : TypeId} {v : Value} {l : List Int} (h : OwnI k w B e v l) (hb : Below w.heap.size w w') : OwnI k w' B e v l :=
  World.ownsRow.kept h (row := none) ⟨hb.os, hb.tape, hb.output, hb.size, fun j hj _ => hb.block j hj⟩ (by
    cases v.ownBlock with
    | none => exact .inl rfl
    | some g => exact .inr (by simp))
end Go.Proofs.YticdmlijacnjbaaGreatDoor
/- How entities and lines stand, and how they lie: the walks of their methods 'against' and of cmp.Or at two numbers. What was there stays. -/
namespace Go.Proofs.YticdmlijacnjbaaGreatDoor.Un
open Go.RowKit

theorem ent2 {w : World} {b o : Nat} {f : Ent} (h : ElAt encE w b o f) : w.cell? ⟨b, o, none⟩ = some (.string f.code) ∧ w.cell? ⟨b, o + 1, none⟩ = some (.string f.cur) := ⟨h 0 _ rfl, h 1 _ rfl⟩
theorem lin3 {w : World} {b o : Nat} {f : Lin} (h : ElAt encL w b o f) : w.cell? ⟨b, o, none⟩ = some (.string f.acc) ∧ w.cell? ⟨b, o + 1, none⟩ = some (.string f.flow) ∧ w.cell? ⟨b, o + 2, none⟩ = some (.string f.to) := ⟨h 0 _ rfl, h 1 _ rfl, h 2 _ rfl⟩
abbrev aggE (f : Ent) : Value := .agg #[.string f.code, .string f.cur]
abbrev aggN (f : Lin) : Value := .agg #[.string f.acc, .string f.flow, .string f.to]
/-- How an entity stands to another; a line. -/
def cmpE (x y : Ent) : Int := Fl.cmpB x.code y.code
def cmpN (x y : Lin) : Int := if Fl.cmpB x.acc y.acc = 0 then Fl.cmpB x.flow y.flow else Fl.cmpB x.acc y.acc
theorem cmpE_lt (x y : Ent) : decide (cmpE x y < 0) = G.KeyO.lt x.code y.code := Fl.cmpB_lt _ _
theorem cmpE_eq (x y : Ent) : (cmpE x y == 0) = decide (x.code = y.code) := Fl.cmpB_eq _ _
theorem cmpB_zero (x y : ByteArray) : Fl.cmpB x y = 0 ↔ x = y := by
  have := Fl.cmpB_eq x y
  rw [Bool.eq_iff_iff, beq_iff_eq, decide_eq_true_eq] at this
  exact this
theorem cmpN_lt (x y : Lin) : decide (cmpN x y < 0) = G.KeyO.lt x.key y.key := by
  show _ = G.ltP x.key y.key
  unfold cmpN
  by_cases h : Fl.cmpB x.acc y.acc = 0
  · rw [if_pos h, Fl.cmpB_lt]
    have e := (cmpB_zero _ _).1 h
    unfold G.ltP Lin.key
    simp only [e, ltS_irr, decide_true, Bool.false_or, Bool.true_and]
  · rw [if_neg h, Fl.cmpB_lt]
    have e : x.acc ≠ y.acc := fun e => h ((cmpB_zero _ _).2 e)
    unfold G.ltP Lin.key
    simp only [e, decide_false, Bool.false_and, Bool.or_false]
theorem cmpN_eq (x y : Lin) : (cmpN x y == 0) = decide (x.key = y.key) := by
  rw [Bool.eq_iff_iff, beq_iff_eq, decide_eq_true_eq]
  unfold cmpN Lin.key
  by_cases h : Fl.cmpB x.acc y.acc = 0
  · rw [if_pos h, cmpB_zero, Prod.mk.injEq]
    exact ⟨fun e => ⟨(cmpB_zero _ _).1 h, e⟩, fun e => e.2⟩
  · rw [if_neg h, Prod.mk.injEq]
    exact ⟨fun e => absurd e h, fun e => absurd ((cmpB_zero _ _).2 e.1) h⟩
set_option maxHeartbeats 1000000 in
theorem againstE_any (x y : Ent) (w : World) :
    Calls Tryz.prog 83 #[aggE x, aggE y] w fun e w' => e = .returned (.int .i64 (cmpE x y)) ∧ Below w.heap.size w w' := by
  have HB := Lib.hid (((Below.refl w.heap.size w).alloc (Nat.le_refl _) (.cells #[.string x.code, .string x.cur] 65)).alloc (by simp) (.cells #[.string y.code, .string y.cur] 65))
  go_enter Tryz.func83, Tryz.ntmps83
  go_wp2_with (go_at_call 114; refine (Fl.compare_any _ _ _).mono ?_; rintro e w' ⟨rfl, rfl⟩)
  go_ret
  exact ⟨rfl, HB.out⟩
/-- cmp.Or at two numbers. -/
def orI (x y : Int) : Int := if x = 0 then y else x
set_option maxHeartbeats 1000000 in
theorem cmpOr_any (x y : Int) (b : Nat) (w : World) (c0 : w.cell? ⟨b, 0, none⟩ = some (.int .i64 x)) (c1 : w.cell? ⟨b, 1, none⟩ = some (.int .i64 y)) :
    Calls Tryz.prog 117 #[.slice (some ⟨b, 0, none⟩) 2 2] w fun e w' => e = .returned (.int .i64 (orI x y)) ∧ w' = w := by
  by_cases hx : x = 0
  · subst hx
    by_cases hy : y = 0
    · subst hy
      go_enter Tryz.func117, Tryz.ntmps117
      go_wp2
      refine wp_loop_rounds 3 ?_
      rw [rounds_succ]
      go_wp2
      rw [rounds_succ]
      go_wp2
      rw [rounds_succ]
      go_wp2
      go_ret
      exact ⟨rfl, rfl⟩
    · have e : orI 0 y = y := by simp [orI]
      rw [e]
      go_enter Tryz.func117, Tryz.ntmps117
      go_wp2
      refine wp_loop_rounds 2 ?_
      rw [rounds_succ]
      go_wp2
      rw [rounds_succ]
      go_wp2
      go_ret
      exact ⟨rfl, rfl⟩
  · have e : orI x y = x := by simp [orI, hx]
    rw [e]
    go_enter Tryz.func117, Tryz.ntmps117
    go_wp2
    refine wp_loop_rounds 1 ?_
    rw [rounds_succ]
    go_wp2
    go_ret
    exact ⟨rfl, rfl⟩
end Go.Proofs.YticdmlijacnjbaaGreatDoor.Un
