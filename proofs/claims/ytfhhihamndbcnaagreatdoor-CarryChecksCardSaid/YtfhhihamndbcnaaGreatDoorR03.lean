/- Shelf CentPlain FaPlain -/
import Derived.Lib.Bytealg
import Derived.Shelf.LaysC
import Derived.Shelf.LaysM
import Derived.Shelf.Strconv.ErrVarParseInt
import Derived.Shelf.Strconv.ParseIntPublic10
import Derived.Shelf.Strings.FieldsFuncAny
import Derived.Shelf.Strings.Search2
import Derived.Test.YtfhhihamndbcnaaGreatDoorProg
import Derived.Test.YtfhhihamndbcnaaGreatDoorR01
section
namespace Go.Proofs
open Go.Shelf
def Tryz.laysC174_ren:Go.Shelf.Ren:=⟨fun | 174=>164 | 247=>184 | 245=>185 | 287=>193 | 279=>194 | 280=>195 | 281=>196 | 282=>197 | 321=>203 | 322=>204 | 316=>205 | 171=>207 | 205=>206 | 243=>208 | 246=>209 | 283=>210 | 284=>211 | 285=>212 | 286=>213 | 129=>215 | 317=>214 | 318=>216 | 319=>217 | 320=>218 | 337=>219 | 338=>220 | n=>n,fun | 9=>9 | 3=>3 | 2=>2 | 75=>264 | 85=>265 | 4=>4 | 167=>287 | 5=>5 | 53=>288 | 175=>289 | 46=>156 | 168=>291 | 37=>299 | 0=>0 | 210=>301 | 21=>21 | 127=>304 | 145=>307 | 143=>305 | 171=>309 | 173=>312 | 212=>315 | 51=>284 | 20=>20 | 213=>316 | 232=>319 | 233=>320 | 80=>321 | n=>n,fun | 15=>3 | 16=>4 | 17=>5 | 18=>6 | 19=>7 | n=>n⟩
theorem Tryz.laysC174:Go.Proofs.LaysC.n174 Tryz.prog Tryz.laysC174_ren:={
 mixed:=by kernel_rfl
 f129:=Tryz.func215.trans (congrArg some (by kernel_rfl))
 f171:=Tryz.func207.trans (congrArg some (by kernel_rfl))
 f174:=Tryz.func164.trans (congrArg some (by kernel_rfl))
 f205:=Tryz.func206.trans (congrArg some (by kernel_rfl))
 f243:=Tryz.func208.trans (congrArg some (by kernel_rfl))
 f245:=Tryz.func185.trans (congrArg some (by kernel_rfl))
 f246:=Tryz.func209.trans (congrArg some (by kernel_rfl))
 f247:=Tryz.func184.trans (congrArg some (by kernel_rfl))
 f279:=Tryz.func194.trans (congrArg some (by kernel_rfl))
 f280:=Tryz.func195.trans (congrArg some (by kernel_rfl))
 f281:=Tryz.func196.trans (congrArg some (by kernel_rfl))
 f282:=Tryz.func197.trans (congrArg some (by kernel_rfl))
 f283:=Tryz.func210.trans (congrArg some (by kernel_rfl))
 f284:=Tryz.func211.trans (congrArg some (by kernel_rfl))
 f285:=Tryz.func212.trans (congrArg some (by kernel_rfl))
 f286:=Tryz.func213.trans (congrArg some (by kernel_rfl))
 f287:=Tryz.func193.trans (congrArg some (by kernel_rfl))
 f316:=Tryz.func205.trans (congrArg some (by kernel_rfl))
 f317:=Tryz.func214.trans (congrArg some (by kernel_rfl))
 f318:=Tryz.func216.trans (congrArg some (by kernel_rfl))
 f319:=Tryz.func217.trans (congrArg some (by kernel_rfl))
 f320:=Tryz.func218.trans (congrArg some (by kernel_rfl))
 f321:=Tryz.func203.trans (congrArg some (by kernel_rfl))
 f322:=Tryz.func204.trans (congrArg some (by kernel_rfl))
 f337:=Tryz.func219.trans (congrArg some (by kernel_rfl))
 f338:=Tryz.func220.trans (congrArg some (by kernel_rfl))
 t0:=Tryz.underlying0
 a0:=Tryz.isAgg0
 z0:=Tryz.sizeOf0
 v0:=Tryz.zeroValue0
 t2:=Tryz.underlying2
 a2:=Tryz.isAgg2
 z2:=Tryz.sizeOf2
 v2:=Tryz.zeroValue2
 t3:=Tryz.underlying3
 a3:=Tryz.isAgg3
 z3:=Tryz.sizeOf3
 v3:=Tryz.zeroValue3
 t4:=Tryz.underlying4
 a4:=Tryz.isAgg4
 z4:=Tryz.sizeOf4
 v4:=Tryz.zeroValue4
 t5:=Tryz.underlying5
 a5:=Tryz.isAgg5
 z5:=Tryz.sizeOf5
 v5:=Tryz.zeroValue5
 t9:=Tryz.underlying9
 a9:=Tryz.isAgg9
 z9:=Tryz.sizeOf9
 v9:=Tryz.zeroValue9
 t20:=Tryz.underlying20
 a20:=Tryz.isAgg20
 z20:=Tryz.sizeOf20
 v20:=Tryz.zeroValue20
 t21:=Tryz.underlying21
 a21:=Tryz.isAgg21
 z21:=Tryz.sizeOf21
 v21:=Tryz.zeroValue21
 t37:=Tryz.underlying299
 a37:=Tryz.isAgg299
 z37:=Tryz.sizeOf299
 v37:=Tryz.zeroValue299
 t46:=Tryz.underlying156
 a46:=Tryz.isAgg156
 z46:=Tryz.sizeOf156
 v46:=Tryz.zeroValue156
 t51:=Tryz.underlying284
 a51:=Tryz.isAgg284
 z51:=Tryz.sizeOf284
 v51:=Tryz.zeroValue284
 t53:=Tryz.underlying288
 a53:=Tryz.isAgg288
 z53:=Tryz.sizeOf288
 v53:=Tryz.zeroValue288
 t75:=Tryz.underlying264
 a75:=Tryz.isAgg264
 z75:=Tryz.sizeOf264
 v75:=Tryz.zeroValue264
 t85:=Tryz.underlying265
 a85:=Tryz.isAgg265
 z85:=Tryz.sizeOf265
 v85:=Tryz.zeroValue265
 t127:=Tryz.underlying304
 a127:=Tryz.isAgg304
 z127:=Tryz.sizeOf304
 v127:=Tryz.zeroValue304
 t143:=Tryz.underlying305
 a143:=Tryz.isAgg305
 z143:=Tryz.sizeOf305
 v143:=Tryz.zeroValue305
 t145:=Tryz.underlying307
 a145:=Tryz.isAgg307
 z145:=Tryz.sizeOf307
 v145:=Tryz.zeroValue307
 t167:=Tryz.underlying287
 a167:=Tryz.isAgg287
 z167:=Tryz.sizeOf287
 v167:=Tryz.zeroValue287
 t168:=Tryz.underlying291
 a168:=Tryz.isAgg291
 z168:=Tryz.sizeOf291
 v168:=Tryz.zeroValue291
 t171:=Tryz.underlying309
 a171:=Tryz.isAgg309
 z171:=Tryz.sizeOf309
 v171:=Tryz.zeroValue309
 t173:=Tryz.underlying312
 a173:=Tryz.isAgg312
 z173:=Tryz.sizeOf312
 v173:=Tryz.zeroValue312
 t175:=Tryz.underlying289
 a175:=Tryz.isAgg289
 z175:=Tryz.sizeOf289
 v175:=Tryz.zeroValue289
 t210:=Tryz.underlying301
 a210:=Tryz.isAgg301
 z210:=Tryz.sizeOf301
 v210:=Tryz.zeroValue301
 t212:=Tryz.underlying315
 a212:=Tryz.isAgg315
 z212:=Tryz.sizeOf315
 v212:=Tryz.zeroValue315
 t213:=Tryz.underlying316
 a213:=Tryz.isAgg316
 z213:=Tryz.sizeOf316
 t232:=Tryz.underlying319
 a232:=Tryz.isAgg319
 z232:=Tryz.sizeOf319
 v232:=Tryz.zeroValue319
 t233:=Tryz.underlying320
 a233:=Tryz.isAgg320
 z233:=Tryz.sizeOf320
 v233:=Tryz.zeroValue320
 g15:=by kernel_rfl
 g16:=by kernel_rfl
 g17:=by kernel_rfl
 g18:=by kernel_rfl
 g19:=by kernel_rfl
 t80:=Tryz.underlying321
 a80:=Tryz.isAgg321
 z80:=Tryz.sizeOf321
 v80:=Tryz.zeroValue321
 i0:=by kernel_rfl
 i2:=by kernel_rfl
 i3:=by kernel_rfl
 i4:=by kernel_rfl
 i5:=by kernel_rfl
 i9:=by kernel_rfl
 i20:=by kernel_rfl
 i21:=by kernel_rfl
 i37:=by kernel_rfl
 i46:=by kernel_rfl
 i51:=by kernel_rfl
 i53:=by kernel_rfl
 i75:=by kernel_rfl
 i80:=by kernel_rfl
 i85:=by kernel_rfl
 i127:=by kernel_rfl
 i143:=by kernel_rfl
 i145:=by kernel_rfl
 i167:=by kernel_rfl
 i168:=by kernel_rfl
 i171:=by kernel_rfl
 i173:=by kernel_rfl
 i175:=by kernel_rfl
 i210:=by kernel_rfl
 i212:=by kernel_rfl
 i232:=by kernel_rfl
 i233:=by kernel_rfl
 m15:=by kernel_rfl
 m16:=by kernel_rfl
 m17:=by kernel_rfl
 m18:=by kernel_rfl
 m19:=by kernel_rfl
 c0:=by kernel_rfl
 c2:=by kernel_rfl
 c3:=by kernel_rfl
 c4:=by kernel_rfl
 c5:=by kernel_rfl
 c9:=by kernel_rfl
 c20:=by kernel_rfl
 c21:=by kernel_rfl
 c37:=by kernel_rfl
 c46:=by kernel_rfl
 c51:=by kernel_rfl
 c53:=by kernel_rfl
 c75:=by kernel_rfl
 c80:=by kernel_rfl
 c85:=by kernel_rfl
 c127:=by kernel_rfl
 c143:=by kernel_rfl
 c145:=by kernel_rfl
 c167:=by kernel_rfl
 c168:=by kernel_rfl
 c171:=by kernel_rfl
 c173:=by kernel_rfl
 c175:=by kernel_rfl
 c210:=by kernel_rfl
 c212:=by kernel_rfl
 c213:=by kernel_rfl
 c232:=by kernel_rfl
 c233:=by kernel_rfl }
open Go.RowKit in
theorem Tryz.strconv_ParseInt_10_at64_ok (s:ByteArray) (hmax:s.size≤9223372036854775806) (v:Int) (h:Lib.parseIntB 64 s.data.toList=.ok v) (w:World) :
 Calls Tryz.prog 164 #[.string s,.int .i64 10,.int .i64 64] w fun e w'=>e=.returned (.tuple #[.int .i64 v,.nilIface])∧(w'=w∨∃ t,w'=Lib.bytesWorld w 5 t):=Any.strconv_ParseInt_10_at64_ok Tryz.laysC174 s hmax v h w
open Go.RowKit in
theorem Tryz.strconv_ParseInt_10_at64_range_var (s:ByteArray) (hlim:s.size≤281474976710656) (h:Lib.parseIntB 64 s.data.toList=.range) (tp:TypeId) (p:Value) (w:World) (hvar:w.var? Tryz.prog "strconv.ErrRange"=some #[.iface tp p]) :
 Calls Tryz.prog 164 #[.string s,.int .i64 10,.int .i64 64] w fun e w'=>∃ N,e=.returned (.tuple #[.int .i64 (Lib.intSat 64 s.data.toList),.iface 291 (.pointer (some ⟨N,0,none⟩))])∧w.heap.size≤N∧w'.heap[N]?=some (.cells #[.string ⟨#[80,97,114,115,101,73,110,116]⟩,.string s,.iface tp p] 301 (0,0))∧Below w.heap.size w w':=Any.strconv_ParseInt_10_at64_range_var Tryz.laysC174 s hlim h tp p w hvar
def Tryz.lays219_ren:Go.Shelf.Ren:=⟨fun | 219=>161 | 217=>178 | 225=>179 | 224=>180 | 267=>181 | 266=>191 | 314=>192 | n=>n,fun | 9=>9 | 3=>3 | 4=>4 | 5=>5 | 46=>156 | 146=>285 | 51=>284 | n=>n,fun | 1=>0 | n=>n⟩
theorem Tryz.lays219:Go.Proofs.Lays.n219 Tryz.prog Tryz.lays219_ren:={
 mixed:=by kernel_rfl
 f217:=Tryz.func178.trans (congrArg some (by kernel_rfl))
 f219:=Tryz.func161.trans (congrArg some (by kernel_rfl))
 f224:=Tryz.func180.trans (congrArg some (by kernel_rfl))
 f225:=Tryz.func179.trans (congrArg some (by kernel_rfl))
 f266:=Tryz.func191.trans (congrArg some (by kernel_rfl))
 f267:=Tryz.func181.trans (congrArg some (by kernel_rfl))
 f314:=Tryz.func192.trans (congrArg some (by kernel_rfl))
 t3:=Tryz.underlying3
 a3:=Tryz.isAgg3
 z3:=Tryz.sizeOf3
 v3:=Tryz.zeroValue3
 t4:=Tryz.underlying4
 a4:=Tryz.isAgg4
 z4:=Tryz.sizeOf4
 v4:=Tryz.zeroValue4
 t5:=Tryz.underlying5
 a5:=Tryz.isAgg5
 z5:=Tryz.sizeOf5
 v5:=Tryz.zeroValue5
 t9:=Tryz.underlying9
 a9:=Tryz.isAgg9
 z9:=Tryz.sizeOf9
 v9:=Tryz.zeroValue9
 t46:=Tryz.underlying156
 a46:=Tryz.isAgg156
 z46:=Tryz.sizeOf156
 v46:=Tryz.zeroValue156
 t51:=Tryz.underlying284
 a51:=Tryz.isAgg284
 z51:=Tryz.sizeOf284
 v51:=Tryz.zeroValue284
 t146:=Tryz.underlying285
 a146:=Tryz.isAgg285
 z146:=Tryz.sizeOf285
 v146:=Tryz.zeroValue285
 g1:=by kernel_rfl }
open Go.RowKit Go.Lib in
theorem Tryz.stringslite_Index_one (s:ByteArray) (c:UInt8) (w:World) :
 Calls Tryz.prog 161 #[.string s,.string ⟨#[c]⟩] w fun e w'=>e=.returned (.int .i64 (Lib.indexByte s.data.toList c))∧w'=w:=Any.stringslite_Index_one Tryz.lays219 s c w
def Tryz.lays229_ren:Go.Shelf.Ren:=⟨fun | 229=>97 | n=>n,fun | 9=>9 | 40=>192 | 31=>102 | 152=>237 | 3=>3 | 0=>0 | 4=>4 | 21=>21 | 154=>239 | n=>n,fun | n=>n⟩
theorem Tryz.lays229:Go.Proofs.Lays.n229 Tryz.prog Tryz.lays229_ren:={
 mixed:=by kernel_rfl
 f229:=Tryz.func97.trans (congrArg some (by kernel_rfl))
 t0:=Tryz.underlying0
 a0:=Tryz.isAgg0
 z0:=Tryz.sizeOf0
 v0:=Tryz.zeroValue0
 t3:=Tryz.underlying3
 a3:=Tryz.isAgg3
 z3:=Tryz.sizeOf3
 v3:=Tryz.zeroValue3
 t4:=Tryz.underlying4
 a4:=Tryz.isAgg4
 z4:=Tryz.sizeOf4
 v4:=Tryz.zeroValue4
 t9:=Tryz.underlying9
 a9:=Tryz.isAgg9
 z9:=Tryz.sizeOf9
 v9:=Tryz.zeroValue9
 t21:=Tryz.underlying21
 a21:=Tryz.isAgg21
 z21:=Tryz.sizeOf21
 v21:=Tryz.zeroValue21
 t31:=Tryz.underlying102
 a31:=Tryz.isAgg102
 z31:=Tryz.sizeOf102
 v31:=Tryz.zeroValue102
 t40:=Tryz.underlying192
 a40:=Tryz.isAgg192
 z40:=Tryz.sizeOf192
 v40:=Tryz.zeroValue192
 t152:=Tryz.underlying237
 a152:=Tryz.isAgg237
 z152:=Tryz.sizeOf237
 v152:=Tryz.zeroValue237
 t154:=Tryz.underlying239
 a154:=Tryz.isAgg239
 z154:=Tryz.sizeOf239
 v154:=Tryz.zeroValue239 }
open Go.RowKit Go.Lib in
theorem Tryz.strings_FieldsFunc_runes (g:Nat) (lb:Array Value) (eg:∀ args w,(callFunc g args).run Tryz.prog w=.ok (.enter g args) w) (p:Nat→Bool) (s:ByteArray) (w:World) (hs:s.size≤4294967296) (hp:PredAtRunes Tryz.prog g lb p w) :
 Calls Tryz.prog 97 #[.string s,.func (.func g) #[] lb] w fun e w'=>∃ A,e=.returned (.slice (some ⟨A,0,none⟩) (Lib.goFieldsP p s).length (Lib.goFieldsP p s).length)∧w.heap.size≤A ∧
  w'.ownsRow w.heap.size 9 1 (.slice (some ⟨A,0,none⟩) (Lib.goFieldsP p s).length (Lib.goFieldsP p s).length) (Lib.goFieldsP p s).length ((Lib.goFieldsP p s).map Value.string)∧Below w.heap.size w w':=Any.strings_FieldsFunc_runes Tryz.lays229 g lb eg p s w hs hp (by kernel_rfl) (by kernel_rfl)
end Go.Proofs
end
section
namespace Go.Proofs.YtfhhihamndbcnaaGreatDoor
open Go.RowKit (wrap64)
def addCV (a b:Int):Int:=if fit (a+b)=true then a+b else 0
def addCE (a b:Int):Int:=if fit (a+b)=true then 0 else 2
def sumFrom (n:Int):List Int→Int × Int
 | []=>(n,0)
 | a::r=>if fit (n+a)=true then sumFrom (n+a) r else (0,2)
theorem addV_yes {a b:Int} (h:fit (a+b)=true):addCV a b=a+b:=by simp [addCV,h]
theorem addE_yes {a b:Int} (h:fit (a+b)=true):addCE a b=0:=by simp [addCE,h]
theorem addV_no {a b:Int} (h:fit (a+b)=false):addCV a b=0:=by simp [addCV,h]
theorem addE_no {a b:Int} (h:fit (a+b)=false):addCE a b=2:=by simp [addCE,h]
theorem sumFrom_yes {n a:Int} (r:List Int) (h:fit (n+a)=true):sumFrom n (a::r)=sumFrom (n+a) r:=by simp [sumFrom,h]
theorem sumFrom_no {n a:Int} (r:List Int) (h:fit (n+a)=false):sumFrom n (a::r)=(0,2):=by simp [sumFrom,h]
theorem fit_sumFrom (l:List Int):∀ n:Int,fit n=true→fit (sumFrom n l).1=true:=by
 induction l with
 | nil=>intro n h;exact h
 | cons a r ih =>
   intro n h
   cases hf:fit (n+a) with
   | false=>rw [sumFrom_no r hf];decide
   | true=>rw [sumFrom_yes r hf];exact ih _ hf
theorem wrap_over {n:Int} (h1:9223372036854775807 < n) (h2:n≤18446744073709551615):wrap64 n=n - 18446744073709551616:=by unfold wrap64;omega
theorem wrap_under {n:Int} (h1:n < -9223372036854775808) (h2:-18446744073709551616≤n):wrap64 n=n+18446744073709551616:=by unfold wrap64;omega
theorem add_over {a b:Int} (a1:a≤9223372036854775807) (b1:b≤9223372036854775807) (h:9223372036854775807 < a+b):wrap64 (a+b) < a∧0 < b:=by
 rw [wrap_over h (by omega)];omega
theorem add_under {a b:Int} (a1:-9223372036854775808≤a) (b1:-9223372036854775808≤b) (h:a+b < -9223372036854775808):a < wrap64 (a+b)∧b < 0:=by
 rw [wrap_under h (by omega)];omega
end Go.Proofs.YtfhhihamndbcnaaGreatDoor
end
section
namespace Go.Proofs.YtfhhihamndbcnaaGreatDoor.Fa
structure IsCmp {α:Type} (c:α→α→Int):Prop where
 eq0:∀ x y,c x y=0 ↔ x=y
 neg:∀ x y,c y x=-c x y
 trans:∀ {x y z},c x y < 0→c y z < 0→c x z < 0
def orI (x y:Int):Int:=if x=0 then y else x
theorem orI_lt {x y:Int}:orI x y < 0 ↔ x < 0∨(x=0∧y < 0):=by unfold orI;split <;> omega
theorem orI_zero {x y:Int}:orI x y=0 ↔ x=0∧y=0:=by unfold orI;split <;> omega
theorem orI_neg (x y:Int):orI (-x) (-y)=-orI x y:=by unfold orI;(repeat' split) <;> omega
theorem IsCmp.pair {α β:Type} {c:α→α→Int} {d:β→β→Int} (hc:IsCmp c) (hd:IsCmp d):IsCmp (fun x y:α × β=>orI (c x.1 y.1) (d x.2 y.2)) where
 eq0 x y:=by rw [orI_zero,hc.eq0,hd.eq0,Prod.ext_iff]
 neg x y:=by
  show orI (c y.1 x.1) (d y.2 x.2)=-orI (c x.1 y.1) (d x.2 y.2)
  rw [hc.neg x.1 y.1,hd.neg x.2 y.2,orI_neg]
 trans:=by
  intro x y z h1 h2
  rw [orI_lt] at *
  rcases h1 with h1 | ⟨e1,h1⟩ <;> rcases h2 with h2 | ⟨e2,h2⟩
  ·exact .inl (hc.trans h1 h2)
  ·exact .inl (by rw [←(hc.eq0 _ _).1 e2];exact h1)
  ·exact .inl (by rw [(hc.eq0 _ _).1 e1];exact h2)
  ·exact .inr ⟨by rw [(hc.eq0 _ _).1 e1];exact e2,hd.trans h1 h2⟩
def cmpI (a b:Int):Int:=if a < b then -1 else if b < a then 1 else 0
theorem isCmp_int:IsCmp cmpI where
 eq0 x y:=by unfold cmpI;(repeat' split) <;> omega
 neg x y:=by unfold cmpI;(repeat' split) <;> omega
 trans:=by intro x y z;unfold cmpI;(repeat' split) <;> omega
theorem cmpL_eq0:∀ (x y:List UInt8),Lib.compareBytes x y=0 ↔ x=y
 | [],[]=>by simp [Lib.compareBytes]
 | [],_::_=>by simp [Lib.compareBytes]
 | _::_,[]=>by simp [Lib.compareBytes]
 | a::x,b::y=>by
   have ih:=cmpL_eq0 x y
   unfold Lib.compareBytes
   by_cases h1:a < b
   ·have:a≠b:=by
     rintro rfl
     rw [UInt8.lt_iff_toNat_lt] at h1;omega
    simp [h1,this]
   ·by_cases h2:b < a
    ·have:a≠b:=by
      rintro rfl
      exact h1 h2
     simp [h1,h2,this]
    ·have:a=b:=by
      rw [UInt8.lt_iff_toNat_lt] at h1 h2
      exact UInt8.toNat_inj.1 (by omega)
     subst this
     simp [h1,ih]
theorem cmpL_neg:∀ (x y:List UInt8),Lib.compareBytes y x=-Lib.compareBytes x y
 | [],[]=>by simp [Lib.compareBytes]
 | [],_::_=>by simp [Lib.compareBytes]
 | _::_,[]=>by simp [Lib.compareBytes]
 | a::x,b::y=>by
   have ih:=cmpL_neg x y
   unfold Lib.compareBytes
   by_cases h1:a < b
   ·have h2:¬ b < a:=by rw [UInt8.lt_iff_toNat_lt] at *;omega
    simp [h1,h2]
   ·by_cases h2:b < a
    ·simp [h1,h2]
    ·simp [h1,h2,ih]
theorem cmpL_trans:∀ (x y z:List UInt8),Lib.compareBytes x y < 0→Lib.compareBytes y z < 0→Lib.compareBytes x z < 0
 | [],y,[],h1,h2=>by cases y <;> simp [Lib.compareBytes] at h1 h2
 | [],_,c::z,_,_=>by simp [Lib.compareBytes]
 | a::x,[],z,h1,_=>by simp [Lib.compareBytes] at h1
 | a::x,b::y,[],_,h2=>by simp [Lib.compareBytes] at h2
 | a::x,b::y,c::z,h1,h2=>by
   have ih:=cmpL_trans x y z
   unfold Lib.compareBytes at h1 h2 ⊢
   by_cases h3:a < b
   ·by_cases h4:b < c
    ·have:a < c:=by rw [UInt8.lt_iff_toNat_lt] at *;omega
     simp [this]
    ·by_cases h5:c < b
     ·simp [h4,h5] at h2
     ·have:b=c:=by
       rw [UInt8.lt_iff_toNat_lt] at h4 h5
       exact UInt8.toNat_inj.1 (by omega)
      subst this
      simp [h3]
   ·by_cases h4:b < a
    ·simp [h3,h4] at h1
    ·have:a=b:=by
      rw [UInt8.lt_iff_toNat_lt] at h3 h4
      exact UInt8.toNat_inj.1 (by omega)
     subst this
     rw [if_neg h3,if_neg h3] at h1
     by_cases h5:a < c
     ·rw [if_pos h5];decide
     ·rw [if_neg h5] at h2 ⊢
      by_cases h6:c < a
      ·rw [if_pos h6] at h2;exact absurd h2 (by decide)
      ·rw [if_neg h6] at h2 ⊢
       exact ih h1 h2
def cmpB (x y:ByteArray):Int:=Lib.compareBytes x.data.toList y.data.toList
theorem data_inj' {x y:ByteArray} (h:x.data.toList=y.data.toList):x=y:=by
 cases x;cases y
 simp only [ByteArray.mk.injEq]
 exact Array.toList_inj.1 h
theorem isCmp_text:IsCmp cmpB where
 eq0 x y:=by unfold cmpB;rw [cmpL_eq0];exact ⟨data_inj',fun h=>by rw [h]⟩
 neg x y:=cmpL_neg _ _
 trans:=cmpL_trans _ _ _
structure Key where
 e:ByteArray
 a:ByteArray
 f:ByteArray
 p:ByteArray
 m:Int
deriving DecidableEq
structure Fact where
 key:Key
 amt:Int
deriving DecidableEq
instance : Inhabited Key:=⟨⟨⟨#[]⟩,⟨#[]⟩,⟨#[]⟩,⟨#[]⟩,0⟩⟩
instance : Inhabited Fact:=⟨⟨default,0⟩⟩
def Key.tup (k:Key):ByteArray × ByteArray × ByteArray × ByteArray × Int:=(k.e,k.a,k.f,k.p,k.m)
theorem Key.tup_inj {x y:Key}:x.tup=y.tup ↔ x=y:=by
 cases x;cases y
 simp [Key.tup]
def cmpK (x y:Key):Int:=orI (cmpB x.e y.e) (orI (cmpB x.a y.a) (orI (cmpB x.f y.f) (orI (cmpB x.p y.p) (cmpI x.m y.m))))
theorem isCmp_key:IsCmp cmpK:=by
 have h:=isCmp_text.pair (isCmp_text.pair (isCmp_text.pair (isCmp_text.pair isCmp_int)))
 exact ⟨fun x y=>(h.eq0 x.tup y.tup).trans Key.tup_inj,fun x y=>h.neg x.tup y.tup,fun {x y z}=>h.trans (x:=x.tup) (y:=y.tup) (z:=z.tup)⟩
def ltK (x y:Key):Prop:=cmpK x y < 0
instance (x y:Key):Decidable (ltK x y):=by unfold ltK;infer_instance
theorem ltK_trans {x y z:Key} (h1:ltK x y) (h2:ltK y z):ltK x z:=isCmp_key.trans h1 h2
theorem ltK_irr (x:Key):¬ ltK x x:=by unfold ltK;rw [(isCmp_key.eq0 x x).2 rfl];omega
theorem ltK_total {x y:Key} (h:¬ ltK x y) (hne:x≠y):ltK y x:=by
 unfold ltK at *
 have h0:cmpK x y≠0:=fun e=>hne ((isCmp_key.eq0 x y).1 e)
 rw [isCmp_key.neg x y];omega
theorem ltK_ne {x y:Key} (h:ltK x y):x≠y:=fun e=>by subst e;exact ltK_irr _ h
def Rise (L:List Key):Prop:=L.Pairwise ltK
def insU:List Key→Key→List Key
 | [],k=>[k]
 | a::r,k=>if k=a then a::r else if ltK k a then k::a::r else a::insU r k
theorem mem_insU {L:List Key} {k x:Key}:x∈insU L k ↔ x=k∨x∈L:=by
 induction L with
 | nil=>simp [insU]
 | cons a r ih =>
   unfold insU
   by_cases h:k=a
   ·subst h;simp
   ·rw [if_neg h]
    by_cases h2:ltK k a
    ·rw [if_pos h2];simp
    ·rw [if_neg h2,List.mem_cons,ih,List.mem_cons]
     constructor
     ·rintro (h | h | h) <;> simp [h]
     ·rintro (h | h | h) <;> simp [h]
theorem rise_insU {L:List Key} (k:Key) (h:Rise L):Rise (insU L k):=by
 induction L with
 | nil=>simp [insU,Rise]
 | cons a r ih =>
   obtain ⟨h1,h2⟩:=List.pairwise_cons.1 h
   unfold insU
   by_cases e:k=a
   ·rw [if_pos e];exact h
   ·rw [if_neg e]
    by_cases l:ltK k a
    ·rw [if_pos l]
     exact List.pairwise_cons.2 ⟨fun y hy=>by
      rcases List.mem_cons.1 hy with rfl | hy
      ·exact l
      ·exact ltK_trans l (h1 y hy),h⟩
    ·rw [if_neg l]
     refine List.pairwise_cons.2 ⟨fun y hy=>?_,ih h2⟩
     rcases mem_insU.1 hy with rfl | hy
     ·exact ltK_total l e
     ·exact h1 y hy
theorem insU_length (L:List Key) (k:Key):(insU L k).length≤L.length+1:=by
 induction L with
 | nil=>simp [insU]
 | cons a r ih =>
   unfold insU
   (repeat' split) <;> simp <;> omega
def keysFrom (A:List Key) (l:List Fact):List Key:=l.foldl (fun acc f=>insU acc f.key) A
def keysL (l:List Fact):List Key:=keysFrom [] l
theorem keysFrom_cons (A:List Key) (f:Fact) (l:List Fact):keysFrom A (f::l)=keysFrom (insU A f.key) l:=rfl
theorem mem_keysFrom {l:List Fact} {A:List Key} {k:Key}:k∈keysFrom A l ↔ k∈A∨∃ f∈l,f.key=k:=by
 induction l generalizing A with
 | nil=>simp [keysFrom]
 | cons f l ih =>
   rw [keysFrom_cons,ih,mem_insU]
   constructor
   ·rintro ((h | h) | ⟨g,hg,e⟩)
    ·exact .inr ⟨f,List.mem_cons_self ..,h.symm⟩
    ·exact .inl h
    ·exact .inr ⟨g,List.mem_cons_of_mem _ hg,e⟩
   ·rintro (h | ⟨g,hg,e⟩)
    ·exact .inl (.inr h)
    ·rcases List.mem_cons.1 hg with rfl | hg
     ·exact .inl (.inl e.symm)
     ·exact .inr ⟨g,hg,e⟩
theorem mem_keys {l:List Fact} {k:Key}:k∈keysL l ↔ ∃ f∈l,f.key=k:=by unfold keysL;rw [mem_keysFrom];simp
theorem rise_keysFrom {l:List Fact} {A:List Key} (h:Rise A):Rise (keysFrom A l):=by
 induction l generalizing A with
 | nil=>exact h
 | cons f l ih=>exact ih (rise_insU _ h)
theorem rise_keys (l:List Fact):Rise (keysL l):=rise_keysFrom List.Pairwise.nil
theorem keysFrom_length (l:List Fact) (A:List Key):(keysFrom A l).length≤A.length+l.length:=by
 induction l generalizing A with
 | nil=>exact Nat.le_refl _
 | cons f l ih =>
   have h1:=ih (insU A f.key)
   have h2:=insU_length A f.key
   rw [keysFrom_cons,List.length_cons];omega
theorem keys_length (l:List Fact):(keysL l).length≤l.length:=by have:=keysFrom_length l [];simpa [keysL] using this
def amts (l:List Fact) (k:Key):List Int:=(l.filter fun f=>decide (f.key=k)).map Fact.amt
def grps (l:List Fact):List (Key × List Int):=(keysL l).map fun k=>(k,amts l k)
theorem amts_length (l:List Fact) (k:Key):(amts l k).length≤l.length:=by unfold amts;rw [List.length_map];exact List.length_filter_le _ _
def putF (k:Key) (n:Int):List Fact:=if n=0 then [] else [⟨k,n⟩]
def runG:List (Key × List Int)→List Fact × Int
 | []=>([],0)
 | g::r=>if (sumFrom 0 g.2).2=0 then (if (runG r).2=0 then (putF g.1 (sumFrom 0 g.2).1++(runG r).1,0) else ([],(runG r).2)) else ([],(sumFrom 0 g.2).2)
def appG (c:List Fact) (x:List Fact × Int):List Fact × Int:=if x.2=0 then (c++x.1,0) else ([],x.2)
theorem appG_none (x:List (Key × List Int)):appG [] (runG x)=runG x:=by
 induction x with
 | nil=>rfl
 | cons g r ih =>
   unfold appG runG
   (repeat' split) <;> simp_all
theorem appG_yes (c:List Fact) (g:Key × List Int) (r:List (Key × List Int)) (h:(sumFrom 0 g.2).2=0):appG c (runG (g::r))=appG (c++putF g.1 (sumFrom 0 g.2).1) (runG r):=by
 unfold appG
 conv=>lhs;unfold runG
 rw [if_pos h]
 by_cases h2:(runG r).2=0
 ·simp [h2]
 ·simp [h2]
theorem appG_no (c:List Fact) (g:Key × List Int) (r:List (Key × List Int)) (h:(sumFrom 0 g.2).2≠0):appG c (runG (g::r))=([],(sumFrom 0 g.2).2):=by
 unfold appG
 conv=>lhs;unfold runG
 rw [if_neg h]
 simp [h]
theorem runG_length (x:List (Key × List Int)):(runG x).1.length≤x.length:=by
 induction x with
 | nil=>simp [runG]
 | cons g r ih =>
   unfold runG putF
   (repeat' split) <;> simp <;> omega
def ofL (l:List Fact):List Fact × Int:=runG (grps l)
theorem ofL_length (l:List Fact):(ofL l).1.length≤l.length:=by
 have h1:=runG_length (grps l)
 have h2:=keys_length l
 unfold ofL
 unfold grps at h1 ⊢
 rw [List.length_map] at h1
 omega
end Go.Proofs.YtfhhihamndbcnaaGreatDoor.Fa
end
