/- Shelf LexShelf LexJoin LexBackPlain UnitText InsR AppendEl CentPlain FaPlain CentNum CentText WidePlain RatePlain FaMem Segs Wide WideG Rate Ref RefLoops RefCalls RateRef CentRef CentAdd CentRefParse CentRefPrint StoreEl StoreBox -/
import Derived.Below
import Derived.Deep.CutBlock
import Derived.Deep.DeepCutAuto
import Derived.Deep.OwnRows
import Derived.Deep.RegionHeld3
import Derived.Handy
import Derived.Laws.Bits64b
import Derived.Laws.Externs
import Derived.Lib.Bytealg
import Derived.Lib.ItoaLen
import Derived.Lib.ItoaNum
import Derived.Lib.LaidTab
import Derived.Lib.ParseIntBTie
import Derived.OrdersHeld
import Derived.OwnWalk
import Derived.RegionTactic
import Derived.Shelf.Bits.Mul64
import Derived.Shelf.LaysC
import Derived.Shelf.LaysM
import Derived.Shelf.Strconv.ErrVarParseInt
import Derived.Shelf.Strconv.Itoa0
import Derived.Shelf.Strconv.Itoa4
import Derived.Shelf.Strconv.ParseIntPublic10
import Derived.Shelf.Strings.FieldsFuncAny
import Derived.Shelf.Strings.OnBuilder
import Derived.Shelf.Strings.Search2
import Derived.Sort.Grow
import Derived.Test.YthcpglnmhimepaaGreatDoorS07
section
namespace Go.Proofs
open Go.Shelf
def Tryz.lays156_ren:Go.Shelf.Ren:=⟨fun | 156=>55 | 165=>96 | 166=>54 | 169=>56 | 240=>95 | 241=>132 | 276=>131 | 277=>161 | n=>n,fun | 31=>66 | 9=>9 | 3=>3 | 4=>4 | 0=>0 | 20=>20 | 72=>132 | 76=>135 | 70=>129 | 37=>130 | 75=>134 | 127=>187 | 164=>240 | 5=>5 | 80=>138 | n=>n,fun | n=>n⟩
theorem Tryz.lays156:Go.Proofs.Lays.n156 Tryz.prog Tryz.lays156_ren:={
 mixed:=by kernel_rfl
 f156:=Tryz.func55.trans (congrArg some (by kernel_rfl))
 f165:=Tryz.func96.trans (congrArg some (by kernel_rfl))
 f166:=Tryz.func54.trans (congrArg some (by kernel_rfl))
 f169:=Tryz.func56.trans (congrArg some (by kernel_rfl))
 f240:=Tryz.func95.trans (congrArg some (by kernel_rfl))
 f241:=Tryz.func132.trans (congrArg some (by kernel_rfl))
 f276:=Tryz.func131.trans (congrArg some (by kernel_rfl))
 f277:=Tryz.func161.trans (congrArg some (by kernel_rfl))
 t0:=Tryz.underlying0
 a0:=Tryz.isAgg0
 z0:=Tryz.sizeOf0
 v0:=Tryz.zeroValue0
 t3:=Tryz.underlying3
 a3:=Tryz.isAgg3
 z3:=Tryz.sizeOf3
 v3:=Tryz.zeroValue3
 t4:=Tryz.underlying4
 a4:=Tryz.isAgg4
 z4:=Tryz.sizeOf4
 v4:=Tryz.zeroValue4
 t9:=Tryz.underlying9
 a9:=Tryz.isAgg9
 z9:=Tryz.sizeOf9
 v9:=Tryz.zeroValue9
 t20:=Tryz.underlying20
 a20:=Tryz.isAgg20
 z20:=Tryz.sizeOf20
 v20:=Tryz.zeroValue20
 t31:=Tryz.underlying66
 a31:=Tryz.isAgg66
 z31:=Tryz.sizeOf66
 v31:=Tryz.zeroValue66
 t37:=Tryz.underlying130
 a37:=Tryz.isAgg130
 z37:=Tryz.sizeOf130
 v37:=Tryz.zeroValue130
 t70:=Tryz.underlying129
 a70:=Tryz.isAgg129
 z70:=Tryz.sizeOf129
 v70:=Tryz.zeroValue129
 t72:=Tryz.underlying132
 a72:=Tryz.isAgg132
 z72:=Tryz.sizeOf132
 v72:=Tryz.zeroValue132
 t75:=Tryz.underlying134
 a75:=Tryz.isAgg134
 z75:=Tryz.sizeOf134
 v75:=Tryz.zeroValue134
 t76:=Tryz.underlying135
 a76:=Tryz.isAgg135
 z76:=Tryz.sizeOf135
 v76:=Tryz.zeroValue135
 t127:=Tryz.underlying187
 a127:=Tryz.isAgg187
 z127:=Tryz.sizeOf187
 v127:=Tryz.zeroValue187
 t164:=Tryz.underlying240
 a164:=Tryz.isAgg240
 z164:=Tryz.sizeOf240
 v164:=Tryz.zeroValue240 }
def Tryz.laysM173_ren:Go.Shelf.Ren:=⟨fun | 173=>130 | 246=>160 | 283=>179 | 284=>180 | 285=>181 | 286=>182 | 129=>195 | 317=>194 | 318=>196 | 319=>197 | 320=>198 | 337=>208 | 338=>209 | n=>n,fun | 2=>2 | 3=>3 | 9=>9 | 4=>4 | 171=>278 | 0=>0 | 53=>147 | 37=>130 | 5=>5 | 173=>281 | 212=>293 | 51=>283 | 20=>20 | 213=>294 | 46=>188 | 232=>310 | 233=>311 | n=>n,fun | 17=>3 | 18=>6 | 19=>7 | n=>n⟩
theorem Tryz.laysM173:Go.Proofs.LaysM.n173 Tryz.prog Tryz.laysM173_ren:={
 mixed:=by kernel_rfl
 f129:=Tryz.func195.trans (congrArg some (by kernel_rfl))
 f173:=Tryz.func130.trans (congrArg some (by kernel_rfl))
 f246:=Tryz.func160.trans (congrArg some (by kernel_rfl))
 f283:=Tryz.func179.trans (congrArg some (by kernel_rfl))
 f284:=Tryz.func180.trans (congrArg some (by kernel_rfl))
 f285:=Tryz.func181.trans (congrArg some (by kernel_rfl))
 f286:=Tryz.func182.trans (congrArg some (by kernel_rfl))
 f317:=Tryz.func194.trans (congrArg some (by kernel_rfl))
 f318:=Tryz.func196.trans (congrArg some (by kernel_rfl))
 f319:=Tryz.func197.trans (congrArg some (by kernel_rfl))
 f320:=Tryz.func198.trans (congrArg some (by kernel_rfl))
 f337:=Tryz.func208.trans (congrArg some (by kernel_rfl))
 f338:=Tryz.func209.trans (congrArg some (by kernel_rfl))
 t0:=Tryz.underlying0
 a0:=Tryz.isAgg0
 z0:=Tryz.sizeOf0
 v0:=Tryz.zeroValue0
 t2:=Tryz.underlying2
 a2:=Tryz.isAgg2
 z2:=Tryz.sizeOf2
 v2:=Tryz.zeroValue2
 t3:=Tryz.underlying3
 a3:=Tryz.isAgg3
 z3:=Tryz.sizeOf3
 v3:=Tryz.zeroValue3
 t4:=Tryz.underlying4
 a4:=Tryz.isAgg4
 z4:=Tryz.sizeOf4
 v4:=Tryz.zeroValue4
 t5:=Tryz.underlying5
 a5:=Tryz.isAgg5
 z5:=Tryz.sizeOf5
 v5:=Tryz.zeroValue5
 t9:=Tryz.underlying9
 a9:=Tryz.isAgg9
 z9:=Tryz.sizeOf9
 v9:=Tryz.zeroValue9
 t20:=Tryz.underlying20
 a20:=Tryz.isAgg20
 z20:=Tryz.sizeOf20
 v20:=Tryz.zeroValue20
 t37:=Tryz.underlying130
 a37:=Tryz.isAgg130
 z37:=Tryz.sizeOf130
 v37:=Tryz.zeroValue130
 t46:=Tryz.underlying188
 a46:=Tryz.isAgg188
 z46:=Tryz.sizeOf188
 v46:=Tryz.zeroValue188
 t51:=Tryz.underlying283
 a51:=Tryz.isAgg283
 z51:=Tryz.sizeOf283
 v51:=Tryz.zeroValue283
 t53:=Tryz.underlying147
 a53:=Tryz.isAgg147
 z53:=Tryz.sizeOf147
 v53:=Tryz.zeroValue147
 t171:=Tryz.underlying278
 a171:=Tryz.isAgg278
 z171:=Tryz.sizeOf278
 v171:=Tryz.zeroValue278
 t173:=Tryz.underlying281
 a173:=Tryz.isAgg281
 z173:=Tryz.sizeOf281
 v173:=Tryz.zeroValue281
 t212:=Tryz.underlying293
 a212:=Tryz.isAgg293
 z212:=Tryz.sizeOf293
 v212:=Tryz.zeroValue293
 t213:=Tryz.underlying294
 a213:=Tryz.isAgg294
 z213:=Tryz.sizeOf294
 t232:=Tryz.underlying310
 a232:=Tryz.isAgg310
 z232:=Tryz.sizeOf310
 v232:=Tryz.zeroValue310
 t233:=Tryz.underlying311
 a233:=Tryz.isAgg311
 z233:=Tryz.sizeOf311
 v233:=Tryz.zeroValue311
 g17:=by kernel_rfl
 g18:=by kernel_rfl
 g19:=by kernel_rfl
 i0:=by kernel_rfl
 i2:=by kernel_rfl
 i3:=by kernel_rfl
 i4:=by kernel_rfl
 i5:=by kernel_rfl
 i9:=by kernel_rfl
 i20:=by kernel_rfl
 i37:=by kernel_rfl
 i46:=by kernel_rfl
 i51:=by kernel_rfl
 i53:=by kernel_rfl
 i171:=by kernel_rfl
 i173:=by kernel_rfl
 i212:=by kernel_rfl
 i232:=by kernel_rfl
 i233:=by kernel_rfl
 m17:=by kernel_rfl
 m18:=by kernel_rfl
 m19:=by kernel_rfl }
open Go.RowKit Go.Sort Go.Lib in
theorem Tryz.strconv_FormatInt_10 (n:Int) (h0:-9223372036854775808≤n) (h1:n≤9223372036854775807) (w:World) (htab:Lib.TabIs Tryz.prog w "internal/strconv.uint64pow10" .u64 Lib.pow10Tab) :
 Calls Tryz.prog 130 #[.int .i64 n,.int .i64 10] w fun e w'=>e=.returned (.string ⟨(Lib.itoa n).toArray⟩)∧∃ k os,w'=grow (w.drewN k) os:=Any.strconv_FormatInt_10 Tryz.laysM173 n h0 h1 w htab
def Tryz.laysC174_ren:Go.Shelf.Ren:=⟨fun | 174=>157 | 247=>177 | 245=>178 | 287=>189 | 279=>190 | 280=>191 | 281=>192 | 282=>193 | 321=>203 | 322=>204 | 316=>205 | 171=>207 | 205=>206 | 243=>210 | 246=>160 | 283=>179 | 284=>180 | 285=>181 | 286=>182 | 129=>195 | 317=>194 | 318=>196 | 319=>197 | 320=>198 | 337=>208 | 338=>209 | n=>n,fun | 9=>9 | 3=>3 | 2=>2 | 75=>134 | 85=>260 | 4=>4 | 167=>286 | 5=>5 | 53=>147 | 175=>287 | 46=>188 | 168=>289 | 37=>130 | 0=>0 | 210=>304 | 21=>21 | 127=>187 | 145=>309 | 143=>307 | 171=>278 | 173=>281 | 212=>293 | 51=>283 | 20=>20 | 213=>294 | 232=>310 | 233=>311 | 80=>138 | n=>n,fun | 15=>4 | 16=>5 | 17=>3 | 18=>6 | 19=>7 | n=>n⟩
theorem Tryz.laysC174:Go.Proofs.LaysC.n174 Tryz.prog Tryz.laysC174_ren:={
 mixed:=by kernel_rfl
 f129:=Tryz.func195.trans (congrArg some (by kernel_rfl))
 f171:=Tryz.func207.trans (congrArg some (by kernel_rfl))
 f174:=Tryz.func157.trans (congrArg some (by kernel_rfl))
 f205:=Tryz.func206.trans (congrArg some (by kernel_rfl))
 f243:=Tryz.func210.trans (congrArg some (by kernel_rfl))
 f245:=Tryz.func178.trans (congrArg some (by kernel_rfl))
 f246:=Tryz.func160.trans (congrArg some (by kernel_rfl))
 f247:=Tryz.func177.trans (congrArg some (by kernel_rfl))
 f279:=Tryz.func190.trans (congrArg some (by kernel_rfl))
 f280:=Tryz.func191.trans (congrArg some (by kernel_rfl))
 f281:=Tryz.func192.trans (congrArg some (by kernel_rfl))
 f282:=Tryz.func193.trans (congrArg some (by kernel_rfl))
 f283:=Tryz.func179.trans (congrArg some (by kernel_rfl))
 f284:=Tryz.func180.trans (congrArg some (by kernel_rfl))
 f285:=Tryz.func181.trans (congrArg some (by kernel_rfl))
 f286:=Tryz.func182.trans (congrArg some (by kernel_rfl))
 f287:=Tryz.func189.trans (congrArg some (by kernel_rfl))
 f316:=Tryz.func205.trans (congrArg some (by kernel_rfl))
 f317:=Tryz.func194.trans (congrArg some (by kernel_rfl))
 f318:=Tryz.func196.trans (congrArg some (by kernel_rfl))
 f319:=Tryz.func197.trans (congrArg some (by kernel_rfl))
 f320:=Tryz.func198.trans (congrArg some (by kernel_rfl))
 f321:=Tryz.func203.trans (congrArg some (by kernel_rfl))
 f322:=Tryz.func204.trans (congrArg some (by kernel_rfl))
 f337:=Tryz.func208.trans (congrArg some (by kernel_rfl))
 f338:=Tryz.func209.trans (congrArg some (by kernel_rfl))
 t0:=Tryz.underlying0
 a0:=Tryz.isAgg0
 z0:=Tryz.sizeOf0
 v0:=Tryz.zeroValue0
 t2:=Tryz.underlying2
 a2:=Tryz.isAgg2
 z2:=Tryz.sizeOf2
 v2:=Tryz.zeroValue2
 t3:=Tryz.underlying3
 a3:=Tryz.isAgg3
 z3:=Tryz.sizeOf3
 v3:=Tryz.zeroValue3
 t4:=Tryz.underlying4
 a4:=Tryz.isAgg4
 z4:=Tryz.sizeOf4
 v4:=Tryz.zeroValue4
 t5:=Tryz.underlying5
 a5:=Tryz.isAgg5
 z5:=Tryz.sizeOf5
 v5:=Tryz.zeroValue5
 t9:=Tryz.underlying9
 a9:=Tryz.isAgg9
 z9:=Tryz.sizeOf9
 v9:=Tryz.zeroValue9
 t20:=Tryz.underlying20
 a20:=Tryz.isAgg20
 z20:=Tryz.sizeOf20
 v20:=Tryz.zeroValue20
 t21:=Tryz.underlying21
 a21:=Tryz.isAgg21
 z21:=Tryz.sizeOf21
 v21:=Tryz.zeroValue21
 t37:=Tryz.underlying130
 a37:=Tryz.isAgg130
 z37:=Tryz.sizeOf130
 v37:=Tryz.zeroValue130
 t46:=Tryz.underlying188
 a46:=Tryz.isAgg188
 z46:=Tryz.sizeOf188
 v46:=Tryz.zeroValue188
 t51:=Tryz.underlying283
 a51:=Tryz.isAgg283
 z51:=Tryz.sizeOf283
 v51:=Tryz.zeroValue283
 t53:=Tryz.underlying147
 a53:=Tryz.isAgg147
 z53:=Tryz.sizeOf147
 v53:=Tryz.zeroValue147
 t75:=Tryz.underlying134
 a75:=Tryz.isAgg134
 z75:=Tryz.sizeOf134
 v75:=Tryz.zeroValue134
 t85:=Tryz.underlying260
 a85:=Tryz.isAgg260
 z85:=Tryz.sizeOf260
 v85:=Tryz.zeroValue260
 t127:=Tryz.underlying187
 a127:=Tryz.isAgg187
 z127:=Tryz.sizeOf187
 v127:=Tryz.zeroValue187
 t143:=Tryz.underlying307
 a143:=Tryz.isAgg307
 z143:=Tryz.sizeOf307
 v143:=Tryz.zeroValue307
 t145:=Tryz.underlying309
 a145:=Tryz.isAgg309
 z145:=Tryz.sizeOf309
 v145:=Tryz.zeroValue309
 t167:=Tryz.underlying286
 a167:=Tryz.isAgg286
 z167:=Tryz.sizeOf286
 v167:=Tryz.zeroValue286
 t168:=Tryz.underlying289
 a168:=Tryz.isAgg289
 z168:=Tryz.sizeOf289
 v168:=Tryz.zeroValue289
 t171:=Tryz.underlying278
 a171:=Tryz.isAgg278
 z171:=Tryz.sizeOf278
 v171:=Tryz.zeroValue278
 t173:=Tryz.underlying281
 a173:=Tryz.isAgg281
 z173:=Tryz.sizeOf281
 v173:=Tryz.zeroValue281
 t175:=Tryz.underlying287
 a175:=Tryz.isAgg287
 z175:=Tryz.sizeOf287
 v175:=Tryz.zeroValue287
 t210:=Tryz.underlying304
 a210:=Tryz.isAgg304
 z210:=Tryz.sizeOf304
 v210:=Tryz.zeroValue304
 t212:=Tryz.underlying293
 a212:=Tryz.isAgg293
 z212:=Tryz.sizeOf293
 v212:=Tryz.zeroValue293
 t213:=Tryz.underlying294
 a213:=Tryz.isAgg294
 z213:=Tryz.sizeOf294
 t232:=Tryz.underlying310
 a232:=Tryz.isAgg310
 z232:=Tryz.sizeOf310
 v232:=Tryz.zeroValue310
 t233:=Tryz.underlying311
 a233:=Tryz.isAgg311
 z233:=Tryz.sizeOf311
 v233:=Tryz.zeroValue311
 g15:=by kernel_rfl
 g16:=by kernel_rfl
 g17:=by kernel_rfl
 g18:=by kernel_rfl
 g19:=by kernel_rfl
 t80:=Tryz.underlying138
 a80:=Tryz.isAgg138
 z80:=Tryz.sizeOf138
 v80:=Tryz.zeroValue138
 i0:=by kernel_rfl
 i2:=by kernel_rfl
 i3:=by kernel_rfl
 i4:=by kernel_rfl
 i5:=by kernel_rfl
 i9:=by kernel_rfl
 i20:=by kernel_rfl
 i21:=by kernel_rfl
 i37:=by kernel_rfl
 i46:=by kernel_rfl
 i51:=by kernel_rfl
 i53:=by kernel_rfl
 i75:=by kernel_rfl
 i80:=by kernel_rfl
 i85:=by kernel_rfl
 i127:=by kernel_rfl
 i143:=by kernel_rfl
 i145:=by kernel_rfl
 i167:=by kernel_rfl
 i168:=by kernel_rfl
 i171:=by kernel_rfl
 i173:=by kernel_rfl
 i175:=by kernel_rfl
 i210:=by kernel_rfl
 i212:=by kernel_rfl
 i232:=by kernel_rfl
 i233:=by kernel_rfl
 m15:=by kernel_rfl
 m16:=by kernel_rfl
 m17:=by kernel_rfl
 m18:=by kernel_rfl
 m19:=by kernel_rfl
 c0:=by kernel_rfl
 c2:=by kernel_rfl
 c3:=by kernel_rfl
 c4:=by kernel_rfl
 c5:=by kernel_rfl
 c9:=by kernel_rfl
 c20:=by kernel_rfl
 c21:=by kernel_rfl
 c37:=by kernel_rfl
 c46:=by kernel_rfl
 c51:=by kernel_rfl
 c53:=by kernel_rfl
 c75:=by kernel_rfl
 c80:=by kernel_rfl
 c85:=by kernel_rfl
 c127:=by kernel_rfl
 c143:=by kernel_rfl
 c145:=by kernel_rfl
 c167:=by kernel_rfl
 c168:=by kernel_rfl
 c171:=by kernel_rfl
 c173:=by kernel_rfl
 c175:=by kernel_rfl
 c210:=by kernel_rfl
 c212:=by kernel_rfl
 c213:=by kernel_rfl
 c232:=by kernel_rfl
 c233:=by kernel_rfl }
open Go.RowKit in
theorem Tryz.strconv_ParseInt_10_at64_ok (s:ByteArray) (hmax:s.size≤9223372036854775806) (v:Int) (h:Lib.parseIntB 64 s.data.toList=.ok v) (w:World) :
 Calls Tryz.prog 157 #[.string s,.int .i64 10,.int .i64 64] w fun e w'=>e=.returned (.tuple #[.int .i64 v,.nilIface])∧(w'=w∨∃ t,w'=Lib.bytesWorld w 5 t):=Any.strconv_ParseInt_10_at64_ok Tryz.laysC174 s hmax v h w
open Go.RowKit in
theorem Tryz.strconv_ParseInt_10_at64_range_var (s:ByteArray) (hlim:s.size≤281474976710656) (h:Lib.parseIntB 64 s.data.toList=.range) (tp:TypeId) (p:Value) (w:World) (hvar:w.var? Tryz.prog "strconv.ErrRange"=some #[.iface tp p]) :
 Calls Tryz.prog 157 #[.string s,.int .i64 10,.int .i64 64] w fun e w'=>∃ N,e=.returned (.tuple #[.int .i64 (Lib.intSat 64 s.data.toList),.iface 289 (.pointer (some ⟨N,0,none⟩))])∧w.heap.size≤N∧w'.heap[N]?=some (.cells #[.string ⟨#[80,97,114,115,101,73,110,116]⟩,.string s,.iface tp p] 304 (0,0))∧Below w.heap.size w w':=Any.strconv_ParseInt_10_at64_range_var Tryz.laysC174 s hlim h tp p w hvar
def Tryz.lays219_ren:Go.Shelf.Ren:=⟨fun | 219=>155 | 217=>172 | 225=>173 | 224=>174 | 267=>175 | 266=>187 | 314=>188 | n=>n,fun | 9=>9 | 3=>3 | 4=>4 | 5=>5 | 46=>188 | 146=>284 | 51=>283 | n=>n,fun | 1=>0 | n=>n⟩
theorem Tryz.lays219:Go.Proofs.Lays.n219 Tryz.prog Tryz.lays219_ren:={
 mixed:=by kernel_rfl
 f217:=Tryz.func172.trans (congrArg some (by kernel_rfl))
 f219:=Tryz.func155.trans (congrArg some (by kernel_rfl))
 f224:=Tryz.func174.trans (congrArg some (by kernel_rfl))
 f225:=Tryz.func173.trans (congrArg some (by kernel_rfl))
 f266:=Tryz.func187.trans (congrArg some (by kernel_rfl))
 f267:=Tryz.func175.trans (congrArg some (by kernel_rfl))
 f314:=Tryz.func188.trans (congrArg some (by kernel_rfl))
 t3:=Tryz.underlying3
 a3:=Tryz.isAgg3
 z3:=Tryz.sizeOf3
 v3:=Tryz.zeroValue3
 t4:=Tryz.underlying4
 a4:=Tryz.isAgg4
 z4:=Tryz.sizeOf4
 v4:=Tryz.zeroValue4
 t5:=Tryz.underlying5
 a5:=Tryz.isAgg5
 z5:=Tryz.sizeOf5
 v5:=Tryz.zeroValue5
 t9:=Tryz.underlying9
 a9:=Tryz.isAgg9
 z9:=Tryz.sizeOf9
 v9:=Tryz.zeroValue9
 t46:=Tryz.underlying188
 a46:=Tryz.isAgg188
 z46:=Tryz.sizeOf188
 v46:=Tryz.zeroValue188
 t51:=Tryz.underlying283
 a51:=Tryz.isAgg283
 z51:=Tryz.sizeOf283
 v51:=Tryz.zeroValue283
 t146:=Tryz.underlying284
 a146:=Tryz.isAgg284
 z146:=Tryz.sizeOf284
 v146:=Tryz.zeroValue284
 g1:=by kernel_rfl }
open Go.RowKit Go.Lib in
theorem Tryz.stringslite_Index_one (s:ByteArray) (c:UInt8) (w:World) :
 Calls Tryz.prog 155 #[.string s,.string ⟨#[c]⟩] w fun e w'=>e=.returned (.int .i64 (Lib.indexByte s.data.toList c))∧w'=w:=Any.stringslite_Index_one Tryz.lays219 s c w
def Tryz.lays229_ren:Go.Shelf.Ren:=⟨fun | 229=>84 | n=>n,fun | 9=>9 | 40=>176 | 31=>66 | 152=>233 | 3=>3 | 0=>0 | 4=>4 | 21=>21 | 154=>235 | n=>n,fun | n=>n⟩
theorem Tryz.lays229:Go.Proofs.Lays.n229 Tryz.prog Tryz.lays229_ren:={
 mixed:=by kernel_rfl
 f229:=Tryz.func84.trans (congrArg some (by kernel_rfl))
 t0:=Tryz.underlying0
 a0:=Tryz.isAgg0
 z0:=Tryz.sizeOf0
 v0:=Tryz.zeroValue0
 t3:=Tryz.underlying3
 a3:=Tryz.isAgg3
 z3:=Tryz.sizeOf3
 v3:=Tryz.zeroValue3
 t4:=Tryz.underlying4
 a4:=Tryz.isAgg4
 z4:=Tryz.sizeOf4
 v4:=Tryz.zeroValue4
 t9:=Tryz.underlying9
 a9:=Tryz.isAgg9
 z9:=Tryz.sizeOf9
 v9:=Tryz.zeroValue9
 t21:=Tryz.underlying21
 a21:=Tryz.isAgg21
 z21:=Tryz.sizeOf21
 v21:=Tryz.zeroValue21
 t31:=Tryz.underlying66
 a31:=Tryz.isAgg66
 z31:=Tryz.sizeOf66
 v31:=Tryz.zeroValue66
 t40:=Tryz.underlying176
 a40:=Tryz.isAgg176
 z40:=Tryz.sizeOf176
 v40:=Tryz.zeroValue176
 t152:=Tryz.underlying233
 a152:=Tryz.isAgg233
 z152:=Tryz.sizeOf233
 v152:=Tryz.zeroValue233
 t154:=Tryz.underlying235
 a154:=Tryz.isAgg235
 z154:=Tryz.sizeOf235
 v154:=Tryz.zeroValue235 }
open Go.RowKit Go.Lib in
theorem Tryz.strings_FieldsFunc_runes (g:Nat) (lb:Array Value) (eg:∀ args w,(callFunc g args).run Tryz.prog w=.ok (.enter g args) w) (p:Nat→Bool) (s:ByteArray) (w:World) (hs:s.size≤4294967296) (hp:PredAtRunes Tryz.prog g lb p w) :
 Calls Tryz.prog 84 #[.string s,.func (.func g) #[] lb] w fun e w'=>∃ A,e=.returned (.slice (some ⟨A,0,none⟩) (Lib.goFieldsP p s).length (Lib.goFieldsP p s).length)∧w.heap.size≤A ∧
  w'.ownsRow w.heap.size 9 1 (.slice (some ⟨A,0,none⟩) (Lib.goFieldsP p s).length (Lib.goFieldsP p s).length) (Lib.goFieldsP p s).length ((Lib.goFieldsP p s).map Value.string)∧Below w.heap.size w w':=Any.strings_FieldsFunc_runes Tryz.lays229 g lb eg p s w hs hp (by kernel_rfl) (by kernel_rfl)
end Go.Proofs
end
section
namespace Go.Proofs.YthcpglnmhimepaaGreatDoor
open Go.RowKit
theorem extra:Builder.Extra Tryz.prog Tryz.lays156_ren where
 sizeBuilder:=by kernel_rfl
 liesBuilder:=by kernel_rfl
 t5:=Tryz.underlying5
 a5:=Tryz.isAgg5
 z5:=Tryz.sizeOf5
 v5:=Tryz.zeroValue5
 infoByte:=by kernel_rfl
 cellsByte:=by kernel_rfl
 sizeByte:=by kernel_rfl
 neB5:=by decide
theorem bjoin_none (a:Option Addr) (c:Nat) (sep:ByteArray) (w:World) :
 Calls Tryz.prog 55 #[.slice a 0 c,.string sep] w fun e w'=>e=.returned (.string ⟨#[]⟩)∧w'=w:=Any.strings_Join_none Tryz.lays156 extra a c sep w
theorem bjoin (bk o c:Nat) (xs:List ByteArray) (sep:ByteArray) (w:World)
 (hcells:∀ (j:Nat) x,xs[j]?=some x→w.cell? ⟨bk,o+j,none⟩=some (.string x))
 (hbk:bk < w.heap.size) (hN:xs.length≤140737488355328) (hcap:xs.length≤c) (hlen:(Lib.join (xs.map (·.data.toList)) sep.data.toList).length≤140737488355328) :
 Calls Tryz.prog 55 #[.slice (some ⟨bk,o,none⟩) xs.length c,.string sep] w fun e w'=>e=.returned (.string ⟨(Lib.join (xs.map (·.data.toList)) sep.data.toList).toArray⟩)∧Below w.heap.size w w' :=
 Any.strings_Join Tryz.lays156 extra bk o c xs sep w hcells hbk hN hcap hlen
theorem bwrite (B b:Nat) (bs:List Value) (s:ByteArray) (w:World) (h:Lib.IsBuilder 132 5 B b bs w) (hlen:bs.length+s.size≤140737488355328) (hBw:B≤w.heap.size) :
 Calls Tryz.prog 54 #[.pointer (some ⟨b,0,none⟩),.string s] w fun e w'=>e=.returned (.tuple #[.int .i64 s.size,.nilIface])∧(Lib.BuilderAt 132 5 B b (.pointer (some ⟨b,0,none⟩)) (bs++Lib.strCells s) w'∧Below B w w') :=
 Any.Builder_WriteString (ρ:=Tryz.lays156_ren) { Tryz.lays156 with } extra B b bs s w h hlen hBw
theorem bstring (B b:Nat) (l:List UInt8) (w:World) (h:Lib.IsBuilder 132 5 B b (Lib.byteCells l) w) (hBw:B≤w.heap.size) :
 Calls Tryz.prog 56 #[.pointer (some ⟨b,0,none⟩)] w fun e w'=>e=.returned (.string ⟨l.toArray⟩)∧Below B w w' :=
 Any.Builder_String_any (ρ:=Tryz.lays156_ren) { Tryz.lays156 with } extra B b l w h hBw
end Go.Proofs.YthcpglnmhimepaaGreatDoor
end
section
namespace Go.Proofs.YthcpglnmhimepaaGreatDoor
open Go.RowKit
def lineL (ws:List ByteArray):List UInt8:=Lib.join (ws.map (·.data.toList)) [32]
def joinL (L:List (Int × List ByteArray)):List UInt8:=L.flatMap fun x=>lineL x.2++[10]
theorem joinL_snoc (L:List (Int × List ByteArray)) (n:Int) (ws:List ByteArray):joinL (L++[(n,ws)])=joinL L++(lineL ws++[10]):=by simp [joinL]
theorem joinL_take (L:List (Int × List ByteArray)) (k:Nat):(joinL (L.take k)).length≤(joinL L).length:=by
 conv=>rhs;rw [←List.take_append_drop k L]
 unfold joinL
 rw [List.flatMap_append,List.length_append]
 omega
theorem sjoin (v:Value) (ws:List ByteArray) (w:World) (h:StrsV w v ws) (hlen:(lineL ws).length≤1000000000) :
 Calls Tryz.prog 55 #[v,.string ⟨#[32]⟩] w fun e w'=>e=.returned (.string (mkB (lineL ws)))∧Below w.heap.size w w':=by
 obtain ⟨a,c,rfl,hcap,hm,hc⟩:=h
 cases ws with
 | nil=>exact (bjoin_none a c ⟨#[32]⟩ w).mono fun e w' ⟨he,hw⟩=>⟨he,by rw [hw];exact Below.refl _ _⟩
 | cons x r =>
   obtain ⟨b,o,rfl,h0⟩:=hc 0 x rfl
   have hb:=World.block_lt_of_cell? w _ h0
   refine bjoin b o c (x::r) ⟨#[32]⟩ w (fun j y hy=>?_) hb ?_ hcap (Nat.le_trans hlen (by decide))
   ·obtain ⟨b',o',e,hc'⟩:=hc j y hy
    injection e with e
    injection e with e1 e2
    subst e1 e2
    exact hc'
   ·
    have:(x::r).length≤(lineL (x::r)).length+1:=by
     unfold lineL
     generalize x::r=l
     have gen:∀ (l:List ByteArray),l.length≤(Lib.join (l.map (·.data.toList)) [32]).length+1:=by
      intro l
      induction l with
      | nil=>simp
      | cons y t ih =>
        cases t with
        | nil=>simp
        | cons z t =>
          have e:Lib.join (List.map (·.data.toList) (y::z::t)) [32]=y.data.toList++([32]++Lib.join (List.map (·.data.toList) (z::t)) [32]):=by
           simp [Lib.join,List.intercalate]
          rw [e]
          simp only [List.length_append,List.length_cons,List.length_nil] at ih ⊢
          omega
     exact gen l
    omega
theorem builder_below {T e:TypeId} {B b:Nat} {bs:List Value} {w w':World} (h:Lib.IsBuilder T e B b bs w) (hb:Below w.heap.size w w'):Lib.IsBuilder T e B b bs w':=by
 have one:∀ p,Lib.BuilderAt T e B b p bs w→Lib.BuilderAt T e B b p bs w':=fun p ⟨h1,v,h2,h3,h4⟩ =>
  ⟨h1,v,(hb.block b (Array.getElem?_eq_some_iff.1 h2).1).trans h2,row_below h3 hb,h4⟩
 exact h.elim (fun x=>.inl (one _ x)) (fun x=>.inr (one _ x))
theorem builder_new (T e:TypeId) (w:World):Lib.IsBuilder T e w.heap.size w.heap.size [] (w.alloc (.cells #[.pointer none,.slice none 0 0] T)) :=
 .inl ⟨Nat.le_refl _,_,World.alloc_heap_new w _,World.ownsRow_nil _ _ _ _,by simp [Value.ownBlock]⟩
def JoinAt (w:World) (L:List (Int × List ByteArray)) (s8:Value) (wr:World):Prop :=
 ∃ k:Nat,k≤L.length∧s8=.int .i64 (k:Int)∧Lib.IsBuilder 132 5 w.heap.size w.heap.size (Lib.byteCells (joinL (L.take k))) wr∧Below w.heap.size w wr
set_option maxRecDepth 100000 in
set_option maxHeartbeats 1000000 in
theorem join_any (v:Value) (L:List (Int × List ByteArray)) (w:World) (h:LinesV w v L) (hlen:(joinL L).length≤1000000000) :
 Calls Tryz.prog 31 #[v] w fun e w'=>e=.returned (.string (mkB (joinL L)))∧Below w.heap.size w w':=by
 obtain ⟨a,c,rfl,hm,hc⟩:=h
 have HC:=Lib.hid hc
 have HL:=Lib.hid hlen
 unfold maxLen at hm
 clear hc hlen
 obtain ⟨r,hr⟩:∃ r,mkB (joinL L)=r:=⟨_,rfl⟩
 rw [hr]
 have HR:=Lib.hid hr
 clear hr
 go_enter Tryz.func31,Tryz.ntmps31
 go_wp2
 go_loopw [8] (fun s8 wr=>JoinAt w L s8 wr) (fun s8 _=>L.length - (intOf s8).toNat)
 case atStart=>exact ⟨0,Nat.zero_le _,rfl,builder_new _ _ _,(Below.refl _ _).alloc (Nat.le_refl _) _⟩
 case round =>
  obtain ⟨k,hk,rfl,hbld,hnx⟩:=hrel
  have HB:=Lib.hid hbld
  clear hbld
  by_cases hlt:k < L.length
  ·obtain ⟨⟨nn,ws⟩,hget⟩:∃ y,L[k]?=some y:=⟨_,List.getElem?_eq_getElem hlt⟩
   obtain ⟨b,o,u,rfl,c1,c2,hu⟩:=HC.out k _ hget
   dsimp only at c1 hu
   have hbk:=World.block_lt_of_cell? w _ c1
   have d1:=(hnx.cell (p:=⟨b,o+k * 2,none⟩) hbk).trans c1
   have d2:=(hnx.cell (p:=⟨b,o+k * 2+1,none⟩) hbk).trans c2
   have HT:Hid (L.take (k+1)=L.take k++[(nn,ws)]):=Lib.hid (by rw [take_at L k hlt];rw [List.getElem?_eq_getElem hlt] at hget;rw [Option.some.inj hget])
   have hjl:=joinL_take L (k+1)
   rw [HT.out,joinL_snoc] at hjl
   simp only [List.length_append,List.length_cons,List.length_nil] at hjl
   have hjl2:(joinL (L.take k)).length+(lineL ws).length≤1000000000:=by have:=HL.out;omega
   have HU:Hid (∀ W,Below w.heap.size w W→StrsV W u ws):=Lib.hid fun W hW=>hu.keep hW
   obtain ⟨a2,c2',rfl,_⟩:=hu
   obtain ⟨nw,hnw⟩:∃ nw,ws.length=nw:=⟨_,rfl⟩
   rw [hnw] at d2 HU
   clear c1 c2 hget hnw hjl
   have hsz:=hnx.size
   go_wp2_with fail
   refine (sjoin _ ws _ (HU.out _ (hnx.alloc hsz _)) (by omega)).mono ?_
   rintro e w1 ⟨rfl,hb1⟩
   have hb1':Below wr.heap.size wr w1:=((Below.refl _ _).alloc (Nat.le_refl _) _).trans (hb1.mono (by simp))
   have HN1:=Lib.hid (hnx.trans (hb1'.mono hsz))
   have HB1:=Lib.hid (builder_below HB.out hb1')
   clear hb1 hb1'
   obtain ⟨t,ht⟩:∃ t,mkB (lineL ws)=t:=⟨_,rfl⟩
   rw [ht]
   have HTT:=Lib.hid ht
   clear ht
   go_wp2_with fail
   refine (bwrite _ _ _ t _ HB1.out (by rw [Lib.byteCells_length,←HTT.out,mkB_size];omega) HN1.out.size).mono ?_
   rintro e w2 ⟨rfl,hbl2,hb2⟩
   have HN2:=Lib.hid (HN1.out.trans hb2)
   have HB2:Hid (Lib.IsBuilder 132 5 w.heap.size w.heap.size (Lib.byteCells (joinL (L.take k)++lineL ws)) w2):=Lib.hid (by
    have:=hbl2
    rw [Lib.strCells_eq,←HTT.out,mkB_data,←Lib.byteCells_append] at this
    exact .inr this)
   clear hbl2 hb2
   go_wp2_with fail
   refine (bwrite _ _ _ ⟨#[10]⟩ _ HB2.out (by rw [Lib.byteCells_length,List.length_append];show _+1≤_;omega) HN2.out.size).mono ?_
   rintro e w3 ⟨rfl,hbl3,hb3⟩
   have HN3:=Lib.hid (HN2.out.trans hb3)
   have HB3:Hid (Lib.IsBuilder 132 5 w.heap.size w.heap.size (Lib.byteCells (joinL (L.take (k+1)))) w3):=Lib.hid (by
    have:=hbl3
    rw [Lib.strCells_eq,←Lib.byteCells_append] at this
    rw [HT.out,joinL_snoc,←List.append_assoc]
    exact .inr this)
   clear hbl3 hb3
   go_wp2
   go_roundw
   case rel=>exact ⟨k+1,by omega,by go_num,HB3.out,HN3.out⟩
   case measure=>simp [intOf];omega
  ·have HB':Hid (Lib.IsBuilder 132 5 w.heap.size w.heap.size (Lib.byteCells (joinL L)) wr):=Lib.hid (by
    have:=HB.out
    rwa [List.take_of_length_le (by omega)] at this)
   go_wp2_with fail
   refine (bstring _ _ _ _ HB'.out hnx.size).mono ?_
   rintro e w1 ⟨rfl,hb1⟩
   have HE:Hid ((⟨(joinL L).toArray⟩:ByteArray)=r):=HR
   rw [HE.out]
   go_wp2
   go_ret
   exact ⟨rfl,hnx.trans hb1⟩
end Go.Proofs.YthcpglnmhimepaaGreatDoor
end
section
namespace Go.Proofs.YthcpglnmhimepaaGreatDoor
def rwB (c:UInt8):Bool:=decide (33≤c.toNat∧c.toNat≤126∧c.toNat≠35)
def rightL (l:List UInt8):Bool:=decide (l≠[]) && l.all rwB
def openF (ws:List (List UInt8)) (r:List UInt8):List (List UInt8):=match ws.getLast? with
 | none=>fieldsGo [] r
 | some x=>ws.dropLast++fieldsGo x r
theorem openF_nil (r:List UInt8):openF [] r=fieldsGo [] r:=rfl
theorem openF_snoc (ws:List (List UInt8)) (x r:List UInt8):openF (ws++[x]) r=ws++fieldsGo x r:=by simp [openF]
structure PartOf (U:List UInt8) (ws:List (List UInt8)):Prop where
 ok:okL U=true
 n10:(10:UInt8) ∉ U
 n35:(35:UInt8) ∉ U
 ne:∀ x∈ws,x≠[]
 fl:∀ r,fieldsGo [] (U++r)=openF ws r
structure GapPart (U:List UInt8) (ws:List (List UInt8)):Prop where
 ok:okL U=true
 n10:(10:UInt8) ∉ U
 n35:(35:UInt8) ∉ U
 ne:∀ x∈ws,x≠[]
 fl:∀ r,fieldsGo [] (U++r)=ws++fieldsGo [] r
theorem okL_add (a b:List UInt8):okL (a++b)=(okL a && okL b):=by simp [okL]
theorem gap_facts {g:List UInt8} (h:g.all gapB=true):okL g=true∧(10:UInt8) ∉ g∧(35:UInt8) ∉ g:=by
 have h1:=List.all_eq_true.1 h
 refine ⟨List.all_eq_true.2 fun c hc=>?_,fun hm=>?_,fun hm=>?_⟩
 ·have:=h1 c hc
  unfold gapB at this
  rw [Bool.or_eq_true,beq_iff_eq,beq_iff_eq] at this
  rcases this with rfl | rfl <;> decide
 ·have:=h1 _ hm;revert this;decide
 ·have:=h1 _ hm;revert this;decide
theorem right_facts {x:List UInt8} (h:rightL x=true):x≠[]∧okL x=true∧(10:UInt8) ∉ x∧(35:UInt8) ∉ x∧x.all (fun c=>!gapB c)=true:=by
 unfold rightL at h
 rw [Bool.and_eq_true] at h
 have h0:=of_decide_eq_true h.1
 have h1:=List.all_eq_true.1 h.2
 refine ⟨h0,List.all_eq_true.2 fun c hc=>?_,fun hm=>?_,fun hm=>?_,List.all_eq_true.2 fun c hc=>?_⟩
 ·have:=of_decide_eq_true (h1 c hc)
  unfold okB
  rw [Bool.or_eq_true,Bool.and_eq_true]
  exact .inr ⟨decide_eq_true (by omega),decide_eq_true (by omega)⟩
 ·have:=h1 _ hm;revert this;decide
 ·have:=h1 _ hm;revert this;decide
 ·have:=of_decide_eq_true (h1 c hc)
  have h9:c≠9:=fun e=>by subst e;revert this;decide
  have h32:c≠32:=fun e=>by subst e;revert this;decide
  simp [gapB,h9,h32]
theorem part_start {g:List UInt8} (h:g.all gapB=true):PartOf g []:=by
 obtain ⟨h1,h2,h3⟩:=gap_facts h
 exact ⟨h1,h2,h3,(fun x hx=>by cases hx),fun r=>by rw [fieldsGo_gap0 g r h,openF_nil]⟩
theorem PartOf.gap0 {U:List UInt8} (h:PartOf U []):GapPart U []:=⟨h.ok,h.n10,h.n35,h.ne,fun r=>by rw [h.fl,openF_nil];rfl⟩
theorem PartOf.gap {U g:List UInt8} {ws:List (List UInt8)} (h:PartOf U ws) (hw:ws≠[]) (hg:g.all gapB=true) (hg0:g≠[]):GapPart (U++g) ws:=by
 obtain ⟨h1,h2,h3⟩:=gap_facts hg
 refine ⟨by rw [okL_add,h.ok,h1];rfl,by simp [h.n10,h2],by simp [h.n35,h3],h.ne,fun r=>?_⟩
 obtain ⟨ws',x,rfl⟩:∃ ws' x,ws=ws'++[x]:=⟨ws.dropLast,ws.getLast hw,(List.dropLast_concat_getLast hw).symm⟩
 rw [List.append_assoc,h.fl,openF_snoc,fieldsGo_gap x g r hg0 (h.ne x (by simp)) hg]
 simp
theorem GapPart.word {U x:List UInt8} {ws:List (List UInt8)} (h:GapPart U ws) (hx:rightL x=true):PartOf (U++x) (ws++[x]):=by
 obtain ⟨h0,h1,h2,h3,h4⟩:=right_facts hx
 refine ⟨by rw [okL_add,h.ok,h1];rfl,by simp [h.n10,h2],by simp [h.n35,h3],fun y hy=>?_,fun r=>?_⟩
 ·rcases List.mem_append.1 hy with hy | hy
  ·exact h.ne y hy
  ·simp at hy;subst hy;exact h0
 ·rw [List.append_assoc,h.fl,fieldsGo_word [] x r h4,openF_snoc];rfl
theorem PartOf.closed {U:List UInt8} {ws:List (List UInt8)} (h:PartOf U ws):fieldsGo [] U=ws∧fieldsGo [] (U++[32])=ws:=by
 by_cases hw:ws=[]
 ·subst hw
  have h1:=h.fl []
  have h2:=h.fl [32]
  rw [List.append_nil] at h1
  rw [h1,h2]
  exact ⟨rfl,rfl⟩
 ·obtain ⟨ws',x,rfl⟩:∃ ws' x,ws=ws'++[x]:=⟨ws.dropLast,ws.getLast hw,(List.dropLast_concat_getLast hw).symm⟩
  have h0:=h.ne x (by simp)
  have h1:=h.fl []
  have h2:=h.fl [32]
  rw [List.append_nil] at h1
  rw [h1,h2,openF_snoc,openF_snoc]
  have e1:fieldsGo x []=[x]:=by simp [fieldsGo,h0]
  have e2:fieldsGo x [32]=[x]:=by simp [fieldsGo,h0,gapB]
  rw [e1,e2]
  exact ⟨rfl,rfl⟩
def Rem (r:List UInt8):Prop:=r=[]∨r=[32,35,32,97,32,114,101,109,97,114,107]∨r=[35]
def End (e:List UInt8):Prop:=e=[10]∨e=[10,10]∨e=[10,35,10]
theorem rem_words {U r:List UInt8} {ws:List (List UInt8)} (h:PartOf U ws) (hr:Rem r):wordsL (U++r)=ws∧okL (U++r)=true∧(10:UInt8) ∉ U++r:=by
 obtain ⟨c1,c2⟩:=h.closed
 unfold wordsL
 rcases hr with rfl | rfl | rfl
 ·rw [List.append_nil]
  exact ⟨by rw [said_none U h.n35];exact c1,h.ok,h.n10⟩
 ·refine ⟨?_,by rw [okL_add,h.ok];decide,by simp [h.n10]⟩
  have e:U++[32,35,32,97,32,114,101,109,97,114,107]=(U++[32])++35::[32,97,32,114,101,109,97,114,107]:=by simp
  rw [e,said_mark (U++[32]) _ (by simp [h.n35])]
  exact c2
 ·refine ⟨?_,by rw [okL_add,h.ok];decide,by simp [h.n10]⟩
  rw [said_mark U [] h.n35]
  exact c1
def lineOf (n:Nat) (ws:List (List UInt8)):List (Nat × List (List UInt8)):=if ws=[] then [] else [(n,ws)]
theorem numP_lineOf (n:Nat) (x:List UInt8) (r:List (Nat × List UInt8)):numP ((n,x)::r)=lineOf n (wordsL x)++numP r:=by simp [numP,lineOf]
theorem block_lines {U r e:List UInt8} {ws:List (List UInt8)} (h:PartOf U ws) (hr:Rem r) (he:End e) :
 okL (U++r++e)=true∧∀ t n,∃ m,n < m∧numP (enumL n (linesGo [] (U++r++e++t)))=lineOf n ws++numP (enumL m (linesGo [] t)):=by
 obtain ⟨h1,h2,h3⟩:=rem_words h hr
 have w0:wordsL []=[]:=rfl
 have w1:wordsL [35]=[]:=rfl
 have l0:∀ n,lineOf n []=[]:=fun n=>rfl
 refine ⟨by rw [okL_add,h2];rcases he with rfl | rfl | rfl <;> decide,fun t n=>?_⟩
 rcases he with rfl | rfl | rfl
 ·refine ⟨n+1,by omega,?_⟩
  rw [show U++r++[10]++t=(U++r)++10::t by simp,linesGo_cut _ _ h3]
  simp only [enumL]
  rw [numP_lineOf,h1]
 ·refine ⟨n+1+1,by omega,?_⟩
  rw [show U++r++[10,10]++t=(U++r)++10::([]++10::t) by simp,linesGo_cut _ _ h3,linesGo_cut [] t (by simp)]
  simp only [enumL]
  rw [numP_lineOf,numP_lineOf,h1,w0,l0]
  simp
 ·refine ⟨n+1+1,by omega,?_⟩
  rw [show U++r++[10,35,10]++t=(U++r)++10::([35]++10::t) by simp,linesGo_cut _ _ h3,linesGo_cut [35] t (by decide)]
  simp only [enumL]
  rw [numP_lineOf,numP_lineOf,h1,w1,l0]
  simp
def Inc (n:Nat):List (Nat × List (List UInt8))→Nat→Prop
 | [],m=>n≤m
 | x::r,m=>n≤x.1∧Inc (x.1+1) r m
theorem Inc.more {n m m':Nat} {L:List (Nat × List (List UInt8))} (h:Inc n L m) (hm:m≤m'):Inc n L m':=by
 induction L generalizing n with
 | nil=>exact Nat.le_trans h hm
 | cons x r ih=>exact ⟨h.1,ih h.2⟩
theorem Inc.snoc {n m q m':Nat} {L:List (Nat × List (List UInt8))} (h:Inc n L m) (hq:m≤q) (hm:q < m') (ws:List (List UInt8)):Inc n (L++[(q,ws)]) m':=by
 induction L generalizing n with
 | nil=>exact ⟨Nat.le_trans h hq,hm⟩
 | cons x r ih=>exact ⟨h.1,ih h.2⟩
def Blocks (T:List UInt8) (out:List (List (List UInt8))):Prop :=
 okL T=true∧∀ t n,∃ m NL,numP (enumL n (linesGo [] (T++t)))=NL++numP (enumL m (linesGo [] t))∧NL.map (·.2)=out∧Inc n NL m
theorem blocks_nil:Blocks [] []:=⟨rfl,fun _ n=>⟨n,[],rfl,rfl,Nat.le_refl n⟩⟩
theorem Blocks.snoc {T U r e:List UInt8} {out:List (List (List UInt8))} {ws:List (List UInt8)} (h:Blocks T out) (hU:PartOf U ws) (hr:Rem r) (he:End e) :
 Blocks (T++(U++r++e)) (out++if ws=[] then [] else [ws]):=by
 obtain ⟨o1,f1⟩:=block_lines hU hr he
 refine ⟨by rw [okL_add,h.1,o1];rfl,fun t n=>?_⟩
 obtain ⟨m,NL,e1,e2,e3⟩:=h.2 (U++r++e++t) n
 obtain ⟨m',hm,e4⟩:=f1 t m
 refine ⟨m',NL++lineOf m ws,?_,?_,?_⟩
 ·rw [show T++(U++r++e)++t=T++(U++r++e++t) by simp,e1,e4];simp
 ·unfold lineOf
  rw [List.map_append,e2]
  split <;> simp_all
 ·unfold lineOf
  split
  ·rw [List.append_nil];exact e3.more (by omega)
  ·exact e3.snoc (Nat.le_refl _) hm ws
theorem Blocks.lines {T:List UInt8} {out:List (List (List UInt8))} (h:Blocks T out):∃ m,(linesL T).map (·.2)=out∧Inc 1 (linesL T) m:=by
 obtain ⟨m,NL,e1,e2,e3⟩:=h.2 [] 1
 have e0:numP (enumL m (linesGo [] []))=[]:=rfl
 rw [List.append_nil,e0,List.append_nil] at e1
 refine ⟨m,?_,?_⟩
 ·unfold linesL;rw [e1];exact e2
 ·unfold linesL;rw [e1];exact e3
end Go.Proofs.YthcpglnmhimepaaGreatDoor
end
section
namespace Go.Proofs.YthcpglnmhimepaaGreatDoor.Un
open Go.RowKit
def szW (ws:List ByteArray):Nat:=(lineL ws).length+1
def szL (l:List (List ByteArray)):Nat:=(l.map szW).sum
def szB (ws:List (List UInt8)):Nat:=(ws.map fun x=>x.length+1).sum
theorem lineL_two (x y:ByteArray) (r:List ByteArray):lineL (x::y::r)=x.data.toList++([32]++lineL (y::r)):=by simp [lineL,Lib.join,List.intercalate]
theorem lineL_one (x:ByteArray):lineL [x]=x.data.toList:=by simp [lineL,Lib.join,List.intercalate]
theorem szW_mk:∀ (ws:List (List UInt8)),ws≠[]→szW (ws.map mkB)=szB ws
 | [],h=>absurd rfl h
 | [x],_=>by simp [szW,szB,lineL_one,mkB_data]
 | x::y::r,_=>by
   have ih:=szW_mk (y::r) (by simp)
   unfold szW at ih ⊢
   have e:szB (x::y::r)=x.length+1+szB (y::r):=by simp [szB]
   rw [e,←ih]
   simp only [List.map_cons]
   rw [lineL_two,mkB_data]
   simp only [List.length_append,List.length_cons,List.length_nil]
   omega
theorem fields_size (cur r:List UInt8):szB (fieldsGo cur r)≤cur.length+r.length+1:=by
 induction r generalizing cur with
 | nil =>
   simp only [fieldsGo]
   split
   ·simp [szB]
   ·simp [szB]
 | cons c r ih =>
   simp only [fieldsGo]
   split
   ·split
    ·have:=ih [];simp at this ⊢;omega
    ·have:=ih []
     have e:szB (cur::fieldsGo [] r)=cur.length+1+szB (fieldsGo [] r):=by simp [szB]
     rw [e];simp at this ⊢;omega
   ·have:=ih (cur++[c]);simp at this ⊢;omega
theorem words_size (l:List UInt8):szB (wordsL l)≤l.length+1:=by
 have h1:=fields_size [] (said l)
 have h2:=said_length l
 unfold wordsL
 simp at h1
 omega
theorem lines_sum (cur l:List UInt8):((linesGo cur l).map fun x=>x.length+1).sum=cur.length+l.length+1:=by
 induction l generalizing cur with
 | nil=>simp [linesGo]
 | cons c r ih =>
   simp only [linesGo]
   split
   ·have:=ih [];simp at this ⊢;omega
   ·have:=ih (cur++[c]);simp at this ⊢;omega
abbrev wordsN (L:List (Nat × List (List UInt8))):List (List ByteArray):=(asB L).map (·.2)
theorem wordsN_append (a b:List (Nat × List (List UInt8))):wordsN (a++b)=wordsN a++wordsN b:=by simp [wordsN,asB]
theorem szL_append (a b:List (List ByteArray)):szL (a++b)=szL a+szL b:=by simp [szL]
theorem num_size:∀ (n:Nat) (l:List (List UInt8)),szL (wordsN (numP (enumL n l)))≤(l.map fun x=>x.length+1).sum
 | n,[]=>by simp [enumL,numP,wordsN,asB,szL]
 | n,x::r=>by
   have ih:=num_size (n+1) r
   simp only [enumL]
   rw [numP_lineOf,wordsN_append,szL_append]
   have h1:szL (wordsN (lineOf n (wordsL x)))≤x.length+1:=by
    unfold lineOf
    split
    ·simp [wordsN,asB,szL]
    ·rename_i hne
     have:szL (wordsN [(n,wordsL x)])=szW ((wordsL x).map mkB):=by simp [wordsN,asB,szL]
     rw [this,szW_mk _ hne]
     exact words_size x
   simp only [List.map_cons,List.sum_cons]
   omega
theorem text_size (s:ByteArray):szL (wordsT s)≤s.size+1:=by
 unfold wordsT linV
 split
 ·simp [asB,szL]
 ·split
  ·have h1:=num_size 1 (linesGo [] s.data.toList)
   rw [lines_sum,size_list] at h1
   simp only [List.length_nil,Nat.zero_add] at h1
   exact h1
  ·simp [asB,szL]
def rightW (ws:List ByteArray):Prop:=ws≠[]∧∀ x∈ws,rightL x.data.toList=true
theorem fields_right (cur r:List UInt8) (hc:cur.all rwB=true) (hr:∀ c∈r,gapB c=false→rwB c=true):∀ x∈fieldsGo cur r,rightL x=true:=by
 induction r generalizing cur with
 | nil =>
   intro x hx
   simp only [fieldsGo] at hx
   split at hx
   ·cases hx
   ·rename_i hne
    simp at hx;subst hx
    unfold rightL
    rw [decide_eq_true hne,hc];rfl
 | cons c r ih =>
   intro x hx
   simp only [fieldsGo] at hx
   have hr':∀ d∈r,gapB d=false→rwB d=true:=fun d hd=>hr d (List.mem_cons_of_mem _ hd)
   split at hx
   ·split at hx
    ·exact ih [] rfl hr' x hx
    ·rename_i hne
     rcases List.mem_cons.1 hx with rfl | hx
     ·unfold rightL
      rw [decide_eq_true hne,hc];rfl
     ·exact ih [] rfl hr' x hx
   ·rename_i hg
    refine ih (cur++[c]) ?_ hr' x hx
    rw [List.all_append,hc]
    simp [hr c (List.mem_cons_self ..) (by simpa using hg)]
theorem said_no (l:List UInt8):(35:UInt8) ∉ said l:=by
 induction l with
 | nil=>simp [said]
 | cons c r ih =>
   simp only [said]
   split
   ·simp
   ·rename_i h
    simp only [List.mem_cons,not_or]
    exact ⟨fun e=>h e.symm,ih⟩
theorem said_sub (l:List UInt8):∀ c∈said l,c∈l:=by
 induction l with
 | nil=>simp [said]
 | cons c r ih =>
   intro d hd
   simp only [said] at hd
   split at hd
   ·cases hd
   ·rcases List.mem_cons.1 hd with rfl | hd
    ·exact List.mem_cons_self ..
    ·exact List.mem_cons_of_mem _ (ih d hd)
theorem okB_right {c:UInt8} (h:okB c=true) (h10:c≠10) (h35:c≠35) (hg:gapB c=false):rwB c=true:=by
 unfold okB at h
 unfold gapB at hg
 rw [Bool.or_eq_false_iff,beq_eq_false_iff_ne,beq_eq_false_iff_ne] at hg
 rw [Bool.or_eq_true,Bool.or_eq_true,beq_iff_eq,beq_iff_eq,Bool.and_eq_true,decide_eq_true_eq,decide_eq_true_eq] at h
 unfold rwB
 apply decide_eq_true
 have n35:c.toNat≠35:=fun e=>h35 (UInt8.toNat_inj.1 (by rw [e];rfl))
 have n32:c.toNat≠32:=fun e=>hg.2 (UInt8.toNat_inj.1 (by rw [e];rfl))
 rcases h with (h | h) | h
 ·exact absurd h hg.1
 ·exact absurd h h10
 ·omega
theorem linesGo_no10 (cur l:List UInt8) (hc:(10:UInt8) ∉ cur):∀ x∈linesGo cur l,(10:UInt8) ∉ x:=by
 induction l generalizing cur with
 | nil=>intro x hx;simp [linesGo] at hx;subst hx;exact hc
 | cons c r ih =>
   intro x hx
   simp only [linesGo] at hx
   split at hx
   ·rcases List.mem_cons.1 hx with rfl | hx
    ·exact hc
    ·exact ih [] (by simp) x hx
   ·rename_i h
    exact ih (cur++[c]) (by simp [hc,Ne.symm h]) x hx
theorem num_right:∀ (n:Nat) (l:List (List UInt8)),(∀ x∈l,okL x=true∧(10:UInt8) ∉ x)→∀ ws∈wordsN (numP (enumL n l)),rightW ws
 | n,[],_=>by intro ws hw;simp [enumL,numP,wordsN,asB] at hw
 | n,x::r,h=>by
   intro ws hw
   simp only [enumL] at hw
   rw [numP_lineOf,wordsN_append] at hw
   rcases List.mem_append.1 hw with hw | hw
   ·unfold lineOf at hw
    split at hw
    ·simp [wordsN,asB] at hw
    ·rename_i hne
     have e:wordsN [(n,wordsL x)]=[(wordsL x).map mkB]:=by simp [wordsN,asB]
     rw [e] at hw
     simp only [List.mem_singleton] at hw
     subst hw
     refine ⟨by simpa using hne,fun y hy=>?_⟩
     obtain ⟨z,hz,rfl⟩:=List.mem_map.1 hy
     rw [mkB_data]
     obtain ⟨h1,h2⟩:=h x (List.mem_cons_self ..)
     refine fields_right [] (said x) rfl (fun c hc hg=>?_) z hz
     have hcx:=said_sub x c hc
     exact okB_right (List.all_eq_true.1 h1 c hcx) (fun e=>h2 (e ▸ hcx)) (fun e=>said_no x (e ▸ hc)) hg
   ·exact num_right (n+1) r (fun y hy=>h y (List.mem_cons_of_mem _ hy)) ws hw
theorem text_right (s:ByteArray):∀ ws∈wordsT s,rightW ws:=by
 intro ws hw
 unfold wordsT linV at hw
 split at hw
 ·simp [asB] at hw
 ·split at hw
  ·rename_i ho
   refine num_right 1 (linesGo [] s.data.toList) (fun x hx=>⟨?_,linesGo_no10 [] _ (by simp) x hx⟩) ws hw
   exact (linesGo_all okB [] s.data.toList rfl ho x hx).1
  ·simp [asB] at hw
theorem part_words:∀ (ws:List (List UInt8)),ws≠[]→(∀ x∈ws,rightL x=true)→∀ (U:List UInt8) (vs:List (List UInt8)),GapPart U vs→PartOf (U++Lib.join ws [32]) (vs++ws)
 | [],h,_=>absurd rfl h
 | [x],_,h=>fun U vs hU=>by
   have e:Lib.join [x] [32]=x:=by simp [Lib.join,List.intercalate]
   rw [e]
   exact hU.word (h x (by simp))
 | x::y::r,_,h=>fun U vs hU=>by
   have e:Lib.join (x::y::r) [32]=x++([32]++Lib.join (y::r) [32]):=by simp [Lib.join,List.intercalate]
   rw [e]
   have h1:=hU.word (h x (by simp))
   have h2:=h1.gap (g:=[32]) (by simp) rfl (by simp)
   have h3:=part_words (y::r) (by simp) (fun z hz=>h z (List.mem_cons_of_mem _ hz)) _ _ h2
   simpa using h3
def textW (l:List (List ByteArray)):List UInt8:=l.flatMap fun ws=>lineL ws++[10]
theorem textW_length (l:List (List ByteArray)):(textW l).length=szL l:=by
 induction l with
 | nil=>rfl
 | cons ws l ih =>
   have e:textW (ws::l)=(lineL ws++[10])++textW l:=rfl
   rw [e,List.length_append,ih]
   simp [szL,szW]
theorem joinL_text (L:List (Int × List ByteArray)):joinL L=textW (L.map (·.2)):=by
 unfold joinL textW
 rw [List.flatMap_map]
theorem text_blocks (l:List (List ByteArray)) (h:∀ ws∈l,rightW ws):Blocks (textW l) (l.map fun ws=>ws.map (·.data.toList)):=by
 suffices H:∀ (l k:List (List ByteArray)),(∀ ws∈k,rightW ws)→Blocks (textW l) (l.map fun ws=>ws.map (·.data.toList))→Blocks (textW (l++k)) ((l++k).map fun ws=>ws.map (·.data.toList)) by
  simpa using H [] l h blocks_nil
 intro l k
 induction k generalizing l with
 | nil=>intro _ hb;simpa using hb
 | cons ws k ih =>
   intro hk hb
   have h1:=hk ws (List.mem_cons_self ..)
   have hne:ws.map (·.data.toList)≠[]:=by simpa using h1.1
   have hp:PartOf (lineL ws) (ws.map (·.data.toList)):=by
    have hg:GapPart [] []:=(part_start (g:=[]) rfl).gap0
    have:=part_words (ws.map (·.data.toList)) hne (fun x hx=>by
     obtain ⟨y,hy,rfl⟩:=List.mem_map.1 hx
     exact h1.2 y hy) [] [] hg
    simpa [lineL] using this
   have hs:=hb.snoc (r:=[]) (e:=[10]) hp (.inl rfl) (.inl rfl)
   rw [if_neg hne] at hs
   have e1:textW (l++[ws])=textW l++(lineL ws++[]++[10]):=by simp [textW]
   have hb':Blocks (textW (l++[ws])) ((l++[ws]).map fun ws=>ws.map (·.data.toList)):=by
    rw [e1];simpa using hs
   have:=ih (l++[ws]) (fun u hu=>hk u (List.mem_cons_of_mem _ hu)) hb'
   simpa using this
theorem text_back (l:List (List ByteArray)) (h:∀ ws∈l,rightW ws) (hs:szL l≤20000):linE (mkB (textW l)).data.toList=0∧wordsT (mkB (textW l))=l:=by
 have hb:=text_blocks l h
 obtain ⟨m,hm,_⟩:=hb.lines
 have hlen:¬ 20000 < (textW l).length:=by rw [textW_length];omega
 have e1:linE (textW l)=0:=by unfold linE;rw [if_neg hlen,if_pos hb.1]
 have e2:linV (textW l)=linesL (textW l):=by unfold linV;rw [if_neg hlen,if_pos hb.1]
 rw [mkB_data]
 refine ⟨e1,?_⟩
 unfold wordsT
 rw [mkB_data,e2]
 unfold asB
 rw [List.map_map]
 have e3:(fun x:Int × List ByteArray=>x.2) ∘ (fun x:Nat × List (List UInt8)=>((x.1:Int),x.2.map mkB))=(fun x:List (List UInt8)=>x.map mkB) ∘ (fun x:Nat × List (List UInt8)=>x.2):=rfl
 rw [e3,←List.map_map,hm,List.map_map]
 conv=>rhs;rw [←List.map_id l]
 refine List.map_congr_left fun ws _=>?_
 simp only [Function.comp,id,List.map_map]
 conv=>rhs;rw [←List.map_id ws]
 refine List.map_congr_left fun x _=>?_
 exact mkB_list x
end Go.Proofs.YthcpglnmhimepaaGreatDoor.Un
end
section
namespace Go.Proofs.YthcpglnmhimepaaGreatDoor.G
variable {α κ:Type} [KeyO κ] {key:α→κ}
def doneR (key:α→κ) (L:List α) (x:α):Bool:=L.any fun z=>KeyO.lt (key x) (key z)
def midR (key:α→κ) (L:List α) (x:α):List α:=if doneR key L x=true then insR key L x else L
theorem doneR_snoc (L:List α) (x y:α):doneR key (L++[y]) x=(doneR key L x || KeyO.lt (key x) (key y)):=by simp [doneR,List.any_append]
theorem insR_snoc (A:List α) (x y:α):insR key (A++[y]) x=if doneR key A x=true then insR key A x++[y] else if KeyO.lt (key x) (key y)=true then A++[x,y] else A++[y,x]:=by
 induction A with
 | nil=>simp [insR,doneR]
 | cons a A ih =>
   rw [List.cons_append]
   simp only [insR]
   by_cases h:KeyO.lt (key x) (key a)=true
   ·rw [if_pos h,if_pos h,if_pos (by simp [doneR,h])];rfl
   ·rw [if_neg h,if_neg h,ih]
    have e:doneR key (a::A) x=doneR key A x:=by
     unfold doneR
     rw [List.any_cons,Bool.eq_false_iff.2 h,Bool.false_or]
    rw [e]
    by_cases h1:doneR key A x=true
    ·rw [if_pos h1,if_pos h1];rfl
    ·rw [if_neg h1,if_neg h1]
     split <;> rfl
theorem insR_none {A:List α} {x:α} (h:doneR key A x=false):insR key A x=A++[x]:=by
 induction A with
 | nil=>rfl
 | cons a A ih =>
   unfold doneR at h
   rw [List.any_cons,Bool.or_eq_false_iff] at h
   simp only [insR]
   rw [if_neg (by rw [h.1];simp),ih h.2];rfl
theorem midR_there {A:List α} {x:α} (y:α) (h:doneR key A x=true):midR key (A++[y]) x=midR key A x++[y]:=by
 unfold midR
 rw [if_pos (by rw [doneR_snoc,h];rfl),if_pos h,insR_snoc,if_pos h]
theorem midR_now {A:List α} {x y:α} (h:doneR key A x=false) (h1:KeyO.lt (key x) (key y)=true):midR key (A++[y]) x=midR key A x++[x]++[y]:=by
 unfold midR
 rw [if_pos (by rw [doneR_snoc,h,h1];rfl),if_neg (by rw [h];simp),insR_snoc,if_neg (by rw [h];simp),if_pos h1]
 simp
theorem midR_not {A:List α} {x y:α} (h:doneR key A x=false) (h1:KeyO.lt (key x) (key y)=false):midR key (A++[y]) x=midR key A x++[y]:=by
 unfold midR
 rw [if_neg (by rw [doneR_snoc,h,h1];simp),if_neg (by rw [h];simp)]
theorem midR_end {A:List α} {x:α} (h:doneR key A x=true):midR key A x=insR key A x:=by unfold midR;rw [if_pos h]
theorem midR_last {A:List α} {x:α} (h:doneR key A x=false):midR key A x++[x]=insR key A x:=by
 unfold midR
 rw [if_neg (by rw [h];simp),insR_none h]
theorem insR_length (L:List α) (x:α):(insR key L x).length=L.length+1:=by
 induction L with
 | nil=>rfl
 | cons a L ih =>
   simp only [insR]
   split
   ·simp
   ·simp [ih]
theorem midR_length (L:List α) (x:α):(midR key L x).length≤L.length+1:=by
 unfold midR
 split
 ·rw [insR_length];exact Nat.le_refl _
 ·omega
end Go.Proofs.YthcpglnmhimepaaGreatDoor.G
end
section
namespace Go.Proofs.YthcpglnmhimepaaGreatDoor
open Go.RowKit
structure InfoE {α:Type} (P:Program) (t e:TypeId) (E:Enc α):Prop where
 under:P.underlying t=some (.slice e)
 info:∃ i z n,P.info? e=some i∧i.zero=some z∧i.size=E.k∧i.bytes=n∧z.cells.size=E.k∧n≤1000
theorem InfoE.of {α:Type} {P:Program} {t e:TypeId} {E:Enc α} {z:Value} {n:Nat} (hu:P.underlying t=some (.slice e)) (h:(P.info? e).map (fun i=>(i.zero,i.size,i.bytes))=some (some z,E.k,n)) (hz:z.cells.size=E.k) (hn:n≤1000):InfoE P t e E:=by
 refine ⟨hu,?_⟩
 cases hi:P.info? e with
 | none=>rw [hi] at h;cases h
 | some i =>
   rw [hi] at h
   simp only [Option.map_some,Option.some.injEq,Prod.mk.injEq] at h
   exact ⟨i,z,n,rfl,h.1,h.2.1,h.2.2,hz,hn⟩
theorem wpList_append_el {α:Type} {E:Enc α} {P:Program} {ops:Array Oper} {rest:List Oper} {o:Oper} {a:Act} {w:World} {Q:Exit→Act→World→Prop} (hgd:o.guard=none) (s x:Operand) (t e:TypeId) (ho:o.op=.call { callee:=.builtin .append,args:=#[s,x],argTypes:=#[t,t] }) (HI:InfoE P t e E)
 (B:Nat) (L:List α) (y:α) (g:Nat) (hrow:w.ownsRow B e E.k (a.eval s) L.length (flat E L)) (hx:a.eval x=.slice (some ⟨g,0,none⟩) 1 1) (hc:ElAt E w g 0 y) (hB:B≤w.heap.size) (hL:L.length≤1000000)
 (h:∀ v' w',w'.ownsRow B e E.k v' (L++[y]).length (flat E (L++[y]))→Below B w w'→w.grownBy w' (a.eval s).ownBlock→wpList P ops Q rest (a.put o.dst v') w'):wpList P ops Q (o::rest) a w:=by
 obtain ⟨i,z,n,hi,hz,hs,hn,hzs,hb⟩:=HI.info
 refine wpList_append_own w hgd s x t ho B e i z E.k n HI.under hi hz hs hn hzs E.pos _ _ _ rfl hrow ⟨g,0,none⟩ 1 1 (E.cs y) hx (by rw [E.len,Nat.one_mul]) (fun j u hj=>by rw [add_off];exact hc j u hj) (E.one y) (by unfold maxLen;omega) ?_ hB ?_
 ·exact Nat.le_trans (Nat.mul_le_mul (Nat.add_le_add_right hL 1) hb) (by decide)
 ·intro v' w' h1 h2 _
  exact h v' w' (by rw [flat_append,flat_one,List.length_append];exact h1) (below_grown (Below.refl _ _) hB hrow h2) h2
theorem el_new {α:Type} (E:Enc α) (w:World) (y:α) (t:TypeId):ElAt E (w.alloc (.cells (E.cs y).toArray t)) w.heap.size 0 y:=(BoxE.new E w y t).at0
end Go.Proofs.YthcpglnmhimepaaGreatDoor
end
section
namespace Go.Proofs.YthcpglnmhimepaaGreatDoor
open Go.RowKit (wrap64)
def subV (a b:Int):Int:=if fit (a - b)=true then a - b else 0
def subE (a b:Int):Int:=if fit (a - b)=true then 0 else 2
theorem subV_yes {a b:Int} (h:fit (a - b)=true):subV a b=a - b:=by simp [subV,h]
theorem subE_yes {a b:Int} (h:fit (a - b)=true):subE a b=0:=by simp [subE,h]
theorem subV_no {a b:Int} (h:fit (a - b)=false):subV a b=0:=by simp [subV,h]
theorem subE_no {a b:Int} (h:fit (a - b)=false):subE a b=2:=by simp [subE,h]
end Go.Proofs.YthcpglnmhimepaaGreatDoor
end
section
namespace Go.Proofs.YthcpglnmhimepaaGreatDoor.Fa
def orI (x y:Int):Int:=if x=0 then y else x
def cmpI (a b:Int):Int:=if a < b then -1 else if b < a then 1 else 0
theorem cmpL_eq0:∀ (x y:List UInt8),Lib.compareBytes x y=0 ↔ x=y
 | [],[]=>by simp [Lib.compareBytes]
 | [],_::_=>by simp [Lib.compareBytes]
 | _::_,[]=>by simp [Lib.compareBytes]
 | a::x,b::y=>by
   have ih:=cmpL_eq0 x y
   unfold Lib.compareBytes
   by_cases h1:a < b
   ·have:a≠b:=by
     rintro rfl
     rw [UInt8.lt_iff_toNat_lt] at h1;omega
    simp [h1,this]
   ·by_cases h2:b < a
    ·have:a≠b:=by
      rintro rfl
      exact h1 h2
     simp [h1,h2,this]
    ·have:a=b:=by
      rw [UInt8.lt_iff_toNat_lt] at h1 h2
      exact UInt8.toNat_inj.1 (by omega)
     subst this
     simp [h1,ih]
def cmpB (x y:ByteArray):Int:=Lib.compareBytes x.data.toList y.data.toList
structure Key where
 e:ByteArray
 a:ByteArray
 f:ByteArray
 p:ByteArray
 m:Int
deriving DecidableEq
structure Fact where
 key:Key
 amt:Int
deriving DecidableEq
instance : Inhabited Key:=⟨⟨⟨#[]⟩,⟨#[]⟩,⟨#[]⟩,⟨#[]⟩,0⟩⟩
instance : Inhabited Fact:=⟨⟨default,0⟩⟩
def cmpK (x y:Key):Int:=orI (cmpB x.e y.e) (orI (cmpB x.a y.a) (orI (cmpB x.f y.f) (orI (cmpB x.p y.p) (cmpI x.m y.m))))
def ltK (x y:Key):Prop:=cmpK x y < 0
instance (x y:Key):Decidable (ltK x y):=by unfold ltK;infer_instance
def insU:List Key→Key→List Key
 | [],k=>[k]
 | a::r,k=>if k=a then a::r else if ltK k a then k::a::r else a::insU r k
def keysFrom (A:List Key) (l:List Fact):List Key:=l.foldl (fun acc f=>insU acc f.key) A
def keysL (l:List Fact):List Key:=keysFrom [] l
end Go.Proofs.YthcpglnmhimepaaGreatDoor.Fa
end
section
namespace Go.Proofs.YthcpglnmhimepaaGreatDoor
open Go.Lib (decDigits itoa nDigits parseIntB parseUintB parseMag parseUint10)
def dig (c:UInt8):Bool:=decide (48≤c.toNat) && decide (c.toNat≤57)
def digs (l:List UInt8):Bool:=l.all dig
def plainNum:List UInt8→Bool
 | []=>false
 | c::r=>(c != 48) && digs (c::r)
def whole (l:List UInt8):Bool :=
 match l with
 | 45::r=>plainNum r
 | l=>(l==[48]) || plainNum l
def num (n:Nat) (l:List UInt8):Nat:=l.foldl (fun a c=>a * 10+(c.toNat - 48)) n
def val (l:List UInt8):Int :=
 match l with
 | 45::r=>-((num 0 r:Nat):Int)
 | l=>((num 0 l:Nat):Int)
def parseV (l:List UInt8):Int:=if whole l=true then (if fit (val l)=true then val l else 0) else 0
def parseE (l:List UInt8):Int:=if whole l=true then (if fit (val l)=true then 0 else 2) else 5
theorem num_snoc (n:Nat) (l:List UInt8) (c:UInt8):num n (l++[c])=num n l * 10+(c.toNat - 48):=by simp [num]
theorem num_cons (n:Nat) (l:List UInt8) (c:UInt8):num n (c::l)=num (n * 10+(c.toNat - 48)) l:=by simp only [num,List.foldl_cons]
theorem num_ge (l:List UInt8):∀ n,n≤num n l:=by
 induction l with
 | nil=>intro n;exact Nat.le_refl _
 | cons c r ih=>intro n;rw [num_cons];exact Nat.le_trans (by omega) (ih _)
theorem digs_snoc (l:List UInt8) (c:UInt8):digs (l++[c])=(digs l && dig c):=by simp [digs]
theorem dig_iff (c:UInt8):dig c=true ↔ 48≤c.toNat∧c.toNat≤57:=by simp [dig]
theorem digs_cons (l:List UInt8) (c:UInt8):digs (c::l)=(dig c && digs l):=by simp [digs]
theorem parse_digs (l:List UInt8):∀ n,n < 18446744073709551616→digs l=true→parseUint10 n l=if num n l < 18446744073709551616 then .ok (num n l) else .range:=by
 induction l with
 | nil=>intro n hn _;simp [parseUint10,num,hn]
 | cons c r ih =>
   intro n hn hd
   rw [digs_cons,Bool.and_eq_true] at hd
   obtain ⟨hc,hr⟩:=hd
   rw [dig_iff] at hc
   have hg:=num_ge r (n * 10+(c.toNat - 48))
   rw [num_cons]
   simp only [parseUint10,if_pos hc]
   by_cases h1:1844674407370955162≤n
   ·rw [if_pos h1,if_neg (by omega)]
   ·rw [if_neg h1]
    by_cases h2:18446744073709551616≤n * 10+(c.toNat - 48)
    ·rw [if_pos h2,if_neg (by omega)]
    ·rw [if_neg h2,ih _ (by omega) hr]
theorem plainNum_cons {l:List UInt8} (h:plainNum l=true):∃ c r,l=c::r∧c≠48∧digs (c::r)=true:=by
 cases l with
 | nil=>cases h
 | cons c r =>
   simp only [plainNum,Bool.and_eq_true,bne_iff_ne,ne_eq] at h
   exact ⟨c,r,rfl,h.1,h.2⟩
theorem whole_minus (r:List UInt8):whole (45::r)=plainNum r:=rfl
theorem whole_other {c:UInt8} (r:List UInt8) (h:c≠45):whole (c::r)=((c::r==[48]) || plainNum (c::r)):=by
 unfold whole;split
 ·rename_i e;injection e with e _;exact absurd e h
 ·rfl
theorem val_minus (r:List UInt8):val (45::r)=-((num 0 r:Nat):Int):=rfl
theorem val_other {c:UInt8} (r:List UInt8) (h:c≠45):val (c::r)=((num 0 (c::r):Nat):Int):=by
 unfold val;split
 ·rename_i e;injection e with e _;exact absurd e h
 ·rfl
theorem toNat_ne {c d:UInt8} (h:c≠d):c.toNat≠d.toNat:=fun e=>h (UInt8.toNat_inj.1 e)
theorem whole_digs {c:UInt8} {r:List UInt8} (h:c≠45) (hw:whole (c::r)=true):digs (c::r)=true:=by
 rw [whole_other r h,Bool.or_eq_true] at hw
 rcases hw with hw | hw
 ·have e:c::r=[48]:=by simpa using hw
  rw [e];decide
 ·obtain ⟨c',r',e,_,hd⟩:=plainNum_cons hw
  rw [e];exact hd
theorem parseInt_whole {l:List UInt8} (h:whole l=true):parseIntB 64 l=if fit (val l)=true then .ok (val l) else .range:=by
 cases l with
 | nil=>cases h
 | cons c r =>
   by_cases h45:c=45
   ·subst h45
    rw [whole_minus] at h
    obtain ⟨c',r',rfl,_,hd⟩:=plainNum_cons h
    rw [Lib.parseIntB_minus,val_minus,Lib.parseUintB_64]
    simp only [parseMag]
    rw [if_neg (by simp),parse_digs _ 0 (by omega) hd]
    generalize num 0 (c'::r')=u
    have e63:(2:Nat) ^ (64 - 1)=9223372036854775808:=by decide
    rw [e63]
    by_cases hu:u < 18446744073709551616
    ·rw [if_pos hu]
     simp only [Lib.signedC]
     by_cases h2:9223372036854775808 < u
     ·rw [if_pos h2,if_neg (by rw [fit_iff];omega)]
     ·rw [if_neg h2,if_pos (by rw [fit_iff];omega)]
    ·rw [if_neg hu]
     simp only [Lib.signedC]
     rw [if_neg (by rw [fit_iff];omega)]
   ·have hd:=whole_digs h45 h
    have hc:48≤c.toNat∧c.toNat≤57:=by
     rw [digs_cons,Bool.and_eq_true,dig_iff] at hd;exact hd.1
    rw [Lib.parseIntB_plain 64 c r (by omega) (by omega),val_other r h45,Lib.parseUintB_64]
    simp only [parseMag]
    rw [if_neg (by simp),parse_digs _ 0 (by omega) hd]
    generalize num 0 (c::r)=u
    have e63:(2:Nat) ^ (64 - 1)=9223372036854775808:=by decide
    rw [e63]
    by_cases hu:u < 18446744073709551616
    ·rw [if_pos hu]
     simp only [Lib.signlessC]
     by_cases h2:9223372036854775808≤u
     ·rw [if_pos h2,if_neg (by rw [fit_iff];omega)]
     ·rw [if_neg h2,if_pos (by rw [fit_iff];omega)]
    ·rw [if_neg hu]
     simp only [Lib.signlessC]
     rw [if_neg (by rw [fit_iff];omega)]
theorem ofNat_toNat {n:Nat} (h:n < 10):(UInt8.ofNat (48+n)).toNat=48+n:=by
 rw [UInt8.toNat_ofNat'];omega
theorem dec_small {u:Nat} (h:u < 10):decDigits u=[UInt8.ofNat (48+u)]:=by rw [decDigits,dif_pos h]
theorem dec_big {u:Nat} (h:¬ u < 10):decDigits u=decDigits (u / 10)++[UInt8.ofNat (48+u % 10)]:=by rw [decDigits,dif_neg h]
theorem digs_dec (u:Nat):digs (decDigits u)=true:=by
 induction u using Nat.strongRecOn with
 | _ u ih =>
   by_cases h:u < 10
   ·rw [dec_small h];simp [digs,dig_iff];omega
   ·rw [dec_big h,digs_snoc,ih (u / 10) (by omega),Bool.true_and,dig_iff,ofNat_toNat (by omega)];omega
theorem num_dec (u:Nat):num 0 (decDigits u)=u:=by
 induction u using Nat.strongRecOn with
 | _ u ih =>
   by_cases h:u < 10
   ·rw [dec_small h,show num 0 [UInt8.ofNat (48+u)]=(UInt8.ofNat (48+u)).toNat - 48 by simp [num],ofNat_toNat h];omega
   ·rw [dec_big h,num_snoc,ih (u / 10) (by omega),ofNat_toNat (by omega)];omega
theorem plain_dec {u:Nat} (h0:0 < u):plainNum (decDigits u)=true:=by
 have hd:=digs_dec u
 have hh:∃ c r,decDigits u=c::r∧c≠48:=by
  clear hd
  induction u using Nat.strongRecOn with
  | _ u ih =>
    by_cases h:u < 10
    ·rw [dec_small h]
     refine ⟨_,_,rfl,fun e=>?_⟩
     have:=congrArg UInt8.toNat e
     rw [ofNat_toNat h] at this
     have e48:(48:UInt8).toNat=48:=rfl
     omega
    ·obtain ⟨c,r,e,hc⟩:=ih (u / 10) (by omega) (by omega)
     rw [dec_big h,e]
     exact ⟨c,_,rfl,hc⟩
 obtain ⟨c,r,e,hc⟩:=hh
 rw [e] at hd ⊢
 simp [plainNum,hc,hd]
theorem dec_zero:decDigits 0=[48]:=by rw [dec_small (by omega)];rfl
theorem plain_head {l:List UInt8} (h:plainNum l=true):∃ c r,l=c::r∧c≠45:=by
 obtain ⟨c,r,e,_,hd⟩:=plainNum_cons h
 refine ⟨c,r,e,fun h45=>?_⟩
 subst h45
 rw [digs_cons,Bool.and_eq_true] at hd
 exact absurd hd.1 (by decide)
theorem whole_plain {l:List UInt8} (h:plainNum l=true):whole l=true∧val l=((num 0 l:Nat):Int):=by
 obtain ⟨c,r,rfl,hc⟩:=plain_head h
 rw [whole_other r hc,val_other r hc,h]
 simp
theorem whole_itoa (n:Int):whole (itoa n)=true∧val (itoa n)=n:=by
 unfold itoa
 split
 ·rename_i h
  rw [whole_minus,val_minus,num_dec]
  exact ⟨plain_dec (by omega),by omega⟩
 ·rename_i h
  by_cases h0:n=0
  ·subst h0;exact ⟨by rw [show (0:Int).toNat=0 from rfl,dec_zero];decide,by rw [show (0:Int).toNat=0 from rfl,dec_zero];decide⟩
  ·obtain ⟨h1,h2⟩:=whole_plain (plain_dec (u:=n.toNat) (by omega))
   rw [h1,h2,num_dec]
   exact ⟨rfl,by omega⟩
theorem fit_parseV (l:List UInt8):fit (parseV l)=true:=by
 unfold parseV;split
 ·split
  ·assumption
  ·decide
 ·decide
theorem parse_itoa {n:Int} (h:fit n=true):parseV (itoa n)=n∧parseE (itoa n)=0:=by
 obtain ⟨h1,h2⟩:=whole_itoa n
 simp [parseV,parseE,h1,h2,h]
theorem itoa_length (a:Int):(itoa a).length=nDigits a.natAbs+(if a < 0 then 1 else 0):=by
 unfold itoa
 split
 ·simp [Lib.decDigits_length]
 ·rw [Lib.decDigits_length,show a.toNat=a.natAbs by omega];rfl
end Go.Proofs.YthcpglnmhimepaaGreatDoor
end
section
namespace Go.Proofs.YthcpglnmhimepaaGreatDoor
open Go.RowKit
theorem digs_take (s:ByteArray) (k:Nat) (h:k < s.size):digs (s.data.toList.take (k+1))=(digs (s.data.toList.take k) && dig s[k]):=by
 rw [List.take_succ_eq_append_getElem (by simpa using h),digs_snoc];rfl
theorem digs_at (l:List UInt8) (k:Nat) (h:k < l.length) (hd:digs l=true):dig l[k]=true:=by
 unfold digs at hd
 exact List.all_eq_true.1 hd _ (List.getElem_mem h)
set_option maxHeartbeats 400000 in
theorem allDigits_any (s:ByteArray) (w:World) (hs:s.size≤maxLen) :
 Calls Tryz.prog 176 #[.string s] w fun e w'=>e=.returned (.bool (digs s.data.toList))∧w=w':=by
 unfold maxLen at hs
 go_enter Tryz.func176,Tryz.ntmps176
 go_wp2
 go_loop [6] (fun i=>∃ k:Nat,k≤s.size∧i=.int .i64 k∧digs (s.data.toList.take k)=true) (fun i=>s.size - (intOf i).toNat)
 case atStart=>exact ⟨0,Nat.zero_le _,rfl,rfl⟩
 case round =>
  obtain ⟨k,hk,rfl,hd⟩:=hrel
  have HD:=Lib.hid hd
  clear hd
  by_cases hlt:k < s.size
  ·cases hc:dig s[k] with
   | true =>
     have HC:=Lib.hid hc
     obtain ⟨c1,c2⟩:=(dig_iff _).1 hc
     have c3:(48:Int)≤(s[k].toNat:Int):=by omega
     have c4:(s[k].toNat:Int)≤57:=by omega
     clear hc c1 c2
     go_wp2
     go_round
     case rel=>exact ⟨k+1,by omega,by go_num,by rw [digs_take s k hlt,HD.out,HC.out];rfl⟩
     case measure=>simp [intOf];omega
   | false =>
     have hfin:digs s.data.toList=false:=by
      cases h:digs s.data.toList with
      | false=>rfl
      | true =>
        have:=digs_at _ k (by simpa using hlt) h
        rw [←hc];exact this.symm
     have HFIN:=Lib.hid hfin
     clear hfin
     have hc':¬ (48≤s[k].toNat∧s[k].toNat≤57):=by rw [←dig_iff,hc];simp
     clear hc
     by_cases c1:48≤s[k].toNat
     ·have c3:(48:Int)≤(s[k].toNat:Int):=by omega
      have c4:(57:Int) < (s[k].toNat:Int):=by omega
      clear hc' c1
      go_wp2
      go_ret
      exact ⟨ret_bool HFIN.out.symm,rfl⟩
     ·have c3:(s[k].toNat:Int) < 48:=by omega
      clear hc' c1
      go_wp2
      go_ret
      exact ⟨ret_bool HFIN.out.symm,rfl⟩
  ·have hfin:digs s.data.toList=true:=by
    have:=HD.out
    rwa [List.take_of_length_le (by simp;omega)] at this
   have HFIN:=Lib.hid hfin
   clear hfin
   go_wp2
   go_ret
   exact ⟨ret_bool HFIN.out.symm,rfl⟩
theorem beq_lit {c:UInt8} {n:Nat} (h:c.toNat≠n):((c.toNat:Int)==(n:Int))=false:=by
 rw [beq_eq_false_iff_ne];omega
theorem bne_lit {c:UInt8} {n:Nat} (h:c.toNat≠n):((c.toNat:Int) != (n:Int))=true:=by
 rw [bne_iff_ne];omega
theorem list_ne {c d:UInt8} {r:List UInt8} (h:c≠d):((c::r)==[d])=false:=by
 rw [beq_eq_false_iff_ne];intro e;injection e with e _;exact h e
theorem list_ne2 {c d e:UInt8} {r:List UInt8}:((c::d::r)==[e])=false:=by
 rw [beq_eq_false_iff_ne];intro h;injection h with _ h;cases h
theorem extract_tail (c:UInt8) (l:List UInt8):(⟨(c::l).toArray⟩:ByteArray).extract 1 (l.length+1)=⟨l.toArray⟩:=by
 apply ByteArray.ext
 rw [ByteArray.data_extract]
 apply Array.ext'
 simp
theorem first_at (c:UInt8) (l:List UInt8) (h:0 < (⟨(c::l).toArray⟩:ByteArray).size):(⟨(c::l).toArray⟩:ByteArray)[0]=c:=rfl
theorem size_pos (c:UInt8) (l:List UInt8):0 < (⟨(c::l).toArray⟩:ByteArray).size:=by show 0 < (c::l).toArray.size;simp
set_option maxHeartbeats 400000 in
theorem isWhole_nil (w:World) :
 Calls Tryz.prog 156 #[.string ⟨#[]⟩] w fun e w'=>e=.returned (.bool (whole []))∧w=w':=by
 go_enter Tryz.func156,Tryz.ntmps156
 go_wp2
 go_ret
 exact ⟨rfl,rfl⟩
set_option maxHeartbeats 400000 in
theorem isWhole_zero (w:World) :
 Calls Tryz.prog 156 #[.string ⟨#[48]⟩] w fun e w'=>e=.returned (.bool (whole [48]))∧w=w':=by
 go_enter Tryz.func156,Tryz.ntmps156
 go_wp2
 go_ret
 exact ⟨rfl,rfl⟩
set_option maxHeartbeats 400000 in
theorem isWhole_minus (w:World) :
 Calls Tryz.prog 156 #[.string ⟨#[45]⟩] w fun e w'=>e=.returned (.bool (whole [45]))∧w=w':=by
 go_enter Tryz.func156,Tryz.ntmps156
 go_wp2
 go_ret
 exact ⟨rfl,rfl⟩
set_option maxHeartbeats 400000 in
theorem isWhole_minus0 (r:List UInt8) (w:World) (hs:r.length+2≤maxLen) :
 Calls Tryz.prog 156 #[.string ⟨(45::48::r).toArray⟩] w fun e w'=>e=.returned (.bool (whole (45::48::r)))∧w=w':=by
 unfold maxLen at hs
 have hx:=extract_tail 45 (48::r)
 rw [show (48::r).length+1=r.length+1+1 from rfl] at hx
 go_enter Tryz.func156,Tryz.ntmps156
 go_wp2
 go_ret
 exact ⟨rfl,rfl⟩
set_option maxHeartbeats 400000 in
theorem isWhole_minusd (d:UInt8) (r:List UInt8) (w:World) (hs:r.length+2≤maxLen) (hd:d≠48) :
 Calls Tryz.prog 156 #[.string ⟨(45::d::r).toArray⟩] w fun e w'=>e=.returned (.bool (whole (45::d::r)))∧w=w':=by
 have hfin:whole (45::d::r)=digs (d::r):=by rw [whole_minus];simp [plainNum,hd]
 rw [hfin]
 clear hfin
 have hm:(⟨(d::r).toArray⟩:ByteArray).size≤maxLen:=by show (d::r).toArray.size≤maxLen;simp;omega
 unfold maxLen at hs
 have h1:((d.toNat:Int) != 48)=true:=bne_lit (n:=48) (toNat_ne hd)
 have hx0:=first_at d r (size_pos d r)
 clear hd
 have hx:=extract_tail 45 (d::r)
 rw [show (d::r).length+1=r.length+1+1 from rfl] at hx
 go_enter Tryz.func156,Tryz.ntmps156
 go_wp2_with (go_at_call 176;refine (allDigits_any ⟨(d::r).toArray⟩ _ hm).mono ?_;rintro e w' ⟨rfl,rfl⟩)
 go_ret
 exact ⟨rfl,rfl⟩
set_option maxHeartbeats 400000 in
theorem isWhole_0 (d:UInt8) (r:List UInt8) (w:World) (hs:r.length+2≤maxLen) :
 Calls Tryz.prog 156 #[.string ⟨(48::d::r).toArray⟩] w fun e w'=>e=.returned (.bool (whole (48::d::r)))∧w=w':=by
 have hfin:whole (48::d::r)=false:=by rw [whole_other (d::r) (by decide),list_ne2];rfl
 rw [hfin]
 clear hfin
 unfold maxLen at hs
 have h0:((48::d::r:List UInt8)==[48])=false:=list_ne2
 go_enter Tryz.func156,Tryz.ntmps156
 go_wp2
 go_ret
 exact ⟨rfl,rfl⟩
set_option maxHeartbeats 400000 in
theorem isWhole_d (d:UInt8) (r:List UInt8) (w:World) (hs:r.length+1≤maxLen) (hd:d≠48) (hd':d≠45) :
 Calls Tryz.prog 156 #[.string ⟨(d::r).toArray⟩] w fun e w'=>e=.returned (.bool (whole (d::r)))∧w=w':=by
 have h0:((d::r:List UInt8)==[48])=false:=list_ne hd
 have hfin:whole (d::r)=digs (d::r):=by rw [whole_other r hd',h0];simp [plainNum,hd]
 rw [hfin]
 clear hfin
 have hm:(⟨(d::r).toArray⟩:ByteArray).size≤maxLen:=by show (d::r).toArray.size≤maxLen;simp;omega
 unfold maxLen at hs
 have h1:((d.toNat:Int) != 48)=true:=bne_lit (n:=48) (toNat_ne hd)
 have hx0:=first_at d r (size_pos d r)
 have h2:((d.toNat:Int)==45)=false:=beq_lit (n:=45) (toNat_ne hd')
 clear hd hd'
 go_enter Tryz.func156,Tryz.ntmps156
 go_wp2_with (go_at_call 176;refine (allDigits_any ⟨(d::r).toArray⟩ _ hm).mono ?_;rintro e w' ⟨rfl,rfl⟩)
 go_ret
 exact ⟨rfl,rfl⟩
theorem isWhole_any (s:ByteArray) (w:World) (hs:s.size≤maxLen) :
 Calls Tryz.prog 156 #[.string s] w fun e w'=>e=.returned (.bool (whole s.data.toList))∧w=w':=by
 obtain ⟨⟨l⟩⟩:=s
 have hl:l.length≤maxLen:=hs
 show Calls Tryz.prog 156 #[.string ⟨l.toArray⟩] w fun e w'=>e=.returned (.bool (whole l))∧w=w'
 match l,hl with
 | [],_=>exact isWhole_nil w
 | c::r,hl =>
   simp only [List.length_cons] at hl
   by_cases h45:c=45
   ·subst h45
    match r,hl with
    | [],_=>exact isWhole_minus w
    | d::r,hl =>
      simp only [List.length_cons] at hl
      by_cases h48:d=48
      ·subst h48;exact isWhole_minus0 r w (by omega)
      ·exact isWhole_minusd d r w (by omega) h48
   ·by_cases h48:c=48
    ·subst h48
     match r,hl with
     | [],_=>exact isWhole_zero w
     | d::r,hl =>
       simp only [List.length_cons] at hl
       exact isWhole_0 d r w (by omega)
    ·exact isWhole_d c r w (by omega) h48 h45
structure LaidC (w:World):Prop where
 tab:Lib.TabIs Tryz.prog w "internal/strconv.uint64pow10" .u64 Lib.pow10Tab
 rng:∃ tp p,w.var? Tryz.prog "strconv.ErrRange"=some #[.iface tp p]
theorem gPow:Tryz.prog.globalNamed "internal/strconv.uint64pow10"=some 3:=by kernel_rfl
theorem gRng:Tryz.prog.globalNamed "strconv.ErrRange"=some 5:=by kernel_rfl
theorem var_lt {P:Program} {w:World} {n:String} {g:Nat} {cs:Array Value} (hg:P.globalNamed n=some g) (h:w.var? P n=some cs):g < w.heap.size:=by
 unfold World.var? at h
 rw [hg] at h
 simp only [Option.bind_some] at h
 rcases Nat.lt_or_ge g w.heap.size with hlt | hge
 ·exact hlt
 ·rw [Array.getElem?_eq_none hge] at h;cases h
theorem LaidC.below {w w':World} (h:LaidC w) (hb:Below w.heap.size w w'):LaidC w':=by
 obtain ⟨tp,p,hv⟩:=h.rng
 exact ⟨var?_below hb gPow (var_lt gPow h.tab) h.tab,tp,p,var?_below hb gRng (var_lt gRng hv) hv⟩
theorem fmt_any (a:Int) (w:World) (ha:In64 a) (hL:LaidC w) :
 Calls Tryz.prog 130 #[.int .i64 a,.int .i64 10] w fun e w'=>e=.returned (.string ⟨(Lib.itoa a).toArray⟩)∧Below w.heap.size w w':=by
 refine (Tryz.strconv_FormatInt_10 a ha.1 ha.2 w hL.tab).mono ?_
 rintro e w' ⟨rfl,k,os,rfl⟩
 refine ⟨rfl,rfl,rfl,rfl,?_,fun j hj=>?_⟩
 ·show w.heap.size≤(w.heap++os).size
  rw [Array.size_append];omega
 ·show (w.heap++os)[j]?=w.heap[j]?
  rw [Array.getElem?_append_left hj]
set_option maxHeartbeats 400000 in
theorem print_any (a:Int) (w:World) (ha:In64 a) (hL:LaidC w) :
 Calls Tryz.prog 94 #[.int .i64 a] w fun e w'=>e=.returned (.string ⟨(Lib.itoa a).toArray⟩)∧Below w.heap.size w w':=by
 have HL:=Lib.hid hL
 clear hL
 go_enter Tryz.func94,Tryz.ntmps94
 go_wp2_with (go_at_call 130;refine (fmt_any a _ ha HL.out).mono ?_;rintro e w' ⟨rfl,hb⟩)
 go_ret
 exact ⟨rfl,hb⟩
theorem pint_ok (s:ByteArray) (w:World) (hs:s.size≤1000000) (v:Int) (h:Lib.parseIntB 64 s.data.toList=.ok v) :
 Calls Tryz.prog 157 #[.string s,.int .i64 10,.int .i64 64] w fun e w'=>e=.returned (.tuple #[.int .i64 v,.nilIface])∧Below w.heap.size w w':=by
 refine (Tryz.strconv_ParseInt_10_at64_ok s (by omega) v h w).mono ?_
 rintro e w' ⟨rfl,rfl | ⟨t,rfl⟩⟩
 ·exact ⟨rfl,Below.refl _ _⟩
 ·exact ⟨rfl,Lib.bytesWorld_below _ _ _⟩
theorem pint_over (s:ByteArray) (w:World) (hs:s.size≤1000000) (hL:LaidC w) (h:Lib.parseIntB 64 s.data.toList=.range) :
 Calls Tryz.prog 157 #[.string s,.int .i64 10,.int .i64 64] w fun e w'=>(∃ N,e=.returned (.tuple #[.int .i64 (Lib.intSat 64 s.data.toList),.iface 289 (.pointer (some ⟨N,0,none⟩))]))∧Below w.heap.size w w':=by
 obtain ⟨tp,p,hv⟩:=hL.rng
 refine (Tryz.strconv_ParseInt_10_at64_range_var s (by omega) h tp p w hv).mono ?_
 rintro e w' ⟨N,rfl,_,_,hb⟩
 exact ⟨⟨N,rfl⟩,hb⟩
set_option maxHeartbeats 400000 in
theorem cnum_long (s:ByteArray) (w:World) (hs:s.size≤1000000) (hL:LaidC w) :
 Calls Tryz.prog 126 #[.string s] w fun e w'=>e=.returned (.tuple #[.int .i64 (parseV s.data.toList),.int .i64 (parseE s.data.toList)])∧Below w.heap.size w w':=by
 have hm:s.size≤maxLen:=by unfold maxLen;omega
 cases hw:whole s.data.toList with
 | false =>
   have e1:parseV s.data.toList=0:=by simp [parseV,hw]
   have e2:parseE s.data.toList=5:=by simp [parseE,hw]
   rw [e1,e2]
   clear e1 e2 hL
   go_enter Tryz.func126,Tryz.ntmps126
   go_wp2_with (go_at_call 156;refine (isWhole_any s _ hm).mono ?_;rintro e w' ⟨rfl,rfl⟩)
   go_ret2
   exact ⟨rfl,Below.refl _ _⟩
 | true =>
   have hp:=parseInt_whole hw
   have HL:=Lib.hid hL
   clear hL
   cases hf:fit (val s.data.toList) with
   | true =>
     have e1:parseV s.data.toList=val s.data.toList:=by simp [parseV,hw,hf]
     have e2:parseE s.data.toList=0:=by simp [parseE,hw,hf]
     rw [e1,e2]
     rw [hf,if_pos rfl] at hp
     clear e1 e2 hf
     have HP:=Lib.hid hp
     clear hp
     go_enter Tryz.func126,Tryz.ntmps126
     go_wp2_with (first | (go_at_call 156;refine (isWhole_any s _ hm).mono ?_;rintro e w' ⟨rfl,rfl⟩) | (go_at_call 157;refine (pint_ok s _ hs _ HP.out).mono ?_;rintro e w' ⟨rfl,hb⟩))
     go_ret2
     exact ⟨rfl,hb⟩
   | false =>
     have e1:parseV s.data.toList=0:=by simp [parseV,hw,hf]
     have e2:parseE s.data.toList=2:=by simp [parseE,hw,hf]
     rw [e1,e2]
     rw [hf,if_neg (by decide)] at hp
     clear e1 e2 hf
     have HP:=Lib.hid hp
     clear hp
     go_enter Tryz.func126,Tryz.ntmps126
     go_wp2_with (first | (go_at_call 156;refine (isWhole_any s _ hm).mono ?_;rintro e w' ⟨rfl,rfl⟩) | (go_at_call 157;refine (pint_over s _ hs HL.out HP.out).mono ?_;rintro e w' ⟨⟨N,rfl⟩,hb⟩))
     go_ret2
     exact ⟨rfl,hb⟩
end Go.Proofs.YthcpglnmhimepaaGreatDoor
end
section
namespace Go.Proofs.YthcpglnmhimepaaGreatDoor
theorem abs_le {a:Int} (h:In64 a):a.natAbs≤9223372036854775808:=by unfold In64 at h;omega
def cmpN (m n:Nat):Int:=if m < n then -1 else if n < m then 1 else 0
def hi64 (n:Nat):Int:=((n / 18446744073709551616:Nat):Int)
def lo64 (n:Nat):Int:=((n % 18446744073709551616:Nat):Int)
def cmpI (m n:Int):Int:=if m < n then -1 else if n < m then 1 else 0
end Go.Proofs.YthcpglnmhimepaaGreatDoor
end
section
namespace Go.Proofs.YthcpglnmhimepaaGreatDoor
open Go.Lib (itoa decDigits)
def gcdI (n d:Int):Int:=((Nat.gcd n.natAbs d.natAbs:Nat):Int)
def bndB (n:Int):Bool:=decide (1≤n) && decide (n≤1000000000)
def rightB (n d:Int):Bool:=bndB n && bndB d && (Nat.gcd n.natAbs d.natAbs==1)
theorem bndB_iff (n:Int):bndB n=true ↔ 1≤n∧n≤1000000000:=by simp [bndB]
theorem rightB_iff (n d:Int):rightB n d=true ↔ (1≤n∧n≤1000000000)∧(1≤d∧d≤1000000000)∧Nat.gcd n.natAbs d.natAbs=1:=by
 unfold rightB
 rw [Bool.and_eq_true,Bool.and_eq_true,bndB_iff,bndB_iff,beq_iff_eq,and_assoc]
def mkE (n d:Int):Int:=if n < 1∨d < 1 then 1 else if 1000000000 < n / gcdI n d∨1000000000 < d / gcdI n d then 4 else 0
def mkN (n d:Int):Int:=if mkE n d=0 then n / gcdI n d else 0
def mkD (n d:Int):Int:=if mkE n d=0 then d / gcdI n d else 0
def ahead:List UInt8→List UInt8
 | []=>[]
 | c::r=>if c=47 then [] else c::ahead r
def behind:List UInt8→List UInt8
 | []=>[49]
 | c::r=>if c=47 then r else behind r
def prsE (l:List UInt8):Int :=
 if parseE (ahead l)=5∨parseE (behind l)=5 then 5 else if parseE (ahead l)≠0∨parseE (behind l)≠0 then 4 else mkE (parseV (ahead l)) (parseV (behind l))
def prsN (l:List UInt8):Int:=if prsE l=0 then mkN (parseV (ahead l)) (parseV (behind l)) else 0
def prsD (l:List UInt8):Int:=if prsE l=0 then mkD (parseV (ahead l)) (parseV (behind l)) else 0
def prt (n d:Int):List UInt8:=if rightB n d=true then (if d=1 then itoa n else itoa n++47::itoa d) else []
theorem gcdI_pos {n d:Int} (h:1≤n):1≤gcdI n d:=by
 have:0 < Nat.gcd n.natAbs d.natAbs:=Nat.gcd_pos_of_pos_left _ (by omega)
 unfold gcdI;omega
theorem gcdI_le {n d:Int} (h:1≤n):gcdI n d≤n:=by
 have:=Nat.gcd_le_left d.natAbs (show 0 < n.natAbs by omega)
 unfold gcdI;omega
theorem gcdI_dvd {n d:Int} (hn:1≤n) (hd:1≤d):∃ x y:Int,n=gcdI n d * x∧d=gcdI n d * y∧1≤x∧1≤y∧n / gcdI n d=x∧d / gcdI n d=y∧Nat.gcd x.natAbs y.natAbs=1:=by
 have hg:=gcdI_pos (d:=d) hn
 obtain ⟨x,hx⟩:=Nat.gcd_dvd_left n.natAbs d.natAbs
 obtain ⟨y,hy⟩:=Nat.gcd_dvd_right n.natAbs d.natAbs
 have ex:n=gcdI n d * (x:Int):=by
  have:((n.natAbs:Nat):Int)=((n.natAbs.gcd d.natAbs * x:Nat):Int):=congrArg _ hx
  rw [Int.natCast_mul] at this
  unfold gcdI;omega
 have ey:d=gcdI n d * (y:Int):=by
  have:((d.natAbs:Nat):Int)=((n.natAbs.gcd d.natAbs * y:Nat):Int):=congrArg _ hy
  rw [Int.natCast_mul] at this
  unfold gcdI;omega
 refine ⟨x,y,ex,ey,?_,?_,?_,?_,?_⟩
 ·rcases Nat.eq_zero_or_pos x with h | h
  ·subst h;simp at ex;omega
  ·omega
 ·rcases Nat.eq_zero_or_pos y with h | h
  ·subst h;simp at ey;omega
  ·omega
 ·exact Int.ediv_eq_of_eq_mul_right (by omega) ex
 ·exact Int.ediv_eq_of_eq_mul_right (by omega) ey
 ·have hp:0 < n.natAbs.gcd d.natAbs:=by unfold gcdI at hg;omega
  have e:n.natAbs.gcd d.natAbs * Nat.gcd x y=n.natAbs.gcd d.natAbs * 1:=by
   rw [←Nat.gcd_mul_left,←hx,←hy,Nat.mul_one]
  simpa using Nat.eq_of_mul_eq_mul_left hp e
theorem mkE_arg {n d:Int} (h:n < 1∨d < 1):mkE n d=1:=if_pos h
theorem mkE_ok {n d:Int} (h:¬ (n < 1∨d < 1)) (h2:¬ (1000000000 < n / gcdI n d∨1000000000 < d / gcdI n d)):mkE n d=0:=by
 unfold mkE;rw [if_neg h,if_neg h2]
theorem mk_none {n d:Int} (h:mkE n d≠0):mkN n d=0∧mkD n d=0:=⟨if_neg h,if_neg h⟩
theorem mk_some {n d:Int} (h:mkE n d=0):mkN n d=n / gcdI n d∧mkD n d=d / gcdI n d:=⟨if_pos h,if_pos h⟩
theorem mk_inv {n d:Int} (h:mkE n d=0):1≤n∧1≤d∧n / gcdI n d≤1000000000∧d / gcdI n d≤1000000000:=by
 unfold mkE at h
 split at h
 ·cases h
 ·split at h
  ·cases h
  ·omega
theorem mk_right {n d:Int} (h:mkE n d=0):rightB (mkN n d) (mkD n d)=true:=by
 obtain ⟨h1,h2,h3,h4⟩:=mk_inv h
 obtain ⟨x,y,_,_,x1,y1,ex,ey,hg⟩:=gcdI_dvd h1 h2
 obtain ⟨e1,e2⟩:=mk_some h
 rw [rightB_iff,e1,e2]
 rw [ex] at h3 ⊢
 rw [ey] at h4 ⊢
 exact ⟨⟨x1,h3⟩,⟨y1,h4⟩,hg⟩
theorem mk_times {n d k:Int} (h:rightB n d=true) (hk:1≤k):mkE (n * k) (d * k)=0∧mkN (n * k) (d * k)=n∧mkD (n * k) (d * k)=d:=by
 obtain ⟨⟨n1,n2⟩,⟨d1,d2⟩,hg⟩:=(rightB_iff n d).1 h
 have e:gcdI (n * k) (d * k)=k:=by
  unfold gcdI
  rw [Int.natAbs_mul,Int.natAbs_mul,Nat.gcd_mul_right,hg]
  omega
 have en:n * k / gcdI (n * k) (d * k)=n:=by rw [e];exact Int.mul_ediv_cancel _ (by omega)
 have ed:d * k / gcdI (n * k) (d * k)=d:=by rw [e];exact Int.mul_ediv_cancel _ (by omega)
 have hn:1≤n * k:=by have:=Int.mul_le_mul n1 hk (by omega) (by omega);omega
 have hd:1≤d * k:=by have:=Int.mul_le_mul d1 hk (by omega) (by omega);omega
 have h0:mkE (n * k) (d * k)=0:=mkE_ok (by omega) (by rw [en,ed];omega)
 obtain ⟨e1,e2⟩:=mk_some h0
 exact ⟨h0,by rw [e1,en],by rw [e2,ed]⟩
theorem mk_self {n d:Int} (h:rightB n d=true):mkE n d=0∧mkN n d=n∧mkD n d=d:=by
 have:=mk_times h (Int.le_refl 1)
 simpa using this
theorem ahead_slash (l r:List UInt8) (h:∀ c∈l,c≠47):ahead (l++47::r)=l∧behind (l++47::r)=r:=by
 induction l with
 | nil=>exact ⟨by simp [ahead],by simp [behind]⟩
 | cons c t ih =>
   obtain ⟨h1,h2⟩:=ih fun x hx=>h x (List.mem_cons_of_mem _ hx)
   have hc:c≠47:=h c (List.mem_cons_self ..)
   exact ⟨by simp [ahead,hc,h1],by simp [behind,hc,h2]⟩
theorem ahead_none (l:List UInt8) (h:∀ c∈l,c≠47):ahead l=l∧behind l=[49]:=by
 induction l with
 | nil=>exact ⟨rfl,rfl⟩
 | cons c t ih =>
   obtain ⟨h1,h2⟩:=ih fun x hx=>h x (List.mem_cons_of_mem _ hx)
   have hc:c≠47:=h c (List.mem_cons_self ..)
   exact ⟨by simp [ahead,hc,h1],by simp [behind,hc,h2]⟩
theorem ahead_length (l:List UInt8):(ahead l).length≤l.length:=by
 induction l with
 | nil=>exact Nat.le_refl _
 | cons c t ih=>unfold ahead;split <;> simp <;> omega
theorem behind_length (l:List UInt8):(behind l).length≤l.length+1:=by
 induction l with
 | nil=>exact Nat.le_refl _
 | cons c t ih=>unfold behind;split <;> simp <;> omega
theorem itoa_no_slash {n:Int} (h:0≤n):∀ c∈itoa n,c≠47:=by
 intro c hc
 have e:itoa n=decDigits n.toNat:=by unfold Lib.itoa;rw [if_neg (by omega)]
 rw [e] at hc
 have hd:=List.all_eq_true.1 (digs_dec n.toNat) c hc
 rw [dig_iff] at hd
 intro h47
 rw [h47] at hd
 exact absurd hd.1 (by decide)
theorem prs_of {l:List UInt8} {n d:Int} (h1:parseV (ahead l)=n) (h2:parseE (ahead l)=0) (h3:parseV (behind l)=d) (h4:parseE (behind l)=0):prsE l=mkE n d∧prsN l=mkN n d∧prsD l=mkD n d:=by
 have e:prsE l=mkE n d:=by unfold prsE;rw [if_neg (by rw [h2,h4];decide),if_neg (by rw [h2,h4];decide),h1,h3]
 refine ⟨e,?_,?_⟩
 ·unfold prsN;rw [e,h1,h3];split
  ·rfl
  ·exact (mk_none (by assumption)).1.symm
 ·unfold prsD;rw [e,h1,h3];split
  ·rfl
  ·exact (mk_none (by assumption)).2.symm
theorem prs_prt {n d:Int} (h:rightB n d=true):prsE (prt n d)=0∧prsN (prt n d)=n∧prsD (prt n d)=d:=by
 obtain ⟨⟨n1,n2⟩,⟨d1,d2⟩,hg⟩:=(rightB_iff n d).1 h
 obtain ⟨pn,pe⟩:=parse_itoa (n:=n) ((fit_iff _).2 (by omega))
 obtain ⟨qn,qe⟩:=parse_itoa (n:=d) ((fit_iff _).2 (by omega))
 obtain ⟨m1,m2,m3⟩:=mk_self h
 have key:prsE (prt n d)=mkE n d∧prsN (prt n d)=mkN n d∧prsD (prt n d)=mkD n d:=by
  unfold prt
  rw [if_pos h]
  by_cases h1:d=1
  ·subst h1
   rw [if_pos rfl]
   obtain ⟨e1,e2⟩:=ahead_none _ (itoa_no_slash (n:=n) (by omega))
   exact prs_of (by rw [e1,pn]) (by rw [e1,pe]) (by rw [e2];decide) (by rw [e2];decide)
  ·rw [if_neg h1]
   obtain ⟨e1,e2⟩:=ahead_slash _ (itoa d) (itoa_no_slash (n:=n) (by omega))
   exact prs_of (by rw [e1,pn]) (by rw [e1,pe]) (by rw [e2,qn]) (by rw [e2,qe])
 rw [m1,m2,m3] at key
 exact key
end Go.Proofs.YthcpglnmhimepaaGreatDoor
end
section
namespace Go.Proofs.YthcpglnmhimepaaGreatDoor.Fa
open Go.RowKit Go.Lib Go.Sort
def encK:Enc Key where
 cs k:=[.string k.e,.string k.a,.string k.f,.string k.p,.int .i64 k.m]
 k:=5
 len _:=rfl
 pos:=by decide
 one:=by intro k v hv;simp at hv;rcases hv with rfl | rfl | rfl | rfl | rfl <;> rfl
def encF:Enc Fact where
 cs f:=[.string f.key.e,.string f.key.a,.string f.key.f,.string f.key.p,.int .i64 f.key.m,.int .i64 f.amt]
 k:=6
 len _:=rfl
 pos:=by decide
 one:=by intro k v hv;simp at hv;rcases hv with rfl | rfl | rfl | rfl | rfl | rfl <;> rfl
abbrev aggK (k:Key):Value:=.agg #[.string k.e,.string k.a,.string k.f,.string k.p,.int .i64 k.m]
abbrev aggF (f:Fact):Value:=.agg #[.string f.key.e,.string f.key.a,.string f.key.f,.string f.key.p,.int .i64 f.key.m,.int .i64 f.amt]
theorem belowN {B:Nat} {a w:World} (h:Below B a w) (n:Nat):Below B a (w.drewN n):=⟨h.os,h.tape,h.output,h.size,h.block⟩
theorem ElsV.at_ {α:Type} {E:Enc α} {w:World} {p:Option Addr} {n c:Nat} {L:List α} (h:ElsV E w (.slice p n c) L) {i:Nat} {x:α} (hx:L[i]?=some x):∃ b o,p=some ⟨b,o,none⟩∧ElAt E w b (o+i * E.k) x:=by
 obtain ⟨p',c',e,_,_,_,hc⟩:=h
 cases e
 exact hc i x hx
end Go.Proofs.YthcpglnmhimepaaGreatDoor.Fa
end
section
namespace Go.Proofs.YthcpglnmhimepaaGreatDoor
open Go.RowKit
def looksOnly (o:Oper):Bool :=
 match o.op with
 | .move _ | .assign _ | .load .. | .binOp .. | .unOp .. | .convert .. | .fieldAddr .. | .field .. | .indexAddr .. | .index .. | .extract .. | .slice .. | .lookup .. | .makeInterface .. | .box .. | .build .. | .pick ..=>true
 | .nilCheck _=>true
 | .call c=>match c.callee with
   | .builtin .len=>true
   | .builtin .cap=>true
   | _=>false
 | _=>false
theorem next_value {α:Type} (P:Program) (s:Sem α) (g:α→Value) (w w':World) (n:Next) (h:(do pure (Next.value (g (←s))):Sem Next).run P w=.ok n w'):∃ v,n=.value v:=by
 simp only [Sem.run_bind] at h
 cases hs:s.run P w with
 | ok x w1 =>
   rw [hs] at h
   simp only [Result.andThen_ok,Sem.run_pure] at h
   cases h
   exact ⟨_,rfl⟩
 | halt x w1=>rw [hs] at h;simp [Result.andThen] at h
theorem nil_halts (P:Program) (w:World):∃ x,(runtimePanic .nilDeref:Sem Next).run P w=.halt x w:=⟨_,rfl⟩
theorem looks_value {P:Program} {ρ:Operand→Value} {o:Oper} {w w':World} {n:Next} (hl:looksOnly o=true) (h:(execOp ρ o).run P w=.ok n w'):∃ v,n=.value v:=by
 obtain ⟨dst,op,type,pos,after,guard⟩:=o
 cases op <;> simp only [looksOnly,Bool.false_eq_true] at hl <;> simp only [execOp] at h
 case move x=>simp only [Sem.run_pure] at h;cases h;exact ⟨_,rfl⟩
 case assign x=>simp only [Sem.run_pure] at h;cases h;exact ⟨_,rfl⟩
 case nilCheck x =>
  split at h
  all_goals first
   | (simp only [Sem.run_pure] at h;cases h;exact ⟨_,rfl⟩)
   | (obtain ⟨x,hx⟩:=nil_halts P w;rw [hx] at h;cases h;done)
   | skip
  split at h
  ·obtain ⟨x,hx⟩:=nil_halts P w;rw [hx] at h;cases h
  ·rename_i t u _
   simp only [Sem.run_bind] at h
   have hp:(program:Sem Program).run P w=.ok P w:=rfl
   rw [hp] at h
   simp only [Result.andThen_ok] at h
   revert h
   generalize (nilAhead (P.types.size+Made.depth) t u _).run P w=r
   intro h
   cases r with
   | halt x w1=>simp [Result.andThen] at h
   | ok b w1 =>
     simp only [Result.andThen_ok] at h
     split at h
     ·simp only [Sem.run_bind,run_unsupported] at h
      simp [Result.andThen] at h
     ·simp only [Sem.run_pure] at h;cases h;exact ⟨_,rfl⟩
  ·simp only [Sem.run_pure] at h;cases h;exact ⟨_,rfl⟩
 case call c =>
  split at hl
  ·rename_i hc
   simp only [resolve,hc,invoke,builtin,Sem.run_bind,Sem.run_pure,Result.andThen_ok] at h
   exact next_value P _ id _ _ _ (by simpa only [Sem.run_bind,Sem.run_pure,id] using h)
  ·rename_i hc
   simp only [resolve,hc,invoke,builtin,Sem.run_bind,Sem.run_pure,Result.andThen_ok] at h
   exact next_value P _ id _ _ _ (by simpa only [Sem.run_bind,Sem.run_pure,id] using h)
  ·cases hl
 all_goals exact next_value P _ _ _ _ _ h
section
variable {P:Program} {md:Region.Mode} {ops:Array Oper} {Q:Exit→Act→World→Prop} {S:World→Prop}
theorem yieldsIf_of_quiet {o:Oper} {a:Act} {v:Value} (hl:looksOnly o=true) (hw:Region.wanted o (yielded ops a.tmps)=true) (h:∀ w,S w→o.quietAt P a S w v):YieldsIf P ops S o v a:=by
 refine .inl ⟨hw,fun w hs=>?_⟩
 have h1:=h w hs
 unfold Oper.quietAt at h1
 cases hr:(execOp a.eval o).run P w with
 | ok n w' =>
   rw [hr] at h1
   obtain ⟨u,rfl⟩:=looks_value hl hr
   obtain ⟨rfl,rfl⟩:=h1
   rfl
 | halt x w'=>rw [hr] at h1;exact h1.elim
def nth:List Oper→Nat→List Oper→List Oper
 | [],_,more=>more
 | o::_,0,more=>o::more
 | _::l,i+1,more=>nth l i more
def pick (l:List Oper):List Nat→List Oper
 | []=>[]
 | i::r=>nth l i (pick l r)
theorem nth_eq {o:Oper}:∀ (l:List Oper) (i:Nat) (more:List Oper),l[i]?=some o→nth l i more=o::more
 | [],_,_,h=>by simp at h
 | x::l,0,more,h=>by simp at h;subst h;rfl
 | x::l,i+1,more,h=>by simp at h;exact nth_eq l i more h
def marked (listed:Array Bool):List Nat→Array Bool
 | []=>listed
 | i::r=>marked (listed.setIfInBounds i true) r
def sweepB (md:Region.Mode) (ops:Array Oper):List Nat→Array Bool→Bool
 | [],_=>true
 | i::r,listed=>((ops[i]?).map looksOnly).getD false && Region.free md ops listed i && (Region.ready md ops listed).contains i && sweepB md ops r (listed.setIfInBounds i true)
theorem sweep {l:List Oper} (hs:Region.noSelect l.toArray=true) (hQ:∀ d v c a w,Q (.panic c) (Act.put a d v) w→Q (.panic c) a w) {R:Act→Prop} {w:World} (hS:S w) :
 ∀ (q:List Nat) (fuel:Nat) (listed:Array Bool) (a:Act),sweepB md l.toArray q listed=true→wpQuiet P l.toArray S R (pick l q) a →
   (∀ a',R a'→wpAnyH P md l.toArray Q S fuel (marked listed q) a' w)→wpAnyH P md l.toArray Q S (fuel+q.length) listed a w
 | [],_,_,_,_,h,hr=>hr _ h
 | i::r,fuel,listed,a,hB,h,hr=>by
   simp only [sweepB,Bool.and_eq_true] at hB
   obtain ⟨⟨⟨hl,hf⟩,hc⟩,hB'⟩:=hB
   obtain ⟨o,ho⟩:∃ o,l.toArray[i]?=some o:=by
    cases he:l.toArray[i]? with
    | none=>rw [he] at hl;simp at hl
    | some o=>exact ⟨o,rfl⟩
   rw [ho] at hl
   simp only [Option.map_some,Option.getD_some] at hl
   have hp:pick l (i::r)=o::pick l r:=nth_eq l i _ (by simpa using ho)
   rw [hp] at h
   have hlen:fuel+(i::r).length=(fuel+r.length)+1:=by simp;omega
   rw [hlen]
   unfold wpQuiet at h
   by_cases hw:Region.wanted o (yielded l.toArray a.tmps)=true
   ·rw [if_pos hw] at h
    obtain ⟨v,hv,hk⟩:=h
    exact wpAnyH_take ho hs hf hc (fun c a' w'=>hQ _ _ c a' w') (yieldsIf_of_quiet hl hw hv) hS (sweep hs hQ hS r fuel _ _ hB' hk hr)
   ·rw [if_neg hw] at h
    exact wpAnyH_take ho hs hf hc (fun c a' w'=>hQ _ _ c a' w') (.inr ⟨by simpa using hw,rfl⟩) hS (sweep hs hQ hS r fuel _ _ hB' h hr)
def alone (P:Program) (ops:Array Oper) (Q:Exit→Act→World→Prop) (K:Act→World→Prop) (a:Act) (w:World):List Oper→Prop
 | []=>False
 | o::_=>if Region.wanted o (yielded ops a.tmps) then o.wp P a w K Q else K (a.put o.dst undef) w
inductive Plan where
 | last (q:List Nat)
 | one (q:List Nat) (k:Nat) (n:Plan)
 | two (q:List Nat) (k1:Nat) (n1:Plan) (k2:Nat) (n2:Plan)
def wpPlan (P:Program) (l:List Oper) (Q:Exit→Act→World→Prop) (S:World→Prop):Plan→Act→World→Prop
 | .last q,a,w=>wpQuiet P l.toArray S (fun a'=>Q .normal a' w) (pick l q) a
 | .one q k n,a,w=>wpQuiet P l.toArray S (fun a'=>∀ K:Act→World→Prop,(∀ a2 w2,S w2→wpPlan P l Q S n a2 w2→K a2 w2)→alone P l.toArray Q K a' w (nth l k [])) (pick l q) a
 | .two q k1 n1 k2 n2,a,w=>wpQuiet P l.toArray S (fun a'=>(∀ K:Act→World→Prop,(∀ a2 w2,S w2→wpPlan P l Q S n1 a2 w2→K a2 w2)→alone P l.toArray Q K a' w (nth l k1 []))∧(∀ K:Act→World→Prop,(∀ a2 w2,S w2→wpPlan P l Q S n2 a2 w2→K a2 w2)→alone P l.toArray Q K a' w (nth l k2 []))) (pick l q) a
def planN:Plan→Nat
 | .last q=>q.length
 | .one q _ n=>planN n+1+q.length
 | .two q _ n _ _=>planN n+1+q.length
def planB (md:Region.Mode) (ops:Array Oper):Plan→Array Bool→Bool
 | .last q,listed=>sweepB md ops q listed && (Region.ready md ops (marked listed q)).isEmpty
 | .one q k n,listed=>sweepB md ops q listed && decide (Region.ready md ops (marked listed q)=[k]) && planB md ops n ((marked listed q).setIfInBounds k true)
 | .two q k1 n1 k2 n2,listed=>sweepB md ops q listed && decide (Region.ready md ops (marked listed q)=[k1,k2]) && (planN n1==planN n2) && planB md ops n1 ((marked listed q).setIfInBounds k1 true) && planB md ops n2 ((marked listed q).setIfInBounds k2 true)
theorem op_alone {l:List Oper} {i:Nat} {K:Act→World→Prop} {a:Act} {w:World} {listed:Array Bool} (hr:i∈Region.ready md l.toArray listed) (hk:alone P l.toArray Q K a w (nth l i [])):wpOp P l.toArray Q i K a w:=by
 obtain ⟨_,o,ho,_⟩:=mem_ready.1 hr
 rw [nth_eq l i [] (by simpa using ho)] at hk
 unfold wpOp
 simp only [ho]
 simp only [alone] at hk
 split
 ·rename_i hw;rw [if_pos hw] at hk;exact .inl hk
 ·rename_i hw;rw [if_neg hw] at hk;exact hk
theorem any_of_plan {l:List Oper} (hs:Region.noSelect l.toArray=true) (hQ:∀ d v c a w,Q (.panic c) (Act.put a d v) w→Q (.panic c) a w) :
 ∀ (p:Plan) (listed:Array Bool) (a:Act) (w:World),planB md l.toArray p listed=true→S w→wpPlan P l Q S p a w→wpAnyH P md l.toArray Q S (planN p) listed a w
 | .last q,listed,a,w,hB,hS,h=>by
   simp only [planB,Bool.and_eq_true,List.isEmpty_iff] at hB
   have:=sweep (md:=md) hs hQ hS q 0 listed a hB.1 h (fun a' ha=>wpAnyH_done hB.2 ha 0)
   simpa [planN] using this
 | .one q k n,listed,a,w,hB,hS,h=>by
   simp only [planB,Bool.and_eq_true,decide_eq_true_eq] at hB
   obtain ⟨⟨h1,h2⟩,h3⟩:=hB
   refine sweep (md:=md) hs hQ hS q (planN n+1) listed a h1 h (fun a' ha=>?_)
   refine wpAnyH_all h2 (by simp) (fun i hi=>?_)
   simp only [List.mem_singleton] at hi
   subst hi
   exact op_alone (by rw [h2];simp) (ha _ (fun a2 w2 hs2 h4=>⟨hs2,any_of_plan hs hQ n _ a2 w2 h3 hs2 h4⟩))
 | .two q k1 n1 k2 n2,listed,a,w,hB,hS,h=>by
   simp only [planB,Bool.and_eq_true,decide_eq_true_eq,beq_iff_eq] at hB
   obtain ⟨⟨⟨⟨h1,h2⟩,hn⟩,h3⟩,h4⟩:=hB
   refine sweep (md:=md) hs hQ hS q (planN n1+1) listed a h1 h (fun a' ha=>?_)
   refine wpAnyH_all h2 (by simp) (fun i hi=>?_)
   simp only [List.mem_cons,List.not_mem_nil,or_false] at hi
   rcases hi with rfl | rfl
   ·exact op_alone (by rw [h2];simp) (ha.1 _ (fun a2 w2 hs2 h5=>⟨hs2,any_of_plan hs hQ n1 _ a2 w2 h3 hs2 h5⟩))
   ·rw [hn]
    exact op_alone (by rw [h2];simp) (ha.2 _ (fun a2 w2 hs2 h5=>⟨hs2,any_of_plan hs hQ n2 _ a2 w2 h4 hs2 h5⟩))
structure Since (B:Nat) (w:World) where
 goal:World
 below:Below B w goal
instance (B:Nat) (w:World):Nonempty (Since B w):=⟨⟨w,Below.refl _ _⟩⟩
theorem cell_since {B:Nat} {w:World} {ad:Addr} {v:Value} (h:w.cell? ad=some v) (hB:ad.block < B) (p:Since B w):p.goal.cell? ad=some v:=(p.below.cell hB).trans h
theorem since_in {B:Nat} {w0 w:World} (h:Below B w0 w):∃ p:Since B w0,w=p.goal:=⟨⟨w,h⟩,rfl⟩
theorem wp_region_plan_if {id:Nat} {l:List Oper} {a:Act} {w:World} (p:Plan) (hm:P.follows .mixedOrders=true)
 (hs:(Region.noSelect l.toArray && planB .any l.toArray p (Array.replicate l.toArray.size false) && (planN p==l.toArray.size))=true)
 (hQ:∀ d v c a w,Q (.panic c) (Act.put a d v) w→Q (.panic c) a w) (hS:S w.drew)
 (h:wpPlan P l Q S p a w.drew):(Code.region id l.toArray true).wp P Q a w:=by
 simp only [Bool.and_eq_true,beq_iff_eq] at hs
 refine wp_region_held (S:=S) hm ?_
 have:=any_of_plan (P:=P) hs.1.1 hQ p _ a w.drew hs.1.2 (S:=S) hS h
 rw [hs.2] at this
 exact this
theorem wp_region_plan {id:Nat} {l:List Oper} {a:Act} {w:World} (p:Plan) (hm:P.follows .mixedOrders=true)
 (hs:(Region.noSelect l.toArray && planB .any l.toArray p (Array.replicate l.toArray.size false) && (planN p==l.toArray.size))=true)
 (hQ:∀ d v c a w,Q (.panic c) (Act.put a d v) w→Q (.panic c) a w)
 (h:wpPlan P l Q (fun w'=>∃ p:Past w,w'=p.goal) p a w.drew):(Code.region id l.toArray true).wp P Q a w :=
 wp_region_plan_if p hm hs hQ ⟨⟨w.drew,⟨rfl,rfl,rfl,Nat.le_refl _,fun _ _=>rfl⟩⟩,rfl⟩ h
theorem wp_region_since (B:Nat) {id:Nat} {l:List Oper} {a:Act} {w:World} (p:Plan) (hm:P.follows .mixedOrders=true)
 (hs:(Region.noSelect l.toArray && planB .any l.toArray p (Array.replicate l.toArray.size false) && (planN p==l.toArray.size))=true)
 (hQ:∀ d v c a w,Q (.panic c) (Act.put a d v) w→Q (.panic c) a w)
 (h:wpPlan P l Q (fun w'=>∃ p:Since B w,w'=p.goal) p a w.drew):(Code.region id l.toArray true).wp P Q a w :=
 wp_region_plan_if p hm hs hQ ⟨⟨w.drew,⟨rfl,rfl,rfl,Nat.le_refl _,fun _ _=>rfl⟩⟩,rfl⟩ h
end
theorem alone_want {P:Program} {ops:Array Oper} {Q:Exit→Act→World→Prop} {K:Act→World→Prop} {a:Act} {w:World} {o:Oper} {l:List Oper} (hw:Region.wanted o (yielded ops a.tmps)=true) (h:o.wp P a w K Q):alone P ops Q K a w (o::l):=by
 simp only [alone];rw [if_pos hw];exact h
theorem alone_skip {P:Program} {ops:Array Oper} {Q:Exit→Act→World→Prop} {K:Act→World→Prop} {a:Act} {w:World} {o:Oper} {l:List Oper} (hw:Region.wanted o (yielded ops a.tmps)=false) (h:K (a.put o.dst undef) w):alone P ops Q K a w (o::l):=by
 simp only [alone];rw [if_neg (by simp [hw])];exact h
theorem past_in {w0 w:World} (h:Below w0.heap.size w0 w):∃ p:Past w0,w=p.goal:=⟨⟨w,h⟩,rfl⟩
end Go.Proofs.YthcpglnmhimepaaGreatDoor
end
section
namespace Go.Proofs.YthcpglnmhimepaaGreatDoor
open Go.RowKit
theorem ret_u64 {a b:Int} (h:a=b):Ending.returned (.int .u64 a)=.returned (.int .u64 b):=by rw [h]
set_option maxHeartbeats 400000 in
theorem size_any (a:Int) (w:World) (ha:In64 a) :
 Calls Tryz.prog 158 #[.int .i64 a] w fun e w'=>e=.returned (.int .u64 (a.natAbs:Int))∧w=w':=by
 obtain ⟨a1,a2⟩:=ha
 by_cases h:a < 0
 ·go_enter Tryz.func158,Tryz.ntmps158
  go_wp2
  go_ret
  exact ⟨ret_u64 (by simp only [IntKind.wrap_u64];omega),rfl⟩
 ·go_enter Tryz.func158,Tryz.ntmps158
  go_wp2
  go_ret
  exact ⟨ret_u64 (by omega),rfl⟩
end Go.Proofs.YthcpglnmhimepaaGreatDoor
end
section
namespace Go.Proofs.YthcpglnmhimepaaGreatDoor
open Go.RowKit
set_option maxHeartbeats 400000 in
theorem gcd_draws (a b:Int) (w:World) (ha:In64 a) (hb:In64 b) :
 Calls Tryz.prog 127 #[.int .i64 a,.int .i64 b] w fun e w'=>e=.returned (.int .u64 ((Nat.gcd a.natAbs b.natAbs:Nat):Int))∧∃ k,w'=w.drewN k:=by
 have HA:=Lib.hid ha
 have HB:=Lib.hid hb
 have la:=Lib.hid (abs_le ha)
 have lb:=Lib.hid (abs_le hb)
 clear ha hb
 obtain ⟨G,hG⟩:∃ G:Nat,G=Nat.gcd a.natAbs b.natAbs:=⟨_,rfl⟩
 rw [←hG]
 have HG:=Lib.hid hG.symm
 clear hG
 go_enter Tryz.func127,Tryz.ntmps127
 go_wp2_with fail
 refine (size_any a _ HA.out).mono ?_
 rintro e w' ⟨rfl,rfl⟩
 go_wp2_with fail
 refine (size_any b _ HB.out).mono ?_
 rintro e w' ⟨rfl,rfl⟩
 go_wp2_with fail
 go_loopw [5,6] (fun x y wr=>∃ m n:Nat,x=.int .u64 m∧y=.int .u64 n∧Hid (Nat.gcd m n=G)∧m≤9223372036854775808∧n≤9223372036854775808∧∃ k,wr=w.drewN k) (fun _ y _=>(intOf y).toNat)
 case atStart=>exact ⟨a.natAbs,b.natAbs,rfl,rfl,HG,la.out,lb.out,0,rfl⟩
 case round =>
  obtain ⟨m,n,rfl,rfl,hg,hm,hn,k,hbl⟩:=hrel
  have HBL:=Lib.hid hbl
  clear hbl
  by_cases h:n=0
  ·subst h
   go_wp2
   go_ret
   exact ⟨ret_u64 (by have:=hg.out;rw [Nat.gcd_zero_right] at this;rw [this]),k,HBL.out⟩
  ·have h1:((n:Int)==0)=false:=by simp;omega
   have h2:((n:Int) != 0)=true:=by simp;omega
   have h3:(0:Int) < n:=by omega
   have h4:m % n < n:=Nat.mod_lt _ (by omega)
   have HM:Hid ((m:Int) % (n:Int)=((m % n:Nat):Int)):=Lib.hid (Int.natCast_emod m n).symm
   go_wp2
   go_quiet (fail)
   go_wp2
   go_roundw
   case rel=>exact ⟨n,m % n,rfl,by first | rfl | rw [HM.out],Lib.hid ((Nat.gcd_comm n (m % n)).trans ((Nat.gcd_rec n m).symm.trans ((Nat.gcd_comm n m).trans hg.out))),hn,by omega,k+nq,by rw [HBL.out,World.drewN_drewN]⟩
   case measure=>simp [intOf];omega
theorem gcd_any (a b:Int) (w:World) (ha:In64 a) (hb:In64 b) :
 Calls Tryz.prog 127 #[.int .i64 a,.int .i64 b] w fun e w'=>e=.returned (.int .u64 ((Nat.gcd a.natAbs b.natAbs:Nat):Int))∧Below w.heap.size w w':=by
 refine (gcd_draws a b w ha hb).mono ?_
 rintro e w' ⟨rfl,k,rfl⟩
 exact ⟨rfl,below_drewN (Below.refl _ _) _⟩
end Go.Proofs.YthcpglnmhimepaaGreatDoor
end
section
namespace Go.Proofs.YthcpglnmhimepaaGreatDoor.Ra
open Go.RowKit
def RateAt (w:World) (g:Nat) (n d:Int):Prop:=w.cell? ⟨g,0,none⟩=some (.int .i64 n)∧w.cell? ⟨g,1,none⟩=some (.int .i64 d)
theorem RateAt.mk (w:World) (n d:Int) (t:TypeId):RateAt (w.alloc (.cells #[.int .i64 n,.int .i64 d] t)) w.heap.size n d:=by
 unfold RateAt;simp [World.cell?_alloc_new]
theorem RateAt.lt {w:World} {g:Nat} {n d:Int} (h:RateAt w g n d):g < w.heap.size:=World.block_lt_of_cell? w _ h.1
theorem RateAt.keep {w w':World} {g B:Nat} {n d:Int} (h:RateAt w g n d) (hb:Below B w w') (hB:w.heap.size≤B):RateAt w' g n d:=by
 have hg:g < B:=Nat.lt_of_lt_of_le h.lt hB
 exact ⟨(hb.cell (p:=⟨g,0,none⟩) hg).trans h.1,(hb.cell (p:=⟨g,1,none⟩) hg).trans h.2⟩
def RateVar (w:World) (g:Nat) (n d:Int):Prop:=RateAt w g n d∧w.frozen? ⟨g,0,none⟩=false∧w.frozen? ⟨g,1,none⟩=false
theorem RateVar.mk (w:World) (n d:Int) (t:TypeId):RateVar (w.alloc (.cells #[.int .i64 n,.int .i64 d] t)) w.heap.size n d:=by
 refine ⟨RateAt.mk w n d t,?_,?_⟩ <;> simp [World.frozen?_alloc_new]
theorem RateVar.keep {w w':World} {g B:Nat} {n d:Int} (h:RateVar w g n d) (hb:Below B w w') (hB:w.heap.size≤B):RateVar w' g n d:=by
 have hg:g < B:=Nat.lt_of_lt_of_le h.1.lt hB
 exact ⟨h.1.keep hb hB,(hb.frozen (p:=⟨g,0,none⟩) hg).trans h.2.1,(hb.frozen (p:=⟨g,1,none⟩) hg).trans h.2.2⟩
theorem RateVar.set0 {w:World} {g:Nat} {n d:Int} (x:Int) (h:RateVar w g n d):RateVar (w.setCell ⟨g,0,none⟩ (.int .i64 x)) g x d:=by
 obtain ⟨⟨h0,h1⟩,h2,h3⟩:=h
 unfold RateVar RateAt;simp [go_sem,h0,h1,h2,h3]
theorem RateVar.other {w:World} {g g' o:Nat} {n d:Int} (u:Value) (h:RateVar w g n d) (hg:g≠g'):RateVar (w.setCell ⟨g',o,none⟩ u) g n d:=by
 obtain ⟨⟨h0,h1⟩,h2,h3⟩:=h
 unfold RateVar RateAt;simp [go_sem,h0,h1,h2,h3]
set_option maxHeartbeats 400000 in
theorem inBounds_any (n:Int) (w:World) :
 Calls Tryz.prog 129 #[.int .i64 n] w fun e w'=>e=.returned (.bool (bndB n))∧w=w':=by
 by_cases h:1≤n
 ·have hd:decide (1≤n)=true:=by simpa using h
  go_enter Tryz.func129,Tryz.ntmps129
  go_wp2
  go_ret
  exact ⟨ret_bool (by unfold bndB;rw [hd,Bool.true_and]),rfl⟩
 ·have hd:decide (1≤n)=false:=by simpa using h
  go_enter Tryz.func129,Tryz.ntmps129
  go_wp2
  go_ret
  exact ⟨ret_bool (by unfold bndB;rw [hd,Bool.false_and]),rfl⟩
set_option maxHeartbeats 400000 in
theorem right_any (n d:Int) (w:World) (hn:In64 n) (hd:In64 d) :
 Calls Tryz.prog 93 #[.agg #[.int .i64 n,.int .i64 d]] w fun e w'=>e=.returned (.bool (rightB n d))∧Below w.heap.size w w':=by
 have HN:=Lib.hid hn
 have HD:=Lib.hid hd
 clear hn hd
 obtain ⟨G,hG⟩:∃ G:Nat,G=Nat.gcd n.natAbs d.natAbs:=⟨_,rfl⟩
 have HG:=Lib.hid hG
 clear hG
 cases h1:bndB n with
 | false =>
   have H1:=Lib.hid h1
   clear h1
   go_enter Tryz.func93,Tryz.ntmps93
   go_wp2_with fail
   refine (inBounds_any n _).mono ?_
   rintro e w' ⟨rfl,rfl⟩
   rw [H1.out]
   go_wp2
   go_ret
   exact ⟨ret_bool (by unfold rightB;rw [H1.out,Bool.false_and,Bool.false_and]),(Below.refl _ _).alloc (Nat.le_refl _) _⟩
 | true =>
   cases h2:bndB d with
   | false =>
     have H1:=Lib.hid h1
     have H2:=Lib.hid h2
     clear h1 h2
     go_enter Tryz.func93,Tryz.ntmps93
     go_wp2_with fail
     refine (inBounds_any n _).mono ?_
     rintro e w' ⟨rfl,rfl⟩
     rw [H1.out]
     go_wp2_with fail
     refine (inBounds_any d _).mono ?_
     rintro e w' ⟨rfl,rfl⟩
     rw [H2.out]
     go_wp2
     go_ret
     exact ⟨ret_bool (by unfold rightB;rw [H1.out,H2.out];rfl),(Below.refl _ _).alloc (Nat.le_refl _) _⟩
   | true =>
     have H1:=Lib.hid h1
     have H2:=Lib.hid h2
     clear h1 h2
     go_enter Tryz.func93,Tryz.ntmps93
     go_wp2_with fail
     refine (inBounds_any n _).mono ?_
     rintro e w' ⟨rfl,rfl⟩
     rw [H1.out]
     go_wp2_with fail
     refine (inBounds_any d _).mono ?_
     rintro e w' ⟨rfl,rfl⟩
     rw [H2.out]
     go_wp2_with fail
     refine (gcd_any n d _ HN.out HD.out).mono ?_
     rintro e w1 ⟨rfl,hb1⟩
     have HB1:=Lib.hid (((Below.refl w.heap.size w).alloc (Nat.le_refl _) _).trans (hb1.mono (by simp)))
     clear hb1
     rw [←HG.out]
     go_wp2
     go_ret
     refine ⟨ret_bool ?_,HB1.out⟩
     unfold rightB
     rw [H1.out,H2.out,←HG.out,Bool.and_self,Bool.true_and,Bool.eq_iff_iff]
     simp only [beq_iff_eq]
     omega
end Go.Proofs.YthcpglnmhimepaaGreatDoor.Ra
end
section
namespace Go.Proofs.YthcpglnmhimepaaGreatDoor
open Go.RowKit
set_option maxHeartbeats 400000 in
theorem rsize_any (a:Int) (w:World) (ha:In64 a) :
 Calls Tryz.prog 100 #[.int .i64 a] w fun e w'=>e=.returned (.int .u64 (a.natAbs:Int))∧w=w':=by
 obtain ⟨a1,a2⟩:=ha
 by_cases h:a < 0
 ·go_enter Tryz.func100,Tryz.ntmps100
  go_wp2
  go_ret
  exact ⟨ret_u64 (by simp only [IntKind.wrap_u64];omega),rfl⟩
 ·go_enter Tryz.func100,Tryz.ntmps100
  go_wp2
  go_ret
  exact ⟨ret_u64 (by omega),rfl⟩
end Go.Proofs.YthcpglnmhimepaaGreatDoor
end
section
namespace Go.Proofs.YthcpglnmhimepaaGreatDoor
open Go.RowKit
def TwoAt (w:World) (g n:Nat):Prop :=
 (w.cell? ⟨g,0,none⟩=some (.int .u64 (hi64 n))∧w.cell? ⟨g,1,none⟩=some (.int .u64 (lo64 n)))∧w.frozen? ⟨g,0,none⟩=false∧w.frozen? ⟨g,1,none⟩=false
end Go.Proofs.YthcpglnmhimepaaGreatDoor
end
section
namespace Go.Proofs.YthcpglnmhimepaaGreatDoor
open Go.RowKit
set_option maxHeartbeats 400000 in
theorem rgcd_any (a b:Int) (w:World) (ha:In64 a) (hb:In64 b) :
 Calls Tryz.prog 64 #[.int .i64 a,.int .i64 b] w fun e w'=>e=.returned (.int .u64 ((Nat.gcd a.natAbs b.natAbs:Nat):Int))∧w=w':=by
 have HA:=Lib.hid ha
 have HB:=Lib.hid hb
 have la:=Lib.hid (abs_le ha)
 have lb:=Lib.hid (abs_le hb)
 clear ha hb
 obtain ⟨G,hG⟩:∃ G:Nat,G=Nat.gcd a.natAbs b.natAbs:=⟨_,rfl⟩
 rw [←hG]
 have HG:=Lib.hid hG.symm
 clear hG
 go_enter Tryz.func64,Tryz.ntmps64
 go_wp2_with fail
 refine (rsize_any a _ HA.out).mono ?_
 rintro e w' ⟨rfl,rfl⟩
 go_wp2_with fail
 refine (rsize_any b _ HB.out).mono ?_
 rintro e w' ⟨rfl,rfl⟩
 go_wp2_with fail
 go_loop [5,6] (fun x y=>∃ m n:Nat,x=.int .u64 m∧y=.int .u64 n∧Hid (Nat.gcd m n=G)∧m≤9223372036854775808∧n≤9223372036854775808) (fun _ y=>(intOf y).toNat)
 case atStart=>exact ⟨a.natAbs,b.natAbs,rfl,rfl,HG,la.out,lb.out⟩
 case round =>
  obtain ⟨m,n,rfl,rfl,hg,hm,hn⟩:=hrel
  by_cases h:n=0
  ·subst h
   go_wp2
   go_ret
   exact ⟨ret_u64 (by have:=hg.out;rw [Nat.gcd_zero_right] at this;rw [this]),rfl⟩
  ·have h1:((n:Int)==0)=false:=by simp;omega
   have h2:((n:Int) != 0)=true:=by simp;omega
   have h3:(0:Int) < n:=by omega
   have h4:m % n < n:=Nat.mod_lt _ (by omega)
   have HM:Hid ((m:Int) % (n:Int)=((m % n:Nat):Int)):=Lib.hid (Int.natCast_emod m n).symm
   go_wp2
   go_round
   case rel=>exact ⟨n,m % n,rfl,by first | rfl | rw [HM.out],Lib.hid ((Nat.gcd_comm n (m % n)).trans ((Nat.gcd_rec n m).symm.trans ((Nat.gcd_comm n m).trans hg.out))),hn,by omega⟩
   case measure=>simp [intOf] <;> omega
end Go.Proofs.YthcpglnmhimepaaGreatDoor
end
section
namespace Go.Proofs.YthcpglnmhimepaaGreatDoor.Ra
open Go.RowKit
theorem rgcd_below (a b:Int) (w:World) (ha:In64 a) (hb:In64 b) :
 Calls Tryz.prog 64 #[.int .i64 a,.int .i64 b] w fun e w'=>e=.returned (.int .u64 ((Nat.gcd a.natAbs b.natAbs:Nat):Int))∧Below w.heap.size w w':=by
 refine (rgcd_any a b w ha hb).mono ?_
 rintro e w' ⟨rfl,rfl⟩
 exact ⟨rfl,Below.refl _ _⟩
set_option maxHeartbeats 400000 in
theorem qright_any (n d:Int) (w:World) (hn:In64 n) (hd:In64 d) :
 Calls Tryz.prog 57 #[.agg #[.int .i64 n,.int .i64 d]] w fun e w'=>e=.returned (.bool (rightB n d))∧Below w.heap.size w w':=by
 have HN:=Lib.hid hn
 have HD:=Lib.hid hd
 clear hn hd
 obtain ⟨G,hG⟩:∃ G:Nat,G=Nat.gcd n.natAbs d.natAbs:=⟨_,rfl⟩
 have HG:=Lib.hid hG
 clear hG
 have key:(1≤n∧n≤1000000000∧1≤d∧d≤1000000000)∨rightB n d=false:=by
  by_cases h:1≤n∧n≤1000000000∧1≤d∧d≤1000000000
  ·exact .inl h
  ·refine .inr ?_
   rw [←Bool.not_eq_true,rightB_iff];omega
 rcases key with ⟨h1,h2,h3,h4⟩ | hno
 ·go_enter Tryz.func57,Tryz.ntmps57
  go_wp2_with fail
  refine (rgcd_any n d _ HN.out HD.out).mono ?_
  rintro e w' ⟨rfl,rfl⟩
  rw [←HG.out]
  go_wp2
  go_ret
  refine ⟨ret_bool ?_,(Below.refl _ _).alloc (Nat.le_refl _) _⟩
  unfold rightB
  rw [(bndB_iff n).2 ⟨h1,h2⟩,(bndB_iff d).2 ⟨h3,h4⟩,←HG.out,Bool.and_self,Bool.true_and,Bool.eq_iff_iff]
  simp only [beq_iff_eq]
  omega
 ·have hcase:n < 1∨(1≤n∧1000000000 < n)∨(1≤n∧n≤1000000000∧d < 1)∨(1≤n∧n≤1000000000∧1≤d∧1000000000 < d)∨(1≤n∧n≤1000000000∧1≤d∧d≤1000000000):=by omega
  have HNO:=Lib.hid hno
  clear hno
  rcases hcase with h1 | ⟨h1,h2⟩ | ⟨h1,h2,h3⟩ | ⟨h1,h2,h3,h4⟩ | ⟨h1,h2,h3,h4⟩
  ·have t1:decide (1≤n)=false:=by simp;omega
   go_enter Tryz.func57,Tryz.ntmps57
   go_wp2
   go_ret
   exact ⟨ret_bool HNO.out.symm,(Below.refl _ _).alloc (Nat.le_refl _) _⟩
  ·have t1:decide (n≤1000000000)=false:=by simp;omega
   go_enter Tryz.func57,Tryz.ntmps57
   go_wp2
   go_ret
   exact ⟨ret_bool HNO.out.symm,(Below.refl _ _).alloc (Nat.le_refl _) _⟩
  ·have t1:decide (1≤d)=false:=by simp;omega
   go_enter Tryz.func57,Tryz.ntmps57
   go_wp2
   go_ret
   exact ⟨ret_bool HNO.out.symm,(Below.refl _ _).alloc (Nat.le_refl _) _⟩
  ·have t1:decide (d≤1000000000)=false:=by simp;omega
   go_enter Tryz.func57,Tryz.ntmps57
   go_wp2
   go_ret
   exact ⟨ret_bool HNO.out.symm,(Below.refl _ _).alloc (Nat.le_refl _) _⟩
  ·go_enter Tryz.func57,Tryz.ntmps57
   go_wp2_with fail
   refine (rgcd_any n d _ HN.out HD.out).mono ?_
   rintro e w' ⟨rfl,rfl⟩
   rw [←HG.out]
   go_wp2
   go_ret
   refine ⟨ret_bool ?_,(Below.refl _ _).alloc (Nat.le_refl _) _⟩
   unfold rightB
   rw [(bndB_iff n).2 ⟨h1,h2⟩,(bndB_iff d).2 ⟨h3,h4⟩,←HG.out,Bool.and_self,Bool.true_and,Bool.eq_iff_iff]
   simp only [beq_iff_eq]
   omega
set_option maxHeartbeats 400000 in
theorem qmake_arg (n d:Int) (w:World) (h:n < 1∨d < 1) :
 Calls Tryz.prog 40 #[.int .i64 n,.int .i64 d] w fun e w'=>e=.returned (.tuple #[.agg #[.int .i64 0,.int .i64 0],.int .i64 1])∧Below w.heap.size w w':=by
 by_cases h1:n < 1
 ·have hd:decide (n < 1)=true:=by simpa using h1
  go_enter Tryz.func40,Tryz.ntmps40
  go_wp2
  exact bodyPost_ret (v:=.tuple #[.agg #[.int .i64 0,.int .i64 0],.int .i64 1]) (by simp [results,Tryz.results40,go_sem]) rfl ⟨rfl,(Below.refl _ _).alloc (Nat.le_refl _) _⟩
 ·have hd:decide (n < 1)=false:=by simpa using h1
  have h2:d < 1:=by omega
  clear h
  go_enter Tryz.func40,Tryz.ntmps40
  go_wp2
  exact bodyPost_ret (v:=.tuple #[.agg #[.int .i64 0,.int .i64 0],.int .i64 1]) (by simp [results,Tryz.results40,go_sem]) rfl ⟨rfl,(Below.refl _ _).alloc (Nat.le_refl _) _⟩
set_option maxHeartbeats 1000000 in
theorem qmake_quot (n d:Int) (w:World) (hn:In64 n) (hd:In64 d) (h:¬ (n < 1∨d < 1)) :
 Calls Tryz.prog 40 #[.int .i64 n,.int .i64 d] w fun e w'=>e=.returned (.tuple #[.agg #[.int .i64 (mkN n d),.int .i64 (mkD n d)],.int .i64 (mkE n d)])∧Below w.heap.size w w':=by
 have h1:1≤n:=by omega
 have h2:1≤d:=by omega
 have g1:=gcdI_pos (d:=d) h1
 have g2:=gcdI_le (d:=d) h1
 obtain ⟨_,hn2⟩:=hn
 obtain ⟨_,hd2⟩:=hd
 have q1:0≤n / gcdI n d∧n / gcdI n d≤n:=⟨Int.ediv_nonneg (by omega) (by omega),Int.ediv_le_self _ (by omega)⟩
 have q2:0≤d / gcdI n d∧d / gcdI n d≤d:=⟨Int.ediv_nonneg (by omega) (by omega),Int.ediv_le_self _ (by omega)⟩
 have HN:=Lib.hid (show In64 n from ⟨by omega,hn2⟩)
 have HD:=Lib.hid (show In64 d from ⟨by omega,hd2⟩)
 have HE:Hid (((Nat.gcd n.natAbs d.natAbs:Nat):Int)=gcdI n d):=Lib.hid rfl
 have h0:gcdI n d≠0:=by omega
 have d1:decide (n < 1)=false:=by simp;omega
 have d2:decide (d < 1)=false:=by simp;omega
 obtain ⟨x,hx⟩:∃ x,n / gcdI n d=x:=⟨_,rfl⟩
 obtain ⟨y,hy⟩:∃ y,d / gcdI n d=y:=⟨_,rfl⟩
 have HX:=Lib.hid hx
 have HY:=Lib.hid hy
 rw [hx] at q1
 rw [hy] at q2
 clear hx hy
 obtain ⟨x1,x2⟩:=q1
 obtain ⟨y1,y2⟩:=q2
 have HK:Hid ((if 1000000000 < x∨1000000000 < y then (4:Int) else 0)=mkE n d):=Lib.hid (by unfold mkE;rw [if_neg h,HX.out,HY.out])
 have HNN:Hid (mkN n d=if mkE n d=0 then x else 0):=Lib.hid (by unfold mkN;rw [HX.out])
 have HDD:Hid (mkD n d=if mkE n d=0 then y else 0):=Lib.hid (by unfold mkD;rw [HY.out])
 generalize mkE n d=E at *
 generalize mkN n d=N at *
 generalize mkD n d=D at *
 generalize hg:gcdI n d=g at *
 clear hg
 go_enter Tryz.func40,Tryz.ntmps40
 go_wp2_with fail
 refine (rgcd_below n d _ HN.out HD.out).mono ?_
 rintro e w1 ⟨rfl,hb1⟩
 have V0:=(RateVar.mk w 0 0 56).keep hb1 (Nat.le_refl _)
 have V1:=V0.keep ((Below.refl w1.heap.size w1).alloc (Nat.le_refl _) (.cells #[.int .i64 x,.int .i64 y] 56)) (Nat.le_refl _)
 obtain ⟨⟨c0,c1⟩,f0,f1⟩:=V1
 clear V0
 have HB1:=Lib.hid (((Below.refl w.heap.size w).alloc (Nat.le_refl _) _).trans (hb1.mono (by simp)))
 clear hb1
 rw [HE.out]
 go_wp2
 have hx:=HX.out
 have hy:=HY.out
 have hx':n.tdiv g=x:=by rw [Int.tdiv_eq_ediv_of_nonneg (by omega)];exact hx
 have hy':d.tdiv g=y:=by rw [Int.tdiv_eq_ediv_of_nonneg (by omega)];exact hy
 have wx:=IntWalk.i64_in x ⟨by omega,by omega⟩
 have wy:=IntWalk.i64_in y ⟨by omega,by omega⟩
 go_region
 clear hx hy hx' hy' wx wy
 by_cases k1:1000000000 < x
 ·have e1:E=4:=by rw [←HK.out,if_pos (.inl k1)]
  have e2:N=0:=by rw [HNN.out,if_neg (by rw [e1];decide)]
  have e3:D=0:=by rw [HDD.out,if_neg (by rw [e1];decide)]
  subst e1 e2 e3
  go_wp2
  exact bodyPost_ret (v:=.tuple #[.agg #[.int .i64 0,.int .i64 0],.int .i64 4]) (by simp [results,Tryz.results40,go_sem,c0,c1]) rfl ⟨rfl,(((HB1.out.alloc HB1.out.size _).setCell (Nat.le_refl _) _).setCell (Nat.le_refl _) _).drew⟩
 ·by_cases k2:1000000000 < y
  ·have e1:E=4:=by rw [←HK.out,if_pos (.inr k2)]
   have e2:N=0:=by rw [HNN.out,if_neg (by rw [e1];decide)]
   have e3:D=0:=by rw [HDD.out,if_neg (by rw [e1];decide)]
   subst e1 e2 e3
   go_wp2
   exact bodyPost_ret (v:=.tuple #[.agg #[.int .i64 0,.int .i64 0],.int .i64 4]) (by simp [results,Tryz.results40,go_sem,c0,c1]) rfl ⟨rfl,(((HB1.out.alloc HB1.out.size _).setCell (Nat.le_refl _) _).setCell (Nat.le_refl _) _).drew⟩
  ·have e1:E=0:=by rw [←HK.out,if_neg (by omega)]
   have e2:N=x:=by rw [HNN.out,if_pos e1]
   have e3:D=y:=by rw [HDD.out,if_pos e1]
   subst e1 e2 e3
   go_wp2
   exact bodyPost_ret (v:=.tuple #[.agg #[.int .i64 N,.int .i64 D],.int .i64 0]) (by simp [results,Tryz.results40,go_sem,c0,c1]) rfl ⟨rfl,(((HB1.out.alloc HB1.out.size _).setCell (Nat.le_refl _) _).setCell (Nat.le_refl _) _).drew⟩
theorem qmake_any (n d:Int) (w:World) (hn:In64 n) (hd:In64 d) :
 Calls Tryz.prog 40 #[.int .i64 n,.int .i64 d] w fun e w'=>e=.returned (.tuple #[.agg #[.int .i64 (mkN n d),.int .i64 (mkD n d)],.int .i64 (mkE n d)])∧Below w.heap.size w w':=by
 by_cases h:n < 1∨d < 1
 ·have e1:=mkE_arg h
  obtain ⟨e2,e3⟩:=mk_none (n:=n) (d:=d) (by rw [e1];decide)
  rw [e1,e2,e3]
  exact qmake_arg n d w h
 ·exact qmake_quot n d w hn hd h
end Go.Proofs.YthcpglnmhimepaaGreatDoor.Ra
end
section
namespace Go.Proofs.YthcpglnmhimepaaGreatDoor
open Go.RowKit
theorem digs_bad (s:ByteArray) (k:Nat) (hlt:k < s.size) (hc:dig s[k]=false):digs s.data.toList=false:=by
 cases h:digs s.data.toList with
 | false=>rfl
 | true =>
   have:=digs_at _ k (by simpa using hlt) h
   rw [←hc];exact this.symm
set_option maxHeartbeats 400000 in
theorem form_nil (w:World):Calls Tryz.prog 62 #[.string ⟨#[]⟩] w fun e w'=>e=.returned (.bool (whole []))∧w=w':=by
 go_enter Tryz.func62,Tryz.ntmps62
 go_wp2
 go_ret
 exact ⟨rfl,rfl⟩
set_option maxHeartbeats 400000 in
theorem form_minus (w:World):Calls Tryz.prog 62 #[.string ⟨#[45]⟩] w fun e w'=>e=.returned (.bool (whole [45]))∧w=w':=by
 go_enter Tryz.func62,Tryz.ntmps62
 go_wp2
 go_ret
 exact ⟨rfl,rfl⟩
set_option maxHeartbeats 400000 in
theorem form_minus0 (s t:ByteArray) (w:World) (hs:s.size≤maxLen) (hp:0 < s.size) (h45:((s[0].toNat:Int)==45)=true) (hx:s.extract 1 s.size=t) (ht:0 < t.size) (h48:((t[0].toNat:Int)==48)=true) :
 Calls Tryz.prog 62 #[.string s] w fun e w'=>e=.returned (.bool false)∧w=w':=by
 unfold maxLen at hs
 have hp':(0:Int) < (s.size:Int):=by omega
 have ht':(0:Int) < (t.size:Int):=by omega
 go_enter Tryz.func62,Tryz.ntmps62
 go_wp2
 go_ret
 exact ⟨rfl,rfl⟩
set_option maxHeartbeats 400000 in
theorem form_0 (s:ByteArray) (w:World) (hs:s.size≤maxLen) (hp:1 < s.size) (h48:((s[0].toNat:Int)==48)=true) (h45:((s[0].toNat:Int)==45)=false) :
 Calls Tryz.prog 62 #[.string s] w fun e w'=>e=.returned (.bool false)∧w=w':=by
 unfold maxLen at hs
 have hp0:0 < s.size:=by omega
 have hp':(1:Int) < (s.size:Int):=by omega
 have hp1:((s.size:Int)==0)=false:=by rw [beq_eq_false_iff_ne];omega
 go_enter Tryz.func62,Tryz.ntmps62
 go_wp2
 go_ret
 exact ⟨rfl,rfl⟩
set_option maxHeartbeats 400000 in
theorem form_one (s:ByteArray) (w:World) (hp0:0 < s.size) (hp1:s.size≤1) (h45:((s[0].toNat:Int)==45)=false) :
 Calls Tryz.prog 62 #[.string s] w fun e w'=>e=.returned (.bool (digs s.data.toList))∧w=w':=by
 have hp2:((s.size:Int)==0)=false:=by rw [beq_eq_false_iff_ne];omega
 go_enter Tryz.func62,Tryz.ntmps62
 go_wp2
 go_loop [3] (fun i=>∃ k:Nat,k≤s.size∧i=.int .i64 k∧digs (s.data.toList.take k)=true) (fun i=>s.size - (intOf i).toNat)
 case atStart=>exact ⟨0,Nat.zero_le _,rfl,rfl⟩
 case round =>
  obtain ⟨k,hk,rfl,hd⟩:=hrel
  have HD:=Lib.hid hd
  clear hd
  by_cases hlt:k < s.size
  ·cases hc:dig s[k] with
   | true =>
     have HC:=Lib.hid hc
     obtain ⟨c1,c2⟩:=(dig_iff _).1 hc
     have c3:(48:Int)≤(s[k].toNat:Int):=by omega
     have c4:(s[k].toNat:Int)≤57:=by omega
     clear hc c1 c2
     go_wp2
     go_round
     case rel=>exact ⟨k+1,by omega,by go_num,by rw [digs_take s k hlt,HD.out,HC.out];rfl⟩
     case measure=>simp [intOf];omega
   | false =>
     have hfin:digs s.data.toList=false:=digs_bad s k hlt hc
     have HFIN:=Lib.hid hfin
     clear hfin
     have hc':¬ (48≤s[k].toNat∧s[k].toNat≤57):=by rw [←dig_iff,hc];simp
     clear hc
     by_cases c1:48≤s[k].toNat
     ·have c3:(48:Int)≤(s[k].toNat:Int):=by omega
      have c4:(57:Int) < (s[k].toNat:Int):=by omega
      clear hc' c1
      go_wp2
      go_ret
      exact ⟨ret_bool HFIN.out.symm,rfl⟩
     ·have c3:(s[k].toNat:Int) < 48:=by omega
      clear hc' c1
      go_wp2
      go_ret
      exact ⟨ret_bool HFIN.out.symm,rfl⟩
  ·have hfin:digs s.data.toList=true:=by
    have:=HD.out
    rwa [List.take_of_length_le (by simp;omega)] at this
   have HFIN:=Lib.hid hfin
   clear hfin
   go_wp2
   go_ret
   exact ⟨ret_bool HFIN.out.symm,rfl⟩
set_option maxHeartbeats 400000 in
theorem form_d (s:ByteArray) (w:World) (hs:s.size≤maxLen) (hp:1 < s.size) (h48:((s[0].toNat:Int)==48)=false) (h45:((s[0].toNat:Int)==45)=false) :
 Calls Tryz.prog 62 #[.string s] w fun e w'=>e=.returned (.bool (digs s.data.toList))∧w=w':=by
 unfold maxLen at hs
 have hp0:0 < s.size:=by omega
 have hp2:((s.size:Int)==0)=false:=by rw [beq_eq_false_iff_ne];omega
 go_enter Tryz.func62,Tryz.ntmps62
 go_wp2
 go_loop [3] (fun i=>∃ k:Nat,k≤s.size∧i=.int .i64 k∧digs (s.data.toList.take k)=true) (fun i=>s.size - (intOf i).toNat)
 case atStart=>exact ⟨0,Nat.zero_le _,rfl,rfl⟩
 case round =>
  obtain ⟨k,hk,rfl,hd⟩:=hrel
  have HD:=Lib.hid hd
  clear hd
  by_cases hlt:k < s.size
  ·cases hc:dig s[k] with
   | true =>
     have HC:=Lib.hid hc
     obtain ⟨c1,c2⟩:=(dig_iff _).1 hc
     have c3:(48:Int)≤(s[k].toNat:Int):=by omega
     have c4:(s[k].toNat:Int)≤57:=by omega
     clear hc c1 c2
     go_wp2
     go_round
     case rel=>exact ⟨k+1,by omega,by go_num,by rw [digs_take s k hlt,HD.out,HC.out];rfl⟩
     case measure=>simp [intOf];omega
   | false =>
     have hfin:digs s.data.toList=false:=digs_bad s k hlt hc
     have HFIN:=Lib.hid hfin
     clear hfin
     have hc':¬ (48≤s[k].toNat∧s[k].toNat≤57):=by rw [←dig_iff,hc];simp
     clear hc
     by_cases c1:48≤s[k].toNat
     ·have c3:(48:Int)≤(s[k].toNat:Int):=by omega
      have c4:(57:Int) < (s[k].toNat:Int):=by omega
      clear hc' c1
      go_wp2
      go_ret
      exact ⟨ret_bool HFIN.out.symm,rfl⟩
     ·have c3:(s[k].toNat:Int) < 48:=by omega
      clear hc' c1
      go_wp2
      go_ret
      exact ⟨ret_bool HFIN.out.symm,rfl⟩
  ·have hfin:digs s.data.toList=true:=by
    have:=HD.out
    rwa [List.take_of_length_le (by simp;omega)] at this
   have HFIN:=Lib.hid hfin
   clear hfin
   go_wp2
   go_ret
   exact ⟨ret_bool HFIN.out.symm,rfl⟩
set_option maxHeartbeats 400000 in
theorem form_minus1 (s t:ByteArray) (w:World) (hs:s.size≤maxLen) (hp:0 < s.size) (h45:((s[0].toNat:Int)==45)=true) (hx:s.extract 1 s.size=t) (ht:0 < t.size) (ht1:t.size≤1) (h48:((t[0].toNat:Int)==48)=false) :
 Calls Tryz.prog 62 #[.string s] w fun e w'=>e=.returned (.bool (digs t.data.toList))∧w=w':=by
 unfold maxLen at hs
 have hp2:((t.size:Int)==0)=false:=by rw [beq_eq_false_iff_ne];omega
 go_enter Tryz.func62,Tryz.ntmps62
 go_wp2
 go_loop [3] (fun i=>∃ k:Nat,k≤t.size∧i=.int .i64 k∧digs (t.data.toList.take k)=true) (fun i=>t.size - (intOf i).toNat)
 case atStart=>exact ⟨0,Nat.zero_le _,rfl,rfl⟩
 case round =>
  obtain ⟨k,hk,rfl,hd⟩:=hrel
  have HD:=Lib.hid hd
  clear hd
  by_cases hlt:k < t.size
  ·cases hc:dig t[k] with
   | true =>
     have HC:=Lib.hid hc
     obtain ⟨c1,c2⟩:=(dig_iff _).1 hc
     have c3:(48:Int)≤(t[k].toNat:Int):=by omega
     have c4:(t[k].toNat:Int)≤57:=by omega
     clear hc c1 c2
     go_wp2
     go_round
     case rel=>exact ⟨k+1,by omega,by go_num,by rw [digs_take t k hlt,HD.out,HC.out];rfl⟩
     case measure=>simp [intOf];omega
   | false =>
     have hfin:digs t.data.toList=false:=digs_bad t k hlt hc
     have HFIN:=Lib.hid hfin
     clear hfin
     have hc':¬ (48≤t[k].toNat∧t[k].toNat≤57):=by rw [←dig_iff,hc];simp
     clear hc
     by_cases c1:48≤t[k].toNat
     ·have c3:(48:Int)≤(t[k].toNat:Int):=by omega
      have c4:(57:Int) < (t[k].toNat:Int):=by omega
      clear hc' c1
      go_wp2
      go_ret
      exact ⟨ret_bool HFIN.out.symm,rfl⟩
     ·have c3:(t[k].toNat:Int) < 48:=by omega
      clear hc' c1
      go_wp2
      go_ret
      exact ⟨ret_bool HFIN.out.symm,rfl⟩
  ·have hfin:digs t.data.toList=true:=by
    have:=HD.out
    rwa [List.take_of_length_le (by simp;omega)] at this
   have HFIN:=Lib.hid hfin
   clear hfin
   go_wp2
   go_ret
   exact ⟨ret_bool HFIN.out.symm,rfl⟩
set_option maxHeartbeats 400000 in
theorem form_minusd (s t:ByteArray) (w:World) (hs:s.size≤maxLen) (hp:0 < s.size) (h45:((s[0].toNat:Int)==45)=true) (hx:s.extract 1 s.size=t) (hts:t.size≤maxLen) (ht1:1 < t.size) (h48:((t[0].toNat:Int)==48)=false) :
 Calls Tryz.prog 62 #[.string s] w fun e w'=>e=.returned (.bool (digs t.data.toList))∧w=w':=by
 unfold maxLen at hs hts
 have hp0:0 < t.size:=by omega
 have hp2:((t.size:Int)==0)=false:=by rw [beq_eq_false_iff_ne];omega
 go_enter Tryz.func62,Tryz.ntmps62
 go_wp2
 go_loop [3] (fun i=>∃ k:Nat,k≤t.size∧i=.int .i64 k∧digs (t.data.toList.take k)=true) (fun i=>t.size - (intOf i).toNat)
 case atStart=>exact ⟨0,Nat.zero_le _,rfl,rfl⟩
 case round =>
  obtain ⟨k,hk,rfl,hd⟩:=hrel
  have HD:=Lib.hid hd
  clear hd
  by_cases hlt:k < t.size
  ·cases hc:dig t[k] with
   | true =>
     have HC:=Lib.hid hc
     obtain ⟨c1,c2⟩:=(dig_iff _).1 hc
     have c3:(48:Int)≤(t[k].toNat:Int):=by omega
     have c4:(t[k].toNat:Int)≤57:=by omega
     clear hc c1 c2
     go_wp2
     go_round
     case rel=>exact ⟨k+1,by omega,by go_num,by rw [digs_take t k hlt,HD.out,HC.out];rfl⟩
     case measure=>simp [intOf];omega
   | false =>
     have hfin:digs t.data.toList=false:=digs_bad t k hlt hc
     have HFIN:=Lib.hid hfin
     clear hfin
     have hc':¬ (48≤t[k].toNat∧t[k].toNat≤57):=by rw [←dig_iff,hc];simp
     clear hc
     by_cases c1:48≤t[k].toNat
     ·have c3:(48:Int)≤(t[k].toNat:Int):=by omega
      have c4:(57:Int) < (t[k].toNat:Int):=by omega
      clear hc' c1
      go_wp2
      go_ret
      exact ⟨ret_bool HFIN.out.symm,rfl⟩
     ·have c3:(t[k].toNat:Int) < 48:=by omega
      clear hc' c1
      go_wp2
      go_ret
      exact ⟨ret_bool HFIN.out.symm,rfl⟩
  ·have hfin:digs t.data.toList=true:=by
    have:=HD.out
    rwa [List.take_of_length_le (by simp;omega)] at this
   have HFIN:=Lib.hid hfin
   clear hfin
   go_wp2
   go_ret
   exact ⟨ret_bool HFIN.out.symm,rfl⟩
theorem size_of (l:List UInt8):(⟨l.toArray⟩:ByteArray).size=l.length:=by show l.toArray.size=l.length;simp
theorem form_any (s:ByteArray) (w:World) (hs:s.size≤maxLen) :
 Calls Tryz.prog 62 #[.string s] w fun e w'=>e=.returned (.bool (whole s.data.toList))∧w=w':=by
 obtain ⟨⟨l⟩⟩:=s
 have hl:l.length≤maxLen:=hs
 clear hs
 show Calls Tryz.prog 62 #[.string ⟨l.toArray⟩] w fun e w'=>e=.returned (.bool (whole l))∧w=w'
 match l,hl with
 | [],_=>exact form_nil w
 | c::r,hl =>
   simp only [List.length_cons] at hl
   by_cases h45:c=45
   ·subst h45
    match r,hl with
    | [],_=>exact form_minus w
    | d::r,hl =>
      simp only [List.length_cons] at hl
      have hx:(⟨(45::d::r).toArray⟩:ByteArray).extract 1 (⟨(45::d::r).toArray⟩:ByteArray).size=⟨(d::r).toArray⟩:=by
       rw [size_of];exact extract_tail 45 (d::r)
      have h1:(⟨(45::d::r).toArray⟩:ByteArray).size≤maxLen:=by rw [size_of];simp only [List.length_cons];omega
      have h2:0 < (⟨(45::d::r).toArray⟩:ByteArray).size:=by rw [size_of];simp
      have h3:0 < (⟨(d::r).toArray⟩:ByteArray).size:=by rw [size_of];simp
      by_cases h48:d=48
      ·subst h48
       exact form_minus0 ⟨(45::48::r).toArray⟩ ⟨(48::r).toArray⟩ w h1 h2 rfl hx h3 rfl
      ·have hf:whole (45::d::r)=digs (d::r):=by rw [whole_minus];simp [plainNum,h48]
       have h4:(((⟨(d::r).toArray⟩:ByteArray)[0].toNat:Int)==48)=false:=beq_lit (n:=48) (toNat_ne h48)
       rw [hf]
       by_cases h5:(⟨(d::r).toArray⟩:ByteArray).size≤1
       ·exact form_minus1 ⟨(45::d::r).toArray⟩ ⟨(d::r).toArray⟩ w h1 h2 rfl hx h3 h5 h4
       ·exact form_minusd ⟨(45::d::r).toArray⟩ ⟨(d::r).toArray⟩ w h1 h2 rfl hx (by rw [size_of];simp only [List.length_cons];omega) (by omega) h4
   ·have h2:0 < (⟨(c::r).toArray⟩:ByteArray).size:=by rw [size_of];simp
    have h1:(⟨(c::r).toArray⟩:ByteArray).size≤maxLen:=by rw [size_of];simp only [List.length_cons];omega
    have h4:(((⟨(c::r).toArray⟩:ByteArray)[0].toNat:Int)==45)=false:=beq_lit (n:=45) (toNat_ne h45)
    by_cases h5:(⟨(c::r).toArray⟩:ByteArray).size≤1
    ·have hr:r=[]:=by rw [size_of] at h5;simp only [List.length_cons] at h5;exact List.eq_nil_of_length_eq_zero (by omega)
     subst hr
     have hf:whole [c]=digs [c]:=by
      rw [whole_other [] h45]
      by_cases h48:c=48
      ·subst h48;rfl
      ·rw [list_ne h48];simp [plainNum,h48]
     rw [hf]
     exact form_one ⟨[c].toArray⟩ w h2 h5 h4
    ·by_cases h48:c=48
     ·subst h48
      have hf:whole (48::r)=false:=by
       match r,h5 with
       | [],h5=>exact absurd (show (⟨[48].toArray⟩:ByteArray).size≤1 from Nat.le_refl _) h5
       | d::r,_=>rw [whole_other (d::r) h45,list_ne2];rfl
      rw [hf]
      exact form_0 ⟨(48::r).toArray⟩ w h1 (by omega) rfl h4
     ·have hf:whole (c::r)=digs (c::r):=by rw [whole_other r h45,list_ne h48];simp [plainNum,h48]
      rw [hf]
      exact form_d ⟨(c::r).toArray⟩ w h1 (by omega) (beq_lit (n:=48) (toNat_ne h48)) h4
end Go.Proofs.YthcpglnmhimepaaGreatDoor
end
section
namespace Go.Proofs.YthcpglnmhimepaaGreatDoor
open Go.RowKit
set_option maxHeartbeats 400000 in
theorem rneg_any (a:Int) (w:World) (ha:In64 a) :
 Calls Tryz.prog 63 #[.int .i64 a] w fun e w'=>e=.returned (.tuple #[.int .i64 (subV 0 a),.int .i64 (subE 0 a)])∧w=w':=by
 obtain ⟨a1,a2⟩:=ha
 cases hf:fit (0 - a) with
 | true =>
   rw [subV_yes hf,subE_yes hf]
   obtain ⟨s1,s2⟩:=(fit_iff _).1 hf
   clear hf
   have hs:(0:Int) - a=-a:=by omega
   rw [hs]
   clear hs
   go_enter Tryz.func63,Tryz.ntmps63
   go_wp2
   all_goals
    go_ret2
    exact ⟨rfl,rfl⟩
 | false =>
   rw [subV_no hf,subE_no hf]
   have h:a=-9223372036854775808:=by
    rcases (fit_no _).1 hf with h | h <;> omega
   clear hf a1 a2
   subst h
   go_enter Tryz.func63,Tryz.ntmps63
   go_wp2
   all_goals
    go_ret2
    exact ⟨rfl,rfl⟩
end Go.Proofs.YthcpglnmhimepaaGreatDoor
end
section
namespace Go.Proofs.YthcpglnmhimepaaGreatDoor
open Go.RowKit
theorem num_append (a b:List UInt8) (n:Nat):num n (a++b)=num (num n a) b:=by simp [num]
theorem num_take (s:ByteArray) (k:Nat) (h:k < s.size) (hd:digs s.data.toList=true):∃ d:Nat,s[k].toNat=48+d∧d≤9∧num 0 (s.data.toList.take (k+1))=num 0 (s.data.toList.take k) * 10+d:=by
 have h1:=digs_at _ k (by simpa using h) hd
 have h2:=(dig_iff _).1 h1
 have e:s.data.toList[k]'(by simpa using h)=s[k]:=rfl
 rw [e] at h2
 refine ⟨s[k].toNat - 48,by omega,by omega,?_⟩
 rw [List.take_succ_eq_append_getElem (by simpa using h),num_snoc]
 rfl
theorem num_over (s:ByteArray) (k:Nat) {b:Nat} (h:b < num 0 (s.data.toList.take k)):b < num 0 s.data.toList:=by
 have e:=num_append (s.data.toList.take k) (s.data.toList.drop k) 0
 rw [List.take_append_drop] at e
 have:=num_ge (s.data.toList.drop k) (num 0 (s.data.toList.take k))
 omega
def numV (n:Int):Int:=if fit n=true then n else 0
def numE (n:Int):Int:=if fit n=true then 0 else 2
theorem ret_two {a b c d:Int} (h1:a=b) (h2:c=d):Ending.returned (.tuple #[.int .i64 a,.int .i64 c])=.returned (.tuple #[.int .i64 b,.int .i64 d]):=by rw [h1,h2]
theorem neg_big {u:Nat} (h:9223372036854775808 < u):numV (-(u:Int))=0∧numE (-(u:Int))=2:=by
 have:fit (-(u:Int))=false:=(fit_no _).2 (by omega)
 simp [numV,numE,this]
theorem neg_ok {u:Nat} (h:u≤9223372036854775808):numV (-(u:Int))=-(u:Int)∧numE (-(u:Int))=0:=by
 have:fit (-(u:Int))=true:=(fit_iff _).2 (by omega)
 simp [numV,numE,this]
theorem pos_big {u:Nat} (h:9223372036854775808 < u):numV (u:Int)=0∧numE (u:Int)=2:=by
 have:fit (u:Int)=false:=(fit_no _).2 (by omega)
 simp [numV,numE,this]
theorem pos_neg (u:Nat):subV 0 (-(u:Int))=numV (u:Int)∧subE 0 (-(u:Int))=numE (u:Int):=by
 unfold subV subE numV numE
 rw [show (0:Int) - -(u:Int)=u by omega]
 exact ⟨rfl,rfl⟩
set_option maxHeartbeats 1000000 in
theorem rparse_no (s:ByteArray) (w:World) (hs:s.size≤maxLen) (hw:whole s.data.toList=false) :
 Calls Tryz.prog 39 #[.string s] w fun e w'=>e=.returned (.tuple #[.int .i64 0,.int .i64 5])∧w=w':=by
 have HM:=Lib.hid hs
 clear hs
 go_enter Tryz.func39,Tryz.ntmps39
 go_wp2_with (go_at_call 62;refine (form_any s _ HM.out).mono ?_;rintro e w' ⟨rfl,rfl⟩)
 go_ret2
 exact ⟨rfl,rfl⟩
set_option maxHeartbeats 1000000 in
theorem rparse_neg (s t:ByteArray) (w:World) (hs:s.size≤maxLen) (hp:0 < s.size) (hw:whole s.data.toList=true) (h45:((s[0].toNat:Int)==45)=true) (hx:s.extract 1 s.size=t) (hts:t.size≤maxLen) (hd:digs t.data.toList=true) :
 Calls Tryz.prog 39 #[.string s] w fun e w'=>e=.returned (.tuple #[.int .i64 (numV (-(num 0 t.data.toList:Int))),.int .i64 (numE (-(num 0 t.data.toList:Int)))])∧w=w':=by
 have HM:=Lib.hid hs
 have HD:=Lib.hid hd
 clear hd
 unfold maxLen at hs hts
 go_enter Tryz.func39,Tryz.ntmps39
 go_wp2_with (go_at_call 62;refine (form_any s _ HM.out).mono ?_;rintro e w' ⟨rfl,rfl⟩)
 go_loop [5,6] (fun n i=>∃ k:Nat,∃ m:Nat,k≤t.size∧i=.int .i64 k∧n=.int .i64 (-(m:Int))∧m≤9223372036854775808∧num 0 (t.data.toList.take k)=m) (fun _ i=>t.size - (intOf i).toNat)
 case atStart=>exact ⟨0,0,Nat.zero_le _,rfl,rfl,by omega,rfl⟩
 case round =>
  obtain ⟨k,m,hk,rfl,rfl,hm,hn⟩:=hrel
  have HN:=Lib.hid hn
  clear hn
  by_cases hlt:k < t.size
  ·obtain ⟨d,hd1,hd2,hd3⟩:=num_take t k hlt HD.out
   have c0:(t[k].toNat:Int) - 48=(d:Int):=by omega
   have c1:(48:Int)≤(t[k].toNat:Int):=by omega
   have c2:(t[k].toNat:Int)≤57:=by omega
   have HD1:=Lib.hid hd1
   have HD3:=Lib.hid (hd3.trans (by rw [HN.out]))
   clear hd1 hd3
   by_cases hov:m * 10+d≤9223372036854775808
   ·have t1:(-922337203685477580:Int)≤-(m:Int):=by omega
    have t2:(-9223372036854775808:Int)+(d:Int)≤-(m:Int) * 10:=by omega
    go_wp2
    go_round
    case rel=>exact ⟨k+1,m * 10+d,by omega,by go_num,by go_num,hov,HD3.out⟩
    case measure=>simp [intOf];omega
   ·have hbig:9223372036854775808 < num 0 t.data.toList:=num_over t (k+1) (by rw [HD3.out];omega)
    have HBIG:=Lib.hid hbig
    clear hbig
    by_cases hfst:922337203685477580 < m
    ·have t1:-(m:Int) < -922337203685477580:=by omega
     go_wp2
     go_ret2
     exact ⟨ret_two (neg_big HBIG.out).1.symm (neg_big HBIG.out).2.symm,rfl⟩
    ·have t1:(-922337203685477580:Int)≤-(m:Int):=by omega
     have t2:-(m:Int) * 10 < (-9223372036854775808:Int)+(d:Int):=by omega
     go_wp2
     go_ret2
     exact ⟨ret_two (neg_big HBIG.out).1.symm (neg_big HBIG.out).2.symm,rfl⟩
  ·have hall:num 0 t.data.toList=m:=by
    have:=HN.out
    rwa [List.take_of_length_le (by simp;omega)] at this
   have HALL:=Lib.hid hall
   clear hall
   go_wp2
   go_ret2
   rw [HALL.out]
   exact ⟨ret_two (neg_ok hm).1.symm (neg_ok hm).2.symm,rfl⟩
set_option maxHeartbeats 1000000 in
theorem rparse_pos (s:ByteArray) (w:World) (hs:s.size≤maxLen) (hp:0 < s.size) (hw:whole s.data.toList=true) (h45:((s[0].toNat:Int)==45)=false) (hd:digs s.data.toList=true) :
 Calls Tryz.prog 39 #[.string s] w fun e w'=>e=.returned (.tuple #[.int .i64 (numV (num 0 s.data.toList:Int)),.int .i64 (numE (num 0 s.data.toList:Int))])∧w=w':=by
 have HM:=Lib.hid hs
 have HD:=Lib.hid hd
 clear hd
 unfold maxLen at hs
 go_enter Tryz.func39,Tryz.ntmps39
 go_wp2_with (go_at_call 62;refine (form_any s _ HM.out).mono ?_;rintro e w' ⟨rfl,rfl⟩)
 go_loop [5,6] (fun n i=>∃ k:Nat,∃ m:Nat,k≤s.size∧i=.int .i64 k∧n=.int .i64 (-(m:Int))∧m≤9223372036854775808∧num 0 (s.data.toList.take k)=m) (fun _ i=>s.size - (intOf i).toNat)
 case atStart=>exact ⟨0,0,Nat.zero_le _,rfl,rfl,by omega,rfl⟩
 case round =>
  obtain ⟨k,m,hk,rfl,rfl,hm,hn⟩:=hrel
  have HN:=Lib.hid hn
  clear hn
  by_cases hlt:k < s.size
  ·obtain ⟨d,hd1,hd2,hd3⟩:=num_take s k hlt HD.out
   have c0:(s[k].toNat:Int) - 48=(d:Int):=by omega
   have c1:(48:Int)≤(s[k].toNat:Int):=by omega
   have c2:(s[k].toNat:Int)≤57:=by omega
   have HD1:=Lib.hid hd1
   have HD3:=Lib.hid (hd3.trans (by rw [HN.out]))
   clear hd1 hd3
   by_cases hov:m * 10+d≤9223372036854775808
   ·have t1:(-922337203685477580:Int)≤-(m:Int):=by omega
    have t2:(-9223372036854775808:Int)+(d:Int)≤-(m:Int) * 10:=by omega
    go_wp2
    go_round
    case rel=>exact ⟨k+1,m * 10+d,by omega,by go_num,by go_num,hov,HD3.out⟩
    case measure=>simp [intOf];omega
   ·have hbig:9223372036854775808 < num 0 s.data.toList:=num_over s (k+1) (by rw [HD3.out];omega)
    have HBIG:=Lib.hid hbig
    clear hbig
    by_cases hfst:922337203685477580 < m
    ·have t1:-(m:Int) < -922337203685477580:=by omega
     go_wp2
     go_ret2
     exact ⟨ret_two (pos_big HBIG.out).1.symm (pos_big HBIG.out).2.symm,rfl⟩
    ·have t1:(-922337203685477580:Int)≤-(m:Int):=by omega
     have t2:-(m:Int) * 10 < (-9223372036854775808:Int)+(d:Int):=by omega
     go_wp2
     go_ret2
     exact ⟨ret_two (pos_big HBIG.out).1.symm (pos_big HBIG.out).2.symm,rfl⟩
  ·have hall:num 0 s.data.toList=m:=by
    have:=HN.out
    rwa [List.take_of_length_le (by simp;omega)] at this
   have HALL:=Lib.hid hall
   clear hall
   go_wp2_with (go_at_call 63;refine (rneg_any _ _ ⟨by omega,by omega⟩).mono ?_;rintro e w' ⟨rfl,rfl⟩)
   go_ret2
   rw [HALL.out]
   exact ⟨ret_two (pos_neg m).1 (pos_neg m).2,rfl⟩
theorem parse_of_val (l:List UInt8) (h:whole l=true):parseV l=numV (val l)∧parseE l=numE (val l):=by
 simp [parseV,parseE,numV,numE,h]
theorem crnum_any (s:ByteArray) (w:World) (hs:s.size≤maxLen) :
 Calls Tryz.prog 39 #[.string s] w fun e w'=>e=.returned (.tuple #[.int .i64 (parseV s.data.toList),.int .i64 (parseE s.data.toList)])∧w=w':=by
 cases hw:whole s.data.toList with
 | false =>
   have e1:parseV s.data.toList=0:=by simp [parseV,hw]
   have e2:parseE s.data.toList=5:=by simp [parseE,hw]
   rw [e1,e2]
   exact rparse_no s w hs hw
 | true =>
   rw [(parse_of_val _ hw).1,(parse_of_val _ hw).2]
   obtain ⟨⟨l⟩⟩:=s
   have hl:l.length≤maxLen:=hs
   have hw':whole l=true:=hw
   show Calls Tryz.prog 39 #[.string ⟨l.toArray⟩] w fun e w'=>e=.returned (.tuple #[.int .i64 (numV (val l)),.int .i64 (numE (val l))])∧w=w'
   match l,hl,hw' with
   | [],_,hw'=>cases hw'
   | c::r,hl,hw' =>
     simp only [List.length_cons] at hl
     have h1:(⟨(c::r).toArray⟩:ByteArray).size≤maxLen:=by rw [size_of];simp only [List.length_cons];omega
     have h2:0 < (⟨(c::r).toArray⟩:ByteArray).size:=by rw [size_of];simp
     by_cases h45:c=45
     ·subst h45
      have hx:(⟨(45::r).toArray⟩:ByteArray).extract 1 (⟨(45::r).toArray⟩:ByteArray).size=⟨r.toArray⟩:=by
       rw [size_of];exact extract_tail 45 r
      have hd:digs r=true:=by
       have hp:=hw'
       rw [whole_minus] at hp
       obtain ⟨c',r',e,_,hd⟩:=plainNum_cons hp
       rw [e];exact hd
      exact rparse_neg ⟨(45::r).toArray⟩ ⟨r.toArray⟩ w h1 h2 hw' rfl hx (by rw [size_of];omega) hd
     ·rw [val_other r h45]
      exact rparse_pos ⟨(c::r).toArray⟩ w h1 h2 hw' (beq_lit (n:=45) (toNat_ne h45)) (whole_digs h45 hw')
end Go.Proofs.YthcpglnmhimepaaGreatDoor
end
section
namespace Go.Proofs.YthcpglnmhimepaaGreatDoor
open Go.RowKit
theorem digit_at_fin:∀ i:Fin 10,(ByteArray.mk #[48,49,50,51,52,53,54,55,56,57]).extract i.val (i.val+1)=⟨#[UInt8.ofNat (48+i.val)]⟩:=by decide +kernel
theorem digit_at {d:Nat} (h:d < 10) (t:List UInt8):(ByteArray.mk #[48,49,50,51,52,53,54,55,56,57]).extract d (d+1)++⟨t.toArray⟩=⟨(UInt8.ofNat (48+d)::t).toArray⟩:=by
 rw [digit_at_fin ⟨d,h⟩]
 apply ByteArray.ext
 simp
theorem digit_neg {m:Nat} (h:(m:Int) % 10≤0) (t:List UInt8):(ByteArray.mk #[48,49,50,51,52,53,54,55,56,57]).extract (-((m:Int) % 10)).toNat (-((m:Int) % 10)+1).toNat++⟨t.toArray⟩=⟨(UInt8.ofNat (48+m % 10)::t).toArray⟩:=by
 rw [show (-((m:Int) % 10)).toNat=m % 10 by omega,show (-((m:Int) % 10)+1).toNat=m % 10+1 by omega]
 exact digit_at (by omega) t
def Printed (u m:Nat) (t:List UInt8):Prop:=Lib.decDigits u=(if m=0 then [] else Lib.decDigits m)++t
theorem Printed.len {u m:Nat} {t:List UInt8} (h:Printed u m t) (hu:u < 18446744073709551616):t.length≤20:=by
 have h1:=congrArg List.length h
 rw [Lib.decDigits_length,List.length_append] at h1
 have:=Lib.nDigits_le20 u hu
 omega
theorem Printed.start (u:Nat) (h:0 < u):Printed u u []:=by
 unfold Printed;rw [if_neg (by omega)];simp
theorem Printed.step {u m:Nat} {t:List UInt8} (h:Printed u m t) (hm:m≠0):Printed u (m / 10) (UInt8.ofNat (48+m % 10)::t):=by
 unfold Printed at h ⊢
 rw [if_neg hm] at h
 rw [h]
 by_cases h10:m < 10
 ·rw [if_pos (by omega),dec_small h10,show m % 10=m by omega];rfl
 ·rw [if_neg (by omega),dec_big h10];simp
theorem Printed.stop {u:Nat} {t:List UInt8} (h:Printed u 0 t):t=Lib.decDigits u:=by
 unfold Printed at h;simpa using h.symm
theorem str_nil (t:List UInt8):(ByteArray.mk #[])++⟨t.toArray⟩=⟨t.toArray⟩:=by
 apply ByteArray.ext;simp
theorem str_minus (t:List UInt8):(ByteArray.mk #[45])++⟨t.toArray⟩=⟨(45::t).toArray⟩:=by
 apply ByteArray.ext;simp
theorem ret_str {a b:ByteArray} (h:a=b):Ending.returned (.string a)=.returned (.string b):=by rw [h]
set_option maxHeartbeats 1000000 in
theorem rprint_zero (w:World) :
 Calls Tryz.prog 58 #[.int .i64 0] w fun e w'=>e=.returned (.string ⟨#[48]⟩)∧w=w':=by
 go_enter Tryz.func58,Tryz.ntmps58
 go_wp2
 go_ret
 exact ⟨rfl,rfl⟩
set_option maxHeartbeats 1000000 in
theorem rprint_pos (u:Nat) (w:World) (h0:0 < u) (hu:u≤9223372036854775807) :
 Calls Tryz.prog 58 #[.int .i64 (u:Int)] w fun e w'=>e=.returned (.string ⟨(Lib.decDigits u).toArray⟩)∧w=w':=by
 have hz:((u:Int)==0)=false:=by rw [beq_eq_false_iff_ne];omega
 go_enter Tryz.func58,Tryz.ntmps58
 go_wp2
 go_loop [0,4] (fun a s=>∃ m:Nat,∃ t:List UInt8,a=.int .i64 (m:Int)∧s=.string ⟨t.toArray⟩∧m≤u∧Printed u m t) (fun a _=>(intOf a).toNat)
 case atStart=>exact ⟨u,[],rfl,rfl,Nat.le_refl _,Printed.start u h0⟩
 case round =>
  obtain ⟨m,t,rfl,rfl,hm,ht⟩:=hrel
  have htl:=ht.len (by omega)
  have HT:=Lib.hid ht
  clear ht hz
  by_cases hm0:m=0
  ·subst hm0
   go_wp2
   all_goals
    go_ret
    exact ⟨ret_str (by rw [←HT.out.stop];exact str_nil t),rfl⟩
  ·have hne:((m:Int) != 0)=true:=by rw [bne_iff_ne];omega
   go_wp2
   all_goals
    go_round
    case rel=>exact ⟨m / 10,UInt8.ofNat (48+m % 10)::t,by go_num,by rw [digit_at (by omega)],by omega,HT.out.step hm0⟩
    case measure=>simp [intOf];omega
set_option maxHeartbeats 1000000 in
theorem rprint_neg (u:Nat) (w:World) (h0:0 < u) (hu:u≤9223372036854775808) :
 Calls Tryz.prog 58 #[.int .i64 (-(u:Int))] w fun e w'=>e=.returned (.string ⟨(45::Lib.decDigits u).toArray⟩)∧w=w':=by
 have hz:((-(u:Int))==0)=false:=by rw [beq_eq_false_iff_ne];omega
 go_enter Tryz.func58,Tryz.ntmps58
 go_wp2
 go_loop [0,4] (fun a s=>∃ m:Nat,∃ t:List UInt8,a=.int .i64 (-(m:Int))∧s=.string ⟨t.toArray⟩∧m≤u∧Printed u m t) (fun a _=>(-(intOf a)).toNat)
 case atStart=>exact ⟨u,[],rfl,rfl,Nat.le_refl _,Printed.start u h0⟩
 case round =>
  obtain ⟨m,t,rfl,rfl,hm,ht⟩:=hrel
  have htl:=ht.len (by omega)
  have HT:=Lib.hid ht
  clear ht hz
  by_cases hm0:m=0
  ·subst hm0
   go_wp2
   all_goals
    go_ret
    exact ⟨ret_str (by rw [←HT.out.stop];exact str_minus t),rfl⟩
  ·have hne:((-(m:Int)) != 0)=true:=by rw [bne_iff_ne];omega
   go_wp2
   all_goals
    go_round
    case rel=>exact ⟨m / 10,UInt8.ofNat (48+m % 10)::t,by go_num,by first | rw [digit_at (show m % 10 < 10 by omega)] | rw [digit_neg ‹_›],by omega,HT.out.step hm0⟩
    case measure=>simp [intOf];omega
theorem rprint_any (a:Int) (w:World) (ha:In64 a) :
 Calls Tryz.prog 58 #[.int .i64 a] w fun e w'=>e=.returned (.string ⟨(Lib.itoa a).toArray⟩)∧w=w':=by
 obtain ⟨a1,a2⟩:=ha
 rcases Int.lt_trichotomy a 0 with h | h | h
 ·rw [Lib.itoa,if_pos h]
  have e:a=-((a.natAbs:Nat):Int):=by omega
  have:=rprint_neg a.natAbs w (by omega) (by omega)
  rwa [←e] at this
 ·subst h
  rw [show Lib.itoa 0=[48] from by rw [Lib.itoa,if_neg (by omega)];exact dec_zero]
  exact rprint_zero w
 ·rw [Lib.itoa,if_neg (by omega)]
  have e:a=((a.toNat:Nat):Int):=by omega
  have:=rprint_pos a.toNat w (by omega) (by omega)
  rwa [←e] at this
end Go.Proofs.YthcpglnmhimepaaGreatDoor
end
section
namespace Go.Proofs.YthcpglnmhimepaaGreatDoor.Fa
open Go.RowKit
def putL:List Value→Nat→List Value→List Value
 | xs,_,[]=>xs
 | xs,o,v::r=>putL (xs.set o v) (o+1) r
theorem putL_mid:∀ (vs A X D:List Value),X.length=vs.length→putL (A++X++D) A.length vs=A++vs++D
 | [],A,X,D,h=>by
   have:X=[]:=List.eq_nil_of_length_eq_zero h
   subst this
   rfl
 | v::vs,A,[],D,h=>by simp at h
 | v::vs,A,x::X,D,h=>by
   have e:(A++x::X++D).set A.length v=(A++[v])++X++D:=by
    rw [List.append_assoc,List.set_append_right _ _ (Nat.le_refl _),Nat.sub_self]
    simp
   have ih:=putL_mid vs (A++[v]) X D (by simpa using h)
   rw [List.length_append,List.length_singleton] at ih
   show putL ((A++x::X++D).set A.length v) (A.length+1) vs=_
   rw [e,ih]
   simp
theorem putL_flat {α:Type} (E:Enc α) (L:List α) (i:Nat) (y:α) (hi:i < L.length):putL (flat E L) (i * E.k) (E.cs y)=flat E (L.set i y):=by
 have e:L=L.take i++L[i]::L.drop (i+1):=by rw [←List.drop_eq_getElem_cons hi,List.take_append_drop]
 have e2:L.set i y=L.take i++y::L.drop (i+1):=by rw [List.set_eq_take_append_cons_drop,if_pos hi]
 have h1:(flat E (L.take i)).length=i * E.k:=by rw [flat_length,List.length_take,Nat.min_eq_left (by omega)]
 conv=>lhs;rw [e]
 rw [flat_append,flat_cons,←List.append_assoc,←h1,putL_mid (E.cs y) _ _ _ (by rw [E.len,E.len]),e2,flat_append,flat_cons,List.append_assoc]
theorem stored_cells {w:World} {B g s n c:Nat} {e:TypeId} {xs:List Value} (h:w.ownsRow B e s (.slice (some ⟨g,0,none⟩) n c) n xs):∀ (vs:List Value) (o:Nat),(w.setCells g o vs).ownsRow B e s (.slice (some ⟨g,0,none⟩) n c) n (putL xs o vs)∧w.grownBy (w.setCells g o vs) (some g):=by
 intro vs
 induction vs generalizing w xs with
 | nil=>intro o;exact ⟨h,World.grownBy.refl w _⟩
 | cons v vs ih =>
   intro o
   obtain ⟨s1,g1⟩:=World.ownsRow.stored h o v
   obtain ⟨s2,g2⟩:=ih s1 (o+1)
   exact ⟨s2,g1.trans g2⟩
theorem wp_store_part {α:Type} {E:Enc α} {P:Program} {o:Oper} {a:Act} {w:World} {K:Act→World→Prop} {Q:Exit→Act→World→Prop} (ty:TypeId) (x y:Operand) (ho:o.op=.store ty x y)
 (B g n c:Nat) (e:TypeId) (L:List α) (i:Nat) (z:α) (hx:a.eval x=.pointer (some ⟨g,i * E.k,none⟩)) (hy:a.eval y=.agg (E.cs z).toArray) (hrow:w.ownsRow B e E.k (.slice (some ⟨g,0,none⟩) n c) n (flat E L)) (hn:L.length=n) (hi:i < n) (hti:(P.info? ty).map (·.size)=some E.k)
 (h:∀ w',w'.ownsRow B e E.k (.slice (some ⟨g,0,none⟩) n c) n (flat E (L.set i z))→w.grownBy w' (some g)→K (a.put o.dst undef) w'):o.wp P a w K Q:=by
 subst hn
 have hfr:∀ j,w.frozen? ⟨g,j,none⟩=false:=fun j=>by
  rcases hrow.2 with ⟨h',_⟩ | ⟨g',cap',cur,h',_,hg,_⟩
  ·cases h'
  ·cases h';simp [World.frozen?,hg]
 have hst:=run_storeCells_cells (P:=P) g (i * E.k) (E.cs z) 0 w (fun j hj=>by
  rw [E.len] at hj
  have hxl:j < (E.cs L[i]).length:=by rw [E.len];exact hj
  have:=hrow.cells (g:=g) rfl _ _ (flat_at L i L[i] (List.getElem?_eq_getElem hi) j _ (List.getElem?_eq_getElem hxl))
  rw [add_off,Nat.zero_add] at this
  rw [Nat.add_zero,this];rfl) (fun j _=>hfr _) (E.one z)
 rw [Nat.add_zero] at hst
 have hrun:(storeVar ty ⟨g,i * E.k,none⟩ (.agg (E.cs z).toArray)).run P w=.ok () (w.setCells g (i * E.k) (E.cs z)):=by
  cases hq:P.info? ty with
  | none=>simp [hq] at hti
  | some inf =>
    have hs:E.k=inf.size:=by simp [hq] at hti;omega
    simp [storeVar,sizeOf,typeInfo,hq,Value.cells,hs.symm,E.len,hst]
 obtain ⟨h1,h2⟩:=stored_cells hrow (E.cs z) (i * E.k)
 rw [putL_flat E L i z hi] at h1
 unfold Oper.wp execOp
 simp only [ho,hx,hy,Instr.storeAt,Instr.sureAddr,Sem.run_bind,Sem.run_pure,Result.andThen_ok,hrun]
 exact h _ h1 h2
theorem box_own {α:Type} {E:Enc α} {w:World} {B b:Nat} {t:TypeId} {a:α} (h:BoxE E w b t a) (hB:B≤b):w.ownsRow B t E.k (.slice (some ⟨b,0,none⟩) 1 1) 1 (flat E [a]) :=
 ⟨by rw [flat_length];simp,.inr ⟨b,1,_,rfl,hB,h,Nat.le_refl _,by unfold maxLen;omega,by simp [E.len],by rw [flat_one];simp [List.take_of_length_le,E.len]⟩⟩
end Go.Proofs.YthcpglnmhimepaaGreatDoor.Fa
end
section
namespace Go.Proofs.YthcpglnmhimepaaGreatDoor.Fa
open Go.RowKit
theorem own_whole {α:Type} {E:Enc α} {w:World} {B b:Nat} {t:TypeId} {a:α} (h:w.ownsRow B t E.k (.slice (some ⟨b,0,none⟩) 1 1) 1 (flat E [a])):BoxE E w b t a:=by
 rcases h.2 with ⟨h',_⟩ | ⟨g,cap,cur,e,_,hg,_,_,hsz,htk⟩
 ·cases h'
 ·cases e
  unfold BoxE
  rw [hg]
  have:cur.toList=E.cs a:=by
   rw [flat_one] at htk
   rw [←htk,List.take_of_length_le (by rw [Array.length_toList,hsz];exact Nat.le_refl _)]
  rw [←this]
theorem wp_store_whole {α:Type} {E:Enc α} {P:Program} {o:Oper} {a:Act} {w:World} {K:Act→World→Prop} {Q:Exit→Act→World→Prop} (ty:TypeId) (x y:Operand) (ho:o.op=.store ty x y)
 (g:Nat) (t:TypeId) (z0 z:α) (hx:a.eval x=.pointer (some ⟨g,0,none⟩)) (hy:a.eval y=.agg (E.cs z).toArray) (hg:BoxE E w g t z0) (hti:(P.info? ty).map (·.size)=some E.k)
 (h:∀ w',BoxE E w' g t z→w.grownBy w' (some g)→K (a.put o.dst undef) w'):o.wp P a w K Q :=
 wp_store_part ty x y ho g g 1 1 t [z0] 0 z (by rw [Nat.zero_mul];exact hx) hy (box_own hg (Nat.le_refl _)) rfl (by omega) hti (fun w' h1 h2=>h w' (own_whole h1) h2)
theorem box_grown {α:Type} {E:Enc α} {w w':World} {b g:Nat} {t:TypeId} {a:α} (h:BoxE E w b t a) (hg:w.grownBy w' (some g)) (hn:b≠g):BoxE E w' b t a:=(hg.block b h.lt (by simpa using hn)).trans h
structure ButG (g:Nat) (w:World) where
 goal:World
 grown:w.grownBy goal (some g)
theorem grown_but {w w':World} (hb:Below w.heap.size w w') (r:Option Nat):w.grownBy w' r:=⟨hb.os,hb.tape,hb.output,hb.size,fun j hj _=>hb.block j hj⟩
theorem drew_but (w:World) (r:Option Nat):w.grownBy w.drew r:=⟨rfl,rfl,rfl,Nat.le_refl _,fun _ _ _=>rfl⟩
instance (g:Nat) (w:World):Nonempty (ButG g w):=⟨⟨w,grown_but (Below.refl _ _) _⟩⟩
theorem cell_butG {g:Nat} {w:World} {b o:Nat} {v:Value} (h:w.cell? ⟨b,o,none⟩=some v) (hne:b≠g) (p:ButG g w):p.goal.cell? ⟨b,o,none⟩=some v:=by
 have hb:=World.block_lt_of_cell? w _ h
 rw [←h]
 unfold World.cell?
 rw [p.grown.block b hb (by simpa using hne)]
theorem butG_in {g:Nat} {w0 w:World} (h:w0.grownBy w (some g)):∃ p:ButG g w0,w=p.goal:=⟨⟨w,h⟩,rfl⟩
end Go.Proofs.YthcpglnmhimepaaGreatDoor.Fa
end
