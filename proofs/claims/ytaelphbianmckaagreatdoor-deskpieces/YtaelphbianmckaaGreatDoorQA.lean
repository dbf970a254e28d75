/- DeskPieces: a part of the proof, packed (the readable form: the templates). -/
import Derived.Test.YtaelphbianmckaaGreatDoorRows
import Derived.Shelf.Strings.OnBuilder
import Derived.Shelf.Strings.BuilderK
import Derived.Shelf.Strings.Prefix
import Derived.Shelf.Strings.Search3
import Derived.Shelf.Strings.FieldsFuncAny
import Derived.Shelf.Strconv.Itoa3
import Derived.Shelf.Strconv.Itoa4
import Derived.Shelf.Strconv.ParseIntPublic10
import Derived.WalkKit
import Derived.WalkSpells
import Derived.WalkLawsBesides
import Derived.Handy
import Derived.BigQuiet
import Derived.OwnWalk
import Derived.OneCell
import Derived.Deep.QuietTactic
import Derived.Deep.AppendLies
import Derived.Deep.RegionHeld3
import Derived.Deep.DrawnRows
namespace Go.Proofs.YtaelphbianmckaaGreatDoor
open Go.RowKit Go.Shelf
theorem lR7 {n:Nat}:n≤n:=Nat.le_refl n
def ds_lays169_ren:Go.Shelf.Ren:=⟨fun | 169=>13 | n=>n,fun | 70=>33 | 9=>9 | 0=>0 | 72=>36 | 37=>34 | 127=>78 | 3=>3 | 5=>5 | n=>n,fun | n=>n⟩
theorem zK0:Go.Proofs.Lays.n169 Tryz.prog ds_lays169_ren:={
 mixed:=by kernel_rfl
 f169:=Tryz.func13.trans (congrArg some (by kernel_rfl))
 t0:=Tryz.underlying0
 a0:=Tryz.isAgg0
 z0:=Tryz.sizeOf0
 v0:=Tryz.zeroValue0
 t3:=Tryz.underlying3
 a3:=Tryz.isAgg3
 z3:=Tryz.sizeOf3
 v3:=Tryz.zeroValue3
 t9:=Tryz.underlying9
 a9:=Tryz.isAgg9
 z9:=Tryz.sizeOf9
 v9:=Tryz.zeroValue9
 t37:=Tryz.underlying34
 a37:=Tryz.isAgg34
 z37:=Tryz.sizeOf34
 v37:=Tryz.zeroValue34
 t70:=Tryz.underlying33
 a70:=Tryz.isAgg33
 z70:=Tryz.sizeOf33
 v70:=Tryz.zeroValue33
 t72:=Tryz.underlying36
 a72:=Tryz.isAgg36
 z72:=Tryz.sizeOf36
 v72:=Tryz.zeroValue36
 t127:=Tryz.underlying78
 a127:=Tryz.isAgg78
 z127:=Tryz.sizeOf78
 v127:=Tryz.zeroValue78 }
theorem jC0:Builder.Extra Tryz.prog ds_lays169_ren:={
 sizeBuilder:=by kernel_rfl
 liesBuilder:=by kernel_rfl
 t5:=Tryz.underlying5
 a5:=Tryz.isAgg5
 z5:=Tryz.sizeOf5
 v5:=Tryz.zeroValue5
 infoByte:=by kernel_rfl
 cellsByte:=by kernel_rfl
 sizeByte:=by kernel_rfl
 neB5:=by decide }
def ds_laysM173_ren:Go.Shelf.Ren:=⟨fun | 173=>49 | 246=>90 | 283=>147 | 284=>148 | 285=>149 | 286=>150 | 129=>207 | 317=>206 | 318=>208 | 319=>209 | 320=>210 | 337=>257 | 338=>258 | n=>n,fun | 2=>2 | 3=>3 | 9=>9 | 4=>4 | 171=>192 | 0=>0 | 53=>185 | 37=>34 | 5=>5 | 173=>195 | 212=>271 | 51=>203 | 20=>20 | 213=>272 | 46=>188 | 232=>357 | 233=>358 | n=>n,fun | 17=>5 | 18=>9 | 19=>10 | n=>n⟩
theorem vE0:Go.Proofs.LaysM.n173 Tryz.prog ds_laysM173_ren:={
 mixed:=by kernel_rfl
 f129:=Tryz.func207.trans (congrArg some (by kernel_rfl))
 f173:=Tryz.func49.trans (congrArg some (by kernel_rfl))
 f246:=Tryz.func90.trans (congrArg some (by kernel_rfl))
 f283:=Tryz.func147.trans (congrArg some (by kernel_rfl))
 f284:=Tryz.func148.trans (congrArg some (by kernel_rfl))
 f285:=Tryz.func149.trans (congrArg some (by kernel_rfl))
 f286:=Tryz.func150.trans (congrArg some (by kernel_rfl))
 f317:=Tryz.func206.trans (congrArg some (by kernel_rfl))
 f318:=Tryz.func208.trans (congrArg some (by kernel_rfl))
 f319:=Tryz.func209.trans (congrArg some (by kernel_rfl))
 f320:=Tryz.func210.trans (congrArg some (by kernel_rfl))
 f337:=Tryz.func257.trans (congrArg some (by kernel_rfl))
 f338:=Tryz.func258.trans (congrArg some (by kernel_rfl))
 t0:=Tryz.underlying0
 a0:=Tryz.isAgg0
 z0:=Tryz.sizeOf0
 v0:=Tryz.zeroValue0
 t2:=Tryz.underlying2
 a2:=Tryz.isAgg2
 z2:=Tryz.sizeOf2
 v2:=Tryz.zeroValue2
 t3:=Tryz.underlying3
 a3:=Tryz.isAgg3
 z3:=Tryz.sizeOf3
 v3:=Tryz.zeroValue3
 t4:=Tryz.underlying4
 a4:=Tryz.isAgg4
 z4:=Tryz.sizeOf4
 v4:=Tryz.zeroValue4
 t5:=Tryz.underlying5
 a5:=Tryz.isAgg5
 z5:=Tryz.sizeOf5
 v5:=Tryz.zeroValue5
 t9:=Tryz.underlying9
 a9:=Tryz.isAgg9
 z9:=Tryz.sizeOf9
 v9:=Tryz.zeroValue9
 t20:=Tryz.underlying20
 a20:=Tryz.isAgg20
 z20:=Tryz.sizeOf20
 v20:=Tryz.zeroValue20
 t37:=Tryz.underlying34
 a37:=Tryz.isAgg34
 z37:=Tryz.sizeOf34
 v37:=Tryz.zeroValue34
 t46:=Tryz.underlying188
 a46:=Tryz.isAgg188
 z46:=Tryz.sizeOf188
 v46:=Tryz.zeroValue188
 t51:=Tryz.underlying203
 a51:=Tryz.isAgg203
 z51:=Tryz.sizeOf203
 v51:=Tryz.zeroValue203
 t53:=Tryz.underlying185
 a53:=Tryz.isAgg185
 z53:=Tryz.sizeOf185
 v53:=Tryz.zeroValue185
 t171:=Tryz.underlying192
 a171:=Tryz.isAgg192
 z171:=Tryz.sizeOf192
 v171:=Tryz.zeroValue192
 t173:=Tryz.underlying195
 a173:=Tryz.isAgg195
 z173:=Tryz.sizeOf195
 v173:=Tryz.zeroValue195
 t212:=Tryz.underlying271
 a212:=Tryz.isAgg271
 z212:=Tryz.sizeOf271
 v212:=Tryz.zeroValue271
 t213:=Tryz.underlying272
 a213:=Tryz.isAgg272
 z213:=Tryz.sizeOf272
 t232:=Tryz.underlying357
 a232:=Tryz.isAgg357
 z232:=Tryz.sizeOf357
 v232:=Tryz.zeroValue357
 t233:=Tryz.underlying358
 a233:=Tryz.isAgg358
 z233:=Tryz.sizeOf358
 v233:=Tryz.zeroValue358
 g17:=by kernel_rfl
 g18:=by kernel_rfl
 g19:=by kernel_rfl
 i0:=by kernel_rfl
 i2:=by kernel_rfl
 i3:=by kernel_rfl
 i4:=by kernel_rfl
 i5:=by kernel_rfl
 i9:=by kernel_rfl
 i20:=by kernel_rfl
 i37:=by kernel_rfl
 i46:=by kernel_rfl
 i51:=by kernel_rfl
 i53:=by kernel_rfl
 i171:=by kernel_rfl
 i173:=by kernel_rfl
 i212:=by kernel_rfl
 i232:=by kernel_rfl
 i233:=by kernel_rfl
 m17:=by kernel_rfl
 m18:=by kernel_rfl
 m19:=by kernel_rfl }
def ds_laysM171_ren:Go.Shelf.Ren:=⟨fun | 171=>18 | 243=>64 | 246=>90 | 283=>147 | 284=>148 | 285=>149 | 286=>150 | 129=>207 | 317=>206 | 318=>208 | 319=>209 | 320=>210 | 337=>257 | 338=>258 | n=>n,fun | 3=>3 | 9=>9 | 2=>2 | 4=>4 | 171=>192 | 0=>0 | 53=>185 | 37=>34 | 5=>5 | 173=>195 | 212=>271 | 51=>203 | 20=>20 | 213=>272 | 46=>188 | 232=>357 | 233=>358 | n=>n,fun | 17=>5 | 18=>9 | 19=>10 | n=>n⟩
theorem vF0:Go.Proofs.LaysM.n171 Tryz.prog ds_laysM171_ren:={
 mixed:=by kernel_rfl
 f129:=Tryz.func207.trans (congrArg some (by kernel_rfl))
 f171:=Tryz.func18.trans (congrArg some (by kernel_rfl))
 f243:=Tryz.func64.trans (congrArg some (by kernel_rfl))
 f246:=Tryz.func90.trans (congrArg some (by kernel_rfl))
 f283:=Tryz.func147.trans (congrArg some (by kernel_rfl))
 f284:=Tryz.func148.trans (congrArg some (by kernel_rfl))
 f285:=Tryz.func149.trans (congrArg some (by kernel_rfl))
 f286:=Tryz.func150.trans (congrArg some (by kernel_rfl))
 f317:=Tryz.func206.trans (congrArg some (by kernel_rfl))
 f318:=Tryz.func208.trans (congrArg some (by kernel_rfl))
 f319:=Tryz.func209.trans (congrArg some (by kernel_rfl))
 f320:=Tryz.func210.trans (congrArg some (by kernel_rfl))
 f337:=Tryz.func257.trans (congrArg some (by kernel_rfl))
 f338:=Tryz.func258.trans (congrArg some (by kernel_rfl))
 t0:=Tryz.underlying0
 a0:=Tryz.isAgg0
 z0:=Tryz.sizeOf0
 v0:=Tryz.zeroValue0
 t2:=Tryz.underlying2
 a2:=Tryz.isAgg2
 z2:=Tryz.sizeOf2
 v2:=Tryz.zeroValue2
 t3:=Tryz.underlying3
 a3:=Tryz.isAgg3
 z3:=Tryz.sizeOf3
 v3:=Tryz.zeroValue3
 t4:=Tryz.underlying4
 a4:=Tryz.isAgg4
 z4:=Tryz.sizeOf4
 v4:=Tryz.zeroValue4
 t5:=Tryz.underlying5
 a5:=Tryz.isAgg5
 z5:=Tryz.sizeOf5
 v5:=Tryz.zeroValue5
 t9:=Tryz.underlying9
 a9:=Tryz.isAgg9
 z9:=Tryz.sizeOf9
 v9:=Tryz.zeroValue9
 t20:=Tryz.underlying20
 a20:=Tryz.isAgg20
 z20:=Tryz.sizeOf20
 v20:=Tryz.zeroValue20
 t37:=Tryz.underlying34
 a37:=Tryz.isAgg34
 z37:=Tryz.sizeOf34
 v37:=Tryz.zeroValue34
 t46:=Tryz.underlying188
 a46:=Tryz.isAgg188
 z46:=Tryz.sizeOf188
 v46:=Tryz.zeroValue188
 t51:=Tryz.underlying203
 a51:=Tryz.isAgg203
 z51:=Tryz.sizeOf203
 v51:=Tryz.zeroValue203
 t53:=Tryz.underlying185
 a53:=Tryz.isAgg185
 z53:=Tryz.sizeOf185
 v53:=Tryz.zeroValue185
 t171:=Tryz.underlying192
 a171:=Tryz.isAgg192
 z171:=Tryz.sizeOf192
 v171:=Tryz.zeroValue192
 t173:=Tryz.underlying195
 a173:=Tryz.isAgg195
 z173:=Tryz.sizeOf195
 v173:=Tryz.zeroValue195
 t212:=Tryz.underlying271
 a212:=Tryz.isAgg271
 z212:=Tryz.sizeOf271
 v212:=Tryz.zeroValue271
 t213:=Tryz.underlying272
 a213:=Tryz.isAgg272
 z213:=Tryz.sizeOf272
 t232:=Tryz.underlying357
 a232:=Tryz.isAgg357
 z232:=Tryz.sizeOf357
 v232:=Tryz.zeroValue357
 t233:=Tryz.underlying358
 a233:=Tryz.isAgg358
 z233:=Tryz.sizeOf358
 v233:=Tryz.zeroValue358
 g17:=by kernel_rfl
 g18:=by kernel_rfl
 g19:=by kernel_rfl
 i0:=by kernel_rfl
 i2:=by kernel_rfl
 i3:=by kernel_rfl
 i4:=by kernel_rfl
 i5:=by kernel_rfl
 i9:=by kernel_rfl
 i20:=by kernel_rfl
 i37:=by kernel_rfl
 i46:=by kernel_rfl
 i51:=by kernel_rfl
 i53:=by kernel_rfl
 i171:=by kernel_rfl
 i173:=by kernel_rfl
 i212:=by kernel_rfl
 i232:=by kernel_rfl
 i233:=by kernel_rfl
 m17:=by kernel_rfl
 m18:=by kernel_rfl
 m19:=by kernel_rfl }
def ds_laysC174_ren:Go.Shelf.Ren:=⟨fun | 174=>48 | 247=>88 | 245=>89 | 287=>142 | 279=>143 | 280=>144 | 281=>145 | 282=>146 | 321=>202 | 322=>203 | 316=>204 | 171=>18 | 205=>205 | 243=>64 | 246=>90 | 283=>147 | 284=>148 | 285=>149 | 286=>150 | 129=>207 | 317=>206 | 318=>208 | 319=>209 | 320=>210 | 337=>257 | 338=>258 | n=>n,fun | 9=>9 | 3=>3 | 2=>2 | 75=>43 | 85=>80 | 4=>4 | 167=>184 | 5=>5 | 53=>185 | 175=>186 | 46=>188 | 168=>189 | 37=>34 | 0=>0 | 210=>268 | 21=>21 | 127=>78 | 145=>328 | 143=>326 | 171=>192 | 173=>195 | 212=>271 | 51=>203 | 20=>20 | 213=>272 | 232=>357 | 233=>358 | 80=>48 | n=>n,fun | 15=>3 | 16=>4 | 17=>5 | 18=>9 | 19=>10 | n=>n⟩
theorem jJ0:Go.Proofs.LaysC.n174 Tryz.prog ds_laysC174_ren:={
 mixed:=by kernel_rfl
 f129:=Tryz.func207.trans (congrArg some (by kernel_rfl))
 f171:=Tryz.func18.trans (congrArg some (by kernel_rfl))
 f174:=Tryz.func48.trans (congrArg some (by kernel_rfl))
 f205:=Tryz.func205.trans (congrArg some (by kernel_rfl))
 f243:=Tryz.func64.trans (congrArg some (by kernel_rfl))
 f245:=Tryz.func89.trans (congrArg some (by kernel_rfl))
 f246:=Tryz.func90.trans (congrArg some (by kernel_rfl))
 f247:=Tryz.func88.trans (congrArg some (by kernel_rfl))
 f279:=Tryz.func143.trans (congrArg some (by kernel_rfl))
 f280:=Tryz.func144.trans (congrArg some (by kernel_rfl))
 f281:=Tryz.func145.trans (congrArg some (by kernel_rfl))
 f282:=Tryz.func146.trans (congrArg some (by kernel_rfl))
 f283:=Tryz.func147.trans (congrArg some (by kernel_rfl))
 f284:=Tryz.func148.trans (congrArg some (by kernel_rfl))
 f285:=Tryz.func149.trans (congrArg some (by kernel_rfl))
 f286:=Tryz.func150.trans (congrArg some (by kernel_rfl))
 f287:=Tryz.func142.trans (congrArg some (by kernel_rfl))
 f316:=Tryz.func204.trans (congrArg some (by kernel_rfl))
 f317:=Tryz.func206.trans (congrArg some (by kernel_rfl))
 f318:=Tryz.func208.trans (congrArg some (by kernel_rfl))
 f319:=Tryz.func209.trans (congrArg some (by kernel_rfl))
 f320:=Tryz.func210.trans (congrArg some (by kernel_rfl))
 f321:=Tryz.func202.trans (congrArg some (by kernel_rfl))
 f322:=Tryz.func203.trans (congrArg some (by kernel_rfl))
 f337:=Tryz.func257.trans (congrArg some (by kernel_rfl))
 f338:=Tryz.func258.trans (congrArg some (by kernel_rfl))
 t0:=Tryz.underlying0
 a0:=Tryz.isAgg0
 z0:=Tryz.sizeOf0
 v0:=Tryz.zeroValue0
 t2:=Tryz.underlying2
 a2:=Tryz.isAgg2
 z2:=Tryz.sizeOf2
 v2:=Tryz.zeroValue2
 t3:=Tryz.underlying3
 a3:=Tryz.isAgg3
 z3:=Tryz.sizeOf3
 v3:=Tryz.zeroValue3
 t4:=Tryz.underlying4
 a4:=Tryz.isAgg4
 z4:=Tryz.sizeOf4
 v4:=Tryz.zeroValue4
 t5:=Tryz.underlying5
 a5:=Tryz.isAgg5
 z5:=Tryz.sizeOf5
 v5:=Tryz.zeroValue5
 t9:=Tryz.underlying9
 a9:=Tryz.isAgg9
 z9:=Tryz.sizeOf9
 v9:=Tryz.zeroValue9
 t20:=Tryz.underlying20
 a20:=Tryz.isAgg20
 z20:=Tryz.sizeOf20
 v20:=Tryz.zeroValue20
 t21:=Tryz.underlying21
 a21:=Tryz.isAgg21
 z21:=Tryz.sizeOf21
 v21:=Tryz.zeroValue21
 t37:=Tryz.underlying34
 a37:=Tryz.isAgg34
 z37:=Tryz.sizeOf34
 v37:=Tryz.zeroValue34
 t46:=Tryz.underlying188
 a46:=Tryz.isAgg188
 z46:=Tryz.sizeOf188
 v46:=Tryz.zeroValue188
 t51:=Tryz.underlying203
 a51:=Tryz.isAgg203
 z51:=Tryz.sizeOf203
 v51:=Tryz.zeroValue203
 t53:=Tryz.underlying185
 a53:=Tryz.isAgg185
 z53:=Tryz.sizeOf185
 v53:=Tryz.zeroValue185
 t75:=Tryz.underlying43
 a75:=Tryz.isAgg43
 z75:=Tryz.sizeOf43
 v75:=Tryz.zeroValue43
 t85:=Tryz.underlying80
 a85:=Tryz.isAgg80
 z85:=Tryz.sizeOf80
 v85:=Tryz.zeroValue80
 t127:=Tryz.underlying78
 a127:=Tryz.isAgg78
 z127:=Tryz.sizeOf78
 v127:=Tryz.zeroValue78
 t143:=Tryz.underlying326
 a143:=Tryz.isAgg326
 z143:=Tryz.sizeOf326
 v143:=Tryz.zeroValue326
 t145:=Tryz.underlying328
 a145:=Tryz.isAgg328
 z145:=Tryz.sizeOf328
 v145:=Tryz.zeroValue328
 t167:=Tryz.underlying184
 a167:=Tryz.isAgg184
 z167:=Tryz.sizeOf184
 v167:=Tryz.zeroValue184
 t168:=Tryz.underlying189
 a168:=Tryz.isAgg189
 z168:=Tryz.sizeOf189
 v168:=Tryz.zeroValue189
 t171:=Tryz.underlying192
 a171:=Tryz.isAgg192
 z171:=Tryz.sizeOf192
 v171:=Tryz.zeroValue192
 t173:=Tryz.underlying195
 a173:=Tryz.isAgg195
 z173:=Tryz.sizeOf195
 v173:=Tryz.zeroValue195
 t175:=Tryz.underlying186
 a175:=Tryz.isAgg186
 z175:=Tryz.sizeOf186
 v175:=Tryz.zeroValue186
 t210:=Tryz.underlying268
 a210:=Tryz.isAgg268
 z210:=Tryz.sizeOf268
 v210:=Tryz.zeroValue268
 t212:=Tryz.underlying271
 a212:=Tryz.isAgg271
 z212:=Tryz.sizeOf271
 v212:=Tryz.zeroValue271
 t213:=Tryz.underlying272
 a213:=Tryz.isAgg272
 z213:=Tryz.sizeOf272
 t232:=Tryz.underlying357
 a232:=Tryz.isAgg357
 z232:=Tryz.sizeOf357
 v232:=Tryz.zeroValue357
 t233:=Tryz.underlying358
 a233:=Tryz.isAgg358
 z233:=Tryz.sizeOf358
 v233:=Tryz.zeroValue358
 g15:=by kernel_rfl
 g16:=by kernel_rfl
 g17:=by kernel_rfl
 g18:=by kernel_rfl
 g19:=by kernel_rfl
 t80:=Tryz.underlying48
 a80:=Tryz.isAgg48
 z80:=Tryz.sizeOf48
 v80:=Tryz.zeroValue48
 i0:=by kernel_rfl
 i2:=by kernel_rfl
 i3:=by kernel_rfl
 i4:=by kernel_rfl
 i5:=by kernel_rfl
 i9:=by kernel_rfl
 i20:=by kernel_rfl
 i21:=by kernel_rfl
 i37:=by kernel_rfl
 i46:=by kernel_rfl
 i51:=by kernel_rfl
 i53:=by kernel_rfl
 i75:=by kernel_rfl
 i80:=by kernel_rfl
 i85:=by kernel_rfl
 i127:=by kernel_rfl
 i143:=by kernel_rfl
 i145:=by kernel_rfl
 i167:=by kernel_rfl
 i168:=by kernel_rfl
 i171:=by kernel_rfl
 i173:=by kernel_rfl
 i175:=by kernel_rfl
 i210:=by kernel_rfl
 i212:=by kernel_rfl
 i232:=by kernel_rfl
 i233:=by kernel_rfl
 m15:=by kernel_rfl
 m16:=by kernel_rfl
 m17:=by kernel_rfl
 m18:=by kernel_rfl
 m19:=by kernel_rfl
 c0:=by kernel_rfl
 c2:=by kernel_rfl
 c3:=by kernel_rfl
 c4:=by kernel_rfl
 c5:=by kernel_rfl
 c9:=by kernel_rfl
 c20:=by kernel_rfl
 c21:=by kernel_rfl
 c37:=by kernel_rfl
 c46:=by kernel_rfl
 c51:=by kernel_rfl
 c53:=by kernel_rfl
 c75:=by kernel_rfl
 c80:=by kernel_rfl
 c85:=by kernel_rfl
 c127:=by kernel_rfl
 c143:=by kernel_rfl
 c145:=by kernel_rfl
 c167:=by kernel_rfl
 c168:=by kernel_rfl
 c171:=by kernel_rfl
 c173:=by kernel_rfl
 c175:=by kernel_rfl
 c210:=by kernel_rfl
 c212:=by kernel_rfl
 c213:=by kernel_rfl
 c232:=by kernel_rfl
 c233:=by kernel_rfl }
def ds_lays229_ren:Go.Shelf.Ren:=⟨fun | 229=>42 | n=>n,fun | 9=>9 | 40=>74 | 31=>49 | 152=>132 | 3=>3 | 0=>0 | 4=>4 | 21=>21 | 154=>134 | n=>n,fun | n=>n⟩
theorem zL0:Go.Proofs.Lays.n229 Tryz.prog ds_lays229_ren:={
 mixed:=by kernel_rfl
 f229:=Tryz.func42.trans (congrArg some (by kernel_rfl))
 t0:=Tryz.underlying0
 a0:=Tryz.isAgg0
 z0:=Tryz.sizeOf0
 v0:=Tryz.zeroValue0
 t3:=Tryz.underlying3
 a3:=Tryz.isAgg3
 z3:=Tryz.sizeOf3
 v3:=Tryz.zeroValue3
 t4:=Tryz.underlying4
 a4:=Tryz.isAgg4
 z4:=Tryz.sizeOf4
 v4:=Tryz.zeroValue4
 t9:=Tryz.underlying9
 a9:=Tryz.isAgg9
 z9:=Tryz.sizeOf9
 v9:=Tryz.zeroValue9
 t21:=Tryz.underlying21
 a21:=Tryz.isAgg21
 z21:=Tryz.sizeOf21
 v21:=Tryz.zeroValue21
 t31:=Tryz.underlying49
 a31:=Tryz.isAgg49
 z31:=Tryz.sizeOf49
 v31:=Tryz.zeroValue49
 t40:=Tryz.underlying74
 a40:=Tryz.isAgg74
 z40:=Tryz.sizeOf74
 v40:=Tryz.zeroValue74
 t152:=Tryz.underlying132
 a152:=Tryz.isAgg132
 z152:=Tryz.sizeOf132
 v152:=Tryz.zeroValue132
 t154:=Tryz.underlying134
 a154:=Tryz.isAgg134
 z154:=Tryz.sizeOf134
 v154:=Tryz.zeroValue134 }
def ds_lays143_ren:Go.Shelf.Ren:=⟨fun | 143=>87 | 219=>138 | 217=>197 | 225=>198 | 224=>199 | 267=>200 | 266=>255 | 314=>256 | n=>n,fun | 9=>9 | 3=>3 | 4=>4 | 5=>5 | 46=>188 | 146=>321 | 51=>203 | n=>n,fun | 1=>2 | n=>n⟩
theorem zM0:Go.Proofs.Lays.n143 Tryz.prog ds_lays143_ren:={
 mixed:=by kernel_rfl
 f143:=Tryz.func87.trans (congrArg some (by kernel_rfl))
 f217:=Tryz.func197.trans (congrArg some (by kernel_rfl))
 f219:=Tryz.func138.trans (congrArg some (by kernel_rfl))
 f224:=Tryz.func199.trans (congrArg some (by kernel_rfl))
 f225:=Tryz.func198.trans (congrArg some (by kernel_rfl))
 f266:=Tryz.func255.trans (congrArg some (by kernel_rfl))
 f267:=Tryz.func200.trans (congrArg some (by kernel_rfl))
 f314:=Tryz.func256.trans (congrArg some (by kernel_rfl))
 t3:=Tryz.underlying3
 a3:=Tryz.isAgg3
 z3:=Tryz.sizeOf3
 v3:=Tryz.zeroValue3
 t4:=Tryz.underlying4
 a4:=Tryz.isAgg4
 z4:=Tryz.sizeOf4
 v4:=Tryz.zeroValue4
 t5:=Tryz.underlying5
 a5:=Tryz.isAgg5
 z5:=Tryz.sizeOf5
 v5:=Tryz.zeroValue5
 t9:=Tryz.underlying9
 a9:=Tryz.isAgg9
 z9:=Tryz.sizeOf9
 v9:=Tryz.zeroValue9
 t46:=Tryz.underlying188
 a46:=Tryz.isAgg188
 z46:=Tryz.sizeOf188
 v46:=Tryz.zeroValue188
 t51:=Tryz.underlying203
 a51:=Tryz.isAgg203
 z51:=Tryz.sizeOf203
 v51:=Tryz.zeroValue203
 t146:=Tryz.underlying321
 a146:=Tryz.isAgg321
 z146:=Tryz.sizeOf321
 v146:=Tryz.zeroValue321
 g1:=by kernel_rfl }
def ds_lays156_ren:Go.Shelf.Ren:=⟨fun | 156=>63 | 165=>111 | 166=>10 | 169=>13 | 240=>40 | 241=>161 | 276=>84 | 277=>229 | n=>n,fun | 31=>49 | 9=>9 | 3=>3 | 4=>4 | 0=>0 | 20=>20 | 72=>36 | 76=>44 | 70=>33 | 37=>34 | 75=>43 | 127=>78 | 164=>130 | 5=>5 | 80=>48 | n=>n,fun | n=>n⟩
theorem pL0:Go.Proofs.Lays.n156 Tryz.prog ds_lays156_ren:={
 mixed:=by kernel_rfl
 f156:=Tryz.func63.trans (congrArg some (by kernel_rfl))
 f165:=Tryz.func111.trans (congrArg some (by kernel_rfl))
 f166:=Tryz.func10.trans (congrArg some (by kernel_rfl))
 f169:=Tryz.func13.trans (congrArg some (by kernel_rfl))
 f240:=Tryz.func40.trans (congrArg some (by kernel_rfl))
 f241:=Tryz.func161.trans (congrArg some (by kernel_rfl))
 f276:=Tryz.func84.trans (congrArg some (by kernel_rfl))
 f277:=Tryz.func229.trans (congrArg some (by kernel_rfl))
 t0:=Tryz.underlying0
 a0:=Tryz.isAgg0
 z0:=Tryz.sizeOf0
 v0:=Tryz.zeroValue0
 t3:=Tryz.underlying3
 a3:=Tryz.isAgg3
 z3:=Tryz.sizeOf3
 v3:=Tryz.zeroValue3
 t4:=Tryz.underlying4
 a4:=Tryz.isAgg4
 z4:=Tryz.sizeOf4
 v4:=Tryz.zeroValue4
 t9:=Tryz.underlying9
 a9:=Tryz.isAgg9
 z9:=Tryz.sizeOf9
 v9:=Tryz.zeroValue9
 t20:=Tryz.underlying20
 a20:=Tryz.isAgg20
 z20:=Tryz.sizeOf20
 v20:=Tryz.zeroValue20
 t31:=Tryz.underlying49
 a31:=Tryz.isAgg49
 z31:=Tryz.sizeOf49
 v31:=Tryz.zeroValue49
 t37:=Tryz.underlying34
 a37:=Tryz.isAgg34
 z37:=Tryz.sizeOf34
 v37:=Tryz.zeroValue34
 t70:=Tryz.underlying33
 a70:=Tryz.isAgg33
 z70:=Tryz.sizeOf33
 v70:=Tryz.zeroValue33
 t72:=Tryz.underlying36
 a72:=Tryz.isAgg36
 z72:=Tryz.sizeOf36
 v72:=Tryz.zeroValue36
 t75:=Tryz.underlying43
 a75:=Tryz.isAgg43
 z75:=Tryz.sizeOf43
 v75:=Tryz.zeroValue43
 t76:=Tryz.underlying44
 a76:=Tryz.isAgg44
 z76:=Tryz.sizeOf44
 v76:=Tryz.zeroValue44
 t127:=Tryz.underlying78
 a127:=Tryz.isAgg78
 z127:=Tryz.sizeOf78
 v127:=Tryz.zeroValue78
 t164:=Tryz.underlying130
 a164:=Tryz.isAgg130
 z164:=Tryz.sizeOf130
 v164:=Tryz.zeroValue130 }
theorem fJ0:Builder.Extra Tryz.prog ds_lays156_ren:={
 sizeBuilder:=by kernel_rfl
 liesBuilder:=by kernel_rfl
 t5:=Tryz.underlying5
 a5:=Tryz.isAgg5
 z5:=Tryz.sizeOf5
 v5:=Tryz.zeroValue5
 infoByte:=by kernel_rfl
 cellsByte:=by kernel_rfl
 sizeByte:=by kernel_rfl
 neB5:=by decide }
def ds_lays102_ren:Go.Shelf.Ren:=⟨fun | 102=>38 | 209=>82 | 207=>137 | n=>n,fun | 9=>9 | 4=>4 | 3=>3 | n=>n,fun | n=>n⟩
theorem zN0:Go.Proofs.Lays.n102 Tryz.prog ds_lays102_ren:={
 mixed:=by kernel_rfl
 f102:=Tryz.func38.trans (congrArg some (by kernel_rfl))
 f207:=Tryz.func137.trans (congrArg some (by kernel_rfl))
 f209:=Tryz.func82.trans (congrArg some (by kernel_rfl))
 t3:=Tryz.underlying3
 a3:=Tryz.isAgg3
 z3:=Tryz.sizeOf3
 v3:=Tryz.zeroValue3
 t4:=Tryz.underlying4
 a4:=Tryz.isAgg4
 z4:=Tryz.sizeOf4
 v4:=Tryz.zeroValue4
 t9:=Tryz.underlying9
 a9:=Tryz.isAgg9
 z9:=Tryz.sizeOf9
 v9:=Tryz.zeroValue9 }
def ds_lays166_ren:Go.Shelf.Ren:=⟨fun | 166=>10 | 240=>40 | 276=>84 | n=>n,fun | 0=>0 | 3=>3 | 4=>4 | 9=>9 | 20=>20 | 37=>34 | 70=>33 | 72=>36 | 75=>43 | 164=>130 | 80=>48 | 5=>5 | n=>n,fun | n=>n⟩
theorem pM0:Go.Proofs.Lays.n166 Tryz.prog ds_lays166_ren:={
 mixed:=by kernel_rfl
 f166:=Tryz.func10.trans (congrArg some (by kernel_rfl))
 f240:=Tryz.func40.trans (congrArg some (by kernel_rfl))
 f276:=Tryz.func84.trans (congrArg some (by kernel_rfl))
 t0:=Tryz.underlying0
 a0:=Tryz.isAgg0
 z0:=Tryz.sizeOf0
 v0:=Tryz.zeroValue0
 t3:=Tryz.underlying3
 a3:=Tryz.isAgg3
 z3:=Tryz.sizeOf3
 v3:=Tryz.zeroValue3
 t4:=Tryz.underlying4
 a4:=Tryz.isAgg4
 z4:=Tryz.sizeOf4
 v4:=Tryz.zeroValue4
 t9:=Tryz.underlying9
 a9:=Tryz.isAgg9
 z9:=Tryz.sizeOf9
 v9:=Tryz.zeroValue9
 t20:=Tryz.underlying20
 a20:=Tryz.isAgg20
 z20:=Tryz.sizeOf20
 v20:=Tryz.zeroValue20
 t37:=Tryz.underlying34
 a37:=Tryz.isAgg34
 z37:=Tryz.sizeOf34
 v37:=Tryz.zeroValue34
 t70:=Tryz.underlying33
 a70:=Tryz.isAgg33
 z70:=Tryz.sizeOf33
 v70:=Tryz.zeroValue33
 t72:=Tryz.underlying36
 a72:=Tryz.isAgg36
 z72:=Tryz.sizeOf36
 v72:=Tryz.zeroValue36
 t75:=Tryz.underlying43
 a75:=Tryz.isAgg43
 z75:=Tryz.sizeOf43
 v75:=Tryz.zeroValue43
 t164:=Tryz.underlying130
 a164:=Tryz.isAgg130
 z164:=Tryz.sizeOf130
 v164:=Tryz.zeroValue130 }
theorem fK0:Builder.Extra Tryz.prog ds_lays166_ren:={
 sizeBuilder:=by kernel_rfl
 liesBuilder:=by kernel_rfl
 t5:=Tryz.underlying5
 a5:=Tryz.isAgg5
 z5:=Tryz.sizeOf5
 v5:=Tryz.zeroValue5
 infoByte:=by kernel_rfl
 cellsByte:=by kernel_rfl
 sizeByte:=by kernel_rfl
 neB5:=by decide }
end Go.Proofs.YtaelphbianmckaaGreatDoor
namespace Go.Proofs.YtaelphbianmckaaGreatDoor
open Go.RowKit
structure Ord where
 id:Int
 side:Int
 kind:Int
 price:Int
 qty:Int
def Ord.none_:Ord:=⟨0,0,0,0,0⟩
def Ord.agg (o:Ord):Value:=.agg #[.int .i64 o.id,.int .i64 o.side,.int .i64 o.kind,.int .i64 o.price,.int .i64 o.qty]
def oV:List Ord→List Value
 | []=>[]
 | o::l=>.int .i64 o.id::.int .i64 o.side::.int .i64 o.kind::.int .i64 o.price::.int .i64 o.qty::oV l
def oAt (l:List Ord) (k:Nat):Ord:=l.getD k Ord.none_
theorem eR0 (l:List Ord):(oV l).length=l.length*5:=by
 induction l with
 | nil=>rfl
 | cons o l ih=>simp [oV,ih];omega
theorem gM0 (a b:List Ord):oV (a++b)=oV a++oV b:=by
 induction a with
 | nil=>rfl
 | cons o a ih=>simp [oV,ih]
theorem bS1 (l:List Ord):∀u∈oV l,u.oneCell'=true:=by
 induction l with
 | nil=>simp [oV]
 | cons o l ih=>
  intro u hu;simp only [oV,List.mem_cons] at hu;rcases hu with rfl | rfl | rfl | rfl | rfl | hu
  ·rfl
  ·rfl
  ·rfl
  ·rfl
  ·rfl
  ·exact ih u hu
theorem sW1 {l:List Ord} {k:Nat} (h:k<l.length):(oV l)[k*5]? = some (.int .i64 (oAt l k).id)∧(oV l)[k*5+1]? = some (.int .i64 (oAt l k).side)∧(oV l)[k*5+2]? = some (.int .i64 (oAt l k).kind)∧(oV l)[k*5+3]? = some (.int .i64 (oAt l k).price)∧(oV l)[k*5+4]? = some (.int .i64 (oAt l k).qty):=by
 induction l generalizing k with
 | nil=>simp at h
 | cons o l ih=>
  cases k with
  | zero=>exact ⟨rfl,rfl,rfl,rfl,rfl⟩
  | succ k=>
   have:=ih (k:=k) (by simpa using h);rw [show (k+1)*5=k*5+1+1+1+1+1 by omega];have e:oAt (o::l) (k+1)=oAt l k:=by simp [oAt]
   rw [e]
   simpa [oV] using this
theorem fS0 {l:List Ord} {k:Nat} (h:k<l.length):oAt l k=l[k]:=by simp [oAt,h]
def idxF (id:Int):Nat→List Ord→Int
 | _,[]=>-1
 | i,o::l=>if o.id=id then (i:Int) else idxF id (i+1) l
def idxO (id:Int) (l:List Ord):Int:=idxF id 0 l
theorem bT1 {id:Int} {l:List Ord} {k:Nat} (h:k<l.length) (hx:¬(oAt l k).id=id):idxF id (k+1) (l.drop (k+1))=idxF id k (l.drop k):=by
 rw [List.drop_eq_getElem_cons h];unfold idxF;rw [if_neg (by rw [←fS0 h];exact hx)];cases l.drop (k+1) <;> rfl
theorem iC1 {id:Int} {l:List Ord} {k:Nat} (h:k<l.length) (hx:(oAt l k).id=id):idxF id k (l.drop k)=k:=by
 rw [List.drop_eq_getElem_cons h];unfold idxF;rw [if_pos (by rw [←fS0 h];exact hx)]
theorem iD1 {id:Int} {l:List Ord} {k:Nat} (h:l.length≤k):idxF id k (l.drop k)=-1:=by
 rw [List.drop_eq_nil_of_le h];rfl
theorem nC0 (id:Int):∀(l:List Ord) (i:Nat),idxF id i l=-1∨∃k,k<l.length∧idxF id i l=((i+k:Nat):Int)∧(oAt l k).id=id
 | [],_=>Or.inl rfl
 | o::l,i=>by
  by_cases e:o.id=id
  ·right;refine ⟨0,by simp,?_,e⟩;unfold idxF;rw [if_pos e];simp
  ·have hs:idxF id i (o::l)=idxF id (i+1) l:=by
    show (if o.id=id then (i:Int) else idxF id (i+1) l)=_;rw [if_neg e]
   rw [hs];rcases nC0 id l (i+1) with h | ⟨k,hk,h,h'⟩
   ·exact Or.inl h
   ·right;refine ⟨k+1,by simpa using hk,by rw [h];congr 1;omega,?_⟩;have:oAt (o::l) (k+1)=oAt l k:=by simp [oAt]
    rw [this];exact h'
theorem iS0 {w w':World} {base:Nat} {e:TypeId} {size:Nat} {v:Value} {n B:Nat} {xs:List Value} (h:w.ownsRow base e size v n xs) (hb:Below B w w') (hB:w.heap.size≤B):w'.ownsRow base e size v n xs:=by
 refine ⟨h.1,?_⟩;rcases h.2 with hn | ⟨g,cap,cur,rfl,hg,hh,r⟩
 ·exact .inl hn
 ·exact .inr ⟨g,cap,cur,rfl,hg,(hb.block g (Nat.lt_of_lt_of_le (lt_of_block hh) hB)).trans hh,r⟩
theorem fN0 {w:World} {base:Nat} {e:TypeId} {size:Nat} {v:Value} {n:Nat} {xs:List Value} (h:w.ownsRow base e size v n xs):∃(ao:Option Addr) (cap:Nat),v=.slice ao n cap∧n≤cap∧cap≤maxLen:=by
 rcases h.2 with ⟨rfl,rfl⟩ | ⟨g,cap,cur,rfl,_,_,h1,h2,_⟩
 ·exact ⟨none,0,rfl,lR7,Nat.zero_le _⟩
 ·exact ⟨some ⟨g,0,none⟩,cap,rfl,h1,h2⟩
theorem iB0 {w:World} {base:Nat} {v:Value} {l:List Ord} (h:w.ownsRow base 92 5 v l.length (oV l)) {k:Nat} (hk:k<l.length):
  ∃g cap,v=.slice (some ⟨g,0,none⟩) l.length cap∧w.cell? ⟨g,k*5,none⟩=some (.int .i64 (oAt l k).id)∧w.cell? ⟨g,k*5+1,none⟩=some (.int .i64 (oAt l k).side)∧w.cell? ⟨g,k*5+2,none⟩=some (.int .i64 (oAt l k).kind)∧w.cell? ⟨g,k*5+3,none⟩=some (.int .i64 (oAt l k).price)∧w.cell? ⟨g,k*5+4,none⟩=some (.int .i64 (oAt l k).qty):=by
 obtain ⟨g,cap,rfl,_,_⟩:=h.form (by omega);obtain ⟨h1,h2,h3,h4,h5⟩:=sW1 hk;exact ⟨g,cap,rfl,(h.cellAt _ (by omega)).trans h1,(h.cellAt _ (by omega)).trans h2,(h.cellAt _ (by omega)).trans h3,(h.cellAt _ (by omega)).trans h4,(h.cellAt _ (by omega)).trans h5⟩
def frV (fr:List Nat):List Value:=fr.map fun k:Nat=>.int .i64 (k:Int)
theorem xM0 {l:List Value} {k:Nat} {v:Value} (h:l[k]? = some v):l.set k v=l:=by
 obtain ⟨h1,rfl⟩:=List.getElem?_eq_some_iff.1 h;exact List.set_getElem_self h1
theorem zO0 (fr:List Nat):(frV fr).length=fr.length:=by simp [frV]
theorem xN0 (fr:List Nat) (k:Nat):frV (fr++[k])=frV fr++[.int .i64 (k:Int)]:=by simp [frV]
theorem nH1 (fs:List Nat) (k:Nat):(frV (fs++[k]))[fs.length]? = some (.int .i64 (k:Int)):=by simp [frV]
structure Out (S:Nat→Prop) (w w':World):Prop where
 os:w'.os=w.os
 tape:w'.tape=w.tape
 output:w'.output=w.output
 size:w.heap.size≤w'.heap.size
 block:∀k,k<w.heap.size→¬S k→w'.heap[k]? = w.heap[k]?
theorem Out.refl (S:Nat→Prop) (w:World):Out S w w:=⟨rfl,rfl,rfl,lR7,fun _ _ _=>rfl⟩
def Went (w:World) (S S':Nat→Prop):Prop:=∀k,S' k→S k∨w.heap.size≤k
theorem Went.refl (w:World) (S:Nat→Prop):Went w S S:=fun _ h=>Or.inl h
theorem Went.trans {w w1:World} {S S1 S2:Nat→Prop} (h:Went w S S1) (h1:Went w1 S1 S2) (hs:w.heap.size≤w1.heap.size):Went w S S2:=fun k hk=>by
 rcases h1 k hk with h2 | h2
 ·exact h k h2
 ·exact Or.inr (by omega)
theorem Out.trans {S S1:Nat→Prop} {w w1 w2:World} (h:Out S w w1) (h1:Out S1 w1 w2) (hw:Went w S S1):Out S w w2:=
 ⟨h1.os.trans h.os,h1.tape.trans h.tape,h1.output.trans h.output,Nat.le_trans h.size h1.size,fun k hk hS=>(h1.block k (by have:=h.size;omega) (fun hk1=>by
  rcases hw k hk1 with h2 | h2
  ·exact hS h2
  ·omega)).trans (h.block k hk hS)⟩
theorem Out.of_below {S:Nat→Prop} {w w':World} {B:Nat} (h:Below B w w') (hB:w.heap.size≤B):Out S w w':=⟨h.os,h.tape,h.output,h.size,fun k hk _=>h.block k (by omega)⟩
theorem Out.of_grown {S:Nat→Prop} {w w':World} {row:Option Nat} (h:w.grownBy w' row) (hr:∀k,row=some k→S k):Out S w w':=⟨h.os,h.tape,h.output,h.size,fun k hk hS=>h.block k hk (fun e=>hS (hr k e.symm))⟩
theorem Out.below {S:Nat→Prop} {w w':World} {B:Nat} (h:Out S w w') (hS:∀k,S k→B≤k) (hB:B≤w.heap.size):Below B w w':=⟨h.os,h.tape,h.output,h.size,fun k hk=>h.block k (by omega) (fun hk'=>by have:=hS k hk';omega)⟩
theorem Out.mono {S S':Nat→Prop} {w w':World} (h:Out S w w') (hS:∀k,S k→S' k):Out S' w w':=⟨h.os,h.tape,h.output,h.size,fun k hk hk'=>h.block k hk (fun e=>hk' (hS k e))⟩
abbrev Sot:=Option Ord×Int
def soAt (rs:List Sot) (k:Nat):Sot:=rs.getD k (none,0)
def cntO:List Sot→Nat
 | []=>0
 | r::rs=>(if r.1.isSome then 1 else 0)+cntO rs
def thO (t:Option Ord):Ord:=t.getD Ord.none_
theorem cO0 {rs:List Sot} {k:Nat} (p:Sot) (h:k<rs.length):soAt (rs.set k p) k=p:=by simp [soAt,h]
theorem bG0 {rs:List Sot} {k j:Nat} (p:Sot) (h:k≠j):soAt (rs.set k p) j=soAt rs j:=by simp [soAt,h]
theorem sN0 {rs:List Sot} {k:Nat} (p:Sot) (h:k<rs.length):soAt (rs++[p]) k=soAt rs k:=by simp [soAt,List.getElem?_append,h]
theorem jK0 (rs:List Sot) (p:Sot):soAt (rs++[p]) rs.length=p:=by simp [soAt]
theorem jL0 {rs:List Sot} {k:Nat} (h:rs.length≤k):soAt rs k=(none,0):=by simp [soAt,h]
theorem iC0 {rs:List Sot} {k:Nat} {o:Ord} {a:Int} (h:soAt rs k=(some o,a)):k<rs.length:=by
 rcases Nat.lt_or_ge k rs.length with h1 | h1
 ·exact h1
 ·rw [jL0 h1] at h;cases h
theorem nD0 (a b:List Sot):cntO (a++b)=cntO a+cntO b:=by
 induction a with
 | nil=>simp [cntO]
 | cons r a ih=>simp [cntO,ih];omega
theorem iT0 {rs:List Sot} {k:Nat} (p:Sot) (h:k<rs.length):cntO (rs.set k p)+(if (soAt rs k).1.isSome then 1 else 0)=cntO rs+(if p.1.isSome then 1 else 0):=by
 induction rs generalizing k with
 | nil=>simp at h
 | cons r rs ih=>
  cases k with
  | zero=>simp [cntO,soAt];omega
  | succ k=>
   have:=ih (k:=k) (by simpa using h);simp only [List.set_cons_succ,cntO];have e:soAt (r::rs) (k+1)=soAt rs k:=by simp [soAt]
   rw [e];omega
structure So (m:Nat) (rs:List Sot) (fr:List Nat):Prop where
 nd:fr.Nodup
 free:∀k∈fr,k<rs.length∧(soAt rs k).1=none
 cnt:cntO rs+fr.length=rs.length
 small:rs.length≤m
 ages:∀k,0≤(soAt rs k).2∧(soAt rs k).2≤m
theorem So.start (m:Nat):So m [] []:=⟨List.nodup_nil,fun _ h=>(by cases h),rfl,Nat.zero_le _,fun k=>by simp [soAt]⟩
theorem So.more {m m':Nat} {rs:List Sot} {fr:List Nat} (h:So m rs fr) (hm:m≤m'):So m' rs fr:=⟨h.nd,h.free,h.cnt,by have:=h.small;omega,fun k=>by have:=h.ages k;omega⟩
theorem So.putFree {m k:Nat} {rs:List Sot} {fs:List Nat} {x:Ord} (h:So m rs (fs++[k])):So (m+1) (rs.set k (some x,(soAt rs k).2)) fs:=by
 have hk:=h.free k (by simp);have hnd:=List.nodup_append.1 h.nd;refine ⟨hnd.1,fun j hj=>?_,?_,by simpa using Nat.le_succ_of_le h.small,fun j=>?_⟩
 ·have hne:k≠j:=fun e=>hnd.2.2 j hj k (by simp) e.symm
  rw [bG0 _ hne]
  simpa using h.free j (by simp [hj])
 ·have h1:=iT0 (some x,(soAt rs k).2) hk.1;have h2:=h.cnt;rw [hk.2] at h1;simp only [List.length_append,List.length_singleton] at h2;simp at h1;simp;omega
 ·by_cases e:k=j
  ·subst e;rw [cO0 _ hk.1];have:=h.ages k;simp;omega
  ·rw [bG0 _ e];have:=h.ages j;omega
theorem So.putNew {m:Nat} {rs:List Sot} {x:Ord} (h:So m rs []):So (m+1) (rs++[(some x,0)]) []:=by
 have each:∀k,soAt (rs++[(some x,0)]) k=soAt rs k∨soAt (rs++[(some x,0)]) k=(some x,0):=fun k=>by
  rcases Nat.lt_trichotomy k rs.length with h1 | h1 | h1
  ·exact Or.inl (sN0 _ h1)
  ·subst h1;exact Or.inr (jK0 _ _)
  ·left;rw [jL0 (by simp;omega),jL0 (by omega)]
 refine ⟨List.nodup_nil,fun _ h=>(by cases h),?_,by have:=h.small;simp;omega,fun k=>?_⟩
 ·have:=h.cnt;simp [nD0,cntO] at this ⊢;omega
 ·rcases each k with e | e
  ·rw [e];have:=h.ages k;omega
  ·rw [e];simp;omega
theorem So.set {m k:Nat} {rs:List Sot} {fr:List Nat} {x:Ord} (h:So m rs fr) (hk:k<rs.length) (hf:(soAt rs k).1.isSome=true):So (m+1) (rs.set k (some x,(soAt rs k).2)) fr:=by
 refine ⟨h.nd,fun j hj=>?_,?_,by simpa using Nat.le_succ_of_le h.small,fun j=>?_⟩
 ·have hj':=h.free j hj;have hne:k≠j:=fun e=>by subst e;rw [hj'.2] at hf;cases hf
  rw [bG0 _ hne]
  simpa using hj'
 ·have h1:=iT0 (some x,(soAt rs k).2) hk;have h2:=h.cnt;rw [hf] at h1;simp at h1;simp;omega
 ·by_cases e:k=j
  ·subst e;rw [cO0 _ hk];have:=h.ages k;simp;omega
  ·rw [bG0 _ e];have:=h.ages j;omega
theorem So.take {m k:Nat} {rs:List Sot} {fr:List Nat} (h:So m rs fr) (hk:k<rs.length) (hf:(soAt rs k).1.isSome=true):So (m+1) (rs.set k (none,(soAt rs k).2+1)) (fr++[k]):=by
 have hn:k ∉ fr:=fun hm=>by have:=h.free k hm;rw [this.2] at hf;cases hf
 refine ⟨?_,fun j hj=>?_,?_,by simpa using Nat.le_succ_of_le h.small,fun j=>?_⟩
 ·rw [List.nodup_append];exact ⟨h.nd,by simp,fun a ha b hb e=>by simp at hb;subst e;subst hb;exact hn ha⟩
 ·by_cases e:k=j
  ·subst e;rw [cO0 _ hk];exact ⟨by simpa using hk,rfl⟩
  ·rw [bG0 _ e];rcases List.mem_append.1 hj with h1 | h1
   ·simpa using h.free j h1
   ·simp at h1;omega
 ·have h1:=iT0 (none,(soAt rs k).2+1) hk;have h2:=h.cnt;rw [hf] at h1;simp at h1;simp;omega
 ·by_cases e:k=j
  ·subst e;rw [cO0 _ hk];have:=h.ages k;simp;omega
  ·rw [bG0 _ e];have:=h.ages j;omega
def soV:List Sot→List Value
 | []=>[]
 | r::rs=>.int .i64 (thO r.1).id::.int .i64 (thO r.1).side::.int .i64 (thO r.1).kind::.int .i64 (thO r.1).price::.int .i64 (thO r.1).qty::.int .i64 r.2::.bool r.1.isSome::soV rs
theorem zP0 (a b:List Sot):soV (a++b)=soV a++soV b:=by
 induction a with
 | nil=>rfl
 | cons r a ih=>simp [soV,ih]
theorem bU1 {rs:List Sot} {k:Nat} (h:k<rs.length):(soV rs)[k*7]? = some (.int .i64 (thO (soAt rs k).1).id)∧(soV rs)[k*7+1]? = some (.int .i64 (thO (soAt rs k).1).side)∧(soV rs)[k*7+2]? = some (.int .i64 (thO (soAt rs k).1).kind)∧(soV rs)[k*7+3]? = some (.int .i64 (thO (soAt rs k).1).price)∧(soV rs)[k*7+4]? = some (.int .i64 (thO (soAt rs k).1).qty)∧(soV rs)[k*7+5]? = some (.int .i64 (soAt rs k).2)∧(soV rs)[k*7+6]? = some (.bool (soAt rs k).1.isSome):=by
 induction rs generalizing k with
 | nil=>simp at h
 | cons r rs ih=>
  cases k with
  | zero=>exact ⟨rfl,rfl,rfl,rfl,rfl,rfl,rfl⟩
  | succ k=>
   have:=ih (k:=k) (by simpa using h);rw [show (k+1)*7=k*7+1+1+1+1+1+1+1 by omega];have e:soAt (r::rs) (k+1)=soAt rs k:=by simp [soAt]
   rw [e]
   simpa [soV] using this
theorem bV1 {rs:List Sot} {k:Nat} (p:Sot) (h:k<rs.length):(((((((soV rs).set (k*7) (.int .i64 (thO p.1).id)).set (k*7+1) (.int .i64 (thO p.1).side)).set (k*7+2) (.int .i64 (thO p.1).kind)).set (k*7+3) (.int .i64 (thO p.1).price)).set (k*7+4) (.int .i64 (thO p.1).qty)).set (k*7+5) (.int .i64 p.2)).set (k*7+6) (.bool p.1.isSome)=soV (rs.set k p):=by
 induction rs generalizing k with
 | nil=>simp at h
 | cons r rs ih=>
  cases k with
  | zero=>rfl
  | succ k=>
   have:=ih (k:=k) (by simpa using h);rw [show (k+1)*7=k*7+1+1+1+1+1+1+1 by omega];simp only [soV,List.set_cons_succ];rw [←this]
def qX0 (rs:List Sot) (fr:List Nat) (k:Nat) (rs1:List Sot) (fr1:List Nat):Prop:=(fr=fr1++[k]∧rs1=rs)∨(fr=[]∧fr1=[]∧k=rs.length∧rs1=rs++[(none,0)])
structure Ly where
 slot:Nat
 age:Int
 o:Ord
def hV:List Ly→List Value
 | []=>[]
 | x::l=>.int .i64 (x.slot:Int)::.int .i64 x.age::hV l
def qK1:Ly:=⟨0,0,Ord.none_⟩
def lyAt (l:List Ly) (k:Nat):Ly:=l.getD k qK1
theorem iD0 {l:List Ly} {k:Nat} (h:k<l.length):lyAt l k=l[k]:=by simp [lyAt,h]
theorem xO0 {l:List Ly} {k:Nat} (h:k<l.length):lyAt l k∈l:=by rw [iD0 h];exact List.getElem_mem h
theorem dU0 (l:List Ly):(hV l).length=l.length*2:=by
 induction l with
 | nil=>rfl
 | cons r rs ih=>simp [hV,ih];omega
theorem nE0 (a b:List Ly):hV (a++b)=hV a++hV b:=by
 induction a with
 | nil=>rfl
 | cons r a ih=>simp [hV,ih]
theorem zQ0 {l:List Ly} {k:Nat} (h:k<l.length):(hV l)[k*2]? = some (.int .i64 ((lyAt l k).slot:Int))∧(hV l)[k*2+1]? = some (.int .i64 (lyAt l k).age):=by
 induction l generalizing k with
 | nil=>simp at h
 | cons r rs ih=>
  cases k with
  | zero=>exact ⟨rfl,rfl⟩
  | succ k=>
   have:=ih (k:=k) (by simpa using h);rw [show (k+1)*2=k*2+1+1 by omega];have e:lyAt (r::rs) (k+1)=lyAt rs k:=by simp [lyAt]
   rw [e]
   simpa [hV] using this
theorem mD1 (l:List Ly):∀u∈hV l,u.oneCell'=true:=by
 induction l with
 | nil=>simp [hV]
 | cons o l ih=>
  intro u hu;simp only [hV,List.mem_cons] at hu;rcases hu with rfl | rfl | hu
  ·rfl
  ·rfl
  ·exact ih u hu
structure Pb (m:Nat) (rs:List Sot) (fr:List Nat) (S:Nat→List Ly):Prop where
 so:So m rs fr
 there:∀s,s<2→∀x∈S s,soAt rs x.slot=(some x.o,x.age)
 nd:((S 0++S 1).map Ly.slot).Nodup
 ids:((S 0++S 1).map fun x=>x.o.id).Nodup
 cnt:cntO rs=(S 0).length+(S 1).length
 side:∀s,s<2→∀x∈S s,x.o.side=(s:Int)+1
 ok:∀s,s<2→∀x∈S s,1≤x.o.id∧(Lit.int .i64 x.o.id).wf=true∧1≤x.o.price∧x.o.price≤1000000∧1≤x.o.qty∧x.o.qty≤1000000
 most:(S 0).length+(S 1).length≤100
def upS (S:Nat→List Ly) (s:Nat) (l:List Ly):Nat→List Ly:=fun k=>if k=s then l else S k
theorem gE0 (S:Nat→List Ly) (s:Nat) (l:List Ly):upS S s l s=l:=if_pos rfl
theorem eS0 {S:Nat→List Ly} {s k:Nat} (l:List Ly) (h:k≠s):upS S s l k=S k:=if_neg h
theorem nF0 (S:Nat→List Ly) {s:Nat} (hs:s<2):(S 0++S 1).Perm (S s++S (1 - s)):=by
 match s,hs with
 | 0,_=>exact List.Perm.refl _
 | 1,_=>exact List.perm_append_comm
theorem bW1 (S:Nat→List Ly) (l:List Ly) {s:Nat} (hs:s<2):(upS S s l 0++upS S s l 1).Perm (l++S (1 - s)):=by
 match s,hs with
 | 0,_=>exact List.Perm.refl _
 | 1,_=>exact List.perm_append_comm
theorem nG0 (S:Nat→List Ly) (l:List Ly) {s:Nat} (hs:s<2):(upS S s l 0).length+(upS S s l 1).length=l.length+(S (1 - s)).length∧(S 0).length+(S 1).length=(S s).length+(S (1 - s)).length:=by
 match s,hs with
 | 0,_=>exact ⟨rfl,rfl⟩
 | 1,_=>exact ⟨Nat.add_comm _ _,Nat.add_comm _ _⟩
theorem pN0 {S:Nat→List Ly} {l:List Ly} {s t:Nat} {y:Ly} (h:y∈upS S s l t):(t=s∧y∈l)∨(t≠s∧y∈S t):=by
 by_cases e:t=s
 ·subst e;rw [gE0] at h;exact Or.inl ⟨rfl,h⟩
 ·rw [eS0 _ e] at h;exact Or.inr ⟨e,h⟩
theorem Pb.one_slot {m:Nat} {rs:List Sot} {fr:List Nat} {S:Nat→List Ly} (h:Pb m rs fr S) {s t:Nat} (hs:s<2) (ht:t<2) {x y:Ly} (hx:x∈S s) (hy:y∈S t) (e:x.slot=y.slot):x=y:=by
 have h1:=h.there s hs x hx;have h2:=h.there t ht y hy;rw [e,h2] at h1;injection h1 with h1 h3;injection h1 with h1;obtain ⟨a,b,c⟩:=x;obtain ⟨a',b',c'⟩:=y;simp only at e h1 h3;rw [e,h1,h3]
theorem qY0 {α:Type} {f:Ly→α} {l:List Ly} (h:(l.map f).Nodup) {x y:Ly} (hx:x∈l) (hy:y∈l) (e:f x=f y):x=y:=by
 induction l with
 | nil=>cases hx
 | cons a l ih=>
  simp only [List.map_cons,List.nodup_cons] at h;rcases List.mem_cons.1 hx with rfl | hx' <;> rcases List.mem_cons.1 hy with rfl | hy'
  ·rfl
  ·exact absurd (List.mem_map.2 ⟨y,hy',e.symm⟩) h.1
  ·exact absurd (List.mem_map.2 ⟨x,hx',e⟩) h.1
  ·exact ih h.2 hx' hy'
theorem Pb.mem {S:Nat→List Ly} {s:Nat} (hs:s<2) {x:Ly} (hx:x∈S s):x∈S 0++S 1:=(nF0 S hs).mem_iff.2 (List.mem_append.2 (Or.inl hx))
theorem Pb.one_id {m:Nat} {rs:List Sot} {fr:List Nat} {S:Nat→List Ly} (h:Pb m rs fr S) {s t:Nat} (hs:s<2) (ht:t<2) {x y:Ly} (hx:x∈S s) (hy:y∈S t) (e:x.o.id=y.o.id):x=y:=
 qY0 h.ids (Pb.mem hs hx) (Pb.mem ht hy) e
theorem Pb.one_side {m:Nat} {rs:List Sot} {fr:List Nat} {S:Nat→List Ly} (h:Pb m rs fr S) {s t:Nat} (hs:s<2) (ht:t<2) {x:Ly} (hx:x∈S s) (hy:x∈S t):s=t:=by
 have h1:=h.side s hs x hx;have h2:=h.side t ht x hy;omega
theorem Pb.more {m m':Nat} {rs:List Sot} {fr:List Nat} {S:Nat→List Ly} (h:Pb m rs fr S) (hm:m≤m'):Pb m' rs fr S:=⟨h.so.more hm,h.there,h.nd,h.ids,h.cnt,h.side,h.ok,h.most⟩
theorem Pb.start (m:Nat):Pb m [] [] (fun _=>[]):=⟨So.start m,fun _ _ x hx=>(by cases hx),List.nodup_nil,List.nodup_nil,rfl,fun _ _ x hx=>(by cases hx),fun _ _ x hx=>(by cases hx),by simp⟩
theorem nH0 {m k:Nat} {rs rs1:List Sot} {fr fr1:List Nat} (h:So m rs fr) (hR:qX0 rs fr k rs1 fr1):k<rs1.length∧(soAt rs1 k).1=none∧(∀j o a,soAt rs j=(some o,a)→j≠k∧soAt rs1 j=(some o,a))∧cntO rs1=cntO rs∧rs1.length≤rs.length+1:=by
 rcases hR with ⟨rfl,rfl⟩ | ⟨rfl,rfl,rfl,rfl⟩
 ·have hk:=h.free k (by simp);refine ⟨hk.1,hk.2,fun j o a hj=>⟨fun e=>?_,hj⟩,rfl,by omega⟩;subst e;rw [hj] at hk;cases hk.2
 ·refine ⟨by simp,by rw [jK0],fun j o a hj=>?_,by simp [nD0,cntO],by simp⟩;have hlt:=iC0 hj;exact ⟨by omega,by rw [sN0 _ hlt];exact hj⟩
theorem iE1 (rs:List Sot) (p q:Sot):(rs++[p]).set rs.length q=rs++[q]:=by simp
theorem nI1 {m k:Nat} {rs rs1:List Sot} {fr fr1:List Nat} {o:Ord} (h:So m rs fr) (hR:qX0 rs fr k rs1 fr1):So (m+1) (rs1.set k (some o,(soAt rs1 k).2)) fr1:=by
 rcases hR with ⟨rfl,rfl⟩ | ⟨rfl,rfl,rfl,rfl⟩
 ·exact h.putFree
 ·rw [jK0,iE1];exact h.putNew
theorem nJ1 {m:Nat} {rs:List Sot} {fr:List Nat} (_h:So m rs fr):∃k rs1 fr1,qX0 rs fr k rs1 fr1:=by
 rcases List.eq_nil_or_concat fr with rfl | ⟨fs,k,rfl⟩
 ·exact ⟨rs.length,_,[],Or.inr ⟨rfl,rfl,rfl,rfl⟩⟩
 ·rw [List.concat_eq_append];exact ⟨k,rs,fs,Or.inl ⟨rfl,rfl⟩⟩
theorem Pb.put {m k s:Nat} {rs rs1:List Sot} {fr fr1:List Nat} {S:Nat→List Ly} {o:Ord} {l':List Ly} (h:Pb m rs fr S) (hR:qX0 rs fr k rs1 fr1) (hs:s<2) (hp:l'.Perm (⟨k,(soAt rs1 k).2,o⟩::S s)) (hside:o.side=(s:Int)+1)
  (hok:1≤o.id∧(Lit.int .i64 o.id).wf=true∧1≤o.price∧o.price≤1000000∧1≤o.qty∧o.qty≤1000000) (hid:∀t,t<2→∀x∈S t,x.o.id≠o.id) (hm:(S 0).length+(S 1).length<100):
  Pb (m+1) (rs1.set k (some o,(soAt rs1 k).2)) fr1 (upS S s l'):=by
 obtain ⟨hk,hn,ho,hc,_⟩:=nH0 h.so hR;have hall:=(bW1 S l' hs).trans ((hp.append_right _).trans ((nF0 S hs).symm.cons _));have hl:=nG0 S l' hs;have hpl:=hp.length_eq;simp only [List.length_cons] at hpl;refine ⟨nI1 h.so hR,fun t ht y hy=>?_,?_,?_,?_,fun t ht y hy=>?_,fun t ht y hy=>?_,by omega⟩
 ·have old:∀u,u<2→y∈S u→soAt (rs1.set k (some o,(soAt rs1 k).2)) y.slot=(some y.o,y.age):=fun u hu hy'=>by
   obtain ⟨h1,h2⟩:=ho _ _ _ (h.there u hu y hy');rw [bG0 _ (Ne.symm h1)];exact h2
  rcases pN0 hy with ⟨rfl,h5⟩ | ⟨_,h5⟩
  ·rcases List.mem_cons.1 (hp.mem_iff.1 h5) with rfl | h6
   ·exact cO0 _ hk
   ·exact old _ ht h6
  ·exact old _ ht h5
 ·rw [(hall.map _).nodup_iff];simp only [List.map_cons,List.nodup_cons];refine ⟨fun hmem=>?_,h.nd⟩;obtain ⟨y,hy,e⟩:=List.mem_map.1 hmem;rcases List.mem_append.1 hy with hy | hy
  ·exact (ho _ _ _ (h.there 0 (by decide) y hy)).1 e
  ·exact (ho _ _ _ (h.there 1 (by decide) y hy)).1 e
 ·rw [(hall.map _).nodup_iff];simp only [List.map_cons,List.nodup_cons];refine ⟨fun hmem=>?_,h.ids⟩;obtain ⟨y,hy,e⟩:=List.mem_map.1 hmem;rcases List.mem_append.1 hy with hy | hy
  ·exact hid 0 (by decide) y hy e
  ·exact hid 1 (by decide) y hy e
 ·have h1:=iT0 (some o,(soAt rs1 k).2) hk;rw [hn] at h1;have h2:=h.cnt;simp at h1;omega
 ·rcases pN0 hy with ⟨rfl,h5⟩ | ⟨_,h5⟩
  ·rcases List.mem_cons.1 (hp.mem_iff.1 h5) with rfl | h6
   ·exact hside
   ·exact h.side _ ht _ h6
  ·exact h.side _ ht _ h5
 ·rcases pN0 hy with ⟨rfl,h5⟩ | ⟨_,h5⟩
  ·rcases List.mem_cons.1 (hp.mem_iff.1 h5) with rfl | h6
   ·exact hok
   ·exact h.ok _ ht _ h6
  ·exact h.ok _ ht _ h5
theorem Pb.gone {m s:Nat} {rs:List Sot} {fr:List Nat} {S:Nat→List Ly} {x:Ly} {l':List Ly} (h:Pb m rs fr S) (hs:s<2) (hx:x∈S s) (hp:(S s).Perm (x::l')):
  Pb (m+1) (rs.set x.slot (none,x.age+1)) (fr++[x.slot]) (upS S s l'):=by
 have hat:=h.there s hs x hx;have hk:=iC0 hat;have hf:(soAt rs x.slot).1.isSome=true:=by rw [hat];rfl
 have hall:(S 0++S 1).Perm (x::(upS S s l' 0++upS S s l' 1)):=(nF0 S hs).trans ((hp.append_right _).trans ((bW1 S l' hs).symm.cons _));have hnd:=(hall.map Ly.slot).nodup_iff.1 h.nd;have hid:=(hall.map fun x=>x.o.id).nodup_iff.1 h.ids;simp only [List.map_cons,List.nodup_cons] at hnd hid;have hl:=nG0 S l' hs;have hpl:=hp.length_eq;simp only [List.length_cons] at hpl
 have old:∀t,t<2→∀y∈upS S s l' t,y∈S t:=fun t ht y hy=>by
  rcases pN0 hy with ⟨rfl,h5⟩ | ⟨_,h5⟩
  ·exact hp.mem_iff.2 (List.mem_cons_of_mem _ h5)
  ·exact h5
 refine ⟨?_,fun t ht y hy=>?_,hnd.2,hid.2,?_,fun t ht y hy=>h.side t ht y (old t ht y hy),fun t ht y hy=>h.ok t ht y (old t ht y hy),by have:=h.most;omega⟩
 ·have:=h.so.take hk hf;rw [hat] at this;exact this
 ·have hne:x.slot≠y.slot:=fun e=>hnd.1 (List.mem_map.2 ⟨y,Pb.mem ht hy,e.symm⟩)
  rw [bG0 _ hne];exact h.there t ht y (old t ht y hy)
 ·have h1:=iT0 (none,x.age+1) hk;rw [hat] at h1;have h2:=h.cnt;simp at h1;omega
def cutL (x:Ly) (o':Ord) (l:List Ly):List Ly:=l.map fun y=>if y.slot=x.slot then { y with o:=o' } else y
theorem zR0 (x:Ly) (o':Ord) (l:List Ly):(cutL x o' l).map Ly.slot=l.map Ly.slot:=by
 unfold cutL;rw [List.map_map];apply List.map_congr_left;intro y _;simp only [Function.comp];split <;> rfl
theorem nI0 (x:Ly) (o':Ord) (l:List Ly):(cutL x o' l).length=l.length:=by simp [cutL]
theorem nK1 (x:Ly) (o':Ord) (l:List Ly):hV (cutL x o' l)=hV l:=by
 induction l with
 | nil=>rfl
 | cons y l ih=>
  have:cutL x o' (y::l)=(if y.slot=x.slot then { y with o:=o' } else y)::cutL x o' l:=rfl;rw [this];unfold hV;rw [ih];split <;> rfl
theorem Pb.cut {m s:Nat} {rs:List Sot} {fr:List Nat} {S:Nat→List Ly} {x:Ly} {o':Ord} (h:Pb m rs fr S) (hs:s<2) (hx:x∈S s) (h1:o'.id=x.o.id) (h2:o'.side=x.o.side) (h3:1≤o'.price∧o'.price≤1000000∧1≤o'.qty∧o'.qty≤1000000):
  Pb (m+1) (rs.set x.slot (some o',x.age)) fr (upS S s (cutL x o' (S s))):=by
 have hat:=h.there s hs x hx;have hk:=iC0 hat;have hf:(soAt rs x.slot).1.isSome=true:=by rw [hat];rfl
 have hl:=nG0 S (cutL x o' (S s)) hs
 have each:∀t,t<2→∀y∈upS S s (cutL x o' (S s)) t,(y∈S t∧y.slot≠x.slot)∨(t=s∧y={ x with o:=o' }):=fun t ht y hy=>by
  rcases pN0 hy with ⟨rfl,h5⟩ | ⟨hne,h5⟩
  ·obtain ⟨z,hz,rfl⟩:=List.mem_map.1 h5
   by_cases e:z.slot=x.slot
   ·obtain rfl:=h.one_slot ht hs hz hx e;right;rw [if_pos rfl];exact ⟨rfl,rfl⟩
   ·left;rw [if_neg e];exact ⟨hz,e⟩
  ·left;refine ⟨h5,fun e=>?_⟩;have e2:=h.one_slot ht hs h5 hx e;exact hne (h.one_side ht hs h5 (e2 ▸ hx))
 have hcl:=nI0 x o' (S s);have hm:=h.most
 have hids:((cutL x o' (S s)).map fun y=>y.o.id)=(S s).map fun y=>y.o.id:=by
  unfold cutL;rw [List.map_map];apply List.map_congr_left;intro y hy;simp only [Function.comp];split
  ·rename_i e;obtain rfl:=h.one_slot hs hs hy hx e;exact h1
  ·rfl
 refine ⟨?_,fun t ht y hy=>?_,?_,?_,?_,fun t ht y hy=>?_,fun t ht y hy=>?_,by omega⟩
 ·have:=h.so.set (x:=o') hk hf;rw [hat] at this;exact this
 ·rcases each t ht y hy with ⟨hy,hne⟩ | ⟨_,rfl⟩
  ·rw [bG0 _ (Ne.symm hne)];exact h.there t ht y hy
  ·exact cO0 _ hk
 ·rw [((bW1 S _ hs).map _).nodup_iff,List.map_append,zR0,←List.map_append,←((nF0 S hs).map _).nodup_iff];exact h.nd
 ·rw [((bW1 S _ hs).map _).nodup_iff,List.map_append,hids,←List.map_append,←((nF0 S hs).map _).nodup_iff];exact h.ids
 ·have h4:=iT0 (some o',x.age) hk;rw [hat] at h4;have h5:=h.cnt;simp at h4;omega
 ·rcases each t ht y hy with ⟨hy,_⟩ | ⟨rfl,rfl⟩
  ·exact h.side t ht y hy
  ·show o'.side=_;rw [h2];exact h.side _ hs x hx
 ·rcases each t ht y hy with ⟨hy,_⟩ | ⟨rfl,rfl⟩
  ·exact h.ok t ht y hy
  ·have:=h.ok _ hs x hx;show 1≤o'.id∧(Lit.int .i64 o'.id).wf=true∧_;rw [h1];exact ⟨this.1,this.2.1,h3⟩
theorem aA0 {w:World} {b j:Nat} {vs:Array Value} {t:TypeId} {v:Value} (h:w.heap[b]? = some (.cells vs t (0,0))) (hj:vs[j]? = some v):w.cell? ⟨b,j,none⟩=some v:=(cell_of_row w b j vs t (0,0) h).trans hj
theorem aB0 {w:World} {b j:Nat} {vs:Array Value} {t:TypeId} (h:w.heap[b]? = some (.cells vs t (0,0))):w.frozen? ⟨b,j,none⟩=false:=frozen_of_row w b j vs t h
theorem aH0 {w:World} {b j:Nat} {vs:Array Value} {t:TypeId} (u:Value) (h:w.heap[b]? = some (.cells vs t (0,0))):(w.setCell ⟨b,j,none⟩ u).heap[b]? = some (.cells (vs.setIfInBounds j u) t (0,0)):=heap_setCell_same w b j vs t u h
theorem dV0 {w:World} {b g:Nat} {vs us:Array Value} {t s:TypeId} {f f':Nat×Nat} (h:w.heap[b]? = some (.cells vs t f)) (h':w.heap[g]? = some (.cells us s f')) (hn:t≠s):b≠g:=fun e=>by
 subst e;rw [h] at h';injection h' with h';injection h' with _ h' _;exact hn h'
theorem aY0 {w:World} {base:Nat} {e:TypeId} {size:Nat} {v:Value} {n:Nat} {xs:List Value} (h:w.ownsRow base e size v n xs):∃(ao:Option Addr) (cap:Nat),v=.slice ao n cap∧n≤cap∧cap≤maxLen:=by
 rcases h.2 with ⟨rfl,rfl⟩ | ⟨g,cap,cur,rfl,_,_,h1,h2,_⟩
 ·exact ⟨none,0,rfl,lR7,Nat.zero_le _⟩
 ·exact ⟨some ⟨g,0,none⟩,cap,rfl,h1,h2⟩
theorem aS0 {w w':World} {base:Nat} {e:TypeId} {size:Nat} {v:Value} {n B:Nat} {xs:List Value} (h:w.ownsRow base e size v n xs) (hb:Below B w w') (hB:w.heap.size≤B):w'.ownsRow base e size v n xs:=by
 refine ⟨h.1,?_⟩;rcases h.2 with hn | ⟨g,cap,cur,rfl,hg,hh,r⟩
 ·exact .inl hn
 ·exact .inr ⟨g,cap,cur,rfl,hg,(hb.block g (Nat.lt_of_lt_of_le (lt_of_block hh) hB)).trans hh,r⟩
theorem aL0 {S:Nat→Prop} {w w':World} {base:Nat} {e:TypeId} {size:Nat} {v:Value} {n:Nat} {xs:List Value} (h:w.ownsRow base e size v n xs) (hb:Out S w w') (hS:∀k,v.ownBlock=some k→¬S k):w'.ownsRow base e size v n xs:=by
 refine ⟨h.1,?_⟩;rcases h.2 with hn | ⟨g,cap,cur,rfl,hg,hh,r⟩
 ·exact .inl hn
 ·exact .inr ⟨g,cap,cur,rfl,hg,(hb.block g (lt_of_block hh) (hS g rfl)).trans hh,r⟩
theorem aF0 {w:World} {base b:Nat} {e t:TypeId} {size:Nat} {v:Value} {n:Nat} {xs:List Value} {vs:Array Value} {f:Nat×Nat} (h:w.ownsRow base e size v n xs) (hb:w.heap[b]? = some (.cells vs t f)) (ht:t≠e):v.ownBlock≠some b:=fun hv=>by
 rcases h.2 with ⟨rfl,_⟩ | ⟨g,cap,cur,rfl,_,hh,_⟩
 ·cases hv
 ·simp [Value.ownBlock] at hv;subst hv;exact dV0 hb hh ht rfl
theorem bJ0 {w:World} {base base':Nat} {e e':TypeId} {size size':Nat} {v v':Value} {n n':Nat} {xs xs':List Value} (h:w.ownsRow base e size v n xs) (h':w.ownsRow base' e' size' v' n' xs') (ht:e≠e') {k:Nat} (hv:v.ownBlock=some k):v'.ownBlock≠some k:=fun hv'=>by
 rcases h.2 with ⟨rfl,_⟩ | ⟨g,cap,cur,rfl,_,hh,_⟩
 ·cases hv
 ·simp [Value.ownBlock] at hv;subst hv;exact aF0 h' hh ht hv'
theorem mO0 {w:World} {base:Nat} {e:TypeId} {size:Nat} {a:Option Addr} {n' cap n:Nat} {xs:List Value} (h:w.ownsRow base e size (.slice a n' cap) n xs):n'=n:=by
 rcases h.2 with ⟨h',h0⟩ | ⟨g,cap',cur,h',_⟩
 ·injection h' with _ h1 _;omega
 ·injection h' with _ h1 _
theorem bX1 {w:World} {base:Nat} {e:TypeId} {g n cap:Nat} {xs:List Value} {x:Value} (h:w.ownsRow base e 1 (.slice (some ⟨g,0,none⟩) (n+1) cap) (n+1) (xs++[x])) (hn:xs.length=n):w.ownsRow base e 1 (.slice (some ⟨g,0,none⟩) n cap) n xs:=by
 rcases h.2 with ⟨h',_⟩ | ⟨g',cap',cur,h',hb,hg,hnc,hcm,hcs,ht⟩
 ·simp at h'
 ·simp only [Value.slice.injEq,Option.some.injEq,Addr.mk.injEq,and_true,true_and] at h';obtain ⟨rfl,rfl⟩:=h';refine ⟨by omega,.inr ⟨g,cap,cur,rfl,hb,hg,by omega,hcm,hcs,?_⟩⟩;have:=congrArg (List.take n) ht;rw [List.take_take,←hn,List.take_left] at this;rw [←hn]
  simpa using this
theorem aN0 (w:World) (a:Addr) (u:Value):Out (fun j=>j=a.block) w (w.setCell a u):=⟨rfl,rfl,rfl,by simp,fun j _ hj=>Below.heap_setCell _ _ _ _ (fun e=>hj e)⟩
theorem zS0 (w:World):∀n,(w.drewN n).heap=w.heap:=fun n=>by
 have:∀n (w':World),(w'.drewN n).heap=w'.heap:=fun n=>by
  induction n with
  | zero=>intro w';rfl
  | succ n ih=>intro w';exact ih _
 exact this n w
theorem sO0 {w:World} {b:Nat} {o:Obj} (n:Nat) (h:w.heap[b]? = some o):(w.drewN n).heap[b]? = some o:=by rw [zS0];exact h
theorem aD0 {w w':World} {b B:Nat} {o:Obj} (h:w.heap[b]? = some o) (hb:Below B w w') (hB:w.heap.size≤B):w'.heap[b]? = some o:=(hb.block b (Nat.lt_of_lt_of_le (lt_of_block h) hB)).trans h
theorem aE0 {S:Nat→Prop} {w w':World} {b:Nat} {o:Obj} (h:w.heap[b]? = some o) (hb:Out S w w') (hS:¬S b):w'.heap[b]? = some o:=(hb.block b (lt_of_block h) hS).trans h
theorem bel1 (w:World) (o:Obj):Below w.heap.size w (w.alloc o):=(Below.refl _ _).alloc lR7 o
theorem bel2 (w:World) (o o':Obj):Below w.heap.size w ((w.alloc o).alloc o'):=((Below.refl _ _).alloc lR7 o).alloc (by simp) o'
theorem aC0 {w w1 w2:World} (h:Below w.heap.size w w1) (h1:Below w1.heap.size w1 w2):Below w.heap.size w w2:=h.trans (h1.mono h.size)
theorem eG0 (w:World) (o o':Obj):((w.alloc o).alloc o').heap[w.heap.size]? = some o:=(Below.heap_alloc (w.alloc o) o' w.heap.size (by simp)).trans (heap_alloc_new w o)
theorem dK0 (w:World) (o o':Obj):((w.alloc o).alloc o').heap[w.heap.size+1]? = some o':=by
 have:=heap_alloc_new (w.alloc o) o'
 rwa [show (w.alloc o).heap.size=w.heap.size+1 by simp] at this
theorem jV0 (w:World):w.drew.heap=w.heap:=rfl
theorem aT0 {S:Nat→Prop} {w w':World} (h:Out S w w'):Out S w w'.drew:=⟨h.os,h.tape,h.output,h.size,h.block⟩
theorem cU0 {S:Nat→Prop} {w w':World} (h:Out S w w') (o:Obj):Out S w (w'.alloc o):=h.trans (Out.of_below (bel1 w' o) lR7) (Went.refl _ _)
theorem bA0 {S:Nat→Prop} {w w1 w2:World} (h:Out S w w1) (h1:Out S w1 w2):Out S w w2:=h.trans h1 (Went.refl _ _)
theorem eH0 {S:Nat→Prop} {w w':World} {p:Addr} {u:Value} (h:Out S w w') (hp:w.heap.size≤p.block):Out S w (w'.setCell p u):=h.trans (aN0 w' p u) (fun k hk=>Or.inr (by rw [show k=p.block from hk];exact hp))
theorem bQ0 {S:Nat→Prop} {w w':World} {p:Addr} {u:Value} (h:Out S w w') (hp:S p.block):Out S w (w'.setCell p u):=h.trans (aN0 w' p u) (fun k hk=>Or.inl (by rw [show k=p.block from hk];exact hp))
end Go.Proofs.YtaelphbianmckaaGreatDoor
