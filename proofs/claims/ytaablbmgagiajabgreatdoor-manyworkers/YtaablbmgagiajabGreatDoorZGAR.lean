import Derived.Shelf.Strings.OnBuilder
import Derived.Shelf.Small.Wraps
import Derived.Shelf.Strings.BuilderK
import Derived.Shelf.Strconv.Itoa4
import Derived.Shelf.Strconv.ErrVarParseInt
import Derived.Shelf.Strings.Shaped
import Derived.Shelf.Strings.FieldsFuncAny
import Derived.Lib.ItoaLen
import Derived.RangeFuncWrites
import Derived.OwnWalkIn
import Derived.TacticsInMore
import Derived.LoopNIn
import Derived.LoopIn
import Derived.Test.YtaablbmgagiajabGreatDoorZGAB
set_option maxHeartbeats 4000000
open Go renaming Addr->YQ,Calls->YR,Value->YN,World->YM,info_parts->ZM,run_underlying->Z7
open Go.Addr renaming add->ZX
open Array renaming replicate_succ->zvE,replicate_zero->zvF
open Go.RowKit renaming Below->YO
open Go.RowKit.Below renaming refl->YS
open Go.Proofs.Builder renaming Extra->zAx
open Go.Fence renaming wide->zwP
open Go.Proofs.Lays renaming n102->zD7,n121->zD8,n156->zD9,n169->zEa,n219->zEb,n229->zEc
open Go.Proofs.LaysC renaming n174->zEd
open Go.Proofs.LaysM renaming n171->zEe,n173->zEf
open Go.Instr renaming findKey->ztJ,findNow->ztK,lookup->zuu,makeFunc->zvi,mapUpdate->ZI,typeAssert->zuv
open Go.Lib renaming byteCells->ztc,extract_eq->zyU,goFieldsP->ztM,indexByte->zsW,itoa->Zu,itoa_length_le->zyV,join->zsX,joinTail->zvj,parseIntB->ztN,parseIntB_bounds->zA3,spansFromP->zw1,strCells->zyY,trimSuffix->ztO
open List renaming append_toArray->zvW,intercalate->zvX,mem_of_getElem?->zw9,push_toArray->zvZ,setIfInBounds_toArray->ZR,set_cons_succ->ZT,set_cons_zero->ZU,size_toArray->zy3
open Go.MapKept renaming run_getObj_map->zy7
open Go.Result renaming andThen->zsZ
open Go.Result.ok renaming inj->zzs
open Subtype renaming val->zwe
open Go.Value renaming string->ztU
open Go.World renaming frozen?_of_block->zs0,rowIs_made->zzC
namespace Go.Proofs
open Go.Proofs.Tryz
open Go.Shelf
def Tryz.Vf:Go.Shelf.Ren:=⟨fun | 169=>63|n=>n,fun | 70=>102 | 9=>9 | 0=>0 | 72=>104 | 37=>37 | 127=>181 | 3=>3 | 5=>5|n=>n,fun|n=>n⟩
theorem Tryz.zid:zEa prog Tryz.Vf:={
 mixed:=kQ
 f169:=func63.trans (YC some kQ)
 t0:=underlying0
 a0:=isAgg0
 z0:=sizeOf0
 v0:=zeroValue0
 t3:=underlying3
 a3:=isAgg3
 z3:=sizeOf3
 v3:=zeroValue3
 t9:=underlying9
 a9:=isAgg9
 z9:=sizeOf9
 v9:=zeroValue9
 t37:=underlying37
 a37:=isAgg37
 z37:=sizeOf37
 v37:=zeroValue37
 t70:=underlying102
 a70:=isAgg102
 z70:=sizeOf102
 v70:=zeroValue102
 t72:=underlying104
 a72:=isAgg104
 z72:=sizeOf104
 v72:=zeroValue104
 t127:=underlying181
 a127:=isAgg181
 z127:=sizeOf181
 v127:=zeroValue181}
theorem Tryz.zie:zAx prog Tryz.Vf:={
 sizeBuilder:=kQ
 liesBuilder:=kQ
 t5:=underlying5
 a5:=isAgg5
 z5:=sizeOf5
 v5:=zeroValue5
 infoByte:=kQ
 cellsByte:=kQ
 sizeByte:=kQ
 neB5:=by decide}
def Tryz.Jq:Go.Shelf.Ren:=⟨fun | 156=>186 | 165=>209 | 166=>60 | 169=>63 | 240=>97 | 241=>223 | 276=>162 | 277=>232|n=>n,fun | 31=>70 | 9=>9 | 3=>3 | 4=>4 | 0=>0 | 20=>20 | 72=>104 | 76=>107 | 70=>102 | 37=>37 | 75=>54 | 127=>181 | 164=>184 | 5=>5 | 80=>110|n=>n,fun|n=>n⟩
theorem Tryz.Jr:zD9 prog Tryz.Jq:={
 mixed:=kQ
 f156:=func186.trans (YC some kQ)
 f165:=func209.trans (YC some kQ)
 f166:=func60.trans (YC some kQ)
 f169:=func63.trans (YC some kQ)
 f240:=func97.trans (YC some kQ)
 f241:=func223.trans (YC some kQ)
 f276:=func162.trans (YC some kQ)
 f277:=func232.trans (YC some kQ)
 t0:=underlying0
 a0:=isAgg0
 z0:=sizeOf0
 v0:=zeroValue0
 t3:=underlying3
 a3:=isAgg3
 z3:=sizeOf3
 v3:=zeroValue3
 t4:=underlying4
 a4:=isAgg4
 z4:=sizeOf4
 v4:=zeroValue4
 t9:=underlying9
 a9:=isAgg9
 z9:=sizeOf9
 v9:=zeroValue9
 t20:=underlying20
 a20:=isAgg20
 z20:=sizeOf20
 v20:=zeroValue20
 t31:=underlying70
 a31:=isAgg70
 z31:=sizeOf70
 v31:=zeroValue70
 t37:=underlying37
 a37:=isAgg37
 z37:=sizeOf37
 v37:=zeroValue37
 t70:=underlying102
 a70:=isAgg102
 z70:=sizeOf102
 v70:=zeroValue102
 t72:=underlying104
 a72:=isAgg104
 z72:=sizeOf104
 v72:=zeroValue104
 t75:=underlying54
 a75:=isAgg54
 z75:=sizeOf54
 v75:=zeroValue54
 t76:=underlying107
 a76:=isAgg107
 z76:=sizeOf107
 v76:=zeroValue107
 t127:=underlying181
 a127:=isAgg181
 z127:=sizeOf181
 v127:=zeroValue181
 t164:=underlying184
 a164:=isAgg184
 z164:=sizeOf184
 v164:=zeroValue184}
theorem Tryz.Ar:zAx prog Tryz.Jq:={
 sizeBuilder:=kQ
 liesBuilder:=kQ
 t5:=underlying5
 a5:=isAgg5
 z5:=sizeOf5
 v5:=zeroValue5
 infoByte:=kQ
 cellsByte:=kQ
 sizeByte:=kQ
 neB5:=by decide}
open Go.RowKit in
theorem Tryz.strings_Join_none(a:Option YQ)(c:Nat)(sep:ByteArray)(w:YM):
  YR prog 186 #[.slice a 0 c,.string sep] w fun e w'=>e=.returned (.string ⟨#[]⟩)/\w'=w:=Any.strings_Join_none Tryz.Jr Tryz.Ar a c sep w
open Go.RowKit in
theorem Tryz.strings_Join(bk o c:Nat)(xs:List ByteArray)(sep:ByteArray)(w:YM)(zif:∀(j:Nat) x,xs[j]?=some x->w.cell? (aQ bk (o+j))=some (.string x))(Au:bk<w.1.size)(hN:xs.length<=140737488355328)(fw:xs.length<=c)(cP:(zsX (xs.map (·.data.toList)) sep.data.toList).length<=140737488355328):
  YR prog 186 #[.slice (some (aQ bk o)) xs.length c,.string sep] w fun e w'=>e=.returned (.string ⟨(zsX (xs.map (·.data.toList)) sep.data.toList).toArray⟩)/\YO w.1.size w w':=Any.strings_Join Tryz.Jr Tryz.Ar bk o c xs sep w zif Au hN fw cP
def Tryz.zrr:Go.Shelf.Ren:=⟨fun | 214=>208|n=>n,fun | 4=>4 | 9=>9|n=>n,fun|n=>n⟩
def Tryz.zig:Go.Shelf.Ren:=⟨fun | 121=>185 | 214=>208|n=>n,fun | 4=>4 | 9=>9|n=>n,fun|n=>n⟩
theorem Tryz.zih:zD8 prog Tryz.zig:={
 mixed:=kQ
 f121:=func185.trans (YC some kQ)
 f214:=func208.trans (YC some kQ)
 t4:=underlying4
 a4:=isAgg4
 z4:=sizeOf4
 v4:=zeroValue4
 t9:=underlying9
 a9:=isAgg9
 z9:=sizeOf9
 v9:=zeroValue9}
open Go.RowKit in
theorem Tryz.strconv_FormatBool(b:Bool)(w:YM):
  YR prog 185 #[.bool b] w fun e w'=>e=.returned (.string ⟨(Lib.formatBool b).toArray⟩)/\w'=w:=Any.strconv_FormatBool Tryz.zih b w
open Go.RowKit in
theorem Tryz.Builder_String_any_k(B b:Nat)(l:List UInt8)(w:YM)(h:Lib.IsBuilderF 104 5 B b (ztc l) w)(iz:B<=w.1.size):
  YR prog 63 #[pQ b] w fun e w'=>e=.returned (.string ⟨l.toArray⟩)/\(Lib.IsBuilderF 104 5 B b (ztc l) w'/\YO B w w'/\Lib.OthersKept 5 (some b) w w'):=Any.Builder_String_any_k Tryz.zid Tryz.zie B b l w h iz
def Tryz.zrs:Go.Shelf.Ren:=⟨fun | 246=>181 | 283=>203 | 284=>204 | 285=>205 | 286=>206 | 129=>219 | 317=>218 | 318=>220 | 319=>221 | 320=>222 | 337=>177 | 338=>231|n=>n,fun | 2=>2 | 3=>3 | 9=>9 | 4=>4 | 171=>281 | 0=>0 | 53=>98 | 37=>37 | 5=>5 | 173=>283 | 212=>290 | 51=>81 | 20=>20 | 213=>291 | 46=>61 | 232=>276 | 233=>305|n=>n,fun | 17=>3 | 18=>1 | 19=>6|n=>n⟩
def Tryz.zrt:Go.Shelf.Ren:=⟨fun | 243=>142 | 246=>181 | 283=>203 | 284=>204 | 285=>205 | 286=>206 | 129=>219 | 317=>218 | 318=>220 | 319=>221 | 320=>222 | 337=>177 | 338=>231|n=>n,fun | 3=>3 | 9=>9 | 2=>2 | 4=>4 | 171=>281 | 0=>0 | 53=>98 | 37=>37 | 5=>5 | 173=>283 | 212=>290 | 51=>81 | 20=>20 | 213=>291 | 46=>61 | 232=>276 | 233=>305|n=>n,fun | 17=>3 | 18=>1 | 19=>6|n=>n⟩
def Tryz.zii:Go.Shelf.Ren:=⟨fun | 171=>91 | 243=>142 | 246=>181 | 283=>203 | 284=>204 | 285=>205 | 286=>206 | 129=>219 | 317=>218 | 318=>220 | 319=>221 | 320=>222 | 337=>177 | 338=>231|n=>n,fun | 3=>3 | 9=>9 | 2=>2 | 4=>4 | 171=>281 | 0=>0 | 53=>98 | 37=>37 | 5=>5 | 173=>283 | 212=>290 | 51=>81 | 20=>20 | 213=>291 | 46=>61 | 232=>276 | 233=>305|n=>n,fun | 17=>3 | 18=>1 | 19=>6|n=>n⟩
theorem Tryz.zij:zEe prog Tryz.zii:={
 mixed:=kQ
 f129:=func219.trans (YC some kQ)
 f171:=func91.trans (YC some kQ)
 f243:=func142.trans (YC some kQ)
 f246:=func181.trans (YC some kQ)
 f283:=func203.trans (YC some kQ)
 f284:=func204.trans (YC some kQ)
 f285:=func205.trans (YC some kQ)
 f286:=func206.trans (YC some kQ)
 f317:=func218.trans (YC some kQ)
 f318:=func220.trans (YC some kQ)
 f319:=func221.trans (YC some kQ)
 f320:=func222.trans (YC some kQ)
 f337:=func177.trans (YC some kQ)
 f338:=func231.trans (YC some kQ)
 t0:=underlying0
 a0:=isAgg0
 z0:=sizeOf0
 v0:=zeroValue0
 t2:=underlying2
 a2:=isAgg2
 z2:=sizeOf2
 v2:=zeroValue2
 t3:=underlying3
 a3:=isAgg3
 z3:=sizeOf3
 v3:=zeroValue3
 t4:=underlying4
 a4:=isAgg4
 z4:=sizeOf4
 v4:=zeroValue4
 t5:=underlying5
 a5:=isAgg5
 z5:=sizeOf5
 v5:=zeroValue5
 t9:=underlying9
 a9:=isAgg9
 z9:=sizeOf9
 v9:=zeroValue9
 t20:=underlying20
 a20:=isAgg20
 z20:=sizeOf20
 v20:=zeroValue20
 t37:=underlying37
 a37:=isAgg37
 z37:=sizeOf37
 v37:=zeroValue37
 t46:=underlying61
 a46:=isAgg61
 z46:=sizeOf61
 v46:=zeroValue61
 t51:=underlying81
 a51:=isAgg81
 z51:=sizeOf81
 v51:=zeroValue81
 t53:=underlying98
 a53:=isAgg98
 z53:=sizeOf98
 v53:=zeroValue98
 t171:=underlying281
 a171:=isAgg281
 z171:=sizeOf281
 v171:=zeroValue281
 t173:=underlying283
 a173:=isAgg283
 z173:=sizeOf283
 v173:=zeroValue283
 t212:=underlying290
 a212:=isAgg290
 z212:=sizeOf290
 v212:=zeroValue290
 t213:=underlying291
 a213:=isAgg291
 z213:=sizeOf291
 t232:=underlying276
 a232:=isAgg276
 z232:=sizeOf276
 v232:=zeroValue276
 t233:=underlying305
 a233:=isAgg305
 z233:=sizeOf305
 v233:=zeroValue305
 g17:=kQ
 g18:=kQ
 g19:=kQ
 i0:=kQ
 i2:=kQ
 i3:=kQ
 i4:=kQ
 i5:=kQ
 i9:=kQ
 i20:=kQ
 i37:=kQ
 i46:=kQ
 i51:=kQ
 i53:=kQ
 i171:=kQ
 i173:=kQ
 i212:=kQ
 i232:=kQ
 i233:=kQ
 m17:=kQ
 m18:=kQ
 m19:=by kernel_rfl}
open Go.RowKit Go.Sort Go.Lib in
theorem Tryz.strconv_Itoa(n:Int)(h0:-9223372036854775808<=n)(h1:n<=9223372036854775807)(w:YM)(NN:Lib.TabIs prog w "internal/strconv.uint64pow10" .u64 Lib.pow10Tab):
  YR prog 91 #[iQ n] w fun e w'=>e=.returned (.string ⟨(Zu n).toArray⟩)/\∃ k os,w'=grow (w.drewN k) os:=Any.strconv_Itoa Tryz.zij n h0 h1 w NN
def Tryz.zik:Go.Shelf.Ren:=⟨fun | 173=>190 | 246=>181 | 283=>203 | 284=>204 | 285=>205 | 286=>206 | 129=>219 | 317=>218 | 318=>220 | 319=>221 | 320=>222 | 337=>177 | 338=>231|n=>n,fun | 2=>2 | 3=>3 | 9=>9 | 4=>4 | 171=>281 | 0=>0 | 53=>98 | 37=>37 | 5=>5 | 173=>283 | 212=>290 | 51=>81 | 20=>20 | 213=>291 | 46=>61 | 232=>276 | 233=>305|n=>n,fun | 17=>3 | 18=>1 | 19=>6|n=>n⟩
theorem Tryz.zil:zEf prog Tryz.zik:={
 mixed:=kQ
 f129:=func219.trans (YC some kQ)
 f173:=func190.trans (YC some kQ)
 f246:=func181.trans (YC some kQ)
 f283:=func203.trans (YC some kQ)
 f284:=func204.trans (YC some kQ)
 f285:=func205.trans (YC some kQ)
 f286:=func206.trans (YC some kQ)
 f317:=func218.trans (YC some kQ)
 f318:=func220.trans (YC some kQ)
 f319:=func221.trans (YC some kQ)
 f320:=func222.trans (YC some kQ)
 f337:=func177.trans (YC some kQ)
 f338:=func231.trans (YC some kQ)
 t0:=underlying0
 a0:=isAgg0
 z0:=sizeOf0
 v0:=zeroValue0
 t2:=underlying2
 a2:=isAgg2
 z2:=sizeOf2
 v2:=zeroValue2
 t3:=underlying3
 a3:=isAgg3
 z3:=sizeOf3
 v3:=zeroValue3
 t4:=underlying4
 a4:=isAgg4
 z4:=sizeOf4
 v4:=zeroValue4
 t5:=underlying5
 a5:=isAgg5
 z5:=sizeOf5
 v5:=zeroValue5
 t9:=underlying9
 a9:=isAgg9
 z9:=sizeOf9
 v9:=zeroValue9
 t20:=underlying20
 a20:=isAgg20
 z20:=sizeOf20
 v20:=zeroValue20
 t37:=underlying37
 a37:=isAgg37
 z37:=sizeOf37
 v37:=zeroValue37
 t46:=underlying61
 a46:=isAgg61
 z46:=sizeOf61
 v46:=zeroValue61
 t51:=underlying81
 a51:=isAgg81
 z51:=sizeOf81
 v51:=zeroValue81
 t53:=underlying98
 a53:=isAgg98
 z53:=sizeOf98
 v53:=zeroValue98
 t171:=underlying281
 a171:=isAgg281
 z171:=sizeOf281
 v171:=zeroValue281
 t173:=underlying283
 a173:=isAgg283
 z173:=sizeOf283
 v173:=zeroValue283
 t212:=underlying290
 a212:=isAgg290
 z212:=sizeOf290
 v212:=zeroValue290
 t213:=underlying291
 a213:=isAgg291
 z213:=sizeOf291
 t232:=underlying276
 a232:=isAgg276
 z232:=sizeOf276
 v232:=zeroValue276
 t233:=underlying305
 a233:=isAgg305
 z233:=sizeOf305
 v233:=zeroValue305
 g17:=kQ
 g18:=kQ
 g19:=kQ
 i0:=kQ
 i2:=kQ
 i3:=kQ
 i4:=kQ
 i5:=kQ
 i9:=kQ
 i20:=kQ
 i37:=kQ
 i46:=kQ
 i51:=kQ
 i53:=kQ
 i171:=kQ
 i173:=kQ
 i212:=kQ
 i232:=kQ
 i233:=kQ
 m17:=kQ
 m18:=kQ
 m19:=by kernel_rfl}
open Go.RowKit Go.Sort Go.Lib in
theorem Tryz.strconv_FormatInt_10(n:Int)(h0:-9223372036854775808<=n)(h1:n<=9223372036854775807)(w:YM)(NN:Lib.TabIs prog w "internal/strconv.uint64pow10" .u64 Lib.pow10Tab):
  YR prog 190 #[iQ n,iQ 10] w fun e w'=>e=.returned (.string ⟨(Zu n).toArray⟩)/\∃ k os,w'=grow (w.drewN k) os:=Any.strconv_FormatInt_10 Tryz.zil n h0 h1 w NN
def Tryz.zru:Go.Shelf.Ren:=⟨fun | 245=>215 | 279=>227 | 280=>228 | 281=>229 | 282=>230 | 316=>235 | 171=>91 | 205=>236 | 243=>142 | 246=>181 | 283=>203 | 284=>204 | 285=>205 | 286=>206 | 129=>219 | 317=>218 | 318=>220 | 319=>221 | 320=>222 | 337=>177 | 338=>231|n=>n,fun | 9=>9 | 3=>3 | 75=>54 | 167=>294 | 4=>4 | 168=>297 | 210=>303 | 37=>37 | 0=>0 | 127=>181 | 145=>308 | 143=>306 | 2=>2 | 171=>281 | 53=>98 | 5=>5 | 173=>283 | 212=>290 | 51=>81 | 20=>20 | 213=>291 | 46=>61 | 232=>276 | 233=>305 | 80=>110|n=>n,fun | 15=>4 | 16=>5 | 17=>3 | 18=>1 | 19=>6|n=>n⟩
def Tryz.zim:Go.Shelf.Ren:=⟨fun | 174=>189 | 247=>214 | 245=>215 | 287=>226 | 279=>227 | 280=>228 | 281=>229 | 282=>230 | 321=>233 | 322=>234 | 316=>235 | 171=>91 | 205=>236 | 243=>142 | 246=>181 | 283=>203 | 284=>204 | 285=>205 | 286=>206 | 129=>219 | 317=>218 | 318=>220 | 319=>221 | 320=>222 | 337=>177 | 338=>231|n=>n,fun | 9=>9 | 3=>3 | 2=>2 | 75=>54 | 85=>268 | 4=>4 | 167=>294 | 5=>5 | 53=>98 | 175=>295 | 46=>61 | 168=>297 | 37=>37 | 0=>0 | 210=>303 | 21=>21 | 127=>181 | 145=>308 | 143=>306 | 171=>281 | 173=>283 | 212=>290 | 51=>81 | 20=>20 | 213=>291 | 232=>276 | 233=>305 | 80=>110|n=>n,fun | 15=>4 | 16=>5 | 17=>3 | 18=>1 | 19=>6|n=>n⟩
theorem Tryz.NP:zEd prog Tryz.zim:={
 mixed:=kQ
 f129:=func219.trans (YC some kQ)
 f171:=func91.trans (YC some kQ)
 f174:=func189.trans (YC some kQ)
 f205:=func236.trans (YC some kQ)
 f243:=func142.trans (YC some kQ)
 f245:=func215.trans (YC some kQ)
 f246:=func181.trans (YC some kQ)
 f247:=func214.trans (YC some kQ)
 f279:=func227.trans (YC some kQ)
 f280:=func228.trans (YC some kQ)
 f281:=func229.trans (YC some kQ)
 f282:=func230.trans (YC some kQ)
 f283:=func203.trans (YC some kQ)
 f284:=func204.trans (YC some kQ)
 f285:=func205.trans (YC some kQ)
 f286:=func206.trans (YC some kQ)
 f287:=func226.trans (YC some kQ)
 f316:=func235.trans (YC some kQ)
 f317:=func218.trans (YC some kQ)
 f318:=func220.trans (YC some kQ)
 f319:=func221.trans (YC some kQ)
 f320:=func222.trans (YC some kQ)
 f321:=func233.trans (YC some kQ)
 f322:=func234.trans (YC some kQ)
 f337:=func177.trans (YC some kQ)
 f338:=func231.trans (YC some kQ)
 t0:=underlying0
 a0:=isAgg0
 z0:=sizeOf0
 v0:=zeroValue0
 t2:=underlying2
 a2:=isAgg2
 z2:=sizeOf2
 v2:=zeroValue2
 t3:=underlying3
 a3:=isAgg3
 z3:=sizeOf3
 v3:=zeroValue3
 t4:=underlying4
 a4:=isAgg4
 z4:=sizeOf4
 v4:=zeroValue4
 t5:=underlying5
 a5:=isAgg5
 z5:=sizeOf5
 v5:=zeroValue5
 t9:=underlying9
 a9:=isAgg9
 z9:=sizeOf9
 v9:=zeroValue9
 t20:=underlying20
 a20:=isAgg20
 z20:=sizeOf20
 v20:=zeroValue20
 t21:=underlying21
 a21:=isAgg21
 z21:=sizeOf21
 v21:=zeroValue21
 t37:=underlying37
 a37:=isAgg37
 z37:=sizeOf37
 v37:=zeroValue37
 t46:=underlying61
 a46:=isAgg61
 z46:=sizeOf61
 v46:=zeroValue61
 t51:=underlying81
 a51:=isAgg81
 z51:=sizeOf81
 v51:=zeroValue81
 t53:=underlying98
 a53:=isAgg98
 z53:=sizeOf98
 v53:=zeroValue98
 t75:=underlying54
 a75:=isAgg54
 z75:=sizeOf54
 v75:=zeroValue54
 t85:=underlying268
 a85:=isAgg268
 z85:=sizeOf268
 v85:=zeroValue268
 t127:=underlying181
 a127:=isAgg181
 z127:=sizeOf181
 v127:=zeroValue181
 t143:=underlying306
 a143:=isAgg306
 z143:=sizeOf306
 v143:=zeroValue306
 t145:=underlying308
 a145:=isAgg308
 z145:=sizeOf308
 v145:=zeroValue308
 t167:=underlying294
 a167:=isAgg294
 z167:=sizeOf294
 v167:=zeroValue294
 t168:=underlying297
 a168:=isAgg297
 z168:=sizeOf297
 v168:=zeroValue297
 t171:=underlying281
 a171:=isAgg281
 z171:=sizeOf281
 v171:=zeroValue281
 t173:=underlying283
 a173:=isAgg283
 z173:=sizeOf283
 v173:=zeroValue283
 t175:=underlying295
 a175:=isAgg295
 z175:=sizeOf295
 v175:=zeroValue295
 t210:=underlying303
 a210:=isAgg303
 z210:=sizeOf303
 v210:=zeroValue303
 t212:=underlying290
 a212:=isAgg290
 z212:=sizeOf290
 v212:=zeroValue290
 t213:=underlying291
 a213:=isAgg291
 z213:=sizeOf291
 t232:=underlying276
 a232:=isAgg276
 z232:=sizeOf276
 v232:=zeroValue276
 t233:=underlying305
 a233:=isAgg305
 z233:=sizeOf305
 v233:=zeroValue305
 g15:=kQ
 g16:=kQ
 g17:=kQ
 g18:=kQ
 g19:=kQ
 t80:=underlying110
 a80:=isAgg110
 z80:=sizeOf110
 v80:=zeroValue110
 i0:=kQ
 i2:=kQ
 i3:=kQ
 i4:=kQ
 i5:=kQ
 i9:=kQ
 i20:=kQ
 i21:=kQ
 i37:=kQ
 i46:=kQ
 i51:=kQ
 i53:=kQ
 i75:=kQ
 i80:=kQ
 i85:=kQ
 i127:=kQ
 i143:=kQ
 i145:=kQ
 i167:=kQ
 i168:=kQ
 i171:=kQ
 i173:=kQ
 i175:=kQ
 i210:=kQ
 i212:=kQ
 i232:=kQ
 i233:=kQ
 m15:=kQ
 m16:=kQ
 m17:=kQ
 m18:=kQ
 m19:=kQ
 c0:=kQ
 c2:=kQ
 c3:=kQ
 c4:=kQ
 c5:=kQ
 c9:=kQ
 c20:=kQ
 c21:=kQ
 c37:=kQ
 c46:=kQ
 c51:=kQ
 c53:=kQ
 c75:=kQ
 c80:=kQ
 c85:=kQ
 c127:=kQ
 c143:=kQ
 c145:=kQ
 c167:=kQ
 c168:=kQ
 c171:=kQ
 c173:=kQ
 c175:=kQ
 c210:=kQ
 c212:=kQ
 c213:=kQ
 c232:=kQ
 c233:=by kernel_rfl}
open Go.RowKit in
theorem Tryz.strconv_ParseInt_10_at64_ok(s:ByteArray)(zin:s.size<=9223372036854775806)(v:Int)(h:ztN 64 s.data.toList=.ok v)(w:YM):
  YR prog 189 #[.string s,iQ 10,iQ 64] w fun e w'=>e=.returned (.tuple #[iQ v,.nilIface])/\(w'=w\/∃ t,w'=Lib.bytesWorld w 5 t):=Any.strconv_ParseInt_10_at64_ok Tryz.NP s zin v h w
open Go.RowKit in
theorem Tryz.strconv_ParseInt_10_at64_syntax_var(s:ByteArray)(NR:s.size<=281474976710656)(h:ztN 64 s.data.toList=.«syntax»)(tp:TypeId)(p:YN)(w:YM)(NS:w.var? prog "strconv.ErrSyntax" = some #[.iface tp p]):
  YR prog 189 #[.string s,iQ 10,iQ 64] w fun e w'=>∃ N,e=.returned (.tuple #[iQ (0),.iface 297 (pQ N)])/\w.1.size<=N/\w'.1[N]?=some (.cells #[.string ⟨#[80,97,114,115,101,73,110,116]⟩,.string s,.iface tp p] 303 (0,0))/\YO w.1.size w w':=Any.strconv_ParseInt_10_at64_syntax_var Tryz.NP s NR h tp p w NS
open Go.RowKit in
theorem Tryz.strconv_ParseInt_10_at64_range_var(s:ByteArray)(NR:s.size<=281474976710656)(h:ztN 64 s.data.toList=.range)(tp:TypeId)(p:YN)(w:YM)(NS:w.var? prog "strconv.ErrRange" = some #[.iface tp p]):
  YR prog 189 #[.string s,iQ 10,iQ 64] w fun e w'=>∃ N,e=.returned (.tuple #[iQ (Lib.intSat 64 s.data.toList),.iface 297 (pQ N)])/\w.1.size<=N/\w'.1[N]?=some (.cells #[.string ⟨#[80,97,114,115,101,73,110,116]⟩,.string s,.iface tp p] 303 (0,0))/\YO w.1.size w w':=Any.strconv_ParseInt_10_at64_range_var Tryz.NP s NR h tp p w NS
def Tryz.zio:Go.Shelf.Ren:=⟨fun | 219=>188 | 217=>210 | 225=>211 | 224=>212 | 267=>213 | 266=>224 | 314=>225|n=>n,fun | 9=>9 | 3=>3 | 4=>4 | 5=>5 | 46=>61 | 146=>292 | 51=>81|n=>n,fun | 1=>2|n=>n⟩
theorem Tryz.ziq:zEb prog Tryz.zio:={
 mixed:=kQ
 f217:=func210.trans (YC some kQ)
 f219:=func188.trans (YC some kQ)
 f224:=func212.trans (YC some kQ)
 f225:=func211.trans (YC some kQ)
 f266:=func224.trans (YC some kQ)
 f267:=func213.trans (YC some kQ)
 f314:=func225.trans (YC some kQ)
 t3:=underlying3
 a3:=isAgg3
 z3:=sizeOf3
 v3:=zeroValue3
 t4:=underlying4
 a4:=isAgg4
 z4:=sizeOf4
 v4:=zeroValue4
 t5:=underlying5
 a5:=isAgg5
 z5:=sizeOf5
 v5:=zeroValue5
 t9:=underlying9
 a9:=isAgg9
 z9:=sizeOf9
 v9:=zeroValue9
 t46:=underlying61
 a46:=isAgg61
 z46:=sizeOf61
 v46:=zeroValue61
 t51:=underlying81
 a51:=isAgg81
 z51:=sizeOf81
 v51:=zeroValue81
 t146:=underlying292
 a146:=isAgg292
 z146:=sizeOf292
 v146:=zeroValue292
 g1:=by kernel_rfl}
open Go.RowKit Go.Lib in
theorem Tryz.stringslite_Index_one(s:ByteArray)(c:UInt8)(w:YM):
  YR prog 188 #[.string s,.string ⟨#[c]⟩] w fun e w'=>e=.returned (iQ (zsW s.data.toList c))/\w'=w:=Any.stringslite_Index_one Tryz.ziq s c w
def Tryz.zrv:Go.Shelf.Ren:=⟨fun | 207=>187|n=>n,fun | 9=>9 | 4=>4 | 3=>3|n=>n,fun|n=>n⟩
def Tryz.zir:Go.Shelf.Ren:=⟨fun | 102=>95 | 209=>160 | 207=>187|n=>n,fun | 9=>9 | 4=>4 | 3=>3|n=>n,fun|n=>n⟩
theorem Tryz.zis:zD7 prog Tryz.zir:={
 mixed:=kQ
 f102:=func95.trans (YC some kQ)
 f207:=func187.trans (YC some kQ)
 f209:=func160.trans (YC some kQ)
 t3:=underlying3
 a3:=isAgg3
 z3:=sizeOf3
 v3:=zeroValue3
 t4:=underlying4
 a4:=isAgg4
 z4:=sizeOf4
 v4:=zeroValue4
 t9:=underlying9
 a9:=isAgg9
 z9:=sizeOf9
 v9:=zeroValue9}
open Go.RowKit Go.Lib in
theorem Tryz.strings_TrimSuffix(s p:ByteArray)(w:YM)(hs:s.size<=9223372036854775807):
  YR prog 95 #[.string s,.string p] w fun e w'=>e=.returned (.string ⟨(ztO s.data.toList p.data.toList).toArray⟩)/\w'=w:=Any.strings_TrimSuffix Tryz.zis s p w hs
def Tryz.zit:Go.Shelf.Ren:=⟨fun | 229=>99|n=>n,fun | 9=>9 | 40=>176 | 31=>70 | 152=>226 | 3=>3 | 0=>0 | 4=>4 | 21=>21 | 154=>228|n=>n,fun|n=>n⟩
theorem Tryz.ziu:zEc prog Tryz.zit:={
 mixed:=kQ
 f229:=func99.trans (YC some kQ)
 t0:=underlying0
 a0:=isAgg0
 z0:=sizeOf0
 v0:=zeroValue0
 t3:=underlying3
 a3:=isAgg3
 z3:=sizeOf3
 v3:=zeroValue3
 t4:=underlying4
 a4:=isAgg4
 z4:=sizeOf4
 v4:=zeroValue4
 t9:=underlying9
 a9:=isAgg9
 z9:=sizeOf9
 v9:=zeroValue9
 t21:=underlying21
 a21:=isAgg21
 z21:=sizeOf21
 v21:=zeroValue21
 t31:=underlying70
 a31:=isAgg70
 z31:=sizeOf70
 v31:=zeroValue70
 t40:=underlying176
 a40:=isAgg176
 z40:=sizeOf176
 v40:=zeroValue176
 t152:=underlying226
 a152:=isAgg226
 z152:=sizeOf226
 v152:=zeroValue226
 t154:=underlying228
 a154:=isAgg228
 z154:=sizeOf228
 v154:=zeroValue228}
open Go.RowKit Go.Lib in
theorem Tryz.strings_FieldsFunc(g:Nat)(lb:Array YN)(eg:∀ args w,(callFunc g args).run prog w=.ok (.enter g args) w)(p:Nat->Bool)(s:ByteArray)(w:YM)(hs:s.size<=4294967296)(hp:PredAt prog g lb encR p w):
  YR prog 99 #[.string s,.func (.func g) #[] lb] w fun e w'=>∃ A,e=.returned (.slice (some (aQ A 0)) (ztM p s).length (ztM p s).length)/\w.1.size<=A/\
   w'.ownsRow w.1.size 9 1 (.slice (some (aQ A 0)) (ztM p s).length (ztM p s).length) (ztM p s).length ((ztM p s).map ztU)/\YO w.1.size w w':=Any.strings_FieldsFunc Tryz.ziu g lb eg p s w hs hp kQ kQ
end Go.Proofs
namespace Go.Proofs.YtaablbmgagiajabGreatDoor
open Go.Proofs.Tryz
open Go.RowKit Go.Deep Go.Sort
variable{M N b d k m n:Nat}{P:Program}{a:YQ}{cs:Array YN}{es:List (List UInt8×YN)}{l s:List UInt8}{v v':YN}{w w' wx:YM}{xs:List (List UInt8)}
abbrev txt(l:List UInt8):ByteArray:=⟨l.toArray⟩
theorem NZ(a b:List UInt8):txt a++txt b=txt (a++b):=by
 apply ByteArray.ext;simp[txt,ByteArray.data_append]
theorem ziT(l:List UInt8):(txt l).data.toList=l:=rfl
theorem yo(l:List UInt8):(txt l).size=l.length:=rfl
theorem Vs(w:YM)(k:Nat)(os:Array Obj):YO w.1.size w (grow (w.drewN k) os):=
 ⟨rfl,rfl,rfl,by simp[grow],fun i hi=>by
  show(w.1++os)[i]?=w.1[i]?;rw[Array.getElem?_append_left hi]⟩
theorem N0{n:String}{g:Nat}(hg:prog.globalNamed n=some g)(h:w.var? prog n=some cs)(hB:YO w.1.size w w'):w'.var? prog n=some cs:=by
 unfold World.var? at h⊢;rw[hg]at h⊢;simp only[zsz]at h⊢;cases hh:w.1[g]? with
 |none=>rw[hh]at h;cases h
 |some o=>rw[hB.block g (XY.1 hh).1];exact h
def ml(w:YM):Prop:=Lib.TabIs prog w "internal/strconv.uint64pow10" .u64 Lib.pow10Tab
theorem CG:prog.globalNamed "internal/strconv.uint64pow10" = some 3:=kQ
theorem ml.below(h:ml w)(hB:YO w.1.size w w'):ml w':=N0 CG h hB
def dc(z:Int):Prop:=-9223372036854775808<=z/\z<=9223372036854775807
def fY(l:List Int):List UInt8:=zsX (l.map Zu) [32]
def gN(n:Int):List UInt8:=[101,114,114,111,114,32]++Zu n
theorem Vt(z:Int)(w:YM)(hz:dc z)(hp:ml w):
  YR prog 91 #[iQ z] w (bQ (.string (txt (Zu z))) w):=by
 refine(Tryz.strconv_Itoa z hz.1 hz.2 w hp).mono ?_;rintro e w' ⟨he,k,os,rfl⟩;exact⟨he,Vs w k os⟩
theorem ziU(z:Int)(w:YM)(hz:dc z)(hp:ml w):
  YR prog 57 #[iQ z] w (bQ (.string (txt (gN z))) w):=by
 have HI:=ae (Vt z w hz hp);have hl:=zyV z hz.1 hz.2;have hni:¬ 9223372036854775807<6+(Zu z).length:=oQ;clear hp;go_enter func57,ntmps57;go_wp2_with (go_at_call 91;refine HI.o.mono ?_;rintro e w1 ⟨rfl,hB⟩)
 go_ret;exact⟨by rw[show gN z=[101,114,114,111,114,32]++Zu z from rfl,<-NZ];rfl,hB⟩
def FY(l:List Int)(k j:Nat):YN:=if j<k then .string (txt (Zu (l[j]?.getD 0)))else .string ⟨#[]⟩
structure wR(w wr:YM)(M n:Nat)(l:List Int)(k:Nat):Prop where
 old:YO w.1.size w wr
 row:wr.rowIs M 9 n (FY l k)
theorem wR.put{wr:YM}{l:List Int}(h:wR w wr M n l k)(hM:w.1.size<=M):wR w (wr.setCell (aQ M k) (.string (txt (Zu (l[k]?.getD 0))))) M n l (k+1):=by
 refine⟨h.old.setCell hM _,(h.row.set k _).congr fun j _=>?_⟩;unfold FY;by_cases e:j=k
 ·subst e;rw[YH rfl,YH oQ]
 ·rw[YG e];by_cases e2:j<k
  ·rw[YH e2,YH oQ]
  ·rw[YG e2,YG oQ]
theorem wR.below{wr:YM}{l:List Int}(h:wR w wr M n l k)(hB:YO wr.1.size wr wx):wR w wx M n l k:=
 ⟨h.old.trans (hB.mono h.old.size),h.row.of_block (hB.block _ h.row.lt)⟩
theorem ziV:(prog.info? 9).map (fun i=>(i.zero,i.size,i.bytes))=some (some (.string ⟨#[]⟩),1,16):=kQ
theorem Ax:∀(l:List Int),(∀ z∈l,dc z)->(fY l).length<=22*l.length
 |[],_=>by simp[fY,zsX,zvX]
 |z::r,h=>by
  have hz:=zyV z (h z sQ).1 (h z sQ).2;have ih:=Ax r fun y hy=>h y (by simp[hy])
  unfold fY at ih⊢;rw[Yi];cases r with
  |nil=>simp[zsX,zvX];omega
  |cons y r=>
   rw[Lib.join_cons];rw[Yi,Lib.join_cons]at ih;rw[Yi];have e:zvj [32] (Zu y::List.map Zu r)=[32]++(Zu y++zvj [32] (List.map Zu r)):=by simp[zvj]
   rw[e];simp only[Yf,Yg,zsi]at ih⊢;omega
theorem CH(l:List Int)(a:Option YQ)(n cap:Nat)(w:YM)(hs:kx w a n cap l)(hl:∀ z∈l,dc z)(hn:n<=20000)(hp:ml w):
  YR prog 182 #[.slice a n cap] w (bQ (.string (txt (fY l))) w):=by
 obtain⟨h1,h2,h3⟩:=hs;have wh:=run_make_row' (P:=prog) 70 9 (.string ⟨#[]⟩) 16 underlying70 ziV rfl .i64 .i64 n oQ oQ;have jD:Hid (wR w (w.alloc (.cells (madeCells #[.string ⟨#[]⟩] n) 9)) w.1.size n l 0):=ae ⟨(YS _ _).alloc lQ _,(zzC w _ _ _).congr fun k _=>by unfold FY;rw[YG oQ]⟩;have HP:=ae hp;have HL:=ae hl;have H3:=ae h3;clear hp hl h3;go_enter func182,ntmps182;go_wp2
 clear wh;obtain⟨M,hM⟩:∃ M,Hid (w.1.size=M):=eQ;rw[hM.o]at jD⊢;go_loopw [11] (fun i wr=>∃ k:Nat,k<=n/\i=iQ k/\wR w wr M n l k) (fun i _=>n-(intOf i).toNat)
 case atStart=>exact⟨0,Yw _,rfl,jD.o⟩
 case round=>
  clear jD;obtain⟨k,hk,rfl,hI⟩:=hrel;by_cases aj:k<n
  ·have gO:k<l.length:=oQ;obtain⟨b,off,rfl,hb,hr⟩:∃ b off,a=some (aQ b off)/\b<w.1.size/\Row w b off l:=by
    rcases H3.o with e|e
    ·rw[e]at gO;simp at gO
    ·exact e
   obtain⟨z,hz,iV⟩:=Row.at (hr.below hb hI.old) gO;have Vu:dc z:=by
    rw[<-hz.o,Yc gO];exact HL.o _ (zsf gO)
   have HC:Hid (YR prog 91 #[iQ z] wr fun e w'=>e=.returned (.string (txt (Zu z)))/\(w'.cell? (aQ M k)=some (.string ⟨#[]⟩)/\w'.frozen? (aQ M k)=false)/\Hid (wR w (w'.setCell (aQ M k) (.string (txt (Zu z)))) M n l (k+1))):=ae (by
    refine(Vt z wr Vu (HP.o.below hI.old)).mono ?_;rintro e w' ⟨he,hB⟩;have gD:=hI.below hB;refine⟨he,⟨?_,gD.row.frozen k⟩,ae ?_⟩
    ·rw[gD.row.cell aj];unfold FY;rw[YG oQ]
    ·have:=gD.put (by rw[hM.o];exact Yp _);rw[hz.o]at this;exact this)
   clear hI Vu hr;go_wp2_with (go_at_call 91;refine HC.o.mono ?_;rintro e w1 ⟨rfl,⟨g0,g1⟩,HG⟩)
   go_roundw
   case rel=>exact⟨k+1,oQ,by go_num,HG.o⟩
   case measure=>simp[intOf];omega
  ·have ek:k=n:=oQ;subst ek;have qL:∀(j:Nat) x,(l.map fun z=>txt (Zu z))[j]?=some x->wr.cell? (aQ M (0+j))=some (.string x):=fun j x hx=>by
    rw[zsd]at hx;obtain⟨z,bf,rfl⟩:=Yx.1 hx;have hj:=(Ye.1 bf).1;rw[Yv,hI.row.cell oQ];unfold FY;rw[YH oQ,bf];rfl
   have Ei:zsX ((l.map fun z=>txt (Zu z)).map (·.data.toList)) [32]=fY l:=by
    unfold fY;rw[List.map_map];rfl
   have HJ:Hid (YR prog 186 #[.slice (some (aQ M 0)) k k,.string ⟨#[32]⟩] wr fun e w'=>e=.returned (.string (txt (fY l)))/\YO wr.1.size wr w'):=ae (by
    have hlm:(l.map fun z=>txt (Zu z)).length=k:=by rw[Yh];exact h1
    have hj:=Tryz.strings_Join M 0 k (l.map fun z=>txt (Zu z)) ⟨#[32]⟩ wr qL hI.row.lt oQ oQ (by
     show(zsX _ [32]).length<=_;rw[Ei];have:=Ax l HL.o;omega)
    rw[hlm]at hj;show YR _ _ _ _ fun e w'=>e=.returned (.string (txt (fY l)))/\_
    rw[<-Ei];exact hj)
   have HO:=ae hI.old;clear hI qL Ei;go_wp2_with (go_at_call 186;refine HJ.o.mono ?_;rintro e w1 ⟨rfl,aG⟩)
   go_ret;exact⟨rfl,HO.o.trans (aG.mono HO.o.size)⟩
theorem zju(w:YM)(base:Nat)(t u ty e:TypeId)(i:TypeInfo)(ht:P.underlying t=some (.slice e))(hu:P.underlying u=some .string)(hi:P.info? e=some i)(hz:i.zero=some (.int .u8 0))(zb6:i.size=1)(hby:i.bytes=1)
  (v:YN) (n:Nat) (xs:List YN) (bC:w.ownsRow base e 1 v n xs) (s:ByteArray) (hl:n+s.size<=1000000000)   (hr:(Builtin.append_ #[t,u] ty #[v,.string s]).run P w=.ok v' w') (h0:v=.slice none 0 0->s.size=0->v'=.slice none 0 0):
  v'.ownBlock=v.ownBlock\/v'.ownBlock=some w.1.size:=by
 have JD:xs.length=n:=by simpa using bC.1
 rcases bC.2 with ⟨rfl,rfl⟩|⟨g,cap,bA,rfl,Rc,hg,Oq,Ed,eX,zrw⟩
 ·by_cases hm:s.size=0
  ·rw[h0 rfl hm];exact .inl rfl
  ·have h2:=run_append_nil_string (P:=P) w t u ty e i (.int .u8 0) ht hu hi hz s oQ oQ (by rw[hby];omega);rw[h2]at hr;obtain⟨rfl,_⟩:=zzs hr;exact .inr rfl
 ·by_cases zrc:n+s.size<=cap
  ·have zrx:bA.size=cap:=by simpa using eX
   have h2:=Lib.run_append_room_string (P:=P) w t u ty e i ht hu hi zb6 g n cap bA hg s zrc oQ;rw[h2]at hr;obtain⟨rfl,_⟩:=zzs hr;exact .inl rfl
  ·have holds:∀ j u,xs[j]?=some u->w.cell? (((aQ g 0):YQ).add j)=some u:=bC.cells (g:=g) rfl;have h2:=Lib.run_append_grow_string (P:=P) w t u ty e i (.int .u8 0) ht hu hi hz (aQ g 0) n cap xs (by rw[zb6];simpa using JD) holds s oQ oQ (by rw[hby];exact growslice_fits oQ oQ);rw[h2]at hr;obtain⟨rfl,_⟩:=zzs hr;exact .inr rfl
theorem zjv{au:Array Oper}{rest:List Oper}{o:Oper}{a:Act}{Q:Exit->Act->YM->Prop}(gq:o.guard=none)(sl x:Operand)(ho:o.op=.call {callee:=.builtin .append,args:=#[sl,x],argTypes:=#[37,9]})
  (base:Nat) (v:YN) (n:Nat) (xs:List YN) (hs:a.eval sl=v) (bC:w.ownsRow base 5 1 v n xs) (s:ByteArray) (hx:a.eval x=.string s) (hl:n+s.size<=1000000000) (zrd:base<=w.1.size)
  (h:∀ v' w',w'.ownsRow base 5 1 v' (n+s.size) (xs++zyY s)->w.grownBy w' v.ownBlock->(v'.ownBlock=v.ownBlock\/v'.ownBlock=some w.1.size)->wpList prog au Q rest (a.put o.dst v') w'):wpList prog au Q (o::rest) a w:=by
 obtain⟨i0,hi,cQ,bf,bK⟩:=ZM Tryz.Ar.infoByte;refine wpList_plain gq fun K hK=>?_
 obtain⟨v',w',hr,h2,h3,h4⟩:=Lib.run_append_own_string (P:=prog) w base 37 9 o.type 5 i0 underlying37 underlying9 hi cQ bf bK v n xs bC s (by unfold maxLen;omega) oQ zrd;have h5:=zju w base 37 9 o.type 5 i0 underlying37 underlying9 hi cQ bf bK v n xs bC s hl hr (fun e1 e2=>h4.2 ⟨e1,e2⟩);unfold Oper.wp execOp;simp only[ho,resolve,invoke,builtin,Sem.run_bind,Sem.run_pure,Result.andThen_ok,Yk,Yi,Yj,hs,hx,hr];exact hK _ _ (h v' w' h2 h3 h5)
structure jd(w:YM)(N b:Nat)(v:YN)(l:List UInt8):Prop where
 ge:N<=b
 blk:∃ p,(p=.pointer none\/p=pQ b)/\w.1[b]?=some (.cells #[p,v] 104 (0,0))
 row:w.ownsRow N 5 1 v l.length (ztc l)
 ne:v.ownBlock≠some b
def sL(b:Nat)(v:YN)(k:Nat):Prop:=k=b\/v.ownBlock=some k
def AA(w w':YM)(N b:Nat)(v:YN)(l:List UInt8):Prop:=∃ v',jd w' N b v' l/\Mod w w' (sL b v)/\kz w v v'
theorem jd.lt(h:jd w N b v l):b<w.1.size:=by
 obtain⟨p,_,hb⟩:=h.blk;exact bp hb
theorem jd.mod(h:jd w N b v l){T:Nat->Prop}(hm:Mod w w' T)(hT:∀ k,sL b v k->¬T k):jd w' N b v l:=by
 obtain⟨p,hp,hb⟩:=h.blk;refine⟨h.ge,⟨p,hp,(hm.block b h.lt (hT b (.inl rfl))).trans hb⟩,⟨h.row.1,?_⟩,h.ne⟩;rcases h.row.2 with h2|⟨g,cap,bA,e,h3,hc,h5⟩
 ·exact .inl h2
 ·exact .inr ⟨g,cap,bA,e,h3,(hm.block g (bp hc) (hT g (.inr (by rw[e];rfl)))).trans hc,h5⟩
theorem jd.below(h:jd w N b v l)(hB:YO w.1.size w w'):jd w' N b v l:=h.mod (Mod.fB hB (fun _=>False)) (fun _ _ x=>x)
theorem jd.new(w:YM):jd (w.alloc (.cells #[.pointer none,.slice none 0 0] 104)) w.1.size w.1.size (.slice none 0 0) []:=
 ⟨Nat.le_refl _,⟨_,.inl rfl,aU _ _⟩,World.ownsRow_nil _ _ _ _,by simp[Value.ownBlock]⟩
theorem VT(N b:Nat)(v:YN)(l:List UInt8)(w:YM)(h:jd w N b v l):
  YR prog 97 #[pQ b] w fun e w'=>e=.returned (.tuple #[])/\w'.1[b]?=some (.cells #[pQ b,v] 104 (0,0))/\jd w' N b v l/\Mod w w' (sL b v):=by
 obtain⟨p,hp,hb⟩:=h.blk;rcases hp with rfl|rfl
 ·refine(Any.Builder_copyCheck_fresh (P:=prog) (ρ:=Tryz.Jq) {Tryz.Jr with} Tryz.Ar.toX72 b w ((ay hb 0).trans rfl) ?_ (fL hb 0)).mono ?_
  ·simp[World.shape?,hb];rfl
  ·rintro e w' ⟨he,rfl⟩;have gH:=fZ hb 0 (pQ b);have hm:Mod w (w.setCell (aQ b 0) (pQ b)) (· = b):=(Mod.refl _ _).set _ _ (fun _=>rfl);refine⟨he,gH,⟨h.ge,⟨_,.inr rfl,gH⟩,⟨h.row.1,?_⟩,h.ne⟩,hm.mono fun k _ e=>.inl e⟩;rcases h.row.2 with h2|⟨g,cap,bA,e,h3,hc,h5⟩
   ·exact .inl h2
   ·refine .inr ⟨g,cap,bA,e,h3,(hm.block g (bp hc) fun x=>h.ne (by rw[e,<-x];rfl)).trans hc,h5⟩
 ·refine(Any.Builder_copyCheck_used (P:=prog) (ρ:=Tryz.Jq) {Tryz.Jr with} Tryz.Ar.toX72 b w ((ay hb 0).trans rfl)).mono ?_;rintro e w' ⟨he,rfl⟩;exact⟨he,hb,h,Mod.refl _ _⟩
theorem jd.put{w1 w2:YM}{l':List UInt8}(h:jd w1 N b v l)(hm:Mod w w1 (sL b v))(bo:w2.1[b]?=some (.cells #[pQ b,v] 104 (0,0)))(hg:w1.grownBy w2 v.ownBlock)(eM:v'.ownBlock=v.ownBlock\/v'.ownBlock=some w1.1.size)(bC:w2.ownsRow N 5 1 v' l'.length (ztc l')):
  AA w (w2.setCell (aQ b 1) v') N b v l':=by
 have aW:v'.ownBlock≠some b:=by
  rcases eM with e|e
  ·rw[e];exact h.ne
  ·rw[e];intro x;have:=h.lt;have:=Yz x;omega
 have aK:Mod w w2 (sL b v):=hm.grown hg fun k _ e=>.inr e
 have gu:Mod w2 (w2.setCell (aQ b 1) v') (· = b):=(Mod.refl _ _).set _ _ (fun _=>rfl);refine⟨v',⟨h.ge,⟨_,.inr rfl,fZ bo 1 v'⟩,⟨bC.1,?_⟩,aW⟩,aK.then gu fun _ _ e=>.inl e,fun g fI=>?_⟩
 ·rcases bC.2 with h2|⟨g,cap,bA,e,h3,hc,h5⟩
  ·exact .inl h2
  ·exact .inr ⟨g,cap,bA,e,h3,(gu.block g (bp hc) fun x=>aW (by rw[e,<-x];rfl)).trans hc,h5⟩
 ·rcases eM with e|e
  ·rw[e]at fI;exact .inl fI
  ·rw[e]at fI;have:=Yz fI;have:=hm.size;exact .inr oQ
theorem zjw(N b:Nat)(v:YN)(l s:List UInt8)(w:YM)(h:jd w N b v l)(hN:N<=w.1.size)(hl:l.length+s.length<=100000000):
  YR prog 60 #[pQ b,.string (txt s)] w fun e w'=>(∃ x,e=.returned x)/\AA w w' N b v (l++s):=by
 obtain⟨i0,hi,cQ,bf,bK⟩:=ZM Tryz.Ar.infoByte;have HC:=ae (VT N b v l w h);clear h;go_enter func60,ntmps60;go_wp2_with (go_at_call 97;refine HC.o.mono ?_;rintro e w1 ⟨rfl,aX,j9,cG⟩;refine Hid.o ?_)
 refine ae ?_;have c0:w1.cell? (aQ b 0)=some (pQ b):=(ay aX 0).trans rfl;have c1:w1.cell? (aQ b 1)=some v:=(ay aX 1).trans rfl;have dN:=ae aX;have iC:=ae j9;have oW:=ae cG;have jQ:=cG.size;clear aX j9 cG HC;go_wp2_with (at_builtin;refine zjv rfl _ _ rfl N v l.length _ rfl iC.o.row (txt s) rfl ?c4 ?c5 ?_)
 case c4=>rw[yo];omega
 case c5=>omega
 intro v' w2 Ee bL eM;have aj:b<w1.1.size:=iC.o.lt;have bo:w2.1[b]?=some (.cells #[pQ b,v] 104 (0,0)):=(bL.block b aj (fun e=>iC.o.ne e.symm)).trans dN.o;have d1:w2.cell? (aQ b 1)=some v:=(ay bo 1).trans rfl;have f1:w2.frozen? (aQ b 1)=false:=fL bo 1;have yx:Hid (AA w (w2.setCell (aQ b 1) v') N b v (l++s)):=ae (jd.put iC.o oW.o bo bL eM (by
  rw[Yf];have e:ztc (l++s)=ztc l++zyY (txt s):=by simp[ztc,zyY]
  rw[e];exact Ee))
 obtain⟨ao,n',cap,rfl⟩:∃ ao n' cap,v'=.slice ao n' cap:=by
  rcases Ee.2 with ⟨hv,_⟩|⟨g,cap,bA,hv,_⟩
  ·exact⟨_,_,_,hv⟩
  ·exact⟨_,_,_,hv⟩
 clear Ee bL bo eM;go_wp2
 go_ret2
 exact⟨⟨_,rfl⟩,yx.o⟩
theorem zjx(N b:Nat)(v:YN)(l:List UInt8)(c:UInt8)(w:YM)(h:jd w N b v l)(hN:N<=w.1.size)(hl:l.length<=100000000):
  YR prog 62 #[pQ b,.int .u8 (c.toNat:Int)] w fun e w'=>(∃ x,e=.returned x)/\AA w w' N b v (l++[c]):=by
 obtain⟨i0,hi,cQ,bf,bK⟩:=ZM Tryz.Ar.infoByte;have HC:=ae (VT N b v l w h);clear h;go_enter func62,ntmps62;go_wp2_with (go_at_call 97;refine HC.o.mono ?_;rintro e w1 ⟨rfl,aX,j9,cG⟩;refine Hid.o ?_)
 refine ae ?_;have c0:w1.cell? (aQ b 0)=some (pQ b):=(ay aX 0).trans rfl;have c1:w1.cell? (aQ b 1)=some v:=(ay aX 1).trans rfl;have dN:=ae aX;have iC:=ae j9;have oW:=ae cG;have jQ:=cG.size;clear aX j9 cG HC;go_wp2_with (at_builtin;refine wpList_append_lies _ rfl _ _ 37 rfl N 5 i0 (.int .u8 0) 1 1 underlying37 hi cQ bf bK rfl dQ v l.length _ rfl (iC.o.row.alloc _) (aQ w1.1.size 0) 1 1 [.int .u8 (c.toNat:Int)] rfl rfl ?c1 ?c2 dQ ?c3 ?c4 ?c5 _ rfl ?_)
 case c1=>
  intro j u hj;match j,hj with
  | 0,hj=>simp at hj;subst hj;simp[ZX]
 case c2=>intro u hu;simp at hu;subst hu;rfl
 case c3=>unfold maxLen;omega
 case c4=>omega
 case c5=>simp;omega
 intro g cap w2 Ee bL eM _;have aj:b<w1.1.size:=iC.o.lt;obtain⟨W,hW⟩:∃ W,Hid (w1.alloc (.cells #[.int .u8 (c.toNat:Int)] 5)=W):=eQ;rw[hW.o]at bL;have F9:W.1.size=w1.1.size+1:=by rw[<-hW.o];simp
 rw[<-F9]at eM;have dI:YO w1.1.size w1 W:=by rw[<-hW.o];exact(YS _ _).alloc lQ _
 have Ot:W.1[b]?=some (.cells #[pQ b,v] 104 (0,0)):=(dI.block b aj).trans dN.o;have bo:w2.1[b]?=some (.cells #[pQ b,v] 104 (0,0)):=(bL.block b (bp Ot) (fun e=>iC.o.ne e.symm)).trans Ot;have d1:w2.cell? (aQ b 1)=some v:=(ay bo 1).trans rfl;have f1:w2.frozen? (aQ b 1)=false:=fL bo 1;have yx:Hid (AA w (w2.setCell (aQ b 1) (.slice (some (aQ g 0)) (l.length+1) cap)) N b v (l++[c])):=ae (jd.put (iC.o.below dI) (oW.o.below dI) bo bL (by
  rcases eM with e|e
  ·exact .inl e.symm
  ·exact .inr (by rw[<-e];rfl)) (by
  have e:ztc (l++[c])=ztc l++[.int .u8 (c.toNat:Int)]:=by simp[ztc]
  rw[e,Yf];exact Ee))
 clear Ee bL bo eM hW dI Ot F9;go_wp2
 go_ret;exact⟨⟨_,rfl⟩,yx.o⟩
theorem zjy(N b:Nat)(v:YN)(l:List UInt8)(w:YM)(h:jd w N b v l)(hN:N<=w.1.size):
  YR prog 63 #[pQ b] w fun e w'=>e=.returned (.string (txt l))/\YO N w w'/\∀(k:Nat)(ds:Option (List Deferred)),w.1[k]?=some (Obj.deferred ds)->w'.1[k]?=some (Obj.deferred ds):=by
 have hF:Lib.IsBuilderF 104 5 N b (ztc l) w:=by
  obtain⟨p,hp,hb⟩:=h.blk;have eM:Lib.BuilderAtF 104 5 N b p (ztc l) w:=⟨h.ge,v,hb,World.ownsRowF_of (by rw[Lib.byteCells_length];exact h.row),h.ne⟩;rcases hp with rfl|rfl
  ·exact .inl eM
  ·exact .inr eM
 refine(Tryz.Builder_String_any_k N b l w hF hN).mono ?_;rintro e w' ⟨he,_,hB,hO⟩;refine⟨he,hB,fun k ds hk=>?_⟩;obtain⟨p,_,hb⟩:=h.blk;exact hO k _ hk (fun e=>by cases e;rw[hb]at hk;cases hk) (fun _ _ e=>by cases e)
open Go.Shelf
def je:List UInt8->List (List UInt8)
 |[]=>[[]]
 |c::l=>if c=10 then []::je l else(c::(je l).headD [])::(je l).tail
theorem zjz(l:List UInt8):je l≠[]:=by
 cases l with
 |nil=>simp[je]
 |cons c l=>unfold je;split<;>simp
theorem JE:∀(l:List UInt8),(zsW l 10=-1/\je l=[l])\/∃ i:Nat,zsW l 10=(i:Int)/\i<l.length/\je l=l.take i::je (l.drop (i+1))
 |[]=>.inl ⟨rfl,rfl⟩
 |c::l=>by
  by_cases hc:c=10
  ·subst hc;exact .inr ⟨0,by simp[zsW],sQ,by simp[je]⟩
  ·have hcb:(c==10)=false:=by simpa using hc
   rcases JE l with ⟨h1,h2⟩|⟨i,h1,h2,h3⟩
   ·exact .inl ⟨by simp[zsW,hcb,h1],by simp[je,hc,h2]⟩
   ·refine .inr ⟨i+1,?_,by simp;exact h2,?_⟩
    ·have hn:((i:Int) == -1)=false:=sQ;simp[zsW,hcb,h1,hn]
    ·simp[je,hc,h3]
def jf(t:List UInt8):List (List UInt8):=je (ztO t [10])
theorem zjA(l:List UInt8)(i:Nat):(txt l).extract 0 i=txt (l.take i):=by
 rw[zyU];simp[txt]
theorem zjB(l:List UInt8)(i:Nat):(txt l).extract i (txt l).size=txt (l.drop i):=by
 rw[zyU];simp only[yo];rw[zsp sQ]
theorem zjC(l:List UInt8)(w:YM)(hl:l.length<4294967281):
    YR prog 161 #[.string (txt l), .string ⟨#[10]⟩] w fun e w' => (∃ k, w' = w.drewN k) ∧
      ((zsW l 10 = -1 ∧ e = .returned (.tuple #[.string (txt l), .string ⟨#[]⟩, .bool false])) ∨ ∃ i : Nat, zsW l 10 = (i : Int) ∧ e = .returned (.tuple #[.string (txt (l.take i)), .string (txt (l.drop (i + 1))), .bool true])) := by
  rcases JE l with ⟨hx, _⟩ | ⟨i, hx, hi, _⟩
  · go_enter func161, ntmps161
    go_wp2_with (go_at_call 188; refine (Tryz.stringslite_Index_one (txt l) 10 _).mono ?_; rintro e w' ⟨rfl, rfl⟩; rw [ziT, hx])
    go_ret3
    exact ⟨⟨0, rfl⟩, .inl ⟨hx, rfl⟩⟩
  · have hs : (txt l).size = l.length := rfl
    have c1 : (0 : Int) ≤ ↑i := oQ
    have c2 : (↑i : Int) ≤ ↑(txt l).size := oQ
    have c3 : (0 : Int) ≤ ↑i + 1 := oQ
    have c4 : (↑i + 1 : Int) ≤ ↑(txt l).size := oQ
    have e1 := zjA l i
    have e2 := zjB l (i + 1)
    clear hs
    generalize hT : txt l = T at c2 c4 e1 e2 ⊢
    have gW : zsW T.data.toList 10 = (i : Int) := by rw [← hT]; exact hx
    go_enter func161, ntmps161
    go_wp2_with (go_at_call 188; refine (Tryz.stringslite_Index_one T 10 _).mono ?_; rintro e w' ⟨rfl, rfl⟩; rw [gW])
    have E1 := ae e1
    have E2 := ae e2
    clear e1 e2
    go_region
    go_wp2
    go_ret3
    exact ⟨⟨1, rfl⟩, .inr ⟨i, hx, by rw [← E1.out, ← E2.out]; rfl⟩⟩
theorem zjD(l:List UInt8)(w:YM)(hl:l.length<4294967281):
    YR prog 96 #[.string (txt l), .string ⟨#[10]⟩] w fun e w' => (∃ k, w' = w.drewN k) ∧
      ((zsW l 10 = -1 ∧ e = .returned (.tuple #[.string (txt l), .string ⟨#[]⟩, .bool false])) ∨ ∃ i : Nat, zsW l 10 = (i : Int) ∧ e = .returned (.tuple #[.string (txt (l.take i)), .string (txt (l.drop (i + 1))), .bool true])) := by
  have HC := ae (zjC l w hl)
  go_enter func96, ntmps96
  go_wp2_with fail
  go_at_call 161
  refine HC.o.mono ?_
  rintro e w' ⟨⟨k, rfl⟩, ⟨hx, rfl⟩ | ⟨i, hx, rfl⟩⟩
  · go_wp2
    go_ret3
    exact ⟨⟨k, rfl⟩, .inl ⟨hx, rfl⟩⟩
  · go_wp2
    go_ret3
    exact ⟨⟨k, rfl⟩, .inr ⟨i, hx, rfl⟩⟩
theorem zjE(t:List UInt8):(ztO t [10]).length<=t.length:=by
 unfold ztO;split
 ·simp
 ·exact Yp _
theorem zjF(h:zsW l 10=-1):je l=[l]:=by
 rcases JE l with ⟨_,h2⟩|⟨i,h1,_,_⟩
 ·exact h2
 ·omega
theorem zjG{i:Nat}(h:zsW l 10=(i:Int)):i<l.length/\je l=l.take i::je (l.drop (i+1)):=by
 rcases JE l with ⟨h1,_⟩|⟨j,h1,h2,h3⟩
 ·omega
 ·obtain rfl:i=j:=oQ;exact⟨h2,h3⟩
theorem VU(w:YM)(k:Nat):w.grownBy (w.drewN k) none:=⟨rfl,rfl,rfl,Yp _,fun _ _ _=>rfl⟩
def VV:YN->YN->Nat
 |.string s,.bool true=>s.size+1
 |_,_=>0
set_option maxRecDepth 100000 in
set_option maxHeartbeats 2000000 in
theorem zjH(n:Nat)(hn:1<=n)(l B:Nat)(t:List UInt8)(ht:t.length<4294967281)(J Jx:List {x:List UInt8 // x∈jf t}->YM->Prop)(W:YM)
    (hJ : AbidesFrom W.1.size J)
    (hY : ∀ pre x W1, J pre W1 → pre.length < (jf t).length → YieldAt zwP (n - 1) prog l #[.string (txt x.1)] W1 fun e W' =>
      (e = .returned (.bool true) ∧ J (pre ++ [x]) W' ∧ True) ∨ (e = .returned (.bool false) ∧ Jx (pre ++ [x]) W'))
    (hB : W.cell? (aQ B 0) = some (.string (txt t))) (h0 : J [] W) :
    CallsIn zwP n prog 94 #[.func (.yield l) #[] #[], pQ B] W fun e W' => (∃ v, e = .returned v) ∧
      ((∃ ys, ys.map zwe = jf t ∧ J ys W') ∨ (∃ pre, True ∧ Jx pre W')) := by
  refine callsIn_of_wp func94 rfl trivial ?_ rfl
  simp only [ntmps94, zy3, Yg, zsi, Nat.reduceAdd, Nat.reduceSub, zvE, zvF, zvZ, zvW, zsn, Ya]
  have bm : (txt t).size ≤ 9223372036854775807 := by rw [yo]; omega
  have HT := ae (Tryz.strings_TrimSuffix (txt t) ⟨#[10]⟩ W bm)
  clear bm
  gi_wp2_with fail
  refine ⟨trivial, ?_⟩
  gi_at_call 95
  refine (callsIn_wide.2 HT.o).mono ?_
  rintro e w' ⟨rfl, rfl⟩
  gi_wp2
  gi_loopw [3, 4] (fun v b wr => ∃ (pre : List {x : List UInt8 // x ∈ jf t}) (r : List UInt8) (m : Bool), v = .string (txt r) ∧ b = .bool m ∧ r.length ≤ t.length ∧ pre.map zwe ++ (if m then je r else []) = jf t ∧ J pre wr)
    (fun v b _ => VV v b)
  case atStart =>
    exact ⟨[], ztO t [10], true, rfl, rfl, zjE t, by simp [jf], h0⟩
  case round =>
    obtain ⟨pre, r, m, rfl, rfl, hr, hx, Re⟩ := hrel
    cases m with
    | false =>
      gi_wp2
      go_end0
      exact ⟨⟨_, rfl⟩, .inl ⟨pre, by simpa using hx, Re⟩⟩
    | true =>
      simp only [YI] at hx
      have HC := ae (zjD r wr oQ)
      gi_wp2_with fail
      refine ⟨trivial, ?_⟩
      gi_at_call 96
      refine (callsIn_wide.2 HC.o).mono ?_
      rintro e w1 ⟨⟨k, rfl⟩, ⟨hi, rfl⟩ | ⟨i, hi, rfl⟩⟩
      · have hs := zjF hi
        rw [hs] at hx
        have oH : r ∈ jf t := by rw [← hx]; simp
        have Ou : J pre (wr.drewN k) := hJ _ _ _ none Re (VU wr k) (fun r e => by cases e)
        obtain ⟨fn, tmps, assign, body, hy, hR⟩ := hY pre ⟨r, oH⟩ (wr.drewN k) Ou (by have hq := YC List.length hx; simp only [Yf, Yh, Yg] at hq; omega)
        dsimp only at hy
        gi_wp2
        refine hR.mono ?_
        rintro e W3 (⟨rfl, Rf, _⟩ | ⟨rfl, Ov⟩)
        · gi_wp2
          go_roundw
          case rel => exact ⟨pre ++ [⟨r, oH⟩], [], false, rfl, rfl, sQ, by rw [zsk, Yi, Yj, hx, YG sQ, List.append_nil], Rf⟩
          case measure => simp [VV]
        · gi_wp2
          refine bodyPost_ret (results_none rfl _ _ _) rfl ?_
          exact ⟨⟨_, rfl⟩, .inr ⟨pre ++ [⟨r, oH⟩], trivial, Ov⟩⟩
      · obtain ⟨hil, hs⟩ := zjG hi
        rw [hs] at hx
        have oH : r.take i ∈ jf t := by rw [← hx]; simp
        have Ou : J pre (wr.drewN k) := hJ _ _ _ none Re (VU wr k) (fun r e => by cases e)
        obtain ⟨fn, tmps, assign, body, hy, hR⟩ := hY pre ⟨r.take i, oH⟩ (wr.drewN k) Ou (by have hq := YC List.length hx; simp only [Yf, Yh, Yg] at hq; omega)
        dsimp only at hy
        gi_wp2
        refine hR.mono ?_
        rintro e W3 (⟨rfl, Rf, _⟩ | ⟨rfl, Ov⟩)
        · gi_wp2
          go_roundw
          case rel => exact ⟨pre ++ [⟨r.take i, oH⟩], r.drop (i + 1), true, rfl, rfl, tQ, by rw [zsk, Yi, Yj, YH rfl, zr8, List.singleton_append, hx], Rf⟩
          case measure => show (r.drop (i + 1)).length + 1 < r.length + 1; rw [zsg]; omega
        · gi_wp2
          refine bodyPost_ret (results_none rfl _ _ _) rfl ?_
          exact ⟨⟨_, rfl⟩, .inr ⟨pre ++ [⟨r.take i, oH⟩], trivial, Ov⟩⟩
theorem zjI(n:Nat)(t:List UInt8)(w:YM):
  CallsIn zwP n prog 59 #[.string (txt t)] w fun e w'=>e=.returned (.func (.func 94) #[] #[pQ w.1.size])/\w'=w.alloc (.cells #[.string (txt t)] 9):=by
 refine callsIn_of_wp func59 rfl trivial ?_ rfl;simp only[ntmps59,zy3,Yg,zsi,Nat.reduceAdd,Nat.reduceSub,zvE,zvF,zvZ,zvW,zsn,Ya];gi_wp2
 go_ret;exact⟨rfl,rfl⟩
theorem zjJ(n:Nat)(hn:1<=n)(B:Nat)(t:List UInt8)(ht:t.length<4294967281)(w:YM)(hB:B<w.1.size)(hc:w.cell? (aQ B 0)=some (.string (txt t))):
  SeqStopsK zwP n prog 94 #[pQ B] (fun x:{x:List UInt8 // x∈jf t}=>#[ztU (txt x.1)]) (fun _ _=>True) (fun ys=>ys.map zwe=jf t) (fun _=>True) (jf t).length w:=fun l J Jx W hW hJ _ hY h0=>
 zjH n hn l B t ht J Jx W hJ hY ((hW.cell (p:=(aQ B 0)) hB).trans hc) h0
def nQ(s:List UInt8):Option Int:=match ztN 64 s with
 |.ok v=>if Zu v=s then some v else none
 |_=>none
theorem zjW{v:Int}(h:nQ s=some v):dc v:=by
 unfold nQ at h;split at h
 ·rename_i u hu;split at h
  ·have hb:=zA3 hu;obtain rfl:u=v:=by simpa using h
   have e:((2^(64-1):Nat):Int)=9223372036854775808:=dQ;rw[e]at hb;exact⟨hb.1,oQ⟩
  ·cases h
 ·cases h
def thrown(n:Int):Ending:=.panicked [{v:=.iface 74 (iQ n),recovered:=false}]
def zjX:Option Int->Ending
 |some v=>.returned (.int .i64 v)
 |none=>thrown 3
theorem Wf{v:Int}(h:ztN 64 s=.ok v):nQ s=if Zu v=s then some v else none:=by
 unfold nQ;rw[h]
theorem zjY(h:∀ v,ztN 64 s≠.ok v):nQ s=none:=by
 unfold nQ;split
 ·rename_i v hv;exact absurd hv (h v)
 ·rfl
structure kg(w:YM):Prop where
 pow:ml w
 AB:∃ t p,w.var? prog "strconv.ErrSyntax" = some #[.iface t p]
 AD:∃ t p,w.var? prog "strconv.ErrRange" = some #[.iface t p]
theorem CL:prog.globalNamed "strconv.ErrSyntax" = some 4:=kQ
theorem CM:prog.globalNamed "strconv.ErrRange" = some 5:=kQ
theorem kg.below(h:kg w)(hB:YO w.1.size w w'):kg w':=by
 obtain⟨t,p,h1⟩:=h.AB;obtain⟨t2,p2,h2⟩:=h.AD;exact⟨h.pow.below hB,⟨t,p,N0 CL h1 hB⟩,⟨t2,p2,N0 CM h2 hB⟩⟩
theorem zjZ(s:List UInt8)(w:YM)(hs:s.length<=1000000)(hn:kg w):
    YR prog 189 #[.string (txt s), iQ 10, iQ 64] w fun e w' => YO w.1.size w w' ∧
      ((∃ v, ztN 64 s = .ok v ∧ e = .returned (.tuple #[iQ v, .nilIface])) ∨ (∀ v, ztN 64 s ≠ .ok v) ∧ ∃ u N, e = .returned (.tuple #[iQ u, .iface 297 (pQ N)])) := by
  cases hp : ztN 64 s with
  | ok v =>
    refine (Tryz.strconv_ParseInt_10_at64_ok (txt s) (by rw [yo]; omega) v hp w).mono ?_
    rintro e w' ⟨rfl, rfl | ⟨t, rfl⟩⟩
    · exact ⟨YS _ _, .inl ⟨v, rfl, rfl⟩⟩
    · exact ⟨Lib.bytesWorld_below _ _ _, .inl ⟨v, rfl, rfl⟩⟩
  | «syntax» =>
    obtain ⟨t, p, hv⟩ := hn.AB
    refine (Tryz.strconv_ParseInt_10_at64_syntax_var (txt s) (by rw [yo]; omega) hp t p w hv).mono ?_
    rintro e w' ⟨N, rfl, _, _, hB⟩
    exact ⟨hB, .inr ⟨(fun v h => by cases h), _, N, rfl⟩⟩
  | range =>
    obtain ⟨t, p, hv⟩ := hn.AD
    refine (Tryz.strconv_ParseInt_10_at64_range_var (txt s) (by rw [yo]; omega) hp t p w hv).mono ?_
    rintro e w' ⟨N, rfl, _, _, hB⟩
    exact ⟨hB, .inr ⟨(fun v h => by cases h), _, N, rfl⟩⟩
theorem zj0{a b:List UInt8}(h:txt a=txt b):a=b:=by
 have h2:=YC (fun x:ByteArray=>x.data.toList) h;exact h2
theorem zj1(s:List UInt8)(w:YM)(hs:s.length<=1000000)(hn:kg w):
  YR prog 163 #[.string (txt s)] w fun e w'=>YO w.1.size w w'/\e=zjX (nQ s):=by
 have HP:=ae (zjZ s w hs hn);have HN:=ae hn;clear hn;go_enter func163,ntmps163;go_wp2_with fail
 go_at_call 189;refine HP.o.mono ?_;rintro e w1 ⟨hB,⟨v,hv,rfl⟩|⟨hv,u,N,rfl⟩⟩
 ·have hb:=zA3 hv;have e:((2^(64-1):Nat):Int)=9223372036854775808:=dQ;rw[e]at hb;have HF:=ae (Tryz.strconv_FormatInt_10 v hb.1 oQ w1 (HN.o.below hB).pow);have HV:=ae hv;have HB:=ae hB;clear hv hb e hB;go_wp2_with fail
  go_at_call 190;refine HF.o.mono ?_;rintro e w2 ⟨rfl,k,os,rfl⟩;have jC:=ae (HB.o.trans ((Vs w1 k os).mono HB.o.size));clear HB;by_cases hq:Zu v=s
  ·have yy:((⟨(Zu v).toArray⟩:ByteArray)=txt s)=True:=by simp[hq]
   go_wp2
   go_ret;exact⟨jC.o,by rw[Wf HV.o,YH hq];rfl⟩
  ·have yy:((⟨(Zu v).toArray⟩:ByteArray)=txt s)=False:=by
    simp only[eq_iff_iff,iff_false];exact fun h=>hq (zj0 h)
   have hq3:(Zu v==s)=false:=by simpa using hq
   go_wp2
   exact⟨rfl,jC.o,by rw[Wf HV.o,YG hq];rfl⟩
 ·have HV:=ae hv;have HB:=ae hB;clear hv hB;go_wp2
  exact⟨rfl,HB.o,by rw[zjY HV.o];rfl⟩
structure CN(w:YM)(a:Option YQ)(n cap:Nat)(xs:List (List UInt8)):Prop where
 len:xs.length=n
 room:n<=cap
 lie:xs=[]\/∃ b off,a=some (aQ b off)/\b<w.1.size/\∀ j x,xs[j]?=some x->w.cell? (aQ b (off+j))=some (.string (txt x))
theorem CN.below{a:Option YQ}{cap:Nat}(h:CN w a n cap xs)(hB:YO w.1.size w w'):CN w' a n cap xs:=
 ⟨h.len,h.room,h.lie.imp id fun⟨b,off,ha,hb,hc⟩=>⟨b,off,ha,Yr hb hB.size,fun j x hx=>(hB.cell (p:=(aQ b (off+j))) hb).trans (hc j x hx)⟩⟩
def oX(xs:List (List UInt8)):Option (List Int):=if xs.all (fun x=>(nQ x).isSome)then some (xs.map fun x=>(nQ x).getD 0)else none
def Ga(xs:List (List UInt8))(k j:Nat):YN:=iQ (if j<k then(nQ (xs[j]?.getD [])).getD 0 else 0)
structure wV(w wr:YM)(M n:Nat)(xs:List (List UInt8))(k:Nat):Prop where
 old:YO w.1.size w wr
 row:wr.rowIs M 3 n (Ga xs k)
 ok:∀ j,j<k->(nQ (xs[j]?.getD [])).isSome=true
theorem wV.put{wr:YM}(h:wV w wr M n xs k)(hM:w.1.size<=M){v:Int}(hv:nQ (xs[k]?.getD [])=some v):wV w (wr.setCell (aQ M k) (iQ v)) M n xs (k+1):=by
 refine⟨h.old.setCell hM _,(h.row.set k _).congr fun j _=>?_,fun j hj=>?_⟩
 ·unfold Ga;by_cases e:j=k
  ·subst e;rw[YH rfl,YH oQ,hv];rfl
  ·rw[YG e];by_cases e2:j<k
   ·rw[YH e2,YH oQ]
   ·rw[YG e2,YG oQ]
 ·by_cases e:j=k
  ·subst e;rw[hv];rfl
  ·exact h.ok j oQ
theorem wV.below{wr:YM}(h:wV w wr M n xs k)(hB:YO wr.1.size wr wx):wV w wx M n xs k:=
 ⟨h.old.trans (hB.mono h.old.size),h.row.of_block (hB.block _ h.row.lt),h.ok⟩
theorem zj2:(prog.info? 3).map (fun i=>(i.zero,i.size,i.bytes))=some (some (iQ 0),1,8):=kQ
theorem Wh(xs:List (List UInt8))(a:Option YQ)(n cap:Nat)(w:YM)(hs:CN w a n cap xs)(hl:∀ x∈xs,x.length<=1000000)(hn:n<=2000000)(hN:kg w):
    YR prog 101 #[.slice a n cap] w fun e w' => YO w.1.size w w' ∧
      ((oX xs = none ∧ e = thrown 3) ∨ ∃ l M, oX xs = some l ∧ w.1.size ≤ M ∧ e = .returned (.slice (some (aQ M 0)) n n) ∧ kx w' (some (aQ M 0)) n n l ∧ ∀ z ∈ l, dc z) := by
  obtain ⟨h1, h2, h3⟩ := hs
  have wh := run_make_row' (P := prog) 22 3 (iQ 0) 8 underlying22 zj2 rfl .i64 .i64 n oQ oQ
  have jD : Hid (wV w (w.alloc (.cells (madeCells #[iQ 0] n) 3)) w.1.size n xs 0) := ae ⟨(YS _ _).alloc lQ _, (zzC w _ _ _).congr fun k _ => by unfold Ga; rw [YG oQ], fun j hj => oQ⟩
  have HP := ae hN
  have HL := ae hl
  have H3 := ae h3
  clear hN hl h3
  go_enter func101, ntmps101
  go_wp2
  clear wh
  obtain ⟨M, hM⟩ : ∃ M, Hid (w.1.size = M) := eQ
  rw [hM.o] at jD ⊢
  go_loopw [11] (fun i wr => ∃ k : Nat, k ≤ n ∧ i = iQ k ∧ wV w wr M n xs k) (fun i _ => n - (intOf i).toNat)
  case atStart => exact ⟨0, Yw _, rfl, jD.o⟩
  case round =>
    clear jD
    obtain ⟨k, hk, rfl, hI⟩ := hrel
    by_cases aj : k < n
    · have gO : k < xs.length := oQ
      obtain ⟨b, off, rfl, hb, hr⟩ : ∃ b off, a = some (aQ b off) ∧ b < w.1.size ∧ ∀ j x, xs[j]? = some x → w.cell? (aQ b (off + j)) = some (.string (txt x)) := by
        rcases H3.o with e | e
        · rw [e] at gO; simp at gO
        · exact e
      obtain ⟨x, hx⟩ : ∃ x, Hid (xs[k]? = some x) := ⟨_, ae (Yc gO)⟩
      have iV := (hI.old.cell (p := (aQ b (off + k))) hb).trans (hr k x hx.o)
      have JD : x.length ≤ 1000000 := HL.o x (zw9 hx.o)
      have gq : xs[k]?.getD [] = x := by rw [hx.o]; rfl
      have HC : Hid (YR prog 163 #[.string (txt x)] wr fun e w' => (YO w.1.size w w' ∧ oX xs = none ∧ e = thrown 3) ∨ ∃ v, e = .returned (iQ v) ∧ (w'.cell? (aQ M k) = some (iQ 0) ∧ w'.frozen? (aQ M k) = false) ∧ Hid (wV w (w'.setCell (aQ M k) (iQ v)) M n xs (k + 1))) := ae (by
        refine (zj1 x wr JD (HP.o.below hI.old)).mono ?_
        rintro e w' ⟨hB, rfl⟩
        cases hv : nQ x with
        | none =>
          refine .inl ⟨hI.old.trans (hB.mono hI.old.size), ?_, rfl⟩
          unfold oX
          rw [YG]
          intro h
          have := X9.1 h x (zw9 hx.o)
          rw [hv] at this
          cases this
        | some v =>
          have gD := hI.below hB
          refine .inr ⟨v, rfl, ⟨?_, gD.row.frozen k⟩, ae ?_⟩
          · rw [gD.row.cell aj]; unfold Ga; rw [YG oQ]
          · exact gD.put (by rw [hM.o]; exact Yp _) (by rw [gq]; exact hv))
      clear hI JD hr gq
      go_wp2_with fail
      go_at_call 163
      refine HC.o.mono ?_
      rintro e w1 (⟨hB, cX, rfl⟩ | ⟨v, rfl, ⟨g0, g1⟩, HG⟩)
      · exact ⟨rfl, hB, .inl ⟨cX, rfl⟩⟩
      · go_wp2
        go_roundw
        case rel => exact ⟨k + 1, oQ, by go_num, HG.o⟩
        case measure => simp [intOf]; omega
    · have ek : k = n := oQ
      subst ek
      have jP : ∀ x ∈ xs, (nQ x).isSome = true := fun x hx => by
        obtain ⟨j, hj, rfl⟩ := List.mem_iff_getElem.1 hx
        have := hI.ok j oQ
        rw [Yc hj] at this
        exact this
      have qW : oX xs = some (xs.map fun x => (nQ x).getD 0) := by
        unfold oX
        rw [YH (X9.2 jP)]
      have HE := ae qW
      have HI := ae hI
      have HA := ae jP
      clear qW hI jP
      go_wp2
      go_ret
      refine ⟨HI.o.old, .inr ⟨_, M, HE.o, by rw [hM.o]; exact Yp _, rfl, ⟨by rw [Yh]; exact h1, Yp _, .inr ⟨M, 0, rfl, HI.o.row.lt, ?_⟩⟩, fun z hz => ?_⟩⟩
      · intro j hj
        rw [Yh] at hj
        rw [Yv, HI.o.row.cell oQ, zsd, Yc hj]
        unfold Ga
        rw [YH oQ, Yc hj]
        rfl
      · obtain ⟨x, hx, rfl⟩ := Ym.1 hz
        obtain ⟨v, hv⟩ := Option.isSome_iff_exists.1 (HA.o x hx)
        rw [hv]
        exact zjW hv
theorem qX(w:YM):YR prog 159 #[.nilIface] w fun e w'=>e=.returned (.tuple #[])/\w'=w:=by
 go_enter func159,ntmps159;go_wp2
 go_end0
 exact⟨rfl,rfl⟩
theorem Wi(w:YM)(lo:Nat)(f:Nat×Int)(v:YN)(he:iY w lo f v)(h0:f.1≠0)(hg:fC w):
  YR prog 159 #[v] w fun e w'=>e=thrown (f.1:Int)/\YO w.1.size w w':=by
 have HT:=ae (zjV w lo f v he hg);have hv:∃ t x,v=.iface t x:=by
  rcases he with ⟨e,rfl⟩|⟨_,_,rfl⟩|⟨_,_,nb,_,_,rfl,_⟩
  ·rw[e]at h0;exact absurd rfl h0
  ·exact⟨_,_,rfl⟩
  ·exact⟨_,_,rfl⟩
 clear he hg;obtain⟨t,x,rfl⟩:=hv;go_enter func159,ntmps159;go_wp2_with fail
 go_at_call 28;refine HT.o.mono ?_;rintro e w1 ⟨rfl,hB⟩;go_wp2
 exact⟨rfl,rfl,hB⟩
def sM(r:Nat):Bool:=decide ((r:Int)=32)
theorem zj3(w:YM):PredAt prog 100 #[] encR sM w:=fun W r _=>by
 unfold FnGives;go_enter func100,ntmps100;go_wp2
 go_ret;exact⟨rfl,0,rfl⟩
theorem zj4(v:YN)(w:YM):(zuv (.iface 74 v) 20 74 true).run prog w=.ok (.tuple #[v,.bool true]) w:=kQ
theorem zj5(w:YM):(zuv .nilIface 20 74 true).run prog w=.ok (.tuple #[iQ 0,.bool false]) w:=kQ
theorem Wj(p:YQ)(w:YM):
  CallsD prog 98 #[.pointer (some p)] .returning w fun e u' w'=>e=.returned (.tuple #[])/\u'=.returning/\w'=w:=by
 refine callsD_of_wpS func98 rfl fun c₀ cs hu=>?_
 apply wpS_seq;apply wpS_region;simp[wpOpsS,go_sem,recoverD,hu,ntmps98,Exit.thenS,zj5];refine wpS_of_wp ?_;simp only[zvE,zvF,zvZ,zvW,zsn,Ya,ZR,ZT,ZU];go_wp2
 cases c₀;simp_all[bodyPostS,results,results98]
theorem JF(p:YQ)(z:Int)(v:YN)(w:YM)(hz:dc z)(hp:ml w)(hb:p.block<w.1.size)(hc:w.cell? p=some v)(hf:w.frozen? p=false):
  CallsD prog 98 #[.pointer (some p)] (.panicking [{v:=.iface 74 (iQ z),recovered:=false}]) w fun e u' w'=>
   e=.returned (.tuple #[])/\u'=.panicking [{v:=.iface 74 (iQ z),recovered:=true}]/\∃ w1,YO w.1.size w w1/\w'=w1.setCell p (.string (txt (gN z))):=by
 refine callsD_of_wpS func98 rfl fun c₀ cs hu=>?_
 apply wpS_seq;apply wpS_region;simp[wpOpsS,go_sem,recoverD,hu,ntmps98,Exit.thenS,zj4];have HW:=ae (ziU z w hz hp);clear hz hp;have jl:∀ w1,YO w.1.size w w1->w1.cell? p=some v/\w1.frozen? p=false:=fun w1 h=>⟨(h.cell hb).trans hc,(zs0 (h.block _ hb)).trans hf⟩
 have kW:=ae jl;clear jl hc hf;refine wpS_of_wp ?_;simp only[zvE,zvF,zvZ,zvW,zsn,Ya,ZR,ZT,ZU];go_wp2_with fail
 go_at_call 57;refine HW.o.mono ?_;rintro e w1 ⟨rfl,hB⟩;obtain⟨g0,g1⟩:=kW.o w1 hB;go_wp2
 simp only[bodyPostS];simp[results,results98];exact⟨w1,hB,rfl⟩
def kX(w:YM)(m:Nat)(es:List (List UInt8×YN)):Prop:=∃ A:Array MapEntry,w.1[m]?=some (.map A es.length)/\A.toList.map (fun e=>(e.key,e.val))=es.map fun p=>(ztU (txt p.1),p.2)
theorem kX.lt(h:kX w m es):m<w.1.size:=by
 obtain⟨A,h1,_⟩:=h;exact(XY.1 h1).1
theorem kX.same(h:kX w m es)(hb:w'.1[m]?=w.1[m]?):kX w' m es:=by
 obtain⟨A,h1,h2⟩:=h;exact⟨A,hb.trans h1,h2⟩
theorem kX.zj6(h:kX w m es){t:TypeId}{f:Nat×Nat}(hc:w.1[m]?=some (.cells cs t f)):False:=by
 obtain⟨A,h1,_⟩:=h;rw[h1]at hc;cases hc
theorem zj7(a b:List UInt8):(txt a==txt b)=(a==b):=by
 show(a.toArray==b.toArray)=(a==b);rw[X7,YB,YB];exact⟨fun h=>by simpa using h,fun h=>by rw[h]⟩
theorem Ow(k:List UInt8):∀(es:List (List UInt8×YN))(L:List MapEntry)(i:Nat),L.map (fun e=>(e.key,e.val))=es.map (fun p=>(ztU (txt p.1),p.2))->∃ r,ztK .string (.string (txt k)) L i=some r/\r.map (·.2)=es.lookup k
 |[],[],i,_=>⟨none,rfl,rfl⟩
 |[],_::_,_,h=>by simp at h
 |_::_,[],_,h=>by simp at h
 |(x,v)::es,e::L,i,h=>by
  simp only[Yi,zr9,zsA]at h;obtain⟨⟨hk,hv⟩,ht⟩:=h;unfold ztK;rw[hk];show ∃ r,(match some (txt k==txt x)with|some true=>some (some (i,e.val))|some false=>ztK .string (.string (txt k)) L (i+1)|none=>none)=some r/\_;rw[zj7];cases hb:(k==x)with
  |true=>exact⟨_,rfl,by simp[List.lookup,hb,hv]⟩
  |false=>
   obtain⟨r,h1,h2⟩:=Ow k es L (i+1) ht;exact⟨r,h1,by simp[List.lookup,hb,h2]⟩
theorem Ox(b:Bool)(s:ByteArray)(w:YM):(Instr.checkKey b 10000 9 (.string s)).run prog w=.ok () w:=
 MapKept.run_checkKey (k:=.string s) underlying9 trivial b 9999
theorem kX.look(h:kX w m es)(k:List UInt8):
  (zuu 165 (.map (some m)) (.string (txt k)) true).run prog w=.ok (.tuple #[(es.lookup k).getD (.agg #[iQ 0,iQ 0,.nilFunc]),.bool (es.lookup k).isSome]) w:=by
 obtain⟨A,h1,h2⟩:=h;obtain⟨r,h3,h4⟩:=Ow k es A.toList 0 h2;have hz:(zeroValue 178).run prog w=.ok (.agg #[iQ 0,iQ 0,.nilFunc]) w:=kQ;have hf:(ztJ 9 (.string (txt k)) A.toList).run prog w=.ok r w:=by
  simp[ztJ,Z7 underlying9,zsZ,h3]
 rw[<-h4];cases r with
 |none=>simp[zuu,Z7 underlying165,zy7 h1,Ox,hf,hz,zsZ]
 |some r=>simp[zuu,Z7 underlying165,zy7 h1,Ox,hf,zsZ]
theorem kX.put(h:kX w m es)(k:List UInt8)(v:YN)(hk:es.lookup k=none):
  ∃ w',(ZI 165 (.map (some m)) (.string (txt k)) v).run prog w=.ok () w'/\kX w' m (es++[(k,v)])/\w.grownBy w' (some m):=by
 have aj:=h.lt;obtain⟨A,h1,h2⟩:=h;obtain⟨r,h3,h4⟩:=Ow k es A.toList 0 h2;rw[hk]at h4;obtain rfl:r=none:=by cases r with
  |none=>rfl
  |some r=>cases h4
 have hf:(ztJ 9 (.string (txt k)) A.toList).run prog w=.ok none w:=by
  simp[ztJ,Z7 underlying9,zsZ,h3]
 refine⟨_,by simp[ZI,Z7 underlying165,zy7 h1,Ox,hf,MapKept.run_setObj_map _ h1,zsZ];rfl,⟨A.push {key:=.string (txt k),val:=v,born:=es.length},?_,?_⟩,?_⟩
 ·show(w.1.setIfInBounds m _)[m]?=_;rw[X4 aj];simp
 ·simp[h2]
 ·exact⟨rfl,rfl,rfl,sQ,fun j _ hj=>by
   show(w.1.setIfInBounds m _)[j]?=_;rw[X3 (fun e=>hj (by rw[e]))]⟩
def dC(d:Nat)(zre most:Int)(f:Nat):YN:=.agg #[iQ zre,iQ most,.func (.func f) #[pQ d] #[]]
def pZ(d:Nat):List (List UInt8×YN):=[
 ([97,115,107],dC d 1 1 143),
 ([98,101,103,105,110],dC d 4 9223372036854775807 93),
 ([99,97,108,109],dC d 1 1 144),
 ([99,111,110,102,108,105,99,116,115],dC d 0 0 145),
 ([99,114,97,115,104],dC d 1 1 146),
 ([100,101,108,105,118,101,114],dC d 1 1 147),
 ([104,101,108,112],dC d 0 0 148),
 ([108,97,116,99,104],dC d 0 0 149),
 ([108,111,115,101],dC d 1 1 150),
 ([109,97,110,121],dC d 0 0 151),
 ([109,111,115,116],dC d 0 0 152),
 ([114,101,112,108,105,99,97],dC d 1 1 153),
 ([115,101,101],dC d 3 3 154),
 ([115,104,111,119],dC d 0 0 155),
 ([116,105,99,107],dC d 1 1 156),
 ([116,114,97,99,101],dC d 0 0 157),
 ([116,119,105,99,101],dC d 1 1 158)]
theorem below_grown{w1:YM}(h:w.grownBy w1 (some m))(hm:m<=w.1.size):YO m w w1:=
 ⟨h.os,h.tape,h.output,h.size,fun i hi=>h.block i oQ (fun e=>by cases e;omega)⟩
theorem kX.new(w:YM):kX (w.alloc (.map #[] 0)) w.1.size []:=⟨#[],World.alloc_heap_new w _,rfl⟩
theorem zj8(d:Nat)(w:YM):
  YR prog 92 #[pQ d] w fun e w'=>∃ m,e=.returned (.map (some m))/\w.1.size<=m/\kX w' m (pZ d)/\YO w.1.size w w':=by
 have Gb:∀(fn:Fn)(first cap:Array YN)(w:YM),(zvi fn first cap).run prog w=.ok (.func fn first cap) w:=fun _ _ _ _=>rfl
 have wh:(Instr.makeMap 165 none).run prog w=.ok (.map (some w.1.size)) (w.alloc (.map #[] 0)):=kQ;have m0:=kX.new w;have b0:YO w.1.size w (w.alloc (.map #[] 0)):=(YS _ _).alloc lQ _;have zj9:w.1.size<(w.alloc (.map #[] 0)).1.size:=sQ;obtain⟨w1,r1,m1,g1⟩:=m0.put [97,115,107] (dC d 1 1 143) rfl;have r1':(ZI 165 (.map (some w.1.size)) (.string ⟨#[97,115,107]⟩) (.agg #[iQ 1,iQ 1,.func (.func 143) #[pQ d] #[]])).run prog (w.alloc (.map #[] 0))=.ok () w1:=r1;have b1:=b0.trans (below_grown g1 b0.size);clear r1 g1 m0 b0;obtain⟨w2,r2,m2,g2⟩:=m1.put [98,101,103,105,110] (dC d 4 9223372036854775807 93) rfl;have r2':(ZI 165 (.map (some w.1.size)) (.string ⟨#[98,101,103,105,110]⟩) (.agg #[iQ 4,iQ 9223372036854775807,.func (.func 93) #[pQ d] #[]])).run prog w1=.ok () w2:=r2;have b2:=b1.trans (below_grown g2 b1.size);clear r2 g2 m1 b1;obtain⟨w3,r3,m3,g3⟩:=m2.put [99,97,108,109] (dC d 1 1 144) rfl;have r3':(ZI 165 (.map (some w.1.size)) (.string ⟨#[99,97,108,109]⟩) (.agg #[iQ 1,iQ 1,.func (.func 144) #[pQ d] #[]])).run prog w2=.ok () w3:=r3;have b3:=b2.trans (below_grown g3 b2.size);clear r3 g3 m2 b2;obtain⟨w4,r4,m4,g4⟩:=m3.put [99,111,110,102,108,105,99,116,115] (dC d 0 0 145) rfl;have r4':(ZI 165 (.map (some w.1.size)) (.string ⟨#[99,111,110,102,108,105,99,116,115]⟩) (.agg #[iQ 0,iQ 0,.func (.func 145) #[pQ d] #[]])).run prog w3=.ok () w4:=r4;have b4:=b3.trans (below_grown g4 b3.size);clear r4 g4 m3 b3;obtain⟨w5,r5,m5,g5⟩:=m4.put [99,114,97,115,104] (dC d 1 1 146) rfl;have r5':(ZI 165 (.map (some w.1.size)) (.string ⟨#[99,114,97,115,104]⟩) (.agg #[iQ 1,iQ 1,.func (.func 146) #[pQ d] #[]])).run prog w4=.ok () w5:=r5;have b5:=b4.trans (below_grown g5 b4.size);clear r5 g5 m4 b4;obtain⟨w6,r6,m6,g6⟩:=m5.put [100,101,108,105,118,101,114] (dC d 1 1 147) rfl;have r6':(ZI 165 (.map (some w.1.size)) (.string ⟨#[100,101,108,105,118,101,114]⟩) (.agg #[iQ 1,iQ 1,.func (.func 147) #[pQ d] #[]])).run prog w5=.ok () w6:=r6;have b6:=b5.trans (below_grown g6 b5.size);clear r6 g6 m5 b5;obtain⟨w7,r7,m7,g7⟩:=m6.put [104,101,108,112] (dC d 0 0 148) rfl;have r7':(ZI 165 (.map (some w.1.size)) (.string ⟨#[104,101,108,112]⟩) (.agg #[iQ 0,iQ 0,.func (.func 148) #[pQ d] #[]])).run prog w6=.ok () w7:=r7;have b7:=b6.trans (below_grown g7 b6.size);clear r7 g7 m6 b6;obtain⟨w8,r8,m8,g8⟩:=m7.put [108,97,116,99,104] (dC d 0 0 149) rfl;have r8':(ZI 165 (.map (some w.1.size)) (.string ⟨#[108,97,116,99,104]⟩) (.agg #[iQ 0,iQ 0,.func (.func 149) #[pQ d] #[]])).run prog w7=.ok () w8:=r8;have b8:=b7.trans (below_grown g8 b7.size);clear r8 g8 m7 b7;obtain⟨w9,r9,m9,g9⟩:=m8.put [108,111,115,101] (dC d 1 1 150) rfl;have r9':(ZI 165 (.map (some w.1.size)) (.string ⟨#[108,111,115,101]⟩) (.agg #[iQ 1,iQ 1,.func (.func 150) #[pQ d] #[]])).run prog w8=.ok () w9:=r9;have b9:=b8.trans (below_grown g9 b8.size);clear r9 g9 m8 b8;obtain⟨uN,Jm,m10,g10⟩:=m9.put [109,97,110,121] (dC d 0 0 151) rfl;have zry:(ZI 165 (.map (some w.1.size)) (.string ⟨#[109,97,110,121]⟩) (.agg #[iQ 0,iQ 0,.func (.func 151) #[pQ d] #[]])).run prog w9=.ok () uN:=Jm;have Oy:=b9.trans (below_grown g10 b9.size);clear Jm g10 m9 b9;obtain⟨Wl,Wn,m11,g11⟩:=m10.put [109,111,115,116] (dC d 0 0 152) rfl;have zrz:(ZI 165 (.map (some w.1.size)) (.string ⟨#[109,111,115,116]⟩) (.agg #[iQ 0,iQ 0,.func (.func 152) #[pQ d] #[]])).run prog uN=.ok () Wl:=Wn;have FV:=Oy.trans (below_grown g11 Oy.size);clear Wn g11 m10 Oy;obtain⟨Wo,Wp,m12,g12⟩:=m11.put [114,101,112,108,105,99,97] (dC d 1 1 153) rfl;have zrA:(ZI 165 (.map (some w.1.size)) (.string ⟨#[114,101,112,108,105,99,97]⟩) (.agg #[iQ 1,iQ 1,.func (.func 153) #[pQ d] #[]])).run prog Wl=.ok () Wo:=Wp;have FW:=FV.trans (below_grown g12 FV.size);clear Wp g12 m11 FV;obtain⟨Wq,Ws,m13,g13⟩:=m12.put [115,101,101] (dC d 3 3 154) rfl;have zrB:(ZI 165 (.map (some w.1.size)) (.string ⟨#[115,101,101]⟩) (.agg #[iQ 3,iQ 3,.func (.func 154) #[pQ d] #[]])).run prog Wo=.ok () Wq:=Ws;have Oz:=FW.trans (below_grown g13 FW.size);clear Ws g13 m12 FW;obtain⟨Wt,Wu,m14,g14⟩:=m13.put [115,104,111,119] (dC d 0 0 155) rfl;have zrC:(ZI 165 (.map (some w.1.size)) (.string ⟨#[115,104,111,119]⟩) (.agg #[iQ 0,iQ 0,.func (.func 155) #[pQ d] #[]])).run prog Wq=.ok () Wt:=Wu;have OA:=Oz.trans (below_grown g14 Oz.size);clear Wu g14 m13 Oz;obtain⟨Wv,Ww,m15,g15⟩:=m14.put [116,105,99,107] (dC d 1 1 156) rfl;have zrD:(ZI 165 (.map (some w.1.size)) (.string ⟨#[116,105,99,107]⟩) (.agg #[iQ 1,iQ 1,.func (.func 156) #[pQ d] #[]])).run prog Wt=.ok () Wv:=Ww;have OB:=OA.trans (below_grown g15 OA.size);clear Ww g15 m14 OA;obtain⟨Wx,r16,m16,g16⟩:=m15.put [116,114,97,99,101] (dC d 0 0 157) rfl;have zrE:(ZI 165 (.map (some w.1.size)) (.string ⟨#[116,114,97,99,101]⟩) (.agg #[iQ 0,iQ 0,.func (.func 157) #[pQ d] #[]])).run prog Wv=.ok () Wx:=r16;have OC:=OB.trans (below_grown g16 OB.size);clear r16 g16 m15 OB;obtain⟨w17,Wy,m17,g17⟩:=m16.put [116,119,105,99,101] (dC d 1 1 158) rfl;have zrF:(ZI 165 (.map (some w.1.size)) (.string ⟨#[116,119,105,99,101]⟩) (.agg #[iQ 1,iQ 1,.func (.func 158) #[pQ d] #[]])).run prog Wx=.ok () w17:=Wy;have Wz:=OC.trans (below_grown g17 OC.size);clear Wy g17 m16 OC;have HM:=ae m17;have HB:=ae Wz;clear m17 Wz zj9;go_enter func92,ntmps92;go_wp2
 go_ret;exact⟨_,rfl,Yp _,HM.o,HB.o⟩
def lH(bI:List UInt8):List (List UInt8):=(ztM sM (txt bI)).map (·.data.toList)
theorem zka(b:ByteArray):txt b.data.toList=b:=by
 cases b;simp[txt]
theorem Gc(p:Nat->Bool)(s:ByteArray):∀(f pos:Nat)(st:Option Nat)(acc:List (Nat×Nat)),(zw1 p s f pos st acc).1.length<=acc.length+f
 | 0,_,_,acc=>by simp[zw1]
 |f+1,pos,st,acc=>by
  unfold zw1;split
  ·split
   ·split
    ·exact Yq (Gc p s f _ _ _) tQ
    ·exact Yq (Gc p s f _ _ _) oQ
   ·split
    ·exact Yq (Gc p s f _ _ _) oQ
    ·exact Yq (Gc p s f _ _ _) oQ
  ·simp
theorem JG(bI:List UInt8):(lH bI).length<=bI.length+1:=by
 unfold lH ztM Lib.spansOfP;rw[Yh,Yh];have h:=Gc sM (txt bI) (txt bI).size 0 none [];generalize zw1 sM (txt bI) (txt bI).size 0 none []=r at h;rw[yo]at h;unfold Lib.closeSpans;simp only[zsi]at h;split
 ·simp only[Yf,Yg,zsi];omega
 ·omega
theorem WA{bI x:List UInt8}(h:x∈lH bI):x.length<=bI.length:=by
 unfold lH ztM at h;rw[List.map_map]at h;obtain⟨a,_,rfl⟩:=Ym.1 h;have:=zyU (txt bI) a.1 a.2;simp only[Function.comp];rw[this];show(List.take _ (List.drop _ bI)).length<=bI.length;rw[zsj,zsg];omega
theorem Gd(bI:List UInt8)(w:YM)(hl:bI.length<=1000000):
  YR prog 99 #[.string (txt bI),.func (.func 100) #[] #[]] w fun e w'=>∃ A n,n=(lH bI).length/\e=.returned (.slice (some (aQ A 0)) n n)/\w.1.size<=A/\A<w'.1.size/\(∀(j:Nat) x,(lH bI)[j]?=some x->w'.cell? (aQ A j)=some (.string (txt x)))/\YO w.1.size w w':=by
 refine(Tryz.strings_FieldsFunc 100 #[] (enters_of func100 kQ rfl) sM (txt bI) w (by rw[yo];omega) (zj3 w)).mono ?_;rintro e w' ⟨A,rfl,hA,bC,hB⟩;refine⟨A,_,by unfold lH;rw[Yh],rfl,hA,(bC.lt A rfl).2,fun j x hx=>?_,hB⟩;unfold lH at hx;rw[zsd]at hx;obtain⟨b,hb,rfl⟩:=Yx.1 hx;rw[zka];have hc:=bC.cells (g:=A) rfl j (.string b) (by rw[zsd,hb];rfl);by_cases hj:j=0
 ·subst hj;simpa[ZX]using hc
 ·simpa[ZX,hj]using hc
theorem run_store_func{m:Mode}(f:Fn)(x y:Array YN):(store a (.func f x y) m).run P w=stored P w a (.func f x y) m:=run_store P w a _ m rfl
theorem run_store_nilFunc{m:Mode}:(store a .nilFunc m).run P w=stored P w a .nilFunc m:=run_store P w a _ m rfl
attribute [local go_sem] run_store_func run_store_nilFunc
structure uO(w:YM)(d m:Nat):Prop where
 lt:d<w.1.size
 c4:w.cell? (aQ d 4)=some (.map (some m))
 map:kX w m (pZ d)
 num:kg w
theorem uO.below(h:uO w d m)(hB:YO w.1.size w w'):uO w' d m:=
 ⟨Yr h.lt hB.size,(hB.cell (p:=(aQ d 4)) h.lt).trans h.c4,h.map.same (hB.block _ h.map.lt),h.num.below hB⟩
set_option maxRecDepth 100000 in
set_option maxHeartbeats 2000000 in
theorem zkb(d:Nat)(bI:List UInt8)(w:YM)(hl:bI.length<=1000000)(hw:lH bI=[]):
  YR prog 61 #[pQ d,.string (txt bI)] w fun e w'=>e=.returned (.string (txt [111,107]))/\YO w.1.size w w':=by
 have Gb:∀(fn:Fn)(first cap:Array YN)(w:YM),(zvi fn first cap).run prog w=.ok (.func fn first cap) w:=fun _ _ _ _=>rfl
 obtain⟨W,hW⟩:∃ W,Hid (w.alloc (.cells #[.string ⟨#[]⟩] 9)=W):=eQ;have aC:YO w.1.size w W:=by rw[<-hW.o];exact(YS _ _).alloc lQ _
 have bm:W.1.size=w.1.size+1:=by rw[<-hW.o];simp
 have fV:W.cell? (aQ w.1.size 0)=some (.string ⟨#[]⟩)/\W.frozen? (aQ w.1.size 0)=false:=by rw[<-hW.o];constructor<;>simp
 have HF:=ae (Gd bI W hl);rw[hw]at HF;have HC:Hid (∀ w1,YO W.1.size W w1->(w1.cell? (aQ w.1.size 0)=some (.string ⟨#[]⟩)/\w1.frozen? (aQ w.1.size 0)=false)):=ae fun w1 h=>
  ⟨(h.cell (p:=(aQ w.1.size 0)) (by show w.1.size<_;omega)).trans fV.1,(zs0 (h.block _ (by show w.1.size<_;omega))).trans fV.2⟩
 have HB:=ae aC;have HS:=ae bm;clear aC bm fV;go_enter_defers func61,ntmps61
 go_wp2_with fail
 rw[hW.o];refine HF.o.mono ?_;rintro e w1 ⟨A,n,rfl,rfl,hA,qY,_,aG⟩;obtain⟨g0,g1⟩:=HC.o w1 aG;go_wp2
 refine leaves_cons (f:=98) (args:=#[pQ w.1.size]) sQ (by simp[go_sem]) ?_;refine(Wj _ _).mono ?_;rintro e u' w2 ⟨rfl,rfl,rfl⟩;simp[Leaves,settle,results,results61,go_sem,g0];exact(HB.o.trans (aG.mono HB.o.size)).setCell (Yp _) _
theorem uO.look{W:YM}(h:uO w d m)(hB:YO w.1.size w W)(x:List UInt8):
  (zuu 165 (.map (some m)) (.string (txt x)) true).run prog W=.ok (.tuple #[((pZ d).lookup x).getD (.agg #[iQ 0,iQ 0,.nilFunc]),.bool ((pZ d).lookup x).isSome]) W:=(h.below hB).map.look x
set_option maxRecDepth 100000 in
set_option maxHeartbeats 4000000 in
theorem zkc(d m:Nat)(bI x:List UInt8)(r:List (List UInt8))(w:YM)(hl:bI.length<=1000000)(hd:uO w d m)(hw:lH bI=x::r)(hk:(pZ d).lookup x=none):
  YR prog 61 #[pQ d,.string (txt bI)] w fun e w'=>e=.returned (.string (txt (gN 3)))/\YO w.1.size w w':=by
 have Gb:∀(fn:Fn)(first cap:Array YN)(w:YM),(zvi fn first cap).run prog w=.ok (.func fn first cap) w:=fun _ _ _ _=>rfl
 obtain⟨W,hW⟩:∃ W,Hid (w.alloc (.cells #[.string ⟨#[]⟩] 9)=W):=eQ;have aC:YO w.1.size w W:=by rw[<-hW.o];exact(YS _ _).alloc lQ _
 have bm:W.1.size=w.1.size+1:=by rw[<-hW.o];simp
 have fV:W.cell? (aQ w.1.size 0)=some (.string ⟨#[]⟩)/\W.frozen? (aQ w.1.size 0)=false:=by rw[<-hW.o];constructor<;>simp
 have HF:=ae (Gd bI W hl);rw[hw]at HF;have HC:Hid (∀ w1,YO W.1.size W w1->(w1.cell? (aQ w.1.size 0)=some (.string ⟨#[]⟩)/\w1.frozen? (aQ w.1.size 0)=false)):=ae fun w1 h=>
  ⟨(h.cell (p:=(aQ w.1.size 0)) (by show w.1.size<_;omega)).trans fV.1,(zs0 (h.block _ (by show w.1.size<_;omega))).trans fV.2⟩
 have HB:=ae aC;have HS:=ae bm;have HD:=ae hd;have HK:=ae hk;clear aC bm fV hd hk;go_enter_defers func61,ntmps61
 go_wp2_with fail
 rw[hW.o];refine HF.o.mono ?_;rintro e w1 ⟨A,n,rfl,rfl,hA,qY,p5,aG⟩;obtain⟨g0,g1⟩:=HC.o w1 aG;have eD:=ae (HB.o.trans (aG.mono HB.o.size));have c4:=(HD.o.below eD.o).c4;have cx:w1.cell? (aQ A 0)=some (.string (txt x)):=p5 0 x rfl;have jq:YO w.1.size w w1.drew:=eD.o.drew;have k1:=HD.o.look jq x;have iK:YO w1.1.size w1 (w1.alloc (.cells #[iQ 0,iQ 0,.nilFunc] 178)):=(YS _ _).alloc lQ _;have k2:=HD.o.look (eD.o.trans (iK.mono eD.o.size)).drew x;have FE:(w1.alloc (.cells #[iQ 0,iQ 0,.nilFunc] 178)).cell? (aQ d 4)=some (.map (some m)):=(iK.cell (p:=(aQ d 4)) (HD.o.below eD.o).lt).trans c4;have OD:(w1.alloc (.cells #[iQ 0,iQ 0,.nilFunc] 178)).cell? (aQ A 0)=some (.string (txt x)):=(iK.cell (p:=(aQ A 0)) qY).trans cx;rw[HK.o]at k1 k2;simp only[Option.getD_none,Option.isSome_none]at k1 k2;have cP:(x::r).length=r.length+1:=rfl;rw[cP];clear p5 jq HF HC iK;have CO:(0:Int)<(r.length:Int)+1:=oQ;have kR:0<r.length+1:=oQ;have HE:Hid (∀ V,YO w1.1.size w1 V->CallsD prog 98 #[pQ w.1.size] (.panicking [{v:=.iface 74 (iQ 3),recovered:=false}]) V fun e u' w'=>
   e=.returned (.tuple #[])/\u'=.panicking [{v:=.iface 74 (iQ 3),recovered:=true}]/\w'.cell? (aQ w.1.size 0)=some (.string (txt (gN 3)))/\YO w.1.size w w'):=ae fun V hV=>by
  have aj:w.1.size<w1.1.size:=by have:=HS.o;have:=aG.size;omega
  refine(JF (aQ w.1.size 0) 3 (.string ⟨#[]⟩) V (by constructor<;>decide) ((HD.o.below eD.o).num.below hV).pow (Yr aj hV.size) ((hV.cell (p:=(aQ w.1.size 0)) aj).trans g0) ((zs0 (hV.block _ aj)).trans g1)).mono ?_;rintro e u' w' ⟨rfl,rfl,w2,aS,rfl⟩;have gX:w2.cell? (aQ w.1.size 0)=some (.string ⟨#[]⟩):=(aS.cell (p:=(aQ w.1.size 0)) (Yr aj hV.size)).trans ((hV.cell (p:=(aQ w.1.size 0)) aj).trans g0);exact⟨rfl,rfl,World.cell?_setCell_same' _ _ _ (by rw[gX];rfl),(eD.o.trans ((hV.trans (aS.mono hV.size)).mono eD.o.size)).setCell (Yp _) _⟩
 have Ge:YO w1.1.size w1 (w1.alloc (.cells #[iQ 0,iQ 0,.nilFunc] 178)).drew:=((YS _ _).alloc lQ _).drew;have CP:=ae (HE.o _ Ge);clear HE Ge;go_wp2
 go_region
 all_goals
  go_wp2
  refine leaves_cons (f:=98) (args:=#[pQ w.1.size]) sQ (by simp[go_sem]) ?_;refine CP.o.mono ?_;rintro e u' w2 ⟨rfl,rfl,q0,q1⟩;simp[Leaves,settle,results,results61,go_sem,q0];exact q1
end Go.Proofs.YtaablbmgagiajabGreatDoor
