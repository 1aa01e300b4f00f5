import Derived.Test.YtaablbmgagiajabGreatDoorZGAP
import Derived.Conc.AppendWalk
open Go.Proofs.Tryz renaming prog->π
open Go renaming Addr->YQ,Code->Zo,Event->YX,Frame->YU,Goroutine->YP,Next->Y9,Program->Y2,Trace->Y6,Value->YN,World->YM,execOp->Zf,heap_setCell_other->zum,madeCells->zs3,stepG->YV,undef->YY
open Go.Addr renaming add->ZX
open Array renaming getElem?_push->zAi
open Go.Conc renaming Deaf_other->ZZ,mem_ofEvents->ZJ,served->ZK,Leavers->Z3,crowd->Y4
open Go.Event renaming mute->zvc
open Go.Frame renaming enter->Y8
open Go.IntKind renaming wrap_i64->zua,wrap_u64->zwZ
open Go.MemAct renaming ofEvent->Zi,touch?->Zv
open Go.MemOp renaming ofEvents->Zl
open Nat renaming lt_succ_self->zv0
open Go.World renaming cell?->Z9,size_setCell->zsG
namespace Go.Proofs.YtaablbmgagiajabGreatDoor.Ren
open Go.Proofs.Tryz
open Go Go.Conc
open Go.ConcR (KK WgAt stA smA rd wr mk)
variable{a:YQ}{b:Bool}{e:YX}{es:Array YX}{fn:FuncId}{g:YP}{gs:Array YP}{i m n:Nat}{l:List Obj}{sl':Option (Nat×Nat)}{t:Y6}{v:Int}{w w':YM}
variable (pG:Y2)
section
variable (Wg:Nat)(cs:List YU)
set_option maxRecDepth 100000
def y0:YP:={frame:=Y8 pG 70 #[ptr Wg] .normal,callers:=cs,status:=.running,dying:=none}
def y1:YP:=ax pG true 3 (y0 pG Wg cs)
theorem zgV(w:YM):YV π true (y1 π Wg cs) w=.go (bZ π true (y1 π Wg cs)) w #[mk .disable]:=kQ
def c2:Zo->Zo
 |.seq _ b=>b
 |c=>c
def ci:Zo->Zo
 |.loop c=>c
 |.block _ c=>c
 |c=>c
def lb:Zo:=ci (ci (c2 ((((pG.funcs[70]?).getD default).body.getD .skip))))
def aw(J:Nat->YN):YP:={frame:={fn:=70,tmps:=#[ptr Wg,J 1,J 2,J 3,J 4,J 5,J 6,J 7,J 8,J 9,J 10,J 11,J 12,J 13,J 14,J 15,J 16,J 17,J 18,J 19,J 20,J 21,J 22,J 23,J 24,J 25,J 26,J 27,J 28,J 29,J 30,J 31,J 32,J 33,J 34,J 35,J 36,J 37,J 38,J 39,J 40,J 41,J 42,J 43,J 44,J 45,J 46,J 47,J 48,J 49,J 50,J 51,J 52,J 53,J 54,J 55,J 56,J 57,J 58,J 59,J 60,J 61,J 62,J 63,J 64,J 65,J 66,J 67,J 68,J 69,J 70,J 71,J 72,J 73,J 74,J 75,J 76,J 77,J 78,J 79,J 80,J 81,J 82,J 83],todo:=[.code (lb pG),.inLoop (lb pG),.inBlock 0],defers:=[],mode:=.run,kind:=.normal},callers:=cs,status:=.running,dying:=none}
theorem zgW:ax π true 3 (bZ π true (y1 π Wg cs))=aw π Wg cs fun k=>(ax π true 3 (bZ π true (y1 π Wg cs))).frame.tmps.getD k YY:=kQ
def y2(J:Nat->YN):YP:=ax pG true 16 (aw pG Wg cs J)
theorem zgX(J:Nat->YN)(hc:w.cell? (stA Wg)=some (.int .u64 v)):YV π true (y2 π Wg cs J) w=.go (fin (y2 π Wg cs J) (.int .u64 v)) w #[rd (stA Wg)]:=
 Ni (x:=.tmp 5) kQ func166 kQ kQ kQ kQ kQ kQ hc
def y3(J:Nat->YN)(X:Int):YP:=ax pG true 9 (fin (y2 pG Wg cs J) (.int .u64 X))
theorem zgY(J:Nat->YN)(X:Int):Yd true (y3 π Wg cs J X) (.int .u64 (X.fdiv 4294967296)):=fun w=>kQ
theorem zgZ(J:Nat->YN)(X V:Int):Yd true (fin (y3 π Wg cs J X) (.int .u64 V)) (.int .i32 (IntKind.i32.wrap V)):=fun w=>kQ
def y4(J:Nat->YN)(X V:Int):YP:=ax pG true 5 (fin (fin (y3 pG Wg cs J X) (.int .u64 V)) (.int .i32 V))
theorem zg0(J:Nat->YN)(X V:Int):Yd true (y4 π Wg cs J X V) (.int .u64 (bits .and .u64 X 2147483647)):=fun w=>kQ
def y5(J:Nat->YN)(X V:Int):YP:=ax pG true 7 (fin (y4 pG Wg cs J X V) (.int .u64 0))
theorem zg1(J:Nat->YN)(X V:Int):Yd true (y5 π Wg cs J X V) (.bool (V==0)):=fun w=>kQ
def g0(J:Nat->YN):YP:=ax pG true 6 (fin (y5 pG Wg cs J 0 0) (.bool true))
theorem zg2(J:Nat->YN)(w:YM):YV π true (g0 π Wg cs J) w=.go (bZ π true (g0 π Wg cs J)) w #[mk .enable]:=kQ
def g1(J:Nat->YN):YP:=ax pG true 3 (bZ pG true (g0 pG Wg cs J))
theorem zg3(J:Nat->YN)(w:YM):fe (g1 π Wg cs J)=true/\(Zf (g1 π Wg cs J).frame.eval (opAt (g1 π Wg cs J))).runT π w #[]=(sF 182 184 (.pointer (some (stA Wg)))).runT π w #[]:=⟨kQ,kQ⟩
def g2(J:Nat->YN):YP:=fin (g1 pG Wg cs J) (ptr Wg)
theorem zg4(J:Nat->YN)(w:YM):YV π true (g2 π Wg cs J) w=.go (bZ π true (g2 π Wg cs J)) w #[mk (.acquire (stA Wg))]:=kQ
def h0(J:Nat->YN)(X V:Int):YP:=ax pG true 10 (fin (y5 pG Wg cs J X V) (.bool false))
theorem zg5(J:Nat->YN)(X V:Int):Yd true (h0 π Wg cs J X V) (.int .u64 (IntKind.u64.wrap (X+1))):=fun w=>kQ
def h1(J:Nat->YN)(X V Y:Int):YP:=ax pG true 12 (fin (h0 pG Wg cs J X V) (.int .u64 Y))
theorem yl(J:Nat->YN)(X V Y:Int):fe (h1 π Wg cs J X V Y)=true/\(h1 π Wg cs J X V Y).frame.eval (.tmp 9)=.pointer (some (stA Wg))/\(h1 π Wg cs J X V Y).frame.eval (.tmp 10)=.int .u64 X/\(h1 π Wg cs J X V Y).frame.eval (.tmp 11)=.int .u64 Y:=⟨kQ,kQ,kQ,kQ⟩
theorem UF(J:Nat->YN)(X V Y:Int):(opAt (h1 π Wg cs J X V Y)).op=.call {callee:=.value (.func 168),args:=#[.tmp 9,.tmp 10,.tmp 11],argTypes:=typesOf (opAt (h1 π Wg cs J X V Y)).op}:=kQ
theorem zg6(J:Nat->YN)(X V Y:Int)(hc:w.cell? (stA Wg)=some (.int .u64 X))(hz:w.frozen? (stA Wg)=false):YV π true (h1 π Wg cs J X V Y) w=.go (fin (h1 π Wg cs J X V Y) (.bool true)) (w.setCell (stA Wg) (.int .u64 Y)) #[rd (stA Wg),wr (stA Wg)]:=
 zfF (yl Wg cs J X V Y).1 func168 kQ kQ kQ (UF Wg cs J X V Y) kQ (yl Wg cs J X V Y).2.1 (yl Wg cs J X V Y).2.2.1 (yl Wg cs J X V Y).2.2.2 hc hz
theorem zg7(J:Nat->YN)(X V Y:Int)(hc:w.cell? (stA Wg)=some (.int .u64 v))(hz:w.frozen? (stA Wg)=false)(aW:¬v=X):YV π true (h1 π Wg cs J X V Y) w=.go (fin (h1 π Wg cs J X V Y) (.bool false)) w #[rd (stA Wg)]:=
 zfG (yl Wg cs J X V Y).1 func168 kQ kQ kQ (UF Wg cs J X V Y) kQ (yl Wg cs J X V Y).2.1 (yl Wg cs J X V Y).2.2.1 (yl Wg cs J X V Y).2.2.2 hc hz aW
theorem zg8(J:Nat->YN)(X V Y:Int):ax π true 9 (fin (h1 π Wg cs J X V Y) (.bool false))=aw π Wg cs fun k=>(ax π true 9 (fin (h1 π Wg cs J X V Y) (.bool false))).frame.tmps.getD k YY:=kQ
def h2(J:Nat->YN)(X V Y:Int):YP:=ax pG true 19 (fin (h1 pG Wg cs J X V Y) (.bool true))
theorem zg9(J:Nat->YN)(X V Y:Int)(w:YM):fe (h2 π Wg cs J X V Y)=true/\(Zf (h2 π Wg cs J X V Y).frame.eval (opAt (h2 π Wg cs J X V Y))).runT π w #[]=(sF 189 184 (.pointer (some (smA Wg)))).runT π w #[]:=⟨kQ,kQ⟩
def h3(J:Nat->YN)(X V Y:Int):YP:=fin (h2 pG Wg cs J X V Y) (.pointer (some (smA Wg)))
theorem zha(J:Nat->YN)(X V Y:Int)(w:YM):YV π true (h3 π Wg cs J X V Y) w=.go (bZ π true (h3 π Wg cs J X V Y)) w #[mk (.write (smA Wg))]:=kQ
def h4(J:Nat->YN)(X V Y:Int):YP:=ax pG true 9 (bZ pG true (h3 pG Wg cs J X V Y))
theorem zhb(J:Nat->YN)(X V Y:Int):Yd true (h4 π Wg cs J X V Y) (.int .u64 (bits .and .u64 X 2147483648)):=fun w=>kQ
def h5(J:Nat->YN)(X V Y:Int):YP:=ax pG true 13 (fin (h4 pG Wg cs J X V Y) (.int .u64 0))
theorem Ao(J:Nat->YN)(X V Y:Int):fe (h5 π Wg cs J X V Y)=true/\(opAt (h5 π Wg cs J X V Y)).op=.call {callee:=.value (.func 119),args:=#[.tmp 70,.tmp 71],argTypes:=typesOf (opAt (h5 π Wg cs J X V Y)).op}/\((#[.tmp 70,.tmp 71]:Array Operand).map (h5 π Wg cs J X V Y).frame.eval)[0]?=some (.pointer (some (smA Wg)))/\(h5 π Wg cs J X V Y).offers=none:=⟨kQ,kQ,kQ,kQ⟩
theorem zhc(J:Nat->YN)(X V Y:Int)(hc:w.cell? (smA Wg)=some (.int .u32 0)):YV π true (h5 π Wg cs J X V Y) w=.go {(h5 π) Wg cs J X V Y with status:=.blocked} w #[]:=
 zfI (Ao Wg cs J X V Y).1 func119 kQ kQ kQ (Ao Wg cs J X V Y).2.1 kQ (Ao Wg cs J X V Y).2.2.1 hc
theorem zhd(J:Nat->YN)(X V Y:Int)(hc:w.cell? (smA Wg)=some (.int .u32 1))(hz:w.frozen? (smA Wg)=false):YV π true (h5 π Wg cs J X V Y) w=.go (fin (h5 π Wg cs J X V Y) (.tuple #[])) (w.setCell (smA Wg) (.int .u32 0)) (semEvents (smA Wg)):=
 zfH (Ao Wg cs J X V Y).1 func119 kQ kQ kQ (Ao Wg cs J X V Y).2.1 kQ (Ao Wg cs J X V Y).2.2.1 hc hz
def h6(J:Nat->YN)(X V Y:Int):YP:=ax pG true 16 (fin (h5 pG Wg cs J X V Y) (.tuple #[]))
theorem zhe(J:Nat->YN)(X V Y:Int)(hc:w.cell? (stA Wg)=some (.int .u64 v)):YV π true (h6 π Wg cs J X V Y) w=.go (fin (h6 π Wg cs J X V Y) (.int .u64 v)) w #[rd (stA Wg)]:=
 Ni (x:=.tmp 5) kQ func166 kQ kQ kQ kQ kQ kQ hc
def h7(J:Nat->YN)(X V Y:Int):YP:=ax pG true 11 (fin (h6 pG Wg cs J X V Y) (.int .u64 0))
theorem zhf(J:Nat->YN)(X V Y:Int)(w:YM):YV π true (h7 π Wg cs J X V Y) w=.go (bZ π true (h7 π Wg cs J X V Y)) w #[mk .enable]:=kQ
def h8(J:Nat->YN)(X V Y:Int):YP:=ax pG true 3 (bZ pG true (h7 pG Wg cs J X V Y))
theorem zhg(J:Nat->YN)(X V Y:Int)(w:YM):fe (h8 π Wg cs J X V Y)=true/\(Zf (h8 π Wg cs J X V Y).frame.eval (opAt (h8 π Wg cs J X V Y))).runT π w #[]=(sF 182 184 (.pointer (some (stA Wg)))).runT π w #[]:=⟨kQ,kQ⟩
def h9(J:Nat->YN)(X V Y:Int):YP:=fin (h8 pG Wg cs J X V Y) (ptr Wg)
theorem zhh(J:Nat->YN)(X V Y:Int)(w:YM):YV π true (h9 π Wg cs J X V Y) w=.go (bZ π true (h9 π Wg cs J X V Y)) w #[mk (.acquire (stA Wg))]:=kQ
theorem Nr(J:Nat->YN)(X V Y:Int):(y1 π Wg cs).status=.running/\(y2 π Wg cs J).status=.running/\(y3 π Wg cs J X).status=.running/\(y4 π Wg cs J X V).status=.running/\(y5 π Wg cs J X V).status=.running/\(g0 π Wg cs J).status=.running/\(g1 π Wg cs J).status=.running/\(g2 π Wg cs J).status=.running/\(h0 π Wg cs J X V).status=.running/\(h1 π Wg cs J X V Y).status=.running/\(h2 π Wg cs J X V Y).status=.running/\(h3 π Wg cs J X V Y).status=.running/\(h4 π Wg cs J X V Y).status=.running/\(h5 π Wg cs J X V Y).status=.running/\(h6 π Wg cs J X V Y).status=.running/\(h7 π Wg cs J X V Y).status=.running/\(h8 π Wg cs J X V Y).status=.running/\(h9 π Wg cs J X V Y).status=.running:=⟨kQ,kQ,kQ,kQ,kQ,kQ,kQ,kQ,kQ,kQ,kQ,kQ,kQ,kQ,kQ,kQ,kQ,kQ⟩
end
section
variable (Wg:Nat)(z:YU)(zs:List YU)
set_option maxRecDepth 100000
theorem UG(J:Nat->YN):(ax π true 19 (bZ π true (g2 π Wg (z::zs) J))).status=.running/\∀ w,YV π true (ax π true 19 (bZ π true (g2 π Wg (z::zs) J))) w=.go (back z zs) w #[]:=⟨kQ,fun w=>kQ⟩
theorem UH(J:Nat->YN)(X V Y:Int):(ax π true 9 (bZ π true (h9 π Wg (z::zs) J X V Y))).status=.running/\∀ w,YV π true (ax π true 9 (bZ π true (h9 π Wg (z::zs) J X V Y))) w=.go (back z zs) w #[]:=⟨kQ,fun w=>kQ⟩
end
variable (pG:Y2)
def c1:Zo->Zo
 |.seq a _=>a
 |c=>c
def UI:Zo:=c2 (c2 (c2 (c2 (c2 ((((pG.funcs[27]?).getD default).body.getD .skip))))))
def Ns:Zo:=c2 (UI pG)
def tl7:Zo:=c2 (Ns pG)
def UJ:Zo:=ci (ci (c2 (c1 (UI pG))))
def UK:Zo:=ci (ci (c2 (c1 (Ns pG))))
section
variable (p:Pa)(cs:List YU)(ta:Option YQ)(tc:Nat)
set_option maxRecDepth 100000
def mg(x27 x28 x33 x34 x35:YN)(J:Nat->YN)(todo:List Item):YP:={frame:={fn:=27,tmps:=#[.slice ta p.m tc,iQ p.n,J 2,J 3,J 4,J 5,ptr p.Ba,ptr p.Bt,ptr p.Wg,J 9,J 10,J 11,J 12,J 13,J 14,J 15,J 16,J 17,J 18,J 19,J 20,J 21,J 22,J 23,J 24,J 25,J 26,x27,x28,J 29,J 30,J 31,J 32,x33,x34,x35,J 36,J 37,J 38,J 39,J 40,J 41,J 42,J 43,J 44,J 45,J 46,J 47],todo,defers:=[],mode:=.run,kind:=.normal},callers:=cs,status:=.running,dying:=none}
def nM(k:Int)(J:Nat->YN):YP:=mg p cs ta tc (iQ p.n) (iQ k) (J 33) (J 34) (J 35) J [.code (UJ pG),.inLoop (UJ pG),.inBlock 0,.code (Ns pG)]
def Jf(k:Int)(J:Nat->YN):YP:=mg p cs ta tc (J 27) (J 28) (.slice ta p.m tc) (iQ p.m) (iQ k) J [.code (UK pG),.inLoop (UK pG),.inBlock 2,.code (tl7 pG)]
def gJ(g:YP)(k:Nat):YN:=g.frame.tmps.getD k YY
def s1(k:Int)(J:Nat->YN):YP:=ax pG true 2 (nM pG p cs ta tc k J)
theorem UL(k:Int)(J:Nat->YN):Yd true (s1 π p cs ta tc k J) (.bool (decide (k<(p.n:Int)))):=fun w=>kQ
def s2(k:Int)(J:Nat->YN):YP:=ax pG true 9 (fin (s1 pG p cs ta tc k J) (.bool true))
def sz(k:Int)(J:Nat->YN):YU:=(s2 pG p cs ta tc k J).callers.headD default
theorem zhi(k:Int)(J:Nat->YN):s2 π p cs ta tc k J=q0 π p.Wg (sz π p cs ta tc k J::cs):=kQ
def s3(k:Int)(J:Nat->YN):YP:=ax pG true 3 (back (sz pG p cs ta tc k J) cs)
theorem zhj(k:Int)(J:Nat->YN)(w:YM):YV π true (s3 π p cs ta tc k J) w=.spawn (fin (s3 π p cs ta tc k J) YY) (wb π p) w #[]:=kQ
def s5(k:Int)(J:Nat->YN):YP:=ax pG true 3 (fin (s3 pG p cs ta tc k J) YY)
theorem zhk(k:Int)(J:Nat->YN):Yd true (s5 π p cs ta tc k J) (iQ (IntKind.i64.wrap (k+1))):=fun w=>kQ
theorem zhl(k k':Int)(J:Nat->YN):ax π true 3 (fin (s5 π p cs ta tc k J) (iQ k'))=nM π p cs ta tc k' (gJ (ax π true 3 (fin (s5 π p cs ta tc k J) (iQ k')))):=kQ
theorem zhm(k:Int)(J:Nat->YN):ax π true 13 (fin (s1 π p cs ta tc k J) (.bool false))=Jf π p cs ta tc 0 (gJ (ax π true 13 (fin (s1 π p cs ta tc k J) (.bool false)))):=kQ
theorem UM(k:Int)(J:Nat->YN):(s1 π p cs ta tc k J).status=.running/\(s3 π p cs ta tc k J).status=.running/\(s5 π p cs ta tc k J).status=.running:=⟨kQ,kQ,kQ⟩
def d1(k:Int)(J:Nat->YN):YP:=ax pG true 2 (Jf pG p cs ta tc k J)
theorem UN(k:Int)(J:Nat->YN):Yd true (d1 π p cs ta tc k J) (.bool (decide (k<(p.m:Int)))):=fun w=>kQ
def d2(k:Int)(J:Nat->YN):YP:=ax pG true 9 (fin (d1 pG p cs ta tc k J) (.bool true))
def wK(ta:Option YQ)(m tc:Nat)(k:Int):Sem Y9:=Instr.indexAt 70 (.slice ta m tc) (iQ k) >>= fun v=>pure (.value v)
theorem zhn(k:Int)(J:Nat->YN):Ld (d2 π p cs ta tc k J) 27 (wK ta p.m tc k):=fun w=>⟨kQ,kQ,kQ⟩
def d3(k:Int)(J:Nat->YN)(a:YQ):YP:=fin (d2 pG p cs ta tc k J) (.pointer (some a))
theorem zho(k:Int)(J:Nat->YN)(a:YQ):Ld (d3 π p cs ta tc k J a) 27 (lA a):=fun w=>⟨kQ,kQ,kQ⟩
def d4(k:Int)(J:Nat->YN)(a:YQ)(s:ByteArray):YP:=ax pG true 4 (fin (d3 pG p cs ta tc k J a) (.string s))
theorem zhp(k:Int)(J:Nat->YN)(a:YQ)(s:ByteArray):Ld (d4 π p cs ta tc k J a s) 27 (lA (aQ p.Bt 0)):=fun w=>⟨kQ,kQ,kQ⟩
def d5(k:Int)(J:Nat->YN)(a:YQ)(s:ByteArray):YP:=ax pG true 3 (fin (d4 pG p cs ta tc k J a s) (.chan (some p.Cn)))
theorem zhq(k:Int)(J:Nat->YN)(a:YQ)(s:ByteArray)(w:YM):YV π true (d5 π p cs ta tc k J a s) w=.comm (d5 π p cs ta tc k J a s) #[scase p.Cn (.agg #[iQ k,.string s]) (.tuple #[])] true .send w #[]:=kQ
def d6(k:Int)(J:Nat->YN)(a:YQ)(s:ByteArray):YP:=ax pG true 3 (ZK (d5 pG p cs ta tc k J a s) YY)
theorem zhr(k:Int)(J:Nat->YN)(a:YQ)(s:ByteArray):Yd true (d6 π p cs ta tc k J a s) (iQ (IntKind.i64.wrap (k+1))):=fun w=>kQ
theorem zhs(k k':Int)(J:Nat->YN)(a:YQ)(s:ByteArray):ax π true 3 (fin (d6 π p cs ta tc k J a s) (iQ k'))=Jf π p cs ta tc k' (gJ (ax π true 3 (fin (d6 π p cs ta tc k J a s) (iQ k')))):=kQ
theorem UO(k:Int)(J:Nat->YN)(a:YQ)(s:ByteArray):(d1 π p cs ta tc k J).status=.running/\(d2 π p cs ta tc k J).status=.running/\(d4 π p cs ta tc k J a s).status=.running/\(d5 π p cs ta tc k J a s).status=.running/\(d6 π p cs ta tc k J a s).status=.running:=⟨kQ,kQ,kQ,kQ,kQ⟩
def z1(k:Int)(J:Nat->YN):YP:=ax pG true 6 (fin (d1 pG p cs ta tc k J) (.bool false))
theorem zht(k:Int)(J:Nat->YN):Ld (z1 π p cs ta tc k J) 27 (lA (aQ p.Bt 0)):=fun w=>⟨kQ,kQ,kQ⟩
def z2(k:Int)(J:Nat->YN):YP:=fin (z1 pG p cs ta tc k J) (.chan (some p.Cn))
def FB(c:Nat):Sem Y9:=Builtin.close_ #[] 0 #[.chan (some c)] >>= fun v=>pure (.value v)
theorem zhu(k:Int)(J:Nat->YN):Ld (z2 π p cs ta tc k J) 27 (FB p.Cn):=fun w=>⟨kQ,kQ,kQ⟩
theorem zhv(k:Int)(J:Nat->YN):mayWake π (z2 π p cs ta tc k J)=true:=kQ
def z3(k:Int)(J:Nat->YN):YP:=ax pG true 4 (fin (z2 pG p cs ta tc k J) (.tuple #[]))
def wz(k:Int)(J:Nat->YN):YU:=(z3 pG p cs ta tc k J).callers.headD default
theorem zhw(k:Int)(J:Nat->YN):z3 π p cs ta tc k J=y0 π p.Wg (wz π p cs ta tc k J::cs):=kQ
theorem zhx(k:Int)(J:Nat->YN):(z1 π p cs ta tc k J).status=.running/\(z2 π p cs ta tc k J).status=.running:=⟨kQ,kQ⟩
end
open Go.ConcN (st_flag st_waiters)
theorem UQ:∃ t,π.underlying 189=some (.pointer t)/\π.underlying 184=some .unsafePointer/\(π.info? t).map (fun i=>decide (i.size=0))=some false:=⟨81,kQ,kQ,kQ⟩
section
variable {S:Sc}
abbrev dw(S:Sc)(Stop:YP->Prop):Nat->YP->Prop:=Wk π true (KW S) (wu S) Stop
theorem Jg{Stop:YP->Prop}{src dst:TypeId}(hr:g.status=.running)(h:∀ w,fe g=true/\(Zf g.frame.eval (opAt g)).runT π w #[]=(sF src dst (.pointer (some a))).runT π w #[])(ht:∃ t,π.underlying src=some (.pointer t)/\π.underlying dst=some .unsafePointer/\(π.info? t).map (fun i=>decide (i.size=0))=some false)
  (hc:∀ w,KW S w->∃ v,w.cell? a=some v) (hn:dw S Stop n (fin g (.pointer (some a)))):dw S Stop (n+1) g:=
 Wk.step (es:=#[]) hr (fun w hw=>by
  obtain⟨v,hv⟩:=hc w hw;exact UA (main:=true) (h w).1 (h w).2 ht hv) (fun e he=>by simp at he) hn
theorem UR(h:KW S w):∃ v,w.cell? (stA S.Wg)=some v:=by
 obtain⟨st,sm,h⟩:=h.eN;exact⟨_,h.cellSt⟩
theorem UT(h:KW S w):∃ v,w.cell? (smA S.Wg)=some v:=by
 obtain⟨st,sm,h⟩:=h.eN;exact⟨_,h.cellSm⟩
theorem UU{Stop:YP->Prop}{k:Nat}(v:Nat)(hv:v<=16)(cs:List YU)(hb:((v:Int)==1)=b)
  (h:dw S Stop k (fin (r4 π S.Wg cs (v*KK) v) (.bool b))):dw S Stop (k+1+14+1+5+1+1+11+1+10) (r0 π S.Wg cs (v*KK)):=by
 have hf:bits .and .u64 ((v:Int)*KK) 2147483648=0:=by simpa[KK]using st_flag v 0 oQ oQ
 have hw:bits .and .u64 ((v:Int)*KK) 2147483647=0:=by simpa[KK]using st_waiters v 0 oQ oQ
 have hd:((v:Int)*KK).fdiv 4294967296=v:=by simp[KK]
 generalize(v:Int)*KK=X at *;obtain⟨_,_,e1,e2,e3,e4,_⟩:=Nq S.Wg cs X (v:Int);have a4:dw S Stop (k+1) (r4 π S.Wg cs X v):=gw e4 (fun w=>by
  have:=zgL S.Wg cs X v w;rw[hb]at this;exact this) h
 have Nt:=Wk.bB 14 _ sP a4;have a3:dw S Stop (k+1+14+1) (r3 π S.Wg cs X v):=gw e3 (fun w=>by
  have:=zgK S.Wg cs X v w;rw[hw]at this;exact this) Nt
 have a2:=Wk.bB 5 _ sP a3;have a1:dw S Stop (k+1+14+1+5+1+1) (r2 π S.Wg cs X):=gw e2 (v:=.int .u64 v) (fun w=>by
  have:=zgI S.Wg cs X w;rw[hd]at this;exact this) (gw (g:=fin (r2 π S.Wg cs X) (.int .u64 v)) rfl (fun w=>by
  have:=zgJ S.Wg cs X v w;rw[wrap32 v hv]at this;exact this) a2)
 have a0:=Wk.bB 11 _ sP a1;have b1:dw S Stop (k+1+14+1+5+1+1+11+1) (r1 π S.Wg cs X):=gw e1 (fun w=>by
  have:=zgH S.Wg cs X w;rw[hf]at this;exact this) a0
 exact Wk.bB 10 _ sP b1
theorem zhy(hP:S.E.P=π)(hn:S.n<=16){Y9:YP->Prop}{z:YU}{zs:List YU}(hb:∃ n,dw S (AtGo S Y9) n (back z zs)):AtKdS S Y9 (q1 π S.Wg (z::zs)):=by
 obtain⟨nb,hb⟩:=hb;obtain⟨e1,e2,_⟩:=Nq S.Wg (z::zs) 0 0;have ke:∀ g,g.status=.running->(∀ w,YV π true g w=.go (bZ π true g) w #[mk .enable])->((bZ π true g).status=.running/\∀ w,YV π true (bZ π true g) w=.go (back z zs) w #[])->AtKeS S Y9 g:=fun g h1 h2 h3=>⟨h1,_,fun w _=>by rw[hP];exact h2 w,by
  unfold cL;rw[hP];exact⟨nb+1,Wk.step (es:=#[]) h3.1 (fun w _=>h3.2 w) (fun e he=>by simp at he) hb⟩⟩
 have a1:AtA1 S Y9 (q2 π S.Wg (z::zs)):=by
  refine⟨e2,fun v hv=>⟨r0 π S.Wg (z::zs) ((v+1)*KK),fun w _ hw=>?_,?_⟩⟩
  ·rw[hP];refine zgG S.Wg (z::zs) hw.cellSt (hw.thaw 0) ?_;show IntKind.u64.wrap ((v:Int)*4294967296+4294967296)=((v:Int)+1)*4294967296;rw[zwZ];omega
  ·have ev:((v:Int)+1)=((v+1:Nat):Int):=oQ;rw[ev];unfold cL;rw[hP];rcases zst v with rfl|nJ
   ·obtain⟨f0,f1,f2⟩:=zgS S.Wg (z::zs);have c2:dw S (AtKeS S Y9) 0 (u2 π S.Wg (z::zs)):=Wk.stop (ke _ f2 (zgR S.Wg (z::zs)) (zgU S.Wg z zs));have c1:=Wk.bB 39 _ sP c2;have c0:dw S (AtKeS S Y9) (0+39+1) (u1 π S.Wg (z::zs)):=Wk.step f1 (fun w _=>zgQ S.Wg (z::zs) w) (fun e he=>by
     simp only[Yn,Yl,Yo,YL]at he;exact .inr ⟨smA S.Wg,rfl,.inl he⟩) c1
    have b0:dw S (AtKeS S Y9) (0+39+1+1) (u0 π S.Wg (z::zs)):=Jg f0 (zgP S.Wg (z::zs)) UQ (fun w hw=>UT hw) c0;have b1:=Wk.bB 7 _ sP b0;have:=UU (S:=S) (Stop:=AtKeS S Y9) 1 oQ (z::zs) (b:=true) dQ (k:=0+39+1+1+7) b1;exact⟨_,this⟩
   ·obtain⟨_,_,_,_,_,_,f5,f6,f7⟩:=Nq S.Wg (z::zs) (((v+1:Nat):Int)*KK) ((v+1:Nat):Int);have c7:dw S (AtKeS S Y9) 0 (r7 π S.Wg (z::zs) (((v+1:Nat):Int)*KK) ((v+1:Nat):Int)):=Wk.stop (ke _ f7 (zgO S.Wg (z::zs) _ _) (zgT S.Wg z zs _ _));have c6':=Wk.bB 7 _ sP c7;have c6:dw S (AtKeS S Y9) (0+7+1) (r6 π S.Wg (z::zs) (((v+1:Nat):Int)*KK) ((v+1:Nat):Int)):=gw f6 (fun w=>by
     have:=zgN S.Wg (z::zs) (((v+1:Nat):Int)*KK) ((v+1:Nat):Int) w;rw[show decide (((v+1:Nat):Int)>0)=true from YE oQ]at this;exact this) c6'
    have c5':=Wk.bB 25 _ sP c6;have c5:dw S (AtKeS S Y9) (0+7+1+25+1) (r5 π S.Wg (z::zs) (((v+1:Nat):Int)*KK) ((v+1:Nat):Int)):=gw f5 (fun w=>by
     have:=zgM S.Wg (z::zs) (((v+1:Nat):Int)*KK) ((v+1:Nat):Int) w;rw[show decide (((v+1:Nat):Int)<0)=false from YD oQ]at this;exact this) c5'
    have c4:=Wk.bB 8 _ sP c5;exact⟨_,UU (S:=S) (v+1) oQ (z::zs) (b:=false) tQ c4⟩
 exact⟨e1,_,fun w _=>by rw[hP];exact zgF S.Wg (z::zs) w,by
  unfold cL;rw[hP];exact⟨_,Wk.bB 34 _ sP (Wk.stop (n:=0) a1)⟩⟩
theorem UW{Stop:YP->Prop}{k:Nat}(v:Nat)(hv:v<=16)(cs:List YU)(J:Nat->YN)(hb:((v:Int)==0)=b)
  (h:dw S Stop k (fin (y5 π S.Wg cs J (v*KK) v) (.bool b))):dw S Stop (k+1+7+1+5+1+1+9) (fin (y2 π S.Wg cs J) (.int .u64 (v*KK))):=by
 have hw:bits .and .u64 ((v:Int)*KK) 2147483647=0:=by simpa[KK]using st_waiters v 0 oQ oQ
 have hd:((v:Int)*KK).fdiv 4294967296=v:=by simp[KK]
 generalize(v:Int)*KK=X at *;obtain⟨_,_,e3,e4,e5,_⟩:=Nr S.Wg cs J X (v:Int) 0;have a5:dw S Stop (k+1) (y5 π S.Wg cs J X v):=gw e5 (fun w=>by
  have:=zg1 S.Wg cs J X v w;rw[hb]at this;exact this) h
 have Nu:=Wk.bB 7 _ sP a5;have a4:dw S Stop (k+1+7+1) (y4 π S.Wg cs J X v):=gw e4 (fun w=>by
  have:=zg0 S.Wg cs J X v w;rw[hw]at this;exact this) Nu
 have a3:=Wk.bB 5 _ sP a4;have a2:dw S Stop (k+1+7+1+5+1+1) (y3 π S.Wg cs J X):=gw e3 (v:=.int .u64 v) (fun w=>by
  have:=zgY S.Wg cs J X w;rw[hd]at this;exact this) (gw (g:=fin (y3 π S.Wg cs J X) (.int .u64 v)) rfl (fun w=>by
  have:=zgZ S.Wg cs J X v w;rw[wrap32 v hv]at this;exact this) a3)
 exact Wk.bB 9 _ sP a2
def UX(z:YU)(zs:List YU)(g:YP):Prop:=∃ n,Wk π true (fun _=>True) (fun _=>False) (fun g=>g=back z zs) n g
theorem zhz(hP:S.E.P=π)(hn:S.n<=16){z:YU}{zs:List YU}(hA:∀ J,S.AW (aw π S.Wg (z::zs) J))(hO:∀ g,UX z zs g->S.Out g)(J:Nat->YN):∃ n,cL S (AtW1 S) n (aw π S.Wg (z::zs) J):=by
 unfold cL;rw[hP];have zhA:S.Out (bZ π true (g2 π S.Wg (z::zs) J)):=hO _ ⟨_,Wk.bB 19 _ sP (Wk.step (n:=0) (es:=#[]) (UG S.Wg z zs J).1 (fun w _=>(UG S.Wg z zs J).2 w) (fun e he=>by simp at he) rfl)⟩;have zhB:∀ X V Y,S.Out (bZ π true (h9 π S.Wg (z::zs) J X V Y)):=fun X V Y=>hO _ ⟨_,Wk.bB 9 _ sP (Wk.step (n:=0) (es:=#[]) (UH S.Wg z zs J X V Y).1 (fun w _=>(UH S.Wg z zs J X V Y).2 w) (fun e he=>by simp at he) rfl)⟩
 have hr:=fun X V Y=>Nr S.Wg (z::zs) J X V Y
 have keg:AtKe S (g0 π S.Wg (z::zs) J):=by
  obtain⟨_,_,_,_,_,f0,f1,f2,_⟩:=hr 0 0 0;have a2:dw S (AtAcq S) 0 (g2 π S.Wg (z::zs) J):=Wk.stop ⟨f2,_,fun w _=>by rw[hP];exact zg4 S.Wg (z::zs) J w,zhA⟩;have a1:dw S (AtAcq S) (0+1) (g1 π S.Wg (z::zs) J):=Jg f1 (zg3 S.Wg (z::zs) J) Nl (fun w hw=>UR hw) a2;exact⟨f0,_,fun w _=>by rw[hP];exact zg2 S.Wg (z::zs) J w,by
   unfold cL;rw[hP];exact⟨_,Wk.bB 3 _ sP a1⟩⟩
 have w4:∀ X V Y,AtW4 S (h6 π S.Wg (z::zs) J X V Y):=fun X V Y=>by
  obtain⟨_,_,_,_,_,_,_,_,_,_,_,_,_,_,f6,f7,f8,f9⟩:=hr X V Y;have a2:dw S (AtAcq S) 0 (h9 π S.Wg (z::zs) J X V Y):=Wk.stop ⟨f9,_,fun w _=>by rw[hP];exact zhh S.Wg (z::zs) J X V Y w,zhB X V Y⟩;have a1:dw S (AtAcq S) (0+1) (h8 π S.Wg (z::zs) J X V Y):=Jg f8 (zhg S.Wg (z::zs) J X V Y) Nl (fun w hw=>UR hw) a2;have ke:AtKe S (h7 π S.Wg (z::zs) J X V Y):=⟨f7,_,fun w _=>by rw[hP];exact zhf S.Wg (z::zs) J X V Y w,by
   unfold cL;rw[hP];exact⟨_,Wk.bB 3 _ sP a1⟩⟩
  exact⟨f6,_,fun w _ hw=>by rw[hP];exact zhe S.Wg (z::zs) J X V Y hw.cellSt,by
   unfold cL;rw[hP];exact⟨_,Wk.bB 11 _ sP (Wk.stop (n:=0) ke)⟩⟩
 have w3:∀ X V Y,AtW3 S (h5 π S.Wg (z::zs) J X V Y):=fun X V Y=>by
  obtain⟨_,_,_,_,_,_,_,_,_,_,_,_,_,f5,_⟩:=hr X V Y;exact⟨f5,(Ao S.Wg (z::zs) J X V Y).2.2.2,fun w _ st hw=>by rw[hP];exact zhc S.Wg (z::zs) J X V Y hw.cellSm,_,fun w _ hw=>by rw[hP];exact zhd S.Wg (z::zs) J X V Y hw.cellSm (hw.thaw 1),by
   unfold cL;rw[hP];exact⟨_,Wk.bB 16 _ sP (Wk.stop (n:=0) (w4 X V Y))⟩⟩
 have w2:∀ v:Nat,v<=16->AtW2 S v (h1 π S.Wg (z::zs) J (v*KK) v (v*KK+1)):=fun v hv=>by
  obtain⟨_,_,_,_,_,_,_,_,_,f1,f2,f3,f4,f5,_⟩:=hr (v*KK) v (v*KK+1);have hf:bits .and .u64 ((v:Int)*KK) 2147483648=0:=by simpa[KK]using st_flag v 0 oQ oQ
  refine⟨f1,fun v' dM=>⟨fun e=>?_,fun e=>?_⟩⟩
  ·subst e;refine⟨_,fun w _ hw=>by rw[hP];exact zg6 S.Wg (z::zs) J _ _ _ hw.cellSt (hw.thaw 0),?_⟩;unfold cL;rw[hP];have a5:dw S (AtW3 S) 0 (h5 π S.Wg (z::zs) J (v'*KK) v' (v'*KK+1)):=Wk.stop (w3 _ _ _);have Nu:=Wk.bB 13 _ sP a5;have a4:dw S (AtW3 S) (0+13+1) (h4 π S.Wg (z::zs) J (v'*KK) v' (v'*KK+1)):=gw f4 (fun w=>by
    have:=zhb S.Wg (z::zs) J (v'*KK) v' (v'*KK+1) w;rw[hf]at this;exact this) Nu
   have Nt:=Wk.bB 9 _ sP a4;have a3:dw S (AtW3 S) (0+13+1+9+1) (h3 π S.Wg (z::zs) J (v'*KK) v' (v'*KK+1)):=Wk.step f3 (fun w _=>zha S.Wg (z::zs) J _ _ _ w) (fun e he=>by
    simp only[Yn,Yl,Yo,YL]at he;exact .inr ⟨smA S.Wg,rfl,.inr he⟩) Nt
   have a2:dw S (AtW3 S) (0+13+1+9+1+1) (h2 π S.Wg (z::zs) J (v'*KK) v' (v'*KK+1)):=Jg f2 (zg9 S.Wg (z::zs) J _ _ _) UQ (fun w hw=>UT hw) a3;exact⟨_,Wk.bB 19 _ sP a2⟩
  ·refine⟨_,fun w _ hw=>by
    rw[hP];refine zg7 S.Wg (z::zs) J _ _ _ hw.cellSt (hw.thaw 0) (fun e'=>e ?_);have e':(v':Int)*4294967296=(v:Int)*4294967296:=e';omega,?_⟩
   ·unfold cL;rw[hP];exact⟨_,Wk.bB 9 _ sP (Wk.stop (n:=0) (by rw[zg8];exact hA _))⟩
 have w1:AtW1 S (y2 π S.Wg (z::zs) J):=by
  refine⟨(hr 0 0 0).2.1,fun v hv=>⟨_,fun w _ hw=>by rw[hP];exact zgX S.Wg (z::zs) J hw.cellSt,fun e=>?_,fun e=>?_⟩⟩
  ·subst e;unfold cL;rw[hP];have a0:dw S (AtKe S) 0 (g0 π S.Wg (z::zs) J):=Wk.stop keg;have a1:=Wk.bB 6 _ sP a0;exact⟨_,UW (S:=S) 0 oQ (z::zs) J (b:=true) dQ (by simpa using a1)⟩
  ·unfold cL;rw[hP];obtain⟨_,_,_,_,_,_,_,_,f0,_⟩:=hr (v*KK) v (v*KK+1);have a1:dw S (AtW2 S v) 0 (h1 π S.Wg (z::zs) J (v*KK) v (v*KK+1)):=Wk.stop (w2 v oQ);have a0':=Wk.bB 12 _ sP a1;have a0:dw S (AtW2 S v) (0+12+1) (h0 π S.Wg (z::zs) J (v*KK) v):=gw f0 (fun w=>by
    have:=zg5 S.Wg (z::zs) J (v*KK) v w;rw[show IntKind.u64.wrap ((v:Int)*KK+1)=(v:Int)*KK+1 by
     show IntKind.u64.wrap ((v:Int)*4294967296+1)=(v:Int)*4294967296+1;rw[zwZ];omega]at this
    exact this) a0'
   have b0:=Wk.bB 10 _ sP a0;exact⟨_,UW (S:=S) v oQ (z::zs) J (b:=false) tQ b0⟩
 exact⟨_,Wk.bB 16 _ sP (Wk.stop (n:=0) w1)⟩
theorem zhC(hP:S.E.P=π){z:YU}{zs:List YU}(hA:∀ J,S.AW (aw π S.Wg (z::zs) J)):AtKd S (y1 π S.Wg (z::zs)):=⟨(Nr S.Wg (z::zs) (fun _=>YY) 0 0 0).1,_,fun w _=>by rw[hP];exact zgV S.Wg (z::zs) w,by
 unfold cL
 rw[hP]
 exact⟨_,Wk.bB 3 _ sP (Wk.stop (n:=0) (by rw[zgW];exact hA _))⟩⟩
end
variable (pG:Y2)
structure wL(p:Pa)(ta:Option YQ):Prop where
 n16:p.n<=16
 pP:p.m<=50
 bt:∃ t,p.w0.1[p.Bt]?=some (.cells #[.chan (some p.Cn)] t)
 ba:∃ t,p.w0.1[p.Ba]?=some (.cells #[.slice (some (aQ p.An 0)) p.m p.m] t)
 Cs:p.Bt≠p.Wg/\p.Bt≠p.Cn/\p.Bt≠p.An
 Ct:p.Ba≠p.Wg/\p.Ba≠p.Cn/\p.Ba≠p.An
 UY:¬p.Shun (.cell (aQ p.Bt 0))
 UZ:¬p.Shun (.cell (aQ p.Ba 0))
 txt:∀ k,k<p.m->∃ a,ta=some a/\p.w0.cell? (a.add k)=some (.string (p.tx k))/\a.block<p.w0.1.size/\a.block≠p.Wg/\a.block≠p.Cn/\a.block≠p.An/\¬p.Shun (.cell (a.add k))
section
variable {p:Pa}{ta:Option YQ}{AW Out:YP->Prop}
theorem Nv(h:KW (p.sc π AW Out) w)(hb:a.block<p.w0.1.size)(h1:a.block≠p.Wg)(h2:a.block≠p.Cn)(h3:a.block≠p.An):w.cell? a=p.w0.cell? a:=by
 have:=h.low a.block hb h1 h2 h3;unfold Z9;rw[this];rfl
theorem Nw(X:wL p ta)(h:KW (p.sc π AW Out) w):w.cell? (aQ p.Bt 0)=some (.chan (some p.Cn)):=by
 obtain⟨t,ht⟩:=X.bt;rw[Nv h (pK ht) X.Cs.1 X.Cs.2.1 X.Cs.2.2,uH ht];rfl
theorem U0(X:wL p ta)(h:KW (p.sc π AW Out) w):w.cell? (aQ p.Ba 0)=some (.slice (some (aQ p.An 0)) p.m p.m):=by
 obtain⟨t,ht⟩:=X.ba;rw[Nv h (pK ht) X.Ct.1 X.Ct.2.1 X.Ct.2.2,uH ht];rfl
theorem Ny(X:wL p ta):uv (p.sc π AW Out) ⟨.cell (aQ p.Bt 0),false,false⟩:=by
 obtain⟨t,ht⟩:=X.bt;exact⟨_,⟨_,rfl,pK ht,X.Cs.1,X.Cs.2.2,X.UY⟩,rfl⟩
theorem zhD(X:wL p ta):uv (p.sc π AW Out) ⟨.cell (aQ p.Ba 0),false,false⟩:=by
 obtain⟨t,ht⟩:=X.ba;exact⟨_,⟨_,rfl,pK ht,X.Ct.1,X.Ct.2.2,X.UZ⟩,rfl⟩
theorem Ap{Q:YX->Prop}(h:Q e):∀ e'∈(#[e]:Array YX),Q e':=fun e' he=>by
 simp only[Yn,Yl,Yo,YL]at he;rw[he];exact h
theorem U1:fe (w1 π p)=true/\fe (w2 π p)=true/\(w1 π p).status=.running/\(w2 π p).status=.running/\(w1 π p).frame.fn=67/\(w2 π p).frame.fn=67/\(wb π p).status=.running:=⟨kQ,kQ,kQ,kQ,kQ,kQ,kQ⟩
theorem U2(a:YQ):seen π 67 #[⟨.cell a,false,false⟩]=#[⟨.cell a,false,false⟩]:=kQ
theorem Jh(a:YQ):seen π 27 #[⟨.cell a,false,false⟩]=#[⟨.cell a,false,false⟩]:=kQ
theorem zhE(c:Nat):seen π 27 #[⟨.obj c,false,true⟩,⟨.obj c,true,true⟩]=#[⟨.obj c,false,true⟩,⟨.obj c,true,true⟩]:=kQ
theorem zhF(X:wL p ta):∃ n,pL (p.sc π AW Out) (p.sc π AW Out).AR n (wb π p):=by
 obtain⟨a1,a2,r1,r2,f1,f2,_⟩:=U1 (p:=p);have s4:Wk π false (KW (p.sc π AW Out)) (uv (p.sc π AW Out)) (p.sc π AW Out).AR 0 (w4 π p):=Wk.stop ⟨_,zgc p⟩;have s3:=Wk.bB 9 _ sP s4;have s2:=Wk.step r2 (fun w hw=>k_ld (main:=false) a2 (zge p w) (U0 X hw) (by rw[f2];exact U2 _)) (Ap (zhD X)) s3;have s1:=Wk.step r1 (fun w hw=>k_ld (main:=false) a1 (zgd p w) (Nw X hw) (by rw[f1];exact U2 _)) (Ap (Ny X)) s2;exact⟨_,Wk.bB 6 _ sP s1⟩
theorem U3{tc k:Nat}(h:k<m)(w:YM):(wK (some a) m tc k).run π w=.ok (.value (.pointer (some (a.add k)))) w/\(wK (some a) m tc k).events π w #[]=#[]:=by
 have hu:π.underlying 70=some (.slice (π.elem 70)):=kQ;have hs:(sizeOf (π.elem 70)).run π w=.ok 1 w:=kQ;have hi:(0<=(k:Int)/\(k:Int)<(m:Int)):=oQ;simp[wK,run_indexAt_slice (h:=hu),events_indexAt_slice (h:=hu) (hi:=hi),hi,hs,ZX]
theorem zhG{c s r:Nat}(h:w.1[c]?=some (.chan 0 #[] false s r false)):(FB c).run π w=.ok (.value (.tuple #[])) (w.setChan c 0 #[] true s r false)/\(FB c).events π w #[]=#[⟨.obj c,false,true⟩,⟨.obj c,true,true⟩]:=by
 have h1:=run_close_open (P:=π) #[] 0 h;have h2:=events_close_open (P:=π) (es:=#[]) #[] 0 h;exact⟨by simp[FB,h1,World.setChan],by simp[FB,h2]⟩
def awS(p:Pa)(cs:List YU)(ta:Option YQ)(tc:Nat)(g:YP):Prop:=∃ k J' J,g=aw π p.Wg (wz π p cs ta tc k J'::cs) J
def zhH(p:Pa)(cs:List YU)(ta:Option YQ)(tc:Nat)(g:YP):Prop:=∃ k J',UX (wz π p cs ta tc k J') cs g
def Pa.so(p:Pa)(cs:List YU)(ta:Option YQ)(tc:Nat):Sc:=p.sc pG (awS p cs ta tc) (zhH p cs ta tc)
variable {cs:List YU}{tc:Nat}
theorem zhI(X:wL p ta)(g:YP)(h:(p.so π cs ta tc).AW g):g.status=.running/\∃ n,cL (p.so π cs ta tc) (AtW1 (p.so π cs ta tc)) n g:=by
 obtain⟨k,J',J,rfl⟩:=h;exact⟨rfl,zhz (S:=p.so π cs ta tc) rfl X.n16 (fun J=>⟨k,J',J,rfl⟩) (fun g hg=>⟨k,J',hg⟩) J⟩
theorem zhJ(X:wL p ta):∀(l:Nat),l<=p.m->∀ J,kN (p.so π cs ta tc) l (Jf π p cs ta tc ((p.m-l:Nat):Int) J):=by
 intro l;induction l with
 |zero=>
  intro _ J;obtain⟨r1,r2⟩:=zhx p cs ta tc (p.m:Int) J;have hK:=zhC (S:=p.so π cs ta tc) rfl (z:=wz π p cs ta tc p.m J) (zs:=cs) (fun J'=>⟨_,J,J',rfl⟩);have pR:dw (p.so π cs ta tc) (AtKd (p.so π cs ta tc)) 0 (y1 π p.Wg (wz π p cs ta tc p.m J::cs)):=Wk.stop hK;have FC:=Wk.bB 3 _ sP pR;rw[<-zhw]at FC;have Q9:=Wk.bB 4 _ sP FC;have cB:B5 (p.so π cs ta tc) (z2 π p cs ta tc p.m J):=by
   refine⟨r2,zhv ..,fin (z2 π p cs ta tc p.m J) (.tuple #[]),rfl,fun w s r _ hc=>?_,_,Q9⟩;have hc:w.1[p.Cn]?=some (.chan 0 #[] false s r false):=hc;obtain⟨e1,e2,e3⟩:=zhu p cs ta tc p.m J w;obtain⟨k1,k2⟩:=wI e3;obtain⟨q1,q2⟩:=zhG hc;have h3:=Ak (main:=true) e1 (k1.trans q1);rw[k2,q2,e2,zhE]at h3;exact h3
  have a2:dw (p.so π cs ta tc) (B5 (p.so π cs ta tc)) 0 (z2 π p cs ta tc p.m J):=Wk.stop cB;have a1:dw (p.so π cs ta tc) (B5 (p.so π cs ta tc)) (0+1) (z1 π p cs ta tc p.m J):=Wk.step r1 (fun w hw=>by
   obtain⟨e1,e2,e3⟩:=zht p cs ta tc p.m J w;exact k_ld (main:=true) e1 e3 (Nw X hw) (by rw[e2];exact Jh _)) (Ap (.inl (Ny X))) a2
  have a0:=Wk.bB 6 _ sP a1;have b1:dw (p.so π cs ta tc) (B5 (p.so π cs ta tc)) (0+1+6+1) (d1 π p cs ta tc p.m J):=gw (UO p cs ta tc p.m J default .empty).1 (fun w=>by
   have:=UN p cs ta tc p.m J w;rw[show decide ((p.m:Int)<(p.m:Int))=false from YD oQ]at this;exact this) a0
  exact⟨_,Wk.bB 2 _ sP b1⟩
 |succ l ih=>
  intro hl J;have hk:p.m-(l+1)<p.m:=oQ;obtain⟨a,rfl,hc,hb,n1,n2,n3,FD⟩:=X.txt _ hk;have ih:=ih oQ;have ek:(((p.m-(l+1):Nat):Int)+1)=((p.m-l:Nat):Int):=oQ;have hm:=X.pP;generalize iw:p.m-(l+1)=k at *;have blk:(a.add k).block=a.block:=by cases a with|mk b o s=>simp[ZX];try(split<;>rfl)
  have hb:(a.add k).block<p.w0.1.size:=by rw[blk];exact hb
  have n1:(a.add k).block≠p.Wg:=by rw[blk];exact n1
  have n2:(a.add k).block≠p.Cn:=by rw[blk];exact n2
  have n3:(a.add k).block≠p.An:=by rw[blk];exact n3
  obtain⟨r1,r2,r4,r5,r6⟩:=UO p cs (some a) tc k J (a.add k) (p.tx k);have hS:AtSend (p.so π cs (some a) tc) k (kN (p.so π cs (some a) tc) l) (d5 π p cs (some a) tc k J (a.add k) (p.tx k)):=by
   refine⟨r5,fun w _=>zhq p cs (some a) tc k J (a.add k) (p.tx k) w,?_⟩;have key:=ih (gJ (ax π true 3 (fin (d6 π p cs (some a) tc k J (a.add k) (p.tx k)) (iQ ((p.m-l:Nat):Int)))));rw[<-zhs]at key;have go:∀{Stop:YP->Prop},(∃ n,cL (p.so π cs (some a) tc) Stop n (ax π true 3 (fin (d6 π p cs (some a) tc k J (a.add k) (p.tx k)) (iQ ((p.m-l:Nat):Int)))))->∃ n,cL (p.so π cs (some a) tc) Stop n (ZK (d5 π p cs (some a) tc k J (a.add k) (p.tx k)) YY):=fun {Stop} ⟨n,hn⟩=>by
    have b2:=Wk.bB (K:=KW (p.so π cs (some a) tc)) (Ok:=wu (p.so π cs (some a) tc)) (Stop:=Stop) 3 _ sP hn;have b1:dw (p.so π cs (some a) tc) Stop (n+3+1) (d6 π p cs (some a) tc k J (a.add k) (p.tx k)):=gw r6 (fun w=>by
     have:=zhr p cs (some a) tc k J (a.add k) (p.tx k) w;rw[ek,show IntKind.i64.wrap ((p.m-l:Nat):Int)=((p.m-l:Nat):Int)by rw[zua];omega]at this;exact this) b2
    exact⟨_,Wk.bB 3 _ sP b1⟩
   cases l with
   |zero=>exact go key
   |succ l=>exact go key
  have c5:dw (p.so π cs (some a) tc) (AtSend (p.so π cs (some a) tc) k (kN (p.so π cs (some a) tc) l)) 0 (d5 π p cs (some a) tc k J (a.add k) (p.tx k)):=Wk.stop hS;have FE:=Wk.bB 3 _ sP c5;have c4:dw (p.so π cs (some a) tc) (AtSend (p.so π cs (some a) tc) k (kN (p.so π cs (some a) tc) l)) (0+3+1) (d4 π p cs (some a) tc k J (a.add k) (p.tx k)):=Wk.step r4 (fun w hw=>by
   obtain⟨e1,e2,e3⟩:=zhp p cs (some a) tc k J (a.add k) (p.tx k) w;exact k_ld (main:=true) e1 e3 (Nw X hw) (by rw[e2];exact Jh _)) (Ap (.inl (Ny X))) FE
  have c3':=Wk.bB 4 _ sP c4;have c3:dw (p.so π cs (some a) tc) (AtSend (p.so π cs (some a) tc) k (kN (p.so π cs (some a) tc) l)) (0+3+1+4+1) (d3 π p cs (some a) tc k J (a.add k)):=Wk.step rfl (fun w hw=>by
   obtain⟨e1,e2,e3⟩:=zho p cs (some a) tc k J (a.add k) w;exact k_ld (main:=true) e1 e3 (by rw[Nv hw (a:=a.add k) hb n1 n2 n3];exact hc) (by rw[e2];exact Jh _)) (Ap (.inl ⟨a.add k,⟨a.add k,rfl,hb,n1,n3,FD⟩,rfl⟩)) c3'
  have c2:dw (p.so π cs (some a) tc) (AtSend (p.so π cs (some a) tc) k (kN (p.so π cs (some a) tc) l)) (0+3+1+4+1+1) (d2 π p cs (some a) tc k J):=Wk.step (es:=#[]) r2 (fun w _=>by
   obtain⟨e1,e2,e3⟩:=zhn p cs (some a) tc k J w;obtain⟨k1,k2⟩:=wI e3;obtain⟨q1,q2⟩:=U3 (a:=a) (tc:=tc) hk w;have h3:=Ak (main:=true) e1 (k1.trans q1);rw[k2,q2,seen_none]at h3;exact h3) (fun e he=>by simp at he) c3
  have c1':=Wk.bB 9 _ sP c2;have c1:dw (p.so π cs (some a) tc) (AtSend (p.so π cs (some a) tc) k (kN (p.so π cs (some a) tc) l)) (0+3+1+4+1+1+9+1) (d1 π p cs (some a) tc k J):=gw r1 (fun w=>by
   have:=UN p cs (some a) tc k J w;rw[show decide ((k:Int)<(p.m:Int))=true from YE oQ]at this;exact this) c1'
  have c0:=Wk.bB 2 _ sP c1;refine⟨0+3+1+4+1+1+9+1+2,?_⟩;have e:(p.so π cs (some a) tc).m-(l+1)=k:=iw;rw[e];exact c0
theorem zhK(X:wL p ta):∀(r:Nat),r<=p.n->∀ J,nI (p.so π cs ta tc) r (nM π p cs ta tc ((p.n-r:Nat):Int) J):=by
 intro r;induction r with
 |zero=>
  intro _ J;have key:=zhJ (cs:=cs) (tc:=tc) X p.m lQ (gJ (ax π true 13 (fin (s1 π p cs ta tc p.n J) (.bool false))));rw[zsw]at key;have e0:=zhm p cs ta tc p.n J;have key:kN (p.so π cs ta tc) p.m (ax π true 13 (fin (s1 π p cs ta tc p.n J) (.bool false))):=by rw[e0];exact key
  have go:∀{Stop:YP->Prop},(∃ n,cL (p.so π cs ta tc) Stop n (ax π true 13 (fin (s1 π p cs ta tc p.n J) (.bool false))))->∃ n,cL (p.so π cs ta tc) Stop n (nM π p cs ta tc p.n J):=fun {Stop} ⟨n,hn⟩=>by
   have b2:=Wk.bB (K:=KW (p.so π cs ta tc)) (Ok:=wu (p.so π cs ta tc)) (Stop:=Stop) 13 _ sP hn;have b1:dw (p.so π cs ta tc) Stop (n+13+1) (s1 π p cs ta tc p.n J):=gw (UM p cs ta tc p.n J).1 (fun w=>by
    have:=UL p cs ta tc p.n J w;rw[show decide ((p.n:Int)<(p.n:Int))=false from YD oQ]at this;exact this) b2
   exact⟨_,Wk.bB 2 _ sP b1⟩
  show kN (p.so π cs ta tc) p.m _;cases hm:p.m with
  |zero=>rw[hm]at key;exact go key
  |succ l=>rw[hm]at key;exact go key
 |succ r ih=>
  intro hr J;have ih:=ih oQ;have hn:=X.n16;have ek:(((p.n-(r+1):Nat):Int)+1)=((p.n-r:Nat):Int):=oQ;have hk:p.n-(r+1)<p.n:=oQ;generalize p.n-(r+1)=k at *;obtain⟨r1,r3,r5⟩:=UM p cs ta tc k J;have zhL:nI (p.so π cs ta tc) r (fin (s3 π p cs ta tc k J) YY):=by
   have key:=ih (gJ (ax π true 3 (fin (s5 π p cs ta tc k J) (iQ ((p.n-r:Nat):Int)))));rw[<-zhl]at key;have go:∀{Stop:YP->Prop},(∃ n,cL (p.so π cs ta tc) Stop n (ax π true 3 (fin (s5 π p cs ta tc k J) (iQ ((p.n-r:Nat):Int)))))->∃ n,cL (p.so π cs ta tc) Stop n (fin (s3 π p cs ta tc k J) YY):=fun {Stop} ⟨n,hn⟩=>by
    have b2:=Wk.bB (K:=KW (p.so π cs ta tc)) (Ok:=wu (p.so π cs ta tc)) (Stop:=Stop) 3 _ sP hn;have b1:dw (p.so π cs ta tc) Stop (n+3+1) (s5 π p cs ta tc k J):=gw r5 (fun w=>by
     have:=zhk p cs ta tc k J w;rw[ek,show IntKind.i64.wrap ((p.n-r:Nat):Int)=((p.n-r:Nat):Int)by rw[zua];omega]at this;exact this) b2
    exact⟨_,Wk.bB 3 _ sP b1⟩
   cases r with
   |zero=>
    have key:kN (p.so π cs ta tc) p.m _:=key;show kN (p.so π cs ta tc) p.m _;cases hm:p.m with
    |zero=>rw[hm]at key;exact go key
    |succ l=>rw[hm]at key;exact go key
   |succ r=>exact go key
  have bO:AtGo (p.so π cs ta tc) (nI (p.so π cs ta tc) r) (s3 π p cs ta tc k J):=⟨r3,_,_,fun w _=>zhj p cs ta tc k J w,(U1 (p:=p)).2.2.2.2.2.2,zhF X,zhL⟩;have jW:AtKdS (p.so π cs ta tc) (nI (p.so π cs ta tc) r) (q1 π p.Wg (sz π p cs ta tc k J::cs)):=zhy (S:=p.so π cs ta tc) rfl X.n16 ⟨_,Wk.bB 3 _ sP (Wk.stop (n:=0) bO)⟩;have a0:dw (p.so π cs ta tc) (AtKdS (p.so π cs ta tc) (nI (p.so π cs ta tc) r)) 0 (q1 π p.Wg (sz π p cs ta tc k J::cs)):=Wk.stop jW;have a1:=Wk.bB 12 _ sP a0;rw[<-zhi]at a1;have a2:=Wk.bB 9 _ sP a1;have a3:dw (p.so π cs ta tc) (AtKdS (p.so π cs ta tc) (nI (p.so π cs ta tc) r)) (0+12+9+1) (s1 π p cs ta tc k J):=gw r1 (fun w=>by
   have:=UL p cs ta tc k J w;rw[show decide ((k:Int)<(p.n:Int))=true from YE oQ]at this;exact this) a2
  exact⟨_,Wk.bB 2 _ sP a3⟩
end
open Go.ConcN (sumTo upd sumTo_upd upd_ne upd_same)
structure Wb{α:Type}(P:Y2)(r:α->α->Prop)(lB:YM->Y6->Prop)(St:α->YP->YM->Prop)(Stop:YP->YM->Prop):Prop where
 step:∀ x g w,St x g w->Stop g w\/(g.status=.running/\∀ d,St x g (w.at d)/\∃ g' w' es,YV P true g (w.at d)=.go g' w' es/\(∀ t fn pos,lB (w.at d) t->lB w' (t++Zl 0 fn pos es))/\∃ y,r y x/\St y g' w')
 Ji:∀ w t d,lB w t->lB (w.at d) t
 mute:∀ w t i fn pos es,i≠0->(∀ e∈es,zvc e=true)->lB w t->lB w (t++Zl i fn pos es)
theorem slip{P:Y2}{q:Nat->Nat}{a:YP}(h0:gs[0]?=some a)(cO:a.status=.running)(hL:Z3 P t gs q)(nJ:0<i)(hi:gs[i]?=some g)(hg:g.status=.running):
  ∃ gs' es q',runT P (Y4 gs w sl') i=(.next (Y4 gs' w sl'),Zl i g.frame.fn g.frame.place es)/\(∀ e∈es,zvc e=true)/\gs'.size=gs.size/\gs'[0]?=some a/\Z3 P (t++Zl i g.frame.fn g.frame.place es) gs' q'/\sumTo gs'.size q'<sumTo gs.size q:=by
 have hq:=hL.old i g nJ hi;have FH:(i==0)=false:=tQ;have aj:i<gs.size:=(XY.1 hi).1;cases Nz:q i with
 |zero=>rw[Nz]at hq;rw[hq.1]at hg;cases hg
 |succ k=>
  rw[Nz]at hq;rcases hq with ⟨hf,_⟩|⟨_,g',es,hm,zhM,hq'⟩
  ·rw[hf]at hg;cases hg
  have MZ:=runT_crowd_go (P:=P) (sl:=sl') (i:=i) hi (by rw[FH];exact zhM w);have Jj:sumTo gs.size (upd q i k)+(k+1)=sumTo gs.size q+k:=by
   have:=sumTo_upd q k id aj;simpa[Nz]using this
  refine⟨_,es,upd q i k,MZ,hm,sQ,?_,⟨fun j x hj hx=>?_,fun j hj=>?_⟩,by simp only[Array.size_setIfInBounds,Array.size_map];omega⟩
  ·have aW:i≠0:=oQ;rw[X3 aW,XZ,h0];simp[woken_run cO]
  ·by_cases mO:i=j
   ·subst mO;rw[X4 (by simpa using aj)]at hx;obtain rfl:=Yz hx;rw[upd_same,Deaf_own];exact hq'
   ·rw[X3 mO,XZ]at hx;obtain⟨y,hy,rfl⟩:=Yx.1 hx;have U4:=hL.old j y hj hy;rw[woken_quitsD U4,upd_ne q k (Ne.symm mO),ZZ t mO _ (fun op hop=>by obtain⟨e,_,rfl⟩:=ZJ hop;rfl)];exact U4
  ·rw[ZZ t (g':=i) (by simp at hj;omega) _ (fun op hop=>by obtain⟨e,_,rfl⟩:=ZJ hop;rfl)];exact hL.above j (by simpa using hj)
theorem zhN{P:Y2}{q:Nat->Nat}{a a':YP}(h0:gs[0]?=some a)(hL:Z3 P t gs q)(hs:YV P true a w=.go a' w' es):
  ∃ gs',runT P (Y4 gs w sl') 0=(.next (Y4 gs' w' sl'),Zl 0 a.frame.fn a.frame.place es)/\gs'.size=gs.size/\gs'[0]?=some a'/\Z3 P (t++Zl 0 a.frame.fn a.frame.place es) gs' q:=by
 have aj:0<gs.size:=(XY.1 h0).1;refine⟨_,runT_crowd_go (P:=P) (sl:=sl') (i:=0) h0 (show YV P (0==0) a w=_ from hs),sQ,by simp[aj],⟨fun j x hj hx=>?_,fun j hj=>?_⟩⟩
 ·have aW:0≠j:=oQ;rw[X3 aW,XZ]at hx;obtain⟨y,hy,rfl⟩:=Yx.1 hx;have hq:=hL.old j y hj hy;rw[woken_quitsD hq,ZZ t oQ _ (fun op hop=>by obtain⟨e,_,rfl⟩:=ZJ hop;rfl)];exact hq
 ·rw[ZZ t (g':=0) (by simp at hj;omega) _ (fun op hop=>by obtain⟨e,_,rfl⟩:=ZJ hop;rfl)];exact hL.above j (by simpa using hj)
theorem zhO{P:Y2}{q:Nat->Nat}{a:YP}(h0:gs[0]?=some a)(cO:a.status=.running)(hL:Z3 P t gs q):∀ g∈gs,awake g:=by
 intro g hg;obtain⟨i,hi,rfl⟩:=Array.mem_iff_getElem.1 hg;rcases zst i with rfl|nJ
 ·have:gs[0]=a:=by simpa[Array.getElem?_eq_getElem hi]using h0
  rw[this];exact awake_of (.inl cO)
 ·exact awake_of ((hL.old i _ nJ (XW hi)).status.elim .inl fun x=>.inr (.inr x))
theorem U5{α:Type}{P:Y2}{r:α->α->Prop}{lB:YM->Y6->Prop}{St:α->YP->YM->Prop}{Stop:YP->YM->Prop}(H:Wb P r lB St Stop)(x:α)(hx:Acc r x):
  ∀(S:Nat)(gs:Array YP)(a:YP)(w:YM)(sl:Option (Nat×Nat))(t:Y6)(q:Nat->Nat),sumTo gs.size q<S->gs[0]?=some a->Z3 P t gs q->lB w t->St x a w->
   ∃ N gs' a' w' sl' t' q',runNT P N (Y4 gs w sl) t=(.next (Y4 gs' w' sl'),t')/\gs'.size=gs.size/\gs'[0]?=some a'/\Stop a' w'/\Z3 P t' gs' q'/\lB w' t':=by
 induction hx with
 |intro x _ ih=>
  intro S;induction S with
  |zero=>intro gs a w sl t q hS;omega
  |succ S ihS=>
   intro gs a w sl t q hS h0 hL hK hx;rcases H.step x a w hx with hs|⟨cO,lx⟩
   ·exact⟨0,gs,a,w,sl,t,q,rfl,rfl,h0,hs,hL,hK⟩
   obtain⟨i,g,d,sl',hi,hg,bh⟩:=crowd_pick (P:=P) (w:=w) (sl:=sl) (zhO h0 cO hL) ⟨0,a,h0,cO⟩;rcases zst i with rfl|nJ
   ·obtain rfl:g=a:=by rw[h0]at hi;exact(Yz hi).symm
    obtain⟨_,g',w',es,k1,k2,y,k3,k4⟩:=lx d;obtain⟨sG,j1,j2,j3,j4⟩:=zhN (sl':=sl') h0 hL k1;obtain⟨N,gs',a',Ra,NA,t',q',m1,m2,m3,m4,m5,m6⟩:=ih y k3 _ sG g' w' sl' _ q (zv0 _) j3 j4 (k2 _ _ _ (H.Ji w t d hK)) k4;exact⟨N+1,gs',a',Ra,NA,t',q',by simp only[runNT,bh,j1];exact m1,m2.trans j2,m3,m4,m5,m6⟩
   ·obtain⟨sG,es,q1,j1,j2,j3,j4,j5,j6⟩:=slip (w:=w.at d) (sl':=sl') h0 cO hL nJ hi hg;obtain⟨N,gs',a',Ra,NA,t',q',m1,m2,m3,m4,m5,m6⟩:=ihS sG a (w.at d) sl' _ q1 oQ j4 j5 (H.mute _ _ i _ _ es oQ j2 (H.Ji w t d hK)) (lx d).1;exact⟨N+1,gs',a',Ra,NA,t',q',by simp only[runNT,bh,j1];exact m1,m2.trans j3,m3,m4,m5,m6⟩
def sH(T:Nat->Prop)(t:Y6):Prop:=∀ op∈t,∀ a,op.act.touch?=some a->∀ ad:YQ,T ad.block->a.loc≠.cell ad
theorem sH.app{T:Nat->Prop}{u:Y6}(h:sH T t)(hu:sH T u):sH T (t++u):=fun op hop=>(zr3.1 hop).elim (h op) (hu op)
theorem sH.mute{T:Nat->Prop}(h:sH T t){pos:String}(hm:∀ e∈es,zvc e=true):sH T (t++Zl i fn pos es):=h.app fun op hop a ha=>by
 obtain⟨e,he,rfl⟩:=ZJ hop;have:=Go.Conc.touch_mute (hm e he);rw[this]at ha;cases ha
theorem zhP{x:MemAct}{B:Nat}{a:Touch}(h:x.low B)(ha:x.touch?=some a):a.loc.low B:=by
 cases x with
 |access e=>
  simp only[Zv,YA]at ha;subst ha;exact h
 |mark m=>
  cases m<;>simp only[Zv,YA,reduceCtorEq]at ha
  ·subst ha;exact h
  ·subst ha;exact h
 |_=>cases ha
theorem sH.low{T:Nat->Prop}{Shun:Loc->Prop}{B:Nat}(h:Past Shun B t)(hT:∀ b,T b->B<=b):sH T t:=fun op hop a ha ad hb e=>by
 have h1:=h.seen op hop;have h2:=hT _ hb;have h3:a.loc.low B:=zhP h1 ha;rw[e]at h3;have h3:ad.block<B:=h3;omega
variable (pG:Y2)
def Wm(P:Y2)(D:YM->YM->Array YX->Prop)(Stop:YP->YM->Prop):Nat->(YM->Prop)->YP->Prop
 | 0,K,g=>∀ w,K w->Stop g w
 |n+1,K,g=>g.status=.running/\∃ g' K',(∀ w d,K' w->K' (w.at d))/\(∀ w,K w->∃ w' es,YV P true g w=.go g' w' es/\D w w' es/\K' w')/\Wm P D Stop n K' g'
section
variable {P:Y2}{D:YM->YM->Array YX->Prop}{Stop:YP->YM->Prop}{lB:YM->Y6->Prop}
theorem zhQ(hD:∀ w w' es t fn pos,D w w' es->lB w t->lB w' (t++Zl 0 fn pos es))(hK:∀ w t d,lB w t->lB (w.at d) t)(hm:∀ w t i fn pos es,i≠0->(∀ e∈es,zvc e=true)->lB w t->lB w (t++Zl i fn pos es)):
  Wb P (fun a b:Nat=>a<b) lB (fun n g w=>∃ K:YM->Prop,(∀ w d,K w->K (w.at d))/\K w/\Wm P D Stop n K g) Stop where
 Ji:=hK
 mute:=hm
 step:=by
  rintro n g w ⟨K,h1,h2,h3⟩;cases n with
  |zero=>exact .inl (h3 w h2)
  |succ n=>
   obtain⟨hr,g',K',k1,k2,k3⟩:=h3;refine .inr ⟨hr,fun d=>⟨⟨K,h1,h1 w d h2,hr,g',K',k1,k2,k3⟩,?_⟩⟩;obtain⟨w',es,j1,j2,j3⟩:=k2 (w.at d) (h1 w d h2);exact⟨g',w',es,j1,fun t fn pos=>hD _ _ _ _ _ _ j2,n,zv0 n,K',k1,j3,k3⟩
theorem dH(hD:∀ w,D w w #[]){K:YM->Prop}(hK:∀ w d,K w->K (w.at d)):∀(n:Nat)(g:YP),nL true n g->Wm π D Stop m K (ax π true n g)->Wm π D Stop (m+n) K g
 | 0,_,_,h=>h
 |n+1,g,hs,h=>⟨hs.1.1,bZ π true g,K,hK,fun w hw=>⟨w,#[],hs.1.2 w,hD w,hw⟩,dH hD hK n (bZ π true g) hs.2 h⟩
theorem kv(hD:∀ w,D w w #[]){K:YM->Prop}(hK:∀ w d,K w->K (w.at d)){v:YN}(hr:g.status=.running)(h:∀ w,YV π true g w=.go (fin g v) w #[])(hn:Wm π D Stop m K (fin g v)):Wm π D Stop (m+1) K g:=
 ⟨hr,fin g v,K,hK,fun w hw=>⟨w,#[],h w,hD w,hw⟩,hn⟩
end
structure Fx(H:YM)(l:List Obj)(w:YM):Prop where
 size:w.1.size=H.1.size+l.length
 low:∀ b,b<H.1.size->w.1[b]?=H.1[b]?
 new:∀ j,w.1[H.1.size+j]?=l[j]?
 os:w.os=H.os
 out:w.output=H.output
 tape:w.tape=H.tape
theorem Fx.refl(w:YM):Fx w [] w:=⟨rfl,fun _ _=>rfl,fun j=>sQ,rfl,rfl,rfl⟩
theorem Fx.at{H:YM}(h:Fx H l w)(d:Nat):Fx H l (w.at d):=⟨h.size,h.low,h.new,h.os,h.out,h.tape⟩
theorem Fx.push{H:YM}(h:Fx H l w)(o:Obj):Fx H (l++[o]) {w with heap:=w.1.push o}:=by
 have hs:=h.size;refine⟨by simp[hs];omega,fun b hb=>?_,fun j=>?_,h.os,h.out,h.tape⟩
 ·show(w.1.push o)[b]?=_;rw[zAi,YG oQ];exact h.low b hb
 ·show(w.1.push o)[H.1.size+j]?=_;rw[zAi];by_cases hj:H.1.size+j=w.1.size
  ·rw[YH hj,zsa oQ];rw[show j-l.length=0 by omega];rfl
  ·rw[YG hj,h.new j];rcases Ys j l.length with h1|h1
   ·rw[Yb h1]
   ·rw[zsc h1,zsc tQ]
theorem Fx.set{H:YM}{x v:YN}{t:TypeId}(h:Fx H (l++[.cells #[x] t]) w):Fx H (l++[.cells #[v] t]) (w.setCell (aQ (H.1.size+l.length) 0) v):=by
 have hs:=h.size;have hl:w.1[H.1.size+l.length]?=some (.cells #[x] t):=by rw[h.new];simp
 refine⟨by rw[zsG];simpa using hs,fun b hb=>?_,fun j=>?_,h.os,h.out,h.tape⟩
 ·rw[zum _ _ b _ (by show b≠H.1.size+l.length;omega)];exact h.low b hb
 ·by_cases hj:j=l.length
  ·subst hj;rw[heap_setCell_same w _ 0 #[x] t v hl];simp
  ·rw[zum _ _ _ _ (by show H.1.size+j≠H.1.size+l.length;omega),h.new];rcases Ys j l.length with h1|h1
   ·rw[Yb h1,Yb h1]
   ·rw[zsc tQ,zsc tQ]
section
variable (p:Pa)(cs:List YU)(ta:Option YQ)(tc:Nat)
set_option maxRecDepth 100000
def Cu(n:Int):YP:={frame:=Y8 pG 27 #[.slice ta p.m tc,iQ n] .normal,callers:=cs,status:=.running,dying:=none}
def NC(n:Int):YP:=ax pG true 10 (Cu pG p cs ta tc n)
theorem zhR(n:Int):Yd true (NC π p cs ta tc n) (.bool (decide ((p.m:Int)>50))):=fun w=>kQ
def ND(n:Int):YP:=ax pG true 2 (fin (NC pG p cs ta tc n) (.bool false))
theorem zhS(n:Int):Yd true (ND π p cs ta tc n) (.bool (decide (n<1))):=fun w=>kQ
def NF(n:Int):YP:=ax pG true 3 (fin (ND pG p cs ta tc n) (.bool false))
theorem zhT(n:Int):Yd true (NF π p cs ta tc n) (.bool (decide (n>16))):=fun w=>kQ
def Aq(n:Int):YP:=ax pG true 8 (fin (NF pG p cs ta tc n) (.bool false))
def FI(m:Int):Sem Y9:=Instr.makeSlice 70 (iQ m) (iQ m) >>= fun v=>pure (.value v)
theorem zhU(n:Int)(w:YM):fe (Aq π p cs ta tc n)=true/\(Zf (Aq π p cs ta tc n).frame.eval (opAt (Aq π p cs ta tc n))).runT π w #[]=(FI p.m).runT π w #[]:=⟨kQ,kQ⟩
def Jk(n:Int)(An:Nat):YP:=fin (Aq pG p cs ta tc n) (.slice (some (aQ An 0)) p.m p.m)
theorem zhV(n:Int)(An:Nat)(w:YM):YV π true (Jk π p cs ta tc n An) w=.go (fin (Jk π p cs ta tc n An) (ptr w.1.size)) {w with heap:=w.1.push (.cells #[.slice none 0 0] 70)} #[]:=kQ
def Cv(n:Int)(An Ba:Nat):YP:=fin (Jk pG p cs ta tc n An) (ptr Ba)
theorem zhW(n:Int)(An Ba:Nat)(w:YM):fe (Cv π p cs ta tc n An Ba)=true/\(Zf (Cv π p cs ta tc n An Ba).frame.eval (opAt (Cv π p cs ta tc n An Ba))).runT π w #[]=(yi (aQ Ba 0) (.slice (some (aQ An 0)) p.m p.m)).runT π w #[]:=⟨kQ,kQ⟩
def FJ(n:Int)(An Ba:Nat):YP:=ax pG true 3 (fin (Cv pG p cs ta tc n An Ba) YY)
theorem zhX(n:Int)(An Ba:Nat)(w:YM):YV π true (FJ π p cs ta tc n An Ba) w=.go (fin (FJ π p cs ta tc n An Ba) (.chan (some w.1.size))) {w with heap:=w.1.push (.chan 0 #[] false 0 0 false)} #[]:=kQ
def Jl(n:Int)(An Ba Cn:Nat):YP:=fin (FJ pG p cs ta tc n An Ba) (.chan (some Cn))
theorem zhY(n:Int)(An Ba Cn:Nat)(w:YM):YV π true (Jl π p cs ta tc n An Ba Cn) w=.go (fin (Jl π p cs ta tc n An Ba Cn) (ptr w.1.size)) {w with heap:=w.1.push (.cells #[.chan none] 114)} #[]:=kQ
def Cw(n:Int)(An Ba Cn Bt:Nat):YP:=fin (Jl pG p cs ta tc n An Ba Cn) (ptr Bt)
theorem zhZ(n:Int)(An Ba Cn Bt:Nat)(w:YM):fe (Cw π p cs ta tc n An Ba Cn Bt)=true/\(Zf (Cw π p cs ta tc n An Ba Cn Bt).frame.eval (opAt (Cw π p cs ta tc n An Ba Cn Bt))).runT π w #[]=(yi (aQ Bt 0) (.chan (some Cn))).runT π w #[]:=⟨kQ,kQ⟩
def FK(n:Int)(An Ba Cn Bt:Nat):YP:=ax pG true 3 (fin (Cw pG p cs ta tc n An Ba Cn Bt) YY)
theorem zh0(n:Int)(An Ba Cn Bt:Nat)(w:YM):YV π true (FK π p cs ta tc n An Ba Cn Bt) w=.go (fin (FK π p cs ta tc n An Ba Cn Bt) (ptr w.1.size)) {w with heap:=w.1.push (.cells #[.int .u64 0,.int .u32 0] 122)} #[]:=kQ
def NG:YP:=fin (FK pG p cs ta tc p.n p.An p.Ba p.Cn p.Bt) (ptr p.Wg)
theorem zh1:ax π true 9 (NG π p cs ta tc)=nM π p cs ta tc 0 (gJ (ax π true 9 (NG π p cs ta tc))):=kQ
theorem zh2(n:Int)(An Ba Cn Bt:Nat):(NC π p cs ta tc n).status=.running/\(ND π p cs ta tc n).status=.running/\(NF π p cs ta tc n).status=.running/\(Aq π p cs ta tc n).status=.running/\(FJ π p cs ta tc n An Ba).status=.running/\(FK π p cs ta tc n An Ba Cn Bt).status=.running/\(Cv π p cs ta tc n An Ba).frame.fn=27/\(Cw π p cs ta tc n An Ba Cn Bt).frame.fn=27/\(Aq π p cs ta tc n).frame.fn=27:=⟨kQ,kQ,kQ,kQ,kQ,kQ,kQ,kQ,kQ⟩
end
def DB(gM:YM->Nat)(Shun:Loc->Prop)(T:Nat->Prop)(w w':YM)(es:Array YX):Prop:=gM w<=gM w'/\(∀ e∈es,EvL Shun (gM w') e)/\∀ e∈es,∀ a,(Zi e).touch?=some a->∀ ad:YQ,T ad.block->a.loc≠.cell ad
def wM(gM:YM->Nat)(Shun:Loc->Prop)(T:Nat->Prop)(w:YM)(t:Y6):Prop:=Past Shun (gM w) t/\sH T t
section
variable {gM:YM->Nat}{Shun:Loc->Prop}{T:Nat->Prop}
theorem DB.none(w:YM):DB gM Shun T w w #[]:=⟨Yp _,fun e he=>by simp at he,fun e he=>by simp at he⟩
theorem DB.quiet(h:gM w<=gM w'):DB gM Shun T w w' #[]:=⟨h,fun e he=>by simp at he,fun e he=>by simp at he⟩
theorem DB.cell(h:gM w<=gM w')(hs:¬Shun (.cell a))(hb:a.block<gM w')(hT:¬T a.block):DB gM Shun T w w' #[⟨.cell a,b,false⟩]:=by
 refine⟨h,Ap (evL_cell a b hs hb),Ap fun x hx ad lu e=>?_⟩;simp only[ofEvent_cell0,Zv,YA]at hx;subst hx;cases e;exact hT lu
theorem NH{pos:String}(h:DB gM Shun T w w' es)(hk:wM gM Shun T w t):wM gM Shun T w' (t++Zl 0 fn pos es):=
 ⟨(hk.1.mono h.1).own h.2.1,hk.2.app fun op hop a ha ad lu=>by
  obtain⟨e,he,rfl⟩:=ZJ hop;exact h.2.2 e he a ha ad lu⟩
theorem U6{pos:String}(hi:i≠0)(hm:∀ e∈es,zvc e=true)(hk:wM gM Shun T w t):wM gM Shun T w (t++Zl i fn pos es):=⟨hk.1.mute hi hm,hk.2.mute hm⟩
theorem uI{P:Y2}{Stop:YP->YM->Prop}(zh3:∀ w d,gM (World.at w d)=gM w){K:YM->Prop}(hK:∀ w d,K w->K (World.at w d)){a:YP}{sl:Option (Nat×Nat)}{q:Nat->Nat}(h:Wm P (DB gM Shun T) Stop n K a)(hw:K w)(h0:gs[0]?=some a)(hL:Z3 P t gs q)(hP:wM gM Shun T w t):
  ∃ N gs' a' w' sl' t' q',runNT P N (Y4 gs w sl) t=(.next (Y4 gs' w' sl'),t')/\gs'.size=gs.size/\gs'[0]?=some a'/\Stop a' w'/\Z3 P t' gs' q'/\wM gM Shun T w' t':=
 U5 (zhQ (D:=DB gM Shun T) (Stop:=Stop) (fun _ _ _ _ _ _ h k=>NH h k) (fun w t d k=>by unfold wM at k⊢;rw[zh3];exact k) (fun _ _ _ _ _ _ hi hm k=>U6 hi hm k)) n (Nat.lt_wfRel.wf.apply n) _ gs a w sl t q (zv0 _) h0 hL hP ⟨K,hK,hw,h⟩
end
theorem zh4(hm:m<=60)(w:YM):(FI m).run π w=.ok (.value (.slice (some (aQ w.1.size 0)) m m)) {w with heap:=w.1.push (.cells (zs3 #[.string .empty] m) 9)}/\(FI m).events π w #[]=#[]:=by
 have ht:π.underlying 70=some (.slice 9):=kQ;have hi:∃ i,π.info? 9=some i/\i.zero=some (.string .empty)/\i.size=1/\i.bytes=16:=⟨(π.info? 9).getD default,kQ,kQ,kQ,kQ⟩;obtain⟨i,h1,h2,h3,h4⟩:=hi;have hr:=run_makeSlice (P:=π) w 70 9 i (.string .empty) ht h1 h2 .i64 .i64 (m:Int) (m:Int) oQ oQ (by rw[h3];simp;omega) (by rw[h4];omega) oQ;have he:=events_make (P:=π) w 70 9 i (.string .empty) ht h1 h2 .i64 .i64 (m:Int) (m:Int) oQ oQ (by rw[h4];omega) oQ (by rw[h4];simp;omega) #[];rw[h3]at hr;refine⟨?_,?_⟩
 ·simp only[FI,Sem.run_bind,hr];simp only[zr7,Nat.mul_one];rfl
 ·simp only[FI,Sem.events_bind,he,hr];simp
theorem U7(a:YQ):seen π 27 #[⟨.cell a,true,false⟩]=#[⟨.cell a,true,false⟩]:=kQ
section
variable {p:Pa}{cs:List YU}{ta:Option YQ}{tc:Nat}{H:YM}
def kS(p:Pa):List Obj:=[.cells (zs3 #[.string .empty] p.m) 9,.cells #[.slice (some (aQ p.An 0)) p.m p.m] 70,.chan 0 #[] false 0 0 false,.cells #[.chan (some p.Cn)] 114,.cells #[.int .u64 0,.int .u32 0] 122]
theorem zh5(hm:p.m<=50)(kR:1<=p.n)(hn:p.n<=16)(hA:p.An=H.1.size)(Cx:p.Ba=H.1.size+1)(hC:p.Cn=H.1.size+2)(NI:p.Bt=H.1.size+3)(hW:p.Wg=H.1.size+4){Shun:Loc->Prop}(Ia:∀ a:YQ,H.1.size<=a.block->¬Shun (.cell a)):
  ∃ k,Wm π (DB (fun w=>min w.1.size p.Wg) Shun (· = p.An)) (fun g w=>(∃ J,g=nM π p cs ta tc 0 J)/\Fx H (kS p) w) k (Fx H []) (Cu π p cs ta tc p.n):=by
 obtain⟨r1,r2,r3,r4,r7,Jm,f6,f9,f4⟩:=zh2 p cs ta tc p.n p.An p.Ba p.Cn p.Bt;have mh:∀{l:List Obj}(w:YM)(d:Nat),Fx H l w->Fx H l (w.at d):=fun w d h=>h.at d
 have e11:Wm π (DB (fun w=>min w.1.size p.Wg) Shun (· = p.An)) (fun g w=>(∃ J,g=nM π p cs ta tc 0 J)/\Fx H (kS p) w) 0 (Fx H (kS p)) (ax π true 9 (NG π p cs ta tc)):=fun w hw=>⟨⟨_,zh1 p cs ta tc⟩,hw⟩
 have zh6:=dH (fun w=>DB.none w) mh 9 _ sP e11;have e10:Wm π (DB (fun w=>min w.1.size p.Wg) Shun (· = p.An)) (fun g w=>(∃ J,g=nM π p cs ta tc 0 J)/\Fx H (kS p) w) (0+9+1) (Fx H [.cells (zs3 #[.string .empty] p.m) 9,.cells #[.slice (some (aQ p.An 0)) p.m p.m] 70,.chan 0 #[] false 0 0 false,.cells #[.chan (some p.Cn)] 114]) (FK π p cs ta tc p.n p.An p.Ba p.Cn p.Bt):=
  ⟨Jm,_,_,mh,fun w hw=>⟨_,_,by
   have h:=zh0 p cs ta tc p.n p.An p.Ba p.Cn p.Bt w;have hs:w.1.size=p.Wg:=by rw[hw.size,hW];rfl
   rw[hs]at h;exact h,DB.quiet tQ,hw.push _⟩,zh6⟩
 have e9':=dH (fun w=>DB.none w) mh 3 _ sP e10;have e9:Wm π (DB (fun w=>min w.1.size p.Wg) Shun (· = p.An)) (fun g w=>(∃ J,g=nM π p cs ta tc 0 J)/\Fx H (kS p) w) (0+9+1+3+1) (Fx H [.cells (zs3 #[.string .empty] p.m) 9,.cells #[.slice (some (aQ p.An 0)) p.m p.m] 70,.chan 0 #[] false 0 0 false,.cells #[.chan none] 114]) (Cw π p cs ta tc p.n p.An p.Ba p.Cn p.Bt):=
  ⟨rfl,_,_,mh,fun w hw=>⟨_,_,by
   obtain⟨h1,h2⟩:=zhZ p cs ta tc p.n p.An p.Ba p.Cn p.Bt w;have hc:w.1[p.Bt]?=some (.cells #[.chan none] 114):=by rw[NI,hw.new 3];rfl
   exact Nj (main:=true) h1 h2 (v:=.chan none) rfl (by rw[uH hc];rfl) (Fz hc) (by rw[f9];exact U7 _),DB.cell (by rw[zsG];exact Yp _) (Ia _ (by show _<=p.Bt;omega)) (by
    have:=hw.size;simp only[Yg,zsi]at this;show p.Bt<min _ _;rw[zsG];omega) (by show ¬p.Bt=p.An;omega),by
   have:=Fx.set (H:=H) (w:=w) (v:=.chan (some p.Cn)) (l:=[.cells (zs3 #[.string .empty] p.m) 9,.cells #[.slice (some (aQ p.An 0)) p.m p.m] 70,.chan 0 #[] false 0 0 false]) hw;rw[NI];exact this⟩,e9'⟩
 have e8:Wm π (DB (fun w=>min w.1.size p.Wg) Shun (· = p.An)) (fun g w=>(∃ J,g=nM π p cs ta tc 0 J)/\Fx H (kS p) w) (0+9+1+3+1+1) (Fx H [.cells (zs3 #[.string .empty] p.m) 9,.cells #[.slice (some (aQ p.An 0)) p.m p.m] 70,.chan 0 #[] false 0 0 false]) (Jl π p cs ta tc p.n p.An p.Ba p.Cn):=
  ⟨rfl,_,_,mh,fun w hw=>⟨_,_,by
   have h:=zhY p cs ta tc p.n p.An p.Ba p.Cn w;have hs:w.1.size=p.Bt:=by rw[hw.size,NI];rfl
   rw[hs]at h;exact h,DB.quiet tQ,hw.push _⟩,e9⟩
 have e7:Wm π (DB (fun w=>min w.1.size p.Wg) Shun (· = p.An)) (fun g w=>(∃ J,g=nM π p cs ta tc 0 J)/\Fx H (kS p) w) (0+9+1+3+1+1+1) (Fx H [.cells (zs3 #[.string .empty] p.m) 9,.cells #[.slice (some (aQ p.An 0)) p.m p.m] 70]) (FJ π p cs ta tc p.n p.An p.Ba):=
  ⟨r7,_,_,mh,fun w hw=>⟨_,_,by
   have h:=zhX p cs ta tc p.n p.An p.Ba w;have hs:w.1.size=p.Cn:=by rw[hw.size,hC];rfl
   rw[hs]at h;exact h,DB.quiet tQ,hw.push _⟩,e8⟩
 have e6':=dH (fun w=>DB.none w) mh 3 _ sP e7;have e6:Wm π (DB (fun w=>min w.1.size p.Wg) Shun (· = p.An)) (fun g w=>(∃ J,g=nM π p cs ta tc 0 J)/\Fx H (kS p) w) (0+9+1+3+1+1+1+3+1) (Fx H [.cells (zs3 #[.string .empty] p.m) 9,.cells #[.slice none 0 0] 70]) (Cv π p cs ta tc p.n p.An p.Ba):=
  ⟨rfl,_,_,mh,fun w hw=>⟨_,_,by
   obtain⟨h1,h2⟩:=zhW p cs ta tc p.n p.An p.Ba w;have hc:w.1[p.Ba]?=some (.cells #[.slice none 0 0] 70):=by rw[Cx,hw.new 1];rfl
   exact Nj (main:=true) h1 h2 (v:=.slice none 0 0) rfl (by rw[uH hc];rfl) (Fz hc) (by rw[f6];exact U7 _),DB.cell (by rw[zsG];exact Yp _) (Ia _ (by show _<=p.Ba;omega)) (by
    have:=hw.size;simp only[Yg,zsi]at this;show p.Ba<min _ _;rw[zsG];omega) (by show ¬p.Ba=p.An;omega),by
   have:=Fx.set (H:=H) (w:=w) (v:=.slice (some (aQ p.An 0)) p.m p.m) (l:=[.cells (zs3 #[.string .empty] p.m) 9]) hw;rw[Cx];exact this⟩,e6'⟩
 have e5:Wm π (DB (fun w=>min w.1.size p.Wg) Shun (· = p.An)) (fun g w=>(∃ J,g=nM π p cs ta tc 0 J)/\Fx H (kS p) w) (0+9+1+3+1+1+1+3+1+1) (Fx H [.cells (zs3 #[.string .empty] p.m) 9]) (Jk π p cs ta tc p.n p.An):=
  ⟨rfl,_,_,mh,fun w hw=>⟨_,_,by
   have h:=zhV p cs ta tc p.n p.An w;have hs:w.1.size=p.Ba:=by rw[hw.size,Cx];rfl
   rw[hs]at h;exact h,DB.quiet tQ,hw.push _⟩,e6⟩
 have e4:Wm π (DB (fun w=>min w.1.size p.Wg) Shun (· = p.An)) (fun g w=>(∃ J,g=nM π p cs ta tc 0 J)/\Fx H (kS p) w) (0+9+1+3+1+1+1+3+1+1+1) (Fx H []) (Aq π p cs ta tc p.n):=
  ⟨r4,_,_,mh,fun w hw=>⟨_,_,by
   obtain⟨h1,h2⟩:=zhU p cs ta tc p.n w;obtain⟨k1,k2⟩:=wI h2;obtain⟨q1,q2⟩:=zh4 (Yq hm dQ) w;have h3:=Ak (main:=true) h1 (k1.trans q1);rw[k2,q2,seen_none]at h3;have hs:w.1.size=p.An:=by rw[hw.size,hA];rfl
   rw[hs]at h3;exact h3,DB.quiet tQ,hw.push _⟩,e5⟩
 have e3':=dH (fun w=>DB.none w) mh 8 _ sP e4;have e3:=kv (fun w=>DB.none w) mh r3 (v:=.bool false) (fun w=>by
  have:=zhT p cs ta tc p.n w;rw[show decide ((p.n:Int)>16)=false from YD oQ]at this;exact this) e3'
 have e2':=dH (fun w=>DB.none w) mh 3 _ sP e3;have e2:=kv (fun w=>DB.none w) mh r2 (v:=.bool false) (fun w=>by
  have:=zhS p cs ta tc p.n w;rw[show decide ((p.n:Int)<1)=false from YD oQ]at this;exact this) e2'
 have e1':=dH (fun w=>DB.none w) mh 2 _ sP e2;have e1:=kv (fun w=>DB.none w) mh r1 (v:=.bool false) (fun w=>by
  have:=zhR p cs ta tc p.n w;rw[show decide ((p.m:Int)>50)=false from YD oQ]at this;exact this) e1'
 exact⟨_,dH (fun w=>DB.none w) mh 10 _ sP e1⟩
end
variable (pG:Y2)
section
variable (p:Pa)(z:YU)(zs:List YU)(ta:Option YQ)(tc:Nat)(k:Int)(J:Nat->YN)
set_option maxRecDepth 100000
def x1:YP:=ax pG true 3 (back (wz pG p (z::zs) ta tc k J) (z::zs))
theorem U8(w:YM):fe (x1 π p z zs ta tc k J)=true/\(x1 π p z zs ta tc k J).frame.fn=27/\(x1 π p z zs ta tc k J).status=.running/\(Zf (x1 π p z zs ta tc k J).frame.eval (opAt (x1 π p z zs ta tc k J))).runT π w #[]=(lA (aQ p.Ba 0)).runT π w #[]:=⟨kQ,kQ,kQ,kQ⟩
def x2(v:YN):YP:=fin (x1 pG p z zs ta tc k J) v
theorem zh7(v:YN):(ax π true 4 (x2 π p z zs ta tc k J v)).status=.running/\∀ w,YV π true (ax π true 4 (x2 π p z zs ta tc k J v)) w=.go {frame:=z.finish (.tuple #[v,.nilIface]),callers:=zs,status:=.running,dying:=none} w #[]:=⟨kQ,fun w=>kQ⟩
theorem U9(f:Nat->Nat)(s:ByteArray):[Y8 π 23 #[.string s] .normal].map (rF f)=[Y8 π 23 #[.string s] .normal]:=by
 rw[Yi,Yj,Mb];simp[rV]
end
theorem Va{gM:YM->Nat}{Shun:Loc->Prop}{T:Nat->Prop}{Stop Stop':YP->YM->Prop}{Q:YP->Prop}{K:YM->Prop}(hK:∀ w d,K w->K (World.at w d))(hQ:∀ g,Q g->∃ m,Wm π (DB gM Shun T) Stop m K g):∀(n:Nat)(g:YP),Wk π true (fun _=>True) (fun _=>False) Q n g->∃ m,Wm π (DB gM Shun T) Stop m K g
 | 0,g,h=>hQ g h
 |n+1,g,h=>by
  rcases h with h|⟨hr,g',es,h1,h2,h3⟩
  ·exact hQ g h
  ·obtain⟨m,hm⟩:=Va (Stop':=Stop') hK hQ n g' h3;have he:es=#[]:=by
    apply Array.eq_empty_of_size_eq_zero;rcases zst es.size with h0|h0
    ·exact h0
    ·exact(h2 es[0] (zr2 h0)).elim
   subst he;exact⟨m+1,hr,g',K,hK,fun w hw=>⟨w,#[],h1 w trivial,DB.none w,hw⟩,hm⟩
structure FL(p:Pa)(ta:Option YQ)(H W0:YM):Prop where
 pP:p.m<=50
 n1:1<=p.n
 n16:p.n<=16
 FM:∀ a:YQ,H.1.size<=a.block->¬p.Shun (.cell a)
 EZ:∀ a:YQ,p.R a.block->¬p.Shun (.cell a)
 low:uE p.R p.O p.B p.os W0.1
 same:∀ k,p.R k\/p.O k->H.1[k]?=W0.1[k]?
 h0:p.h0=jo Classical.propDecidable p.R p.O p.B W0.1
 B:p.B<=H.1.size
 os:H.os=p.os
 txt:∀ k,k<p.m->∃ a,ta=some a/\H.cell? (a.add k)=some (.string (p.tx k))/\a.block<H.1.size/\¬p.Shun (.cell (a.add k))
 cont:∀ i,i<p.m->kM (env π p.B p.R p.O p.os) ([Y8 π 23 #[.string (p.tx i)] .normal],p.h0) (p.Rr i)
 val:∀ i v w,i<p.m->p.Rr i v w->p.dP i v
 dP:∀ i v,p.dP i v->∃ l,v=.string l
def Pa.lay(p:Pa)(H w0:YM)(j s:Nat):Pa:={p with w0,An:=H.1.size,Ba:=H.1.size+1,Cn:=H.1.size+2,Bt:=H.1.size+3,Wg:=H.1.size+4,j0:=j,s0:=s}
section
variable {p:Pa}{ta:Option YQ}{H W0 w0:YM}{j s tc:Nat}{cs:List YU}
theorem NJ(X:FL p ta H W0)(h:Fx H (kS (p.lay H w0 j s)) w0):wL (p.lay H w0 j s) ta where
 n16:=X.n16
 pP:=X.pP
 bt:=⟨_,by
  have:=h.new 3;exact this⟩
 ba:=⟨_,by
  have:=h.new 1;exact this⟩
 Cs:=by show H.1.size+3≠H.1.size+4/\H.1.size+3≠H.1.size+2/\H.1.size+3≠H.1.size;omega
 Ct:=by show H.1.size+1≠H.1.size+4/\H.1.size+1≠H.1.size+2/\H.1.size+1≠H.1.size;omega
 UY:=X.FM _ (by show H.1.size<=H.1.size+3;omega)
 UZ:=X.FM _ (by show H.1.size<=H.1.size+1;omega)
 txt k hk:=by
  obtain⟨a,h1,h2,h3,h4⟩:=X.txt k hk;have hs:=h.size;refine⟨a,h1,?_,?_,?_,?_,?_,h4⟩
  ·have blk:(a.add k).block=a.block:=by cases a with|mk b o s=>simp[ZX];try(split<;>rfl)
   have:=h.low (a.add k).block oQ;have e:w0.cell? (a.add k)=H.cell? (a.add k):=by
    unfold Z9;rw[this]
   exact e.trans h2
  ·show a.block<w0.1.size;omega
  ·show a.block≠H.1.size+4;omega
  ·show a.block≠H.1.size+2;omega
  ·show a.block≠H.1.size;omega
theorem zh8(X:FL p ta H W0)(hj:1<=j)(h:Fx H (kS (p.lay H w0 j s)) w0):dR ((p.lay H w0 j s).so π cs ta tc) where
 hW:=by
  have:=h.size;show H.1.size+4<w0.1.size;simp[kS]at this;omega
 hC:=by
  have:=h.size;show H.1.size+2<w0.1.size;simp[kS]at this;omega
 hA:=by
  have:=h.size;show H.1.size<w0.1.size;simp[kS]at this;omega
 wa:=by show H.1.size+4≠H.1.size;omega
 wc:=by show H.1.size+4≠H.1.size+2;omega
 ca:=by show H.1.size+2≠H.1.size;omega
 hn:=X.n1
 zel:=X.n16
 j0:=hj
 aw:=zhI (NJ X h)
 ar:=zgE (p:=p.lay H w0 j s) X.n16 (fun i v _ hv=>X.dP i v hv)
 rt:=Ng X.low.g
 call:=Uk X.low.g X.low.gs
 code:=codeOk X.low.gs
 cont i hi:=X.cont i hi
 val i v w hi hv:=X.val i v w hi hv
 plain i v f hv:=by
  obtain⟨l,rfl⟩:=X.dP i v hv;rw[rV]
 TD i w hi hw:=by
  have aj:∀ k,p.R k\/p.O k->k<p.B:=fun k hk=>hk.elim (fun x=>(X.low.ro k x).1) (fun x=>(X.low.op k x).1)
  have hB:=X.B;have hz:w0.1.size<=w.1.size:=hw.size;have hs:=h.size;have:=mL.begin (w:=w) X.low (fun k hk=>by
   have h1:=aj k hk;have h2:w.1[k]?=w0.1[k]?:=hw.low k (by show k<w0.1.size;omega) (by show k≠H.1.size+4;omega) (by show k≠H.1.size+2;omega) (by show k≠H.1.size;omega);rw[h2,h.low k oQ];exact X.same k hk) oQ (by
   have h1:w.os=w0.os:=hw.os;rw[h1,h.os];exact X.os) (g:=23) (args:=#[.string (p.tx i)]) kQ (fun v hv=>by
   simp only[Yn,Yl,Yo,YL]at hv;subst hv;simp[ah])
  refine⟨fun j=>if j<p.B then j else w.1.size+(j-p.B),?_,U9 _ _,?_,fun b hb=>?_⟩
  ·rw[<-X.h0]at this;exact this
  ·show p.h0.size=p.B;rw[X.h0,Fp]
  ·have hb:p.B<=b:=hb;show w0.1.size<=if b<p.B then b else w.1.size+(b-p.B)
   rw[YG oQ];omega
 EB:=by
  have:=X.B;have hs:=h.size;show p.B<=w0.1.size;omega
 IZ b hb:=by
  have h1:b<p.B:=hb.elim (fun x=>(X.low.ro b x).1) (fun x=>(X.low.op b x).1);have:=X.B;have hs:=h.size;refine⟨?_,?_,?_,?_⟩
  ·show b<w0.1.size;omega
  ·show b≠H.1.size+4;omega
  ·show b≠H.1.size+2;omega
  ·show b≠H.1.size;omega
 EZ a ha:=X.EZ a ha
theorem zh9(h:Fx H (kS (p.lay H w0 j s)) w0){AW Out:YP->Prop}:KW ((p.lay H w0 j s).sc π AW Out) w0 where
 low _ _ _ _ _:=rfl
 eN:=⟨0,0,h.new 4⟩
 pay:=⟨_,h.new 0,size_madeCells _ _⟩
 ly:=⟨_,_,_,h.new 2⟩
 os:=rfl
 out:=rfl
 tape:=rfl
 size:=Yp _
end
section
variable {p:Pa}{ta:Option YQ}{H W0:YM}{tc:Nat}{z:YU}{zs:List YU}
structure mi(p:Pa)(H:YM)(w:YM):Prop where
 low:∀ b,b<H.1.size->w.1[b]?=H.1[b]?
 os:w.os=H.os
 out:w.output=H.output
 tape:w.tape=H.tape
 size:H.1.size+5<=w.1.size
 dP:∃ cs,w.1[H.1.size]?=some (.cells cs 9)/\cs.size=p.m/\∀ i,i<p.m->∃ v,cs[i]?=some v/\p.dP i v
theorem mi.at(h:mi p H w)(d:Nat):mi p H (w.at d):=⟨h.low,h.os,h.out,h.tape,h.size,h.dP⟩
def FN(p:Pa)(H:YM)(z:YU)(zs:List YU):YP:={frame:=z.finish (.tuple #[.slice (some (aQ H.1.size 0)) p.m p.m,.nilIface]),callers:=zs,status:=.running,dying:=none}
theorem zia{w0:YM}{j s:Nat}(X:FL p ta H W0)(h:Fx H (kS (p.lay H w0 j s)) w0){k:Int}{J:Nat->YN}(hg:Wk π true (fun _=>True) (fun _=>False) (fun g=>g=back (wz π (p.lay H w0 j s) (z::zs) ta tc k J) (z::zs)) n g):
  ∃ m,Wm π (DB (fun w=>w.1.size) (fun l=>p.Shun l\/((p.lay H w0 j s).so π (z::zs) ta tc).Sh l) (fun _=>False)) (fun g w=>g=FN p H z zs/\KW ((p.lay H w0 j s).so π (z::zs) ta tc) w/\mi p H w) m (fun w=>KW ((p.lay H w0 j s).so π (z::zs) ta tc) w/\mi p H w) g:=by
 have hK:∀(w:YM)(d:Nat),(KW ((p.lay H w0 j s).so π (z::zs) ta tc) w/\mi p H w)->KW ((p.lay H w0 j s).so π (z::zs) ta tc) (w.at d)/\mi p H (w.at d):=fun w d hw=>⟨hw.1.at d,hw.2.at d⟩
 refine Va (Stop':=fun _ _=>True) hK (fun g hq=>?_) n g hg;subst hq;have o:=zh7 (p.lay H w0 j s) z zs ta tc k J (.slice (some (aQ H.1.size 0)) p.m p.m);have a2:Wm π (DB (fun w=>w.1.size) (fun l=>p.Shun l\/((p.lay H w0 j s).so π (z::zs) ta tc).Sh l) (fun _=>False)) (fun g w=>g=FN p H z zs/\KW ((p.lay H w0 j s).so π (z::zs) ta tc) w/\mi p H w) 1 (fun w=>KW ((p.lay H w0 j s).so π (z::zs) ta tc) w/\mi p H w) (ax π true 4 (x2 π (p.lay H w0 j s) z zs ta tc k J (.slice (some (aQ H.1.size 0)) p.m p.m))):=
  ⟨o.1,FN p H z zs,_,hK,fun w hw=>⟨w,#[],o.2 w,DB.none w,hw⟩,fun w hw=>⟨rfl,hw⟩⟩
 have FO:=dH (fun w=>DB.none w) hK 4 _ sP a2;have a1:Wm π (DB (fun w=>w.1.size) (fun l=>p.Shun l\/((p.lay H w0 j s).so π (z::zs) ta tc).Sh l) (fun _=>False)) (fun g w=>g=FN p H z zs/\KW ((p.lay H w0 j s).so π (z::zs) ta tc) w/\mi p H w) (1+4+1) (fun w=>KW ((p.lay H w0 j s).so π (z::zs) ta tc) w/\mi p H w) (x1 π (p.lay H w0 j s) z zs ta tc k J):=by
  refine⟨(U8 (p.lay H w0 j s) z zs ta tc k J w0).2.2.1,_,_,hK,fun w hw=>?_,FO⟩;obtain⟨e1,e2,_,e3⟩:=U8 (p.lay H w0 j s) z zs ta tc k J w;refine⟨w,_,k_ld (main:=true) e1 e3 (U0 (NJ X h) hw.1) (by rw[e2];exact Jh _),DB.cell lQ ?_ ?_ id,hw⟩
  ·rintro(h1|⟨a,h1,h2⟩)
   ·exact X.FM _ (by show H.1.size<=H.1.size+1;omega) h1
   ·cases h1;have h2:H.1.size+1=H.1.size+4:=h2;omega
  ·have:=hw.2.size;show H.1.size+1<w.1.size;omega
 exact⟨_,dH (fun w=>DB.none w) hK 3 _ sP a1⟩
theorem Vb(X:FL p ta H W0){q:Nat->Nat}(sl:Option (Nat×Nat))(h0:gs[0]?=some (Cu π p (z::zs) ta tc p.n))(hL:Z3 π t gs q)(hP:Past p.Shun H.1.size t):
  ∃ N gs' w' sl' t' q',runNT π N (Y4 gs H sl) t=(.next (Y4 gs' w' sl'),t')/\gs'[0]?=some (FN p H z zs)/\Z3 π t' gs' q'/\Past (fun l=>p.Shun l\/∃ a,l=.cell a/\a.block=H.1.size+4) w'.1.size t'/\mi p H w':=by
 have nJ:1<=gs.size:=(XY.1 h0).1;obtain⟨k,hk⟩:=zh5 (p:=p.lay H H gs.size 0) (cs:=z::zs) (ta:=ta) (tc:=tc) (H:=H) X.pP X.n1 X.n16 rfl rfl rfl rfl rfl (Shun:=p.Shun) X.FM;have hPk:wM (fun w=>min w.1.size (p.lay H H gs.size 0).Wg) p.Shun (· =(p.lay H H gs.size 0).An) H t:=by
  refine⟨?_,sH.low hP (fun b hb=>?_)⟩
  ·have e:min H.1.size (p.lay H H gs.size 0).Wg=H.1.size:=Nat.min_eq_left (by show H.1.size<=H.1.size+4;omega);show Past p.Shun (min H.1.size (p.lay H H gs.size 0).Wg) t;rw[e];exact hP
  ·have hb:b=H.1.size:=hb;omega
 obtain⟨N1,sG,a1,w1,ym,t1,q1,r1,r2,r3,⟨⟨J,rfl⟩,r4⟩,r5,r6,r7⟩:=uI (sl:=sl) (fun w d=>rfl) (K:=Fx H []) (fun w d h=>Fx.at h d) hk (Fx.refl H) h0 hL hPk;have r4:Fx H (kS (p.lay H w1 sG.size t1.size)) w1:=r4;have Jn:=zhK (cs:=z::zs) (tc:=tc) (NJ X r4) p.n lQ J;have Jn:nI ((p.lay H w1 sG.size t1.size).so π (z::zs) ta tc) p.n (nM π (p.lay H w1 sG.size t1.size) (z::zs) ta tc ((p.n-p.n:Nat):Int) J):=Jn;rw[zsw]at Jn;obtain⟨N2,NK,w2,Cy,t2,m1,a,q2,e1,⟨kk,J',nn,e2⟩,e3,e4,e5,e6,cs,e7,e8,e9⟩:=zeJ (S:=(p.lay H w1 sG.size t1.size).so π (z::zs) ta tc) (zh8 X oQ r4) (B:=min w1.1.size (H.1.size+4)) ym rfl r3 r5 r6 (Nat.min_le_left _ _) (Nat.min_le_right _ _) rfl (fun op hop x hx ad lu=>r7 op hop x hx ad lu) (zh9 r4) (r4.new 4) (r4.new 2) Jn;have Ec:mi p H w2:=by
  have hs:=r4.size;have hz:w1.1.size<=w2.1.size:=e6.size;simp only[kS,Yg,zsi]at hs;refine⟨fun b hb=>?_,?_,?_,?_,oQ,cs,e7,e8,e9⟩
  ·have h1:w2.1[b]?=w1.1[b]?:=e6.low b (by show b<w1.1.size;omega) (by show b≠H.1.size+4;omega) (by show b≠H.1.size+2;omega) (by show b≠H.1.size;omega);rw[h1];exact r4.low b hb
  ·have h1:w2.os=w1.os:=e6.os;rw[h1,r4.os]
  ·have h1:w2.output=w1.output:=e6.out;rw[h1,r4.out]
  ·have h1:w2.tape=w1.tape:=e6.tape;rw[h1,r4.tape]
 obtain⟨m,hm⟩:=zia X r4 e2;obtain⟨N3,Jo,a3,w3,FP,t3,q3,f1,f2,f3,⟨rfl,f4,f5⟩,f6,f7,f8⟩:=uI (sl:=Cy) (fun w d=>rfl) (fun w d h=>⟨KW.at h.1 d,mi.at h.2 d⟩) hm ⟨e6,Ec⟩ e1 e4 ⟨e5,fun op _ x _ ad lu=>lu.elim⟩;refine⟨N1+N2+N3,Jo,w3,FP,t3,q3,?_,f3,f6,f7,f5⟩;have NL:runNT π (N1+N2) (Y4 gs H sl) t=(.next (Y4 NK w2 Cy),t2):=by
  rw[runNT_add,r1];exact m1
 rw[runNT_add,NL];exact f1
end
structure fK(H w:YM):Prop where
 size:H.1.size<=w.1.size
 low:∀ b,b<H.1.size->w.1[b]?=H.1[b]?
 os:w.os=H.os
 out:w.output=H.output
 tape:w.tape=H.tape
theorem fK.refl(w:YM):fK w w:=⟨Yp _,fun _ _=>rfl,rfl,rfl,rfl⟩
theorem fK.at{H:YM}(h:fK H w)(d:Nat):fK H (w.at d):=⟨h.size,h.low,h.os,h.out,h.tape⟩
theorem fK.trans{a b c:YM}(h:fK a b)(k:fK b c):fK a c:=⟨Yq h.size k.size,fun x hx=>(k.low x (Yr hx h.size)).trans (h.low x hx),k.os.trans h.os,k.out.trans h.out,k.tape.trans h.tape⟩
theorem mi.gZ{p:Pa}{H:YM}(h:mi p H w):fK H w:=⟨by have:=h.size;omega,h.low,h.os,h.out,h.tape⟩
def NM{α:Type}(r:α->α->Prop):Option α->Option α->Prop
 |none,some _=>True
 |some y,some x=>r y x
 |_,none=>False
theorem zib{α:Type}{r:α->α->Prop}{x:α}(h:Acc r x):Acc (NM r) (some x):=by
 have h0:Acc (NM r) none:=Acc.intro _ fun y hy=>by cases y<;>exact hy.elim
 induction h with
 |intro x _ ih=>
  refine Acc.intro _ fun y hy=>?_
  cases y with
  |none=>exact h0
  |some y=>exact ih y hy
section
variable {R O:Nat->Prop}{B:Nat}{os:Os}{W0 H:YM}{s:ByteArray}{Rr:YN->YM->Prop}{An:YN->Prop}{Shun:Loc->Prop}{z:YU}{zs:List YU}
def Cz(Shun:Loc->Prop)(b:Nat):Prop:=∀ l,Shun l->∃ a:YQ,l=.cell a/\a.block<b
theorem Vd(hS:Cz Shun H.1.size)(hR:∀ a:YQ,R a.block->¬Shun (.cell a))(Jp:∀ k,R k->k<H.1.size){f:Nat->Nat}{bd:Nat}(jq:H.1.size<=bd)(hf:∀ b,(env π B R O os).I n b->H.1.size<=f b/\f b<bd)(he:pE (env π B R O os) f n e):EvL Shun bd e:=by
 have hq:=MP he;refine⟨fun x hx hs=>?_,hq.1,hq.2,?_⟩
 ·obtain⟨a,ha,ud⟩:=hS _ hs;rcases he with ⟨m,rfl,hm⟩|⟨k,hk,FT,h1|⟨a',h1,h2⟩⟩|⟨a',h1,rfl⟩|h1
  ·cases m<;>first |exact hm.elim|simp[Zi,Zv]at hx
  ·obtain⟨loc,wr,sy⟩:=e;dsimp only at h1 FT;subst h1;subst FT;cases wr<;>simp only[Zi,Zv,YA]at hx<;>subst hx<;>cases ha
  ·obtain⟨loc,wr,sy⟩:=e;dsimp only at h2;subst h2;simp only[Zi,Zv,YA]at hx;subst hx;cases ha;have:=(hf k hk).1;omega
  ·simp only[Zi,Zv,YA]at hx;subst hx;exact absurd hs (hR a' h1)
  ·obtain⟨loc,wr,sy⟩:=e;dsimp only at h1;subst h1;simp only[Zi,Zv,YA]at hx;subst hx;cases ha
 ·rcases he with ⟨m,rfl,hm⟩|⟨k,hk,FT,h1|⟨a',h1,h2⟩⟩|⟨a',h1,rfl⟩|h1
  ·cases m<;>first |exact hm.elim|trivial
  ·obtain⟨loc,wr,sy⟩:=e;dsimp only at h1 FT;subst h1;subst FT;cases wr<;>exact(hf k hk).2
  ·obtain⟨loc,wr,sy⟩:=e;dsimp only at h2;subst h2;show a'.block<bd;rw[h1];exact(hf k hk).2
  ·show a'.block<bd;have:=Jp _ h1;omega
  ·obtain⟨loc,wr,sy⟩:=e;dsimp only at h1;subst h1;trivial
def fg(z:YU)(zs:List YU)(v:YN):YP:={frame:=z.finish v,callers:=zs,status:=.running,dying:=none}
theorem zic(low:uE R O B os W0.1)(hB:B<=H.1.size)(cont:kM (env π B R O os) ([Y8 π 23 #[.string s] .normal],jo Classical.propDecidable R O B W0.1) Rr)(val:∀ v w,Rr v w->An v)(Rb:∀ v,An v->∃ l,v=.string l)(hS:Cz Shun H.1.size)(hR:∀ a:YQ,R a.block->¬Shun (.cell a)):
  Wb π (NM (Nx (env π B R O os))) (wM (fun w=>w.1.size) Shun (fun _=>False)) (fun x g w=>match x with
   |some y=>∃ f,mL (env π B R O os) tM ([Y8 π 23 #[.string s] .normal],jo Classical.propDecidable R O B W0.heap) f y w/\g=eG (y.1.map (rF f)) (z::zs)/\(∀ b,B<=b->b<y.2.size->H.heap.size<=f b)/\fK H w
   |none=>(∃ v,An v/\g=fg z zs v)/\fK H w) (fun g w=>(∃ v,An v/\g=fg z zs v)/\fK H w) where
 Ji:=fun w t d k=>k
 mute:=fun w t i fn pos es hi hm k=>U6 hi hm k
 step:=by
  intro x g w hx;cases x with
  |none=>exact .inl hx
  |some y=>
   obtain⟨f,h1,rfl,h3,h4⟩:=hx;have Jp:∀ k,R k->k<H.1.size:=fun k hk=>by have:=(low.ro k hk).1;omega
   have hrt:bD (env π B R O os):=Ng low.g;refine .inr ⟨TE sQ,fun d=>?_⟩;have wN:mL (env π B R O os) tM ([Y8 π 23 #[.string s] .normal],jo Classical.propDecidable R O B W0.1) f y (w.at d):=⟨h1.fit,h1.rel,h1.os,h1.ok,h1.reach⟩;have hg:=h4.at d;refine⟨⟨f,wN,rfl,h3,hg⟩,?_⟩;have wq:∀ k,(env π B R O os).I y.2.size k->f k<(w.at d).1.size:=fun k hk=>EX wN.fit wN.rel hk.2
   by_cases l6:wm y.1
   ·obtain⟨v,wl,w',es,k1,k2,_,k4,k5⟩:=wN.leave hrt cont l6 true z zs;have hv:=val v wl k2;obtain⟨l,rfl⟩:=Rb v hv;rw[show rV f (.string l)=.string l by rw[rV]]at k4;have bm:w'.1.size=(w.at d).1.size:=by have:=k5.size;omega
    refine⟨_,w',es,k4,fun t fn pos hk=>NH ⟨by show(w.at d).1.size<=w'.1.size;omega,fun e he=>Vd hS hR Jp (by show H.1.size<=w'.1.size;have:=hg.size;omega) (fun b hb=>⟨h3 b hb.1 hb.2,by
     show f b<w'.1.size;rw[bm];exact wq b hb⟩) (k5.evs e he),fun _ _ _ _ _ hf=>hf.elim⟩ hk,none,trivial,⟨_,hv,rfl⟩,?_⟩
    exact⟨by have:=hg.size;omega,fun b hb=>by
     rw[k5.stay b (by have:=hg.size;omega) fun k hk he=>?_]
     ·exact hg.low b hb
     ·have:=h3 k hk.1 hk.2;omega,k5.os.trans hg.os,k5.out.trans hg.out,k5.tape.trans hg.tape⟩
   ·obtain⟨y',w',es,k1,k2,k3,k4,k5⟩:=wN.step hrt (Uk low.g low.gs) (codeOk low.gs) cont l6 true (z::zs);have bm:=k2.size;have TZ:=hg.size;have bC:∀ b,B<=b->b<y'.2.size->H.1.size<=f b/\f b<w'.1.size:=fun b aX bo=>by
     rcases Ys b y.2.size with aj|dX
     ·have h5:=h3 b aX aj;have h6:=wq b ⟨aX,aj⟩;omega
     ·have h5:=wN.rel.new b dX;omega
    refine⟨_,w',es,k1,fun t fn pos hk=>NH ⟨by show(w.at d).1.size<=w'.1.size;omega,fun e he=>Vd hS hR Jp (by show H.1.size<=w'.1.size;omega) (fun b hb=>bC b hb.1 hb.2) (k2.evs e he),fun _ _ _ _ _ hf=>hf.elim⟩ hk,some y',k5,f,k4,rfl,fun b aX bo=>(bC b aX bo).1,?_⟩;exact⟨oQ,fun b hb=>by
     rw[k2.stay b oQ fun k hk he=>?_]
     ·exact hg.low b hb
     ·have:=h3 k hk.1 hk.2;omega,k2.os.trans hg.os,k2.out.trans hg.out,k2.tape.trans hg.tape⟩
theorem Ve(low:uE R O B os W0.1)(same:∀ k,R k\/O k->H.1[k]?=W0.1[k]?)(hB:B<=H.1.size)(bG:H.os=os)(cont:kM (env π B R O os) ([Y8 π 23 #[.string s] .normal],jo Classical.propDecidable R O B W0.1) Rr)(val:∀ v w,Rr v w->An v)(Rb:∀ v,An v->∃ l,v=.string l)(hS:Cz Shun H.1.size)(hR:∀ a:YQ,R a.block->¬Shun (.cell a))
    {q:Nat->Nat} (sl:Option (Nat×Nat)) (h0:gs[0]?=some (eG [Y8 π 23 #[.string s] .normal] (z::zs))) (hL:Z3 π t gs q) (hP:Past Shun H.1.size t):
  ∃ N gs' w' sl' t' q' v,runNT π N (Y4 gs H sl) t=(.next (Y4 gs' w' sl'),t')/\gs'[0]?=some (fg z zs v)/\An v/\Z3 π t' gs' q'/\Past Shun w'.1.size t'/\fK H w':=by
 have hb:=mL.begin (w:=H) low same hB bG (g:=23) (args:=#[.string s]) kQ (fun v hv=>by
  simp only[Yn,Yl,Yo,YL]at hv;subst hv;simp[ah])
 obtain⟨N,gs',a',w',sl',t',q',r1,r2,r3,⟨⟨v,hv,rfl⟩,r4⟩,r5,r6⟩:=U5 (zic (H:=H) (z:=z) (zs:=zs) low hB cont val Rb hS hR) (some ([Y8 π 23 #[.string s] .normal],jo Classical.propDecidable R O B W0.1)) (zib cont.acc) _ gs _ H sl t q (zv0 _) h0 hL ⟨hP,fun _ _ _ _ _ hf=>hf.elim⟩ ⟨_,hb,by rw[U9],fun b h1 h2=>by
  have h2:b<(jo Classical.propDecidable R O B W0.1).size:=h2;rw[Fp]at h2;omega,fK.refl H⟩
 exact⟨N,gs',w',sl',t',q',v,r1,r3,hv,r5,r6.1,r4⟩
end
end Go.Proofs.YtaablbmgagiajabGreatDoor.Ren
