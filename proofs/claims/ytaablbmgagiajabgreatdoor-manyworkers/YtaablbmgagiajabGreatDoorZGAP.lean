import Derived.Test.YtaablbmgagiajabGreatDoorZGAO
open Go.Proofs.Tryz renaming prog->π
open Go renaming Goroutine->YP,World->YM,stepG->YV
namespace Go.Proofs.YtaablbmgagiajabGreatDoor.Ren
open Go.Proofs.Tryz
open Go Go.Conc
open Go.ConcR (KK WgAt stA smA rd wr mk)
variable (pG:Program)
section
variable (Wg:Nat)(cs:List Frame)
set_option maxRecDepth 100000
def q0:YP:={frame:=Frame.enter pG 66 #[ptr Wg,iQ 1] .normal,callers:=cs,status:=.running,dying:=none}
def q1:YP:=ax pG true 12 (q0 pG Wg cs)
theorem zgF(w:YM):YV π true (q1 π Wg cs) w=.go (bZ π true (q1 π Wg cs)) w #[mk .disable]:=kQ
def q2:YP:=ax pG true 34 (bZ pG true (q1 pG Wg cs))
theorem zgG{w:YM}{v d:Int}(hc:w.cell? (stA Wg)=some (.int .u64 v))(hz:w.frozen? (stA Wg)=false)(hs:IntKind.u64.wrap (v+4294967296)=d):YV π true (q2 π Wg cs) w=.go (fin (q2 π Wg cs) (.int .u64 d)) (w.setCell (stA Wg) (.int .u64 d)) #[rd (stA Wg),wr (stA Wg)]:=
 Un (x:=.tmp 7) (y:=.tmp 8) (d:=4294967296) kQ func165 kQ kQ kQ kQ kQ kQ kQ hc hz hs
def r0(X:Int):YP:=fin (q2 pG Wg cs) (.int .u64 X)
def r1(X:Int):YP:=ax pG true 10 (r0 pG Wg cs X)
theorem zgH(X:Int):Yd true (r1 π Wg cs X) (.int .u64 (bits .and .u64 X 2147483648)):=fun w=>kQ
def r2(X:Int):YP:=ax pG true 11 (fin (r1 pG Wg cs X) (.int .u64 0))
theorem zgI(X:Int):Yd true (r2 π Wg cs X) (.int .u64 (X.fdiv 4294967296)):=fun w=>kQ
theorem zgJ(X V:Int):Yd true (fin (r2 π Wg cs X) (.int .u64 V)) (.int .i32 (IntKind.i32.wrap V)):=fun w=>kQ
def r3(X V:Int):YP:=ax pG true 5 (fin (fin (r2 pG Wg cs X) (.int .u64 V)) (.int .i32 V))
theorem zgK(X V:Int):Yd true (r3 π Wg cs X V) (.int .u64 (bits .and .u64 X 2147483647)):=fun w=>kQ
def r4(X V:Int):YP:=ax pG true 14 (fin (r3 pG Wg cs X V) (.int .u64 0))
theorem zgL(X V:Int):Yd true (r4 π Wg cs X V) (.bool (V==1)):=fun w=>kQ
def r5(X V:Int):YP:=ax pG true 8 (fin (r4 pG Wg cs X V) (.bool false))
theorem zgM(X V:Int):Yd true (r5 π Wg cs X V) (.bool (decide (V<0))):=fun w=>kQ
def r6(X V:Int):YP:=ax pG true 25 (fin (r5 pG Wg cs X V) (.bool false))
theorem zgN(X V:Int):Yd true (r6 π Wg cs X V) (.bool (decide (V>0))):=fun w=>kQ
def r7(X V:Int):YP:=ax pG true 7 (fin (r6 pG Wg cs X V) (.bool true))
theorem zgO(X V:Int)(w:YM):YV π true (r7 π Wg cs X V) w=.go (bZ π true (r7 π Wg cs X V)) w #[mk .enable]:=kQ
theorem Nq(X V:Int):(q1 π Wg cs).status=.running/\(q2 π Wg cs).status=.running/\(r1 π Wg cs X).status=.running/\(r2 π Wg cs X).status=.running/\(r3 π Wg cs X V).status=.running/\(r4 π Wg cs X V).status=.running/\(r5 π Wg cs X V).status=.running/\(r6 π Wg cs X V).status=.running/\(r7 π Wg cs X V).status=.running:=⟨kQ,kQ,kQ,kQ,kQ,kQ,kQ,kQ,kQ⟩
def u0:YP:=ax pG true 7 (fin (r4 pG Wg cs 4294967296 1) (.bool true))
theorem zgP(w:YM):fe (u0 π Wg cs)=true/\(execOp (u0 π Wg cs).frame.eval (opAt (u0 π Wg cs))).runT π w #[]=(sF 189 184 (.pointer (some (smA Wg)))).runT π w #[]:=⟨kQ,kQ⟩
def u1:YP:=fin (u0 pG Wg cs) (.pointer (some (smA Wg)))
theorem zgQ(w:YM):YV π true (u1 π Wg cs) w=.go (bZ π true (u1 π Wg cs)) w #[mk (.read (smA Wg))]:=kQ
def u2:YP:=ax pG true 39 (bZ pG true (u1 pG Wg cs))
theorem zgR(w:YM):YV π true (u2 π Wg cs) w=.go (bZ π true (u2 π Wg cs)) w #[mk .enable]:=kQ
theorem zgS:(u0 π Wg cs).status=.running/\(u1 π Wg cs).status=.running/\(u2 π Wg cs).status=.running:=⟨kQ,kQ,kQ⟩
end
section
variable (Wg:Nat)(z:Frame)(zs:List Frame)
set_option maxRecDepth 100000
theorem zgT(X V:Int):(bZ π true (r7 π Wg (z::zs) X V)).status=.running/\∀ w,YV π true (bZ π true (r7 π Wg (z::zs) X V)) w=.go (back z zs) w #[]:=⟨kQ,fun w=>kQ⟩
theorem zgU:(bZ π true (u2 π Wg (z::zs))).status=.running/\∀ w,YV π true (bZ π true (u2 π Wg (z::zs))) w=.go (back z zs) w #[]:=⟨kQ,fun w=>kQ⟩
end
end Go.Proofs.YtaablbmgagiajabGreatDoor.Ren
