import Derived.Test.YtaablbmgagiajabGreatDoorZGAN
open Go.Proofs.Tryz renaming prog->π
open Array renaming replicate->zAl
open Go renaming Frame->YU,Goroutine->YP,Value->YN,World->YM,execOp->Zf,heap_setCell_other->zum,stepG->YV,undef->YY
open Go.Frame renaming enter->Y8
open Go.Conc renaming served->ZK
open List renaming contains->zuy,contains_cons->zA6
open Go.Question renaming order->zBP
open Go.Region renaming Mode->zBR,ready->zwc,schedule->zxn
open Go.Region.linearise renaming go->zwb
open Go.World renaming size_setCell->zsG
namespace Go.Proofs.YtaablbmgagiajabGreatDoor.Ren
open Go.Proofs.Tryz
open Go Go.Conc
open Go.ConcR (KK WgAt stA smA rd wr mk)
open Go.ConcN (st_flag st_waiters)
variable{b k:Nat}{cs:Array YN}{g:YP}{main:Bool}{t:TypeId}{v:YN}{w:YM}
section
variable (Wg:Nat)(z:YU)(zs:List YU)
set_option maxRecDepth 100000
def back:YP:={frame:=z.finish (.tuple #[]),callers:=zs,status:=.running,dying:=none}
theorem Uq(X V:Int):(Fq π Wg (z::zs) X V).status=.running/\(Fu π Wg (z::zs) X V).status=.running/\(Fw π Wg (z::zs) X V).status=.running/\(p3 π Wg (z::zs)).status=.running:=⟨kQ,kQ,kQ,kQ⟩
theorem zf3(X V:Int):(bZ π false (Fq π Wg (z::zs) X V)).status=.running/\∀ w,YV π false (bZ π false (Fq π Wg (z::zs) X V)) w=.go (back z zs) w #[]:=⟨kQ,fun w=>kQ⟩
theorem zf4(X V:Int):(bZ π false (Fu π Wg (z::zs) X V)).status=.running/\∀ w,YV π false (bZ π false (Fu π Wg (z::zs) X V)) w=.go (back z zs) w #[]:=⟨kQ,fun w=>kQ⟩
theorem zf5(X V:Int):(bZ π false (Fw π Wg (z::zs) X V)).status=.running/\∀ w,YV π false (bZ π false (Fw π Wg (z::zs) X V)) w=.go (back z zs) w #[]:=⟨kQ,fun w=>kQ⟩
theorem zf6:(bZ π false (p3 π Wg (z::zs))).status=.running/\∀ w,YV π false (bZ π false (p3 π Wg (z::zs))) w=.go (back z zs) w #[]:=⟨kQ,fun w=>kQ⟩
variable {Wg z zs}
theorem Jc{q:Nat}(h1:g.status=.running)(h2:∀ w,YV π false g w=.go (bZ π false g) w #[mk .enable])(h3:(bZ π false g).status=.running/\∀ w,YV π false (bZ π false g) w=.go (back z zs) w #[])(hT:QuitsD π q 0 (back z zs)):QuitsD π (q+2) 1 g:=
 QuitsD.said (mk .enable) rfl h1 h2 (QuitsD.ctl h3.1 h3.2 hT)
theorem zf7(v wt:Nat)(h:wt<=1):((v:Int)*KK+(wt:Int)).fdiv 4294967296=v:=by
 show((v:Int)*4294967296+(wt:Int)).fdiv 4294967296=v;rw[Int.fdiv_eq_ediv_of_nonneg _ dQ];omega
theorem wrap32(v:Nat)(h:v<=16):IntKind.i32.wrap (v:Int)=v:=by
 rw[IntKind.wrap_i32];omega
theorem gw{K:YM->Prop}{Ok:Event->Prop}{Stop:YP->Prop}{n:Nat}(hr:g.status=.running)(h:∀ w,YV π main g w=.go (fin g v) w #[])(hn:Wk π main K Ok Stop n (fin g v)):Wk π main K Ok Stop (n+1) g:=Wk.step hr (fun w _=>h w) (fun e he=>by simp at he) hn
theorem zf8(cs:List YU)(X V:Int):(m1 π Wg cs X).status=.running/\(m2 π Wg cs X).status=.running/\(m3 π Wg cs X V).status=.running:=⟨kQ,kQ,kQ⟩
theorem Ur(cs:List YU)(X V:Int):(Jb π Wg cs X V).status=.running/\(Fv π Wg cs X V).status=.running/\(pP π Wg cs X V).status=.running/\(Al π Wg cs X V).status=.running:=⟨kQ,kQ,kQ,kQ⟩
theorem Us{K:YM->Prop}{Ok:Event->Prop}{Stop:YP->Prop}(v wt:Nat)(hv:v<=16)(vU:wt<=1)(cs:List YU)
  (h:Wk π false K Ok Stop k (fin (m3 π Wg cs (v*KK+wt) v) (.int .u64 wt))):Wk π false K Ok Stop (k+1+5+1+1+11+1+10) (m0 π Wg cs (v*KK+wt)):=by
 have hf:bits .and .u64 ((v:Int)*KK+(wt:Int)) 2147483648=0:=st_flag v wt oQ vU;have hw:bits .and .u64 ((v:Int)*KK+(wt:Int)) 2147483647=(wt:Int):=st_waiters v wt oQ vU;have hd:=zf7 v wt vU;generalize(v:Int)*KK+(wt:Int)=X at *;have r:=zf8 (Wg:=Wg) cs X (v:Int);have a3:Wk π false K Ok Stop (k+1) (m3 π Wg cs X v):=gw r.2.2 (fun w=>by
  have:=zfS Wg cs X v w;rw[hw]at this;exact this) h
 have a2:=Wk.bB 5 _ sP a3;have a1:Wk π false K Ok Stop (k+1+5+1+1) (m2 π Wg cs X):=gw r.2.1 (v:=.int .u64 v) (fun w=>by
  have:=zfQ Wg cs X w;rw[hd]at this;exact this) (gw (g:=fin (m2 π Wg cs X) (.int .u64 v)) rfl (fun w=>by
  have:=zfR Wg cs X v w;rw[wrap32 v hv]at this;exact this) a2)
 have a0:=Wk.bB 11 _ sP a1;have b1:Wk π false K Ok Stop (k+1+5+1+1+11+1) (m1 π Wg cs X):=gw r.1 (fun w=>by
  have:=zfP Wg cs X w;rw[hf]at this;exact this) a0
 exact Wk.bB 10 _ sP b1
end
theorem Ut{d:Nat}:∀{n:Nat}{g:YP},Wk π false (fun _=>True) (fun _=>False) (fun g=>∃ q,QuitsD π q d g) n g->∃ q,QuitsD π q d g
 | 0,_,h=>h
 |_+1,_,h=>by
  rcases h with h|⟨hs,g',es,h1,h2,h3⟩
  ·exact h
  ·obtain⟨q,hq⟩:=Ut h3;have he:es=#[]:=by
    apply Array.eq_empty_of_size_eq_zero;rcases zst es.size with e|e
    ·exact e
    ·exact(h2 _ (zr2 e)).elim
   subst he;exact⟨q+1,QuitsD.ctl hs (fun w=>h1 w trivial) hq⟩
section
variable {Wg:Nat}{z:YU}{zs:List YU}{qt:Nat}
theorem zf9(hT:QuitsD π qt 0 (back z zs))(v wt:Nat)(hv:v<=16)(vU:wt<=1)(hn:¬(v=0/\wt=1)):∃ q,QuitsD π q 1 (m0 π Wg (z::zs) (v*KK+wt)):=by
 have aj:decide ((v:Int)<0)=false:=sQ;have r0:=Ur (Wg:=Wg) (z::zs) (v*KK+wt) (v:Int);have r6:=Uq Wg z zs (v*KK+wt) (v:Int);refine Ut (Us (K:=fun _=>True) (Ok:=fun _=>False) (k:=1+25+1+23) v wt hv vU (z::zs) ?_);obtain rfl|rfl:wt=0\/wt=1:=oQ
 ·have h5:∀ b:Bool,decide ((v:Int)>0)=b->(∃ q,QuitsD π q 1 (fin (pP π Wg (z::zs) (v*KK+(0:Nat)) v) (.bool b)))->Wk π false (fun _=>True) (fun _=>False) (fun g=>∃ q,QuitsD π q 1 g) (1+25+1+23) (fin (m3 π Wg (z::zs) (v*KK+(0:Nat)) v) (.int .u64 (0:Nat))):=fun b hb hq=>by
   have a5:Wk π false (fun _=>True) (fun _=>False) (fun g=>∃ q,QuitsD π q 1 g) 1 (pP π Wg (z::zs) (v*KK+(0:Nat)) v):=gw r0.2.2.1 (v:=.bool b) (fun w=>by
    have:=zfU Wg (z::zs) (v*KK+(0:Nat)) v w;rw[hb]at this;exact this) (Wk.stop hq)
   have a4:=Wk.bB 25 _ sP a5;have a3:Wk π false (fun _=>True) (fun _=>False) (fun g=>∃ q,QuitsD π q 1 g) (1+25+1) (Jb π Wg (z::zs) (v*KK+(0:Nat)) v):=gw r0.1 (v:=.bool false) (fun w=>by
    have:=zfT Wg (z::zs) (v*KK+(0:Nat)) v w;rw[aj]at this;exact this) a4
   exact Wk.bB 23 _ sP a3
  cases hb:decide ((v:Int)>0)with
  |true=>exact h5 true hb ⟨_,QuitsD.bB 7 _ sP (Jc r6.1 (zfV Wg (z::zs) _ _) (zf3 Wg z zs _ _) hT)⟩
  |false=>exact h5 false hb ⟨_,QuitsD.bB 7 _ sP (Jc r6.2.1 (zfW Wg (z::zs) _ _) (zf4 Wg z zs _ _) hT)⟩
 ·have hb:decide ((v:Int)>0)=true:=tQ;have a5:Wk π false (fun _=>True) (fun _=>False) (fun g=>∃ q,QuitsD π q 1 g) 1 (Al π Wg (z::zs) (v*KK+(1:Nat)) v):=gw r0.2.2.2 (v:=.bool true) (fun w=>by
   have:=Up Wg (z::zs) (v*KK+(1:Nat)) v w;rw[hb]at this;exact this) (Wk.stop ⟨_,QuitsD.bB 7 _ sP (Jc r6.2.2.1 (zfX Wg (z::zs) _ _) (zf5 Wg z zs _ _) hT)⟩)
  have a4:=Wk.bB 25 _ sP a5;have a3:Wk π false (fun _=>True) (fun _=>False) (fun g=>∃ q,QuitsD π q 1 g) (1+25+1) (Fv π Wg (z::zs) (v*KK+(1:Nat)) v):=gw r0.2.1 (v:=.bool false) (fun w=>by
   have:=Uo Wg (z::zs) (v*KK+(1:Nat)) v w;rw[aj]at this;exact this) a4
  exact Wk.bB 23 _ sP a3
theorem zga{K:YM->Prop}{Ok:Event->Prop}{Stop:YP->Prop}(hs:Stop (p0 π Wg (z::zs))):∃ n,Wk π false K Ok Stop n (m0 π Wg (z::zs) 1):=by
 have r0:=Ur (Wg:=Wg) (z::zs) 1 0;have a6:Wk π false K Ok Stop (0+23) (fin (Al π Wg (z::zs) 1 0) (.bool false)):=Wk.bB 23 _ sP (Wk.stop (n:=0) hs);have a5:Wk π false K Ok Stop (0+23+1) (Al π Wg (z::zs) 1 0):=gw r0.2.2.2 (v:=.bool false) (fun w=>Up Wg (z::zs) 1 0 w) a6;have a4:=Wk.bB 25 _ sP a5;have a3:Wk π false K Ok Stop (0+23+1+25+1) (Fv π Wg (z::zs) 1 0):=gw r0.2.1 (v:=.bool false) (fun w=>Uo Wg (z::zs) 1 0 w) a4;have a2:=Wk.bB 23 _ sP a3;have a1:=Us (K:=K) (Ok:=Ok) (Stop:=Stop) (Wg:=Wg) 0 1 oQ oQ (z::zs) (k:=0+23+1+25+1+23) (by
  have e:((0:Nat):Int)*KK+((1:Nat):Int)=1:=sQ;rw[e];exact a2)
 have e:((0:Nat):Int)*KK+((1:Nat):Int)=1:=sQ;rw[e]at a1;exact⟨_,a1⟩
end
theorem zgb{S:Sc}(hP:S.E.P=π)(hn:S.n<=16){z:YU}{zs:List YU}{qt:Nat}(hT:QuitsD π qt 0 (back z zs)):AtR0 S (n2 π S.Wg (z::zs)):=by
 have hr:∀ cs,(n2 π S.Wg cs).status=.running/\(n3 π S.Wg cs).status=.running/\(n4 π S.Wg cs).status=.running/\(p0 π S.Wg cs).status=.running/\(p1 π S.Wg cs).status=.running/\(p2 π S.Wg cs).status=.running:=fun cs=>⟨kQ,kQ,kQ,kQ,kQ,kQ⟩
 obtain⟨r2,r3,r4,q0,q1,q2⟩:=hr (z::zs);have d4:AtD4 S (p2 π S.Wg (z::zs)):=⟨q2,by rw[hP];exact zf1 S.Wg (z::zs),_,fun w _ hw=>by rw[hP];exact zf0 S.Wg (z::zs) hw.cellSm (hw.thaw 1),by
  rw[hP];exact⟨_,QuitsD.bB 17 _ sP (Jc (Uq S.Wg z zs 0 0).2.2.2 (zf2 S.Wg (z::zs)) (zf6 S.Wg z zs) hT)⟩⟩
 have d3:AtD3 S (p1 π S.Wg (z::zs)):=⟨q1,_,fun w _ hw=>by rw[hP];exact zfZ S.Wg (z::zs) hw.cellSt (hw.thaw 0),by
  unfold nH;rw[hP];exact⟨_,Wk.bB 27 _ sP (Wk.stop (n:=0) d4)⟩⟩
 have d2:AtD2 S (p0 π S.Wg (z::zs)):=⟨q0,_,fun w _ hw=>by rw[hP];exact zfY S.Wg (z::zs) hw.cellSt,by
  unfold nH;rw[hP];exact⟨_,Wk.bB 20 _ sP (Wk.stop (n:=0) d3)⟩⟩
 have d1:AtD1 S (n4 π S.Wg (z::zs)):=by
  refine⟨r4,fun v wt vU hv=>⟨m0 π S.Wg (z::zs) (v*KK+wt),fun w _ hw=>?_,fun hl=>?_,fun hl=>?_⟩⟩
  ·rw[hP];refine zfO S.Wg (z::zs) hw.cellSt (hw.thaw 0) ?_;show IntKind.u64.wrap (((v:Int)+1)*4294967296+(wt:Int)+18446744069414584320)=(v:Int)*4294967296+(wt:Int);rw[IntKind.wrap_u64];omega
  ·obtain⟨rfl,rfl⟩:=hl;have e:((0:Nat):Int)*KK+((1:Nat):Int)=1:=sQ;rw[e];unfold nH;rw[hP];exact zga d2
  ·rw[hP];exact zf9 hT v wt oQ vU hl
 have k1:AtK1 S (n3 π S.Wg (z::zs)):=⟨r3,_,fun w _=>by rw[hP];exact zfM S.Wg (z::zs) w,by
  unfold nH;rw[hP];exact⟨_,Wk.bB 34 _ sP (Wk.stop (n:=0) d1)⟩⟩
 exact⟨r2,_,fun w _=>by rw[hP];exact zfL S.Wg (z::zs) w,by
  unfold nH;rw[hP];exact⟨_,Wk.bB 3 _ sP (Wk.stop (n:=0) k1)⟩⟩
variable (pG:Program)
def zt:YN:=.agg #[iQ 0,.string .empty]
def Cr(i:Nat)(s:ByteArray):YN:=.agg #[iQ i,.string s]
structure Pa where
 B:Nat
 R:Nat->Prop
 O:Nat->Prop
 os:Os
 w0:YM
 Wg:Nat
 Cn:Nat
 An:Nat
 Bt:Nat
 Ba:Nat
 n:Nat
 m:Nat
 Shun:Loc->Prop
 tx:Nat->ByteArray
 h0:Array Obj
 Rr:Nat->YN->YM->Prop
 dP:Nat->YN->Prop
 j0:Nat
 s0:Nat
section
variable (p:Pa)
def wb:YP:=born pG {target:=.fn (.func 67) #[ptr p.Wg,ptr p.Bt,ptr p.Ba],args:=#[]}
def w1:YP:=ax pG false 6 (wb pG p)
def w2:YP:=fin (w1 pG p) (.chan (some p.Cn))
def w3:YP:=fin (w2 pG p) (.slice (some (aQ p.An 0)) p.m p.m)
def w4:YP:=ax pG false 9 (w3 pG p)
def wJ(J:Nat->YN):YP:={(w4 pG) p with frame:={(w4 pG p).frame with tmps:=#[.chan (some p.Cn),.slice (some (aQ p.An 0)) p.m p.m,J 2,J 3,J 4,.chan (some p.Cn),J 6,J 7,J 8,J 9,J 10,J 11,J 12,J 13,J 14,J 15]}}
set_option maxRecDepth 100000
theorem zgc:w4 π p=wJ π p fun _=>YY:=kQ
theorem zgd(w:YM):(Zf (w1 π p).frame.eval (opAt (w1 π p))).runT π w #[]=(lA (aQ p.Bt 0)).runT π w #[]:=kQ
theorem zge(w:YM):(Zf (w2 π p).frame.eval (opAt (w2 π p))).runT π w #[]=(lA (aQ p.Ba 0)).runT π w #[]:=kQ
theorem zgf(J:Nat->YN)(w:YM):YV π false (wJ π p J) w=.comm (wJ π p J) #[rcase p.Cn zt] true (.recv true) w #[]:=kQ
theorem Uu(J:Nat->YN):(wJ π p J).status=.running/\(wJ π p J).offers=none:=⟨kQ,kQ⟩
def e0(J:Nat->YN):YP:=ZK (wJ pG p J) (recvd true zt false)
def e1(J:Nat->YN):YP:=ax pG false 13 (e0 pG p J)
def ez(J:Nat->YN):YU:=(e1 pG p J).callers.headD default
def Am(J:Nat->YN):List YU:=(e1 pG p J).callers.tail
theorem zgg(J:Nat->YN):e1 π p J=n0 π p.Wg (ez π p J::Am π p J):=kQ
theorem zgh(J:Nat->YN):(ax π false 5 (back (ez π p J) (Am π p J))).status=.finished:=kQ
theorem zgi(J:Nat->YN):QuitsD π 5 0 (back (ez π p J) (Am π p J)):=by
 have:=QuitsD.bB (d:=0) (m:=0) 5 _ sP ⟨zgh p J,rfl⟩;simpa using this
end
variable (pG:Program)
def yj(g:YP):Array Oper×List Item:=match g.frame.todo with
 |.code (.region _ au _)::k=>(au,k)
 |_=>(#[],[])
section
variable (p:Pa)(J:Nat->YN)(i:Nat)(s:ByteArray)(q:Nat)
set_option maxRecDepth 100000
def t0:YP:=ZK (wJ pG p J) (recvd true (Cr i s) true)
def t1:YP:=ax pG false 9 (t0 pG p J i s)
def uu:Obj:=.cells #[iQ 0,.string .empty] 125
def zgj:Obj:=.cells #[iQ i,.string s] 125
theorem zgk(w:YM):YV π false (t1 π p J i s) w=.go (fin (t1 π p J i s) (ptr w.1.size)) {w with heap:=w.1.push uu} #[]:=kQ
def t2:YP:=fin (t1 pG p J i s) (ptr q)
theorem zgl(w:YM):(Zf (t2 π p J i s q).frame.eval (opAt (t2 π p J i s q))).runT π w #[]=(Cq (aQ q 0) (aQ q 1) (iQ i) (.string s)).runT π w #[]:=kQ
def t3:YP:=ax pG false 1 (fin (t2 pG p J i s q) YY)
def dg(a9 dt dv eZ eR eT eU:YN)(l:List Nat):YP:={(t3 pG) p J i s q with frame:={(t3 pG p J i s q).frame with
 tmps:=#[.chan (some p.Cn),.slice (some (aQ p.An 0)) p.m p.m,J 2,J 3,ptr q,.chan (some p.Cn),.tuple #[Cr i s,.bool true],.bool true,Cr i s,a9,dt,dv,eZ,eR,eT,eU],todo:=.inRegion (yj (t3 pG p J i s q)).1 l::(yj (t3 pG p J i s q)).2}}
theorem zgm(w:YM):YV π false (t3 π p J i s q) w=.go (dg π p J i s q (J 9) (J 10) (J 11) (J 12) (J 13) (J 14) (J 15) (zxn (π.follows .mixedOrders) (yj (t3 π p J i s q)).1 ((zBP 69 3).cut (w.tape w.drawn (.order 69 3))))) (w.at (w.drawn+1)) #[]:=kQ
variable (a9 dt dv eZ eR eT eU:YN)(l:List Nat)
theorem dg0(w:YM):YV π false (dg π p J i s q a9 dt dv eZ eR eT eU (0::l)) w=.go (dg π p J i s q (.slice (some (aQ p.An 0)) p.m p.m) dt dv eZ eR eT eU l) w #[]:=kQ
theorem dg1(w:YM):YV π false (dg π p J i s q a9 dt dv eZ eR eT eU (1::l)) w=.go (dg π p J i s q a9 (ptr q) dv eZ eR eT eU l) w #[]:=kQ
theorem dg3(w:YM):YV π false (dg π p J i s q a9 dt dv eZ eR eT eU (3::l)) w=.go (dg π p J i s q a9 dt dv (.pointer (some (aQ q 1))) eR eT eU l) w #[]:=kQ
theorem zgn(w:YM):fe (dg π p J i s q a9 (ptr q) dv eZ eR eT eU (2::l))=true/\(Zf (dg π p J i s q a9 (ptr q) dv eZ eR eT eU (2::l)).frame.eval (opAt (dg π p J i s q a9 (ptr q) dv eZ eR eT eU (2::l)))).runT π w #[]=(lA (aQ q 0)).runT π w #[]:=⟨kQ,kQ⟩
theorem zgo(v:YN):fin (dg π p J i s q a9 dt dv eZ eR eT eU (2::l)) v=dg π p J i s q a9 dt v eZ eR eT eU l:=kQ
theorem zgp(w:YM):fe (dg π p J i s q a9 dt dv (.pointer (some (aQ q 1))) eR eT eU (4::l))=true/\(Zf (dg π p J i s q a9 dt dv (.pointer (some (aQ q 1))) eR eT eU (4::l)).frame.eval (opAt (dg π p J i s q a9 dt dv (.pointer (some (aQ q 1))) eR eT eU (4::l)))).runT π w #[]=(lA (aQ q 1)).runT π w #[]:=⟨kQ,kQ⟩
theorem zgq(v:YN):fin (dg π p J i s q a9 dt dv eZ eR eT eU (4::l)) v=dg π p J i s q a9 dt dv eZ v eT eU l:=kQ
theorem zgr(w:YM):YV π false (dg π p J i s q a9 dt dv eZ (.string s) eT eU (5::l)) w=.go (eG [Y8 π 23 #[.string s] .normal] ((dg π p J i s q a9 dt dv eZ (.string s) eT eU (5::l)).frame::(dg π p J i s q a9 dt dv eZ (.string s) eT eU (5::l)).callers)) w #[]:=kQ
theorem zgs(v:YN):({frame:=(dg π p J i s q a9 dt dv eZ eR eT eU (5::l)).frame.finish v,callers:=(dg π p J i s q a9 dt dv eZ eR eT eU (5::l)).callers,status:=.running,dying:=none}:YP)=dg π p J i s q a9 dt dv eZ eR v eU l:=kQ
def Jd(An m i:Nat):Sem Next:=Instr.indexAt 70 (.slice (some (aQ An 0)) m m) (iQ i) >>= fun v=>pure (.value v)
theorem zgt(w:YM):fe (dg π p J i s q (.slice (some (aQ p.An 0)) p.m p.m) dt (iQ i) eZ eR eT eU (6::l))=true/\(Zf (dg π p J i s q (.slice (some (aQ p.An 0)) p.m p.m) dt (iQ i) eZ eR eT eU (6::l)).frame.eval (opAt (dg π p J i s q (.slice (some (aQ p.An 0)) p.m p.m) dt (iQ i) eZ eR eT eU (6::l)))).runT π w #[]=(Jd p.An p.m i).runT π w #[]:=⟨kQ,kQ⟩
theorem zgu(v:YN):fin (dg π p J i s q a9 dt dv eZ eR eT eU (6::l)) v=dg π p J i s q a9 dt dv eZ eR eT v l:=kQ
theorem zgv(v:ByteArray)(w:YM):fe (dg π p J i s q a9 dt dv eZ eR (.string v) (.pointer (some (aQ p.An i))) [7])=true/\(Zf (dg π p J i s q a9 dt dv eZ eR (.string v) (.pointer (some (aQ p.An i))) [7]).frame.eval (opAt (dg π p J i s q a9 dt dv eZ eR (.string v) (.pointer (some (aQ p.An i))) [7]))).runT π w #[]=(yi (aQ p.An i) (.string v)).runT π w #[]:=⟨kQ,kQ⟩
def t9:YP:=fin (dg pG p J i s q a9 dt dv eZ eR eT eU [7]) YY
theorem zgw:ax π false 5 (t9 π p J i s q a9 dt dv eZ eR eT eU)=wJ π p fun k=>(#[YY,YY,J 2,J 3,ptr q,YY,.tuple #[Cr i s,.bool true],.bool true,Cr i s,a9,dt,dv,eZ,eR,eT,eU]:Array YN).getD k YY:=kQ
theorem Uv:(dg π p J i s q a9 dt dv eZ eR eT eU l).status=.running:=kQ
end
variable (pG:Program)
def Fy(md:zBR)(au:Array Oper):Nat->Array Bool->List Nat->List (List Nat)
 | 0,_,acc=>[acc.reverse]
 |fuel+1,listed,acc=>match zwc md au listed with
  |[]=>[acc.reverse]
  |r::rs=>(r::rs).flatMap fun i=>Fy md au fuel (listed.setIfInBounds i true) (i::acc)
theorem Uw(md:zBR)(au:Array Oper):∀(fuel t:Nat)(listed:Array Bool)(acc:List Nat),zwb md au fuel t listed acc∈Fy md au fuel listed acc
 | 0,t,listed,acc=>by simp[zwb,Fy]
 |fuel+1,t,listed,acc=>by
  simp only[zwb];change (match (zwc md au listed)[t%(zwc md au listed).length]? with
   |some i=>zwb md au fuel (t/(zwc md au listed).length) (listed.setIfInBounds i true) (i::acc)
   |none=>acc.reverse)∈_
  unfold Fy;cases hr:zwc md au listed with
  |nil=>simp
  |cons r rs=>
   have aj:t%(r::rs).length<(r::rs).length:=Nat.mod_lt _ sQ;rw[Yc aj];simp only;exact List.mem_flatMap.2 ⟨_,zsf aj,Uw md au fuel _ _ _⟩
def pre:Nat->List Nat
 | 2=>[1]
 | 4=>[3]
 | 5=>[4]
 | 6=>[0,2]
 |_=>[]
def valid(dn:List Nat):List Nat->Bool
 |[]=>false
 |j::r=>if j==7 then r.isEmpty&&[0,1,2,3,4,5,6].all fun k=>dn.contains k else decide (j<7) && !dn.contains j&&(pre j).all (fun k=>dn.contains k)&&valid (j::dn) r
section
variable (p:Pa)(J:Nat->YN)(i:Nat)(s:ByteArray)(q:Nat)
set_option maxRecDepth 100000
theorem mixed:π.follows .mixedOrders=true:=kQ
theorem zgx:(Fy .any (yj (t3 π p J i s q)).1 (yj (t3 π p J i s q)).1.size (zAl (yj (t3 π p J i s q)).1.size false) []).all (valid [])=true:=kQ
theorem zgy(au:Array Oper)(t:Nat):zxn true au t=zwb .any au au.size t (zAl au.size false) []:=rfl
theorem zgz(t:Nat):valid [] (zxn (π.follows .mixedOrders) (yj (t3 π p J i s q)).1 t)=true:=by
 have h:=zgx p J i s q;generalize(yj (t3 π p J i s q)).1=au at h⊢;rw[mixed,zgy];exact X9.1 h _ (Uw ..)
def gd(dn:List Nat)(v:ByteArray)(l:List Nat):YP:=dg pG p J i s q (bif dn.contains 0 then .slice (some (aQ p.An 0)) p.m p.m else J 9) (bif dn.contains 1 then ptr q else J 10) (bif dn.contains 2 then .int .i64 i else J 11) (bif dn.contains 3 then .pointer (some (aQ q 1))else J 12) (bif dn.contains 4 then .string s else J 13) (bif dn.contains 5 then .string v else J 14) (bif dn.contains 6 then .pointer (some (aQ p.An i))else J 15) l
end
def Pa.sc(p:Pa)(AW Out:YP->Prop):Sc where
 E:=env pG p.B p.R p.O p.os
 M:=tM
 w0:=p.w0
 ty:=122
 B4:=9
 Wg:=p.Wg
 Cn:=p.Cn
 An:=p.An
 Shun:=p.Shun
 n:=p.n
 m:=p.m
 z:=zt
 zs:=.tuple #[]
 tv i:=Cr i (p.tx i)
 uu:=uu
 box i:=zgj i (p.tx i)
 x0 i:=([Y8 pG 23 #[.string (p.tx i)] .normal],p.h0)
 R:=p.Rr
 dP:=p.dP
 j0:=p.j0
 s0:=p.s0
 AR g:=∃ J,g=wJ pG p J
 AW:=AW
 Out:=Out
section
variable {p:Pa}{AW Out:YP->Prop}{J:Nat->YN}{i q:Nat}
theorem uH(h:w.1[b]?=some (.cells cs t)):w.cell? (aQ b k)=cs[k]?:=by
 rw[kI (a:=(aQ b k)) h];rfl
theorem Fz(h:w.1[b]?=some (.cells cs t)):w.frozen? (aQ b k)=false:=by simp[World.frozen?,h]
theorem Ux(h:KQ (p.sc π AW Out) i q w):w.cell? (aQ q 0)=some (iQ i)/\w.cell? (aQ q 1)=some (.string (p.tx i)):=by
 have h2:w.1[q]?=some (.cells #[iQ i,.string (p.tx i)] 125):=h.2;exact⟨by rw[uH h2];rfl,by rw[uH h2];rfl⟩
theorem Uy(a:Addr):seen π 69 #[⟨.cell a,false,false⟩]=#[⟨.cell a,false,false⟩]:=kQ
theorem zgA(a:Addr):seen π 69 #[⟨.cell a,true,false⟩]=#[⟨.cell a,true,false⟩]:=kQ
theorem Je(s:ByteArray)(a9 dt dv eZ eR eT eU:YN)(l:List Nat):(dg π p J i s q a9 dt dv eZ eR eT eU l).frame.fn=69:=kQ
theorem zgB{An m i:Nat}(h:i<m)(w:YM):(Jd An m i).run π w=.ok (.value (.pointer (some (aQ An i)))) w/\(Jd An m i).events π w #[]=#[]:=by
 have hu:π.underlying 70=some (.slice (π.elem 70)):=kQ;have hs:(sizeOf (π.elem 70)).run π w=.ok 1 w:=kQ;have hi:(0<=(i:Int)/\(i:Int)<(m:Int)):=oQ;simp[Jd,run_indexAt_slice (h:=hu),events_indexAt_slice (h:=hu) (hi:=hi),hi,hs,Addr.add];omega
theorem Uz(dn:List Nat)(v:ByteArray){j:Nat}{r:List Nat}(sD:i<p.m)(hj:j<7)(h5:j≠5)(hp:(pre j).all (fun k=>dn.contains k)=true):∃ es,(∀ w,KQ (p.sc π AW Out) i q w->YV π false (gd π p J i (p.tx i) q dn v (j::r)) w=.go (gd π p J i (p.tx i) q (j::dn) v r) w es)/\∀ e∈es,EY (p.sc π AW Out) q e:=by
 have cX:∀ e∈(#[]:Array Event),EY (p.sc π AW Out) q e:=fun e he=>by simp at he
 match j,hj,h5,hp with
 | 0,_,_,_=>exact⟨#[],fun w _=>dg0 p J i (p.tx i) q _ _ _ _ _ _ _ r w,cX⟩
 | 1,_,_,_=>exact⟨#[],fun w _=>dg1 p J i (p.tx i) q _ _ _ _ _ _ _ r w,cX⟩
 | 3,_,_,_=>exact⟨#[],fun w _=>dg3 p J i (p.tx i) q _ _ _ _ _ _ _ r w,cX⟩
 | 2,_,_,hp=>
  have h1:dn.contains 1=true:=by simpa[pre]using hp
  refine⟨#[⟨.cell (aQ q 0),false,false⟩],fun w hw=>?_,fun e he=>?_⟩
  ·unfold gd;rw[h1];have h2:=zgn p J i (p.tx i) q (bif dn.contains 0 then .slice (some (aQ p.An 0)) p.m p.m else J 9) (bif dn.contains 2 then .int .i64 i else J 11) (bif dn.contains 3 then .pointer (some (aQ q 1))else J 12) (bif dn.contains 4 then .string (p.tx i)else J 13) (bif dn.contains 5 then .string v else J 14) (bif dn.contains 6 then .pointer (some (aQ p.An i))else J 15) r w;have h3:=k_ld (main:=false) h2.1 h2.2 (Ux hw).1 (by rw[Je];exact Uy _);rw[zgo]at h3;rw[show(zuy (2::dn) 1)=true from h1];exact h3
  ·simp only[Yn,Yl,Yo,YL]at he;exact .inr ⟨_,rfl,he⟩
 | 4,_,_,hp=>
  have h1:dn.contains 3=true:=by simpa[pre]using hp
  refine⟨#[⟨.cell (aQ q 1),false,false⟩],fun w hw=>?_,fun e he=>?_⟩
  ·unfold gd;rw[h1];have h2:=zgp p J i (p.tx i) q (bif dn.contains 0 then .slice (some (aQ p.An 0)) p.m p.m else J 9) (bif dn.contains 1 then ptr q else J 10) (bif dn.contains 2 then .int .i64 i else J 11) (bif dn.contains 4 then .string (p.tx i)else J 13) (bif dn.contains 5 then .string v else J 14) (bif dn.contains 6 then .pointer (some (aQ p.An i))else J 15) r w;have h3:=k_ld (main:=false) h2.1 h2.2 (Ux hw).2 (by rw[Je];exact Uy _);rw[zgq]at h3;rw[show(zuy (4::dn) 3)=true from h1];exact h3
  ·simp only[Yn,Yl,Yo,YL]at he;exact .inr ⟨_,rfl,he⟩
 | 6,_,_,hp=>
  have h1:dn.contains 0=true/\dn.contains 2=true:=by simpa[pre]using hp
  refine⟨#[],fun w hw=>?_,cX⟩;unfold gd;rw[h1.1,h1.2];have h2:=zgt p J i (p.tx i) q (bif dn.contains 1 then ptr q else J 10) (bif dn.contains 3 then .pointer (some (aQ q 1))else J 12) (bif dn.contains 4 then .string (p.tx i)else J 13) (bif dn.contains 5 then .string v else J 14) (bif dn.contains 6 then .pointer (some (aQ p.An i))else J 15) r w;obtain⟨h4,h5⟩:=wI h2.2;obtain⟨h6,h7⟩:=zgB sD w;have h3:=Ak (main:=false) h2.1 (h4.trans h6);rw[h5,h7,zgu,Je,seen_none]at h3;rw[show(zuy (6::dn) 0)=true from h1.1,show(zuy (6::dn) 2)=true from h1.2];exact h3
end
def sF(src dst:TypeId)(v:YN):Sem Next:=convert src dst v >>= fun v=>pure (.value v)
theorem UA{src dst:TypeId}{a:Addr}(h:fe g=true)(hs:(Zf g.frame.eval (opAt g)).runT π w #[]=(sF src dst (.pointer (some a))).runT π w #[])(ht:∃ t,π.underlying src=some (.pointer t)/\π.underlying dst=some .unsafePointer/\(π.info? t).map (fun i=>decide (i.size=0))=some false)(hc:w.cell? a=some v):
  YV π main g w=.go (fin g (.pointer (some a))) w #[]:=by
 obtain⟨t,h1,h2,h3⟩:=ht;obtain⟨e1,e2⟩:=wI hs;have e3:(sF src dst (.pointer (some a))).run π w=.ok (.value (.pointer (some a))) w:=by simp[sF,run_convert_to_unsafe h1 h2 h3 hc]
 have e4:(sF src dst (.pointer (some a))).events π w #[]=#[]:=by simp[sF,events_convert_to_unsafe h1 h2 h3 hc]
 have:=Ak (main:=main) h (e1.trans e3);rw[e2,e4,seen_none]at this;exact this
theorem UB(Wg:Nat)(cs:List YU)(w:YM):fe (n1 π Wg cs)=true/\(Zf (n1 π Wg cs).frame.eval (opAt (n1 π Wg cs))).runT π w #[]=(sF 182 184 (.pointer (some (stA Wg)))).runT π w #[]:=⟨kQ,kQ⟩
theorem Nl:∃ t,π.underlying 182=some (.pointer t)/\π.underlying 184=some .unsafePointer/\(π.info? t).map (fun i=>decide (i.size=0))=some false:=⟨122,kQ,kQ,kQ⟩
section
variable {p:Pa}{AW Out:YP->Prop}{J:Nat->YN}{i q:Nat}
theorem Nn(s:ByteArray)(dn:List Nat)(v:ByteArray)(l:List Nat):(gd π p J i s q dn v l).status=.running:=Uv ..
theorem UC(v:ByteArray)(sD:i<p.m):∀(l dn:List Nat),valid dn l=true->dn.contains 5=true->∃ n,ya (p.sc π AW Out) i q (Ms (p.sc π AW Out) i q (.string v)) n (gd π p J i (p.tx i) q dn v l)
 |[],_,h,_=>by cases h
 |j::r,dn,h,h5=>by
  unfold valid at h;by_cases hj:(j==7)=true
  ·rw[YH hj,X6]at h;obtain⟨hr,jP⟩:=h;have hr:r=[]:=by simpa using hr
   have hj:j=7:=by simpa using hj
   subst hr;subst hj;have h6:dn.contains 6=true:=(X9.1 jP) 6 dQ;refine⟨0,Wk.stop ⟨Nn ..,t9 π p J i (p.tx i) q (bif dn.contains 0 then .slice (some (aQ p.An 0)) p.m p.m else J 9) (bif dn.contains 1 then ptr q else J 10) (bif dn.contains 2 then .int .i64 i else J 11) (bif dn.contains 3 then .pointer (some (aQ q 1))else J 12) (bif dn.contains 4 then .string (p.tx i)else J 13) (.string v) (.pointer (some (aQ p.An i))),fun w hw=>?_,_,Wk.bB 5 _ sP (Wk.stop (n:=0) ⟨_,zgw ..⟩)⟩⟩;unfold gd;rw[h5,h6];obtain⟨cs,c1,c2⟩:=hw.1.pay;have c1:w.1[p.An]?=some (.cells cs 9):=c1;have c2:cs.size=p.m:=c2;have h2:=zgv p J i (p.tx i) q (bif dn.contains 0 then .slice (some (aQ p.An 0)) p.m p.m else J 9) (bif dn.contains 1 then ptr q else J 10) (bif dn.contains 2 then .int .i64 i else J 11) (bif dn.contains 3 then .pointer (some (aQ q 1))else J 12) (bif dn.contains 4 then .string (p.tx i)else J 13) v w;exact Nj (main:=false) h2.1 h2.2 (v:=cs[i]'oQ) rfl (by show w.cell? (aQ p.An i)=_;rw[uH c1];exact XW oQ) (Fz c1) (by rw[Je];exact zgA _)
  ·rw[YG hj]at h;simp only[X6,zsE]at h;obtain⟨⟨⟨h7,UD⟩,hp⟩,hv⟩:=h;by_cases FA:j=5
   ·subst FA;rw[h5]at UD;cases UD
   ·obtain⟨es,k1,k2⟩:=Uz (p:=p) (AW:=AW) (Out:=Out) (J:=J) (q:=q) dn v (r:=r) sD h7 FA hp;obtain⟨n,hn⟩:=UC v sD r (j::dn) hv (by
     have:zuy (j::dn) 5=(5==j||dn.contains 5):=zA6;rw[this,h5];simp)
    exact⟨n+1,Wk.step (Nn ..) k1 k2 hn⟩
theorem UE(sD:i<p.m)(uC:∀ v,p.dP i v->∃ l,v=.string l):∀(l dn:List Nat),valid dn l=true->dn.contains 5=false->∃ n,ya (p.sc π AW Out) i q (AtCall (p.sc π AW Out) i q) n (gd π p J i (p.tx i) q dn .empty l)
 |[],_,h,_=>by cases h
 |j::r,dn,h,h5=>by
  unfold valid at h;by_cases hj:(j==7)=true
  ·rw[YH hj,X6]at h;obtain⟨_,jP⟩:=h;have:=(X9.1 jP) 5 dQ;rw[h5]at this;cases this
  ·rw[YG hj]at h;simp only[X6,zsE]at h;obtain⟨⟨⟨h7,_⟩,hp⟩,hv⟩:=h;by_cases FA:j=5
   ·subst FA;have h4:dn.contains 4=true:=by simpa[pre]using hp
    have e:gd π p J i (p.tx i) q dn .empty (5::r)=dg π p J i (p.tx i) q (bif dn.contains 0 then .slice (some (aQ p.An 0)) p.m p.m else J 9) (bif dn.contains 1 then ptr q else J 10) (bif dn.contains 2 then .int .i64 i else J 11) (bif dn.contains 3 then .pointer (some (aQ q 1))else J 12) (.string (p.tx i)) (J 14) (bif dn.contains 6 then .pointer (some (aQ p.An i))else J 15) (5::r):=by
     unfold gd;rw[h4,h5];rfl
    rw[e];refine⟨0,Wk.stop ⟨Uv ..,_,_,fun w _=>zgr p J i (p.tx i) q _ _ _ _ _ _ r w,fun v dM=>?_⟩⟩;obtain⟨dP,rfl⟩:=uC v dM;rw[zgs];obtain⟨n,hn⟩:=UC (p:=p) (AW:=AW) (Out:=Out) (J:=J) (i:=i) (q:=q) dP sD r (5::dn) hv rfl;refine⟨n,?_⟩;have e2:gd π p J i (p.tx i) q (5::dn) dP r=dg π p J i (p.tx i) q (bif dn.contains 0 then .slice (some (aQ p.An 0)) p.m p.m else J 9) (bif dn.contains 1 then ptr q else J 10) (bif dn.contains 2 then .int .i64 i else J 11) (bif dn.contains 3 then .pointer (some (aQ q 1))else J 12) (.string (p.tx i)) (.string dP) (bif dn.contains 6 then .pointer (some (aQ p.An i))else J 15) r:=by
     unfold gd;rw[show zuy (5::dn) 4=true from h4];rfl
    rw[e2]at hn;exact hn
   ·obtain⟨es,k1,k2⟩:=Uz (p:=p) (AW:=AW) (Out:=Out) (J:=J) (q:=q) dn .empty (r:=r) sD h7 FA hp;obtain⟨n,hn⟩:=UE sD uC r (j::dn) hv (by
     have:zuy (j::dn) 5=(5==j||dn.contains 5):=zA6;rw[this,h5];simp;omega)
    exact⟨n+1,Wk.step (Nn ..) k1 k2 hn⟩
theorem zgC(a b:Addr):seen π 69 #[⟨.cell a,true,false⟩,⟨.cell b,true,false⟩]=#[⟨.cell a,true,false⟩,⟨.cell b,true,false⟩]:=kQ
theorem Np(s:ByteArray):fe (t2 π p J i s q)=true/\(t2 π p J i s q).status=.running/\(t2 π p J i s q).frame.fn=69/\(t1 π p J i s).status=.running/\(t3 π p J i s q).status=.running:=⟨kQ,kQ,kQ,kQ,kQ⟩
theorem zgD{a b:YN}(h:w.1[q]?=some uu):((w.setCell (aQ q 0) a).setCell (aQ q 1) b).1[q]?=some (.cells #[a,b] 125):=by
 have h1:=heap_setCell_same w q 0 #[iQ 0,.string .empty] 125 a h;have h2:=heap_setCell_same (w.setCell (aQ q 0) a) q 1 _ 125 b h1;rw[h2];rfl
theorem zgE(hn:p.n<=16)(uC:∀ i v,i<p.m->p.dP i v->∃ l,v=.string l)(g:YP)(hg:(p.sc π AW Out).AR g):g.status=.running/\g.offers=none/\(∀ w,KW (p.sc π AW Out) w->YV (p.sc π AW Out).E.P false g w=.comm g #[rcase (p.sc π AW Out).Cn (p.sc π AW Out).z] true (.recv true) w #[])/\
  (∀ i,i<(p.sc π AW Out).m->∃ n,pL (p.sc π AW Out) (Mv (p.sc π AW Out) i) n (ZK g (recvd true ((p.sc π AW Out).tv i) true)))/\∃ n,pL (p.sc π AW Out) (AtR0 (p.sc π AW Out)) n (ZK g (recvd true (p.sc π AW Out).z false)):=by
 obtain⟨J,rfl⟩:=hg;refine⟨(Uu p J).1,(Uu p J).2,fun w _=>zgf p J w,fun i sD=>?_,?_⟩
 ·have Q5:∀ q,Mt (p.sc π AW Out) i q (t3 π p J i (p.tx i) q):=fun q=>⟨(Np (p.tx i)).2.2.2.2,fun w _=>⟨_,_,zgm p J i (p.tx i) q w,by
   obtain⟨n,hn⟩:=UE (p:=p) (AW:=AW) (Out:=Out) (J:=J) (q:=q) sD (fun v=>uC i v sD) _ [] (zgz p J i (p.tx i) q ((zBP 69 3).cut (w.tape w.drawn (.order 69 3)))) rfl;exact⟨n,hn⟩⟩⟩
  have put:∀ q,Mu (p.sc π AW Out) i q (t2 π p J i (p.tx i) q):=fun q=>by
   obtain⟨h1,h2,h3,_⟩:=Np (p:=p) (J:=J) (i:=i) (q:=q) (p.tx i);refine⟨h2,fin (t2 π p J i (p.tx i) q) YY,fun w _ hb=>?_,_,Wk.bB 1 _ sP (Wk.stop (n:=0) (Q5 q))⟩;have hb:w.1[q]?=some uu:=hb;have gH:w.1[q]?=some (.cells #[iQ 0,.string .empty] 125):=hb;refine⟨_,_,zfK (main:=false) h1 (zgl p J i (p.tx i) q w) (v:=iQ 0) (v':=.string .empty) rfl rfl (by intro h;cases h) (by rw[uH gH];rfl) (by rw[uH gH];rfl) (Fz gH) (Fz gH) (by rw[h3];exact zgC _ _),?_,by rw[zsG,zsG],zgD hb,fun e he=>?_⟩
   ·refine⟨by rw[zsG,zsG];exact Yp _,fun b _ aW=>?_,rfl,rfl,rfl⟩;rw[zum _ _ b _ aW,zum _ _ b _ aW]
   ·simp only[Yn,Yl,Yo,YL]at he;rcases he with rfl|rfl<;>exact⟨_,rfl,rfl⟩
  refine⟨_,Wk.bB 9 _ sP (Wk.stop (n:=0) ⟨(Np (q:=0) (p.tx i)).2.2.2.1,fun w _=>⟨_,_,zgk p J i (p.tx i) w,⟨sQ,fun b hb _=>?_,rfl,rfl,rfl⟩,sQ,?_,0,Wk.stop (put w.1.size)⟩⟩)⟩
  ·exact Array.getElem?_push_lt hb▸(XW hb).symm
  ·show(w.1.push uu)[w.1.size]?=_;rw[Array.getElem?_push_size];rfl
 ·have h0:=zgb (S:=p.sc π AW Out) rfl hn (zgi p J);have s1:Wk π false (KW (p.sc π AW Out)) (uv (p.sc π AW Out)) (AtR0 (p.sc π AW Out)) 0 (n2 π p.Wg (ez π p J::Am π p J)):=Wk.stop h0;have s2:Wk π false (KW (p.sc π AW Out)) (uv (p.sc π AW Out)) (AtR0 (p.sc π AW Out)) 1 (n1 π p.Wg (ez π p J::Am π p J)):=by
   refine Wk.step (es:=#[]) kQ (fun w hw=>?_) (fun e he=>by simp at he) s1;obtain⟨st,sm,M0⟩:=hw.eN;exact UA (main:=false) (UB p.Wg (ez π p J::Am π p J) w).1 (UB p.Wg (ez π p J::Am π p J) w).2 Nl M0.cellSt
  have s3:=Wk.bB 11 _ sP s2;rw[<-zgg]at s3;exact⟨_,Wk.bB 13 _ sP s3⟩
end
end Go.Proofs.YtaablbmgagiajabGreatDoor.Ren
