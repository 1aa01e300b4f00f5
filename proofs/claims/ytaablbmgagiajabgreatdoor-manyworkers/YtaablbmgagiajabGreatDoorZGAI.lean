import Derived.Test.YtaablbmgagiajabGreatDoorZGAH
set_option maxHeartbeats 3000000
set_option maxRecDepth 20000
open Go.RowKit renaming Below->YO
open Go.RowKit.Below renaming heap_alloc->Za,heap_setCell->Zb,refl->YS
open Go.BinOp renaming or->zt7
open Bool renaming and_false->ztF,and_self->zt8,false_and->zs7
open Go.Instr renaming index->ztb
open Go.IntKind renaming i64->Zy
open Go renaming Value->YN,World->YM
open Go.Value renaming ownBlock->ZF,slice->zuS
namespace Go.Proofs.YtaablbmgagiajabGreatDoor
open Go.Proofs.Tryz
open Go.RowKit Go.Deep
variable{N a cap k n p r win:Nat}{b:Nat->Bool}{o:Obj}{tv:YN}{w:YM}
theorem zaD:(prog.info? 146).map (·.size)=some 12:=kQ
theorem bM.xr{S:VS}(h:bM w N p win tv S):w.rangeAt p 1 [.bool (S.b 0),iQ (S.x 0).c,iQ (S.x 0).v,iQ (S.x 0).o,.bool (S.b 1),iQ (S.x 1).c,iQ (S.x 1).v,iQ (S.x 1).o,.bool (S.b 2),iQ (S.x 2).c,iQ (S.x 2).v,iQ (S.x 2).o]:=fun j v hv=>by
 have hj:j<12:=(Ye.1 hv).1;rw[h.at,<-hv];match j,hj with
 | 0,_=>rfl | 1,_=>rfl | 2,_=>rfl | 3,_=>rfl | 4,_=>rfl | 5,_=>rfl | 6,_=>rfl | 7,_=>rfl | 8,_=>rfl | 9,_=>rfl | 10,_=>rfl | 11,_=>rfl
theorem Pw(w:YM)(a0 a1 a2 a3 a4 a5 a6 a7 a8 a9 dt dv:YN):
  (ztb 146 (.agg #[a0,a1,a2,a3,a4,a5,a6,a7,a8,a9,dt,dv]) (iQ 0)).run prog w=.ok (.agg #[a0,a1,a2,a3]) w/\
  (ztb 146 (.agg #[a0,a1,a2,a3,a4,a5,a6,a7,a8,a9,dt,dv]) (iQ 1)).run prog w=.ok (.agg #[a4,a5,a6,a7]) w/\
  (ztb 146 (.agg #[a0,a1,a2,a3,a4,a5,a6,a7,a8,a9,dt,dv]) (iQ 2)).run prog w=.ok (.agg #[a8,a9,dt,dv]) w:=by
 refine⟨?_,?_,?_⟩<;>simp[ztb,run_underlying underlying146,run_underlying underlying145,asIntOf,part,isAgg]
theorem zL1{x:Nat->Cm}{d:Cm}(hs:oU b x d r k=false)(h:k=r\/Ol b x d k=false):Hid (oU b x d r (k+1)=false):=by
 show(oU b x d r k||(k != r&&Ol b x d k))=false;rw[hs];rcases h with h|h
 ·subst h;simp
 ·rw[h];simp
theorem zL2{x:Nat->Cm}{d:Cm}(hk:k<3)(h1:k≠r)(h2:Ol b x d k=true):oU b x d r 3=true:=by
 have e:(k != r&&Ol b x d k)=true:=by rw[h2];simpa using h1
 show((((false||(0 != r&&Ol b x d 0))||(1 != r&&Ol b x d 1))||(2 != r&&Ol b x d 2)))=true;match k,hk with
 | 0,_=>rw[e];simp
 | 1,_=>rw[e];simp
 | 2,_=>rw[e];simp
theorem zL3(N p win:Nat)(tv:YN)(S:VS)(w:YM)(r:Nat)(v:Int)(hv:Hid (v=r))(d:Cm)(h:bM w N p win tv S)(hr:r<3):
  Calls prog 193 #[pQ p,iQ v,.agg #[.bool true,iQ d.c,iQ d.v,iQ d.o]] w (bQ (.bool (oU S.b S.x d r 3)) w):=by
 have GX:=(h.below ((YS _ _).alloc lQ (.cells #[.bool true,iQ d.c,iQ d.v,iQ d.o] 145))).xr;have Kr:=ae GX;have hp:=h.lt;have iE:Hid (YO w.1.size w (w.alloc (.cells #[.bool true,iQ d.c,iQ d.v,iQ d.o] 145))):=ae ((YS _ _).alloc lQ _);obtain⟨d1,d2,d3⟩:=d;obtain⟨b0,qy⟩:∃ z,Hid (S.b 0=z):=eQ;obtain⟨b1,aX⟩:∃ z,Hid (S.b 1=z):=eQ;obtain⟨b2,bo⟩:∃ z,Hid (S.b 2=z):=eQ;obtain⟨⟨x1,x2,x3⟩,hx⟩:∃ z,Hid (S.x 0=z):=eQ;obtain⟨⟨y1,y2,y3⟩,hy⟩:∃ z,Hid (S.x 1=z):=eQ;obtain⟨⟨z1,z2,z3⟩,hz⟩:∃ z,Hid (S.x 2=z):=eQ;rw[qy.o,aX.o,bo.o,hx.o,hy.o,hz.o]at Kr;have hq:=zMb;have i0:=fun wx a0 a1 a2 a3 a4 a5 a6 a7 a8 a9 dt dv=>(Pw wx a0 a1 a2 a3 a4 a5 a6 a7 a8 a9 dt dv).1
 have i1:=fun wx a0 a1 a2 a3 a4 a5 a6 a7 a8 a9 dt dv=>(Pw wx a0 a1 a2 a3 a4 a5 a6 a7 a8 a9 dt dv).2.1
 have i2:=fun wx a0 a1 a2 a3 a4 a5 a6 a7 a8 a9 dt dv=>(Pw wx a0 a1 a2 a3 a4 a5 a6 a7 a8 a9 dt dv).2.2
 clear h GX;obtain rfl|rfl|rfl:v=0\/v=1\/v=2:=by have:=hv.o;omega
 all_goals
  go_enter func193,ntmps193;go_wp2_with (refine wpList_load_mid rfl 146 _ rfl p 1 rfl _ _ Kr.o underlying146 rfl (by rw[zaD];rfl) ?_)
  go_loopw [13] (fun j wr=>YO (w.1.size+1) (w.alloc (.cells #[.bool true,iQ d1,iQ d2,iQ d3] 145)) wr/\∃ k:Nat,k<=3/\j=iQ k/\Hid (oU S.b S.x ⟨d1,d2,d3⟩ r k=false)) (fun j _=>3-(intOf j).toNat)
  case atStart=>exact⟨YS _ _,0,oQ,rfl,rfl⟩
  case round=>
   obtain⟨hB,k,hk,rfl,HS⟩:=hrel;have qw:=(hB.block w.1.size oQ).trans (aU _ _);have c0:wr.cell? (aQ w.1.size 0)=some (.bool true):=(ay qw 0).trans rfl;have c1:wr.cell? (aQ w.1.size 1)=some (iQ d1):=(ay qw 1).trans rfl;have c2:wr.cell? (aQ w.1.size 2)=some (iQ d2):=(ay qw 2).trans rfl;have c3:wr.cell? (aQ w.1.size 3)=some (iQ d3):=(ay qw 3).trans rfl;have HB:=ae hB;have hs:w.1.size<wr.1.size:=bp qw;clear hB qw;rcases(by omega:k=0\/k=1\/k=2\/k=3)with rfl|rfl|rfl|rfl
   ·have HK:Hid (Ol S.b S.x ⟨d1,d2,d3⟩ 0=(b0&&Oj ⟨x1,x2,x3⟩ ⟨d1,d2,d3⟩)):=ae (by unfold Ol;rw[qy.o,hx.o]);cases b0
    ·go_wp2
     go_roundw
     case rel=>exact⟨HB.o.alloc oQ _,1,oQ,by go_num,zL1 HS.o (.inr HK.o)⟩
     case measure=>simp[intOf]
    ·cases he:Oj ⟨x1,x2,x3⟩ ⟨d1,d2,d3⟩
     ·rw[he]at HK;go_wp2
      go_roundw
      case rel=>exact⟨HB.o.alloc oQ _,1,oQ,by go_num,zL1 HS.o (.inr HK.o)⟩
      case measure=>simp[intOf]
     ·rw[he]at HK
      first
      |have HY:=ae (zL2 (r:=r) dQ (by have:=hv.out;omega) HK.out)
       go_wp2
       go_ret;exact⟨dU HY.o.symm,iE.o.trans (((HB.o.mono oQ).alloc oQ _))⟩
      |go_wp2
       go_roundw
       case rel=>exact⟨HB.o.alloc oQ _,1,oQ,by go_num,zL1 HS.o (.inl (by have:=hv.o;omega))⟩
       case measure=>simp[intOf]
   ·have HK:Hid (Ol S.b S.x ⟨d1,d2,d3⟩ 1=(b1&&Oj ⟨y1,y2,y3⟩ ⟨d1,d2,d3⟩)):=ae (by unfold Ol;rw[aX.o,hy.o]);cases b1
    ·go_wp2
     go_roundw
     case rel=>exact⟨HB.o.alloc oQ _,2,oQ,by go_num,zL1 HS.o (.inr HK.o)⟩
     case measure=>simp[intOf]
    ·cases he:Oj ⟨y1,y2,y3⟩ ⟨d1,d2,d3⟩
     ·rw[he]at HK;go_wp2
      go_roundw
      case rel=>exact⟨HB.o.alloc oQ _,2,oQ,by go_num,zL1 HS.o (.inr HK.o)⟩
      case measure=>simp[intOf]
     ·rw[he]at HK
      first
      |have HY:=ae (zL2 (r:=r) dQ (by have:=hv.out;omega) HK.out)
       go_wp2
       go_ret;exact⟨dU HY.o.symm,iE.o.trans (((HB.o.mono oQ).alloc oQ _))⟩
      |go_wp2
       go_roundw
       case rel=>exact⟨HB.o.alloc oQ _,2,oQ,by go_num,zL1 HS.o (.inl (by have:=hv.o;omega))⟩
       case measure=>simp[intOf]
   ·have HK:Hid (Ol S.b S.x ⟨d1,d2,d3⟩ 2=(b2&&Oj ⟨z1,z2,z3⟩ ⟨d1,d2,d3⟩)):=ae (by unfold Ol;rw[bo.o,hz.o]);cases b2
    ·go_wp2
     go_roundw
     case rel=>exact⟨HB.o.alloc oQ _,3,oQ,by go_num,zL1 HS.o (.inr HK.o)⟩
     case measure=>simp[intOf]
    ·cases he:Oj ⟨z1,z2,z3⟩ ⟨d1,d2,d3⟩
     ·rw[he]at HK;go_wp2
      go_roundw
      case rel=>exact⟨HB.o.alloc oQ _,3,oQ,by go_num,zL1 HS.o (.inr HK.o)⟩
      case measure=>simp[intOf]
     ·rw[he]at HK
      first
      |have HY:=ae (zL2 (r:=r) dQ (by have:=hv.out;omega) HK.out)
       go_wp2
       go_ret;exact⟨dU HY.o.symm,iE.o.trans (((HB.o.mono oQ).alloc oQ _))⟩
      |go_wp2
       go_roundw
       case rel=>exact⟨HB.o.alloc oQ _,3,oQ,by go_num,zL1 HS.o (.inl (by have:=hv.o;omega))⟩
       case measure=>simp[intOf]
   ·go_wp2
    go_ret;exact⟨dU HS.o.symm,iE.o.trans (HB.o.mono oQ)⟩
theorem xu{x:Nat->Cm}{d:Cm}(hs:kU b x d k=a)(h:oT b x d k=false):Hid (kU b x d (k+1)=a):=by
 show(if oT b x d k=true then kU b x d k|||2^k else kU b x d k)=a;rw[h,hs];rfl
theorem Px{x:Nat->Cm}{d:Cm}(hs:kU b x d k=a)(h:oT b x d k=true):Hid (kU b x d (k+1)=a|||2^k):=by
 show(if oT b x d k=true then kU b x d k|||2^k else kU b x d k)=a|||2^k;rw[h,hs];rfl
theorem Kq(a n:Nat)(h:a<8)(hn:n<8):bits zt7 Zy (a:Int) (n:Int)=((a|||n:Nat):Int):=wO a n oQ oQ
theorem zmP(N p win:Nat)(tv:YN)(S:VS)(w:YM)(d:Cm)(h:bM w N p win tv S):
  Calls prog 216 #[pQ p,.agg #[iQ d.c,iQ d.v,iQ d.o]] w (bQ (iQ ((kU S.b S.x d 3:Nat):Int)) w):=by
 have GX:=(h.below ((YS _ _).alloc lQ (.cells #[iQ d.c,iQ d.v,iQ d.o] 49))).xr;have Kr:=ae GX;have hp:=h.lt;have iE:Hid (YO w.1.size w (w.alloc (.cells #[iQ d.c,iQ d.v,iQ d.o] 49))):=ae ((YS _ _).alloc lQ _);obtain⟨d1,d2,d3⟩:=d;obtain⟨b0,qy⟩:∃ z,Hid (S.b 0=z):=eQ;obtain⟨b1,aX⟩:∃ z,Hid (S.b 1=z):=eQ;obtain⟨b2,bo⟩:∃ z,Hid (S.b 2=z):=eQ;obtain⟨⟨x1,x2,x3⟩,hx⟩:∃ z,Hid (S.x 0=z):=eQ;obtain⟨⟨y1,y2,y3⟩,hy⟩:∃ z,Hid (S.x 1=z):=eQ;obtain⟨⟨z1,z2,z3⟩,hz⟩:∃ z,Hid (S.x 2=z):=eQ;rw[qy.o,aX.o,bo.o,hx.o,hy.o,hz.o]at Kr;have hq:=zmO;have i0:=fun wx a0 a1 a2 a3 a4 a5 a6 a7 a8 a9 dt dv=>(Pw wx a0 a1 a2 a3 a4 a5 a6 a7 a8 a9 dt dv).1
 have i1:=fun wx a0 a1 a2 a3 a4 a5 a6 a7 a8 a9 dt dv=>(Pw wx a0 a1 a2 a3 a4 a5 a6 a7 a8 a9 dt dv).2.1
 have i2:=fun wx a0 a1 a2 a3 a4 a5 a6 a7 a8 a9 dt dv=>(Pw wx a0 a1 a2 a3 a4 a5 a6 a7 a8 a9 dt dv).2.2
 clear h GX;go_enter func216,ntmps216;go_wp2_with (refine wpList_load_mid rfl 146 _ rfl p 1 rfl _ _ Kr.o underlying146 rfl (by rw[zaD];rfl) ?_)
 go_loopw [5,12] (fun l j wr=>YO (w.1.size+1) (w.alloc (.cells #[iQ d1,iQ d2,iQ d3] 49)) wr/\∃ k:Nat,k<=3/\j=iQ k/\∃ a:Nat,a<8/\l=iQ a/\Hid (kU S.b S.x ⟨d1,d2,d3⟩ k=a)) (fun _ j _=>3-(intOf j).toNat)
 case atStart=>exact⟨YS _ _,0,oQ,rfl,0,oQ,rfl,rfl⟩
 case round=>
  obtain⟨hB,k,hk,rfl,a,ha,rfl,HS⟩:=hrel;have qw:=(hB.block w.1.size oQ).trans (aU _ _);have c0:wr.cell? (aQ w.1.size 0)=some (iQ d1):=(ay qw 0).trans rfl;have c1:wr.cell? (aQ w.1.size 1)=some (iQ d2):=(ay qw 1).trans rfl;have c2:wr.cell? (aQ w.1.size 2)=some (iQ d3):=(ay qw 2).trans rfl;have HB:=ae hB;have hs:w.1.size<wr.1.size:=bp qw;clear hB qw;rcases(by omega:k=0\/k=1\/k=2\/k=3)with rfl|rfl|rfl|rfl
  ·have HK:Hid (oT S.b S.x ⟨d1,d2,d3⟩ 0=((b0&&tH x1 x2 d1 d2)&&x3 != d3)):=ae (by unfold oT uM tH;rw[qy.o,hx.o]);cases b0
   ·rw[zs7,zs7]at HK;go_wp2
    go_roundw
    case rel=>exact⟨HB.o.alloc oQ _,1,oQ,by go_num,a,ha,rfl,xu HS.o HK.o⟩
    case measure=>simp[intOf]
   ·cases he:tH x1 x2 d1 d2
    ·rw[he,ztF,zs7]at HK;go_wp2
     go_roundw
     case rel=>exact⟨HB.o.alloc oQ _,1,oQ,by go_num,a,ha,rfl,xu HS.o HK.o⟩
     case measure=>simp[intOf]
    ·cases ho:(x3 != d3)
     ·rw[he,ho,ztF]at HK;go_wp2
      go_roundw
      case rel=>exact⟨HB.o.alloc oQ _,1,oQ,by go_num,a,ha,rfl,xu HS.o HK.o⟩
      case measure=>simp[intOf]
     ·rw[he,ho,zt8,zt8]at HK;have eo:bits zt7 Zy (a:Int) 1=((a|||2^0:Nat):Int):=Kq a 1 ha oQ;have aj:a|||2^0<8:=zsv (n:=3) ha dQ;obtain⟨m,hm⟩:∃ m,Hid (a|||2^0=m):=eQ;rw[hm.o]at eo aj;go_wp2
      go_roundw
      case rel=>exact⟨HB.o.alloc oQ _,1,oQ,by go_num,m,aj,rfl,by rw[<-hm.o];exact Px HS.o HK.o⟩
      case measure=>simp[intOf]
  ·have HK:Hid (oT S.b S.x ⟨d1,d2,d3⟩ 1=((b1&&tH y1 y2 d1 d2)&&y3 != d3)):=ae (by unfold oT uM tH;rw[aX.o,hy.o]);cases b1
   ·rw[zs7,zs7]at HK;go_wp2
    go_roundw
    case rel=>exact⟨HB.o.alloc oQ _,2,oQ,by go_num,a,ha,rfl,xu HS.o HK.o⟩
    case measure=>simp[intOf]
   ·cases he:tH y1 y2 d1 d2
    ·rw[he,ztF,zs7]at HK;go_wp2
     go_roundw
     case rel=>exact⟨HB.o.alloc oQ _,2,oQ,by go_num,a,ha,rfl,xu HS.o HK.o⟩
     case measure=>simp[intOf]
    ·cases ho:(y3 != d3)
     ·rw[he,ho,ztF]at HK;go_wp2
      go_roundw
      case rel=>exact⟨HB.o.alloc oQ _,2,oQ,by go_num,a,ha,rfl,xu HS.o HK.o⟩
      case measure=>simp[intOf]
     ·rw[he,ho,zt8,zt8]at HK;have eo:bits zt7 Zy (a:Int) 2=((a|||2^1:Nat):Int):=Kq a 2 ha oQ;have aj:a|||2^1<8:=zsv (n:=3) ha dQ;obtain⟨m,hm⟩:∃ m,Hid (a|||2^1=m):=eQ;rw[hm.o]at eo aj;go_wp2
      go_roundw
      case rel=>exact⟨HB.o.alloc oQ _,2,oQ,by go_num,m,aj,rfl,by rw[<-hm.o];exact Px HS.o HK.o⟩
      case measure=>simp[intOf]
  ·have HK:Hid (oT S.b S.x ⟨d1,d2,d3⟩ 2=((b2&&tH z1 z2 d1 d2)&&z3 != d3)):=ae (by unfold oT uM tH;rw[bo.o,hz.o]);cases b2
   ·rw[zs7,zs7]at HK;go_wp2
    go_roundw
    case rel=>exact⟨HB.o.alloc oQ _,3,oQ,by go_num,a,ha,rfl,xu HS.o HK.o⟩
    case measure=>simp[intOf]
   ·cases he:tH z1 z2 d1 d2
    ·rw[he,ztF,zs7]at HK;go_wp2
     go_roundw
     case rel=>exact⟨HB.o.alloc oQ _,3,oQ,by go_num,a,ha,rfl,xu HS.o HK.o⟩
     case measure=>simp[intOf]
    ·cases ho:(z3 != d3)
     ·rw[he,ho,ztF]at HK;go_wp2
      go_roundw
      case rel=>exact⟨HB.o.alloc oQ _,3,oQ,by go_num,a,ha,rfl,xu HS.o HK.o⟩
      case measure=>simp[intOf]
     ·rw[he,ho,zt8,zt8]at HK;have eo:bits zt7 Zy (a:Int) 4=((a|||2^2:Nat):Int):=Kq a 4 ha oQ;have aj:a|||2^2<8:=zsv (n:=3) ha dQ;obtain⟨m,hm⟩:∃ m,Hid (a|||2^2=m):=eQ;rw[hm.o]at eo aj;go_wp2
      go_roundw
      case rel=>exact⟨HB.o.alloc oQ _,3,oQ,by go_num,m,aj,rfl,by rw[<-hm.o];exact Px HS.o HK.o⟩
      case measure=>simp[intOf]
  ·go_wp2
   go_ret;exact⟨CA (by rw[HS.o]),iE.o.trans (HB.o.mono oQ)⟩
theorem below_drewN{B:Nat}{w':YM}(h:YO B w w')(n:Nat):YO B w (w'.drewN n):=⟨h.os,h.tape,h.output,h.size,h.block⟩
theorem bM.app{w2 w3:YM}{g eu:Nat}{a:Option Addr}{S:VS}{d:Cm}(h:bM w2 N p win (.slice a n cap) S)(hn:S.tr.length=n)(bC:w3.ownsRow N 49 3 (.slice (some (aQ g 0)) (n+1) eu) (n+1) (kV S.tr++qU d))
  (hg:(w2.alloc o).drew.grownBy w3 (zuS a n cap).ownBlock):bM (w3.setCell (aQ p 0) (.slice (some (aQ g 0)) (n+1) eu)) N p win (.slice (some (aQ g 0)) (n+1) eu) ⟨S.tr++[d],S.b,S.x,S.left,S.out,S.dh⟩:=by
 have hp:w3.1[p]?=some (.cells (lG (.slice a n cap) win S) 148 (0,0)):=(hg.block p (by have:=h.lt;simp[World.drew];omega) (fun e=>h.ne p e.symm rfl)).trans ((Za _ _ _ h.lt).trans h.blk);have ht:j8 w3 N (.slice (some (aQ g 0)) (n+1) eu) (S.tr++[d]):=by
  unfold j8;rw[zjr,Yf,hn];exact bC
 refine⟨(fZ hp 0 _).trans rfl,ht.same fun g' fI=>?_,h.np⟩;obtain⟨_,bA,hc⟩:=ht.own fI;exact Zb _ _ _ _ (Oo hc hp dQ)
theorem zmQ{w2 w3:YM}{a:Option Addr}{u:YN}(h:Mod w w2 (VB p (.slice a n cap)))(hg:(w2.alloc o).drew.grownBy w3 (zuS a n cap).ownBlock):Mod w (w3.setCell (aQ p 0) u) (VB p (.slice a n cap)):=by
 have h1:Mod w (w2.alloc o).drew (VB p (.slice a n cap)):=h.below ⟨rfl,rfl,rfl,by simp[World.drew],fun k hk=>Za _ _ _ hk⟩;exact(h1.grown hg (fun k _ e=>.inr e)).set _ _ (fun _=>.inl rfl)
def vD:List YN:=[.bool false,iQ 0,iQ 0,iQ 0,.bool false,iQ 0,iQ 0,iQ 0,.bool false,iQ 0,iQ 0,iQ 0]
theorem zmR:vD.toArray.all (·.oneCell')=true:=by simp[vD,Value.oneCell']
def Ks(c:Array YN):Nat->List YN->Array YN
 |_,[]=>c
 |o,v::r=>Ks (c.setIfInBounds o v) (o+1) r
theorem zaE{w1:YM}{T:Nat->Prop}{b:Nat}(hb:T b)(vs:List YN)(h:Mod w w1 T)(o:Nat):Mod w (w1.setCells b o vs) T:=by
 induction vs generalizing o w1 with
 |nil=>exact h
 |cons v r ih=>exact ih (h.set ⟨b,o,none⟩ v (fun _=>hb)) (o+1)
theorem zmS{b:Nat}{t:TypeId}(vs:List YN){c:Array YN}(h:w.1[b]?=some (.cells c t (0,0)))(o:Nat):(w.setCells b o vs).1[b]?=some (.cells (Ks c o vs) t (0,0)):=by
 induction vs generalizing o w c with
 |nil=>exact h
 |cons v r ih=>exact ih (fZ h o v) (o+1)
theorem zmT(tv:YN)(win:Nat)(S:VS):Ks (lG tv win S) 1 vD=lG tv win ⟨S.tr,fun _=>false,fun _=>qT,S.left,S.out,S.dh⟩:=by
 simp[vD,Ks,lG,qT]
theorem bM.zmU{S:VS}(h:bM w N p win tv S):bM (w.setCells p 1 vD) N p win tv ⟨S.tr,fun _=>false,fun _=>qT,S.left,S.out,S.dh⟩/\Mod w (w.setCells p 1 vD) (VB p tv):=by
 have aK:Mod w (w.setCells p 1 vD) (fun k=>k=p):=zaE (T:=fun k=>k=p) (b:=p) rfl _ (Mod.refl _ _) _;refine⟨⟨?_,h.row.same fun g hg=>aK.block g (by obtain⟨_,_,hc⟩:=h.row.own hg;exact bp hc) (h.ne g hg),h.np⟩,zaE (.inl rfl) _ (Mod.refl _ _) _⟩;rw[zmS vD h.blk 1,zmT]
theorem bM.there{S:VS}(h:bM w N p win tv S):w.there p 1 12:=fun j hj=>by
 refine⟨?_,h.free _⟩;rw[h.at,XW (by show 1+j<17;omega)];rfl
theorem zmV{au:Array Oper}{rest:List Oper}{op:Oper}{a:Act}{Q:Exit->Act->YM->Prop}(gq:op.guard=none)(x y:Operand)(ho:op.op=.store 146 x y)(p:Nat)(hx:a.eval x=.pointer (some (aQ p 1)))(hy:a.eval y=.agg #[.bool false,iQ 0,iQ 0,iQ 0,.bool false,iQ 0,iQ 0,iQ 0,.bool false,iQ 0,iQ 0,iQ 0])
  (ht:w.there p 1 12) (h:∀ w',Hid (w.setCells p 1 vD=w')->wpList prog au Q rest (a.put op.dst undef) w'):wpList prog au Q (op::rest) a w:=
 wpList_store_mid gq 146 x y ho p 1 vD.toArray hx hy ht (by rw[zaD];rfl) zmR (h _ rfl)
theorem Py(N p win:Nat)(tv:YN)(S:VS)(w:YM)(d:Cm)(h:bM w N p win tv S)(av:dS win S)(hl:S.dh=false)(hN:N<=w.1.size):
    Calls prog 194 #[pQ p, .agg #[iQ d.c, iQ d.v, iQ d.o]] w fun e w' => e = .returned (.tuple #[]) ∧ ∃ pY, bM w' N p win pY (pU win S d) ∧ kz w tv pY ∧ Mod w w' (VB p tv) := by
  obtain ⟨W, hW⟩ : ∃ W, Hid (w.alloc (.cells #[iQ d.c, iQ d.v, iQ d.o] 49) = W) := eQ
  have dI : YO w.1.size w W := by rw [← hW.o]; exact (YS _ _).alloc lQ _
  have aJ : W.1[w.1.size]? = some (.cells #[iQ d.c, iQ d.v, iQ d.o] 49 (0, 0)) := by rw [← hW.o]; exact aU _ _
  have F9 : W.1.size = w.1.size + 1 := by rw [← hW.o]; simp
  have Pz := h.below dI
  have ho := av.out
  have xv := VO S.b S.x d 3 3 lQ
  have po := VP av d
  obtain ⟨ag, Kt⟩ : ∃ z, Hid (kU S.b S.x d 3 = z) := eQ
  obtain ⟨on, cX⟩ : ∃ z, Hid (Az S d = z) := eQ
  have eo : bits zt7 Zy (S.out : Int) (ag : Int) = (on : Int) := by
    rw [Kt.o] at xv
    rw [Kq S.out ag ho xv, ← cX.o, Az, Kt.o]
  rw [cX.o] at po
  have iT : ∀ wx, YO W.1.size W wx → Calls prog 216 #[pQ p, .agg #[iQ d.c, iQ d.v, iQ d.o]] wx fun e w1 => e = .returned (iQ (ag : Int)) ∧
      (w1.cell? (aQ p 15) = some (iQ (S.out : Int)) ∧ w1.frozen? (aQ p 15) = false) ∧ Hid (bM (w1.setCell (aQ p 15) (iQ (on : Int))) N p win tv ⟨S.tr, S.b, S.x, S.left, on, S.dh⟩ ∧ Mod w (w1.setCell (aQ p 15) (iQ (on : Int))) (VB p tv) ∧ (w1.setCell (aQ p 15) (iQ (on : Int))).1[w.1.size]? = some (.cells #[iQ d.c, iQ d.v, iQ d.o] 49 (0, 0))) := by
    intro wx hx
    have hV := Pz.below hx
    refine (zmP N p win tv S wx d hV).mono ?_
    rintro e w1 ⟨rfl, aG⟩
    have dp := hV.below aG
    have hBx : YO w.1.size w w1 := dI.trans ((hx.mono oQ).trans (aG.mono (by have := hx.size; omega)))
    refine ⟨by rw [Kt.o], ⟨(dp.at 15).trans rfl, dp.free 15⟩, ae ⟨dp.put 15 _ rfl rfl, (Mod.fB hBx _).set _ _ (fun _ => .inl rfl), ?_⟩⟩
    rw [Zb _ _ _ _ (by show w.1.size ≠ p; have := h.lt; omega), aG.block _ (by have := hx.size; omega), hx.block _ oQ, aJ]
  have HC := ae iT
  have c15 : W.cell? (aQ p 15) = some (iQ (S.out : Int)) := (Pz.at 15).trans rfl
  have y0 : W.cell? (aQ w.1.size 0) = some (iQ d.c) := (ay aJ 0).trans rfl
  have y1 : W.cell? (aQ w.1.size 1) = some (iQ d.v) := (ay aJ 1).trans rfl
  have y2 : W.cell? (aQ w.1.size 2) = some (iQ d.o) := (ay aJ 2).trans rfl
  have hp := h.lt
  have hf := av.few
  have zaF : ∀ g, tv.ownBlock = some g → g < w.1.size := fun g hg => by obtain ⟨_, bA, hc⟩ := h.row.own hg; exact bp hc
  obtain ⟨a, cap, rfl⟩ := h.row.shape
  obtain ⟨i0, hi, cQ, bf, bK⟩ := info_parts zaB
  have HI := ae hi
  have fN := ae cQ
  have gP := ae bf
  have gQ := ae bK
  clear hi cQ bf bK
  have hn : ¬ S.tr.length = 1000 := fun e => by rw [av.full e] at hl; cases hl
  have fX := ae av
  have Bb := cX
  clear iT Pz aJ dI h av Kt cX xv
  go_enter func194, ntmps194
  go_wp2_with fail
  rw [show w.alloc (.cells #[iQ d.c, iQ d.v, iQ d.o] 49) = W from hW.o]
  clear hW
  go_cut [] from 4 to 13 (fun wc => bM wc N p win (.slice a S.tr.length cap) ⟨S.tr, S.b, S.x, S.left, on, S.dh⟩ ∧ Mod w wc (VB p (.slice a S.tr.length cap)) ∧ wc.1[w.1.size]? = some (.cells #[iQ d.c, iQ d.v, iQ d.o] 49 (0, 0)))
  case first =>
    go_region_with ((go_at_call 216; refine (bE HC _ (by first | exact YS _ _ | exact (YS _ _).drew | exact below_drewN (YS _ _) _)).mono ?_; rintro e w1 ⟨rfl, ⟨z0, z1⟩, HM⟩))
    all_goals
      go_wp2_with fail
      go_meet
      exact HM.o
  case rest =>
    obtain ⟨kr, lS, bo⟩ := hcut
    have c0 : wc.cell? (aQ p 0) = some (.slice a S.tr.length cap) := (kr.at 0).trans rfl
    have f0 : wc.frozen? (aQ p 0) = false := kr.free 0
    have x0 : wc.cell? (aQ w.1.size 0) = some (iQ d.c) := (ay bo 0).trans rfl
    have x1 : wc.cell? (aQ w.1.size 1) = some (iQ d.v) := (ay bo 1).trans rfl
    have x2 : wc.cell? (aQ w.1.size 2) = some (iQ d.o) := (ay bo 2).trans rfl
    have gC : w.1.size < wc.1.size := bp bo
    have yS : some p ≠ (zuS a S.tr.length cap).ownBlock := fun e => kr.ne p e.symm rfl
    have Ku : Hid ((wc.alloc (.cells #[iQ d.c, iQ d.v, iQ d.o] 49)).drew.frozen? (aQ p 0) = false) := ae ((World.frozen?_of_block (w := wc) (Za _ _ _ kr.lt)).trans (kr.free 0))
    have bJ := kr.lt
    have Dj : Hid ((wc.alloc (.cells #[iQ d.c, iQ d.v, iQ d.o] 49)).drew.cell? (aQ p 0) = some (.slice a S.tr.length cap)) := ae ((World.cell?_of_block (w := wc) (Za _ _ _ bJ)).trans c0)
    have zaG := ae kr.row
    have lh := ae kr
    have jI := ae lS
    obtain ⟨n, vE⟩ : ∃ n, Hid (S.tr.length = n) := eQ
    rw [vE.o] at hn hf c0 yS lh jI Dj zaF
    have xc : Hid (n + 1 ≤ maxLen) := by rw [Hid]; unfold maxLen; omega
    have xd : Hid ((n + 1) * 24 ≤ 140737488355328) := by rw [Hid]; omega
    have A1 : Hid (N ≤ (wc.alloc (.cells #[iQ d.c, iQ d.v, iQ d.o] 49)).drew.1.size) := by rw [Hid]; simp; omega
    have th : Hid (wc.ownsRow N 49 3 (.slice a n cap) n (kV S.tr)) := by
      have := zaG.o
      unfold j8 at this
      rw [vE.o] at this
      exact this
    clear zaG kr lS bo HC c15 y0 y1 y2
    go_wp2_with fail
    go_cut [] from 14 to 23 (fun wz => ∃ g eu, bM wz N p win (.slice (some (aQ g 0)) (n + 1) eu) ⟨S.tr ++ [d], S.b, S.x, S.left, on, S.dh⟩ ∧ Mod w wz (VB p (.slice a n cap)) ∧ ((zuS a n cap).ownBlock = some g ∨ w.1.size ≤ g))
    case first =>
      go_region_law
        ((refine step_append_lies _ rQ _ _ _ rQ N 49 i0 _ 3 24 underlying28 HI.o fN.o gP.o gQ.o rfl oQ (.slice a n cap) n (kV S.tr) rQ ((th.o.alloc _).drew)
            (aQ wc.1.size 0) 1 1 (qU d) rQ rQ (World.news_of_block (cs := #[iQ d.c, iQ d.v, iQ d.o]) (t := 49) (fr := (0, 0)) (heap_alloc_new wc _)) (fun u hu => by simp [qU] at hu; rcases hu with rfl | rfl | rfl <;> rfl)
            oQ xc.o xd.o A1.o (wc.1.size + 1) sQ ?_; intro g eu w3 PB bL eM aj; have fz : w3.frozen? (aQ p 0) = false := (bL.frozen_far (aQ p 0) tQ yS).trans Ku.out; have cz : w3.cell? (aQ p 0) = some (.slice a n cap) := (bL.cell_far (aQ p 0) tQ yS).trans Dj.out))
      all_goals
        go_wp2_with fail
        go_meet
        exact ⟨g, eu, lh.o.app vE.o PB bL, zmQ jI.o bL, eM.imp id (fun e => oQ)⟩
    case rest =>
      obtain ⟨g, eu, rz, kA, eM⟩ := hcut
      clear xc xd A1 th Dj Ku c0 f0 x0 x1 x2 yS lh jI
      obtain ⟨pq, lK⟩ := rz.zmU
      have nY := ae rz.there
      have kD := ae pq
      have dx := ae (kA.then lK (fun i hi hu => by
        rcases hu with hu | hu
        · exact .inl hu
        · right
          have e : g = i := by simpa [ZF] using hu
          rcases eM with h | h
          · rw [h, e]
          · omega))
      have GD := ae eM
      clear rz kA pq lK eM
      go_wp2_with (refine zmV rfl _ _ rfl p rfl rfl nY.o ?_)
      intro w4 hw4
      rw [hw4.o] at kD dx
      have k0 : w4.cell? (aQ p 0) = some (.slice (some (aQ g 0)) (n + 1) eu) := (kD.o.at 0).trans rfl
      have k13 : w4.cell? (aQ p 13) = some (iQ (win : Int)) := (kD.o.at 13).trans rfl
      have k14 : w4.cell? (aQ p 14) = some (iQ (S.left : Int)) := (kD.o.at 14).trans rfl
      have k15 : w4.cell? (aQ p 15) = some (iQ (on : Int)) := (kD.o.at 15).trans rfl
      have pw : w4.cell? (aQ p 16) = some (.bool S.dh) := (kD.o.at 16).trans rfl
      have l14 := kD.o.free 14
      have l16 := kD.o.free 16
      have Rh := fun wx => zmE on (n + 1) wx oQ
      obtain ⟨z, hz⟩ : ∃ z, Hid ((decide (2 ≤ pop 8 on) || decide (1000 ≤ n + 1)) = z) := eQ
      rw [hz.o] at Rh
      have HSP := ae Rh
      have e5 := (kD.o.put (S' := ⟨S.tr ++ [d], fun _ => false, fun _ => qT, win, on, S.dh⟩) 14 (iQ (win : Int)) rfl rfl).put (S' := ⟨S.tr ++ [d], fun _ => false, fun _ => qT, win, on, z⟩) 16 (.bool z) rfl rfl
      have PC := ae e5
      have GY := ae ((dx.o.set (aQ p 14) (iQ (win : Int)) (fun _ => .inl rfl)).set (aQ p 16) (.bool z) (fun _ => .inl rfl))
      have zmW : Hid (pU win S d = ⟨S.tr ++ [d], fun _ => false, fun _ => qT, win, on, z⟩) := by
        rw [Hid]
        unfold pU
        rw [Bb.o, vE.o, hz.o]
      clear Rh e5 hw4 kD dx nY zaF
      go_wp2_with fail
      go_region_with ((go_at_call 217; refine (bE HSP _).mono ?_; rintro e w5 ⟨rfl, hw5⟩; subst w5))
      all_goals go_wp2_with fail
      all_goals
        go_end0
        rw [zmW.o, vE.o]
        refine ⟨rfl, _, ⟨PC.o.blk, PC.o.row, PC.o.np⟩, fun g' fI => ?_, ⟨GY.o.os, GY.o.tape, GY.o.output, GY.o.size, GY.o.block⟩⟩
        have e : g = g' := by simpa [ZF] using fI
        rw [← e]
        exact GD.o
end Go.Proofs.YtaablbmgagiajabGreatDoor
