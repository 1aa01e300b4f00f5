import Derived.Test.YtaablbmgagiajabGreatDoorZGAG
set_option maxHeartbeats 4000000
set_option maxRecDepth 20000
open Go.RowKit renaming Below->YO
open Go.RowKit.Below renaming heap_alloc->Za,heap_setCell->Zb,refl->YS
open Bool renaming and_true->zxX
open Go renaming Calls->YR,Value->YN,World->YM,bodyPost_ret->Zm,run_equalIn_struct->zxD,run_underlying->Z7,wpList_load_mid->zsU
open Go.Calls renaming quiet_of_same->ztf
open Int renaming le_refl->ZC
open List renaming range->ZE
open Nat renaming add_sub_cancel->zxa
open Go.Op renaming equalIn->zsQ
open Or renaming inl->Zj
open Go.World renaming drewN->zug
namespace Go.Proofs.YtaablbmgagiajabGreatDoor
open Go.Proofs.Tryz
open Go.RowKit Go.Deep
variable{B:Int}{b n:Nat}
def gF(F:FR):GS:=⟨F 6,fun k=>if k<8 then F (7+k)else 0,fun k=>if k<8 then F (15+k)else 0⟩
theorem zas(F:FR):kF (gF F)=#[iQ (F 6),iQ (F 7),iQ (F 8),iQ (F 9),iQ (F 10),iQ (F 11),iQ (F 12),iQ (F 13),iQ (F 14),iQ (F 15),iQ (F 16),iQ (F 17),iQ (F 18),iQ (F 19),iQ (F 20),iQ (F 21),iQ (F 22)]:=rfl
def pj(F:FR):Nat->Int:=fun j=>if j=0 then F 2 else F (5+j)
theorem zmd(F:FR):di (pj F)=#[iQ (F 2),iQ (F 6),iQ (F 7),iQ (F 8),iQ (F 9),iQ (F 10),iQ (F 11),iQ (F 12),iQ (F 13),iQ (F 14),iQ (F 15),iQ (F 16),iQ (F 17),iQ (F 18),iQ (F 19),iQ (F 20),iQ (F 21),iQ (F 22)]:=rfl
def yN(S:St)(j:Nat):Int:=if j=0 then(S.set:Int)else if j<9 then((S.used (j-1):Nat):Int)else S.idle (j-9)
def nh(R:RS):FR:=fun k=>if k=0 then 5 else if k=1 then(R.id:Int)else if k=2 then R.cycle else if k<6 then 0 else yN R.st (k-6)
def GU(F:FR):Prop:=∀ k,k<23->-9223372036854775808<=F k/\F k<9223372036854775808
theorem zme{F:FR}(h:GU F):GIn (gF F):=by
 refine⟨h 6 oQ,fun k=>?_,fun k=>?_⟩
 ·show -9223372036854775808<=(if k<8 then F (7+k)else 0)/\(if k<8 then F (7+k)else 0)<9223372036854775808;split
  ·exact h _ oQ
  ·omega
 ·show -9223372036854775808<=(if k<8 then F (15+k)else 0)/\(if k<8 then F (15+k)else 0)<9223372036854775808;split
  ·exact h _ oQ
  ·omega
theorem zmf(F:FR)(k:Nat)(h:8<=k):(gF F).used k=0/\(gF F).idle k=0:=⟨YG oQ,YG oQ⟩
theorem zmg{C:RC}{F:FR}(av:cw (C.s:Int) C.zs (C.d:Int)=(0,-1))(hn:C.zs.length=C.n)(h:GU F)(hR:xn C.zs C.d (gF F)=true):∀ j,j<17->(aB (vA (gF F)))[j]?=some (iQ (pj F (1+j))):=by
 intro j hj;rw[<-(zmc av hn (zme h) (zmf F) hR).1,zas];rcases(by omega:j=0\/j=1\/j=2\/j=3\/j=4\/j=5\/j=6\/j=7\/j=8\/j=9\/j=10\/j=11\/j=12\/j=13\/j=14\/j=15\/j=16)with rfl|rfl|rfl|rfl|rfl|rfl|rfl|rfl|rfl|rfl|rfl|rfl|rfl|rfl|rfl|rfl|rfl<;>rfl
def fj(C:RC)(F:FR)(R:RS):RS:=
 if F 0=3/\F 1=3 then iN C F R else if cV (F 1)=false\/F 1=(R.id:Int)then R
 else if F 0=1/\F 2=R.cycle then uZ (F 1).toNat (cW C.s (F 3)) (cW C.n (F 4)) R else if F 0=4 then R
 else if F 0=5/\R.cycle<F 2/\xn C.zs C.d (gF F)=true then tz (F 1).toNat (pj F) (vA (gF F)) R else R
def gh(C:RC)(F:FR)(R:RS):List FR:=
 if F 0=3/\F 1=3 then rr C F R else if cV (F 1)=false\/F 1=(R.id:Int)then []else if F 0=4 then [nh R]else []
theorem zmh{w:YM}{R:RS}(hS:aM w b 36 (df 5 (R.id:Int) R.cycle)):aM (w.setCells b 6 (aB R.st).toList) b 36 (nh R):=by
 have hb:eJ w b 36 23 (fun k=>iQ (df 5 (R.id:Int) R.cycle k)):=⟨_,hS,rfl,fun k hk=>cK _ k hk⟩;obtain⟨cs,h1,h2,h3⟩:=eJ.mr (aB R.st).toList 6 w _ hb (by show 6+17<=23;omega);have e:cs=ak (nh R):=by
  apply Array.ext_getElem?;intro i;by_cases hi:i<23
  ·rw[h3 i hi,cK _ i hi];rcases(by omega:i=0\/i=1\/i=2\/i=3\/i=4\/i=5\/i=6\/i=7\/i=8\/i=9\/i=10\/i=11\/i=12\/i=13\/i=14\/i=15\/i=16\/i=17\/i=18\/i=19\/i=20\/i=21\/i=22)with rfl|rfl|rfl|rfl|rfl|rfl|rfl|rfl|rfl|rfl|rfl|rfl|rfl|rfl|rfl|rfl|rfl|rfl|rfl|rfl|rfl|rfl|rfl<;>rfl
  ·rw[XX oQ,XX (by rw[ky];omega)]
 rw[e]at h1;exact h1
theorem zmi{w:YM}{F:FR}(hS:aM w b 36 F):w.there b 6 17:=fun j hj=>⟨by rw[hS.at oQ];rfl,hS.free _⟩
section
variable {au:Array Oper}{rest:List Oper}{op:Oper}{a:Act}{w:YM}{Q:Exit->Act->YM->Prop}
theorem zmj(gq:op.guard=none)(x y:Operand)(ho:op.op=.store 34 x y)(b:Nat)(R:RS)(hx:a.eval x=.pointer (some (aQ b 6)))(hy:a.eval y=.agg (aB R.st))(ht:w.there b 6 17)
  (h:∀ w',Hid (w'=w.setCells b 6 (aB R.st).toList)->wpList prog au Q rest (a.put op.dst undef) w'):wpList prog au Q (op::rest) a w:=
 wpList_store_mid gq 34 x y ho b 6 (aB R.st) hx hy ht (by rw[iM];rfl) (sV _) (h _ rfl)
end
theorem zmk(p:Nat)(C:RC)(R:RS)(F:FR)(w:YM)(h:aF w p C R)(av:GQ R)(qN:0<=R.cycle/\R.cycle<1000000000)(hF:GU F):
  YR prog 127 #[pQ p,.agg (ak F)] w fun e w'=>
   (∃ v,e=.returned v/\ep w' 36 v (gh C F R))/\aF w' p C (fj C F R)/\Mod w w' (· = p):=by
 have bJ:=h.lt;have vu:ld w (w.alloc (.cells (ak F) 36)) w.1.size p C R F:=by
  have hb:YO w.1.size w (w.alloc (.cells (ak F) 36)):=(YS _ _).alloc lQ _;exact⟨Mod.fB hb _,aU _ _,h.below hb⟩
 have n0:(ak F)[0]?=some (iQ (F 0)):=rfl;have n1:(ak F)[1]?=some (iQ (F 1)):=rfl;have n2:(ak F)[2]?=some (iQ (F 2)):=rfl;have n3:(ak F)[3]?=some (iQ (F 3)):=rfl;have n4:(ak F)[4]?=some (iQ (F 4)):=rfl;have k0:=h.c0;have k4:=h.c4;have k5:=h.c5;have hid:=av.id;have fE:=ae vu;have fX:=ae av;have HF:=ae hF;have HCY:=ae qN;obtain⟨SS,qh⟩:∃ SS,Hid (fj C F R=SS):=eQ;obtain⟨TT,mz⟩:∃ TT,Hid (gh C F R=TT):=eQ;rw[qh.o,mz.o];clear h vu av hF qN;by_cases bW:F 0=3
 ·by_cases hv:F 1=3
  ·have HS:Hid (SS=iN C F R):=ae (by rw[<-qh.o];exact YH ⟨bW,hv⟩);have HT:Hid (TT=rr C F R):=ae (by rw[<-mz.o];exact YH ⟨bW,hv⟩);have t3:(F 0==3)=true:=by rw[bW];rfl
   have u3:(F 1==3)=true:=by rw[hv];rfl
   clear bW hv;have kG:=zlP p C R F _ fE.o.rp fX.o.st HCY.o;rw[<-HS.o,<-HT.o]at kG;have vB:=ae kG;clear kG;go_enter func127,ntmps127;go_wp2_with (refine fM rfl _ rfl w.1.size rfl F fE.o.bS ?_)
   refine vB.o.mono ?_;rintro e w2 ⟨⟨v,rfl,zx⟩,gI,aK⟩;go_wp2
   go_ret;exact⟨⟨_,rfl,zx⟩,gI,fE.o.old.then aK (fun _ _ e=>e)⟩
  ·have iO:Hid (¬(F 0=3/\F 1=3)):=ae (fun e=>hv e.2);have u3:(F 1==3)=false:=zsC hv;have t3:(F 0==3)=true:=by rw[bW];rfl
   have t1:(F 0==1)=false:=by rw[bW];rfl
   have t4:(F 0==4)=false:=by rw[bW];rfl
   have t5:(F 0==5)=false:=by rw[bW];rfl
   obtain⟨br,ue⟩:∃ b,cV (F 1)=b:=⟨_,rfl⟩;cases br
   ·have HS:Hid (SS=R):=ae (by rw[<-qh.o];unfold fj;rw[YG iO.o,YH (.inl ue)]);have HT:Hid (TT=[]):=ae (by rw[<-mz.o];unfold gh;rw[YG iO.o,YH (.inl ue)]);go_enter func127,ntmps127;go_wp2_with fail
    go_quiet ((go_at_call 134;exact ztf (qb _ _)))
    go_wp2
    go_ret;exact⟨⟨_,rfl,.inl ⟨HT.o,rfl⟩⟩,by rw[HS.o];exact(fE.o.drewN _).rp,(fE.o.drewN _).old⟩
   ·have jm:0<=F 1/\F 1<3:=by unfold cV at ue;simpa using ue
    obtain⟨k,hk⟩:∃ k:Nat,F 1=(k:Int):=⟨(F 1).toNat,oQ⟩;have iq:k<3:=oQ;have ny:(F 1).toNat=k:=oQ;obtain⟨bs,uW⟩:∃ b,(F 1==(R.id:Int))=b:=⟨_,rfl⟩;cases bs
    ·have n7:Hid (¬(cV (F 1)=false\/F 1=(R.id:Int))):=ae (by
      rintro(e|e)
      ·rw[ue]at e;cases e
      ·rw[e]at uW;simp at uW)
     have Ki:=ae bW;have HS:Hid (SS=R):=ae (by rw[<-qh.o];unfold fj;rw[YG iO.o,YG n7.o,YG (fun e=>by have:=Ki.o;omega),YG (by have:=Ki.o;omega),YG (fun e=>by have:=Ki.o;omega)]);have HT:Hid (TT=[]):=ae (by rw[<-mz.o];unfold gh;rw[YG iO.o,YG n7.o,YG (by have:=Ki.o;omega)]);clear jm hk ny bW hv;go_enter func127,ntmps127;go_wp2_with fail
     go_quiet ((go_at_call 134;exact ztf (qb _ _)))
     go_wp2_with fail
     go_quiet (fail)
     go_wp2_with fail
     go_quiet (fail)
     go_wp2
     go_ret;exact⟨⟨_,rfl,.inl ⟨HT.o,rfl⟩⟩,by rw[HS.o];exact((fE.o.drewN _).drewN _).rp,((fE.o.drewN _).drewN _).old⟩
    ·have lv:F 1=(R.id:Int):=by simpa using uW
     have HS:Hid (SS=R):=ae (by rw[<-qh.o];unfold fj;rw[YG iO.o,YH (.inr lv)]);have HT:Hid (TT=[]):=ae (by rw[<-mz.o];unfold gh;rw[YG iO.o,YH (.inr lv)]);clear lv jm hk ny;go_enter func127,ntmps127;go_wp2_with fail
     go_quiet ((go_at_call 134;exact ztf (qb _ _)))
     go_wp2
     go_ret;exact⟨⟨_,rfl,.inl ⟨HT.o,rfl⟩⟩,by rw[HS.o];exact(fE.o.drewN _).rp,(fE.o.drewN _).old⟩
 ·have iO:Hid (¬(F 0=3/\F 1=3)):=ae (fun e=>bW e.1);have t3:(F 0==3)=false:=zsC bW;obtain⟨br,ue⟩:∃ b,cV (F 1)=b:=⟨_,rfl⟩;cases br
  ·have HS:Hid (SS=R):=ae (by rw[<-qh.o];unfold fj;rw[YG iO.o,YH (.inl ue)]);have HT:Hid (TT=[]):=ae (by rw[<-mz.o];unfold gh;rw[YG iO.o,YH (.inl ue)]);go_enter func127,ntmps127;go_wp2_with fail
   go_quiet ((go_at_call 134;exact ztf (qb _ _)))
   go_wp2
   go_ret;exact⟨⟨_,rfl,.inl ⟨HT.o,rfl⟩⟩,by rw[HS.o];exact(fE.o.drewN _).rp,(fE.o.drewN _).old⟩
  ·have jm:0<=F 1/\F 1<3:=by unfold cV at ue;simpa using ue
   obtain⟨k,hk⟩:∃ k:Nat,F 1=(k:Int):=⟨(F 1).toNat,oQ⟩;have iq:k<3:=oQ;have ny:(F 1).toNat=k:=oQ;obtain⟨bs,uW⟩:∃ b,(F 1==(R.id:Int))=b:=⟨_,rfl⟩;cases bs
   ·have n7:Hid (¬(cV (F 1)=false\/F 1=(R.id:Int))):=ae (by
     rintro(e|e)
     ·rw[ue]at e;cases e
     ·rw[e]at uW;simp at uW)
    by_cases h1:F 0=1
    ·have t1:(F 0==1)=true:=by rw[h1];rfl
     have t4:(F 0==4)=false:=by rw[h1];rfl
     have t5:(F 0==5)=false:=by rw[h1];rfl
     obtain⟨bc,hbc⟩:∃ b,(F 2==R.cycle)=b:=⟨_,rfl⟩;cases bc
     ·have aW:F 2≠R.cycle:=by simpa using hbc
      have HS:Hid (SS=R):=ae (by rw[<-qh.o];unfold fj;rw[YG iO.o,YG n7.o,YG (fun e=>aW e.2),YG oQ,YG (fun e=>oQ)]);have HT:Hid (TT=[]):=ae (by rw[<-mz.o];unfold gh;rw[YG iO.o,YG n7.o,YG oQ]);clear jm hk ny bW aW h1;go_enter func127,ntmps127;go_wp2_with fail
      go_quiet ((go_at_call 134;exact ztf (qb _ _)))
      go_wp2_with fail
      go_quiet (fail)
      go_wp2_with fail
      go_quiet (fail)
      go_wp2
      go_ret;exact⟨⟨_,rfl,.inl ⟨HT.o,rfl⟩⟩,by rw[HS.o];exact((fE.o.drewN _).drewN _).rp,((fE.o.drewN _).drewN _).old⟩
     ·have lr:F 2=R.cycle:=by simpa using hbc
      have HS:Hid (SS=uZ k (cW C.s (F 3)) (cW C.n (F 4)) R):=ae (by rw[<-qh.o];unfold fj;rw[YG iO.o,YG n7.o,YH ⟨h1,lr⟩,ny]);have HT:Hid (TT=[]):=ae (by rw[<-mz.o];unfold gh;rw[YG iO.o,YG n7.o,YG oQ]);have Ke:Hid (∀ n,YR prog 138 #[pQ p,iQ (F 1),.agg #[iQ (F 3),iQ (F 4)]] ((w.alloc (.cells (ak F) 36)).drewN n) fun e w'=>e=.returned (.tuple #[])/\aF w' p C SS/\Mod ((w.alloc (.cells (ak F) 36)).drewN n) w' (· = p)):=ae (fun n=>by rw[HS.o,hk];exact XU p C R k (F 3) (F 4) _ (fE.o.drewN n).rp iq);clear jm hk ny bW lr h1;go_enter func127,ntmps127;go_wp2_with fail
      go_quiet ((go_at_call 134;exact ztf (qb _ _)))
      go_wp2_with fail
      go_quiet (fail)
      go_wp2_with fail
      refine(Ke.o _).mono ?_;rintro e w2 ⟨rfl,gI,aK⟩;go_wp2
      go_ret;exact⟨⟨_,rfl,.inl ⟨HT.o,rfl⟩⟩,gI,(fE.o.drewN _).old.then aK (fun _ _ e=>e)⟩
    ·have t1:(F 0==1)=false:=zsC h1;by_cases h4:F 0=4
     ·have t4:(F 0==4)=true:=by rw[h4];rfl
      have HS:Hid (SS=R):=ae (by rw[<-qh.o];unfold fj;rw[YG iO.o,YG n7.o,YG (fun e=>h1 e.1),YH h4]);have HT:Hid (TT=[nh R]):=ae (by rw[<-mz.o];unfold gh;rw[YG iO.o,YG n7.o,YH h4]);clear jm hk ny bW h4 h1;go_enter func127,ntmps127;go_wp2_with fail
      go_quiet ((go_at_call 134;exact ztf (qb _ _)))
      go_wp2_with fail
      go_quiet (fail)
      go_wp2_with fail
      refine(J9 p C R 5 _ (fE.o.drewN _).rp).mono ?_;rintro e w2 ⟨rfl,aS⟩;have tj:=ae ((fE.o.drewN _).below aS);have HZ:Hid (aM (w2.alloc (.cells (ak aD) 36)) w2.1.size 36 aD):=ae (aU _ _);clear aS;go_wp2_with (refine jb rfl _ _ rfl w2.1.size (df 5 (R.id:Int) R.cycle) rfl rfl aD HZ.o ?_)
      intro w3 lN;have aZ:YO w2.1.size w2 w3:=((YS w2.1.size w2).alloc lQ _).trans (lN.o.2.2 _ lQ);have ru:=ae (tj.o.below aZ);have H3:=ae lN.o.1;have bm:w.1.size<w2.1.size:=tj.o.bS.lt;clear aZ lN HZ;go_wp2_with (first
       |(refine zsU rfl 34 _ rfl p 8 rfl (aB R.st).toList _ ru.out.rp.state underlying34 rfl (by rw[iM];rfl) ?_)
       |(refine zmj rfl _ _ rfl w2.heap.size R rfl rfl (zmi H3.out) ?_))
      intro w4 kD;have ni:Hid (aM w4 w2.1.size 36 (nh R)/\Mod w3 w4 (· = w2.1.size)):=ae (by rw[kD.o];exact⟨zmh H3.o,(Mod.refl w3 _).mr _ 6 _ rfl⟩);have rv:YO w2.1.size w3 w4:=⟨ni.o.2.os,ni.o.2.tape,ni.o.2.output,ni.o.2.size,fun k hk=>ni.o.2.block k (by have:=H3.o.lt;omega) oQ⟩;have HR4:Hid (aF w4 p C R/\Mod w w4 (· = p)):=ae ⟨by
       have g1:=tj.o.rp.core.kh;have g2:=tj.o.rp.core.eV;have g3:=tj.o.rp.core.mlt;have g4:=tj.o.rp.nV;exact ru.o.rp.other ni.o.2 ⟨oQ,oQ,oQ,oQ,oQ⟩,ru.o.old.then ni.o.2 (fun i hi e=>oQ)⟩
      have H4:=ae ni.o.1;clear ni kD rv ru H3;go_wp2_with (first
       |(refine fM rfl _ rfl w2.heap.size rfl (nh R) H4.out ?_)
       |(refine yG rfl _ rfl (nh R) rfl w4.heap.size rfl ?_))
      intro uN tE;go_wp2
      go_ret;exact⟨⟨_,rfl,by rw[HT.o];exact ep.one tE.o.1⟩,by rw[HS.o];exact HR4.o.1.below tE.o.2.2,HR4.o.2.below tE.o.2.2⟩
     ·have t4:(F 0==4)=false:=zsC h4;by_cases h5:F 0=5
      ·have t5:(F 0==5)=true:=by rw[h5];rfl
       obtain⟨bg,Rc⟩:∃ b,decide (R.cycle<F 2)=b:=⟨_,rfl⟩;cases bg
       ·have hng:¬R.cycle<F 2:=zsF Rc;have HS:Hid (SS=R):=ae (by rw[<-qh.o];unfold fj;rw[YG iO.o,YG n7.o,YG (fun e=>h1 e.1),YG h4,YG (fun e=>hng e.2.1)]);have HT:Hid (TT=[]):=ae (by rw[<-mz.o];unfold gh;rw[YG iO.o,YG n7.o,YG h4]);clear jm hk ny bW h4 h1 h5 hng;go_enter func127,ntmps127;go_wp2_with fail
        go_quiet ((go_at_call 134;exact ztf (qb _ _)))
        go_wp2_with fail
        go_quiet (fail)
        go_wp2_with fail
        go_quiet (fail)
        go_wp2
        go_ret;exact⟨⟨_,rfl,.inl ⟨HT.o,rfl⟩⟩,by rw[HS.o];exact((fE.o.drewN _).drewN _).rp,((fE.o.drewN _).drewN _).old⟩
       ·have Gg:R.cycle<F 2:=YK Rc;obtain⟨rb,Df⟩:∃ b,Hid (xn C.zs C.d (gF F)=b):=eQ;have Kj:Hid (SS=if rb=true then tz k (pj F) (vA (gF F)) R else R):=ae (by
         rw[<-qh.o];unfold fj;rw[YG iO.o,YG n7.o,YG (fun e=>h1 e.1),YG h4,ny,Df.o];cases rb
         ·rw[YG (fun e=>absurd e.2.2 dQ),YG dQ]
         ·rw[YH ⟨h5,Gg,rfl⟩,YH rfl])
        have HT:Hid (TT=[]):=ae (by rw[<-mz.o];unfold gh;rw[YG iO.o,YG n7.o,YG h4]);have HKF:=ae hk;clear jm hk ny bW h4 h1 h5 Gg;have cA:Hid (∀ m w',YO ((w.alloc (.cells (ak F) 36)).drewN m).1.size ((w.alloc (.cells (ak F) 36)).drewN m) w'->w'.cell? (aQ w.1.size 0)=some (iQ (F 0))/\w'.cell? (aQ w.1.size 2)=some (iQ (F 2))/\w'.cell? (aQ p 5)=some (iQ R.cycle)/\w'.cell? (aQ p 4)=some (pQ C.pc)/\w'.rangeAt w.1.size 6 (kF (gF F)).toList):=ae (by
         intro m w' hx;have hM:=(fE.o.drewN m).below hx;exact⟨hM.bS.at oQ,hM.bS.at oQ,hM.rp.c5,hM.rp.c4,fun j' u hj=>by
          have kq:j'<17:=(Ye.1 hj).1;rw[hM.bS.at oQ,<-hj,zas];rcases(by omega:j'=0\/j'=1\/j'=2\/j'=3\/j'=4\/j'=5\/j'=6\/j'=7\/j'=8\/j'=9\/j'=10\/j'=11\/j'=12\/j'=13\/j'=14\/j'=15\/j'=16)with rfl|rfl|rfl|rfl|rfl|rfl|rfl|rfl|rfl|rfl|rfl|rfl|rfl|rfl|rfl|rfl|rfl<;>rfl⟩)
        have HRT:Hid (∀ m wx,YO ((w.alloc (.cells (ak F) 36)).drewN m).1.size ((w.alloc (.cells (ak F) 36)).drewN m) wx->YR prog 175 #[pQ C.pc,.agg (kF (gF F))] wx fun e w'=>e=.returned (.bool rb)/\Hid (YO ((w.alloc (.cells (ak F) 36)).drewN m).1.size ((w.alloc (.cells (ak F) 36)).drewN m) w')):=ae (by
         intro m wx hx;refine(zl6 C.pc C.s C.d C.n C.zs C.g C.cg C.M (gF F) wx ((fE.o.drewN m).below hx).rp.core).mono ?_;rw[Df.o];rintro e w' ⟨he,hB⟩;exact⟨he,hx.trans (hB.mono hx.size)⟩)
        go_enter func127,ntmps127;go_wp2_with fail
        go_quiet ((go_at_call 134;exact ztf (qb _ _)))
        go_wp2_with fail
        go_quiet (fail)
        go_wp2_with fail
        refine wp_region_held_drew (S:=fun w'=>w'.cell? (aQ w.1.size 0)=some (iQ (F 0))/\w'.cell? (aQ w.1.size 2)=some (iQ (F 2))/\w'.cell? (aQ p 5)=some (iQ R.cycle)/\w'.cell? (aQ p 4)=some (pQ C.pc)/\w'.rangeAt w.1.size 6 (kF (gF F)).toList) kQ (bE cA _ _ (YS _ _).drew) (fun af=>?_);refine ai 0 (pQ w.1.size) af ?_ (hy:=Zj ⟨kQ,fun w _=>by go_simp⟩);refine ai 1 (iQ (F 0)) af ?_ (hy:=Zj ⟨kQ,fun w h=>by obtain⟨h1,h2,h3,h4,_⟩:=h;go_simp⟩);refine ai 2 (.bool true) af ?_ (hy:=Zj ⟨kQ,fun w _=>by go_simp⟩);refine ai 3 (.bool true) af ?_ (hy:=Zj ⟨kQ,fun w _=>by go_simp⟩);refine ai 4 (.pointer (some (aQ w.1.size 2))) af ?_ (hy:=Zj ⟨kQ,fun w _=>by go_simp⟩);refine ai 5 (iQ (F 2)) af ?_ (hy:=Zj ⟨kQ,fun w h=>by obtain⟨h1,h2,h3,h4,_⟩:=h;go_simp⟩);refine ai 6 (pQ p) af ?_ (hy:=Zj ⟨kQ,fun w _=>by go_simp⟩);refine ai 7 (pQ p) af ?_ (hy:=Zj ⟨kQ,fun w _=>by go_simp⟩);refine ai 8 (.pointer (some (aQ p 5))) af ?_ (hy:=Zj ⟨kQ,fun w _=>by go_simp⟩);refine ai 9 (iQ R.cycle) af ?_ (hy:=Zj ⟨kQ,fun w h=>by obtain⟨h1,h2,h3,h4,_⟩:=h;go_simp⟩);refine ai 10 (.bool true) af ?_ (hy:=Zj ⟨kQ,fun w _=>by go_simp⟩);refine ai 11 (.bool true) af ?_ (hy:=Zj ⟨kQ,fun w _=>by go_simp⟩);refine ai 12 (.bool true) af ?_ (hy:=Zj ⟨kQ,fun w _=>by go_simp⟩);refine ai 13 (pQ p) af ?_ (hy:=Zj ⟨kQ,fun w _=>by go_simp⟩);refine ai 14 (pQ p) af ?_ (hy:=Zj ⟨kQ,fun w _=>by go_simp⟩);refine ai 15 (.pointer (some (aQ p 4))) af ?_ (hy:=Zj ⟨kQ,fun w _=>by go_simp⟩);refine ai 16 (pQ C.pc) af ?_ (hy:=Zj ⟨kQ,fun w h=>by obtain⟨h1,h2,h3,h4,_⟩:=h;go_simp⟩);refine ai 17 (.pointer (some (aQ w.1.size 6))) af ?_ (hy:=Zj ⟨kQ,fun w _=>by go_simp⟩);refine ai 18 _ af ?_ (hy:=yieldsIf_load_mid kQ 34 _ rfl w.1.size 6 rfl (kF (gF F)).toList _ (fun w h=>h.2.2.2.2) underlying34 rfl (by rw[iM];rfl));refine rdA 19 fun K hK=>?_
        rw[YH kQ];go_simp;go_at_call 175;refine(bE HRT _ _ (YS _ _).drew).mono ?_;rintro e w5 ⟨rfl,gS⟩;dsimp only;refine hK.o _ _ (bE cA _ _ gS.o) (fun af=>?_);clear hK K;refine ai 20 (.bool rb) af ?_ (hy:=Zj ⟨kQ,fun w _=>by go_simp⟩);refine ai 21 (.bool rb) af ?_ (hy:=Zj ⟨kQ,fun w _=>by go_simp⟩);refine wpAnyH_done kQ ?_ _;have xp:=ae ((fE.o.drewN _).below gS.o);clear af cA HRT gS fE;cases rb
        ·have HS:Hid (SS=R):=ae (by rw[Kj.o,YG dQ]);clear Kj;go_wp2
         go_ret;exact⟨⟨_,rfl,.inl ⟨HT.o,rfl⟩⟩,by rw[HS.o];exact xp.o.rp,xp.o.old⟩
        ·have HS:Hid (SS=tz k (pj F) (vA (gF F)) R):=ae (by rw[Kj.o,YH rfl]);have ry:=zlN p C R k (pj F) (vA (gF F)) w5 xp.o.rp iq (zmg xp.o.rp.core.ok xp.o.rp.core.len HF.o Df.o);rw[<-HS.o,<-HKF.o,zmd]at ry;have HLN:=ae ry;have q1:=xp.o.bS.at (k:=1) oQ;have q2:=xp.o.bS.at (k:=2) oQ;have GL:Hid (w5.rangeAt w.1.size 6 [iQ (F 6),iQ (F 7),iQ (F 8),iQ (F 9),iQ (F 10),iQ (F 11),iQ (F 12),iQ (F 13),iQ (F 14),iQ (F 15),iQ (F 16),iQ (F 17),iQ (F 18),iQ (F 19),iQ (F 20),iQ (F 21),iQ (F 22)]):=ae (fun j' u hj=>by
          have kq:j'<17:=(Ye.1 hj).1;rw[xp.o.bS.at oQ,<-hj];rcases(by omega:j'=0\/j'=1\/j'=2\/j'=3\/j'=4\/j'=5\/j'=6\/j'=7\/j'=8\/j'=9\/j'=10\/j'=11\/j'=12\/j'=13\/j'=14\/j'=15\/j'=16)with rfl|rfl|rfl|rfl|rfl|rfl|rfl|rfl|rfl|rfl|rfl|rfl|rfl|rfl|rfl|rfl|rfl<;>rfl)
         clear ry Kj;go_wp2_with (refine zsU rfl 34 _ rfl w.1.size 6 rfl [iQ (F 6),iQ (F 7),iQ (F 8),iQ (F 9),iQ (F 10),iQ (F 11),iQ (F 12),iQ (F 13),iQ (F 14),iQ (F 15),iQ (F 16),iQ (F 17),iQ (F 18),iQ (F 19),iQ (F 20),iQ (F 21),iQ (F 22)] _ GL.out underlying34 rfl (by rw[iM];rfl) ?_)
         refine HLN.o.mono ?_;rintro e w6 ⟨rfl,GM,qH⟩;go_wp2
         go_ret;exact⟨⟨_,rfl,.inl ⟨HT.o,rfl⟩⟩,GM,xp.o.old.then qH (fun _ _ e=>e)⟩
      ·have t5:(F 0==5)=false:=zsC h5;have HS:Hid (SS=R):=ae (by rw[<-qh.o];unfold fj;rw[YG iO.o,YG n7.o,YG (fun e=>h1 e.1),YG h4,YG (fun e=>h5 e.1)]);have HT:Hid (TT=[]):=ae (by rw[<-mz.o];unfold gh;rw[YG iO.o,YG n7.o,YG h4]);clear jm hk ny bW h4 h1 h5;go_enter func127,ntmps127;go_wp2_with fail
       go_quiet ((go_at_call 134;exact ztf (qb _ _)))
       go_wp2_with fail
       go_quiet (fail)
       go_wp2_with fail
       go_quiet (fail)
       go_wp2
       go_ret;exact⟨⟨_,rfl,.inl ⟨HT.o,rfl⟩⟩,by rw[HS.o];exact((fE.o.drewN _).drewN _).rp,((fE.o.drewN _).drewN _).old⟩
   ·have lv:F 1=(R.id:Int):=by simpa using uW
    have HS:Hid (SS=R):=ae (by rw[<-qh.o];unfold fj;rw[YG iO.o,YH (.inr lv)]);have HT:Hid (TT=[]):=ae (by rw[<-mz.o];unfold gh;rw[YG iO.o,YH (.inr lv)]);clear lv jm hk ny;go_enter func127,ntmps127;go_wp2_with fail
    go_quiet ((go_at_call 134;exact ztf (qb _ _)))
    go_wp2
    go_ret;exact⟨⟨_,rfl,.inl ⟨HT.o,rfl⟩⟩,by rw[HS.o];exact(fE.o.drewN _).rp,(fE.o.drewN _).old⟩
theorem zml(p:Nat)(s d:Int)(n:Nat)(zs:List Int)(g cg M:Nat)(w:YM)(hK:gz w p s d n zs g cg M):
  YR prog 135 #[pQ p] w fun e w'=>
   (∃ g2 c2,w.1.size<=g2/\n<=c2/\e=.returned (.agg #[iQ s,.slice (some (aQ g2 0)) n c2,iQ d])/\g2<w'.1.size/\Row w' g2 0 zs)/\YO w.1.size w w':=by
 obtain⟨f1,f8,CU,CV,CW,CX⟩:=hK.few;have bJ:=hK.kh;have k0:w.cell? (aQ p 0)=some (iQ s):=by rw[ay hK.blk];rfl
 have k1:w.cell? (aQ p 1)=some (.slice (some (aQ g 0)) n cg):=by rw[ay hK.blk];rfl
 have k2:w.cell? (aQ p 2)=some (iQ d):=by rw[ay hK.blk];rfl
 have cB:∀ wx,YO w.1.size w wx->YR prog 64 #[.slice (some (aQ g 0)) n cg] wx fun e w'=>
   (∃ g2 c2,wx.1.size<=g2/\g2<w'.1.size/\n<=c2/\e=.returned (.slice (some (aQ g2 0)) n c2)/\Row w' g2 0 zs)/\YO wx.1.size wx w':=
  fun wx hx=>JH g 0 n cg zs wx hK.len oQ f8 (Yr hK.eV hx.size) (hK.row.below hK.eV hx)
 have kY:=ae cB;clear cB hK;go_enter func135,ntmps135;go_wp2_with fail
 have aC:YO w.1.size w ((w.alloc (.cells #[iQ 0,.slice none 0 0,iQ 0] 42)).alloc (.cells #[iQ s,.slice (some (aQ g 0)) n cg,iQ d] 42)):=((YS _ _).alloc lQ _).alloc sQ _;refine(bE kY _ aC).mono ?_;rintro e w2 ⟨⟨g2,c2,h1,h2,h3,rfl,bV⟩,aS⟩;have mS:w.1.size+2<=w2.1.size:=by have:=aS.size;simp at this;omega
 have q0:w2.1[w.1.size]?=some (.cells #[iQ 0,.slice none 0 0,iQ 0] 42 (0,0)):=(aS.block _ tQ).trans ((Za _ _ _ sQ).trans (aU _ _));have q1:w2.1[w.1.size+1]?=some (.cells #[iQ s,.slice (some (aQ g 0)) n cg,iQ d] 42 (0,0)):=by
  refine(aS.block _ sQ).trans ?_;have:=aU (w.alloc (.cells #[iQ 0,.slice none 0 0,iQ 0] 42)) (.cells #[iQ s,.slice (some (aQ g 0)) n cg,iQ d] 42);simpa using this
 have r0:w2.cell? (aQ w.1.size 0)=some (iQ 0):=by rw[ay q0];rfl
 have r1:w2.cell? (aQ w.1.size 1)=some (.slice none 0 0):=by rw[ay q0];rfl
 have r2:w2.cell? (aQ w.1.size 2)=some (iQ 0):=by rw[ay q0];rfl
 have l0:w2.cell? (aQ (w.1.size+1) 0)=some (iQ s):=by rw[ay q1];rfl
 have l1:w2.cell? (aQ (w.1.size+1) 1)=some (.slice (some (aQ g 0)) n cg):=by rw[ay q1];rfl
 have l2:w2.cell? (aQ (w.1.size+1) 2)=some (iQ d):=by rw[ay q1];rfl
 have aD:w2.frozen? (aQ w.1.size 0)=false:=fL q0 0;have fr1:w2.frozen? (aQ w.1.size 1)=false:=fL q0 1;have fr2:w2.frozen? (aQ w.1.size 2)=false:=fL q0 2;have fl1:w2.frozen? (aQ (w.1.size+1) 1)=false:=fL q1 1;have jC:=ae (aC.trans (aS.mono tQ));have nR:=ae bV;have wN:w.1.size+2<=g2:=by simp at h1;omega
 clear aC aS bV kY q0 q1 h1;go_wp2
 refine Zm (v:=.agg #[iQ s,.slice (some (aQ g2 0)) n c2,iQ d]) (by simp[results,results135,go_sem,r0,r1,r2]) rfl ⟨⟨g2,c2,oQ,h3,rfl,?_,?_⟩,?_⟩
 ·simp[World.setCell];exact h2
 ·intro k hk;refine Eq.trans (World.cell?_of_block (w:=w2) ?_) (nR.o k hk);rw[Zb _ _ _ _ (by show g2≠w.1.size;omega),Zb _ _ _ _ (by show g2≠w.1.size;omega),Zb _ _ _ _ (by show g2≠w.1.size;omega),Zb _ _ _ _ (by show g2≠w.1.size+1;omega)]
 ·exact(((jC.o.setCell (by show w.1.size<=w.1.size+1;omega) _).setCell (Yp _) _).setCell (Yp _) _).setCell (Yp _) _
def pk(id:Nat):RS:=⟨id,0,0,0,dK,0,0,fun _=>js,fun _ _=>0⟩
theorem zmm(w:YM)(C:RC)(R:RS):eJ (w.alloc (.cells ((ZE 93).map (bX C R)).toArray 160)) w.1.size 160 93 (bX C R):=
 ⟨_,aU _ _,sQ,fun k hk=>by simp[hk]⟩
theorem zmn(id s d b off n cap:Nat)(zs:List Int)(w:YM)(hid:id<3)(hn:zs.length=n)(av:cw (s:Int) zs (d:Int)=(0,-1))(hb:b<w.1.size)(hc:Row w b off zs)(fw:n<=cap):
  YR prog 80 #[iQ (id:Int),.agg #[iQ (s:Int),.slice (some (aQ b off)) n cap,iQ (d:Int)]] w fun e w'=>
   (∃ p C,w.1.size<=p/\w.1.size<=C.pc/\w.1.size<=C.g/\w.1.size<=C.M/\w.1.size<=C.g2/\C.s=s/\C.d=d/\C.n=n/\C.zs=zs/\e=.returned (.tuple #[pQ p,.nilIface])/\aF w' p C (pk id))/\YO w.1.size w w':=by
 have aC:YO w.1.size w (w.alloc (.cells #[iQ (s:Int),.slice (some (aQ b off)) n cap,iQ (d:Int)] 42)):=(YS _ _).alloc lQ _;have fc:=WH (s:Int) (d:Int) b off n cap zs _ hn av tQ (hc.below hb aC) fw;have Kk:cV (id:Int)=true:=by unfold cV;simp;omega
 have yO:=ae fc;have iE:=ae aC;clear fc aC hc;go_enter func80,ntmps80;go_wp2_with fail
 refine yO.o.mono ?_;rintro e w1 ⟨⟨pc,g,cg,M,h1,h2,h3,rfl,hK⟩,aG⟩;simp at h1 h2 h3;have iz:YO w.1.size w w1:=iE.o.trans (aG.mono sQ);have hly:=zml pc (s:Int) (d:Int) n zs g cg M w1 hK;have HLY:=ae hly;have HK:=ae hK;have iP:=ae iz;clear hly hK iz aG yO;go_wp2_with (go_at_call 134;refine(qb _ _).mono ?_;rintro e wz ⟨rfl,Pm⟩;rw[Kk,Pm])
 refine HLY.o.mono ?_;rintro e w2 ⟨⟨g2,c2,q1,q2,rfl,q3,q4⟩,aS⟩;have gC:w1.1.size<=w2.1.size:=aS.size;have jQ:w.1.size<=w1.1.size:=iP.o.size;have HR:Hid (aF (w2.alloc (.cells ((ZE 93).map (bX ⟨s,d,n,zs,pc,g,cg,M,g2,c2⟩ (pk id))).toArray 160)) w2.1.size ⟨s,d,n,zs,pc,g,cg,M,g2,c2⟩ (pk id)):=ae (by
  have aZ:YO w2.1.size w2 (w2.alloc (.cells ((ZE 93).map (bX ⟨s,d,n,zs,pc,g,cg,M,g2,c2⟩ (pk id))).toArray 160)):=(YS _ _).alloc lQ _;have l1:=HK.o.kh;have l2:=HK.o.eV;have l3:=HK.o.mlt;have Q9:=HK.o.below l1 l2 l3 aS;exact⟨zmm _ _ _,Q9.below oQ oQ oQ aZ,q4.below q3 aZ,Yr q3 aZ.size,q2,by show w2.1.size≠pc;omega,by show w2.1.size≠g;omega,by show w2.1.size≠M;omega,by show w2.1.size≠g2;omega⟩)
 have HB:Hid (YO w.1.size w (w2.alloc (.cells ((ZE 93).map (bX ⟨s,d,n,zs,pc,g,cg,M,g2,c2⟩ (pk id))).toArray 160))):=ae ((iP.o.trans (aS.mono jQ)).alloc oQ _);clear aS q4;go_wp2
 go_ret2
 exact⟨⟨w2.1.size,⟨s,d,n,zs,pc,g,cg,M,g2,c2⟩,oQ,by show _<=pc;omega,by show _<=g;omega,by show _<=M;omega,by show _<=g2;omega,rfl,rfl,rfl,rfl,rfl,HR.o⟩,HB.o⟩
theorem zmo(x:Int)(s d b off n cap:Nat)(zs:List Int)(w:YM)(hid:cV x=false)(hn:zs.length=n)(av:cw (s:Int) zs (d:Int)=(0,-1))(hb:b<w.1.size)(hc:Row w b off zs)(fw:n<=cap):
  YR prog 80 #[iQ x,.agg #[iQ (s:Int),.slice (some (aQ b off)) n cap,iQ (d:Int)]] w fun e w'=>
   e=.returned (.tuple #[.pointer none,.iface 74 (iQ 2)])/\YO w.1.size w w':=by
 have aC:YO w.1.size w (w.alloc (.cells #[iQ (s:Int),.slice (some (aQ b off)) n cap,iQ (d:Int)] 42)):=(YS _ _).alloc lQ _;have fc:=WH (s:Int) (d:Int) b off n cap zs _ hn av tQ (hc.below hb aC) fw;have yO:=ae fc;have iE:=ae aC;clear fc aC hc;go_enter func80,ntmps80;go_wp2_with fail
 refine yO.o.mono ?_;rintro e w1 ⟨⟨pc,g,cg,M,h1,h2,h3,rfl,hK⟩,aG⟩;have iP:=ae (iE.o.trans (aG.mono sQ));clear hK aG yO h1 h2 h3;go_wp2_with (go_at_call 134;refine(qb _ _).mono ?_;rintro e wz ⟨rfl,Pm⟩;rw[hid,Pm])
 go_ret2
 exact⟨rfl,iP.o⟩
theorem zmp(x s d:Int)(a:Option Addr)(len cap:Nat)(zs:List Int)(w:YM)(h:kx w a len cap zs)(iW:cw s zs d≠(0,-1)):
  YR prog 80 #[iQ x,.agg #[iQ s,.slice a len cap,iQ d]] w fun e w'=>(∃ v,e=.returned (.tuple #[.pointer none,v])/\iY w' w.1.size (cw s zs d) v)/\YO w.1.size w w':=by
 have aC:YO w.1.size w (w.alloc (.cells #[iQ s,.slice a len cap,iQ d] 42)):=(YS _ _).alloc lQ _;have lJ:=zkn s d a len cap zs _ (h.below aC) iW;have sN:=ae lJ;have Gh:=ae iW;clear lJ iW;go_enter func80,ntmps80;go_wp2_with fail
 refine sN.o.mono ?_;rintro e w1 ⟨⟨v,rfl,hv⟩,hB⟩;have dM:iY w1 w.1.size (cw s zs d) v:=hv.lower sQ;have HV:=ae dM;have HB:=ae (aC.trans (hB.mono sQ));obtain⟨t,x',rfl,_⟩:=hv.bad Gh.o;clear hv dM hB aC sN;go_wp2
 go_ret2
 exact⟨⟨_,rfl,HV.o⟩,HB.o⟩
theorem Good.mono{R:Nat->Nat}{B':Int}{S:St}(h:Good R n B S)(hB:B<=B'):Good R n B' S:=
 ⟨h.set,h.apart,h.used,h.rest,fun k=>⟨(h.idle k).1,Int.le_trans (h.idle k).2 hB⟩⟩
theorem zmq(R:Nat->Nat)(n:Nat)(B:Int)(hB:0<=B):Good R n B dK:=
 ⟨Nat.two_pow_pos n,fun i k _ _ _ h _=>absurd h (by show ¬(Nat.testBit 0 i=true);simp),fun k _=>by show wo 0 _=0;simp[wo],fun k _=>⟨rfl,rfl⟩,fun k=>⟨ZC _,hB⟩⟩
section
variable {C:RC}{m:Nat}{R:RS}
theorem zmr(t:Int)(x:mv):tu t x=js\/tu t x=x:=by unfold tu;split;exact .inl rfl;exact .inr rfl
end
theorem Kl:∀(l:List Int)(i j:Nat),i<l.length->j<3->(nW l)[3*i+j]?.getD 0=(b3 (l[i]?.getD 0).toNat)[j]?.getD 0
 |[],i,_,h,_=>by simp at h
 |x::l,i,j,h,hj=>by
  show(b3 x.toNat++nW l)[3*i+j]?.getD 0=_;have e:(b3 x.toNat).length=3:=rfl;cases i with
  |zero=>rw[Yb (by rw[e];omega),Nat.mul_zero,Yv];rfl
  |succ i=>
   rw[zsa (by rw[e];omega),e,show 3*(i+1)+j-3=3*i+j by omega,zsb];exact Kl l i j (by simpa using h) hj
theorem zms(l:List Int)(h:∀ x∈l,0<=x/\x<16777216):lO (nW l)=l:=by
 unfold lO;rw[OS,show 3*l.length/3=l.length by omega];apply List.ext_getElem?;intro i;by_cases hi:i<l.length
 ·have hx:=h _ (zsf hi);rw[Yc hi];unfold ri;rw[zsd,List.getElem?_range hi];simp only[Yy,YA];unfold Gy;have e0:=Kl l i 0 hi oQ;have e1:=Kl l i 1 hi oQ;have e2:=Kl l i 2 hi oQ;rw[Nat.add_zero]at e0;rw[e0,e1,e2,Yc hi];show((l[i].toNat/65536%256*65536+l[i].toNat/256%256*256+l[i].toNat%256:Nat):Int)=l[i];omega
 ·rw[zsc (by rw[JS];omega),zsc oQ]
theorem zmt(t:List Nat):fD (uV t)=t:=by
 unfold fD;rw[OT,zxa];unfold uV;simp
theorem zmu(t:List Nat):p9 (uV t)=b4 (jZ t).toNat:=by
 unfold p9;rw[OT,zxa];unfold uV;simp
theorem zat{F G:FR}(h:∀ k,k<23->F k=G k):∀ n,n<=8->qP F n=qP G n
 | 0,_=>rfl
 |n+1,hn=>by unfold qP;rw[zat h n oQ,h (7+n) oQ,h (15+n) oQ]
theorem zau{F G:FR}(h:∀ k,k<23->F k=G k):dV F=dV G:=by
 unfold dV;rw[h 0 oQ,h 1 oQ,h 2 oQ,h 3 oQ,h 4 oQ,h 5 oQ,h 6 oQ,zat h 8 oQ]
theorem zmv{F G:FR}(h:∀ k,k<23->F k=G k):gy F=gy G:=by
 have he:qQ F (dZ (dV G))=qQ G (dZ (dV G)):=by
  rw[X7,F4,F4];exact⟨fun q k hk=>by rw[<-h k hk];exact q k hk,fun q k hk=>by rw[h k hk];exact q k hk⟩
 unfold gy sK;rw[zau h,he,h 0 oQ,h 1 oQ]
theorem zmw{F G:FR}(h:∀ k,k<23->F k=G k):gT F=gT G:=by unfold gT;rw[zau h]
theorem zav{F:FR}(h:gy F=true):sK F=true/\(∀ x∈dV F,0<=x/\x<=1048576)/\∀ k,k<23->F k=dZ (dV F) k:=by
 unfold gy at h;simp only[X6,X9]at h;refine⟨h.1,fun x hx=>?_,(F4 _ _).1 h.2.2⟩;have:=h.2.1 x hx;unfold lD at this;simpa using this
theorem zaw(F:FR):13<=(gT F).length/\(gT F).length<=64:=by
 have:=Og F;have:=VC F;rw[Xp];omega
theorem zax{F:FR}(h:gy F=true):∃ G,aP (gT F)=(0,G)/\∀ k,k<23->G k=F k:=by
 obtain⟨_,h2,h3⟩:=zav h;have hl:=zaw F;have ht:fD (gT F)=nW (dV F):=zmt _;have hr:lO (fD (gT F))=dV F:=by rw[ht];exact zms _ fun x hx=>by have:=h2 x hx;omega
 refine⟨dZ (dV F),?_,fun k hk=>(h3 k hk).symm⟩;have hc:∀ k,k<23->dZ (dV F) k=F k:=fun k hk=>(h3 k hk).symm
 have hs:b4 (jZ (fD (gT F))).toNat=p9 (gT F):=by rw[ht];exact(zmu _).symm
 have:=OY (l:=gT F) oQ oQ hs (by rw[hr];exact⟨(zmv hc).trans h,zmw hc⟩);rw[this,hr]
theorem zmx(l:List Nat):((aP l).1≠0/\(aP l).2=aD)\/((aP l).1=0/\gy (aP l).2=true/\gT (aP l).2=l/\7<=l.length):=by
 by_cases h:l.length<7\/80<l.length
 ·left;rw[JU h];exact⟨sQ,rfl⟩
 ·by_cases hs:b4 (jZ (fD l)).toNat=p9 l
  ·by_cases hn:gy (dZ (lO (fD l)))=true/\gT (dZ (lO (fD l)))=l
   ·right;rw[OY oQ oQ hs hn];exact⟨rfl,hn.1,hn.2,oQ⟩
   ·left;rw[OX oQ oQ hs hn];exact⟨sQ,rfl⟩
  ·left;rw[XB oQ oQ hs];exact⟨sQ,rfl⟩
structure Pk where
 src:Nat
 dst:Nat
 b:List Nat
structure SY where
 rp:Nat->RS
 v:VS
 aq:List Pk
def fF(F:FR):List Nat:=if gy F=true then gT F else []
def ji(p:Pk)(l:List Pk):List Pk:=if 120<=l.length then l else l++[p]
def vC(src:Nat)(F:FR)(dst:Nat)(l:List Pk):List Pk:=ji ⟨src,dst,fF F⟩ l
def iR(src:Nat)(F:FR)(l:List Pk):Nat->List Pk
 | 0=>l
 |k+1=>if k=src then iR src F l k else vC src F k (iR src F l k)
def lf(src dst:Nat):List FR->List Pk->List Pk
 |[],l=>l
 |F::r,l=>lf src dst r (vC src F dst l)
def yP(src:Nat):List FR->List Pk->List Pk
 |[],l=>l
 |F::r,l=>yP src r (iR src F l 3)
def yQ(L:RC)(k:Nat)(R:RS)(l:List Pk):List Pk:=if lU R then vC k (iF L R) 3 (iR k (ng R) l 3)else iR k (ng R) l 3
def qi(L:RC)(k:Nat)(S:SY):SY:=⟨upd S.rp k (ij L (S.rp k)),S.v,yQ L k (ij L (S.rp k)) S.aq⟩
def Km(k:Nat)(S:SY):SY:=⟨S.rp,S.v,iR k (nZ (S.rp k)) S.aq 3⟩
def Kn(k:Nat)(x y:Int)(S:SY):SY:=⟨upd S.rp k (GC x y (S.rp k)),S.v,S.aq⟩
def Pn(k:Nat)(S:SY):SY:=⟨upd S.rp k (pk k),S.v,S.aq⟩
def xq(S:SY):SY:=⟨S.rp,pX S.v,S.aq⟩
def Dg(S:SY):SY:=⟨S.rp,JC S.v,S.aq⟩
def Po(p:Pk)(S:SY):SY:=⟨S.rp,S.v,ji p S.aq⟩
def ju(i:Nat)(S:SY):SY:=⟨S.rp,S.v,S.aq.eraseIdx i⟩
def gU(l:List Pk)(i:Nat):Pk:=l[i]?.getD ⟨0,0,[]⟩
abbrev isNone(p:Pk):Prop:=(aP p.b).1≠0\/(aP p.b).2 1≠(p.src:Int)
def pn(win src:Nat)(S:SY)(F:FR):List Pk:=if(cC win S.v F).2.2 then yP 3 (cC win S.v F).2.1 S.aq else lf 3 src (cC win S.v F).2.1 S.aq
def kj(L:RC)(win:Nat)(p:Pk)(S:SY):SY:=
 if isNone p then S
 else if p.dst=3 then⟨S.rp,(cC win S.v (aP p.b).2).1,pn win p.src S (aP p.b).2⟩
 else⟨upd S.rp p.dst (fj L (aP p.b).2 (S.rp p.dst)),S.v,lf p.dst p.src (gh L (aP p.b).2 (S.rp p.dst)) S.aq⟩
def fS(L:RC)(win i:Nat)(S:SY):SY:=kj L win (gU S.aq i) (ju i S)
def eL(L:RC)(win:Nat):Nat->SY->SY
 | 0,S=>S
 |m+1,S=>eL L win m (fS L win 0 S)
def Pp(L:RC)(X:St)(c v:Int):St:=CJ (rt L.zs) (eC L.zs) L.n L.d (cW L.s c) (cW L.n v) X
def Dh(L:RC)(X:St)(c v:Int):Nat:=F2 (rt L.zs) (eC L.zs) L.n L.d (cW L.s c) (cW L.n v) X
def GV(L:RC):List Cm->St->St
 |[],X=>X
 |d::r,X=>GV L r (Pp L X d.c d.v)
def lg(L:RC)(tr:List Cm)(n:Nat):St:=GV L (tr.take n) dK
theorem zmy(L:RC)(a b:List Cm)(X:St):GV L (a++b) X=GV L b (GV L a X):=by
 induction a generalizing X with
 |nil=>rfl
 |cons d r ih=>exact ih _
theorem zay{L:RC}{tr:List Cm}(h:n<tr.length):lg L tr (n+1)=Pp L (lg L tr n) (cd tr n).c (cd tr n).v:=by
 unfold lg cd;rw[zso,zmy,Yc h];rfl
theorem Ko{L:RC}{tr:List Cm}(h:n<=tr.length)(a:List Cm):lg L (tr++a) n=lg L tr n:=by
 unfold lg;rw[List.take_append_of_le_length h]
theorem Pq{tr:List Cm}(h:n<tr.length)(a:List Cm):cd (tr++a) n=cd tr n:=by
 unfold cd;rw[Yb h]
theorem zaz(tr:List Cm)(d:Cm):cd (tr++[d]) tr.length=d:=by
 unfold cd;simp
structure eA(L:RC):Prop where
 ok:cw (L.s:Int) L.zs (L.d:Int)=(0,-1)
 len:L.zs.length=L.n
theorem eA.few{L:RC}(h:eA L):1<=L.s/\L.s<=12/\1<=L.n/\L.n<=8/\L.d<=20:=by
 have hr:=oO h.ok;unfold jY at hr;simp only[X6,mj]at hr;have:=h.len;omega
theorem zmz{L:RC}(h:eA L){X:St}(hX:Good (rt L.zs) L.n B X)(c v:Int):Good (rt L.zs) L.n (B+1) (Pp L X c v):=by
 have:=zl2 (d:=L.d) (c:=cW L.s c) (v:=cW L.n v) (Pd h.ok) (by rw[h.len];exact hX);rw[h.len]at this;exact this
theorem Pr{L:RC}(h:eA L)(tr:List Cm):∀ n,n<=tr.length->Good (rt L.zs) L.n (n:Int) (lg L tr n)
 | 0,_=>zmq _ _ _ (ZC _)
 |n+1,hn=>by
  rw[zay oQ];have:=zmz h (Pr h tr n oQ) (cd tr n).c (cd tr n).v;exact this.mono oQ
theorem zmA(N p win:Nat)(tv:YN)(S:VS)(w:YM)(h:bM w N p win tv S):
  YR prog 85 #[pQ p] w fun e w'=>e=.returned (.tuple #[])/\bM w' N p win tv (JC S)/\Mod w w' (VB p tv):=by
 have R:=ae (h.put (S':=JC S) 16 (.bool true) rfl rfl);have M:=ae ((Mod.refl w (VB p tv)).set (aQ p 16) (.bool true) (fun _=>.inl rfl));have hf:=h.free 16;have hc:=h.at 16;rw[show(lG tv win S)[16]?=some (.bool S.dh)from rfl]at hc;clear h;go_enter func85,ntmps85;go_wp2
 go_end0
 exact⟨rfl,R.out,M.out⟩
theorem zmB(N p win:Nat)(tv:YN)(S:VS)(w:YM)(h:bM w N p win tv S):
  YR prog 43 #[pQ p] w fun e w'=>e=.returned (.bool S.dh)/\w'=w:=by
 have hc:=h.at 16;rw[show(lG tv win S)[16]?=some (.bool S.dh)from rfl]at hc;clear h;go_enter func43,ntmps43;go_wp2
 go_ret;exact⟨rfl,rfl⟩
theorem zmC(N p win:Nat)(tv:YN)(S:VS)(w:YM)(h:bM w N p win tv S):
  YR prog 48 #[pQ p] w fun e w'=>e=.returned (iQ (S.out:Int))/\w'=w:=by
 have hc:=h.at 15;rw[show(lG tv win S)[15]?=some (iQ (S.out:Int))from rfl]at hc;clear h;go_enter func48,ntmps48;go_wp2
 go_ret;exact⟨rfl,rfl⟩
theorem zaA(N p win:Nat)(tv:YN)(S:VS)(w:YM)(h:bM w N p win tv S)(av:dS win S):
  YR prog 47 #[pQ p] w fun e w'=>e=.returned (.tuple #[])/\bM w' N p win tv (pX S)/\Mod w w' (VB p tv):=by
 have hc:=h.at 16;rw[show(lG tv win S)[16]?=some (.bool S.dh)from rfl]at hc;cases hl:S.dh
 ·have hp:=av.pos hl;have hf:=av.left;have h1:=h.put (S':=⟨S.tr,S.b,S.x,S.left-1,S.out,S.dh⟩) 14 (iQ ((S.left-1:Nat):Int)) rfl rfl;have h2:=h1.put (S':=pX S) 16 (.bool (S.left-1==0)) (by unfold pX;rw[hl];rfl) (by unfold pX;split<;>rfl);have M:=ae (((Mod.refl w (VB p tv)).set (aQ p 14) (iQ ((S.left-1:Nat):Int)) (fun _=>.inl rfl)).set (aQ p 16) (.bool (S.left-1==0)) (fun _=>.inl rfl));have c3:=h.at 14;rw[show(lG tv win S)[14]?=some (iQ (S.left:Int))from rfl]at c3;have f3:=h.free 14;have f6:=h.free 16;obtain⟨m,hm⟩:∃ m:Nat,S.left=m+1:=⟨S.left-1,oQ⟩;rw[hm]at c3 h2 M hf;rw[hl]at hc;simp only[zxa]at h2 M;have H2:=ae h2;clear h h1 h2 av hp hm hl;have hz:(m==0)=((m:Int)==0):=by rw[X7];simp
  rw[hz]at H2 M;clear hz;go_enter func47,ntmps47;go_wp2
  go_end0
  exact⟨rfl,H2.o,M.out⟩
 ·rw[hl]at hc;have e:pX S=S:=by unfold pX;rw[hl];rfl
  rw[e];have H:=ae h;clear h hl av e;go_enter func47,ntmps47;go_wp2
  refine Zm (results_none rfl _ _ _) rfl ?_;exact⟨rfl,H.o,Mod.refl _ _⟩
theorem zmD(N p win:Nat)(tv:YN)(S:VS)(w:YM)(h:bM w N p win tv S)(av:dS win S):
  YR prog 44 #[pQ p] w (bQ (iQ (oV S)) w):=by
 have hc:=h.at 16;rw[show(lG tv win S)[16]?=some (.bool S.dh)from rfl]at hc;have c0:=h.at 0;rw[show(lG tv win S)[0]?=some tv from rfl]at c0;cases hl:S.dh
 ·rw[hl]at hc;have hf:=av.few;by_cases h0:S.tr.length=0
  ·have e:oV S=0:=by unfold oV;rw[hl,h0];rfl
   rw[e];obtain⟨a,cap,rfl⟩:=h.row.shape;rw[h0]at c0;clear h hl av e;go_enter func44,ntmps44;go_wp2
   go_ret;exact⟨rfl,YS _ _⟩
  ·obtain⟨g,cap,rfl,_,_,fw⟩:=h.row.has oQ;obtain⟨m,hm⟩:∃ m,S.tr.length=m+1:=⟨S.tr.length-1,oQ⟩;have c1:=h.row.range (k:=m) oQ 2 _ rfl;have e:oV S=(cd S.tr m).o:=by unfold oV;rw[hl,hm];rfl
   rw[e];rw[hm]at c0 fw hf;generalize(cd S.tr m).o=z at c1;clear h hl av e hm h0;go_enter func44,ntmps44;go_wp2_with fail
   go_quiet (fail)
   go_wp2
   go_ret;exact⟨rfl,⟨rfl,rfl,rfl,Yp _,fun _ _=>rfl⟩⟩
 ·have e:oV S=0:=by unfold oV;rw[hl];rfl
  rw[e];rw[hl]at hc;clear h hl av e c0;go_enter func44,ntmps44;go_wp2
  go_ret;exact⟨rfl,YS _ _⟩
theorem zmE(m n:Nat)(w:YM)(hm:m<256):
  YR prog 217 #[iQ (m:Int),iQ (n:Int)] w fun e w'=>e=.returned (.bool (decide (2<=pop 8 m)||decide (1000<=n)))/\w'=w:=by
 have HO:=ae (NV m w hm);have hp:=NT 8 m;go_enter func217,ntmps217;go_wp2_with (go_at_call 21;refine HO.o.mono ?_;rintro e w' ⟨rfl,rfl⟩)
 all_goals
  go_ret;refine⟨dU ?_,rfl⟩;rw[X7];simp;try omega
theorem zmF(win:Nat)(w:YM)(h1:1<=win)(h2:win<=20):
  YR prog 65 #[iQ (win:Int)] w fun e w'=>e=.returned (.tuple #[pQ w.1.size,.nilIface])/\bM w' w.1.size w.1.size win (.slice none 0 0) (yw win)/\w'.1.size=w.1.size+1/\YO w.1.size w w':=by
 go_enter func65,ntmps65;go_wp2
 go_ret2
 exact⟨rfl,⟨aU _ _,World.ownsRow_nil _ _ _ _,Yp _⟩,sQ,(YS _ _).alloc lQ _⟩
theorem zmG(n:Int)(w:YM)(h:n<1\/20<n):
  YR prog 65 #[iQ n] w (bQ (.tuple #[.pointer none,.iface 74 (iQ 2)]) w):=by
 by_cases h1:n<1
 ·go_enter func65,ntmps65;go_wp2
  go_ret2
  exact⟨rfl,YS _ _⟩
 ·have h2:20<n:=oQ;go_enter func65,ntmps65;go_wp2
  go_ret2
  exact⟨rfl,YS _ _⟩
theorem zmH(m r:Nat)(hm:m<8)(hr:r<3):(bits BinOp.and IntKind.i64 ((m:Int)/2^r) 1==0)=!m.testBit r:=by
 rw[Vg (m:Int) r oQ,nN m oQ,Vh];cases m.testBit r<;>rfl
theorem Di(N p win:Nat)(tv:YN)(S:VS)(w:YM)(F:FR)(h:bM w N p win tv S)(av:dS win S):
  YR prog 191 #[pQ p,.agg (ak F)] w (bQ (.bool (jc S F)) w):=by
 have c0:=cK F 0 oQ;have c1:=cK F 1 oQ;have c2:=cK F 2 oQ;have hp:=h.lt;have k15:w.cell? (aQ p 15)=some (iQ (S.out:Int)):=(h.at 15).trans rfl;obtain⟨m,hm⟩:∃ m,Hid (S.out=m):=eQ;have ho:=av.out;rw[hm.o]at k15 ho;obtain⟨R,hR⟩:∃ R,Hid (jc S F=R):=eQ;rw[hR.o];clear h av;obtain⟨f0,mR⟩:∃ z,Hid (F 0=z):=eQ;obtain⟨f1,yR⟩:∃ z,Hid (F 1=z):=eQ;obtain⟨f2,rX⟩:∃ z,Hid (F 2=z):=eQ;rw[mR.o]at c0;rw[yR.o]at c1;rw[rX.o]at c2;have HB:Hid (jc S F=((f0==2||f0==4)&&((decide (0<=f1)&&decide (f1<3))&&(!m.testBit f1.toNat&&decide (0<=f2))))):=ae (by unfold jc F6 F7;rw[mR.o,yR.o,rX.o,hm.o]);by_cases hk:f0=2\/f0=4
 ·by_cases h1:0<=f1
  ·by_cases h3:f1<3
   ·obtain⟨r,rfl⟩:=zr6 h1;have hr:r<3:=oQ;have hz:=zmH m r ho hr;have q1:decide ((r:Int)<3)=true:=YE h3;cases hb:m.testBit r
    ·rw[hb,Bool.not_false]at hz;have fh:Hid (R=decide (0<=f2)):=ae (by rw[<-hR.o,HB.o,zr7,hb];rcases hk with rfl|rfl<;>simp;all_goals omega);clear HB hR hb mR yR rX h1 h3 hm;rcases hk with rfl|rfl
     ·go_enter func191,ntmps191;go_wp2_with fail
      go_quiet (fail)
      go_wp2
      go_ret;exact⟨dU (by rw[fh.o]),⟨rfl,rfl,rfl,by simp[zug],fun k hk=>Za _ _ _ hk⟩⟩
     ·go_enter func191,ntmps191;go_wp2_with fail
      go_quiet (fail)
      go_wp2
      go_ret;exact⟨dU (by rw[fh.o]),⟨rfl,rfl,rfl,by simp[zug],fun k hk=>Za _ _ _ hk⟩⟩
    ·rw[hb,zr4]at hz;have fh:Hid (R=false):=ae (by rw[<-hR.o,HB.o,zr7,hb];simp);clear HB hR hb mR yR rX h1 h3 hm;rcases hk with rfl|rfl
     ·go_enter func191,ntmps191;go_wp2_with fail
      go_quiet (fail)
      go_wp2
      go_ret;exact⟨dU (by rw[fh.o]),⟨rfl,rfl,rfl,by simp[zug],fun k hk=>Za _ _ _ hk⟩⟩
     ·go_enter func191,ntmps191;go_wp2_with fail
      go_quiet (fail)
      go_wp2
      go_ret;exact⟨dU (by rw[fh.o]),⟨rfl,rfl,rfl,by simp[zug],fun k hk=>Za _ _ _ hk⟩⟩
   ·have fh:Hid (R=false):=ae (by rw[<-hR.o,HB.o,YD h3];simp);have q0:decide (0<=f1)=true:=YE h1;have q1:decide (f1<3)=false:=YD h3;clear HB hR mR yR rX hm;rcases hk with rfl|rfl
    ·go_enter func191,ntmps191;go_wp2_with fail
     go_quiet (fail)
     go_wp2
     go_ret;exact⟨dU (by rw[fh.o]),⟨rfl,rfl,rfl,by simp[zug],fun k hk=>Za _ _ _ hk⟩⟩
    ·go_enter func191,ntmps191;go_wp2_with fail
     go_quiet (fail)
     go_wp2
     go_ret;exact⟨dU (by rw[fh.o]),⟨rfl,rfl,rfl,by simp[zug],fun k hk=>Za _ _ _ hk⟩⟩
  ·have fh:Hid (R=false):=ae (by rw[<-hR.o,HB.o,YD h1];simp);have q0:decide (0<=f1)=false:=YD h1;clear HB hR mR yR rX hm;rcases hk with rfl|rfl
   ·go_enter func191,ntmps191;go_wp2_with fail
    go_quiet (fail)
    go_wp2
    go_ret;exact⟨dU (by rw[fh.o]),⟨rfl,rfl,rfl,by simp[zug],fun k hk=>Za _ _ _ hk⟩⟩
   ·go_enter func191,ntmps191;go_wp2_with fail
    go_quiet (fail)
    go_wp2
    go_ret;exact⟨dU (by rw[fh.o]),⟨rfl,rfl,rfl,by simp[zug],fun k hk=>Za _ _ _ hk⟩⟩
 ·have q2:¬f0=2:=fun e=>hk (.inl e)
  have q4:¬f0=4:=fun e=>hk (.inr e)
  have fh:Hid (R=false):=ae (by rw[<-hR.o,HB.o];simp[q2,q4]);have b2:(f0 != 2)=true:=by simpa using q2
  have b4:(f0 != 4)=true:=by simpa using q4
  clear HB hR mR yR rX hm hk q2 q4;go_enter func191,ntmps191;go_wp2_with fail
  go_ret;exact⟨dU (by rw[fh.o]),⟨rfl,rfl,rfl,sQ,fun k hk=>Za _ _ _ hk⟩⟩
theorem zaB:(prog.info? 49).map (fun i=>(i.zero,i.size,i.bytes))=some (some (.agg #[iQ 0,iQ 0,iQ 0]),3,24):=kQ
theorem zmI:(prog.info? 49).map (·.size)=some 3:=kQ
theorem GW(N p win:Nat)(tv:YN)(S:VS)(w:YM)(k:Nat)(h:bM w N p win tv S)(av:dS win S)(hk:k<S.tr.length):
  YR prog 195 #[pQ p,iQ (k:Int)] w (bQ (.agg (ak (fA k (cd S.tr k)))) w):=by
 have hf:=av.few;obtain⟨g,cap,rfl,_,hg,fw⟩:=h.row.has oQ;have c0:=h.at 0;rw[show(lG (.slice (some (aQ g 0)) S.tr.length cap) win S)[0]?=some (.slice (some (aQ g 0)) S.tr.length cap)from rfl]at c0;have hW:aM (w.alloc (.cells (ak aD) 36)) w.1.size 36 aD:=aU _ _;have bV:=(h.below ((YS _ _).alloc lQ (.cells (ak aD) 36))).row.range hk;have nR:=ae bV;obtain⟨n,hn⟩:∃ n,S.tr.length=n:=⟨_,rfl⟩;rw[hn]at c0 hk hf fw;generalize cd S.tr k=d at nR bV⊢;obtain⟨d1,d2,d3⟩:=d;have dW:aM ((w.alloc (.cells (ak aD) 36)).alloc (.cells #[iQ d1,iQ d2,iQ d3] 49)) w.1.size 36 aD:=(Za _ _ _ sQ).trans hW;have lM:=ae dW;have HB:=ae (((YS w.1.size w).alloc lQ (.cells (ak aD) 36)).alloc sQ (.cells #[iQ d1,iQ d2,iQ d3] 49));have hN:ak (fA k ⟨d1,d2,d3⟩)=#[iQ 3,iQ 3,iQ (k:Int),iQ d1,iQ d2,iQ d3,iQ 0,iQ 0,iQ 0,iQ 0,iQ 0,iQ 0,iQ 0,iQ 0,iQ 0,iQ 0,iQ 0,iQ 0,iQ 0,iQ 0,iQ 0,iQ 0,iQ 0]:=by
  simp[ak,fA,ie]
 have HN:=ae hN;have bJ:=h.lt;clear h av hn hW bV dW hN;go_enter func195,ntmps195;go_wp2_with (first
  |(refine zsU rfl 49 _ rfl g (k*3) rfl _ _ nR.out underlying49 rfl (by rw[zmI];rfl) ?_)
  |(refine jb rfl _ _ rfl w.heap.size (fA k ⟨d1,d2,d3⟩) rfl (by rw[HN.out];rfl) aD lM.out ?_))
 intro w9 dD;go_wp2
 refine Zm (v:=.agg (ak (fA k ⟨d1,d2,d3⟩))) ?_ rfl ⟨rfl,HB.o.trans (dD.o.2.2 _ lQ)⟩;exact uS results195 rfl (iB dD.o.1)
theorem zmJ{w:YM}{g base:Nat}{t:TypeId}{F:FR}(h:w.1[g]?=some (.cells (ak F) t (0,0)))(hb:base<=g):w.ownsRow base t 23 (.slice (some (aQ g 0)) 1 1) 1 (ak F).toList:=
 ⟨by simp[ky],.inr ⟨g,1,ak F,rfl,hb,h,Nat.le_refl _,by unfold maxLen;omega,by rw[ky],by rw[List.take_of_length_le (by simp[ky])]⟩⟩
theorem zmK(F:FR):∀ u∈(ak F).toList,u.oneCell'=true:=by
 intro u hu;have:=wS F;rw[Array.all_eq_true']at this;exact this u (by simpa using hu)
theorem zmL(N p win:Nat)(tv:YN)(S:VS)(w:YM)(k:Nat)(h:bM w N p win tv S)(av:dS win S)(hk:k<S.tr.length):
  YR prog 192 #[pQ p,iQ (k:Int)] w fun e w'=>(∃ v,e=.returned v/\ep w' 36 v (mX S.tr k))/\YO w.1.size w w':=by
 have hf:=av.few;obtain⟨a,cap,rfl⟩:=h.row.shape;obtain⟨n,hn⟩:∃ n,S.tr.length=n+1:=⟨S.tr.length-1,oQ⟩;have HD:=ae (GW N p win _ S w k h av hk);obtain⟨F,hF⟩:∃ F,Hid (fA k (cd S.tr k)=F):=eQ;rw[hF.o]at HD;have HV:=ae h;obtain⟨L,hL⟩:∃ L,Hid (mX S.tr k=L):=eQ;rw[hL.o];clear h;go_enter func192,ntmps192;go_wp2_with (first
  |(go_at_call 195;refine HD.out.mono ?_;rintro e w1 ⟨rfl,aG⟩)
  |(refine yG rfl _ rfl F rfl _ rfl ?_))
 have Ce:=HV.o.below aG;have c0:=Ce.at 0;rw[show(lG (.slice a S.tr.length cap) win S)[0]?=some (.slice a S.tr.length cap)from rfl,hn]at c0;have dE:=ae Ce;have dN:=ae aG;have hp:=Ce.lt;clear Ce aG HD;intro w2 Kp;obtain⟨qw,zmM,aS⟩:=Kp.o;have zx:=dE.o.below aS;have c02:=zx.at 0;rw[show(lG (.slice a S.tr.length cap) win S)[0]?=some (.slice a S.tr.length cap)from rfl,hn]at c02;have lh:=ae zx;have Ps:=ae qw;have jC:=ae (dN.o.trans (aS.mono dN.o.size));have mb:=zx.lt;obtain⟨q,hq⟩:∃ q,Hid (w1.1.size=q):=eQ;rw[hq.o]at zmM Ps⊢;have hwq:Hid (w.1.size<=q):=ae (hq.o▸dN.o.size);clear qw aS zx Kp c0 hp dE HV dN hq;by_cases he:k=n
 ·have hP:mX S.tr k=[F]:=by unfold mX;rw[YH oQ,hF.o]
  have HL:=ae (hL.o.symm.trans hP);subst he;have zL:k<=1000:=oQ;clear hP hL hn hk hf lh av hF;go_wp2
  go_ret;exact⟨⟨_,rfl,by rw[HL.o];exact ep.one Ps.o⟩,jC.o⟩
 ·have hP:mX S.tr k=[F,fA n (cd S.tr n)]:=by unfold mX;rw[YG oQ,hF.o,hn,zxa]
  have HL:=ae (hL.o.symm.trans hP);have HD:=ae (GW N p win _ S w2 n lh.o av oQ);generalize fA n (cd S.tr n)=G at HD HL;obtain⟨i0,hi,cQ,bf,bK⟩:=info_parts Xc;have HI:=ae hi;have fN:=ae cQ;have gP:=ae bf;have gQ:=ae bK;have zL:k<=1000:=oQ;have kR:n<=1000:=oQ;clear hP hL hn hk hf av hF lh hi cQ bf bK;go_wp2_with (first
   |(go_at_call 195;refine HD.out.mono ?_;rintro e w3 ⟨rfl,aZ⟩)
   |(refine yG rfl _ rfl G rfl _ rfl ?_))
  intro w4 kD;obtain⟨zaC,zrN,rv⟩:=kD.o;have Pu:YO w2.1.size w2 w4:=aZ.trans (rv.mono aZ.size);have HO:=ae (zmJ (base:=w.1.size) ((Pu.block q oQ).trans Ps.o) hwq.o);have Pv:=ae (jC.o.trans (Pu.mono jC.o.size));have HN4:=ae zaC;have zC:=aZ.size;clear zaC aZ rv Pu kD HD;go_wp2_with (at_builtin;refine wpList_append_lies _ rfl _ _ 211 rfl w.1.size 36 i0 (.agg (ak aD)) 23 184 underlying211 HI.o fN.o gP.o gQ.o rfl dQ _ _ _ rfl HO.o (aQ w3.1.size 0) 1 1 (ak G).toList rfl (by simp[ky]) (World.news_of_block HN4.o) (zmK G) dQ (by unfold maxLen;omega) oQ Pv.o.size _ rfl ?_)
  intro g eu w5 bC bL eM aj;have HO5:=ae bC;have gS:=ae (Pv.o.grown bL Pv.o.size (fun j hj=>by
   have:q=j:=by simpa[Value.ownBlock]using hj
   have:=hwq.o;omega))
  clear bC bL eM aj;go_wp2
  go_ret;exact⟨⟨_,rfl,by rw[HL.o];exact ep.two HO5.o⟩,gS.o⟩
def cmA(d:Cm):Array YN:=#[iQ d.c,iQ d.v,iQ d.o]
def vtA(b:Bool)(d:Cm):Array YN:=#[.bool b,iQ d.c,iQ d.v,iQ d.o]
theorem zL6:(prog.fieldsOf 49).toList.map (fun f=>(f.type,f.offset,f.name != "_"))=[(31,0,true),(3,2,true)]:=kQ
theorem zL7:(prog.fieldsOf 145).toList.map (fun f=>(f.type,f.offset,f.name != "_"))=[(4,0,true),(49,1,true)]:=kQ
theorem zmN(w:YM)(d:Nat)(a b:Cm)(xs ys:Array YN)(hx:xs=#[iQ a.c,iQ a.v])(hy:ys=#[iQ b.c,iQ b.v]):
  (zsQ (d+1+1) 31 (.agg xs) (.agg ys)).run prog w=.ok (uM a b) w:=by
 subst hx hy;exact VK w d _ _ (fun i=>if i=0 then a.c else a.v) (fun i=>if i=0 then b.c else b.v) (fun i hi=>by
  match i,hi with
  | 0,_=>exact⟨rfl,rfl⟩
  | 1,_=>exact⟨rfl,rfl⟩)
theorem zL8(w:YM)(d:Nat)(a b:Cm):(zsQ (d+1+1+1) 49 (.agg (cmA a)) (.agg (cmA b))).run prog w=.ok (Oj a b) w:=by
 rw[zxD w _ _ _ _ kQ kQ];have hf:=zL6;generalize(prog.fieldsOf 49).toList=fs at hf;obtain⟨f0,f1,rfl⟩:∃ f0 f1,fs=[f0,f1]:=two (by simpa using YC List.length hf);simp only[Yi,Yj,zr9,zsA,zsB]at hf;obtain⟨⟨a1,a2,a3⟩,b1,b2,b3⟩:=hf;have n0:f0.name≠ "_" :=by simpa using a3
 have n1:f1.name≠ "_" :=by simpa using b3
 unfold Oj;refine yv w _ _ _ f0 _ n0 (by rw[a1,a2];exact VM w _ 0) (by rw[a1,a2];exact VM w _ 0) (by rw[a1];exact zmN w d a b _ _ rfl rfl) ?_;have:=yv w (d+1+1) (cmA a) (cmA b) f1 [] n1 (v:=iQ a.o) (u:=iQ b.o) (by rw[b1,b2];exact lF w _ 2 _ rfl) (by rw[b1,b2];exact lF w _ 2 _ rfl) (by rw[b1];exact wT w _ _ _) (c:=true) (by simp[Op.eqFields]);rw[zxX]at this;exact this
theorem zL9(w:YM)(d:Nat)(a b:Bool):(zsQ (d+1) 4 (.bool a) (.bool b)).run prog w=.ok (a==b) w:=by
 simp[zsQ,Z7 underlying4]
theorem zL4(w:YM)(xs:Array YN)(k:Nat)(v:YN)(h:xs[k]?=some v):(part 4 xs k).run prog w=.ok v w:=by
 simp[part,isAgg,Z7 underlying4,h]
theorem zL5(w:YM)(xs:Array YN)(k:Nat):(part 49 xs k).run prog w=.ok (.agg (xs.extract k (k+3))) w:=by
 simp[part,isAgg,Z7 underlying49]
theorem zMa(w:YM)(d:Nat)(x y:Bool)(a b:Cm):(zsQ (d+1+1+1+1) 145 (.agg (vtA x a)) (.agg (vtA y b))).run prog w=.ok ((x==y)&&Oj a b) w:=by
 rw[zxD w _ _ _ _ kQ kQ];have hf:=zL7;generalize(prog.fieldsOf 145).toList=fs at hf;obtain⟨f0,f1,rfl⟩:∃ f0 f1,fs=[f0,f1]:=two (by simpa using YC List.length hf);simp only[Yi,Yj,zr9,zsA,zsB]at hf;obtain⟨⟨a1,a2,a3⟩,b1,b2,b3⟩:=hf;have n0:f0.name≠ "_" :=by simpa using a3
 have n1:f1.name≠ "_" :=by simpa using b3
 refine yv w _ _ _ f0 _ n0 (v:=.bool x) (u:=.bool y) (by rw[a1,a2];exact zL4 w _ 0 _ rfl) (by rw[a1,a2];exact zL4 w _ 0 _ rfl) (by rw[a1];exact zL9 w _ _ _) ?_;have:=yv w (d+1+1+1) (vtA x a) (vtA y b) f1 [] n1 (by rw[b1,b2];exact zL5 w _ 1) (by rw[b1,b2];exact zL5 w _ 1) (by rw[b1];exact zL8 w d a b) (c:=true) (by simp[Op.eqFields]);rw[zxX]at this;exact this
theorem zMb(w:YM)(x y:Bool)(a1 a2 a3 b1 b2 b3:Int):(binOp .eql 145 (.agg #[.bool x,iQ a1,iQ a2,iQ a3]) (.agg #[.bool y,iQ b1,iQ b2,iQ b3])).run prog w=.ok (.bool ((x==y)&&Oj ⟨a1,a2,a3⟩ ⟨b1,b2,b3⟩)) w:=by
 have h:=zMa w 9996 x y ⟨a1,a2,a3⟩ ⟨b1,b2,b3⟩;unfold vtA at h;simp only[binOp];simp[Op.equal,Op.maxDepth,h]
def tH(a1 a2 b1 b2:Int):Bool:=a1==b1&&a2==b2
theorem zmO(w:YM)(a1 a2 b1 b2:Int):(binOp .eql 31 (.agg #[iQ a1,iQ a2]) (.agg #[iQ b1,iQ b2])).run prog w=.ok (.bool (tH a1 a2 b1 b2)) w:=by
 have h:=zmN w 9998 ⟨a1,a2,0⟩ ⟨b1,b2,0⟩ _ _ rfl rfl;simp only[binOp];simp[Op.equal,Op.maxDepth,h,uM,tH]
end Go.Proofs.YtaablbmgagiajabGreatDoor
