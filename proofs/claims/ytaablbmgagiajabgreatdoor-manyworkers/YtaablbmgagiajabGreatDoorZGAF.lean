import Derived.Deep.CutRange
import Derived.Test.YtaablbmgagiajabGreatDoorZGAE
set_option maxHeartbeats 4000000
set_option maxRecDepth 20000
open Go.AllReadyH renaming cons->zt3,nil->zwA
open Go.RowKit renaming Below->YO
open Go.RowKit.Below renaming heap_alloc->Za,refl->YS
open Go renaming Calls->YR,World->YM,bodyPost_ret->Zm,wpAnyH_done->Y7,wp_region_held_drew->Zh,wp_store_row->Z2
namespace Go.Proofs.YtaablbmgagiajabGreatDoor
open Go.Proofs.Tryz
open Go.RowKit Go.Deep
def xg(R:RS):Nat:=uY (R.aI 0).c (R.aI 1).c (R.aI 2).c
def xh(R:RS):Nat:=uY (R.aI 0).v (R.aI 1).v (R.aI 2).v
structure GG(R:RS):Prop where
 c:∀ k,k<3->(R.aI k).c<4096
 v:∀ k,k<3->(R.aI k).v<256
def yL(w:YM)(b c v:Nat):Prop:=w.1[b]?=some (.cells #[iQ (c:Int),iQ (v:Int)] 31 (0,0))
theorem jh(W:YM)(a b c d e f:Nat):
  let w3:=(((W.alloc (.cells #[iQ (a:Int),iQ (b:Int)] 31)).alloc (.cells #[iQ (c:Int),iQ (d:Int)] 31)).alloc (.cells #[iQ (e:Int),iQ (f:Int)] 31)).drew
  yL w3 W.1.size a b/\yL w3 (W.1.size+1) c d/\yL w3 (W.1.size+1+1) e f/\YO W.1.size W w3:=by
 refine⟨?_,?_,?_,?_⟩
 ·exact(Za _ _ _ tQ).trans ((Za _ _ _ sQ).trans (aU _ _))
 ·refine(Za _ _ _ sQ).trans ?_;have:=aU (W.alloc (.cells #[iQ (a:Int),iQ (b:Int)] 31)) (.cells #[iQ (c:Int),iQ (d:Int)] 31);simpa using this
 ·have:=aU ((W.alloc (.cells #[iQ (a:Int),iQ (b:Int)] 31)).alloc (.cells #[iQ (c:Int),iQ (d:Int)] 31)) (.cells #[iQ (e:Int),iQ (f:Int)] 31);show(((W.alloc (.cells #[iQ (a:Int),iQ (b:Int)] 31)).alloc (.cells #[iQ (c:Int),iQ (d:Int)] 31)).alloc (.cells #[iQ (e:Int),iQ (f:Int)] 31)).1[W.1.size+1+1]?=_;simpa using this
 ·exact((((YS _ _).alloc lQ _).alloc sQ _).alloc tQ _).drew
theorem zlO(p:Nat)(C:RC)(R:RS)(w:YM)(h:aF w p C R)(av:GG R):
  YR prog 179 #[pQ p] w (bQ (.agg #[iQ ((xg R:Nat):Int),iQ ((xh R:Nat):Int)]) w):=by
 obtain⟨W,hW⟩:∃ W,Hid (w.alloc (.cells #[iQ 0,iQ 0] 31)=W):=eQ;have aC:YO w.1.size w W:=by rw[<-hW.o];exact(YS _ _).alloc lQ _
 have b0:yL W w.1.size 0 0:=by rw[<-hW.o];exact aU _ _
 have h0:=h.below aC;have k1:=h0.s2 (k:=0) oQ;have k2:=h0.s3 (k:=0) oQ;have k3:=h0.s2 (k:=1) oQ;have k4:=h0.s3 (k:=1) oQ;have k5:=h0.s2 (k:=2) oQ;have k6:=h0.s3 (k:=2) oQ;simp only[Nat.zero_mul,Nat.one_mul,Nat.add_zero,Nat.reduceMul,Nat.reduceAdd]at k1 k2 k3 k4 k5 k6;have o1:=av.c 0 oQ;have o2:=av.c 1 oQ;have o3:=av.c 2 oQ;have o4:=av.v 0 oQ;have o5:=av.v 1 oQ;have o6:=av.v 2 oQ;unfold xg xh;obtain⟨c0,e1⟩:∃ c,(R.aI 0).c=c:=⟨_,rfl⟩;obtain⟨c1,e2⟩:∃ c,(R.aI 1).c=c:=⟨_,rfl⟩;obtain⟨c2,e3⟩:∃ c,(R.aI 2).c=c:=⟨_,rfl⟩;obtain⟨v0,e4⟩:∃ c,(R.aI 0).v=c:=⟨_,rfl⟩;obtain⟨v1,e5⟩:∃ c,(R.aI 1).v=c:=⟨_,rfl⟩;obtain⟨v2,e6⟩:∃ c,(R.aI 2).v=c:=⟨_,rfl⟩;rw[e1]at k1 o1⊢;rw[e2]at k3 o2⊢;rw[e3]at k5 o3⊢;rw[e4]at k2 o4⊢;rw[e5]at k4 o5⊢;rw[e6]at k6 o6⊢;have bJ:=h0.lt;have fJ:p<W.1.size+1:=oQ;have mb:p<W.1.size+1+1:=oQ;have qV:p<W.1.size+1+1+1:=oQ;have CO:p≠W.1.size:=oQ;have kR:p≠W.1.size+1:=oQ;have mS:p≠W.1.size+1+1:=oQ;have B0:=ae b0;have iE:=ae aC;clear h h0 av e1 e2 e3 e4 e5 e6 b0 aC;go_enter func179,ntmps179;go_wp2_with fail
 rw[show w.alloc (.cells #[iQ 0,iQ 0] 31)=W from hW.o];clear hW;go_cut [3,4,5]from 6 to 23 (fun s3 s4 s5 wc=>∃ a b c,s3=pQ a/\s4=pQ b/\s5=pQ c/\yL wc a c0 v0/\yL wc b c1 v1/\yL wc c c2 v2/\YO W.1.size W wc/\W.1.size<=a/\W.1.size<=b/\W.1.size<=c)
 case first=>
  go_region
  all_goals
   go_wp2_with fail
   go_meet
   first
    |(exact⟨_,_,_,rfl,rfl,rfl,(jh W c0 v0 c1 v1 c2 v2).1,(jh W c0 v0 c1 v1 c2 v2).2.1,(jh W c0 v0 c1 v1 c2 v2).2.2.1,(jh W c0 v0 c1 v1 c2 v2).2.2.2,oQ,oQ,oQ⟩)
    |(exact⟨_,_,_,rfl,rfl,rfl,(jh W c0 v0 c2 v2 c1 v1).1,(jh W c0 v0 c2 v2 c1 v1).2.2.1,(jh W c0 v0 c2 v2 c1 v1).2.1,(jh W c0 v0 c2 v2 c1 v1).2.2.2,oQ,oQ,oQ⟩)
    |(exact⟨_,_,_,rfl,rfl,rfl,(jh W c1 v1 c0 v0 c2 v2).2.1,(jh W c1 v1 c0 v0 c2 v2).1,(jh W c1 v1 c0 v0 c2 v2).2.2.1,(jh W c1 v1 c0 v0 c2 v2).2.2.2,oQ,oQ,oQ⟩)
    |(exact⟨_,_,_,rfl,rfl,rfl,(jh W c1 v1 c2 v2 c0 v0).2.2.1,(jh W c1 v1 c2 v2 c0 v0).1,(jh W c1 v1 c2 v2 c0 v0).2.1,(jh W c1 v1 c2 v2 c0 v0).2.2.2,oQ,oQ,oQ⟩)
    |(exact⟨_,_,_,rfl,rfl,rfl,(jh W c2 v2 c0 v0 c1 v1).2.1,(jh W c2 v2 c0 v0 c1 v1).2.2.1,(jh W c2 v2 c0 v0 c1 v1).1,(jh W c2 v2 c0 v0 c1 v1).2.2.2,oQ,oQ,oQ⟩)
    |(exact⟨_,_,_,rfl,rfl,rfl,(jh W c2 v2 c1 v1 c0 v0).2.2.1,(jh W c2 v2 c1 v1 c0 v0).2.1,(jh W c2 v2 c1 v1 c0 v0).1,(jh W c2 v2 c1 v1 c0 v0).2.2.2,oQ,oQ,oQ⟩)
 case rest=>
  obtain⟨a,b,c,rfl,rfl,rfl,ia,ib,ic,hB,ga,gb,gc⟩:=hcut;have hNl:=bp B0.out;have n1:¬(a=w.1.size):=oQ;have n2:¬(b=w.1.size):=oQ;have n3:¬(c=w.1.size):=oQ;have n4:¬(w.1.size=a):=oQ;have n5:¬(w.1.size=b):=oQ;have n6:¬(w.1.size=c):=oQ;have r0:yL wc w.1.size 0 0:=(hB.block _ (bp B0.out)).trans B0.out;have y0:wc.cell? (aQ a 0)=some (iQ (c0:Int)):=(ay ia 0).trans rfl;have y1:wc.cell? (aQ a 1)=some (iQ (v0:Int)):=(ay ia 1).trans rfl;have y2:wc.cell? (aQ b 0)=some (iQ (c1:Int)):=(ay ib 0).trans rfl;have y3:wc.cell? (aQ b 1)=some (iQ (v1:Int)):=(ay ib 1).trans rfl;have y4:wc.cell? (aQ c 0)=some (iQ (c2:Int)):=(ay ic 0).trans rfl;have y5:wc.cell? (aQ c 1)=some (iQ (v2:Int)):=(ay ic 1).trans rfl;have y6:wc.cell? (aQ w.1.size 0)=some (iQ 0):=(ay r0 0).trans rfl;have y7:wc.cell? (aQ w.1.size 1)=some (iQ 0):=(ay r0 1).trans rfl;have f6:=fL r0 0;have f7:=fL r0 1;have HB:=ae (iE.o.trans (hB.mono (by have:=bp B0.out;omega)));clear ia ib ic hB r0 k1 k2 k3 k4 k5 k6 bJ fJ mb qV CO kR mS B0 iE;go_wp2_with fail
  go_region_held3 (fun w'=>w'.cell? (aQ a 0)=some (iQ (c0:Int))/\w'.cell? (aQ a 1)=some (iQ (v0:Int))/\w'.cell? (aQ b 0)=some (iQ (c1:Int))/\w'.cell? (aQ b 1)=some (iQ (v1:Int))/\w'.cell? (aQ c 0)=some (iQ (c2:Int))/\w'.cell? (aQ c 1)=some (iQ (v2:Int))) (go_keep) (first |(go_at_call 199;refine(zlw _ _ _ _ oQ oQ oQ).mono ?_;rintro e w' ⟨rfl,rfl⟩))
  all_goals go_wp2
  all_goals refine Zm (v:=.agg #[iQ ((uY c0 c1 c2:Nat):Int),iQ ((uY v0 v1 v2:Nat):Int)]) (by simp[results,results179,go_sem,y6,y7]) rfl ⟨rfl,?_⟩
  all_goals exact(WS HB.o lQ _ _).drew
theorem J9(p:Nat)(C:RC)(R:RS)(kind:Int)(w:YM)(h:aF w p C R):
  YR prog 125 #[pQ p,iQ kind] w (bQ (.agg (ak (df kind (R.id:Int) R.cycle))) w):=by
 obtain⟨W,hW⟩:∃ W,Hid (w.alloc (.cells (ak aD) 36)=W):=eQ;have aC:YO w.1.size w W:=by rw[<-hW.o];exact(YS _ _).alloc lQ _
 have dW:aM W w.1.size 36 aD:=by rw[<-hW.o];exact aU _ _
 have jG:∀ w',YO w.1.size w w'->w'.cell? (aQ p 0)=some (iQ (R.id:Int))/\w'.cell? (aQ p 5)=some (iQ R.cycle):=fun w' hx=>⟨(hx.cell (p:=(aQ p 0)) h.lt).trans h.c0,(hx.cell (p:=(aQ p 5)) h.lt).trans h.c5⟩
 have cA:=ae jG;have iE:=ae aC;have lM:=ae dW;have hN:ak (df kind (R.id:Int) R.cycle)=#[iQ kind,iQ (R.id:Int),iQ R.cycle,iQ 0,iQ 0,iQ 0,iQ 0,iQ 0,iQ 0,iQ 0,iQ 0,iQ 0,iQ 0,iQ 0,iQ 0,iQ 0,iQ 0,iQ 0,iQ 0,iQ 0,iQ 0,iQ 0,iQ 0]:=by simp[ak,df]
 have HN:=ae hN;clear h aC dW jG hN;go_enter func125,ntmps125;go_wp2_with fail
 rw[show w.alloc (.cells #[iQ 0,iQ 0,iQ 0,iQ 0,iQ 0,iQ 0,iQ 0,iQ 0,iQ 0,iQ 0,iQ 0,iQ 0,iQ 0,iQ 0,iQ 0,iQ 0,iQ 0,iQ 0,iQ 0,iQ 0,iQ 0,iQ 0,iQ 0] 36)=W from hW.o];refine Zh (S:=fun w'=>w'.cell? (aQ p 0)=some (iQ (R.id:Int))/\w'.cell? (aQ p 5)=some (iQ R.cycle)) kQ (bE cA _ iE.o.drew) (fun af=>?_);refine ai 0 (iQ kind) af ?_;refine ai 1 (pQ p) af ?_;refine ai 2 (pQ p) af ?_;refine ai 3 (pQ p) af ?_;refine ai 4 (iQ (R.id:Int)) af ?_;refine ai 5 (pQ p) af ?_;refine ai 6 (pQ p) af ?_;refine ai 7 (.pointer (some (aQ p 5))) af ?_;refine ai 8 (iQ R.cycle) af ?_;refine ai 9 (.agg #[iQ kind,iQ (R.id:Int),iQ R.cycle,iQ 0,iQ 0,iQ 0,iQ 0,iQ 0,iQ 0,iQ 0,iQ 0,iQ 0,iQ 0,iQ 0,iQ 0,iQ 0,iQ 0,iQ 0,iQ 0,iQ 0,iQ 0,iQ 0,iQ 0]) af ?_;refine aR 10 fun K hK=>?_
 have pG:aM W.drew w.1.size 36 aD:=lM.o;refine Z2 _ _ _ rfl _ (ak (df kind (R.id:Int) R.cycle)) rfl (by rw[HN.o];rfl) _ _ pG (by rw[qR];rfl) rfl (wS _) ?_;have gA:YO w.1.size w (W.drew.setRow w.1.size (ak (df kind (R.id:Int) R.cycle))):=sX iE.o.drew lQ _;have kK:=pG.row (df kind (R.id:Int) R.cycle);refine hK.o _ _ (bE cA _ gA) (fun af=>?_);clear hK K;obtain⟨w3,qz⟩:∃ w3,Hid (W.drew.setRow w.1.size (ak (df kind (R.id:Int) R.cycle))=w3):=eQ;rw[qz.o]at gA kK;refine Y7 kQ ?_ _;simp only[Act.put,List.getElem_toArray,List.getElem_cons_succ,List.getElem_cons_zero];rw[qz.o];have mq:=ae gA;have HZ6:=ae kK;clear gA kK pG af qz;go_wp2
 refine Zm (v:=.agg (ak (df kind (R.id:Int) R.cycle))) ?_ rfl ⟨rfl,mq.o⟩;exact uS results125 rfl (iB HZ6.o)
theorem Ka(p:Nat)(C:RC)(R:RS)(w:YM)(h:aF w p C R):
  YR prog 73 #[pQ p] w (bQ (.agg (ak (df 4 (R.id:Int) R.cycle))) w):=by
 have aC:YO w.1.size w (w.alloc (.cells (ak aD) 36)):=(YS _ _).alloc lQ _;have dW:aM (w.alloc (.cells (ak aD) 36)) w.1.size 36 aD:=aU _ _;have az:=J9 p C R 4 _ (h.below aC);have dJ:=ae az;have iE:=ae aC;have lM:=ae dW;clear h aC dW az;go_enter func73,ntmps73;go_wp2_with fail
 refine dJ.o.mono ?_;rintro e w1 ⟨rfl,aG⟩;have lZ:aM w1 w.1.size 36 aD:=lM.o.below sQ aG;have kC:=ae lZ;have dN:=ae (iE.o.trans (aG.mono sQ));clear lZ aG lM iE dJ;go_wp2_with (refine jb rfl _ _ rfl w.1.size (df 4 (R.id:Int) R.cycle) rfl rfl aD kC.o ?_)
 intro w9 dD;go_wp2
 refine Zm (v:=.agg (ak (df 4 (R.id:Int) R.cycle))) ?_ rfl ⟨rfl,dN.o.trans (dD.o.2.2 _ lQ)⟩;exact uS results73 rfl (iB dD.o.1)
def Db(C:RC)(R:RS)(c v:Nat):Nat:=F2 (rt C.zs) (eC C.zs) C.n C.d (cW C.s (c:Int)) (cW C.n (v:Int)) R.st
def GH(C:RC)(R:RS)(x y:Int):St:=CJ (rt C.zs) (eC C.zs) C.n C.d (cW C.s x) (cW C.n y) R.st
def nc(C:RC)(R:RS):FR:=ie 2 (R.id:Int) R.cycle ((xg R:Nat):Int) ((xh R:Nat):Int) ((Db C R (xg R) (xh R):Nat):Int)
structure A6(w wz:YM)(N q p:Nat)(C:RC)(R:RS)(F:FR):Prop where
 old:YO N w wz
 res:aM wz N 36 aD
 bS:aM wz q 36 F
 rp:aF wz p C R
section
variable {w wz wx:YM}{N q p:Nat}{C:RC}{R:RS}{F:FR}
theorem A6.below(h:A6 w wz N q p C R F)(hN:N<=w.1.size)(hB:YO wz.1.size wz wx):A6 w wx N q p C R F:=
 ⟨h.old.trans (hB.mono (Yq hN h.old.size)),h.res.below h.res.lt hB,h.bS.below h.bS.lt hB,h.rp.below hB⟩
theorem A6.put(h:A6 w wz N q p C R F)(hq:N<q)(_:p<N)(hN:N=w.1.size)(hg:p≠q/\C.pc<N/\C.g<N/\C.M<N/\C.g2<N){k:Nat}(hk:k<23)(x:Int):A6 w (wz.setCell (aQ q k) (iQ x)) N q p C R (upd F k x):=by
 have hm:Mod wz (wz.setCell (aQ q k) (iQ x)) (· = q):=(Mod.refl _ _).set (aQ q k) _ (fun _=>rfl);obtain⟨g0,g1,g2,g3,g4⟩:=hg;exact⟨h.old.setCell (by show N<=q;omega) _,(Below.heap_setCell _ _ _ _ (by show N≠q;omega)).trans h.res,h.bS.put hk x,h.rp.other hm ⟨fun e=>g0 e.symm,oQ,oQ,oQ,oQ⟩⟩
end
theorem zah(p:Nat)(C:RC)(R:RS)(w:YM)(h:aF w p C R)(av:GG R)(bh:AH R.st):
  YR prog 140 #[pQ p] w (bQ (.agg (ak (nc C R))) w):=by
 have aC:YO w.1.size w (w.alloc (.cells (ak aD) 36)):=(YS _ _).alloc lQ _;have dW:aM (w.alloc (.cells (ak aD) 36)) w.1.size 36 aD:=aU _ _;have az:=J9 p C R 2 _ (h.below aC);have bJ:=h.lt;have hg:C.pc<w.1.size/\C.g<w.1.size/\C.M<w.1.size/\C.g2<w.1.size:=⟨h.core.kh,h.core.eV,h.core.mlt,h.nV⟩;have HG:=ae hg;have dJ:=ae az;have iE:=ae aC;have lM:=ae dW;have H:=ae h;have fX:=ae av;have cZ:=ae bh;clear h aC dW az av bh hg;go_enter func140,ntmps140;go_wp2_with fail
 refine dJ.o.mono ?_;rintro e w1 ⟨rfl,aG⟩;have lZ:aM w1 w.1.size 36 aD:=lM.o.below sQ aG;have zai:YO w.1.size w w1:=iE.o.trans (aG.mono sQ);have jQ:w.1.size<w1.1.size:=lZ.lt;have hq0:aM (w1.alloc (.cells (ak aD) 36)) w1.1.size 36 aD:=aU _ _;have HQ0:=ae hq0;have kC:=ae lZ;have dN:=ae zai;clear lZ aG zai hq0 lM iE dJ;go_wp2_with (refine jb rfl _ _ rfl w1.1.size (df 2 (R.id:Int) R.cycle) rfl rfl aD HQ0.o ?_)
 intro w2 tC;have lS:A6 w w2 w.1.size w1.1.size p C R (df 2 (R.id:Int) R.cycle):=by
  obtain⟨a1,a2,a3⟩:=tC.o;have hb:YO w1.1.size w1 w2:=((YS w1.1.size w1).alloc lQ _).trans (a3 _ lQ);exact⟨dN.o.trans (hb.mono oQ),kC.o.below oQ hb,a1,H.o.below (dN.o.trans (hb.mono oQ))⟩
 have hfu:=zlO p C R w2 lS.rp fX.o;have HFU:=ae hfu;have jI:=ae lS;obtain⟨q,hq⟩:∃ q,q=w1.1.size:=⟨_,rfl⟩;rw[<-hq]at jI jQ⊢;clear hfu lS tC HQ0 kC dN hq;go_wp2_with fail
 refine HFU.o.mono ?_;rintro e w3 ⟨rfl,aZ⟩;have kA:=jI.o.below lQ aZ;obtain⟨c,hc⟩:∃ c,Hid (xg R=c):=eQ;obtain⟨v,hv⟩:∃ v,Hid (xh R=v):=eQ;rw[hc.o,hv.o];have k3:=kA.bS.at (k:=3) oQ;have k4:=kA.bS.at (k:=4) oQ;have f3:=kA.bS.free 3;have f4:=kA.bS.free 4;have lK:=(kA.put jQ bJ rfl ⟨oQ,HG.o⟩ (k:=3) oQ (c:Int)).put jQ bJ rfl ⟨oQ,HG.o⟩ (k:=4) oQ (v:Int);have dx:=ae lK;clear kA lK aZ jI HFU;go_wp2_with fail
 clear k3 k4 f3 f4;generalize(w3.setCell (aQ q 3) (iQ (c:Int))).setCell (aQ q 4) (iQ (v:Int))=w4 at dx⊢;obtain⟨G,hG⟩:∃ G,Hid (G=upd (upd (df 2 (R.id:Int) R.cycle) 3 (c:Int)) 4 (v:Int)):=eQ;rw[<-hG.o]at dx;have g3:G 3=(c:Int):=by rw[hG.o];rfl
 have g4:G 4=(v:Int):=by rw[hG.o];rfl
 have jG:∀ w',YO w4.1.size w4 w'->w'.cell? (aQ p 4)=some (pQ C.pc)/\w'.rangeAt p 8 (aB R.st).toList/\w'.cell? (aQ q 3)=some (iQ (c:Int))/\w'.cell? (aQ q 4)=some (iQ (v:Int)):=by
  intro w' hx;have hM:=dx.o.below lQ hx;exact⟨hM.rp.c4,hM.rp.state,(hM.bS.at oQ).trans (by rw[g3]),(hM.bS.at oQ).trans (by rw[g4])⟩
 have lx:∀ wx,YO w4.1.size w4 wx->YR prog 180 #[pQ C.pc,.agg (aB R.st),.agg #[iQ (c:Int),iQ (v:Int)]] wx fun e w'=>
   e=.returned (.tuple #[.agg (aB (GH C R c v)),iQ ((Db C R c v:Nat):Int)])/\Hid (YO w4.1.size w4 w'):=by
  intro wx hx;refine(WW C.pc C.s C.d C.n C.zs C.g C.cg C.M (c:Int) (v:Int) R.st wx (dx.o.below lQ hx).rp.core cZ.o).mono ?_;rintro e w' ⟨he,hB⟩;exact⟨he,hx.trans (hB.mono hx.size)⟩
 have cA:=ae jG;have ed:=ae lx;clear jG lx g3 g4;generalize GH C R c v=X at ed;obtain⟨o,ho⟩:∃ o,Hid (Db C R c v=o):=eQ;rw[ho.o]at ed;go_wp2_with fail
 refine Zh (S:=fun w'=>w'.cell? (aQ p 4)=some (pQ C.pc)/\w'.rangeAt p 8 (aB R.st).toList/\w'.cell? (aQ q 3)=some (iQ (c:Int))/\w'.cell? (aQ q 4)=some (iQ (v:Int))) kQ (bE cA _ (YS _ _).drew) (fun af=>?_);refine ai 0 (pQ p) af ?_;refine ai 1 (pQ p) af ?_;refine ai 2 (.pointer (some (aQ p 4))) af ?_;refine ai 3 (pQ C.pc) af ?_;refine ai 4 (pQ p) af ?_;refine ai 5 (pQ p) af ?_;refine ai 6 (.pointer (some (aQ p 8))) af ?_;refine ai 7 _ af ?_ (hy:=yieldsIf_load_mid rQ 34 _ rfl p 8 rfl (aB R.st).toList _ (fun w h=>h.2.1) underlying34 rfl (by rw[iM];rfl));refine ai 8 (.pointer (some (aQ q 3))) af ?_;refine ai 9 (.agg #[iQ (c:Int),iQ (v:Int)]) af ?_;refine aR 10 fun K hK=>?_
 go_simp;go_at_call 180;refine(bE ed _ (YS _ _).drew).mono ?_;rintro e w5 ⟨rfl,gS⟩;dsimp only;refine hK.o _ _ (bE cA _ gS.o) (fun af=>?_);clear hK K;refine ai 11 (.tuple #[.agg (aB X),iQ (o:Int)]) af ?_;refine ai 12 (.agg (aB X)) af ?_;refine ai 13 (iQ (o:Int)) af ?_;refine ai 14 (.pointer (some (aQ q 5))) af ?_;have lT:=dx.o.below lQ gS.o;have k5:=lT.bS.at (k:=5) oQ;have f5:=lT.bS.free 5;have rq:=lT.put jQ bJ rfl ⟨oQ,HG.o⟩ (k:=5) oQ (o:Int);have s6:(w5.setCell (aQ q 5) (iQ (o:Int))).cell? (aQ p 4)=some (pQ C.pc)/\(w5.setCell (aQ q 5) (iQ (o:Int))).rangeAt p 8 (aB R.st).toList/\(w5.setCell (aQ q 5) (iQ (o:Int))).cell? (aQ q 3)=some (iQ (c:Int))/\(w5.setCell (aQ q 5) (iQ (o:Int))).cell? (aQ q 4)=some (iQ (v:Int)):=
  ⟨rq.rp.c4,rq.rp.state,(rq.bS.at oQ).trans (by rw[hG.o];rfl),(rq.bS.at oQ).trans (by rw[hG.o];rfl)⟩
 have tD:=ae rq;have S6:=ae s6;clear lT rq s6;refine aR 15 fun K hK=>?_
 go_simp;refine hK.o _ _ S6.out (fun af=>?_);clear hK K;refine Y7 kQ ?_ _;clear af k5 f5 S6 cA ed gS dx;generalize w5.setCell (aQ q 5) (iQ (o:Int))=w6 at tD⊢;have HE:Hid (ak (upd G 5 (o:Int))=ak (nc C R)):=ae (VF fun k _=>by
  unfold nc;rw[hc.o,hv.o,ho.o,hG.o];unfold upd df ie
  (repeat' split)<;>first |rfl|omega)
 go_wp2_with (first
  |(refine fM rfl _ rfl q rfl (upd G 5 (o:Int)) tD.out.bS ?_)
  |(refine jb rfl _ _ rfl w.heap.size (upd G 5 (o:Int)) rfl rfl aD tD.out.res ?_))
 intro w9 dD;go_wp2
 refine Zm (v:=.agg (ak (upd G 5 (o:Int)))) ?_ rfl ⟨by rw[HE.o],tD.o.old.trans (dD.o.2.2 _ lQ)⟩;exact uS results140 rfl (iB dD.o.1)
def Kb(x:Int)(R:RS):RS:={R with ahead:=if R.ahead<x then x else R.ahead}
def iN(C:RC)(F:FR)(R:RS):RS:=
 if F 2<R.cycle then R else if F 2=R.cycle then A5 (R.cycle+1) (GH C R (F 3) (F 4)) (Kb (F 2) R)else Kb (F 2) R
def nZ(R:RS):FR:=df 4 (R.id:Int) R.cycle
def rr(C:RC)(F:FR)(R:RS):List FR:=if F 2<R.cycle then []else if(iN C F R).cycle<=(iN C F R).ahead then [nZ (iN C F R)]else []
structure ld(w wz:YM)(N p:Nat)(C:RC)(R:RS)(F:FR):Prop where
 old:Mod w wz (· = p)
 bS:aM wz N 36 F
 rp:aF wz p C R
section
variable {w wz wx:YM}{N p:Nat}{C:RC}{R R':RS}{F:FR}
theorem ld.below(h:ld w wz N p C R F)(hB:YO wz.1.size wz wx):ld w wx N p C R F:=⟨h.old.below hB,h.bS.below h.bS.lt hB,h.rp.below hB⟩
theorem ld.mod(h:ld w wz N p C R F)(hp:p<N)(hm:Mod wz wx (· = p))(hr:aF wx p C R'):ld w wx N p C R' F:=
 ⟨h.old.then hm (fun _ _ e=>e),(hm.block _ h.bS.lt oQ).trans h.bS,hr⟩
theorem ld.drew(h:ld w wz N p C R F):ld w wz.drew N p C R F:=h.below (YS _ _).drew
theorem ld.drewN(h:ld w wz N p C R F)(n:Nat):ld w (wz.drewN n) N p C R F:=h.below (below_drewN (YS _ _) n)
theorem ld.CZ(h:ld w wz N p C R F)(hp:p<N)(c:Int):ld w (wz.setCell (aQ p 7) (iQ c)) N p C {R with ahead:=c} F:=
 h.mod hp ((Mod.refl wz (· = p)).set (aQ p 7) _ (fun _=>rfl)) (h.rp.CZ c)
end
theorem zlP(p:Nat)(C:RC)(R:RS)(F:FR)(w:YM)(h:aF w p C R)(bh:AH R.st)(qN:0<=R.cycle/\R.cycle<1000000000):
  YR prog 174 #[pQ p,.agg (ak F)] w fun e w'=>
   (∃ v,e=.returned v/\ep w' 36 v (rr C F R))/\aF w' p C (iN C F R)/\Mod w w' (· = p):=by
 have bJ:=h.lt;have vu:ld w (w.alloc (.cells (ak F) 36)) w.1.size p C R F:=by
  have hb:YO w.1.size w (w.alloc (.cells (ak F) 36)):=(YS _ _).alloc lQ _;exact⟨Mod.fB hb _,aU _ _,h.below hb⟩
 obtain⟨W,hW⟩:∃ W,Hid (w.alloc (.cells (ak F) 36)=W):=eQ;rw[hW.o]at vu;have cZ:=ae bh;obtain⟨gG,gX⟩:=qN;have n2:=vu.bS.at (k:=2) oQ;have k5:=vu.rp.c5;have k7:=vu.rp.c7;have f7:=vu.rp.blk.free 7;have fE:=ae vu;clear h vu bh;obtain⟨bl,jl⟩:∃ b,decide (F 2<R.cycle)=b:=⟨_,rfl⟩;cases bl
 ·have xZ:¬F 2<R.cycle:=zsF jl;obtain⟨m,hm⟩:∃ m,Hid ((if R.ahead<F 2 then F 2 else R.ahead)=m):=eQ;have HNL:=ae xZ;obtain⟨RR,vo⟩:∃ RR,Hid (iN C F R=RR):=eQ;obtain⟨TT,mz⟩:∃ TT,Hid (rr C F R=TT):=eQ;rw[vo.o,mz.o];obtain⟨R1,ig⟩:∃ R1,Hid ({R with ahead:=m}=R1):=eQ;have HA1:Hid (Kb (F 2) R=R1):=ae (by rw[<-ig.o,<-hm.o];rfl);have iC:Hid (R1.cycle=R.cycle/\R1.ahead=m):=ae (by rw[<-ig.o];exact⟨rfl,rfl⟩);have nd:Hid (R1.st=R.st):=ae (by rw[<-ig.o]);clear xZ;go_enter func174,ntmps174;go_wp2_with fail
  rw[show w.alloc (.cells (ak F) 36)=W from hW.o];clear hW;go_quiet (fail)
  go_wp2_with fail
  go_region
  rw[hm.o];have O7:=(fE.o.drewN (nq+1)).CZ bJ m;rw[ig.o]at O7;have ru:=ae O7;clear O7 n2 k5 k7 f7 fE;generalize(W.drewN (nq+1)).setCell (aQ p 7) (iQ m)=w3 at ru⊢;have n2:=ru.o.bS.at (k:=2) oQ;have k5:w3.cell? (aQ p 5)=some (iQ R.cycle):=by rw[ru.o.rp.c5,iC.o.1]
  obtain⟨be,Da⟩:∃ b,(F 2==R.cycle)=b:=⟨_,rfl⟩;cases be
  ·have fh:Hid (RR=R1):=ae (by rw[<-vo.o];unfold iN;rw[YG (zsF jl),YG (by simpa using Da),HA1.o]);go_wp2_with fail
   go_quiet (fail)
   have o9:=ae (ru.o.drewN nq);clear n2 k5 ru;generalize w3.drewN nq=w4 at o9⊢;have c5:w4.cell? (aQ p 5)=some (iQ (R.cycle)):=by rw[o9.o.rp.c5,iC.o.1]
   have c7:w4.cell? (aQ p 7)=some (iQ m):=by rw[o9.o.rp.c7,iC.o.2]
   have xi:Hid (TT=if R.cycle<=m then [nZ R1]else []):=ae (by rw[<-mz.o];unfold rr;rw[YG (zsF jl),vo.o,fh.o,iC.o.1,iC.o.2]);obtain⟨bq,GI⟩:∃ b,decide (R.cycle<=m)=b:=⟨_,rfl⟩;cases bq
   ·have A7:Hid (TT=[]):=ae (by rw[xi.o,YG (zsF GI)]);clear xi;go_wp2_with fail
    go_quiet (fail)
    go_wp2
    go_ret;exact⟨⟨_,rfl,.inl ⟨A7.o,rfl⟩⟩,by rw[fh.o];exact(o9.o.drewN _).rp,(o9.o.drewN _).old⟩
   ·have A7:Hid (TT=[nZ R1]):=ae (by rw[xi.o,YH (YK GI)]);clear xi;go_wp2_with fail
    go_quiet (fail)
    go_wp2_with fail
    refine(Ka p C R1 _ (o9.o.drewN _).rp).mono ?_;rintro e w9 ⟨rfl,vv⟩;have GJ:=ae ((o9.o.drewN _).below vv);clear vv;go_wp2_with (refine yG rfl _ rfl (nZ R1) rfl w9.1.size rfl ?_)
    intro uN tE;go_wp2
    go_ret;exact⟨⟨_,rfl,by rw[A7.o];exact ep.one tE.o.1⟩,by rw[fh.o];exact(GJ.o.below tE.o.2.2).rp,(GJ.o.below tE.o.2.2).old⟩
  ·obtain⟨X,hX⟩:∃ X,Hid (GH C R (F 3) (F 4)=X):=eQ;obtain⟨R2,qc⟩:∃ R2,Hid (A5 (R.cycle+1) X R1=R2):=eQ;have fh:Hid (RR=R2):=ae (by rw[<-vo.o];unfold iN;rw[YG (zsF jl),YH (by simpa using Da),HA1.o,hX.o,qc.o]);have dO:Hid (R2.cycle=R.cycle+1/\R2.ahead=m):=ae (by rw[<-qc.o];exact⟨rfl,iC.o.2⟩);go_wp2_with fail
   go_quiet (fail)
   have o9:=ae (ru.o.drewN nq);clear n2 k5 ru;generalize w3.drewN nq=w4 at o9⊢;have jG:∀ w',YO w4.1.size w4 w'->w'.cell? (aQ p 4)=some (pQ C.pc)/\w'.rangeAt p 8 (aB R.st).toList/\w'.cell? (aQ w.1.size 3)=some (iQ (F 3))/\w'.cell? (aQ w.1.size 4)=some (iQ (F 4)):=by
    intro w' hx;have hM:=o9.o.below hx;exact⟨hM.rp.c4,by rw[<-nd.o];exact hM.rp.state,hM.bS.at oQ,hM.bS.at oQ⟩
   have lx:∀ wx,YO w4.1.size w4 wx->YR prog 180 #[pQ C.pc,.agg (aB R.st),.agg #[iQ (F 3),iQ (F 4)]] wx fun e w'=>
     ∃ o:Nat,e=.returned (.tuple #[.agg (aB X),iQ (o:Int)])/\Hid (YO wx.1.size wx w'):=by
    intro wx hx;refine(WW C.pc C.s C.d C.n C.zs C.g C.cg C.M (F 3) (F 4) R.st wx (o9.o.below hx).rp.core cZ.o).mono ?_;rintro e w' ⟨he,hB⟩;exact⟨_,by rw[he,<-hX.o];rfl,hB⟩
   have cA:=ae jG;have ed:=ae lx;clear jG lx;go_wp2_with fail
   go_cut [5,6]from 31 to 44 (fun s5 s6 wc=>∃ b,s5=pQ b/\ck wc b X/\ld w wc w.1.size p C R1 F)
   case first=>
    refine Zh (S:=fun w'=>w'.cell? (aQ p 4)=some (pQ C.pc)/\w'.rangeAt p 8 (aB R.st).toList/\w'.cell? (aQ w.1.size 3)=some (iQ (F 3))/\w'.cell? (aQ w.1.size 4)=some (iQ (F 4))) kQ (bE cA _ (YS _ _).drew) (fun af=>?_);refine ai 0 (pQ p) af ?_;refine ai 1 (pQ p) af ?_;refine ai 2 (.pointer (some (aQ p 4))) af ?_;refine ai 3 (pQ C.pc) af ?_;refine ai 4 (pQ p) af ?_;refine ai 5 (pQ p) af ?_;refine ai 6 (.pointer (some (aQ p 8))) af ?_;refine ai 7 _ af ?_ (hy:=yieldsIf_load_mid rQ 34 _ rfl p 8 rfl (aB R.st).toList _ (fun w h=>h.2.1) underlying34 rfl (by rw[iM];rfl));refine ai 8 (.pointer (some (aQ w.1.size 3))) af ?_;refine ai 9 (.agg #[iQ (F 3),iQ (F 4)]) af ?_;refine wpAnyH_ready (rs:=[10,14]) kQ sQ ?_;refine zt3 (o:=_) rfl (fun K hK=>?_) (zt3 (o:=_) rfl (fun K hK=>?_) zwA)
    ·rw[YH rQ];go_simp;go_at_call 180;refine(bE ed _ (YS _ _).drew).mono ?_;rintro e w5 ⟨o,rfl,gS⟩;dsimp only;have eK:YO w4.1.size w4 w5:=(YS w4.1.size w4).drew.trans gS.o;have gA:YO w4.1.size w4 (w5.alloc (.cells (aB dK) 34)):=eK.alloc eK.size _;have jJ:ck (w5.alloc (.cells (aB dK) 34)) w5.1.size dK:=aU _ _;refine hK.o _ _ (bE cA _ eK) (fun af=>?_);clear hK K;refine ai 11 (.tuple #[.agg (aB X),iQ (o:Int)]) af ?_;refine ai 12 (.agg (aB X)) af ?_;refine ai 13 (iQ (o:Int)) af ?_;refine aR 14 fun K hK=>?_
     go_simp;refine hK.o _ _ (bE cA _ gA) (fun af=>?_);clear hK K;refine aR 15 fun K hK=>?_
     refine Z2 _ _ _ rfl _ (aB X) rfl rfl _ _ jJ (by rw[iM];rfl) rfl (sV X) ?_;have na:=sX gA eK.size (aB X);have GK:=sW jJ X;refine hK.o _ _ (bE cA _ na) (fun af=>?_);clear hK K;refine ai 16 (iQ (o:Int)) af ?_;refine Y7 kQ ?_ _;have C6:=ae GK;have O8:=ae (o9.o.below na);clear af GK na;go_wp2_with fail
     go_meet
     exact⟨_,rfl,C6.o,O8.o⟩
    ·rw[YH rQ];go_simp;have eK:YO w4.1.size w4 (w4.alloc (.cells (aB dK) 34)).drew:=((YS w4.1.size w4).alloc lQ _).drew;have qd:ck (w4.alloc (.cells (aB dK) 34)).drew w4.1.size dK:=aU _ _;refine hK.o _ _ (bE cA _ eK) (fun af=>?_);clear hK K;refine aR 10 fun K hK=>?_
     go_simp;go_at_call 180;refine(bE ed _ eK).mono ?_;rintro e w6 ⟨o,rfl,mq⟩;dsimp only;have gA:YO w4.1.size w4 w6:=eK.trans (mq.o.mono eK.size);have jJ:ck w6 w4.1.size dK:=(mq.o.block _ (bp qd)).trans qd;refine hK.o _ _ (bE cA _ gA) (fun af=>?_);clear hK K;refine ai 11 (.tuple #[.agg (aB X),iQ (o:Int)]) af ?_;refine ai 12 (.agg (aB X)) af ?_;refine ai 13 (iQ (o:Int)) af ?_;refine aR 15 fun K hK=>?_
     refine Z2 _ _ _ rfl _ (aB X) rfl rfl _ _ jJ (by rw[iM];rfl) rfl (sV X) ?_;have na:=sX gA lQ (aB X);have GK:=sW jJ X;refine hK.o _ _ (bE cA _ na) (fun af=>?_);clear hK K;refine ai 16 (iQ (o:Int)) af ?_;refine Y7 kQ ?_ _;have C6:=ae GK;have O8:=ae (o9.o.below na);clear af GK na;go_wp2_with fail
     go_meet
     exact⟨_,rfl,C6.o,O8.o⟩
   case rest=>
    obtain⟨b,rfl,hb,hD⟩:=hcut;have HB:=ae hb;have HD:=ae hD;have bO:=zad p C R1 (R.cycle+1) X wc.drew hD.rp.drew;rw[qc.o]at bO;have tB:=ae bO;have c5:wc.cell? (aQ p 5)=some (iQ R.cycle):=by rw[hD.rp.c5,iC.o.1]
    have pC:IntKind.i64.wrap (R.cycle+1)=R.cycle+1:=IntWalk.i64_in _ oQ;have GL:Hid (wc.drew.rangeAt b 0 (aB X).toList):=ae (fun j u hj=>by rw[Yv];exact(ay hb j).trans (by simpa using hj));clear hb hD bO cA ed o9;go_wp2_with fail
    go_cut []from 45 to 52 (fun wc=>ld w wc w.1.size p C R2 F)
    case first=>
     refine Zh (S:=fun _=>True) kQ trivial (fun af=>?_);refine ai 0 (pQ p) af ?_;refine ai 1 (pQ p) af ?_;refine ai 2 (pQ p) af ?_;refine ai 3 (.pointer (some (aQ p 5))) af ?_;refine wpAnyH_ready (rs:=[4,6]) kQ sQ ?_;refine zt3 (o:=_) rfl (fun K hK=>?_) (zt3 (o:=_) rfl (fun K hK=>?_) zwA)
     ·rw[YH rQ];go_simp;refine hK.o _ _ trivial (fun af=>?_);clear hK K;refine ai 5 (iQ (R.cycle+1)) af ?_;refine aR 6 fun K hK=>?_
      refine wp_load_mid 34 _ rfl b 0 rfl (aB X).toList _ GL.out underlying34 rfl (by rw[iM];rfl) ?_;refine hK.o _ _ trivial (fun af=>?_);clear hK K;refine aR 7 fun K hK=>?_
      go_simp;go_at_call 196;refine tB.o.mono ?_;rintro e w6 ⟨rfl,GM,qH⟩;dsimp only;refine hK.o _ _ trivial (fun af=>?_);clear hK K;refine Y7 kQ ?_ _;have vw:=ae (HD.o.drew.mod bJ qH GM);clear af;go_wp2_with fail
      go_meet
      exact vw.o
     ·rw[YH rQ];refine wp_load_mid 34 _ rfl b 0 rfl (aB X).toList _ GL.out underlying34 rfl (by rw[iM];rfl) ?_;refine hK.o _ _ trivial (fun af=>?_);clear hK K;refine aR 4 fun K hK=>?_
      go_simp;refine hK.o _ _ trivial (fun af=>?_);clear hK K;refine ai 5 (iQ (R.cycle+1)) af ?_;refine aR 7 fun K hK=>?_
      go_simp;go_at_call 196;refine tB.o.mono ?_;rintro e w6 ⟨rfl,GM,qH⟩;dsimp only;refine hK.o _ _ trivial (fun af=>?_);clear hK K;refine Y7 kQ ?_ _;have vw:=ae (HD.o.drew.mod bJ qH GM);clear af;go_wp2_with fail
      go_meet
      exact vw.o
    case rest=>
     have vw:=ae hcut;rename YM=>w6
     clear hcut HD HB tB GL c5 pC;have c5:w6.cell? (aQ p 5)=some (iQ (R.cycle+1)):=by rw[vw.o.rp.c5,dO.o.1]
     have c7:w6.cell? (aQ p 7)=some (iQ m):=by rw[vw.o.rp.c7,dO.o.2]
     have xi:Hid (TT=if R.cycle+1<=m then [nZ R2]else []):=ae (by rw[<-mz.o];unfold rr;rw[YG (zsF jl),vo.o,fh.o,dO.o.1,dO.o.2]);obtain⟨bq,GI⟩:∃ b,decide (R.cycle+1<=m)=b:=⟨_,rfl⟩;cases bq
     ·have A7:Hid (TT=[]):=ae (by rw[xi.o,YG (zsF GI)]);clear xi;go_wp2_with fail
      go_quiet (fail)
      go_wp2
      go_ret;exact⟨⟨_,rfl,.inl ⟨A7.o,rfl⟩⟩,by rw[fh.o];exact(vw.o.drewN _).rp,(vw.o.drewN _).old⟩
     ·have A7:Hid (TT=[nZ R2]):=ae (by rw[xi.o,YH (YK GI)]);clear xi;go_wp2_with fail
      go_quiet (fail)
      go_wp2_with fail
      refine(Ka p C R2 _ (vw.o.drewN _).rp).mono ?_;rintro e w9 ⟨rfl,vv⟩;have GJ:=ae ((vw.o.drewN _).below vv);clear vv;go_wp2_with (refine yG rfl _ rfl (nZ R2) rfl w9.1.size rfl ?_)
      intro uN tE;go_wp2
      go_ret;exact⟨⟨_,rfl,by rw[A7.o];exact ep.one tE.o.1⟩,by rw[fh.o];exact(GJ.o.below tE.o.2.2).rp,(GJ.o.below tE.o.2.2).old⟩
 ·have aj:F 2<R.cycle:=YK jl;have e1:iN C F R=R:=YH aj;have e2:rr C F R=[]:=YH aj;rw[e1,e2];clear e1 e2 k7 f7;go_enter func174,ntmps174;go_wp2_with fail
  rw[show w.alloc (.cells (ak F) 36)=W from hW.o];clear hW;go_quiet (fail)
  go_wp2
  go_ret;exact⟨⟨_,rfl,.inl ⟨rfl,rfl⟩⟩,(fE.o.drewN _).rp,(fE.o.drewN _).old⟩
end Go.Proofs.YtaablbmgagiajabGreatDoor
