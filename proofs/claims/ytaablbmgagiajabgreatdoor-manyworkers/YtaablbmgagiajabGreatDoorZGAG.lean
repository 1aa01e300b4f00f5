import Derived.Test.YtaablbmgagiajabGreatDoorZGAF
set_option maxHeartbeats 4000000
set_option maxRecDepth 20000
open Go.RowKit renaming Below->YO
open Go.RowKit.Below renaming refl->YS
open Go.BinOp renaming andNot->ztx
open BitVec renaming ofInt->zsN
open Bool renaming false_and->zs7,not_eq_true->zAs,not_eq_true'->zAt,or_eq_false_iff->zwG,or_false->zxZ
open Go.IntKind renaming i64->Zy
open Nat renaming lt_of_not_le->zBu,testBit_lt_two_pow->zvo,zero_testBit->zuc
open Go renaming World->YM,bodyPost_ret->Zm,wpAnyH_done->Y7,wp_region_held_drew->Zh,wp_store_row->Z2
namespace Go.Proofs.YtaablbmgagiajabGreatDoor
open Go.Proofs.Tryz
open Go.RowKit Go.Deep
variable{a b c d i m n r sn v:Nat}{f:Nat->Bool}{s t:Int}{zs:List Int}
def ij(C:RC)(R:RS):RS:=uZ R.id (cW C.s R.sx) (cW C.n R.sy) (J0 {R with aO:=R.aO+1})
def ng(R:RS):FR:=mW 1 (R.id:Int) R.cycle ((R.aI R.id).c:Int) ((R.aI R.id).v:Int)
def xj(R:RS):Bool:=rk R.aI 3==3||(rk R.aI 3==2&&decide (3<=R.aO))
def iF(C:RC)(R:RS):FR:=if xj R then nc C R else if 3<=R.aO then df 4 (R.id:Int) R.cycle else aD
def lU(R:RS):Bool:=xj R||decide (3<=R.aO)
structure jK(w wz:YM)(N p:Nat)(C:RC)(R:RS)(A B:FR):Prop where
 old:Mod w wz (· = p)
 one:aM wz N 36 A
 two:aM wz (N+1) 36 B
 rp:aF wz p C R
section
variable {w wz wx:YM}{N p:Nat}{C:RC}{R R':RS}{A B A':FR}
theorem jK.mod(h:jK w wz N p C R A B)(hp:p<N)(hm:Mod wz wx (· = p))(hr:aF wx p C R'):jK w wx N p C R' A B:=
 ⟨h.old.then hm (fun _ _ e=>e),(hm.block _ h.one.lt oQ).trans h.one,(hm.block _ h.two.lt oQ).trans h.two,hr⟩
theorem jK.below(h:jK w wz N p C R A B)(hB:YO wz.1.size wz wx):jK w wx N p C R A B:=
 ⟨h.old.below hB,h.one.below h.one.lt hB,h.two.below h.two.lt hB,h.rp.below hB⟩
theorem jK.far(h:jK w wz N p C R A B)(hp:p<N)(hN:N=w.1.size)(hg:C.pc<N/\C.g<N/\C.M<N/\C.g2<N){q:Nat}(hq:N<=q)(hm:Mod wz wx (· = q)):Mod w wx (· = p)/\aF wx p C R:=by
 obtain⟨g1,g2,g3,g4⟩:=hg;exact⟨h.old.then hm (fun i hi e=>oQ),h.rp.other hm ⟨oQ,oQ,oQ,oQ,oQ⟩⟩
theorem zaj(w:YM)(q:Nat)(cs:Array Value):Mod w (w.setRow q cs) (· = q):=⟨rfl,rfl,rfl,by simp[World.setRow],fun _ _ h=>yB _ _ _ _ h⟩
theorem jK.A8(h:jK w wz N p C R A B)(hp:p<N)(hN:N=w.1.size)(hg:C.pc<N/\C.g<N/\C.M<N/\C.g2<N)(A':FR):jK w (wz.setRow N (ak A')) N p C R A' B:=by
 obtain⟨a,b⟩:=h.far hp hN hg lQ (zaj wz N (ak A'));exact⟨a,h.one.row A',(yB _ _ _ _ oQ).trans h.two,b⟩
theorem jK.GN(h:jK w wz N p C R A B)(hp:p<N)(hN:N=w.1.size)(hg:C.pc<N/\C.g<N/\C.M<N/\C.g2<N)(B':FR):jK w (wz.setRow (N+1) (ak B')) N p C R A B':=by
 obtain⟨a,b⟩:=h.far hp hN hg oQ (zaj wz (N+1) (ak B'));exact⟨a,(yB _ _ _ _ oQ).trans h.one,h.two.row B',b⟩
theorem jK.put(h:jK w wz N p C R A B)(hp:p<N)(hN:N=w.1.size)(hg:C.pc<N/\C.g<N/\C.M<N/\C.g2<N){k:Nat}(hk:k<23)(x:Int):jK w (wz.setCell (aQ N k) (iQ x)) N p C R (upd A k x) B:=by
 obtain⟨a,b⟩:=h.far hp hN hg lQ ((Mod.refl wz (· = N)).set (aQ N k) (iQ x) (fun _=>rfl));exact⟨a,h.one.put hk x,(Below.heap_setCell _ _ _ _ (by show N+1≠N;omega)).trans h.two,b⟩
theorem jK.drew(h:jK w wz N p C R A B):jK w wz.drew N p C R A B:=h.below (YS _ _).drew
end
theorem GP{P:Program}{f:Func}{tmps:Array Value}{w:YM}{a b k:Tmp}{t u:TypeId}{ad bd:Addr}{v x:Value}(hf:f.results=#[.cell a t,.cell b u,.tmp k])(ha:tmps.getD a undef=.pointer (some ad))(hb:tmps.getD b undef=.pointer (some bd))(hl:(loadVar t ad).run P w=.ok v w)(hm:(loadVar u bd).run P w=.ok x w):
  (results f tmps).run P w=.ok (.tuple #[v,x,tmps.getD k undef]) w:=by
 have zB:tmps[a]?.getD undef=.pointer (some ad):=by simpa using ha
 have gH:tmps[b]?.getD undef=.pointer (some bd):=by simpa using hb
 simp only[results,hf];simp[asAddr,zB,gH,hl,hm]
structure GQ(R:RS):Prop where
 id:R.id<3
 aO:0<=R.aO/\R.aO<9000000
 came:∀ k,k<3->0<=(R.aI k).came/\(R.aI k).came<10000000
 aI:GG R
 st:AH R.st
theorem zlQ{C:RC}{R:RS}(h:GQ R)(hs:C.s<=12)(hn:C.n<=8):GG (ij C R):=by
 have hf:∀ k,k<3->(jg (R.aO+1) R.aI 3 k).c<4096/\(jg (R.aO+1) R.aI 3 k).v<256:=by
  intro k hk;rw[O5,YH hk];rcases(by unfold tu;split;exact .inl rfl;exact .inr rfl:tu (R.aO+1) (R.aI k)=js\/tu (R.aO+1) (R.aI k)=R.aI k)with e|e
  ·rw[e];exact⟨dQ,dQ⟩
  ·rw[e];exact⟨h.aI.c k hk,h.aI.v k hk⟩
 have hp:∀ k,k<3->((ij C R).aI k).c<4096/\((ij C R).aI k).v<256:=by
  intro k hk;show(upd (jg (R.aO+1) R.aI 3) R.id _ k).c<4096/\(upd (jg (R.aO+1) R.aI 3) R.id _ k).v<256;by_cases e:k=R.id
  ·rw[e,upd_same];exact⟨Yr (CY _ _) (Yt (n:=2) dQ hs),Yr (CY _ _) (Yt (n:=2) dQ hn)⟩
  ·rw[cR _ _ e];exact hf k hk
 exact⟨fun k hk=>(hp k hk).1,fun k hk=>(hp k hk).2⟩
theorem zlR(p:Nat)(C:RC)(R:RS)(w:YM)(h:aF w p C R)(av:GQ R):
  Calls prog 87 #[pQ p] w fun e w'=>
   e=.returned (.tuple #[.agg (ak (ng (ij C R))),.agg (ak (iF C (ij C R))),.bool (lU (ij C R))])/\aF w' p C (ij C R)/\Mod w w' (· = p):=by
 have bJ:=h.lt;have hg:C.pc<w.1.size/\C.g<w.1.size/\C.M<w.1.size/\C.g2<w.1.size:=⟨h.core.kh,h.core.eV,h.core.mlt,h.nV⟩;have Kc:=h.core.few;have lv:GG (ij C R):=zlQ av oQ oQ;have hid:=av.id;have zrL:(R.id:Int)<3:=oQ;have GF:0<=R.aO/\R.aO<9000000:=av.aO;obtain⟨Dc,O9⟩:=GF;have c6:=h.c6;have f6:=h.blk.free 6;have pC:wrap64 (R.aO+1)=R.aO+1:=IntWalk.wrap64_in _ oQ;obtain⟨R1,ig⟩:∃ R1,Hid (R1 ={R with aO:=R.aO+1}):=eQ;have wW:jK w (((w.setCell (aQ p 6) (iQ (R.aO+1))).alloc (.cells (ak aD) 36)).alloc (.cells (ak aD) 36)) w.1.size p C R1 aD aD:=by
  have h1:=h.tick (R.aO+1);rw[<-ig.o]at h1;have hs:(w.setCell (aQ p 6) (iQ (R.aO+1))).1.size=w.1.size:=by simp[World.setCell]
  have hb:YO (w.setCell (aQ p 6) (iQ (R.aO+1))).1.size (w.setCell (aQ p 6) (iQ (R.aO+1))) (((w.setCell (aQ p 6) (iQ (R.aO+1))).alloc (.cells (ak aD) 36)).alloc (.cells (ak aD) 36)):=((YS _ _).alloc lQ _).alloc sQ _;refine⟨((Mod.refl w (· = p)).set (aQ p 6) _ (fun _=>rfl)).below hb,?_,?_,h1.below hb⟩
  ·refine(Below.heap_alloc _ _ _ (by simp[hs])).trans ?_;have:=aU (w.setCell (aQ p 6) (iQ (R.aO+1))) (.cells (ak aD) 36);rwa [hs]at this
  ·have:=aU ((w.setCell (aQ p 6) (iQ (R.aO+1))).alloc (.cells (ak aD) 36)) (.cells (ak aD) 36);unfold aM;simpa[hs]using this
 have A9:R1.id=R.id/\R1.cycle=R.cycle/\R1.sx=R.sx/\R1.sy=R.sy/\R1.aO=R.aO+1/\R1.aI=R.aI/\R1.st=R.st:=by rw[ig.o];exact⟨rfl,rfl,rfl,rfl,rfl,rfl,rfl⟩
 have xf:=zlB p C R1 _ wW.rp (by rw[A9.2.2.2.2.1];omega) (by rw[A9.2.2.2.2.2.1];exact av.came);obtain⟨R2,qc⟩:∃ R2,Hid (R2=J0 R1):=eQ;rw[<-qc.o]at xf;have zak:R2.id=R.id/\R2.cycle=R.cycle/\R2.sx=R.sx/\R2.sy=R.sy:=by rw[qc.o];exact⟨A9.1,A9.2.1,A9.2.2.1,A9.2.2.2.1⟩
 obtain⟨R3,Kd⟩:∃ R3,Hid (R3=ij C R):=eQ;have zal:uZ R.id (cW C.s R.sx) (cW C.n R.sy) R2=R3:=by rw[Kd.o,qc.o,ig.o];rfl
 have Pb:R3.id=R.id/\R3.cycle=R.cycle/\R3.aO=R.aO+1/\R3.st=R.st/\R3.sx=R.sx/\R3.sy=R.sy:=by rw[Kd.o];exact⟨rfl,rfl,rfl,rfl,rfl,rfl⟩
 rw[<-Kd.o]at lv⊢;have C7:=ae lv;have cZ:Hid (AH R3.st):=ae (by rw[Pb.2.2.2.1];exact av.st);have xe:=ae xf;have oW:=ae wW;have HG:=ae hg;have dO:=ae zak;have eh:=ae Pb;have HP3:=ae zal;clear h av wW xf lv hg A9 zak Pb zal ig qc Kd Kc;go_enter func87,ntmps87;go_wp2_with fail
 refine xe.o.mono ?_;rintro e w2 ⟨rfl,gI,aK⟩;have lS:=oW.o.mod bJ aK gI;have jI:=ae lS;have c0:w2.cell? (aQ p 0)=some (iQ (R.id:Int)):=by rw[gI.c0,dO.o.1]
 have AP:w2.cell? (aQ p 25)=some (iQ R.sx):=by rw[gI.AP,dO.o.2.2.1]
 have AU:w2.cell? (aQ p 26)=some (iQ R.sy):=by rw[gI.AU,dO.o.2.2.2]
 have BP:=XU p C R2 R.id R.sx R.sy w2.drew gI.drew hid;rw[HP3.o]at BP;have Ke:=ae BP;clear lS gI aK BP oW xe c6 f6 pC HP3 dO;go_wp2_with fail
 refine Zh (S:=fun w'=>w'.cell? (aQ p 0)=some (iQ (R.id:Int))/\w'.cell? (aQ p 25)=some (iQ R.sx)/\w'.cell? (aQ p 26)=some (iQ R.sy)) kQ ⟨c0,AP,AU⟩ (fun af=>?_);refine ai 0 (pQ p) af ?_;refine ai 1 (pQ p) af ?_;refine ai 2 (pQ p) af ?_;refine ai 3 (pQ p) af ?_;refine ai 4 (iQ (R.id:Int)) af ?_;refine ai 5 (pQ p) af ?_;refine ai 6 (pQ p) af ?_;refine ai 7 (.pointer (some (aQ p 25))) af ?_;refine ai 8 (.agg #[iQ R.sx,iQ R.sy]) af ?_;refine aR 9 fun K hK=>?_
 clear c0 AP AU af;go_simp;go_at_call 138;refine Ke.o.mono ?_;rintro e w3 ⟨rfl,jm,gu⟩;dsimp only;have kA:=jI.o.drew.mod bJ gu jm;have e0:w3.cell? (aQ p 0)=some (iQ (R.id:Int)):=by rw[jm.c0,eh.o.1]
 have e25:w3.cell? (aQ p 25)=some (iQ R.sx):=by rw[jm.AP,eh.o.2.2.2.2.1]
 have e26:w3.cell? (aQ p 26)=some (iQ R.sy):=by rw[jm.AU,eh.o.2.2.2.2.2]
 refine hK.o _ _ ⟨e0,e25,e26⟩ (fun af=>?_);clear hK K e0 e25 e26;refine Y7 kQ ?_ _;have az:=J9 p C R3 1 w3 jm;have dJ:=ae az;have kB:=ae kA;clear af az kA jm gu Ke jI;go_wp2_with fail
 refine dJ.o.mono ?_;rintro e w4 ⟨rfl,rv⟩;have dx:=ae (kB.o.below rv);clear rv kB dJ;go_wp2_with (refine jb rfl _ _ rfl w.1.size (df 1 (R3.id:Int) R3.cycle) rfl rfl aD dx.o.one ?_)
 intro w5 HF5;have lT:jK w w5 w.1.size p C R3 (df 1 (R3.id:Int) R3.cycle) aD:=by
  obtain⟨a1,a2,a3⟩:=HF5.o;have hm:Mod w4 w5 (· = w.1.size):=⟨(a3 0 (Yw _)).os,(a3 0 (Yw _)).tape,(a3 0 (Yw _)).output,(a3 0 (Yw _)).size,fun k _ hk=>a2 k hk⟩;obtain⟨b1,b2⟩:=dx.o.far bJ rfl HG.o lQ hm;exact⟨b1,a1,(a2 _ oQ).trans dx.o.two,b2⟩
 obtain⟨c,hc⟩:∃ c,Hid ((R3.aI R.id).c=c):=eQ;obtain⟨v,hv⟩:∃ v,Hid ((R3.aI R.id).v=v):=eQ;have d0:w5.cell? (aQ p 0)=some (iQ (R.id:Int)):=by rw[lT.rp.c0,eh.o.1]
 have d2:w5.cell? (aQ p (27+R.id*4+2))=some (iQ (c:Int)):=by rw[lT.rp.s2 hid,hc.o]
 have d3:w5.cell? (aQ p (27+R.id*4+3))=some (iQ (v:Int)):=by rw[lT.rp.s3 hid,hv.o]
 have rq:=((lT.put bJ rfl HG.o (k:=3) oQ (c:Int)).put bJ rfl HG.o (k:=4) oQ (v:Int)).drew;have k3:=lT.one.at (k:=3) oQ;have k4:=lT.one.at (k:=4) oQ;have f3:=lT.one.free 3;have f4:=lT.one.free 4;have g0:((w5.setCell (aQ w.1.size 3) (iQ (c:Int))).setCell (aQ w.1.size 4) (iQ (v:Int))).drew.cell? (aQ p 0)=some (iQ (R.id:Int)):=by rw[rq.rp.c0,eh.o.1]
 have g2:((w5.setCell (aQ w.1.size 3) (iQ (c:Int))).setCell (aQ w.1.size 4) (iQ (v:Int))).drew.cell? (aQ p (27+R.id*4+2))=some (iQ (c:Int)):=by rw[rq.rp.s2 hid,hc.o]
 have g3:((w5.setCell (aQ w.1.size 3) (iQ (c:Int))).setCell (aQ w.1.size 4) (iQ (v:Int))).drew.cell? (aQ p (27+R.id*4+3))=some (iQ (v:Int)):=by rw[rq.rp.s3 hid,hv.o]
 have tD:=ae rq;have G0:=ae (And.intro g0 (And.intro g2 g3));clear lT rq HF5 dx g0 g2 g3;go_wp2_with fail
 refine Zh (S:=fun w'=>w'.cell? (aQ p 0)=some (iQ (R.id:Int))/\w'.cell? (aQ p (27+R.id*4+2))=some (iQ (c:Int))/\w'.cell? (aQ p (27+R.id*4+3))=some (iQ (v:Int))) kQ ⟨d0,d2,d3⟩ (fun af=>?_);refine ai 0 (pQ p) af ?_;refine ai 1 (pQ p) af ?_;refine ai 2 (pQ p) af ?_;refine ai 3 (pQ p) af ?_;refine ai 4 (iQ (R.id:Int)) af ?_;refine ai 5 (pQ p) af ?_;refine ai 6 (.pointer (some (aQ p 27))) af ?_;refine ai 7 (.pointer (some (aQ p (27+R.id*4)))) af ?_;refine ai 8 (.pointer (some (aQ p (27+R.id*4+2)))) af ?_;refine ai 9 (.agg #[iQ (c:Int),iQ (v:Int)]) af ?_;refine ai 10 (.pointer (some (aQ w.1.size 3))) af ?_;refine aR 11 fun K hK=>?_
 clear d0 d2 d3 af;go_simp;refine hK.o _ _ G0.out (fun af=>?_);clear hK K;refine Y7 kQ ?_ _;clear af k3 k4 f3 f4 G0;generalize((w5.setCell (aQ w.1.size 3) (iQ (c:Int))).setCell (aQ w.1.size 4) (iQ (v:Int))).drew=w6 at tD⊢;obtain⟨A,hA⟩:∃ A,Hid (upd (upd (df 1 (R3.id:Int) R3.cycle) 3 (c:Int)) 4 (v:Int)=A):=eQ;rw[hA.o]at tD;have HA:Hid (ak A=ak (ng R3)):=ae (VF fun k _=>by
  unfold ng;rw[<-hA.o,eh.o.1,hc.o,hv.o];unfold upd df mW
  (repeat' split)<;>first |rfl|omega)
 have c6:w6.cell? (aQ p 6)=some (iQ (R.aO+1)):=by rw[tD.o.rp.c6,eh.o.2.2.1]
 have cU:=zly p C R3 w6 tD.o.rp;have sj:=zab R3.aI 3;obtain⟨n,hn⟩:∃ n,Hid (rk R3.aI 3=n):=eQ;rw[hn.o]at cU sj;have HHV:=ae cU;obtain⟨b3,gl⟩:∃ b,((n:Int)==3)=b:=⟨_,rfl⟩;obtain⟨b2,bo⟩:∃ b,((n:Int)==2)=b:=⟨_,rfl⟩;obtain⟨bw,A0⟩:∃ b,decide (3<=R.aO+1)=b:=⟨_,rfl⟩;have HV:Hid (xj R3=(b3||(b2&&bw))):=ae (by
  unfold xj;rw[hn.o,eh.o.2.2.1,A0,<-gl,<-bo];congr 1
  ·rw[X7,YB,YB];omega
  ·congr 1
   rw[X7,YB,YB];omega)
 have HW:Hid (decide (3<=R3.aO)=bw):=ae (by rw[eh.o.2.2.1];exact A0);clear cU hc hv hA;go_wp2_with fail
 refine HHV.o.mono ?_;rintro e w7 ⟨rfl,na⟩;have kE:=ae (tD.o.below na);clear na HHV tD c6;cases b3
 ·cases b2
  ·cases bw
   ·rw[zs7,zxZ]at HV;have bN:xj R3=false:=HV.o;have qz:¬ 3<=R3.aO:=zsF HW.o;have xk:Hid (iF C R3=aD):=ae (by unfold iF;rw[bN,YG dQ,YG qz]);have xl:Hid (lU R3=false):=ae (by unfold lU;rw[bN,HW.o];rfl);clear bN qz;go_wp2_with (first
     |(refine fM rfl _ rfl w.heap.size rfl A kE.out.one ?_)
     |(refine F5 rfl _ _ rfl w.heap.size A rfl rfl A kE.out.one ?_)
     |(refine F5 rfl _ _ rfl (w.heap.size+1) aD rfl rfl aD (kE.out.A8 bJ rfl HG.out A).two ?_))
    have gB:=ae ((kE.o.A8 bJ rfl HG.o A).GN bJ rfl HG.o aD);generalize(w7.setRow w.1.size (ak A)).setRow (w.1.size+1) (ak aD)=uN at gB⊢;refine Zm (v:=.tuple #[.agg (ak A),.agg (ak aD),.bool false]) ?_ rfl ⟨by rw[HA.o,xk.o,xl.o],gB.o.rp,gB.o.old⟩;exact GP results87 rfl rfl (iB gB.o.one) (iB gB.o.two)
   ·rw[zs7,zxZ]at HV;have bN:xj R3=false:=HV.o;have qz:3<=R3.aO:=YK HW.o;have xk:Hid (iF C R3=(df 4 (R3.id:Int) R3.cycle)):=ae (by unfold iF;rw[bN,YG dQ,YH qz]);have xl:Hid (lU R3=true):=ae (by unfold lU;rw[bN,HW.o];rfl);clear bN qz;have cB:=Ka p C R3 w7.drew kE.o.rp.drew;have kY:=ae cB;clear cB;go_wp2_with fail
    refine Zh (S:=fun w'=>aM w' w.1.size 36 A) kQ kE.o.one (fun af=>?_);refine ai 0 _ af ?_ (hy:=C3 rQ _ rfl _ rfl A (fun w h=>h));refine ai 1 (pQ p) af ?_;refine aR 2 fun K hK=>?_
    go_simp;go_at_call 73;refine kY.o.mono ?_;rintro e w8 ⟨rfl,o7⟩;dsimp only;have pd:=kE.o.drew.below o7;have pg:=pd.A8 bJ rfl HG.o A;have tG:=pg.GN bJ rfl HG.o (df 4 (R3.id:Int) R3.cycle);refine hK.o _ _ pd.one (fun af=>?_);clear hK K;refine aR 3 fun K hK=>?_
    refine Z2 _ _ _ rfl _ (ak A) rfl rfl _ _ pd.one (by rw[qR];rfl) rfl (wS _) ?_;refine hK.o _ _ pg.one (fun af=>?_);clear hK K;refine aR 4 fun K hK=>?_
    refine Z2 _ _ _ rfl _ (ak (df 4 (R3.id:Int) R3.cycle)) rfl rfl _ _ pg.two (by rw[qR];rfl) rfl (wS _) ?_;refine hK.o _ _ tG.one (fun af=>?_);clear hK K;refine ai 5 (.bool true) af ?_;refine Y7 kQ ?_ _;have gB:=ae tG;clear af pd pg tG o7 kE kY;generalize(w8.setRow w.1.size (ak A)).setRow (w.1.size+1) (ak (df 4 (R3.id:Int) R3.cycle))=uN at gB⊢;go_wp2
    refine Zm (v:=.tuple #[.agg (ak A),.agg (ak (df 4 (R3.id:Int) R3.cycle)),.bool true]) ?_ rfl ⟨by rw[HA.o,xk.o,xl.o],gB.o.rp,gB.o.old⟩;exact GP results87 rfl rfl (iB gB.o.one) (iB gB.o.two)
  ·cases bw
   ·rw[Bool.and_false,zxZ]at HV;have bN:xj R3=false:=HV.o;have qz:¬ 3<=R3.aO:=zsF HW.o;have xk:Hid (iF C R3=aD):=ae (by unfold iF;rw[bN,YG dQ,YG qz]);have xl:Hid (lU R3=false):=ae (by unfold lU;rw[bN,HW.o];rfl);clear bN qz;go_wp2_with (first
     |(refine fM rfl _ rfl w.heap.size rfl A kE.out.one ?_)
     |(refine F5 rfl _ _ rfl w.heap.size A rfl rfl A kE.out.one ?_)
     |(refine F5 rfl _ _ rfl (w.heap.size+1) aD rfl rfl aD (kE.out.A8 bJ rfl HG.out A).two ?_))
    have gB:=ae ((kE.o.A8 bJ rfl HG.o A).GN bJ rfl HG.o aD);generalize(w7.setRow w.1.size (ak A)).setRow (w.1.size+1) (ak aD)=uN at gB⊢;refine Zm (v:=.tuple #[.agg (ak A),.agg (ak aD),.bool false]) ?_ rfl ⟨by rw[HA.o,xk.o,xl.o],gB.o.rp,gB.o.old⟩;exact GP results87 rfl rfl (iB gB.o.one) (iB gB.o.two)
   ·rw[Bool.and_true,Bool.or_true]at HV;have bN:xj R3=true:=HV.o;have xk:Hid (iF C R3=(nc C R3)):=ae (by unfold iF;rw[bN];rfl);have xl:Hid (lU R3=true):=ae (by unfold lU;rw[bN];rfl);clear bN;have cB:=zah p C R3 w7.drew kE.o.rp.drew C7.o cZ.o;have kY:=ae cB;clear cB;go_wp2_with fail
    refine Zh (S:=fun w'=>aM w' w.1.size 36 A) kQ kE.o.one (fun af=>?_);refine ai 0 _ af ?_ (hy:=C3 rQ _ rfl _ rfl A (fun w h=>h));refine ai 1 (pQ p) af ?_;refine aR 2 fun K hK=>?_
    go_simp;go_at_call 140;refine kY.o.mono ?_;rintro e w8 ⟨rfl,o7⟩;dsimp only;have pd:=kE.o.drew.below o7;have pg:=pd.A8 bJ rfl HG.o A;have tG:=pg.GN bJ rfl HG.o (nc C R3);refine hK.o _ _ pd.one (fun af=>?_);clear hK K;refine aR 3 fun K hK=>?_
    refine Z2 _ _ _ rfl _ (ak A) rfl rfl _ _ pd.one (by rw[qR];rfl) rfl (wS _) ?_;refine hK.o _ _ pg.one (fun af=>?_);clear hK K;refine aR 4 fun K hK=>?_
    refine Z2 _ _ _ rfl _ (ak (nc C R3)) rfl rfl _ _ pg.two (by rw[qR];rfl) rfl (wS _) ?_;refine hK.o _ _ tG.one (fun af=>?_);clear hK K;refine ai 5 (.bool true) af ?_;refine Y7 kQ ?_ _;have gB:=ae tG;clear af pd pg tG o7 kE kY;generalize(w8.setRow w.1.size (ak A)).setRow (w.1.size+1) (ak (nc C R3))=uN at gB⊢;go_wp2
    refine Zm (v:=.tuple #[.agg (ak A),.agg (ak (nc C R3)),.bool true]) ?_ rfl ⟨by rw[HA.o,xk.o,xl.o],gB.o.rp,gB.o.old⟩;exact GP results87 rfl rfl (iB gB.o.one) (iB gB.o.two)
 ·rw[Bool.true_or]at HV;have bN:xj R3=true:=HV.o;have xk:Hid (iF C R3=(nc C R3)):=ae (by unfold iF;rw[bN];rfl);have xl:Hid (lU R3=true):=ae (by unfold lU;rw[bN];rfl);clear bN;have cB:=zah p C R3 w7.drew kE.o.rp.drew C7.o cZ.o;have kY:=ae cB;clear cB;go_wp2_with fail
  refine Zh (S:=fun w'=>aM w' w.1.size 36 A) kQ kE.o.one (fun af=>?_);refine ai 0 _ af ?_ (hy:=C3 rQ _ rfl _ rfl A (fun w h=>h));refine ai 1 (pQ p) af ?_;refine aR 2 fun K hK=>?_
  go_simp;go_at_call 140;refine kY.o.mono ?_;rintro e w8 ⟨rfl,o7⟩;dsimp only;have pd:=kE.o.drew.below o7;have pg:=pd.A8 bJ rfl HG.o A;have tG:=pg.GN bJ rfl HG.o (nc C R3);refine hK.o _ _ pd.one (fun af=>?_);clear hK K;refine aR 3 fun K hK=>?_
  refine Z2 _ _ _ rfl _ (ak A) rfl rfl _ _ pd.one (by rw[qR];rfl) rfl (wS _) ?_;refine hK.o _ _ pg.one (fun af=>?_);clear hK K;refine aR 4 fun K hK=>?_
  refine Z2 _ _ _ rfl _ (ak (nc C R3)) rfl rfl _ _ pg.two (by rw[qR];rfl) rfl (wS _) ?_;refine hK.o _ _ tG.one (fun af=>?_);clear hK K;refine ai 5 (.bool true) af ?_;refine Y7 kQ ?_ _;have gB:=ae tG;clear af pd pg tG o7 kE kY;generalize(w8.setRow w.1.size (ak A)).setRow (w.1.size+1) (ak (nc C R3))=uN at gB⊢;go_wp2
  refine Zm (v:=.tuple #[.agg (ak A),.agg (ak (nc C R3)),.bool true]) ?_ rfl ⟨by rw[HA.o,xk.o,xl.o],gB.o.rp,gB.o.old⟩;exact GP results87 rfl rfl (iB gB.o.one) (iB gB.o.two)
theorem zlS(zs:List Int)(i j k:Nat):(kT zs i j).testBit k=(decide (k<j)&&(i != k&&meets zs i k)):=by
 induction j with
 |zero=>simp[kT]
 |succ j ih=>
  unfold kT;by_cases e:k=j
  ·subst e;have h0:(kT zs i k).testBit k=false:=by rw[ih];simp
   split
   ·rename_i h;rw[zsy,h0,Nat.testBit_two_pow_self,h];simp
   ·rename_i h;rw[h0];simp only[zAs]at h;rw[h];simp
  ·have hd:decide (k<j+1)=decide (k<j):=by rw[decide_eq_decide];omega
   rw[hd];split
   ·rw[zsy,Nat.testBit_two_pow_of_ne (Ne.symm e),ih];simp
   ·exact ih
theorem zlT(zs:List Int)(i k:Nat)(hk:k<zs.length):(eC zs i).testBit k=(i != k&&meets zs i k):=by
 unfold eC;rw[zlS];simp[hk]
theorem zlU(c:List Nat)(L m:Nat)(hL:L<=8)(h:m<=2^L):uP c m<=L:=by
 induction m with
 |zero=>simp[uP]
 |succ m ih=>
  unfold uP;have h1:=ih oQ;have h2:pop 8 m<=L:=by rw[ziw L 8 m oQ hL];exact NT L m
  split<;>omega
theorem zlV(zs:List Int)(h8:zs.length<=8):most (lI zs)<=zs.length:=by
 unfold most;rw[Gf];exact zlU _ _ _ h8 lQ
structure Good(R:Nat->Nat)(n:Nat)(B:Int)(S:St):Prop where
 set:S.set<2^n
 apart:∀ i k,i<n->k<n->i≠k->S.set.testBit i=true->S.set.testBit k=true->R i&&&R k=0
 used:∀ k,k<n->wo (S.used k) (R k)=0
 rest:∀ k,(n<=k\/S.set.testBit k=false)->S.used k=0/\S.idle k=0
 idle:∀ k,0<=S.idle k/\S.idle k<=B
theorem zlW(h1:wo a r=0)(h2:wo b r=0):wo (a|||b) r=0:=by
 rw[CI]at *;intro k hk;rw[zsy,zr5]at hk;rcases hk with hk|hk
 ·exact h1 k hk
 ·exact h2 k hk
theorem zlX(r c:Nat):wo (wo r c) r=0:=by
 rw[CI];intro k hk;rw[yq,X6]at hk;exact hk.1
theorem zlY(h:a|||b=0):a=0/\b=0:=by
 constructor
 ·apply zss;intro k;have:=YC (fun x=>x.testBit k) h;simp only[zsy,zuc,zwG]at this;rw[this.1,zuc]
 ·apply zss;intro k;have:=YC (fun x=>x.testBit k) h;simp only[zsy,zuc,zwG]at this;rw[this.2,zuc]
theorem zrM{u:Nat}{d:Int}(h:F0 r c (yu r c u) d t=true):wo r c=0:=by
 unfold F0 yu at h;simp only[zr5,X6,YB]at h;rcases h with ⟨_,h⟩|⟨h,_⟩
 ·exact h
 ·exact(zlY h).2
theorem zlZ{B:Int}(h:0<=t/\t<=B):0<=sJ v i t/\sJ v i t<=B+1:=by
 unfold sJ;split<;>omega
theorem zl0{R:Nat->Nat}{B:Int}{S:St}(h:Good R n B S):Good R n (B+1) (iA R d c v S n):=by
 refine⟨Oa _ _ _ _ _ _ _ h.set,fun i k hi hk e h1 h2=>h.apart i k hi hk e (VA _ _ _ _ _ _ _ h1) (VA _ _ _ _ _ _ _ h2),?_,?_,?_⟩
 ·intro k hk;rw[(Jz R d c v S n k hk).2.1];unfold ja;split
  ·split
   ·show wo (upd _ _ _ _) _=0;rw[upd_same];simp[wo]
   ·show wo (upd _ _ _ _) _=0;rw[upd_same];exact zlW (h.used k hk) (zlX _ _)
  ·exact h.used k hk
 ·intro k hk;by_cases jz:k<n
  ·obtain⟨h1,h2,h3⟩:=Jz R d c v S n k jz;have hb:(iA R d c v S n).set.testBit k=false:=by rcases hk with h|h;omega;exact h
   rw[h1]at hb;rw[h2,h3];unfold ja at hb⊢;by_cases hs:S.set.testBit k=true
   ·rw[YH hs]at hb⊢;split
    ·exact⟨upd_same _ _ _,upd_same _ _ _⟩
    ·rename_i hl;rw[YG hl]at hb;exact absurd (hs.symm.trans hb) dQ
   ·rw[YG hs];exact h.rest k (.inr (by simpa using hs))
  ·obtain⟨h1,h2,h3⟩:=CK R d c v S n k oQ;rw[h2,h3];exact h.rest k (.inl oQ)
 ·intro k;have hi:=h.idle k;by_cases jz:k<n
  ·rw[(Jz R d c v S n k jz).2.2];unfold ja;split
   ·split
    ·show 0<=upd _ _ _ _/\upd _ _ _ _<=_;rw[upd_same];omega
    ·show 0<=upd _ _ _ _/\upd _ _ _ _<=_;rw[upd_same];exact zlZ hi
   ·omega
  ·rw[(CK R d c v S n k oQ).2.2];omega
def Pc(R C:Nat->Nat)(n:Nat):Prop:=∀ i k,i<n->k<n->((C i).testBit k=true↔i≠k/\R i&&&R k≠0)
theorem zl1{R C:Nat->Nat}{set:Nat}(hC:Pc R C n)(h:∀ i k,i<n->k<n->i≠k->set.testBit i=true->set.testBit k=true->R i&&&R k=0):
  ∀ m,m<=n->∀ i k,i<n->k<n->i≠k->(mm R C c v set m).testBit i=true->(mm R C c v set m).testBit k=true->R i&&&R k=0:=by
 intro m;induction m with
 |zero=>intro _;exact h
 |succ m ih=>
  intro hm i k hi hk e h1 h2;have ih':=ih oQ;rw[show mm R C c v set (m+1)=(if qO (R m) (C m) c v m (mm R C c v set m)then mm R C c v set m|||2^m else mm R C c v set m)from rfl]at h1 h2;split at h1
  ·rename_i hf;rw[YH hf]at h2;unfold qO at hf;simp only[X6,YB]at hf;have hz:=hf.2.1;have key:∀ j,j<n->j≠m->(mm R C c v set m).testBit j=true->R m&&&R j=0:=by
    intro j hj hjm hb;have Ed:(C m).testBit j=false:=by
     cases hc:(C m).testBit j
     ·rfl
     ·have:=YC (fun x=>x.testBit j) hz;simp only[zsx,hb,hc,zuc]at this;exact absurd this dQ
    by_cases h0:R m&&&R j=0
    ·exact h0
    ·have:=(hC m j oQ hj).2 ⟨fun e=>hjm e.symm,h0⟩;exact absurd (this.symm.trans Ed) dQ
   rw[zsy,F3,zr5,zsE]at h1 h2;rcases h1 with h1|h1
   ·rcases h2 with h2|h2
    ·exact ih' i k hi hk e h1 h2
    ·subst h2;rw[Nat.and_comm];exact key i hi e h1
   ·subst h1;rcases h2 with h2|h2
    ·exact key k hk (fun e'=>e e'.symm) h2
    ·exact absurd h2 e
  ·rename_i hf;rw[YG hf]at h2;exact ih' i k hi hk e h1 h2
theorem zl2{R C:Nat->Nat}{B:Int}{S:St}(hC:Pc R C n)(h:Good R n B S):Good R n (B+1) (CJ R C n d c v S):=by
 have hL:=zl0 (d:=d) (c:=c) (v:=v) h;refine⟨Ob _ _ _ _ _ _ _ hL.set lQ,zl1 hC hL.apart n lQ,hL.used,?_,hL.idle⟩;intro k hk;refine hL.rest k ?_;rcases hk with hk|hk
 ·exact .inl hk
 ·right;cases hb:(iA R d c v S n).set.testBit k
  ·rfl
  ·have:=zi7 R C c v _ n k hb;exact absurd (this.symm.trans hk) dQ
theorem Pd{d:Int}(h:cw s zs d=(0,-1)):Pc (rt zs) (eC zs) zs.length:=by
 intro i k hi hk;rw[zlT zs i k hk,X6,zsD];obtain⟨h1,_,h3,_⟩:=CR h hi;obtain⟨h4,_,h6,_⟩:=CR h hk;unfold meets;rw[h1,h4,wP _ _ oQ oQ,zsD];constructor
 ·rintro⟨a,b⟩;exact⟨a,fun e=>b (by rw[e];rfl)⟩
 ·rintro⟨a,b⟩;exact⟨a,fun e=>b oQ⟩
theorem zl3{d:Int}{B:Int}{S:St}(hc:cw s zs d=(0,-1))(h:Good (rt zs) zs.length B S)(hB:B<=1000000000):AH S:=by
 have hr:=oO hc;unfold jY at hr;simp only[X6,mj]at hr;refine⟨Yr h.set (Yt (n:=2) dQ (show zs.length<=8 by omega)),fun k=>?_,fun k=>by have:=h.idle k;omega⟩;by_cases hk:k<zs.length
 ·have:=h.used k hk;have h2:S.used k<=rt zs k:=by
   rw[CI]at this;have e:S.used k&&&rt zs k=S.used k:=by
    apply zss;intro j;rw[zsx];cases hj:(S.used k).testBit j
    ·rfl
    ·rw[this j hj];rfl
   rw[<-e];exact zsr
  have:=(CR hc hk).2.2.1;omega
 ·rw[(h.rest k (.inl oQ)).1];decide
structure GS where
 set:Int
 used:Nat->Int
 idle:Nat->Int
def kF(G:GS):Array Value:=#[iQ G.set,iQ (G.used 0),iQ (G.used 1),iQ (G.used 2),iQ (G.used 3),iQ (G.used 4),iQ (G.used 5),iQ (G.used 6),iQ (G.used 7),
 iQ (G.idle 0),iQ (G.idle 1),iQ (G.idle 2),iQ (G.idle 3),iQ (G.idle 4),iQ (G.idle 5),iQ (G.idle 6),iQ (G.idle 7)]
def stG(S:St):GS:=⟨(S.set:Int),fun k=>(S.used k:Int),S.idle⟩
theorem zl4(S:St):kF (stG S)=aB S:=rfl
theorem zam(G:GS)(i:Nat)(h:i<8):(kF G)[1+i]?=some (iQ (G.used i)):=by
 match i,h with
 | 0,_=>rfl | 1,_=>rfl | 2,_=>rfl | 3,_=>rfl | 4,_=>rfl | 5,_=>rfl | 6,_=>rfl | 7,_=>rfl
theorem zan(G:GS)(i:Nat)(h:i<8):(kF G)[9+i]?=some (iQ (G.idle i)):=by
 match i,h with
 | 0,_=>rfl | 1,_=>rfl | 2,_=>rfl | 3,_=>rfl | 4,_=>rfl | 5,_=>rfl | 6,_=>rfl | 7,_=>rfl
def qf(w:YM)(q:Nat)(G:GS):Prop:=w.1[q]?=some (.cells (kF G) 34 (0,0))
theorem qf.set{w:YM}{q:Nat}{G:GS}(h:qf w q G):w.cell? (aQ q 0)=some (iQ G.set):=(ay h 0).trans rfl
theorem qf.used{w:YM}{q:Nat}{G:GS}(h:qf w q G)(hi:i<8):w.cell? (aQ q (1+i))=some (iQ (G.used i)):=(ay h _).trans (zam G i hi)
theorem qf.idle{w:YM}{q:Nat}{G:GS}(h:qf w q G)(hi:i<8):w.cell? (aQ q (9+i))=some (iQ (G.idle i)):=(ay h _).trans (zan G i hi)
theorem qf.lt{w:YM}{q:Nat}{G:GS}(h:qf w q G):q<w.1.size:=bp h
theorem qf.below{w wx:YM}{q B:Nat}{G:GS}(h:qf w q G)(hq:q<B)(hB:YO B w wx):qf wx q G:=(hB.block q hq).trans h
theorem zao{au:Array Oper}{rest:List Oper}{op:Oper}{a:Act}{w:YM}{Q:Exit->Act->YM->Prop}(gq:op.guard=none)(x:Operand)(ho:op.op=.load 34 x)
  (b:Nat) (hx:a.eval x=pQ b) (G:GS) (hS:qf w b G)
  (h:wpList prog au Q rest (a.put op.dst (.agg (kF G))) w):wpList prog au Q (op::rest) a w:=
 wpList_plain gq fun _ hK=>wp_load_row _ x ho b hx _ _ _ _ hS underlying34 rfl (by rw[iM];rfl) (hK _ _ h)
def yM(r cf:Nat)(d:Int)(G:GS)(i:Nat):Bool:=
  ((bits .and .i64 G.set (cf : Int) == 0 && bits .andNot .i64 (G.used i) (r : Int) == 0) && decide (0 ≤ G.idle i)) && decide (G.idle i ≤ (if G.used i == 0 then d else 1000))
theorem below_drewN'{B:Nat}{a w:YM}(h:YO B a w)(n:Nat):YO B a (w.drewN n):=⟨h.os,h.tape,h.output,h.size,h.block⟩
theorem zl5(p:Nat)(s:Int)(d n:Nat)(zs:List Int)(g cg M:Nat)(G:GS)(i:Nat)(w:YM)(hK:gz w p s (d:Int) n zs g cg M)(hi:i<n):
  Calls prog 198 #[pQ p,.agg (kF G),iQ (i:Int)] w fun e w'=>
   e=.returned (.bool (yM (rt zs i) (eC zs i) d G i))/\YO w.1.size w w':=by
 obtain⟨f1,f8,CU,CV,CW,CX⟩:=hK.few;have cM:i<8:=oQ;have hB:YO w.1.size w (w.alloc (.cells (kF G) 34)):=(YS _ _).alloc lQ _;have bJ:=hK.kh;have yA:=hK.eV;have yD:=hK.mlt;have c0:(kF G)[0]?=some (iQ G.set):=rfl;have cu:=zam G i cM;have ci:=zan G i cM;have k1:w.cell? (aQ p 1)=some (.slice (some (aQ g 0)) n cg):=by rw[ay hK.blk];rfl
 have k2:w.cell? (aQ p 2)=some (iQ (d:Int)):=by rw[ay hK.blk];rfl
 have k3:w.cell? (aQ p 3)=some (.slice (some (aQ M 0)) n n):=by rw[ay hK.blk];rfl
 obtain⟨r,hr,⟨BI,oM⟩,ku⟩:=hK.at hi;obtain⟨cf,nO,zkA,il⟩:=hK.WJ hi;rw[hr.o,nO.o];have HB:=ae hB;clear hB hK;obtain⟨z,hz⟩:∃ z,Hid (G.set=z):=eQ;obtain⟨u,hu⟩:∃ u,Hid (G.used i=u):=eQ;obtain⟨t,ht⟩:∃ t,Hid (G.idle i=t):=eQ;have De:yM r cf d G i=(((bits .and .i64 z (cf:Int)==0&&bits .andNot .i64 u (r:Int)==0)&&decide (0<=t))&&decide (t<=(if u==0 then(d:Int)else 1000))):=by unfold yM;rw[hz.o,hu.o,ht.o]
 rw[De];rw[hz.o]at c0;rw[hu.o]at cu;rw[ht.o]at ci;clear De hz hu ht hr nO;cases wX:(u==0)
 ·rw[YG dQ];cases hA:(bits BinOp.and Zy z (cf:Int)==0)
  ·go_enter func198,ntmps198;go_wp2_with fail
   go_quiet (fail)
   go_wp2
   go_ret;exact⟨dU rfl,below_drewN' HB.o _⟩
  ·cases hB:(bits ztx Zy u (r:Int)==0)
   ·go_enter func198,ntmps198;go_wp2_with fail
    go_quiet (fail)
    go_wp2
    go_ret;exact⟨dU rfl,below_drewN' HB.o _⟩
   ·cases hC:decide (0<=t)
    ·go_enter func198,ntmps198;go_wp2_with fail
     go_quiet (fail)
     go_wp2
     go_ret;exact⟨dU rfl,below_drewN' HB.o _⟩
    ·cases hD:decide (t<=1000)
     ·go_enter func198,ntmps198;go_wp2_with fail
      go_quiet (fail)
      go_wp2
      go_ret;exact⟨dU rfl,below_drewN' HB.o _⟩
     ·go_enter func198,ntmps198;go_wp2_with fail
      go_quiet (fail)
      go_wp2
      go_ret;exact⟨dU rfl,below_drewN' HB.o _⟩
 ·rw[YH rfl];cases hA:(bits BinOp.and Zy z (cf:Int)==0)
  ·go_enter func198,ntmps198;go_wp2_with fail
   go_quiet (fail)
   go_wp2
   go_ret;exact⟨dU rfl,below_drewN' HB.o _⟩
  ·cases hB:(bits ztx Zy u (r:Int)==0)
   ·go_enter func198,ntmps198;go_wp2_with fail
    go_quiet (fail)
    go_wp2
    go_ret;exact⟨dU rfl,below_drewN' HB.o _⟩
   ·cases hC:decide (0<=t)
    ·go_enter func198,ntmps198;go_wp2_with fail
     go_quiet (fail)
     go_wp2
     go_ret;exact⟨dU rfl,below_drewN' HB.o _⟩
    ·cases hD:decide (t<=(d:Int))
     ·go_enter func198,ntmps198;go_wp2_with fail
      go_quiet (fail)
      go_wp2
      go_ret;exact⟨dU rfl,below_drewN' HB.o _⟩
     ·go_enter func198,ntmps198;go_wp2_with fail
      go_quiet (fail)
      go_wp2
      go_ret;exact⟨dU rfl,below_drewN' HB.o _⟩
def xm(zs:List Int)(d:Int)(G:GS)(i:Nat):Bool:=if(u64 G.set).testBit i then yM (rt zs i) (eC zs i) d G i else(G.used i==0&&G.idle i==0)
def qg(f:Nat->Bool):Nat->Bool
 | 0=>true
 |i+1=>qg f i&&f i
theorem Kf(h:f i=false)(hi:i<n):qg f n=false:=by
 induction n with
 |zero=>omega
 |succ n ih=>
  unfold qg;by_cases e:i=n
  ·subst e;rw[h];simp
  ·rw[ih oQ];rfl
theorem Pe(h:qg f n=true)(hi:i<n):f i=true:=by
 cases hf:f i
 ·rw[Kf hf hi]at h;exact absurd h dQ
 ·rfl
def xn(zs:List Int)(d:Int)(G:GS):Bool:=(decide (0<=G.set)&&decide (G.set<((2^zs.length:Nat):Int)))&&qg (xm zs d G) 8
structure GR(w wr:YM)(G:GS):Prop where
 old:YO w.1.size w wr
 st:qf wr w.1.size G
theorem GR.below{w wr wx:YM}{G:GS}(h:GR w wr G)(hB:YO wr.1.size wr wx):GR w wx G:=⟨h.old.trans (hB.mono h.old.size),h.st.below h.st.lt hB⟩
theorem zl6(p:Nat)(s:Int)(d n:Nat)(zs:List Int)(g cg M:Nat)(G:GS)(w:YM)(hK:gz w p s (d:Int) n zs g cg M):
  Calls prog 175 #[pQ p,.agg (kF G)] w fun e w'=>
   e=.returned (.bool (xn zs d G))/\YO w.1.size w w':=by
 obtain⟨f1,f8,CU,CV,CW,CX⟩:=hK.few;have q9:GR w (w.alloc (.cells (kF G) 34)) G:=⟨(YS _ _).alloc lQ _,aU _ _⟩;have bJ:=hK.kh;have c0:(kF G)[0]?=some (iQ G.set):=rfl;have k1:w.cell? (aQ p 1)=some (.slice (some (aQ g 0)) n cg):=by rw[ay hK.blk];rfl
 obtain⟨z,hz⟩:∃ z,Hid (G.set=z):=eQ;rw[hz.o]at c0;have Df:xn zs d G=((decide (0<=z)&&decide (z<((2^n:Nat):Int)))&&qg (xm zs d G) 8):=by unfold xn;rw[hz.o,hK.len]
 have Kg:=ae Df;obtain⟨P,hP⟩:∃ P:Nat,Hid (2^n=P):=eQ;have eP:wrap64 (2^n)=(P:Int):=by rw[sI n oQ,hP.o]
 have jD:=ae q9;have HK:=ae hK;clear q9 hK Df;by_cases Pf:z<0
 ·have kR:decide (z<0)=true:=by simpa using Pf
  go_enter func175,ntmps175;go_wp2_with fail
  go_quiet (fail)
  go_wp2
  go_ret;refine⟨dU ?_,below_drewN' jD.o.old _⟩;rw[Kg.o,YD oQ];rfl
 have kR:decide (z<0)=false:=by simpa using Pf
 by_cases Pg:(P:Int)<=z
 ·have mS:decide ((P:Int)<=z)=true:=by simpa using Pg
  go_enter func175,ntmps175;go_wp2_with fail
  go_quiet (fail)
  go_wp2
  go_ret;refine⟨dU ?_,below_drewN' jD.o.old _⟩;rw[Kg.o,hP.o,YD (show ¬z<(P:Int)by omega)];simp
 have mS:decide ((P:Int)<=z)=false:=by simpa using Pg
 obtain⟨m,rfl⟩:=zr6 (show 0<=z by omega);have hmP:m<2^n:=by rw[hP.o];omega
 have IJ:m<256:=Yr hmP (Yt (n:=2) dQ (show n<=8 by omega));have zap:xn zs d G=qg (xm zs d G) 8:=by rw[Kg.o,hP.o,YE (show 0<=(m:Int)by omega),YE (show(m:Int)<(P:Int)by omega)];rfl
 have my:=ae zap;have sj:decide (P<=m)=false:=tQ;clear zap Kg hP;go_enter func175,ntmps175;go_wp2_with fail
 go_quiet (fail)
 go_wp2
 clear c0 k1 eP Pf Pg kR mS sj;go_loopw [21] (fun i wr=>∃ k:Nat,k<=8/\i=iQ k/\GR w wr G/\Hid (qg (xm zs d G) k=true)) (fun i _=>8-(intOf i).toNat)
 case atStart=>exact⟨0,Yw _,rfl,⟨below_drewN' jD.o.old _,jD.o.st⟩,rfl⟩
 case round=>
  clear jD;obtain⟨i,hi,rfl,hI,HA⟩:=hrel;by_cases aj:i<8
  ·have c0:=hI.st.set;rw[hz.o]at c0;have cu:=hI.st.used aj;have ci:=hI.st.idle aj;have vz:xm zs d G i=if m.testBit i then yM (rt zs i) (eC zs i) d G i else(G.used i==0&&G.idle i==0):=by unfold xm;rw[hz.o,nN m oQ]
   obtain⟨u,hu⟩:∃ u,Hid (G.used i=u):=eQ;obtain⟨t,ht⟩:∃ t,Hid (G.idle i=t):=eQ;rw[hu.o]at cu vz;rw[ht.o]at ci vz;have p6:=fun wx=>Gi m i wx oQ oQ
   cases hb:m.testBit i
   ·rw[hb]at p6 vz;rw[YG dQ]at vz;have HH:=ae p6;have Ph:=ae vz;clear p6 vz hb;cases wX:(u==0)
    ·have Gl:(u != 0)=true:=by rw[bne,wX];rfl
     go_wp2_with (go_at_call 197;refine(bE HH _).mono ?_;rintro e w' ⟨rfl,hw⟩;obtain rfl:=hw.symm)
     go_ret;exact⟨dU (by rw[my.o,Kf (i:=i) (by rw[Ph.o,wX];rfl) aj]),hI.old⟩
    ·have Gl:(u != 0)=false:=by rw[bne,wX];rfl
     cases mn:(t==0)
     ·have Dc:(t != 0)=true:=by rw[bne,mn];rfl
      go_wp2_with (go_at_call 197;refine(bE HH _).mono ?_;rintro e w' ⟨rfl,hw⟩;obtain rfl:=hw.symm)
      go_ret;exact⟨dU (by rw[my.o,Kf (i:=i) (by rw[Ph.o,wX,mn];rfl) aj]),hI.old⟩
     ·have Dc:(t != 0)=false:=by rw[bne,mn];rfl
      go_wp2_with (go_at_call 197;refine(bE HH _).mono ?_;rintro e w' ⟨rfl,hw⟩;obtain rfl:=hw.symm)
      go_roundw
      case rel=>exact⟨i+1,oQ,by go_num,hI,by rw[Hid,qg,HA.o,Ph.o,wX,mn];rfl⟩
      case measure=>simp[intOf];omega
   ·have fW:i<n:=by
     refine zBu fun dX=>?_
     rw[zvo (Yr hmP (Yt dQ dX))]at hb;exact absurd hb dQ
    rw[hb]at p6 vz;rw[YH rfl]at vz;have De:=zl5 p s d n zs g cg M G i wr (HK.o.below HK.o.kh HK.o.eV HK.o.mlt hI.old) fW;rw[<-vz]at De;have HH:=ae p6;have qa:=ae De;have HI:=ae hI;have ug:=hI.st;have HGI:=ae ug;clear p6 vz hb De hI ug;cases hr:xm zs d G i
    ·rw[hr]at qa;go_wp2_with (first
      |(go_at_call 197;refine(bE HH _).mono ?_;rintro e w' ⟨rfl,hw⟩;obtain rfl:=hw.symm)
      |(refine zao rfl _ rfl w.heap.size rfl G HGI.out ?_)
      |(go_at_call 198;refine qa.out.mono ?_;rintro e w2 ⟨rfl,aS⟩))
     go_ret;exact⟨dU (by rw[my.o,Kf (i:=i) hr aj]),(HI.o.below aS).old⟩
    ·rw[hr]at qa;go_wp2_with (first
      |(go_at_call 197;refine(bE HH _).mono ?_;rintro e w' ⟨rfl,hw⟩;obtain rfl:=hw.symm)
      |(refine zao rfl _ rfl w.heap.size rfl G HGI.out ?_)
      |(go_at_call 198;refine qa.out.mono ?_;rintro e w2 ⟨rfl,aS⟩))
     go_roundw
     case rel=>exact⟨i+1,oQ,by go_num,HI.o.below aS,by rw[Hid,qg,HA.o,hr];rfl⟩
     case measure=>simp[intOf];omega
  ·have fW:i=8:=oQ;subst fW;go_wp2
   go_ret;exact⟨dU (by rw[my.o,HA.o]),hI.old⟩
def xo(zs:List Int)(m i:Nat):Nat->Bool
 | 0=>false
 |k+1=>xo zs m i k||(m.testBit k&&(k != i&&(rt zs i&&&rt zs k != 0)))
theorem zaq(zs:List Int)(m i n:Nat):xo zs m i n=true↔∃ k,k<n/\m.testBit k=true/\k≠i/\rt zs i&&&rt zs k≠0:=by
 induction n with
 |zero=>simp[xo]
 |succ n ih=>
  unfold xo;rw[zr5,ih];simp only[X6,zsD];constructor
  ·rintro(⟨k,h1,h2⟩|⟨h1,h2,h3⟩)
   ·exact⟨k,oQ,h2⟩
   ·exact⟨n,oQ,h1,h2,h3⟩
  ·rintro⟨k,h1,h2,h3,h4⟩;by_cases e:k=n
   ·subst e;exact .inr ⟨h2,h3,h4⟩
   ·exact .inl ⟨k,oQ,h2,h3,h4⟩
def vA(G:GS):St:=⟨G.set.toNat,fun k=>(G.used k).toNat,G.idle⟩
theorem zl7{d:Int}(av:cw s zs d=(0,-1))(hi:i<zs.length)(hm:m<2^zs.length):(m&&&eC zs i==0)=!xo zs m i zs.length:=by
 rw[X7,YB,zAt,<-zAs,zaq];constructor
 ·rintro h0 ⟨k,hk,h1,h2,h3⟩;have:=YC (fun x=>x.testBit k) h0;simp only[zsx,zuc,h1,Bool.true_and]at this;have h4:=(Pd av i k hi hk).2 ⟨fun e=>h2 e.symm,h3⟩;exact absurd (h4.symm.trans this) dQ
 ·intro h;apply zss;intro k;rw[zsx,zuc];by_cases hk:k<zs.length
  ·cases h1:m.testBit k
   ·rfl
   ·cases h2:(eC zs i).testBit k
    ·rfl
    ·obtain⟨a1,a2⟩:=(Pd av i k hi hk).1 h2;exact absurd ⟨k,hk,h1,fun e=>a1 e.symm,a2⟩ h
  ·rw[zvo (Yr hm (Yt dQ oQ))];rfl
theorem wrap_zero(x:Nat)(h:x<18446744073709551616):(IntKind.i64.wrap (x:Int)==0)=(x==0):=by
 rw[X7,YB,YB];simp[IntKind.wrap,IntKind.bits,IntKind.signed];omega
theorem zl8(u:Int)(r:Nat)(h:r<9223372036854775808):(bits .andNot .i64 u (r:Int)==0)=(wo (u64 u) r==0):=by
 show(IntKind.i64.wrap (((zsN 64 _ &&& ~~~ zsN 64 _).toNat:Nat):Int)==0)=_;rw[Vz,ofInt64,ofInt64,nN r h];exact wrap_zero _ (Jy _ (ziv u))
def Kh(U r:Nat):Nat->Bool:=qg fun k=>!U.testBit k||r.testBit k
theorem Pj{u:Int}(h1:-9223372036854775808<=u)(h2:u<9223372036854775808)(hr:r<2^sn)(hs:sn<=12):(wo (u64 u) r==0)=((decide (0<=u)&&decide (u<((2^sn:Nat):Int)))&&Kh u.toNat r sn):=by
 have hp:2^sn<=2^12:=Yt dQ hs;rw[X7,YB];simp only[X6,zsE];constructor
 ·intro h;have bn:u64 u<=r:=by
   rw[CI]at h;have e:u64 u&&&r=u64 u:=by
    apply zss;intro j;rw[zsx];cases hj:(u64 u).testBit j
    ·rfl
    ·rw[h j hj];rfl
   rw[<-e];exact zsr
  have hu:0<=u:=by unfold u64 at bn;omega
  have he:u64 u=u.toNat:=by unfold u64;omega
  rw[he]at bn h;refine⟨⟨hu,oQ⟩,?_⟩;rw[CI]at h;unfold Kh;have:∀ n,qg (fun k=>!(u.toNat).testBit k||r.testBit k) n=true:=by
   intro n;induction n with
   |zero=>rfl
   |succ n ih=>
    unfold qg;rw[ih];cases hb:(u.toNat).testBit n
    ·rfl
    ·rw[h n hb];rfl
  exact this sn
 ·rintro⟨⟨hu,hl⟩,ha⟩;have he:u64 u=u.toNat:=by unfold u64;omega
  rw[he,CI];intro k hk;by_cases jn:k<sn
  ·have:=Pe ha jn;rw[hk]at this;simpa using this
  ·rw[zvo (show u.toNat<2^k from Yr oQ (Yt (n:=2) dQ (show sn<=k by omega)))]at hk;exact absurd hk dQ
theorem zl9{G:GS}(av:cw (sn:Int) zs (d:Int)=(0,-1))(hi:i<zs.length)(hz:G.set=(m:Int))(hm:m<2^zs.length)(h1:-9223372036854775808<=G.used i)(h2:G.used i<9223372036854775808):
  yM (rt zs i) (eC zs i) d G i=((((!xo zs m i zs.length)&&((decide (0<=G.used i)&&decide (G.used i<((2^sn:Nat):Int)))&&Kh (G.used i).toNat (rt zs i) sn))&&lC (G.idle i) 0 1000) && !(G.used i==0&&decide ((d:Int)<G.idle i))):=by
 have hr:=oO av;unfold jY at hr;simp only[X6,mj]at hr;obtain⟨_,gI,jm,_⟩:=CR av hi;rw[zr7]at gI;have hp:2^zs.length<=2^8:=Yt dQ oQ;have cB:eC zs i<2^zs.length:=Ju zs i zs.length;unfold yM;rw[hz,wP m _ oQ oQ,eI,zl7 av hi hm,zl8 _ _ oQ,Pj h1 h2 gI oQ];generalize xo zs m i zs.length=a;generalize((decide (0<=G.used i)&&decide (G.used i<((2^sn:Nat):Int)))&&Kh (G.used i).toNat (rt zs i) sn)=b;generalize G.idle i=t;cases hu:(G.used i==0)
 ·rw[YG dQ];unfold lC;cases a<;>cases b<;>simp
 ·rw[YH rfl];unfold lC;have e:(decide (0<=t)&&decide (t<=(d:Int)))=((decide (0<=t)&&decide (t<=1000)) && !decide ((d:Int)<t)):=by
   rw[X7];simp;omega
  cases a<;>cases b<;>simp;rw[X7];simp;omega
structure GIn(G:GS):Prop where
 set:-9223372036854775808<=G.set/\G.set<9223372036854775808
 used:∀ k,-9223372036854775808<=G.used k/\G.used k<9223372036854775808
 idle:∀ k,-9223372036854775808<=G.idle k/\G.idle k<9223372036854775808
theorem zma{G G':GS}(h0:G.set=G'.set)(h:∀ k,k<8->G.used k=G'.used k/\G.idle k=G'.idle k):kF G=kF G':=by
 unfold kF;rw[h0,(h 0 dQ).1,(h 1 dQ).1,(h 2 dQ).1,(h 3 dQ).1,(h 4 dQ).1,(h 5 dQ).1,(h 6 dQ).1,(h 7 dQ).1,
  (h 0 dQ).2,(h 1 dQ).2,(h 2 dQ).2,(h 3 dQ).2,(h 4 dQ).2,(h 5 dQ).2,(h 6 dQ).2,(h 7 dQ).2]
theorem zmb{G:GS}(av:cw (sn:Int) zs (d:Int)=(0,-1))(hi:i<zs.length)(hz:G.set=(m:Int))(hm:m<2^zs.length)(h1:-9223372036854775808<=G.used i)(h2:G.used i<9223372036854775808):
  yM (rt zs i) (eC zs i) d G i=true↔xo zs m i zs.length=false/\0<=G.used i/\wo (G.used i).toNat (rt zs i)=0/\(0<=G.idle i/\G.idle i<=1000)/\(G.used i=0->G.idle i<=(d:Int)):=by
 have hr:=oO av;unfold jY at hr;simp only[X6,mj]at hr;obtain⟨_,gI,jm,_⟩:=CR av hi;rw[zr7]at gI;rw[zl9 av hi hz hm h1 h2,<-Pj h1 h2 gI oQ];simp only[X6,zAt,mj,YB,Bool.and_eq_false_iff,decide_eq_false_iff_not,beq_eq_false_iff_ne];constructor
 ·rintro⟨⟨⟨a,b⟩,c⟩,e⟩;have hs:=Pj h1 h2 gI oQ;rw[b]at hs;simp only[beq_self_eq_true]at hs;have tY:=hs.symm;simp only[X6,zsE]at tY;have hu:u64 (G.used i)=(G.used i).toNat:=by unfold u64;omega
  rw[hu]at b;refine⟨a,tY.1.1,b,c,fun h0=>?_⟩;rcases e with e|e
  ·exact absurd h0 e
  ·omega
 ·rintro⟨a,h0,b,c,e⟩;have hu:u64 (G.used i)=(G.used i).toNat:=by unfold u64;omega
  refine⟨⟨⟨a,by rw[hu];exact b⟩,c⟩,?_⟩;by_cases h:G.used i=0
  ·right;have:=e h;omega
  ·left;exact h
theorem zmc{G:GS}(av:cw (sn:Int) zs (d:Int)=(0,-1))(hn:zs.length=n)(hg:GIn G)(h8:∀ k,8<=k->G.used k=0/\G.idle k=0)(hR:xn zs d G=true):kF G=aB (vA G)/\Good (rt zs) n 1000 (vA G):=by
 have hr:=oO av;unfold jY at hr;simp only[X6,mj]at hr;unfold xn at hR;simp only[X6,zsE]at hR;obtain⟨⟨h1,h2⟩,h3⟩:=hR;obtain⟨m,hm⟩:=zr6 h1;have aK:m<2^zs.length:=oQ;have hp:2^zs.length<=2^8:=Yt dQ oQ;have Pl:(vA G).set=m:=by show G.set.toNat=m;rw[hm];rfl
 have zar:u64 G.set=m:=by rw[hm,nN m oQ]
 have sO:∀ k,m.testBit k=true->k<zs.length/\(xo zs m k zs.length=false/\0<=G.used k/\wo (G.used k).toNat (rt zs k)=0/\(0<=G.idle k/\G.idle k<=1000)/\(G.used k=0->G.idle k<=(d:Int))):=by
  intro k hk;have hkz:k<zs.length:=by
   refine zBu fun dX=>?_
   rw[zvo (Yr aK (Yt dQ dX))]at hk;exact absurd hk dQ
  have:=Pe h3 (show k<8 by omega);unfold xm at this;rw[zar,hk,YH rfl]at this;exact⟨hkz,(zmb av hkz hm aK (hg.used k).1 (hg.used k).2).1 this⟩
 have xU:∀ k,m.testBit k=false->G.used k=0/\G.idle k=0:=by
  intro k hk;by_cases Gs:k<8
  ·have:=Pe h3 Gs;unfold xm at this;rw[zar,hk,YG dQ]at this;simpa using this
  ·exact h8 k oQ
 refine⟨?_,?_,?_,?_,?_,?_⟩
 ·rw[<-zl4];refine zma ?_ fun k hk=>⟨?_,rfl⟩
  ·show G.set=((G.set.toNat:Nat):Int);omega
  ·show G.used k=(((G.used k).toNat:Nat):Int);cases hb:m.testBit k
   ·rw[(xU k hb).1];rfl
   ·have:=(sO k hb).2.2.1;omega
 ·rw[Pl,<-hn];exact aK
 ·intro i k hi hk hik h4 h5;rw[Pl]at h4 h5;have:=(sO i h4).2.1;by_cases h0:rt zs i&&&rt zs k=0
  ·exact h0
  ·have:=(zaq zs m i zs.length).2 ⟨k,oQ,h5,fun e=>hik e.symm,h0⟩;rw[(sO i h4).2.1]at this;exact absurd this dQ
 ·intro k _;show wo (G.used k).toNat (rt zs k)=0;cases hb:m.testBit k
  ·rw[(xU k hb).1];simp[wo]
  ·exact(sO k hb).2.2.2.1
 ·intro k hk;have hb:m.testBit k=false:=by
   rcases hk with hk|hk
   ·exact zvo (Yr aK (Yt dQ oQ))
   ·rw[Pl]at hk;exact hk
  exact⟨by show(G.used k).toNat=0;rw[(xU k hb).1];rfl,(xU k hb).2⟩
 ·intro k;show 0<=G.idle k/\G.idle k<=1000;cases hb:m.testBit k
  ·rw[(xU k hb).2];omega
  ·exact(sO k hb).2.2.2.2.1
end Go.Proofs.YtaablbmgagiajabGreatDoor
