import Derived.Test.YtaablbmgagiajabGreatDoorZGAJ
set_option maxHeartbeats 2000000
set_option maxRecDepth 20000
open Go.RowKit renaming Below->YO
open Go.RowKit.Below renaming refl->YS
open Bool renaming noConfusion->zAr
open Go renaming Calls->YR,Value->YN,World->YM
open Int renaming le_refl->ZC
open Go.Value renaming ownBlock->ZF,pointer->zB3
open Go.World renaming cell?_of_block->Ze,ownsRow_nil->zuU
namespace Go.Proofs.YtaablbmgagiajabGreatDoor
open Go.Proofs.Tryz
open Go.RowKit Go.Deep
variable{i p:Nat}{l:List Int}{rp:Nat->Nat}{w':YM}
theorem znI(h:∀ x∈l,0<=x/\x<=1048576)(k:Nat):0<=bF l k/\bF l k<=1048576:=by
 unfold bF;cases e:l[k]? with
 |none=>show(0:Int)<=0/\(0:Int)<=1048576;omega
 |some x=>exact h x (List.mem_of_getElem? e)
theorem znJ(h:∀ x∈l,0<=x/\x<=1048576)(k:Nat):0<=dZ l k/\dZ l k<=1048576:=by
 have a:=znI h;unfold dZ;split
 ·unfold mW;repeat' split
  all_goals first |exact a _|omega
 ·split
  ·unfold ie;repeat' split
   all_goals first |exact a _|omega
  ·split
   ·unfold oP;repeat' split
    all_goals first |exact a _|omega
   ·unfold df;repeat' split
    all_goals first |exact a _|omega
theorem znK{F:FR}(h:gy F=true)(k:Nat)(hk:k<23):0<=F k/\F k<=1048576:=by
 obtain⟨_,h2,h3⟩:=zav h;rw[h3 k hk];exact znJ h2 k
theorem znL{l:List Nat}(h:(aP l).1=0):GU (aP l).2:=by
 rcases zmx l with ⟨h1,_⟩|⟨_,h2,_⟩
 ·exact absurd h h1
 ·intro k hk;have:=znK h2 k hk;omega
section
variable {w:YM}{N win:Nat}{D:SC}{L:RC}{S:SY}
theorem aL.za7(h:aL w N D L win S){g n cap:Nat}(fo:D.nv=.slice (some (aQ g 0)) n cap)(hi:i<S.aq.length):w.rangeAt g (i*3) [iQ ((gU S.aq i).src:Int),iQ ((gU S.aq i).dst:Int),D.us[i]?.getD undef]:=by
 intro j v hv;have hj:j<3:=(Ye.1 hv).1;rcases h.aq.row.2 with ⟨e,_⟩|⟨g',eu,bA,e,h1,h2,h3,h4,h5,h6⟩
 ·rw[fo]at e;simp at e
 ·rw[fo]at e;simp only[Value.slice.injEq,YA,Addr.mk.injEq,zsB]at e;obtain⟨rfl,_,rfl⟩:=e;have e2:=PE S.aq D.us i j h.aq.len hi hj;rw[ay h2,<-X5];rw[<-h6,zse,YH oQ]at e2;rw[e2];exact hv
end
theorem za8:(prog.info? 134).map (·.size)=some 3:=kQ
theorem znM(L:RC)(F:FR)(R:RS):∀ G∈gh L F R,G 1=(R.id:Int):=by
 intro G hG;unfold gh at hG;split at hG
 ·unfold rr at hG;split at hG
  ·simp at hG
  ·split at hG
   ·rw[zsm.1 hG];show((iN L F R).id:Int)=_;unfold iN;split
    ·rfl
    ·split<;>rfl
   ·simp at hG
 ·split at hG
  ·simp at hG
  ·split at hG
   ·rw[zsm.1 hG];rfl
   ·simp at hG
theorem znN(L:RC)(F:FR)(R:RS):(gh L F R).length<=1:=by
 unfold gh;split
 ·unfold rr;split
  ·simp
  ·split<;>simp
 ·split
  ·simp
  ·split<;>simp
theorem Dl.keeps{w:YM}{N win:Nat}{D:SC}{L:RC}{S:SY}(h:Dl w w' N D L win S){k:Nat}(hk:¬Wr D k)(aj:k<w.1.size):w'.1[k]?=w.1[k]?:=by
 obtain⟨_,_,_,hm,_⟩:=h;exact hm.block k aj hk
theorem aL.za9{w:YM}{N win:Nat}{D:SC}{L:RC}{S:SY}(h:aL w N D L win S):∃ a cap,w.cell? (aQ D.p 7)=some (.slice a S.aq.length cap):=by
 obtain⟨a,cap,fo⟩:=h.aq.shape;exact⟨a,cap,(h.at 7).trans (by show some D.nv=_;rw[fo])⟩
def KD(L:RC)(W:Seen)(liar:Nat)(S:SY):Prop:=∀ k,k<3->k≠liar->∀ n:Nat,(S.rp k).cycle<=n->tK W k n (cW L.s (S.rp k).sx) (cW L.n (S.rp k).sy)
structure fU(L:RC)(W:Seen)(liar win T:Nat)(S:SY):Prop where
 inv:bu L W liar win T S
 seen:KD L W liar S
section
variable {L:RC}{W:Seen}{liar win T n k:Nat}{S:SY}
theorem znO(F:FR)(R:RS):(fj L F R).sx=R.sx/\(fj L F R).sy=R.sy:=by
 unfold fj;split
 ·unfold iN;split
  ·exact⟨rfl,rfl⟩
  ·split<;>exact⟨rfl,rfl⟩
 ·split
  ·exact⟨rfl,rfl⟩
  ·split
   ·exact⟨rfl,rfl⟩
   ·split
    ·exact⟨rfl,rfl⟩
    ·split
     ·unfold tz;split<;>exact⟨rfl,rfl⟩
     ·exact⟨rfl,rfl⟩
theorem KD.Dt(h:KD L W liar S)(i:Nat):KD L W liar (fS L win i S):=by
 intro k hk hl n hn;have key:(S.rp k).cycle<=((fS L win i S).rp k).cycle/\((fS L win i S).rp k).sx=(S.rp k).sx/\((fS L win i S).rp k).sy=(S.rp k).sy:=by
  unfold fS kj;split
  ·exact⟨ZC _,rfl,rfl⟩
  ·split
   ·exact⟨ZC _,rfl,rfl⟩
   ·show(S.rp k).cycle<=(upd S.rp _ _ k).cycle/\(upd S.rp _ _ k).sx=_/\(upd S.rp _ _ k).sy=_;by_cases e:k=(gU S.aq i).dst
    ·rw[<-e,upd_same];exact⟨P0 _ _,znO _ _⟩
    ·rw[cR _ _ e];exact⟨ZC _,rfl,rfl⟩
 rw[key.2.1,key.2.2];exact h k hk hl n (Int.le_trans key.1 hn)
theorem fU.eL(hL:eA L):∀(m:Nat)(S:SY),fU L W liar win T S->fU L W liar win T (eL L win m S)
 | 0,_,h=>h
 |m+1,S,h=>by
  cases pz:S.aq with
  |nil=>rw[P2 pz];exact h
  |cons p l=>exact fU.eL hL m _ ⟨(h.inv.Dt hL (by rw[pz];simp)).1,h.seen.Dt 0⟩
theorem fU.tick(h:fU L W liar win T S)(hk:k<3):fU L W liar win (T+1) (qi L k S):=by
 obtain⟨n,c1,_⟩:=(h.inv.rp k hk).lL;refine⟨h.inv.tick hk c1 fun hl=>h.seen k hk hl n oQ,fun j hj hl n hn=>?_⟩;have key:((qi L k S).rp j).cycle=(S.rp j).cycle/\((qi L k S).rp j).sx=(S.rp j).sx/\((qi L k S).rp j).sy=(S.rp j).sy:=by
  show(upd S.rp k _ j).cycle=_/\(upd S.rp k _ j).sx=_/\(upd S.rp k _ j).sy=_;by_cases e:j=k
  ·subst e;rw[upd_same];exact⟨rfl,rfl,rfl⟩
  ·rw[cR _ _ e];exact⟨rfl,rfl,rfl⟩
 rw[key.2.1,key.2.2];exact h.seen j hj hl n (by rw[key.1]at hn;exact hn)
theorem fU.KB(h:fU L W liar win T S):fU L W liar win T (xq S):=⟨h.inv.KB,h.seen⟩
def tP(L:RC)(S:SY):Nat->SY
 | 0=>S
 |k+1=>qi L k (tP L S k)
end
theorem aL.Bh{w:YM}{N win:Nat}{D:SC}{L:RC}{S:SY}(h:aL w N D L win S):w.cell? (aQ D.p 6)=some (pQ D.vp):=(h.at 6).trans rfl
section
variable {W:Seen}{liar T:Nat}
theorem znP(N:Nat)(D:SC)(L:RC)(win:Nat)(S:SY)(w:YM)(h:aL w N D L win S):
  YR prog 30 #[pQ D.p] w fun e w'=>e=.returned (iQ (S.aq.length:Int))/\w'=w:=by
 obtain⟨a,cap,c7⟩:=h.za9;clear h;go_enter func30,ntmps30;go_wp2
 go_ret;exact⟨rfl,rfl⟩
theorem KE{k:Nat}(hk:k<3):cV (k:Int)=true:=by unfold cV;simp;omega
end
theorem zba{P:Program}{f:Func}{tmps:Array YN}{w:YM}{a b k:Tmp}{t:TypeId}{ad:Addr}{v:YN}(hf:f.results=#[.tmp a,.cell b t,.tmp k])(hb:tmps.getD b undef=.pointer (some ad))(hl:(loadVar t ad).run P w=.ok v w):
  (results f tmps).run P w=.ok (.tuple #[tmps.getD a undef,v,tmps.getD k undef]) w:=by
 have gH:tmps[b]?.getD undef=.pointer (some ad):=by simpa using hb
 simp only[results,hf];simp[asAddr,gH,hl]
theorem znQ(N:Nat)(D:SC)(L:RC)(win:Nat)(S:SY)(w:YM)(k:Nat)(hk:k<3)(h:aL w N D L win S):
  YR prog 20 #[pQ D.p,iQ (k:Int)] w (bQ (.tuple #[iQ (S.rp k).cycle,.agg (aB (S.rp k).st),.nilIface]) w):=by
 obtain⟨W,hW⟩:∃ W,Hid (w.alloc (.cells (aB dK) 34)=W):=eQ;have aC:YO w.1.size w W:=by rw[<-hW.o];exact(YS _ _).alloc lQ _
 have aJ:ck W w.1.size dK:=by rw[<-hW.o];exact aU _ _
 have HR:=ae (xy (k:Int) W);rw[KE hk]at HR;have dB:(k:Int)<3:=oQ;have hS:=h.below aC;have cA:Hid (∀ wx,YO W.1.size W wx->wx.cell? (aQ D.p (3+k))=some (.pointer (some (aQ (D.rp k) 0)))/\∃ Y,ck wx w.1.size Y):=ae fun wx hx=>⟨(hS.below hx).Dp hk,dK,(hx.block _ (bp aJ)).trans aJ⟩
 have G6:Hid (YR prog 53 #[.pointer (some (aQ (D.rp k) 0))] W.drew fun e w'=>e=.returned (iQ (S.rp k).cycle)/\w'=W.drew):=ae (zlt (D.rp k) (D.C k) (S.rp k) W.drew (hS.drew.rp k hk));have HC2:Hid (YR prog 54 #[.pointer (some (aQ (D.rp k) 0))] W.drew fun e w'=>e=.returned (.agg (aB (S.rp k).st))/\YO W.1.size W w'/\ck w' w.1.size dK):=ae (by
  refine(zlu (D.rp k) (D.C k) (S.rp k) W.drew (hS.drew.rp k hk)).mono ?_;rintro e w2 ⟨rfl,hB⟩;have aS:YO W.1.size W w2:=(YS _ _).drew.trans hB;exact⟨rfl,aS,(aS.block _ (bp aJ)).trans aJ⟩)
 have iE:=ae aC;obtain⟨cy,qN⟩:∃ cy,Hid ((S.rp k).cycle=cy):=eQ;obtain⟨X,hX⟩:∃ X,Hid ((S.rp k).st=X):=eQ;rw[qN.o]at G6⊢;rw[hX.o]at HC2⊢;have bm:w.1.size<W.1.size:=bp aJ;have HNE:=ae (Nat.ne_of_lt hS.lt);have znR:w.1.size≠D.p:=by have:=h.lt;omega
 clear h hS aJ aC qN hX;go_enter func20,ntmps20;go_wp2_with fail
 rw[show w.alloc (.cells #[iQ 0,iQ 0,iQ 0,iQ 0,iQ 0,iQ 0,iQ 0,iQ 0,iQ 0,iQ 0,iQ 0,iQ 0,iQ 0,iQ 0,iQ 0,iQ 0,iQ 0] 34)=W from hW.o];refine HR.o.mono ?_;rintro e wz ⟨rfl,rfl⟩;clear hW;go_wp2_with fail
 refine wp_region_held_drew (S:=fun w'=>w'.cell? (aQ D.p (3+k))=some (.pointer (some (aQ (D.rp k) 0)))/\∃ Y,ck w' w.1.size Y) kQ (cA.o _ (YS _ _).drew) (fun af=>?_);refine ai 0 (pQ D.p) af ?_;refine ai 1 (iQ (k:Int)) af ?_;refine ai 2 (pQ D.p) af ?_;refine ai 3 (.pointer (some (aQ D.p 3))) af ?_;refine ai 4 (.pointer (some (aQ D.p (3+k)))) af ?_;refine ai 5 (.pointer (some (aQ (D.rp k) 0))) af ?_ (hy:=Or.inl ⟨rQ,fun w h=>by obtain⟨h1,_⟩:=h;go_simp⟩);refine ai 7 (pQ D.p) af ?_;refine ai 8 (iQ (k:Int)) af ?_;refine ai 9 (pQ D.p) af ?_;refine ai 10 (.pointer (some (aQ D.p 3))) af ?_;refine ai 11 (.pointer (some (aQ D.p (3+k)))) af ?_;refine ai 12 (.pointer (some (aQ (D.rp k) 0))) af ?_ (hy:=Or.inl ⟨rQ,fun w h=>by obtain⟨h1,_⟩:=h;go_simp⟩);refine aR 6 fun K hK=>?_
 go_simp;go_at_call 53;refine G6.o.mono ?_;rintro e w5 ⟨rfl,rfl⟩;dsimp only;refine hK.o _ _ (cA.o _ (YS _ _).drew) (fun af=>?_);clear hK K;refine aR 13 fun K hK=>?_
 go_simp;go_at_call 54;refine HC2.o.mono ?_;rintro e w6 ⟨rfl,gA,yE⟩;dsimp only;refine hK.o _ _ (cA.o _ gA) (fun af=>?_);clear hK K;refine ai 14 (iQ cy) af ?_;refine aR 15 fun K hK=>?_
 refine wp_store_row _ _ _ rfl _ _ rfl rfl _ _ yE (by rw[iM];rfl) rfl (sV X) ?_;refine hK.o _ _ ⟨(Ze (w:=w6) (yB _ _ _ _ (fun e=>znR e.symm))).trans (cA.o _ gA).1,X,sW yE X⟩ (fun af=>?_);clear hK K;simp only[Act.put];refine ai 16 (.nilIface) af ?_;refine wpAnyH_done kQ ?_ _;have cZ:=ae (sW yE X);have nS:=ae (sX (iE.o.trans (gA.mono oQ)) (Yp w.1.size) (aB X));clear af yE gA;generalize w6.setRow w.1.size (aB X)=w7 at cZ nS⊢;go_wp2
 exact bodyPost_ret (zba rfl rfl (O3 cZ.o)) rfl ⟨rfl,nS.o⟩
theorem znS(N:Nat)(tv:YN)(l:List Cm)(w:YM)(h:j8 w N tv l)(hl:l.length<=1000):
  YR prog 86 #[tv] w fun e w'=>(∃ v,e=.returned v/\j8 w' w.1.size v l)/\YO w.1.size w w':=by
 rcases h.2 with ⟨rfl,h0⟩|⟨g,cap,bA,rfl,h1,h2,h3,h4,h5,h6⟩
 ·have e:l=[]:=zsh.1 h0;subst e;clear h h0;have hq:∀ wx:YM,(binOp .eql 28 (.slice none 0 0) (.slice none 0 0)).run prog wx=.ok (.bool true) wx:=fun wx=>kQ
  go_enter func86,ntmps86;go_wp2
  go_ret;exact⟨⟨_,rfl,zuU _ _ _ _⟩,YS _ _⟩
 ·obtain⟨i0,hi,cQ,bf,bK⟩:=info_parts zaB;have HI:=ae hi;have fN:=ae cQ;have gP:=ae bf;have gQ:=ae bK;have HT:=ae h6;have HG:=ae h2;have yA:=bp h2;have hq:∀ wx:YM,(binOp .eql 28 (.slice (some (aQ g 0)) l.length cap) (.slice none 0 0)).run prog wx=.ok (.bool false) wx:=fun wx=>Lib.run_eql_slice_nil wx _ _ _ _ _ _ _ underlying28
  clear hi cQ bf bK h h6 h2 h5 h4;go_enter func86,ntmps86;go_wp2_with (at_builtin;refine wpList_append_own _ rfl _ _ 28 rfl w.1.size 49 i0 (.agg #[iQ 0,iQ 0,iQ 0]) 3 24 underlying28 HI.o fN.o gP.o gQ.o rfl dQ _ _ _ rfl (World.ownsRow_made w #[] 0 lQ (by unfold maxLen;omega) rfl) (aQ g 0) l.length cap (kV l) rfl (VR l) ?c1 ?c2 ?c3 ?c4 ?c5 ?_)
  case c1=>
   intro j u hj;have kq:j<l.length*3:=by
    have:=(Ye.1 hj).1;rw[VR]at this;exact this
   have e:((aQ g 0):Addr).add j=(aQ g j):=by unfold Addr.add;split<;>simp_all
   rw[e,World.cell?_alloc_past _ _ _ yA,ay HG.o,<-X5];have:=HT.o;rw[<-this,zse,YH kq]at hj;exact hj
  case c2=>exact zjt l
  case c3=>unfold maxLen;omega
  case c4=>omega
  case c5=>simp
  intro v' w1 bC bL _;have hold:YO w.1.size w w1:=((YS _ _).alloc lQ _).grown bL sQ (fun j hj=>by
   have:w.1.size=j:=by simpa[ZF]using hj
   omega)
  have ht:j8 w1 w.1.size v' l:=by
   unfold j8;simpa using bC
  have HT1:=ae ht;have zA:=ae hold;clear ht hold bC bL;go_wp2
  go_ret;exact⟨⟨_,rfl,HT1.o⟩,zA.o⟩
theorem znT(N p win:Nat)(tv:YN)(S:VS)(w:YM)(h:bM w N p win tv S)(av:dS win S):
  YR prog 42 #[pQ p] w fun e w'=>(∃ v,e=.returned v/\j8 w' w.1.size v S.tr)/\YO w.1.size w w':=by
 have c0:w.cell? (aQ p 0)=some tv:=(h.at 0).trans rfl;have HC:=ae (znS N tv S.tr w h.row av.few);clear h av;go_enter func42,ntmps42;go_wp2_with (go_at_call 86;refine HC.o.mono ?_;rintro e w' ⟨⟨v,rfl,ht⟩,hB⟩)
 go_ret;exact⟨⟨_,rfl,ht⟩,hB⟩
theorem znU(N:Nat)(D:SC)(L:RC)(win:Nat)(S:SY)(w:YM)(h:aL w N D L win S)(av:dS win S.v):
  YR prog 13 #[pQ D.p] w fun e w'=>(∃ v,e=.returned v/\j8 w' w.1.size v S.v.tr)/\YO w.1.size w w':=by
 have c6:=h.Bh;have HC:=ae (znT N D.vp win D.tv S.v w h.vt av);clear h av;go_enter func13,ntmps13;go_wp2_with fail
 refine HC.o.mono ?_;rintro e w2 ⟨⟨v,rfl,ht⟩,hB⟩;go_wp2
 go_ret;exact⟨⟨v,rfl,ht⟩,hB⟩
theorem znV(N:Nat)(D:SC)(L:RC)(win:Nat)(S:SY)(w:YM)(h:aL w N D L win S):
  YR prog 14 #[pQ D.p] w fun e w'=>e=.returned (.bool S.v.dh)/\w'=w:=by
 have c6:=h.Bh;have HC:=ae (zmB N D.vp win D.tv S.v w h.vt);clear h;go_enter func14,ntmps14;go_wp2_with fail
 refine HC.o.mono ?_;rintro e w2 ⟨rfl,rfl⟩;go_wp2
 go_ret;exact⟨rfl,rfl⟩
theorem znW(N:Nat)(D:SC)(L:RC)(win:Nat)(S:SY)(w:YM)(h:aL w N D L win S):
  YR prog 17 #[pQ D.p] w fun e w'=>e=.returned (iQ (S.v.out:Int))/\w'=w:=by
 have c6:=h.Bh;have HC:=ae (zmC N D.vp win D.tv S.v w h.vt);clear h;go_enter func17,ntmps17;go_wp2_with fail
 refine HC.o.mono ?_;rintro e w2 ⟨rfl,rfl⟩;go_wp2
 go_ret;exact⟨rfl,rfl⟩
theorem znX(N:Nat)(D:SC)(L:RC)(win:Nat)(S:SY)(w:YM)(h:aL w N D L win S)(av:dS win S.v):
  YR prog 15 #[pQ D.p] w (bQ (iQ (oV S.v)) w):=by
 have c6:=h.Bh;have HC:=ae (zmD N D.vp win D.tv S.v w h.vt av);clear h av;go_enter func15,ntmps15;go_wp2_with fail
 refine HC.o.mono ?_;rintro e w2 ⟨rfl,hB⟩;go_wp2
 go_ret;exact⟨rfl,hB⟩
def xz(L:RC)(g0 c0:Nat)(r:Nat->YN)(v nv lo:YN):Array YN:=#[iQ (L.s:Int),.slice (some (aQ g0 0)) L.n c0,iQ (L.d:Int),r 0,r 1,r 2,v,nv,lo]
theorem znY(L:RC)(g0 c0:Nat)(r:Nat->YN)(v nv lo u:YN){k:Nat}(hk:k<3):(xz L g0 c0 r v nv lo).setIfInBounds (3+k) u=xz L g0 c0 (upd r k u) v nv lo:=by
 rcases(by omega:k=0\/k=1\/k=2)with rfl|rfl|rfl<;>rfl
theorem znZ(L:RC)(g0 c0:Nat)(r:Nat->YN)(v nv lo:YN){k:Nat}(hk:k<3):(xz L g0 c0 r v nv lo)[3+k]?=some (r k):=by
 rcases(by omega:k=0\/k=1\/k=2)with rfl|rfl|rfl<;>rfl
def KF(B q:Nat)(C:RC):Prop:=B<=q/\B<=C.pc/\B<=C.g/\B<=C.M/\B<=C.g2
theorem P5(p g0 c0:Nat)(L:RC)(r:Nat->YN)(v nv lo:YN)(k:Nat)(w:YM)(hk:k<3)(hL:eA L)(hb:w.1[p]?=some (.cells (xz L g0 c0 r v nv lo) 90 (0,0)))(bV:Row w g0 0 L.zs)(aj:g0<w.1.size)(fw:L.n<=c0):
  YR prog 38 #[pQ p,iQ (k:Int)] w fun e w'=>e=.returned .nilIface/\∃ q C,KF w.1.size q C/\rG C L/\aF w' q C (pk k)/\w'.1[p]?=some (.cells (xz L g0 c0 (upd r k (pQ q)) v nv lo) 90 (0,0))/\Mod w w' (· = p):=by
 have c0':w.cell? (aQ p 0)=some (iQ (L.s:Int)):=(ay hb 0).trans rfl;have c1:w.cell? (aQ p 1)=some (.slice (some (aQ g0 0)) L.n c0):=(ay hb 1).trans rfl;have c2:w.cell? (aQ p 2)=some (iQ (L.d:Int)):=(ay hb 2).trans rfl;have dB:(k:Int)<3:=oQ;have bJ:=bp hb;have iT:YR prog 80 #[iQ (k:Int),.agg #[iQ (L.s:Int),.slice (some (aQ g0 0)) L.n c0,iQ (L.d:Int)]] w fun e w1=>∃ q C,e=.returned (.tuple #[pQ q,.nilIface])/\(w1.cell? (aQ p (3+k))=some (r k)/\w1.frozen? (aQ p (3+k))=false)/\
   Hid (KF w.1.size q C/\rG C L/\aF (w1.setCell (aQ p (3+k)) (pQ q)) q C (pk k)/\(w1.setCell (aQ p (3+k)) (pQ q)).1[p]?=some (.cells (xz L g0 c0 (upd r k (pQ q)) v nv lo) 90 (0,0))/\Mod w (w1.setCell (aQ p (3+k)) (pQ q)) (· = p)):=by
  refine(zmn k L.s L.d g0 0 L.n c0 L.zs w hk hL.len hL.ok aj bV fw).mono ?_;rintro e w1 ⟨⟨q,C,q1,q2,q3,q4,q5,e1,e2,e3,e4,rfl,hR⟩,hB⟩;have aX:=(hB.block p bJ).trans hb;have hm:Mod w1 (w1.setCell (aQ p (3+k)) (pQ q)) (· = p):=(Mod.refl _ _).set _ _ (fun _=>rfl);refine⟨q,C,rfl,⟨(ay aX _).trans (znZ L g0 c0 r v nv lo hk),fL aX _⟩,ae ⟨⟨q1,q2,q3,q4,q5⟩,⟨e1,e2,e3,e4⟩,hR.other hm ⟨oQ,oQ,oQ,oQ,oQ⟩,?_,(Mod.fB hB _).set _ _ (fun _=>rfl)⟩⟩;rw[fZ aX,znY _ _ _ _ _ _ _ _ hk]
 have HC:=ae iT;clear iT hb bV hL;go_enter func38,ntmps38;go_wp2_with fail
 refine HC.o.mono ?_;rintro e w1 ⟨q,C,rfl,⟨z0,z1⟩,HM⟩;go_wp2
 go_ret;exact⟨rfl,q,C,HM.o⟩
theorem zn0(D:SC)(L:RC):Bd D L=xz L D.g0 D.c0 (fun j=>.pointer (some (aQ (D.rp j) 0))) (pQ D.vp) D.nv (iQ D.lost):=rfl
theorem zn1(rp:Nat->Nat)(k q:Nat):upd (fun j=>zB3 (some (aQ (rp j) 0))) k (pQ q)=fun j=>.pointer (some (aQ (upd rp k q j) 0)):=by
 funext j
 unfold upd;split<;>rfl
def ko(win:Nat):SY:=⟨fun k=>pk k,yw win,[]⟩
structure ql(w wr:YM)(L:RC)(p g0 c0 k:Nat)(rp:Nat->Nat)(C:Nat->RC)(B:Nat->Nat):Prop where
 old:YO w.1.size w wr
 blk:wr.1[p]?=some (.cells (xz L g0 c0 (fun j=>if j<k then .pointer (some (aQ (rp j) 0))else .pointer none) (.pointer none) (.slice none 0 0) (iQ 0)) 90 (0,0))
 row:Row wr g0 0 L.zs
 G7:w.1.size<=g0/\g0<p
 cap:L.n<=c0
 rp:∀ j,j<k->aF wr (rp j) (C j) (pk j)/\rG (C j) L/\KF (B j) (rp j) (C j)/\(rp j<B (j+1)/\(C j).pc<B (j+1)/\(C j).g<B (j+1)/\(C j).M<B (j+1)/\(C j).g2<B (j+1))
 B0:p<B 0
 Bk:B k<=wr.1.size
 mono:∀ j,j<k->B j<=B (j+1)
theorem ql.xA{w wr:YM}{L:RC}{g0 c0 k:Nat}{C:Nat->RC}{B:Nat->Nat}(h:ql w wr L p g0 c0 k rp C B):∀{j:Nat},i<=j->j<=k->B i<=B j
 | 0,uJ,_=>by rw[show i=0 by omega];exact Yp _
 |j+1,uJ,hj=>by
  by_cases e:i=j+1
  ·rw[e];exact Yp _
  ·exact Yq (h.xA (j:=j) oQ oQ) (h.mono j oQ)
theorem ql.next{w wr:YM}{L:RC}{g0 c0 k:Nat}{C:Nat->RC}{B:Nat->Nat}(h:ql w wr L p g0 c0 k rp C B)(hw:w.1.size<=p){q:Nat}{C1:RC}(hF:KF wr.1.size q C1)(hl:rG C1 L)(hR:aF w' q C1 (pk k))
  (hb:w'.1[p]?=some (.cells (xz L g0 c0 (upd (fun j=>if j<k then .pointer (some (aQ (rp j) 0))else .pointer none) k (pQ q)) (.pointer none) (.slice none 0 0) (iQ 0)) 90 (0,0))) (hm:Mod wr w' (· = p)):
  ql w w' L p g0 c0 (k+1) (upd rp k q) (upd C k C1) (upd (upd B k wr.1.size) (k+1) w'.1.size):=by
 have bJ:=bp h.blk;have hBk:=h.Bk;have aC:=h.B0;have hg:=h.G7;have zn2:∀ j,j<=k->B j<=wr.1.size:=fun j hj=>Yq (h.xA hj lQ) hBk
 have Bi:∀ j,j<=k->p<B j:=fun j hj=>Yr aC (h.xA (Yw _) hj)
 have Bj:∀ j,j<k->upd (upd B k wr.1.size) (k+1) w'.1.size j=B j:=fun j hj=>by rw[cR _ _ oQ,cR _ _ oQ]
 have G8:upd (upd B k wr.1.size) (k+1) w'.1.size k=wr.1.size:=by rw[cR _ _ oQ,upd_same]
 have P6:upd (upd B k wr.1.size) (k+1) w'.1.size (k+1)=w'.1.size:=upd_same _ _ _;have vS:(fun j=>if j<k+1 then zB3 (some (aQ (upd rp k q j) 0))else .pointer none)=upd (fun j=>if j<k then .pointer (some (aQ (rp j) 0))else .pointer none) k (pQ q):=by
  funext j
  unfold upd;by_cases e:j=k
  ·rw[YH e,YH e,YH oQ]
  ·rw[YG e,YG e];show(if j<k+1 then _ else _)=(if j<k then _ else _);by_cases e2:j<k
   ·rw[YH e2,YH oQ]
   ·rw[YG e2,YG oQ]
 refine⟨⟨hm.os.trans h.old.os,hm.tape.trans h.old.tape,hm.output.trans h.old.output,Yq h.old.size hm.size,fun j hj=>(hm.block j (Yr hj h.old.size) oQ).trans (h.old.block j hj)⟩,by rw[vS];exact hb,fun i hi=>(Ze (w:=wr) (hm.block g0 oQ oQ)).trans (h.row i hi),h.G7,h.cap,fun j hj=>?_,?_,by rw[P6];exact Yp _,fun j hj=>?_⟩
 ·by_cases e:j=k
  ·subst e;rw[upd_same,upd_same,G8,P6];exact⟨hR,hl,hF,hR.lt,hR.core.kh,hR.core.eV,hR.core.mlt,hR.nV⟩
  ·obtain⟨a1,a2,a3,a4,a5,a6,a7,a8⟩:=h.rp j oQ;rw[cR _ _ e,cR _ _ e,Bj j oQ];have hj1:B (j+1)<=upd (upd B k wr.1.size) (k+1) w'.1.size (j+1):=by
    by_cases e2:j+1=k
    ·rw[e2,G8];exact hBk
    ·rw[Bj _ oQ];exact Yp _
   have hp:=Bi j oQ;obtain⟨b1,b2,b3,b4,b5⟩:=a3;exact⟨a1.other hm ⟨oQ,oQ,oQ,oQ,oQ⟩,a2,⟨b1,b2,b3,b4,b5⟩,oQ,oQ,oQ,oQ,oQ⟩
 ·by_cases e:k=0
  ·subst e;rw[G8];omega
  ·rw[Bj 0 oQ];exact aC
 ·by_cases e:j=k
  ·subst e;rw[G8,P6];exact hm.size
  ·rw[Bj j oQ];by_cases e2:j+1=k
   ·rw[e2,G8];exact zn2 j oQ
   ·rw[Bj _ oQ];exact h.mono j oQ
theorem ql.done{w wr:YM}{L:RC}{g0 c0 win vp:Nat}{C:Nat->RC}{B:Nat->Nat}(h:ql w wr L p g0 c0 3 rp C B)(hw:w.1.size<=p)(hB:YO wr.1.size wr w')(hvp:vp=wr.1.size)(hV:bM w' wr.1.size vp win (.slice none 0 0) (yw win))(N:Nat)(hN:N<=w.1.size):
  aL (w'.setCell (aQ p 6) (pQ vp)) N ⟨p,g0,c0,rp,C,vp,.slice none 0 0,.slice none 0 0,[],0⟩ L win (ko win)/\YO w.1.size w (w'.setCell (aQ p 6) (pQ vp)):=by
 have bJ:=bp h.blk;have hm:Mod w' (w'.setCell (aQ p 6) (pQ vp)) (· = p):=(Mod.refl _ _).set _ _ (fun _=>rfl);have aX:=(hB.block p bJ).trans h.blk;have hg:=h.G7;have aC:=h.B0;have Bi:∀ j,j<=3->p<B j:=fun j hj=>Yr aC (h.xA (Yw _) hj)
 have iz:∀ j,j<=3->B j<=wr.1.size:=fun j hj=>Yq (h.xA hj lQ) h.Bk
 have ku:∀ j,j<3->aF wr (rp j) (C j) (pk j):=fun j hj=>(h.rp j hj).1
 refine⟨⟨?_,fun i hi=>(Ze (w:=w') (hm.block g0 (Nat.lt_of_lt_of_le oQ hB.size) oQ)).trans (h.row.below (B:=wr.1.size) oQ hB i hi),by rw[show(w'.setCell (aQ p 6) (pQ vp)).1.size=w'.1.size by simp[World.setCell]];exact Nat.lt_of_lt_of_le (show g0<wr.1.size by omega) hB.size,h.cap,fun k hk=>?_,fun k hk=>(h.rp k hk).2.1,fun i j hi hj uJ=>?_,?_,⟨zuU _ _ _ _,rfl,fun i hi=>by simp[ko]at hi⟩,fun x y hx hy e=>?_,fun x hx=>?_,fun y hy=>?_⟩,?_⟩
 ·rw[fZ aX];rfl
 ·obtain⟨a1,_,⟨b1,b2,b3,b4,b5⟩,_⟩:=h.rp k hk;have hp:=Bi k oQ;exact(a1.below hB).other hm ⟨oQ,oQ,oQ,oQ,oQ⟩
 ·obtain⟨_,_,⟨b1,_⟩,u1,_⟩:=h.rp i hi;obtain⟨_,_,⟨c1,_⟩,v1,_⟩:=h.rp j hj;show rp i≠rp j;rcases(by omega:i<j\/j<i)with e|e
  ·have:=h.xA (i:=i+1) (j:=j) oQ oQ;omega
  ·have:=h.xA (i:=j+1) (j:=i) oQ oQ;omega
 ·refine⟨?_,zuU _ _ _ _,by show N<=vp;omega⟩;exact(hm.block vp hV.lt oQ).trans hV.blk
 ·have uj:x=p\/(∃ j,j<3/\x=rp j)\/x=vp:=by
   rcases hx with z|z|z|z|z
   ·exact .inl z
   ·simp[ZF]at z
   ·exact .inr (.inl z)
   ·exact .inr (.inr z)
   ·simp[ZF]at z
  rcases uj with rfl|⟨j,hj,rfl⟩|rfl
  ·rcases hy with hy|⟨i,hi,hy⟩
   ·have xL:y=g0:=hy;omega
   ·obtain⟨_,_,⟨b1,b2,b3,b4,b5⟩,_⟩:=h.rp i hi;have hp:=Bi i oQ;have xL:y=(C i).pc\/y=(C i).g\/y=(C i).M\/y=(C i).g2:=hy;omega
  ·obtain⟨a1,_,⟨b1,_⟩,u1,_⟩:=h.rp j hj;have hp:=Bi j oQ;rcases hy with hy|⟨i,hi,hy⟩
   ·have xL:y=g0:=hy;omega
   ·obtain⟨_,_,⟨d1,d2,d3,d4,d5⟩,f1,f2,f3,f4,f5⟩:=h.rp i hi;have xL:y=(C i).pc\/y=(C i).g\/y=(C i).M\/y=(C i).g2:=hy;rcases(by omega:i=j\/i<j\/j<i)with rfl|e2|e2
    ·have:=a1.ap;omega
    ·have:=h.xA (i:=i+1) (j:=j) oQ oQ;omega
    ·have:=h.xA (i:=j+1) (j:=i) oQ oQ;omega
  ·rcases hy with hy|⟨i,hi,hy⟩
   ·have xL:y=g0:=hy;omega
   ·obtain⟨_,_,_,f1,f2,f3,f4,f5⟩:=h.rp i hi;have:=iz (i+1) oQ;have xL:y=(C i).pc\/y=(C i).g\/y=(C i).M\/y=(C i).g2:=hy;omega
 ·rcases hx with z|z|⟨j,hj,z⟩|z|z
  ·have z':x=p:=z;omega
  ·simp[ZF]at z
  ·obtain⟨_,_,⟨b1,_⟩,_⟩:=h.rp j hj;have hp:=Bi j oQ;have z':x=rp j:=z;omega
  ·have z':x=vp:=z;omega
  ·simp[ZF]at z
 ·rcases hy with hy|⟨i,hi,hy⟩
  ·have xL:y=g0:=hy;omega
  ·obtain⟨_,_,⟨b1,b2,b3,b4,b5⟩,_⟩:=h.rp i hi;have hp:=Bi i oQ;have xL:y=(C i).pc\/y=(C i).g\/y=(C i).M\/y=(C i).g2:=hy;omega
 ·exact(h.old.trans (hB.mono h.old.size)).setCell hw _
structure Sg where
 who:Nat
 lL:Int
 on:Bool
 x:Int
 y:Int
structure TS where
 S:SY
 fx:Nat->Int
 fy:Nat->Int
 seen:List Sg
section
variable {L:RC}{W:Seen}{liar win T n k:Nat}{S:SY}{A B:TS}
theorem bu.new(h1:1<=win)(h2:win<=20):bu L W liar win T (ko win):=
 ⟨fun _ _=>dF.new,dS.new h1 h2,fun i hi=>absurd hi (Nat.not_lt_zero _),fun _ _ _ hb=>zAr hb,fun k _ _=>by show(0:Nat).testBit k=false;simp,fun _ _ _ hb=>zAr hb,fun _ _=>rfl,Yw _,fun p hp=>absurd hp (Yo)⟩
end
abbrev WT:Seen:=fun _ _ _ _=>True
end Go.Proofs.YtaablbmgagiajabGreatDoor
