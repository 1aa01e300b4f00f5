import Derived.Test.YtaablbmgagiajabGreatDoorZGAU
set_option maxHeartbeats 4000000
set_option maxRecDepth 20000
open Go.Act renaming put->Zk
open Go.Addr.mk renaming injEq->zts
open Go.AllReadyH renaming cons->zt3,nil->zwA
open Go.RowKit renaming Below->YO,wrap64->Zs
open Go.RowKit.Below renaming heap_setCell->Zb,refl->YS
open Go renaming Calls->YR,KeepsFrom->zvV,Value->YN,World->YM,callsIn_wide->zul,leaves_cons->zuW,undef->YY,wpAnyH_done->Y7,wpAnyH_take->Y5,wp_region_held_drew->Zh,wp_store_row->Z2
open Go.CallsIn renaming inRound->zya
open Go.Instr renaming makeFunc->zvi
open Go.IntWalk renaming wrap64_in->zuw
open Go.Lib renaming itoa->Zu,trimSuffix->ztO
open List renaming getElem_cons_succ->Z4,getElem_cons_zero->ZP,getElem_toArray->ZQ,setIfInBounds_toArray->ZR,set_cons_succ->ZT,set_cons_zero->ZU
open Nat renaming add_comm->zuD,lt_trans->zvn,not_lt_zero->zxc
open Option renaming getD_some->zxj,isSome_some->zzo
open Or renaming inl->Zj
open Subtype renaming val->zwe
open Go.Value renaming ownBlock->ZF
open Go.World renaming alloc_heap_new->zwh,block_lt_of_cell?->ztA,cell?->Z9,cell?_of_block->Ze,frozen?_of_block->zs0,setCell->Zz,size_alloc->zxu
open Go.Proofs renaming enters_of->ZV
namespace Go.Proofs.YtaablbmgagiajabGreatDoor
open Go.Proofs.Tryz
open Go.RowKit Go.Deep
variable{M T' cap k m n p win:Nat}{V w':YM}{a d s z:Int}{e:Ending}{t:List UInt8}{zs:List Int}
variable {N:Nat}{c:kp}{D:SC}{X:DS}
theorem zqc{op:Option DS}(h:bY V N c D X)(hd:nu V.drew w' N D X op e):
  (∀(a:Addr)(v:YN),V.cell? a=some v->¬Wr D a.block->w'.cell? a=some v)/\((e=.returned .nilIface/\∃ X',op=some X'/\Hid (iG V w' c D X'))\/(op=none/\e=.returned (.iface 74 (iQ 2))/\Hid (iG V w' c D X/\fC w'))):=by
 have hB:YO V.1.size V V.drew:=(YS _ _).drew;have key:Mod V w' (Wr D)->∀(a:Addr)(v:YN),V.cell? a=some v->¬Wr D a.block->w'.cell? a=some v:=fun hm a v hv hn=>(Ze (w:=V) (a:=a) (hm.block _ (ztA V _ hv) hn)).trans hv
 rcases hd with ⟨rfl,S',c',ho,hg⟩|⟨ho,rfl,hb⟩
 ·have fI:=hg.pre hB;obtain⟨D',hp,hs,hm,xN,hc⟩:=fI;exact⟨key hm,.inl ⟨rfl,_,ho,ae (h.went (hg.pre hB))⟩⟩
 ·have gH:YO V.1.size V w':=hB.trans hb;exact⟨key (Mod.fB gH _),.inr ⟨ho,rfl,ae ⟨h.stays gH,(h.below gH).err⟩⟩⟩
theorem zqd(V:YM)(M n cap:Nat)(z x y:Int)(op:Option DS)(h:bY V N c D X)(hn:2<n)(hz:V.cell? (aQ M 0)=some (iQ z))(hx:V.cell? (aQ M 1)=some (iQ x))(hy:V.cell? (aQ M 2)=some (iQ y))(hM:¬Wr D M)
  (hC:∀ W,bY W N c D X->YR prog 18 #[pQ D.p,iQ z,.agg #[iQ x,iQ y]] W fun e W'=>nu W W' N D X op e):
  YR prog 154 #[pQ c.d,.slice (some (aQ M 0)) n cap] V fun e V'=>zo V V' c D X op [115,101,101] e:=by
 have c3:=h.dk.c3;have eB:V.drew.cell? (aQ c.d 3)=some (pQ D.p)/\V.drew.cell? (aQ M 0)=some (iQ z)/\V.drew.cell? (aQ M 1)=some (iQ x)/\V.drew.cell? (aQ M 2)=some (iQ y):=by simpa using⟨c3,hz,hx,hy⟩
 have jT:¬Wr D c.d:=fun hw=>(h.ne hw).1 rfl
 have HC:Hid (YR prog 18 #[pQ D.p,iQ z,.agg #[iQ x,iQ y]] V.drew fun e w'=>(w'.cell? (aQ c.d 3)=some (pQ D.p)/\w'.cell? (aQ M 0)=some (iQ z)/\w'.cell? (aQ M 1)=some (iQ x)/\w'.cell? (aQ M 2)=some (iQ y))/\((e=.returned .nilIface/\∃ X',op=some X'/\Hid (iG V w' c D X'))\/(op=none/\e=.returned (.iface 74 (iQ 2))/\Hid (iG V w' c D X/\fC w')))):=ae ((hC V.drew (h.below (YS _ _).drew)).mono fun e w' hd=>by
  obtain⟨k,h2⟩:=zqc h hd;exact⟨⟨k _ _ c3 jT,k _ _ hz hM,k _ _ hx hM,k _ _ hy hM⟩,h2⟩)
 have CO:(0:Int)<(n:Int):=oQ;have kR:(1:Int)<(n:Int):=oQ;have mS:(2:Int)<(n:Int):=oQ;have bW:0<n:=oQ;have zL:1<n:=oQ;clear h hz hx hy hC c3 jT;go_enter func154,ntmps154;go_wp2_with fail
 refine Zh (S:=fun Y=>Y.cell? (aQ c.d 3)=some (pQ D.p)/\Y.cell? (aQ M 0)=some (iQ z)/\Y.cell? (aQ M 1)=some (iQ x)/\Y.cell? (aQ M 2)=some (iQ y)) kQ eB (fun af=>?_);refine ai 0 (pQ c.d) af ?_;refine ai 1 (pQ c.d) af ?_;refine ai 2 (.pointer (some (aQ c.d 3))) af ?_;refine ai 3 (pQ D.p) af ?_;refine ai 4 (.slice (some (aQ M 0)) n cap) af ?_;refine ai 5 (pQ M) af ?_;refine ai 6 (iQ z) af ?_;refine ai 7 (.slice (some (aQ M 0)) n cap) af ?_;refine ai 8 (.pointer (some (aQ M 1))) af ?_;refine ai 9 (iQ x) af ?_;refine ai 10 (.slice (some (aQ M 0)) n cap) af ?_;refine ai 11 (.pointer (some (aQ M 2))) af ?_;refine ai 12 (iQ y) af ?_;refine ai 13 (.agg #[iQ x,iQ y]) af ?_;refine aR 14 fun K hK=>?_
 go_simp;go_at_call 18;refine HC.o.mono ?_;rintro e w1 ⟨cm,⟨rfl,X',qp,HA⟩|⟨hop,rfl,HA⟩⟩
 ·dsimp only;refine hK.o _ _ cm (fun af=>?_);clear hK K;refine aR 15 fun K hK=>?_
  go_simp;go_at_call 159;refine(qX _).mono ?_;rintro e w2 ⟨rfl,rfl⟩;dsimp only;refine hK.o _ _ cm (fun af=>?_);clear hK K;refine Y7 kQ ?_ _;go_wp2
  go_ret;exact .inl ⟨X',qp,rfl,HA.o⟩
 ·dsimp only;refine hK.o _ _ cm (fun af=>?_);clear hK K;refine aR 15 fun K hK=>?_
  go_simp;go_at_call 159;refine(zq _ HA.o.2).mono ?_;rintro e w2 ⟨rfl,aS⟩;unfold thrown;dsimp only;exact⟨rfl,.inr ⟨hop,rfl,HA.o.1.below aS⟩⟩
theorem zqe{W:Seen}{liar T:Nat}(V:YM)(M n cap q:Nat)(h:bY V N c D X)(hn:0<n)(hz:V.cell? (aQ M 0)=some (iQ (q:Int)))(hM:¬Wr D M)(hq:q<=100)(hI:fU X.L W liar X.win T X.S)(hT:T+6*q<7000000):
  YR prog 144 #[pQ c.d,.slice (some (aQ M 0)) n cap] V fun e V'=>e=.returned (.string (txt [99,97,108,109]))/\∃ S' c',qo X.L X.win q X.S X.c S' c'/\fU X.L W liar X.win (T+6*q) S'/\iG V V' c D ⟨X.L,X.win,S',c'⟩:=by
 have c3:=h.dk.c3;have eB:V.drew.cell? (aQ c.d 3)=some (pQ D.p)/\V.drew.cell? (aQ M 0)=some (iQ (q:Int)):=by simpa using⟨c3,hz⟩
 have jT:¬Wr D c.d:=fun hw=>(h.ne hw).1 rfl
 have HC:Hid (YR prog 16 #[pQ D.p,iQ (q:Int)] V.drew fun e w'=>e=.returned (.tuple #[])/\(w'.cell? (aQ c.d 3)=some (pQ D.p)/\w'.cell? (aQ M 0)=some (iQ (q:Int)))/\Hid (∃ S' c',qo X.L X.win q X.S X.c S' c'/\fU X.L W liar X.win (T+6*q) S'/\iG V w' c D ⟨X.L,X.win,S',c'⟩)):=ae (by
  have hB:YO V.1.size V V.drew:=(YS _ _).drew;refine(zpD N D X.L X.win X.S V.drew q (h.below hB).dk.sys hI h.eE hT oQ h.dk.le X.c h.cnt).mono ?_;rintro e w' ⟨rfl,S',c',h1,h2,hg⟩;have fI:=hg.pre hB;have hA:=h.went fI;obtain⟨D',hp,hs,hm,xN,hc⟩:=fI;exact⟨rfl,⟨(Ze (w:=V) (a:=(aQ c.d 3)) (hm.block _ (ztA V _ c3) jT)).trans c3,(Ze (w:=V) (a:=(aQ M 0)) (hm.block _ (ztA V _ hz) hM)).trans hz⟩,ae ⟨S',c',h1,h2,hA⟩⟩)
 have gv:(0:Int)<(n:Int):=oQ;have t1:decide ((q:Int)<0)=false:=YD oQ;have t2:decide (100<(q:Int))=false:=YD oQ;have t3:¬(q:Int)<0:=oQ;have t4:¬ 100<(q:Int):=oQ;have t5:¬ 100<q:=oQ;clear h hI hT hq c3 jT;go_enter func144,ntmps144;go_wp2_with fail
 refine Zh (S:=fun Y=>Y.cell? (aQ c.d 3)=some (pQ D.p)/\Y.cell? (aQ M 0)=some (iQ (q:Int))) kQ eB (fun af=>?_);refine ai 0 (pQ c.d) af ?_;refine ai 1 (pQ c.d) af ?_;refine ai 2 (.pointer (some (aQ c.d 3))) af ?_;refine ai 3 (pQ D.p) af ?_;refine ai 4 (.slice (some (aQ M 0)) n cap) af ?_;refine ai 5 (pQ M) af ?_;refine ai 6 (iQ (q:Int)) af ?_;refine aR 7 fun K hK=>?_
 go_simp;go_at_call 16;refine HC.o.mono ?_;rintro e w1 ⟨rfl,cm,HA⟩;dsimp only;refine hK.o _ _ cm (fun af=>?_);clear hK K;refine Y7 kQ ?_ _;go_wp2
 go_ret;exact⟨rfl,HA.o⟩
theorem zqf(V:YM)(d M n cap:Nat)(z:Int)(hn:0<n)(hz:V.cell? (aQ M 0)=some (iQ z))(hb:z<0\/100<z):
  YR prog 144 #[pQ d,.slice (some (aQ M 0)) n cap] V fun e V'=>e=thrown 2/\V'=V:=by
 have gv:(0:Int)<(n:Int):=oQ;by_cases h0:z<0
 ·have t1:decide (z<0)=true:=YE h0;clear hb;go_enter func144,ntmps144;go_wp2
  exact⟨rfl,rfl,rfl⟩
 ·have h1:100<z:=oQ;have t1:decide (z<0)=false:=YD h0;have t2:decide (100<z)=true:=YE h1;clear hb;go_enter func144,ntmps144;go_wp2
  exact⟨rfl,rfl,rfl⟩
variable {N:Nat}{c:kp}{D:SC}{X:DS}
theorem ck.bF{w:YM}{q:Nat}{Z:St}(h:ck w q Z):w.cell? (aQ q 0)=some (iQ (Z.set:Int)):=(ay h 0).trans rfl
theorem zqg(p:Nat)(z:Int)(w:YM)(hz:cV z=false):
  YR prog 20 #[pQ p,iQ z] w (bQ (.tuple #[iQ 0,.agg (aB dK),.iface 74 (iQ 2)]) w):=by
 obtain⟨W,hW⟩:∃ W,Hid (w.alloc (.cells (aB dK) 34)=W):=eQ;have aC:YO w.1.size w W:=by rw[<-hW.o];exact(YS _ _).alloc lQ _
 have aJ:ck W w.1.size dK:=by rw[<-hW.o];exact aU _ _
 have HR:=ae (xy z W);rw[hz]at HR;have iE:=ae aC;have fR:=ae aJ;clear aJ aC;go_enter func20,ntmps20;go_wp2_with fail
 rw[show w.alloc (.cells #[iQ 0,iQ 0,iQ 0,iQ 0,iQ 0,iQ 0,iQ 0,iQ 0,iQ 0,iQ 0,iQ 0,iQ 0,iQ 0,iQ 0,iQ 0,iQ 0,iQ 0] 34)=W from hW.o];refine HR.o.mono ?_;rintro e wz ⟨rfl,rfl⟩;clear hW;go_wp2_with (refine XQ rfl _ _ rfl w.1.size dK dK rfl rfl fR.o ?_)
 intro w7 HF;go_wp2
 exact bodyPost_ret (zba rfl rfl (O3 HF.o.1)) rfl ⟨rfl,iE.o.trans (HF.o.2.2 w.1.size lQ)⟩
theorem zqh(V:YM)(M n cap:Nat)(z cy:Int)(Z:St)(qN:dc cy)(hZ:dc (Z.set:Int))(h:bY V N c D X)(hn:0<n)(hz:V.cell? (aQ M 0)=some (iQ z))
  (hC:∀ W,bY W N c D X->YR prog 20 #[pQ D.p,iQ z] W fun e W'=>e=.returned (.tuple #[iQ cy,.agg (aB Z),.nilIface])/\YO W.1.size W W'):
  YR prog 153 #[pQ c.d,.slice (some (aQ M 0)) n cap] V fun e V'=>e=.returned (.string (txt (fY [cy,(Z.set:Int)])))/\YO V.1.size V V':=by
 obtain⟨ev,dG⟩:∃ ev:YN,Hid (.nilIface=ev):=eQ;rw[dG.o]at hC;have cA:Hid (∀ Y,YO V.1.size V Y->Y.cell? (aQ c.d 3)=some (pQ D.p)/\Y.cell? (aQ M 0)=some (iQ z)):=ae fun Y hY=>⟨(h.below hY).dk.c3,(hY.cell (p:=(aQ M 0)) (ztA V _ hz)).trans hz⟩
 have HC:Hid (∀ Y,YO V.1.size V Y->YR prog 20 #[pQ D.p,iQ z] Y fun e w'=>e=.returned (.tuple #[iQ cy,.agg (aB Z),ev])/\Hid (YO V.1.size V w'/\YO Y.1.size Y w')):=ae fun Y hY=>(hC Y (h.below hY)).mono fun e w' hh=>⟨hh.1,ae ⟨hY.trans (hh.2.mono hY.size),hh.2⟩⟩
 have HN:Hid (∀ Y,YO V.1.size V Y->ml Y/\fC Y):=ae fun Y hY=>⟨(h.below hY).dk.num.pow,(h.below hY).err⟩
 have cZ:Hid (∀ Y,YO V.1.size V Y->iG V Y c D X):=ae fun Y hY=>h.stays hY
 have gv:(0:Int)<(n:Int):=oQ;clear h hz hC;go_enter func153,ntmps153;go_wp2_with fail
 go_cut [5,6,7]from 8 to 19 (fun s5 s6 s7 wc=>∃ b,s6=pQ b/\s5=iQ cy/\s7=ev/\ck wc b Z/\YO V.1.size V wc)
 case first=>
  refine Zh (S:=fun Y=>Y.cell? (aQ c.d 3)=some (pQ D.p)/\Y.cell? (aQ M 0)=some (iQ z)) kQ (cA.o _ (YS _ _).drew) (fun af=>?_);refine ai 0 (pQ c.d) af ?_;refine ai 1 (pQ c.d) af ?_;refine ai 2 (.pointer (some (aQ c.d 3))) af ?_;refine ai 3 (pQ D.p) af ?_;refine ai 4 (.slice (some (aQ M 0)) n cap) af ?_;refine ai 5 (pQ M) af ?_;refine ai 6 (iQ z) af ?_;refine wpAnyH_ready (rs:=[7,12]) kQ sQ ?_;refine zt3 (o:=_) rfl (fun K hK=>?_) (zt3 (o:=_) rfl (fun K hK=>?_) zwA)
  ·rw[YH rQ];go_simp;go_at_call 20;refine(HC.o _ (YS _ _).drew).mono ?_;rintro e w5 ⟨rfl,gS⟩;dsimp only;refine hK.o _ _ (cA.o _ gS.o.1) (fun af=>?_);clear hK K;refine ai 8 (.tuple #[iQ cy,.agg (aB Z),ev]) af ?_;refine ai 9 (iQ cy) af ?_;refine ai 10 (.agg (aB Z)) af ?_;refine ai 11 (ev) af ?_;refine aR 12 fun K hK=>?_
   go_simp;have jJ:YO V.1.size V (w5.alloc (.cells (aB dK) 34)):=gS.o.1.alloc gS.o.1.size _;have kK:ck (w5.alloc (.cells (aB dK) 34)) w5.1.size dK:=aU _ _;refine hK.o _ _ (cA.o _ jJ) (fun af=>?_);clear hK K;refine aR 13 fun K hK=>?_
   go_simp;refine hK.o _ _ (cA.o _ jJ) (fun af=>?_);clear hK K;refine aR 14 fun K hK=>?_
   refine Z2 _ _ _ rfl _ (aB Z) rfl rfl _ _ kK (by rw[iM];rfl) rfl (sV Z) ?_;have BB:=sW kK Z;have oq:=sX jJ gS.o.1.size (aB Z);refine hK.o _ _ (cA.o _ oq) (fun af=>?_);clear hK K;simp only[Zk];refine aR 15 fun K hK=>?_
   go_simp;refine hK.o _ _ (cA.o _ oq) (fun af=>?_);clear hK K;refine Y7 kQ ?_ _;go_wp2_with fail
   go_meet
   exact⟨_,rfl,rfl,rfl,BB,oq⟩
  ·rw[YH rQ];go_simp;have qd:YO V.1.size V (V.drew.alloc (.cells (aB dK) 34)):=(YS V.1.size V).drew.alloc (Yp V.1.size) _;have pG:ck (V.drew.alloc (.cells (aB dK) 34)) V.1.size dK:=aU V.drew _;refine hK.o _ _ (cA.o _ qd) (fun af=>?_);clear hK K;refine aR 7 fun K hK=>?_
   go_simp;go_at_call 20;refine(HC.o _ qd).mono ?_;rintro e w6 ⟨rfl,mq⟩;dsimp only;have kK:ck w6 V.1.size dK:=(mq.o.2.block _ pG.lt).trans pG;refine hK.o _ _ (cA.o _ mq.o.1) (fun af=>?_);clear hK K;refine ai 8 (.tuple #[iQ cy,.agg (aB Z),ev]) af ?_;refine ai 9 (iQ cy) af ?_;refine ai 10 (.agg (aB Z)) af ?_;refine ai 11 (ev) af ?_;refine aR 13 fun K hK=>?_
   go_simp;refine hK.o _ _ (cA.o _ mq.o.1) (fun af=>?_);clear hK K;refine aR 14 fun K hK=>?_
   refine Z2 _ _ _ rfl _ (aB Z) rfl rfl _ _ kK (by rw[iM];rfl) rfl (sV Z) ?_;have BB:=sW kK Z;have oq:=sX mq.o.1 lQ (aB Z);refine hK.o _ _ (cA.o _ oq) (fun af=>?_);clear hK K;simp only[Zk];refine aR 15 fun K hK=>?_
   go_simp;refine hK.o _ _ (cA.o _ oq) (fun af=>?_);clear hK K;refine Y7 kQ ?_ _;go_wp2_with fail
   go_meet
   exact⟨_,rfl,rfl,rfl,BB,oq⟩
 case rest=>
  obtain⟨b,rfl,rfl,rfl,bh,hb⟩:=hcut;rw[<-dG.o];clear dG;have s0:wc.cell? (aQ b 0)=some (iQ (Z.set:Int)):=bh.bF;have HB:=ae hb;have HP:Hid (YR prog 182 #[.slice (some (aQ wc.1.size 0)) 2 2] (wc.alloc (.cells #[iQ cy,iQ (Z.set:Int)] 3)) fun e w'=>e=.returned (.string (txt (fY [cy,(Z.set:Int)])))/\Hid (YO V.1.size V w')):=ae (by
   have aS:YO V.1.size V (wc.alloc (.cells #[iQ cy,iQ (Z.set:Int)] 3)):=hb.alloc hb.size _;refine(CH [cy,(Z.set:Int)] (some (aQ wc.1.size 0)) 2 2 _ (Dw wc [cy,(Z.set:Int)] 2 rfl) (by
    intro y hy;simp only[Yl,Yo,YL]at hy;rcases hy with rfl|rfl
    ·exact qN
    ·exact hZ) oQ (HN.o _ aS).1).mono ?_
   rintro e w' ⟨rfl,hB⟩;exact⟨rfl,ae (aS.trans (hB.mono aS.size))⟩)
  clear bh hb;go_wp2_with fail
  refine(qX _).mono ?_;rintro e w2 ⟨rfl,rfl⟩;go_wp2_with fail
  go_at_call 182;refine HP.o.mono ?_;rintro e w3 ⟨rfl,xB⟩;go_wp2
  go_ret;exact⟨rfl,xB.o⟩
theorem zqi(V:YM)(M n cap:Nat)(z cy:Int)(Z:St)(h:bY V N c D X)(hn:0<n)(hz:V.cell? (aQ M 0)=some (iQ z))
  (hC:∀ W,bY W N c D X->YR prog 20 #[pQ D.p,iQ z] W fun e W'=>e=.returned (.tuple #[iQ cy,.agg (aB Z),.iface 74 (iQ 2)])/\YO W.1.size W W'):
  YR prog 153 #[pQ c.d,.slice (some (aQ M 0)) n cap] V fun e V'=>e=thrown 2/\iG V V' c D X:=by
 obtain⟨ev,dG⟩:∃ ev:YN,Hid (.iface 74 (iQ 2)=ev):=eQ;rw[dG.o]at hC;have cA:Hid (∀ Y,YO V.1.size V Y->Y.cell? (aQ c.d 3)=some (pQ D.p)/\Y.cell? (aQ M 0)=some (iQ z)):=ae fun Y hY=>⟨(h.below hY).dk.c3,(hY.cell (p:=(aQ M 0)) (ztA V _ hz)).trans hz⟩
 have HC:Hid (∀ Y,YO V.1.size V Y->YR prog 20 #[pQ D.p,iQ z] Y fun e w'=>e=.returned (.tuple #[iQ cy,.agg (aB Z),ev])/\Hid (YO V.1.size V w'/\YO Y.1.size Y w')):=ae fun Y hY=>(hC Y (h.below hY)).mono fun e w' hh=>⟨hh.1,ae ⟨hY.trans (hh.2.mono hY.size),hh.2⟩⟩
 have HN:Hid (∀ Y,YO V.1.size V Y->ml Y/\fC Y):=ae fun Y hY=>⟨(h.below hY).dk.num.pow,(h.below hY).err⟩
 have cZ:Hid (∀ Y,YO V.1.size V Y->iG V Y c D X):=ae fun Y hY=>h.stays hY
 have gv:(0:Int)<(n:Int):=oQ;clear h hz hC;go_enter func153,ntmps153;go_wp2_with fail
 go_cut [5,6,7]from 8 to 19 (fun s5 s6 s7 wc=>∃ b,s6=pQ b/\s5=iQ cy/\s7=ev/\ck wc b Z/\YO V.1.size V wc)
 case first=>
  refine Zh (S:=fun Y=>Y.cell? (aQ c.d 3)=some (pQ D.p)/\Y.cell? (aQ M 0)=some (iQ z)) kQ (cA.o _ (YS _ _).drew) (fun af=>?_);refine ai 0 (pQ c.d) af ?_;refine ai 1 (pQ c.d) af ?_;refine ai 2 (.pointer (some (aQ c.d 3))) af ?_;refine ai 3 (pQ D.p) af ?_;refine ai 4 (.slice (some (aQ M 0)) n cap) af ?_;refine ai 5 (pQ M) af ?_;refine ai 6 (iQ z) af ?_;refine wpAnyH_ready (rs:=[7,12]) kQ sQ ?_;refine zt3 (o:=_) rfl (fun K hK=>?_) (zt3 (o:=_) rfl (fun K hK=>?_) zwA)
  ·rw[YH rQ];go_simp;go_at_call 20;refine(HC.o _ (YS _ _).drew).mono ?_;rintro e w5 ⟨rfl,gS⟩;dsimp only;refine hK.o _ _ (cA.o _ gS.o.1) (fun af=>?_);clear hK K;refine ai 8 (.tuple #[iQ cy,.agg (aB Z),ev]) af ?_;refine ai 9 (iQ cy) af ?_;refine ai 10 (.agg (aB Z)) af ?_;refine ai 11 (ev) af ?_;refine aR 12 fun K hK=>?_
   go_simp;have jJ:YO V.1.size V (w5.alloc (.cells (aB dK) 34)):=gS.o.1.alloc gS.o.1.size _;have kK:ck (w5.alloc (.cells (aB dK) 34)) w5.1.size dK:=aU _ _;refine hK.o _ _ (cA.o _ jJ) (fun af=>?_);clear hK K;refine aR 13 fun K hK=>?_
   go_simp;refine hK.o _ _ (cA.o _ jJ) (fun af=>?_);clear hK K;refine aR 14 fun K hK=>?_
   refine Z2 _ _ _ rfl _ (aB Z) rfl rfl _ _ kK (by rw[iM];rfl) rfl (sV Z) ?_;have BB:=sW kK Z;have oq:=sX jJ gS.o.1.size (aB Z);refine hK.o _ _ (cA.o _ oq) (fun af=>?_);clear hK K;simp only[Zk];refine aR 15 fun K hK=>?_
   go_simp;refine hK.o _ _ (cA.o _ oq) (fun af=>?_);clear hK K;refine Y7 kQ ?_ _;go_wp2_with fail
   go_meet
   exact⟨_,rfl,rfl,rfl,BB,oq⟩
  ·rw[YH rQ];go_simp;have qd:YO V.1.size V (V.drew.alloc (.cells (aB dK) 34)):=(YS V.1.size V).drew.alloc (Yp V.1.size) _;have pG:ck (V.drew.alloc (.cells (aB dK) 34)) V.1.size dK:=aU V.drew _;refine hK.o _ _ (cA.o _ qd) (fun af=>?_);clear hK K;refine aR 7 fun K hK=>?_
   go_simp;go_at_call 20;refine(HC.o _ qd).mono ?_;rintro e w6 ⟨rfl,mq⟩;dsimp only;have kK:ck w6 V.1.size dK:=(mq.o.2.block _ pG.lt).trans pG;refine hK.o _ _ (cA.o _ mq.o.1) (fun af=>?_);clear hK K;refine ai 8 (.tuple #[iQ cy,.agg (aB Z),ev]) af ?_;refine ai 9 (iQ cy) af ?_;refine ai 10 (.agg (aB Z)) af ?_;refine ai 11 (ev) af ?_;refine aR 13 fun K hK=>?_
   go_simp;refine hK.o _ _ (cA.o _ mq.o.1) (fun af=>?_);clear hK K;refine aR 14 fun K hK=>?_
   refine Z2 _ _ _ rfl _ (aB Z) rfl rfl _ _ kK (by rw[iM];rfl) rfl (sV Z) ?_;have BB:=sW kK Z;have oq:=sX mq.o.1 lQ (aB Z);refine hK.o _ _ (cA.o _ oq) (fun af=>?_);clear hK K;simp only[Zk];refine aR 15 fun K hK=>?_
   go_simp;refine hK.o _ _ (cA.o _ oq) (fun af=>?_);clear hK K;refine Y7 kQ ?_ _;go_wp2_with fail
   go_meet
   exact⟨_,rfl,rfl,rfl,BB,oq⟩
 case rest=>
  obtain⟨b,rfl,rfl,rfl,bh,hb⟩:=hcut;rw[<-dG.o];clear dG;have HB:=ae hb;clear bh hb;go_wp2_with fail
  refine(zq _ (HN.o _ HB.o).2).mono ?_;rintro e w2 ⟨rfl,aS⟩;unfold thrown;dsimp only;exact⟨rfl,rfl,cZ.o _ (HB.o.trans (aS.mono HB.o.size))⟩
theorem zqj(b off n cap:Nat)(zs:List Int)(w:YM)(hn:zs.length=n)(h0:0<n)(h8:n<=1000000)(hb:b<w.1.size)(hc:Row w b off zs):
  YR prog 64 #[.slice (some (aQ b off)) n cap] w fun e w'=>
   (∃ g cg,w.1.size<=g/\g<w'.1.size/\n<=cg/\e=.returned (.slice (some (aQ g 0)) n cg)/\Row w' g 0 zs)/\YO w.1.size w w':=by
 obtain⟨i0,hi,cQ,bf,bK⟩:=info_parts NX;have HI:=ae hi;have fN:=ae cQ;have gP:=ae bf;have gQ:=ae bK;have HC:=ae hc;clear hi cQ bf bK hc;have hq:∀ wx:YM,(binOp .eql 22 (.slice (some (aQ b off)) n cap) (.slice none 0 0)).run prog wx=.ok (.bool false) wx:=fun wx=>Lib.run_eql_slice_nil wx _ _ _ _ _ _ _ underlying22
 go_enter func64,ntmps64;go_wp2_with (at_builtin;refine wpList_append_own _ rfl _ _ 22 rfl w.1.size 3 i0 (iQ 0) 1 8 underlying22 HI.o fN.o gP.o gQ.o rfl dQ _ _ _ rfl (World.ownsRow_made w #[] 0 lQ (by unfold maxLen;omega) rfl) (aQ b off) n cap (zs.map (Value.int .i64)) rfl (by rw[Yh,hn,Nat.mul_one]) ?c1 ?c2 ?c3 ?c4 ?c5 ?_)
 case c1=>
  intro j u hj;have kq:j<zs.length:=by
   have:=(Ye.1 hj).1;simpa using this
  have e:((aQ b off):Addr).add j=(aQ b (off+j)):=by unfold Addr.add;split<;>simp_all
  rw[e,World.cell?_alloc_past _ _ _ hb,HC.o j kq];rw[zsd,Yc kq]at hj;rw[Yc kq];exact hj
 case c2=>
  intro u hu;obtain⟨z,_,rfl⟩:=Ym.1 hu;rfl
 case c3=>unfold maxLen;omega
 case c4=>omega
 case c5=>simp
 intro v' w1 bC bL _;obtain⟨g,cg,rfl,eY,cY,im⟩:∃ g cg,v'=.slice (some (aQ g 0)) n cg/\w.1.size<=g/\g<w1.1.size/\n<=cg:=by
  rcases bC.2 with ⟨_,h0⟩|⟨g,cg,bA,h0,h1,h2,h3,_⟩
  ·omega
  ·exact⟨g,cg,h0,h1,bp h2,h3⟩
 have bV:Row w1 g 0 zs:=by
  intro k hk;have:=bC.cellAt k oQ;rw[Yv,this];simp[hk]
 have hold:YO w.1.size w w1:=((YS _ _).alloc lQ _).grown bL sQ (fun j hj=>by
  have:w.1.size=j:=by simpa[ZF]using hj
  omega)
 have nR:=ae bV;have zA:=ae hold;clear bV hold bC bL;go_wp2
 go_ret;exact⟨⟨g,cg,eY,cY,im,rfl,nR.o⟩,zA.o⟩
theorem zbT(N:Nat)(L:RC)(win b off cap:Nat)(w:YM)(hL:eA L)(h1:1<=win)(h2:win<=20)(hb:b<w.1.size)(bV:Row w b off L.zs)(hN:N<=w.1.size):
  YR prog 24 #[.agg #[iQ (L.s:Int),.slice (some (aQ b off)) L.n cap,iQ (L.d:Int)],iQ (win:Int)] w fun e w'=>(∃ D,e=.returned (.tuple #[pQ D.p,.nilIface])/\w.1.size<=D.p/\aL w' N D L win (ko win)/\D.us=[]/\D.lost=0)/\YO w.1.size w w':=by
 have hf:=hL.few;obtain⟨W,hW⟩:∃ W,Hid (w.alloc (.cells #[iQ (L.s:Int),.slice (some (aQ b off)) L.n cap,iQ (L.d:Int)] 42)=W):=eQ;have aC:YO w.1.size w W:=by rw[<-hW.o];exact(YS _ _).alloc lQ _
 have aJ:W.1[w.1.size]?=some (.cells #[iQ (L.s:Int),.slice (some (aQ b off)) L.n cap,iQ (L.d:Int)] 42 (0,0)):=by rw[<-hW.o];exact aU _ _
 have HC:Hid (YR prog 64 #[.slice (some (aQ b off)) L.n cap] W fun e w1=>∃ g cg,e=.returned (.slice (some (aQ g 0)) L.n cg)/\(w1.cell? (aQ w.1.size 1)=some (.slice (some (aQ b off)) L.n cap)/\w1.frozen? (aQ w.1.size 1)=false/\w1.cell? (aQ w.1.size 0)=some (iQ (L.s:Int))/\w1.cell? (aQ w.1.size 2)=some (iQ (L.d:Int)))/\
   Hid ((w1.setCell (aQ w.1.size 1) (.slice (some (aQ g 0)) L.n cg)).1[w.1.size]?=some (.cells #[iQ (L.s:Int),.slice (some (aQ g 0)) L.n cg,iQ (L.d:Int)] 42 (0,0))/\Row (w1.setCell (aQ w.1.size 1) (.slice (some (aQ g 0)) L.n cg)) g 0 L.zs/\w.1.size<g/\g<(w1.setCell (aQ w.1.size 1) (.slice (some (aQ g 0)) L.n cg)).1.size/\L.n<=cg/\YO w.1.size w (w1.setCell (aQ w.1.size 1) (.slice (some (aQ g 0)) L.n cg)))):=ae (by
  refine(JH b off L.n cap L.zs W hL.len oQ oQ (Yr hb aC.size) (bV.below hb aC)).mono ?_;rintro e w1 ⟨⟨g,cg,g1,g2,g3,rfl,g4⟩,hB⟩;have aj:=bp aJ;have aX:=(hB.block _ aj).trans aJ;refine⟨g,cg,rfl,⟨(ay aX 1).trans rfl,fL aX 1,(ay aX 0).trans rfl,(ay aX 2).trans rfl⟩,ae ⟨(fZ aX 1 _).trans rfl,fun i hi=>(Ze (w:=w1) (Zb _ _ _ _ (by show g≠w.1.size;omega))).trans (g4 i hi),oQ,by simp[Zz];exact g2,g3,?_⟩⟩;exact(aC.trans (hB.mono aC.size)).setCell (Yp _) _)
 have x1:W.cell? (aQ w.1.size 1)=some (.slice (some (aQ b off)) L.n cap):=(ay aJ 1).trans rfl;have HL:=ae hL;clear bV aJ aC hL;go_enter func24,ntmps24;go_wp2_with fail
 rw[show w.alloc (.cells #[iQ (L.s:Int),.slice (some (aQ b off)) L.n cap,iQ (L.d:Int)] 42)=W from hW.o];refine HC.o.mono ?_;rintro e w1 ⟨g,cg,rfl,⟨z0,z1,z2,z3⟩,HM⟩;clear HC x1 hW;go_wp2_with fail
 have tX:Hid ((w1.setCell (aQ w.1.size 1) (.slice (some (aQ g 0)) L.n cg)).1.size=w1.1.size):=by rw[Hid];simp[Zz]
 generalize w1.setCell (aQ w.1.size 1) (.slice (some (aQ g 0)) L.n cg)=w2 at HM tX⊢;obtain⟨bo,gI,eY,cY,vP,aS⟩:=HM.o;have cZ:Hid (∃ rp C B,ql w (w2.alloc (.cells #[iQ (L.s:Int),.slice (some (aQ g 0)) L.n cg,iQ (L.d:Int),.pointer none,.pointer none,.pointer none,.pointer none,.slice none 0 0,iQ 0] 90)) L w1.1.size g cg 0 rp C B):=ae (by rw[<-tX.o];exact⟨fun _=>0,fun _=>L,fun _=>w2.1.size+1,aS.alloc aS.size _,aU _ _,gI.below (B:=w2.1.size) cY ((YS _ _).alloc lQ _),⟨oQ,cY⟩,vP,fun j hj=>absurd hj oQ,oQ,sQ,fun j hj=>absurd hj oQ⟩);have bm:w.1.size<=w1.1.size:=by rw[<-tX.o];exact aS.size
 clear HM bo gI vP aS z0 z1 z2 z3;go_loopw [18] (fun j wr=>∃ k:Nat,k<=3/\j=iQ k/\∃ rp C B,ql w wr L w1.1.size g cg k rp C B) (fun j _=>3-(intOf j).toNat)
 case atStart=>exact⟨0,oQ,rfl,cZ.o⟩
 case round=>
  obtain⟨k,hk,rfl,rp,C,B,hI⟩:=hrel;clear cZ;have aj:=bp hI.blk;by_cases iq:k<3
  ·have dB:(k:Int)<3:=oQ;have xE:Hid (YR prog 38 #[pQ w1.1.size,iQ (k:Int)] wr fun e w'=>e=.returned .nilIface/\Hid (∃ rp C B,ql w w' L w1.1.size g cg (k+1) rp C B)):=ae (by
    refine(P5 w1.1.size g cg L _ _ _ _ k wr iq HL.o hI.blk hI.row (by have:=hI.G7;omega) hI.cap).mono ?_;rintro e w' ⟨rfl,q,C1,hF,hl,hR,hb,hm⟩;exact⟨rfl,ae ⟨_,_,_,hI.next bm hF hl hR hb hm⟩⟩)
   clear hI;go_wp2_with fail
   refine xE.o.mono ?_;rintro e w3 ⟨rfl,HR⟩;go_wp2
   go_roundw
   case rel=>exact⟨k+1,oQ,by go_num,HR.o⟩
   case measure=>simp[intOf];omega
  ·have e3:k=3:=oQ;subst e3;have HV:Hid (YR prog 65 #[iQ (win:Int)] wr fun e w'=>e=.returned (.tuple #[pQ wr.1.size,.nilIface])/\(w'.cell? (aQ w1.1.size 6)=some (.pointer none)/\w'.frozen? (aQ w1.1.size 6)=false)/\Hid (aL (w'.setCell (aQ w1.1.size 6) (pQ wr.1.size)) N ⟨w1.1.size,g,cg,rp,C,wr.1.size,.slice none 0 0,.slice none 0 0,[],0⟩ L win (ko win)/\YO w.1.size w (w'.setCell (aQ w1.1.size 6) (pQ wr.1.size)))):=ae (by
    refine(zmF win wr h1 h2).mono ?_;rintro e w' ⟨rfl,hV,_,hB⟩;have aX:=(hB.block _ aj).trans hI.blk;exact⟨rfl,⟨(ay aX 6).trans rfl,fL aX 6⟩,ae (hI.done bm hB rfl hV N hN)⟩)
   clear hI;go_wp2_with fail
   refine HV.o.mono ?_;rintro e w4 ⟨rfl,⟨q0,q1⟩,HE⟩;go_wp2
   go_ret2
   exact⟨⟨_,rfl,bm,HE.o.1,rfl,rfl⟩,HE.o.2⟩
theorem zqk(L:RC)(win:Int)(b off cap:Nat)(w:YM)(hL:eA L)(hw:win<1\/20<win)(hb:b<w.1.size)(bV:Row w b off L.zs):
  YR prog 24 #[.agg #[iQ (L.s:Int),.slice (some (aQ b off)) L.n cap,iQ (L.d:Int)],iQ win] w (bQ (.tuple #[.pointer none,.iface 74 (iQ 2)]) w):=by
 have hf:=hL.few;obtain⟨W,hW⟩:∃ W,Hid (w.alloc (.cells #[iQ (L.s:Int),.slice (some (aQ b off)) L.n cap,iQ (L.d:Int)] 42)=W):=eQ;have aC:YO w.1.size w W:=by rw[<-hW.o];exact(YS _ _).alloc lQ _
 have aJ:W.1[w.1.size]?=some (.cells #[iQ (L.s:Int),.slice (some (aQ b off)) L.n cap,iQ (L.d:Int)] 42 (0,0)):=by rw[<-hW.o];exact aU _ _
 have HC:Hid (YR prog 64 #[.slice (some (aQ b off)) L.n cap] W fun e w1=>∃ g cg,e=.returned (.slice (some (aQ g 0)) L.n cg)/\(w1.cell? (aQ w.1.size 1)=some (.slice (some (aQ b off)) L.n cap)/\w1.frozen? (aQ w.1.size 1)=false/\w1.cell? (aQ w.1.size 0)=some (iQ (L.s:Int))/\w1.cell? (aQ w.1.size 2)=some (iQ (L.d:Int)))/\
   Hid ((w1.setCell (aQ w.1.size 1) (.slice (some (aQ g 0)) L.n cg)).1[w.1.size]?=some (.cells #[iQ (L.s:Int),.slice (some (aQ g 0)) L.n cg,iQ (L.d:Int)] 42 (0,0))/\Row (w1.setCell (aQ w.1.size 1) (.slice (some (aQ g 0)) L.n cg)) g 0 L.zs/\w.1.size<g/\g<(w1.setCell (aQ w.1.size 1) (.slice (some (aQ g 0)) L.n cg)).1.size/\L.n<=cg/\YO w.1.size w (w1.setCell (aQ w.1.size 1) (.slice (some (aQ g 0)) L.n cg)))):=ae (by
  refine(JH b off L.n cap L.zs W hL.len oQ oQ (Yr hb aC.size) (bV.below hb aC)).mono ?_;rintro e w1 ⟨⟨g,cg,g1,g2,g3,rfl,g4⟩,hB⟩;have aj:=bp aJ;have aX:=(hB.block _ aj).trans aJ;refine⟨g,cg,rfl,⟨(ay aX 1).trans rfl,fL aX 1,(ay aX 0).trans rfl,(ay aX 2).trans rfl⟩,ae ⟨(fZ aX 1 _).trans rfl,fun i hi=>(Ze (w:=w1) (Zb _ _ _ _ (by show g≠w.1.size;omega))).trans (g4 i hi),oQ,by simp[Zz];exact g2,g3,?_⟩⟩;exact(aC.trans (hB.mono aC.size)).setCell (Yp _) _)
 have x1:W.cell? (aQ w.1.size 1)=some (.slice (some (aQ b off)) L.n cap):=(ay aJ 1).trans rfl;have HL:=ae hL;clear bV aJ aC hL;go_enter func24,ntmps24;go_wp2_with fail
 rw[show w.alloc (.cells #[iQ (L.s:Int),.slice (some (aQ b off)) L.n cap,iQ (L.d:Int)] 42)=W from hW.o];refine HC.o.mono ?_;rintro e w1 ⟨g,cg,rfl,⟨z0,z1,z2,z3⟩,HM⟩;clear HC x1 hW;go_wp2_with fail
 have tX:Hid ((w1.setCell (aQ w.1.size 1) (.slice (some (aQ g 0)) L.n cg)).1.size=w1.1.size):=by rw[Hid];simp[Zz]
 generalize w1.setCell (aQ w.1.size 1) (.slice (some (aQ g 0)) L.n cg)=w2 at HM tX⊢;obtain⟨bo,gI,eY,cY,vP,aS⟩:=HM.o;have cZ:Hid (∃ rp C B,ql w (w2.alloc (.cells #[iQ (L.s:Int),.slice (some (aQ g 0)) L.n cg,iQ (L.d:Int),.pointer none,.pointer none,.pointer none,.pointer none,.slice none 0 0,iQ 0] 90)) L w1.1.size g cg 0 rp C B):=ae (by rw[<-tX.o];exact⟨fun _=>0,fun _=>L,fun _=>w2.1.size+1,aS.alloc aS.size _,aU _ _,gI.below (B:=w2.1.size) cY ((YS _ _).alloc lQ _),⟨oQ,cY⟩,vP,fun j hj=>absurd hj oQ,oQ,sQ,fun j hj=>absurd hj oQ⟩);have bm:w.1.size<=w1.1.size:=by rw[<-tX.o];exact aS.size
 clear HM bo gI vP aS z0 z1 z2 z3;go_loopw [18] (fun j wr=>∃ k:Nat,k<=3/\j=iQ k/\∃ rp C B,ql w wr L w1.1.size g cg k rp C B) (fun j _=>3-(intOf j).toNat)
 case atStart=>exact⟨0,oQ,rfl,cZ.o⟩
 case round=>
  obtain⟨k,hk,rfl,rp,C,B,hI⟩:=hrel;clear cZ;have aj:=bp hI.blk;by_cases iq:k<3
  ·have dB:(k:Int)<3:=oQ;have xE:Hid (YR prog 38 #[pQ w1.1.size,iQ (k:Int)] wr fun e w'=>e=.returned .nilIface/\Hid (∃ rp C B,ql w w' L w1.1.size g cg (k+1) rp C B)):=ae (by
    refine(P5 w1.1.size g cg L _ _ _ _ k wr iq HL.o hI.blk hI.row (by have:=hI.G7;omega) hI.cap).mono ?_;rintro e w' ⟨rfl,q,C1,hF,hl,hR,hb,hm⟩;exact⟨rfl,ae ⟨_,_,_,hI.next bm hF hl hR hb hm⟩⟩)
   clear hI;go_wp2_with fail
   refine xE.o.mono ?_;rintro e w3 ⟨rfl,HR⟩;go_wp2
   go_roundw
   case rel=>exact⟨k+1,oQ,by go_num,HR.o⟩
   case measure=>simp[intOf];omega
  ·have e3:k=3:=oQ;subst e3;have HV:Hid (YR prog 65 #[iQ win] wr fun e w'=>e=.returned (.tuple #[.pointer none,.iface 74 (iQ 2)])/\Hid (YO w.1.size w w')):=ae (by
    refine(zmG win wr hw).mono ?_;rintro e w' ⟨rfl,hB⟩;exact⟨rfl,ae (hI.old.trans (hB.mono hI.old.size))⟩)
   clear hI;go_wp2_with fail
   refine HV.o.mono ?_;rintro e w4 ⟨rfl,HE⟩;go_wp2
   go_ret2
   exact⟨rfl,HE.o⟩
theorem zql(p b n cap:Nat)(z s d:Int)(zs:List Int)(w:YM)(r:Nat->YN)(v nv lo:YN)(hn:zs.length=n)(fw:n<=cap)(hb:w.1[p]?=some (.cells #[iQ s,.slice (some (aQ b 0)) n cap,iQ d,r 0,r 1,r 2,v,nv,lo] 90 (0,0)))(hr:Row w b 0 zs)(jl:b<w.1.size)(iW:cw s zs d≠(0,-1)):
  YR prog 38 #[pQ p,iQ z] w fun e w'=>(∃ v,e=.returned v/\v≠.nilIface/\(∃ t x,v=.iface t x)/\iY w' w.1.size (cw s zs d) v)/\YO w.1.size w w':=by
 have c0:w.cell? (aQ p 0)=some (iQ s):=(ay hb 0).trans rfl;have c1:w.cell? (aQ p 1)=some (.slice (some (aQ b 0)) n cap):=(ay hb 1).trans rfl;have c2:w.cell? (aQ p 2)=some (iQ d):=(ay hb 2).trans rfl;have HC:Hid (YR prog 80 #[iQ z,.agg #[iQ s,.slice (some (aQ b 0)) n cap,iQ d]] w fun e w'=>∃ t x,e=.returned (.tuple #[.pointer none,.iface t x])/\Hid (iY w' w.1.size (cw s zs d) (.iface t x)/\YO w.1.size w w')):=ae (by
  refine(zmp z s d (some (aQ b 0)) n cap zs w ⟨hn,fw,.inr ⟨b,0,rfl,jl,hr⟩⟩ iW).mono ?_;rintro e w' ⟨⟨v,rfl,he⟩,hB⟩;have hv:∃ t x,v=.iface t x:=by
   rcases he with ⟨e,_⟩|⟨_,_,e⟩|⟨_,_,nb,_,_,e,_⟩
   ·exact absurd e iW
   ·exact⟨_,_,e⟩
   ·exact⟨_,_,e⟩
  obtain⟨t,x,rfl⟩:=hv;exact⟨t,x,rfl,ae ⟨he,hB⟩⟩)
 clear hb hr;go_enter func38,ntmps38;go_wp2_with fail
 refine HC.o.mono ?_;rintro e w1 ⟨t,x,rfl,HE⟩;go_wp2
 go_ret;exact⟨⟨_,rfl,sQ,⟨_,_,rfl⟩,HE.o.1⟩,HE.o.2⟩
theorem zqm(s d win:Int)(b off n cap:Nat)(zs:List Int)(w:YM)(hn:zs.length=n)(h0:0<n)(hm:n<=1000000)(hb:b<w.1.size)(bV:Row w b off zs)(iW:cw s zs d≠(0,-1)):
  YR prog 24 #[.agg #[iQ s,.slice (some (aQ b off)) n cap,iQ d],iQ win] w fun e w'=>(∃ t x lo,e=.returned (.tuple #[.pointer none,.iface t x])/\iY w' lo (cw s zs d) (.iface t x))/\YO w.1.size w w':=by
 obtain⟨W,hW⟩:∃ W,Hid (w.alloc (.cells #[iQ s,.slice (some (aQ b off)) n cap,iQ d] 42)=W):=eQ;have aC:YO w.1.size w W:=by rw[<-hW.o];exact(YS _ _).alloc lQ _
 have aJ:W.1[w.1.size]?=some (.cells #[iQ s,.slice (some (aQ b off)) n cap,iQ d] 42 (0,0)):=by rw[<-hW.o];exact aU _ _
 have HC:Hid (YR prog 64 #[.slice (some (aQ b off)) n cap] W fun e w1=>∃ g cg,e=.returned (.slice (some (aQ g 0)) n cg)/\(w1.cell? (aQ w.1.size 1)=some (.slice (some (aQ b off)) n cap)/\w1.frozen? (aQ w.1.size 1)=false/\w1.cell? (aQ w.1.size 0)=some (iQ s)/\w1.cell? (aQ w.1.size 2)=some (iQ d))/\
   Hid (Row (w1.setCell (aQ w.1.size 1) (.slice (some (aQ g 0)) n cg)) g 0 zs/\g<(w1.setCell (aQ w.1.size 1) (.slice (some (aQ g 0)) n cg)).1.size/\n<=cg/\YO w.1.size w (w1.setCell (aQ w.1.size 1) (.slice (some (aQ g 0)) n cg)))):=ae (by
  refine(zqj b off n cap zs W hn h0 hm (Yr hb aC.size) (bV.below hb aC)).mono ?_;rintro e w1 ⟨⟨g,cg,g1,g2,g3,rfl,g4⟩,hB⟩;have aj:=bp aJ;have aX:=(hB.block _ aj).trans aJ;refine⟨g,cg,rfl,⟨(ay aX 1).trans rfl,fL aX 1,(ay aX 0).trans rfl,(ay aX 2).trans rfl⟩,ae ⟨fun i hi=>(Ze (w:=w1) (Zb _ _ _ _ (by show g≠w.1.size;omega))).trans (g4 i hi),by simp[Zz];exact g2,g3,?_⟩⟩;exact(aC.trans (hB.mono aC.size)).setCell (Yp _) _)
 have x1:W.cell? (aQ w.1.size 1)=some (.slice (some (aQ b off)) n cap):=(ay aJ 1).trans rfl;have HBD:=ae iW;have HNN:=ae hn;clear bV aJ aC iW hn;go_enter func24,ntmps24;go_wp2_with fail
 rw[show w.alloc (.cells #[iQ s,.slice (some (aQ b off)) n cap,iQ d] 42)=W from hW.o];refine HC.o.mono ?_;rintro e w1 ⟨g,cg,rfl,⟨z0,z1,z2,z3⟩,HM⟩;clear HC x1 hW;go_wp2_with fail
 have tX:Hid ((w1.setCell (aQ w.1.size 1) (.slice (some (aQ g 0)) n cg)).1.size=w1.1.size):=by rw[Hid];simp[Zz]
 generalize w1.setCell (aQ w.1.size 1) (.slice (some (aQ g 0)) n cg)=w2 at HM tX⊢;obtain⟨gI,cY,vP,aS⟩:=HM.o;obtain⟨W3,Rk⟩:∃ W3,Hid (w2.alloc (.cells #[iQ s,.slice (some (aQ g 0)) n cg,iQ d,.pointer none,.pointer none,.pointer none,.pointer none,.slice none 0 0,iQ 0] 90)=W3):=eQ;have xE:Hid (YR prog 38 #[pQ w1.1.size,iQ 0] W3 fun e w'=>∃ t x,e=.returned (.iface t x)/\Hid (iY w' W3.1.size (cw s zs d) (.iface t x)/\YO w.1.size w w')):=ae (by
  have aZ:YO w2.1.size w2 W3:=by rw[<-Rk.o];exact(YS _ _).alloc lQ _
  have gl:W3.1[w1.1.size]?=some (.cells #[iQ s,.slice (some (aQ g 0)) n cg,iQ d,.pointer none,.pointer none,.pointer none,.pointer none,.slice none 0 0,iQ 0] 90 (0,0)):=by rw[<-Rk.o,<-tX.o];exact aU _ _
  refine(zql w1.1.size g n cg 0 s d zs W3 (fun _=>.pointer none) (.pointer none) (.slice none 0 0) (iQ 0) HNN.o vP gl (gI.below cY aZ) (Yr cY aZ.size) HBD.o).mono ?_;rintro e w' ⟨⟨v,rfl,_,⟨t,x,rfl⟩,he⟩,hB⟩;have iz:=aS.trans (aZ.mono aS.size);exact⟨t,x,rfl,ae ⟨he,iz.trans (hB.mono iz.size)⟩⟩)
 have bm:w.1.size<=w1.1.size:=by rw[<-tX.o];exact aS.size
 clear HM gI vP aS z0 z1 z2 z3;rw[Rk.o];go_loopw [18] (fun j wr=>j=iQ 0/\wr=W3) (fun _ _=>0)
 case atStart=>exact⟨rfl,rfl⟩
 case round=>
  obtain⟨rfl,rfl⟩:=hrel;go_wp2_with fail
  refine xE.o.mono ?_;rintro e w3 ⟨t,x,rfl,HE⟩;go_wp2
  go_ret2
  exact⟨⟨_,_,_,rfl,HE.o.1⟩,HE.o.2⟩
theorem zqn(s:Int)(zs:List Int)(d:Int):(cw s zs d).1<=9:=by
 unfold cw;split
 ·split
  ·show 1<=9;omega
  ·split
   ·show 9<=9;omega
   ·show 0<=9;omega
 ·show 2<=9;omega
theorem zbU(V:YM)(q M k:Nat)(a d s:Int)(zs:List Int)(hk:0<k)(ik:M<V.1.size)(hr:Row V M 0 (a::d::s::zs))(z:Int)(f:Nat×Int)(hf:f.1≠0)(hz:(f.1:Int)=z)
  (hC:∀ W,YO V.1.size V W->V.1.size<W.1.size->YR prog 24 #[.agg #[iQ s,.slice (some (aQ M 3)) k k,iQ d],iQ a] W fun e w'=>(∃ t x lo,e=.returned (.tuple #[.pointer none,.iface t x])/\iY w' lo f (.iface t x))/\fC w'/\YO W.1.size W w'):
  YR prog 93 #[pQ q,.slice (some (aQ M 0)) (k+3) (k+3)] V fun e V'=>e=thrown z/\YO V.1.size V V':=by
 have r0:V.cell? (aQ M 0)=some (iQ a):=hr 0 sQ;have r1:V.cell? (aQ M 1)=some (iQ d):=hr 1 sQ;have r2:V.cell? (aQ M 2)=some (iQ s):=hr 2 sQ;have nd:Hid (∀ Y,YO V.1.size V Y->Y.cell? (aQ M 0)=some (iQ a)/\Y.cell? (aQ M 1)=some (iQ d)/\Y.cell? (aQ M 2)=some (iQ s)):=ae fun Y hY=>⟨(hY.cell (p:=(aQ M 0)) ik).trans r0,(hY.cell (p:=(aQ M 1)) ik).trans r1,(hY.cell (p:=(aQ M 2)) ik).trans r2⟩
 obtain⟨V1,dp⟩:∃ V1,Hid ((V.alloc (.cells #[iQ s,.slice (some (aQ M 3)) k k,iQ d] 42)).drew=V1):=eQ;have aG:YO V.1.size V V1:=by rw[<-dp.o];exact((YS _ _).alloc lQ _).drew
 have aJ:V1.1[V.1.size]?=some (.cells #[iQ s,.slice (some (aQ M 3)) k k,iQ d] 42 (0,0)):=by rw[<-dp.o];exact zwh V _
 have aj:V.1.size<V1.1.size:=bp aJ;have vd:Hid (∀ Y,YO V1.1.size V1 Y->Y.cell? (aQ V.1.size 0)=some (iQ s)/\Y.cell? (aQ V.1.size 1)=some (.slice (some (aQ M 3)) k k)/\Y.cell? (aQ V.1.size 2)=some (iQ d)/\Y.cell? (aQ M 0)=some (iQ a)):=ae fun Y hY=>⟨(hY.cell (p:=(aQ V.1.size 0)) aj).trans ((ay aJ 0).trans rfl),(hY.cell (p:=(aQ V.1.size 1)) aj).trans ((ay aJ 1).trans rfl),(hY.cell (p:=(aQ V.1.size 2)) aj).trans ((ay aJ 2).trans rfl),(hY.cell (p:=(aQ M 0)) (Yr ik aG.size)).trans (nd.o _ aG).1⟩
 have HC:=ae (hC V1.drew (aG.drew) (by simpa using aj));have dN:=ae aG;have bW:¬k=0:=oQ;have zC:(3:Int)<=(k:Int)+3:=oQ;have Ab:(0:Int)<(k:Int)+3:=oQ;have hj1:(1:Int)<(k:Int)+3:=oQ;have Gt:(2:Int)<(k:Int)+3:=oQ;have FH:0<k+3:=oQ;have Ek:1<k+3:=oQ;have qG:2<k+3:=oQ;clear hr hC aG aJ r0 r1 r2;go_enter func93,ntmps93;go_wp2_with fail
 refine Zh (S:=fun Y=>Y.cell? (aQ M 0)=some (iQ a)/\Y.cell? (aQ M 1)=some (iQ d)/\Y.cell? (aQ M 2)=some (iQ s)) kQ (nd.o _ (YS _ _).drew) (fun af=>?_);refine ai 0 (.slice (some (aQ M 0)) (k+3) (k+3)) af ?_;refine ai 1 (.pointer (some (aQ M 1))) af ?_;refine ai 2 (iQ d) af ?_;refine ai 3 (.slice (some (aQ M 0)) (k+3) (k+3)) af ?_;refine ai 4 (.pointer (some (aQ M 2))) af ?_;refine ai 5 (iQ s) af ?_;refine ai 6 (.slice (some (aQ M 0)) (k+3) (k+3)) af ?_;refine ai 7 (.slice (some (aQ M 3)) k k) af ?_ (hy:=Zj ⟨rQ,fun w _=>by go_simp<;>simp[bW]⟩);refine ai 8 (.agg #[iQ s,.slice (some (aQ M 3)) k k,iQ d]) af ?_;refine aR 9 fun K hK=>?_
 go_simp;refine hK.o _ _ (nd.o _ ((YS V.1.size V).drew.alloc (Yp V.1.size) _)) (fun af=>?_);clear hK K;refine aR 10 fun K hK=>?_
 go_simp;rw[dp.o];refine hK.o _ _ (nd.o _ dN.o) (fun af=>?_);clear hK K;refine Y7 kQ ?_ _;clear af nd;go_wp2_with fail
 refine Zh (S:=fun Y=>Y.cell? (aQ V.1.size 0)=some (iQ s)/\Y.cell? (aQ V.1.size 1)=some (.slice (some (aQ M 3)) k k)/\Y.cell? (aQ V.1.size 2)=some (iQ d)/\Y.cell? (aQ M 0)=some (iQ a)) kQ (vd.o _ (YS _ _).drew) (fun af=>?_);refine ai 0 (.agg #[iQ s,.slice (some (aQ M 3)) k k,iQ d]) af ?_;refine ai 1 (.slice (some (aQ M 0)) (k+3) (k+3)) af ?_;refine ai 2 (pQ M) af ?_;refine ai 3 (iQ a) af ?_;refine aR 4 fun K hK=>?_
 go_simp;go_at_call 24;refine HC.o.mono ?_;rintro e w5 ⟨⟨t,x,lo,rfl,he⟩,hE,eK⟩;have om:YO V1.1.size V1 w5:=(YS _ _).drew.trans eK;have mG:=vd.o _ om;have HE:=ae he;have HET:=ae hE;have A4:=ae (dN.o.trans (om.mono dN.o.size));clear he hE eK om;dsimp only;refine hK.o _ _ mG (fun af=>?_);clear hK K;refine ai 5 (.tuple #[.pointer none,.iface t x]) af ?_;refine ai 6 (.pointer none) af ?_;refine ai 7 (.iface t x) af ?_;refine aR 8 fun K hK=>?_
 go_simp;refine hK.o _ _ mG (fun af=>?_);clear hK K;refine aR 9 fun K hK=>?_
 go_simp;refine hK.o _ _ mG (fun af=>?_);clear hK K;refine Y7 kQ ?_ _;clear af;go_wp2_with fail
 refine(Wi _ lo f _ HE.o hf HET.o).mono ?_;rintro e w6 ⟨rfl,gA⟩;rw[hz];unfold thrown;dsimp only;exact⟨rfl,rfl,A4.o.trans (gA.mono A4.o.size)⟩
theorem zqo(V:YM)(q M k:Nat)(a d s:Int)(zs:List Int)(hk:0<k)(ik:M<V.1.size)(hr:Row V M 0 (a::d::s::zs))(Q:Nat->YM->Prop)(x0 x1 x2 x3:YN)
  (hC:∀ W,YO V.1.size V W->V.1.size<W.1.size->YR prog 24 #[.agg #[iQ s,.slice (some (aQ M 3)) k k,iQ d],iQ a] W fun e w'=>∃ p,e=.returned (.tuple #[pQ p,.nilIface])/\Q p w'/\(w'.cell? (aQ q 0)=some x0/\w'.cell? (aQ q 1)=some x1/\w'.cell? (aQ q 2)=some x2/\w'.cell? (aQ q 3)=some x3)/\(w'.frozen? (aQ q 0)=false/\w'.frozen? (aQ q 1)=false/\w'.frozen? (aQ q 2)=false/\w'.frozen? (aQ q 3)=false)/\YO W.1.size W w'):
  YR prog 93 #[pQ q,.slice (some (aQ M 0)) (k+3) (k+3)] V fun e V'=>e=.returned (.string (txt [98,101,103,105,110]))/\∃ p W,Q p W/\V'=(((W.setCell (aQ q 0) (iQ s)).setCell (aQ q 1) (.slice (some (aQ M 3)) k k)).setCell (aQ q 2) (iQ d)).setCell (aQ q 3) (pQ p):=by
 have r0:V.cell? (aQ M 0)=some (iQ a):=hr 0 sQ;have r1:V.cell? (aQ M 1)=some (iQ d):=hr 1 sQ;have r2:V.cell? (aQ M 2)=some (iQ s):=hr 2 sQ;have nd:Hid (∀ Y,YO V.1.size V Y->Y.cell? (aQ M 0)=some (iQ a)/\Y.cell? (aQ M 1)=some (iQ d)/\Y.cell? (aQ M 2)=some (iQ s)):=ae fun Y hY=>⟨(hY.cell (p:=(aQ M 0)) ik).trans r0,(hY.cell (p:=(aQ M 1)) ik).trans r1,(hY.cell (p:=(aQ M 2)) ik).trans r2⟩
 obtain⟨V1,dp⟩:∃ V1,Hid ((V.alloc (.cells #[iQ s,.slice (some (aQ M 3)) k k,iQ d] 42)).drew=V1):=eQ;have aG:YO V.1.size V V1:=by rw[<-dp.o];exact((YS _ _).alloc lQ _).drew
 have aJ:V1.1[V.1.size]?=some (.cells #[iQ s,.slice (some (aQ M 3)) k k,iQ d] 42 (0,0)):=by rw[<-dp.o];exact zwh V _
 have aj:V.1.size<V1.1.size:=bp aJ;have vd:Hid (∀ Y,YO V1.1.size V1 Y->Y.cell? (aQ V.1.size 0)=some (iQ s)/\Y.cell? (aQ V.1.size 1)=some (.slice (some (aQ M 3)) k k)/\Y.cell? (aQ V.1.size 2)=some (iQ d)/\Y.cell? (aQ M 0)=some (iQ a)):=ae fun Y hY=>⟨(hY.cell (p:=(aQ V.1.size 0)) aj).trans ((ay aJ 0).trans rfl),(hY.cell (p:=(aQ V.1.size 1)) aj).trans ((ay aJ 1).trans rfl),(hY.cell (p:=(aQ V.1.size 2)) aj).trans ((ay aJ 2).trans rfl),(hY.cell (p:=(aQ M 0)) (Yr ik aG.size)).trans (nd.o _ aG).1⟩
 have HC:=ae (hC V1.drew (aG.drew) (by simpa using aj));have dN:=ae aG;have bW:¬k=0:=oQ;have zC:(3:Int)<=(k:Int)+3:=oQ;have Ab:(0:Int)<(k:Int)+3:=oQ;have hj1:(1:Int)<(k:Int)+3:=oQ;have Gt:(2:Int)<(k:Int)+3:=oQ;have FH:0<k+3:=oQ;have Ek:1<k+3:=oQ;have qG:2<k+3:=oQ;clear hr hC aG aJ r0 r1 r2;go_enter func93,ntmps93;go_wp2_with fail
 refine Zh (S:=fun Y=>Y.cell? (aQ M 0)=some (iQ a)/\Y.cell? (aQ M 1)=some (iQ d)/\Y.cell? (aQ M 2)=some (iQ s)) kQ (nd.o _ (YS _ _).drew) (fun af=>?_);refine ai 0 (.slice (some (aQ M 0)) (k+3) (k+3)) af ?_;refine ai 1 (.pointer (some (aQ M 1))) af ?_;refine ai 2 (iQ d) af ?_;refine ai 3 (.slice (some (aQ M 0)) (k+3) (k+3)) af ?_;refine ai 4 (.pointer (some (aQ M 2))) af ?_;refine ai 5 (iQ s) af ?_;refine ai 6 (.slice (some (aQ M 0)) (k+3) (k+3)) af ?_;refine ai 7 (.slice (some (aQ M 3)) k k) af ?_ (hy:=Zj ⟨rQ,fun w _=>by go_simp<;>simp[bW]⟩);refine ai 8 (.agg #[iQ s,.slice (some (aQ M 3)) k k,iQ d]) af ?_;refine aR 9 fun K hK=>?_
 go_simp;refine hK.o _ _ (nd.o _ ((YS V.1.size V).drew.alloc (Yp V.1.size) _)) (fun af=>?_);clear hK K;refine aR 10 fun K hK=>?_
 go_simp;rw[dp.o];refine hK.o _ _ (nd.o _ dN.o) (fun af=>?_);clear hK K;refine Y7 kQ ?_ _;clear af nd;go_wp2_with fail
 refine Zh (S:=fun Y=>Y.cell? (aQ V.1.size 0)=some (iQ s)/\Y.cell? (aQ V.1.size 1)=some (.slice (some (aQ M 3)) k k)/\Y.cell? (aQ V.1.size 2)=some (iQ d)/\Y.cell? (aQ M 0)=some (iQ a)) kQ (vd.o _ (YS _ _).drew) (fun af=>?_);refine ai 0 (.agg #[iQ s,.slice (some (aQ M 3)) k k,iQ d]) af ?_;refine ai 1 (.slice (some (aQ M 0)) (k+3) (k+3)) af ?_;refine ai 2 (pQ M) af ?_;refine ai 3 (iQ a) af ?_;refine aR 4 fun K hK=>?_
 go_simp;go_at_call 24;refine HC.o.mono ?_;rintro e w5 ⟨p,rfl,hQ,⟨d0,d1,d2,d3⟩,⟨f0,f1,f2,f3⟩,eK⟩;have om:YO V1.1.size V1 w5:=(YS _ _).drew.trans eK;have mG:=vd.o _ om;have HQ:=ae hQ;clear hQ eK om;dsimp only;refine hK.o _ _ mG (fun af=>?_);clear hK K;refine ai 5 (.tuple #[pQ p,.nilIface]) af ?_;refine ai 6 (pQ p) af ?_;refine ai 7 (.nilIface) af ?_;refine aR 8 fun K hK=>?_
 go_simp;refine hK.o _ _ mG (fun af=>?_);clear hK K;refine aR 9 fun K hK=>?_
 go_simp;refine hK.o _ _ mG (fun af=>?_);clear hK K;refine Y7 kQ ?_ _;clear af;obtain⟨y0,y1,y2,_⟩:=mG;go_wp2_with fail
 refine(qX _).mono ?_;rintro e w6 ⟨rfl,rfl⟩;go_wp2
 go_ret;exact⟨rfl,p,_,HQ.o,rfl⟩
variable {N:Nat}{c:kp}{D:SC}{X:DS}{T:Nat}
structure bU(T:Nat)(X:DS):Prop where
 cl:fU X.L WT 3 X.win T X.S
 eE:eA X.L
theorem QQ{L:RC}{T:Nat}{S:SY}(h:bu L WT 3 win T S):fU L WT 3 win T S:=⟨h,fun _ _ _ _ _=>⟨fun _ _=>trivial,fun _ _=>trivial⟩⟩
theorem bU.of{L:RC}{T:Nat}{S:SY}{c:Int}(h:bu L WT 3 win T S)(hL:eA L)(hT:T<=T'):bU T' ⟨L,win,S,c⟩:=⟨QQ (h.later hT),hL⟩
theorem bU.later(h:bU T X)(hT:T<=T'):bU T' X:=⟨QQ (h.cl.inv.later hT),h.eE⟩
theorem zu(h:cV z=true):z.toNat<3/\((z.toNat:Nat):Int)=z:=by
 unfold cV at h;simp at h;omega
theorem Hs(h:0<=z/\z<(n:Int)):z.toNat<n/\((z.toNat:Nat):Int)=z:=oQ
theorem zqp(z:Int)(hI:bU T X)(W:YM)(h:bY W N c D X):
  YR prog 33 #[pQ D.p,iQ z] W fun e W'=>nu W W' N D X (DT z X) e:=by
 unfold DT;by_cases hz:cV z=true
 ·obtain⟨hk,ez⟩:=zu hz;have:=zpI N D X.L X.win X.S W z.toNat hk h.dk.sys hI.cl.inv h.dk.le X.c h.cnt;rw[ez]at this;rw[YH hz];exact this.mono fun e W' hh=>.inl ⟨hh.1,_,_,rfl,hh.2⟩
 ·rw[YG hz];exact(zpP D.p z W (by simpa using hz)).mono fun e W' hh=>.inr ⟨rfl,hh.1,hh.2⟩
theorem zqq(z:Int)(W:YM)(h:bY W N c D X):
  YR prog 38 #[pQ D.p,iQ z] W fun e W'=>nu W W' N D X (DU z X) e:=by
 unfold DU;by_cases hz:cV z=true
 ·obtain⟨hk,ez⟩:=zu hz;have:=zpN N D X.L X.win X.S W z.toNat hk h.eE h.dk.sys h.dk.le X.c h.cnt;rw[ez]at this;rw[YH hz];exact this.mono fun e W' hh=>.inl ⟨hh.1,_,_,rfl,hh.2⟩
 ·rw[YG hz];exact(zpV N D X.L X.win X.S W z (by simpa using hz) h.eE h.dk.sys).mono fun e W' hh=>.inr ⟨rfl,hh.1,hh.2⟩
theorem zqr(z x y:Int)(W:YM)(h:bY W N c D X):
  YR prog 18 #[pQ D.p,iQ z,.agg #[iQ x,iQ y]] W fun e W'=>nu W W' N D X (DV z x y X) e:=by
 unfold DV;by_cases hz:cV z=true
 ·obtain⟨hk,ez⟩:=zu hz;have:=zpM N D X.L X.win X.S W z.toNat x y hk h.dk.sys X.c h.cnt;rw[ez]at this;rw[YH hz];exact this.mono fun e W' hh=>.inl ⟨hh.1,_,_,rfl,hh.2⟩
 ·rw[YG hz];exact(zpO D.p z x y W (by simpa using hz)).mono fun e W' hh=>.inr ⟨rfl,hh.1,hh.2⟩
theorem zqs(z:Int)(hI:bU T X)(hT:T<2000000)(W:YM)(h:bY W N c D X):
  YR prog 32 #[pQ D.p,iQ z] W fun e W'=>nu W W' N D X (DW z X) e:=by
 unfold DW;by_cases hz:cV z=true
 ·obtain⟨hk,ez⟩:=zu hz;have:=zpG N D X.L X.win X.S W z.toNat hk h.dk.sys hI.cl.inv h.eE oQ h.dk.le X.c h.cnt;rw[ez]at this;rw[YH hz];exact this.mono fun e W' hh=>.inl ⟨hh.1,_,_,rfl,hh.2⟩
 ·rw[YG hz];by_cases h3:z=3
  ·subst h3;rw[YH rfl];exact(zpH N D X.L X.win X.S W h.dk.sys hI.cl.inv.jv X.c h.cnt).mono fun e W' hh=>.inl ⟨hh.1,_,_,rfl,hh.2⟩
  ·rw[YG h3];exact(zpQ D.p z W (by simpa using hz) h3).mono fun e W' hh=>.inr ⟨rfl,hh.1,hh.2⟩
theorem zqt(z:Int)(hI:bU T X)(hT:T<2000000)(W:YM)(h:bY W N c D X):
  YR prog 34 #[pQ D.p,iQ z] W fun e W'=>nu W W' N D X (DX z X) e:=by
 unfold DX;by_cases hz:0<=z/\z<(X.S.aq.length:Int)
 ·obtain⟨hk,ez⟩:=Hs hz;have:=zpJ N D X.L X.win X.S W z.toNat h.dk.sys hI.cl.inv h.eE oQ h.dk.le hk X.c h.cnt;rw[ez]at this;rw[YH hz];exact this.mono fun e W' hh=>.inl ⟨hh.1,_,_,rfl,hh.2⟩
 ·rw[YG hz];exact(zpR N D X.L X.win X.S W z h.dk.sys oQ).mono fun e W' hh=>.inr ⟨rfl,hh.1,hh.2⟩
theorem zqu(z:Int)(hI:bU T X)(W:YM)(h:bY W N c D X):
  YR prog 35 #[pQ D.p,iQ z] W fun e W'=>nu W W' N D X (DY z X) e:=by
 unfold DY;by_cases hz:0<=z/\z<(X.S.aq.length:Int)
 ·obtain⟨hk,ez⟩:=Hs hz;have:=zpK N D X.L X.win X.S W z.toNat h.dk.sys hI.cl.inv.many hk X.c h.cnt;rw[ez]at this;rw[YH hz];exact this.mono fun e W' hh=>.inl ⟨hh.1,_,_,rfl,hh.2⟩
 ·rw[YG hz];exact(zpS N D X.L X.win X.S W z h.dk.sys oQ).mono fun e W' hh=>.inr ⟨rfl,hh.1,hh.2⟩
theorem zqv(z:Int)(hI:bU T X)(W:YM)(h:bY W N c D X):
  YR prog 36 #[pQ D.p,iQ z] W fun e W'=>nu W W' N D X (DZ z X) e:=by
 unfold DZ;by_cases hz:0<=z/\z<(X.S.aq.length:Int)
 ·obtain⟨hk,ez⟩:=Hs hz;have:=zpL N D X.L X.win X.S W z.toNat h.dk.sys hI.cl.inv.many h.dk.le hk X.c h.cnt;rw[ez]at this;rw[YH hz];exact this.mono fun e W' hh=>.inl ⟨hh.1,_,_,rfl,hh.2⟩
 ·rw[YG hz];exact(zpT N D X.L X.win X.S W z h.dk.sys oQ).mono fun e W' hh=>.inr ⟨rfl,hh.1,hh.2⟩
theorem bU.ask{X':DS}(h:bU T X)(e:DT z X=some X'):bU (T+600) X':=by
 unfold DT at e;split at e
 ·rename_i hz;cases e;exact bU.of (h.cl.inv.asks (zu hz).1) h.eE oQ
 ·cases e
theorem bU.PY{X':DS}(h:bU T X)(e:DU z X=some X'):bU (T+600) X':=by
 unfold DU at e;split at e
 ·cases e;exact bU.of h.cl.inv.PY h.eE oQ
 ·cases e
theorem bU.see{x y:Int}{X':DS}(h:bU T X)(e:DV z x y X=some X'):bU (T+600) X':=by
 unfold DV at e;split at e
 ·rename_i hz;cases e;exact bU.of (h.cl.inv.see (zu hz).1 x y) h.eE oQ
 ·cases e
theorem bU.tick{X':DS}(h:bU T X)(e:DW z X=some X'):bU (T+600) X':=by
 unfold DW at e;split at e
 ·rename_i hz;cases e;exact bU.of (h.cl.tick (zu hz).1).inv h.eE oQ
 ·split at e
  ·cases e;exact bU.of h.cl.inv.KB h.eE oQ
  ·cases e
theorem bU.zqw{X':DS}(h:bU T X)(e:DX z X=some X'):bU (T+600) X':=by
 unfold DX at e;split at e
 ·rename_i hz;cases e;exact bU.of (h.cl.inv.Dt h.eE (Hs hz).1).1 h.eE oQ
 ·cases e
theorem bU.zqx{X':DS}(h:bU T X)(e:DY z X=some X'):bU (T+600) X':=by
 unfold DY at e;split at e
 ·cases e;exact bU.of (h.cl.inv.outs _) h.eE oQ
 ·cases e
theorem bU.twice{X':DS}(h:bU T X)(e:DZ z X=some X'):bU (T+600) X':=by
 unfold DZ at e;split at e
 ·rename_i hz;cases e;exact bU.of (h.cl.inv.AO (h.cl.inv.aq _ (PX (Hs hz).1))) h.eE oQ
 ·cases e
def Lb(m:Nat)(w w':YM)(c:kp)(D:SC)(T:Nat)(e:Ending)(X':DS)(s:List UInt8):Prop:=
 bU (T+600) X'/\s.length<=30000/\(∃ N' c' D',c'.d=c.d/\c'.m=c.m/\bY w' N' c' D' X'/\Mod w w' (fun k=>Wr D k\/k=c.d)/\∀ k,ll c' D' k->ll c D k\/m<=k)/\(e=.returned (.string (txt s))\/∃ z,s=gN z/\dc z/\e=thrown z)
theorem iG.q{w:YM}{X':DS}(h:iG w w' c D X')(hm:m<=w.1.size):∃ N' c' D',c'.d=c.d/\c'.m=c.m/\bY w' N' c' D' X'/\Mod w w' (fun k=>Wr D k\/k=c.d)/\∀ k,ll c' D' k->ll c D k\/m<=k:=by
 obtain⟨N',c',D',e1,e2,h1,h2,h3⟩:=h;exact⟨N',c',D',e1,e2,h1,h2,fun k hk=>(h3 k hk).imp id fun x=>Yq hm x⟩
theorem Lc:(gN 2).length<=30000:=by decide +kernel
theorem Le:dc 2:=by unfold dc;omega
theorem BC{w:YM}{op:Option DS}(h:zo w w' c D X op t e)(hI:bU T X)(hk:∀ X',op=some X'->bU (T+600) X')(ht:t.length<=30000)(hm:m<=w.1.size):∃ X' s,rS op t X X' s/\Lb m w w' c D T e X' s:=by
 rcases h with ⟨X',ho,rfl,hA⟩|⟨ho,rfl,hA⟩
 ·exact⟨X',t,.inl ⟨ho,rfl⟩,hk X' ho,ht,hA.q hm,.inl rfl⟩
 ·exact⟨X,gN 2,.inr ⟨ho,rfl,rfl⟩,hI.later oQ,Lc,hA.q hm,.inr ⟨2,rfl,Le,rfl⟩⟩
theorem BD{w:YM}(h:bY w N c D X)(hI:bU T X)(he:e=.returned (.string (txt t)))(hB:YO w.1.size w w')(ht:t.length<=30000)(hm:m<=w.1.size):Lb m w w' c D T e X t:=
 ⟨hI.later oQ,ht,(h.stays hB).q hm,.inl he⟩
variable {N:Nat}{c:kp}{D:SC}{X:DS}{T:Nat}
theorem qs{l:List Int}(h:kx V (some (aQ M 0)) n cap l){i:Nat}(hi:l[i]?=some z):V.cell? (aQ M i)=some (iQ z):=by
 rcases h.2.2 with e|⟨b,o,e,_,hr⟩
 ·rw[e]at hi;cases hi
 ·simp only[YA,zts,zsB]at e;obtain⟨rfl,rfl⟩:=e;obtain⟨aj,hv⟩:=Ye.1 hi;have:=hr i aj;rw[Yv,hi]at this;exact this
theorem zqy:∀ k:Fin 64,∀ j:Fin 64,(Zu ((64*(k:Nat)+(j:Nat):Nat):Int)).length<=4:=YK kQ
theorem QR(h:k<4096):(Zu (k:Int)).length<=4:=by
 have:=zqy ⟨k/64,oQ⟩ ⟨k%64,oQ⟩;dsimp only at this;rw[Nat.div_add_mod]at this;exact this
theorem bU.small(h:bU T X)(i:Nat)(hi:i<X.S.v.tr.length):∃ a b o:Nat,a<4096/\b<256/\o<256/\cd X.S.v.tr i=⟨(a:Int),(b:Int),(o:Int)⟩:=by
 obtain⟨x,y,e,h1,h2,_⟩:=h.cl.inv.tr i hi;have hf:=h.eE.few;have h3:Dh X.L (lg X.L X.S.v.tr i) (x:Int) (y:Int)<2^X.L.n:=Oc _ _ _ _ _ _ lQ;have hs:2^X.L.s<=4096:=Yt (n:=2) dQ (show X.L.s<=12 by omega);have hn:2^X.L.n<=256:=Yt (n:=2) dQ (show X.L.n<=8 by omega);exact⟨x,y,_,oQ,oQ,oQ,e⟩
theorem vQ(h:k<=1000000000):dc (k:Int):=by unfold dc;omega
theorem bU.cms(h:bU T X):∀ d∈X.S.v.tr,zbP d/\(lX d).length<=20:=by
 intro d hd;obtain⟨i,hi,rfl⟩:=List.mem_iff_getElem.1 hd;obtain⟨a,b,o,ha,hb,ho,e⟩:=h.small i hi;have ec:cd X.S.v.tr i=X.S.v.tr[i]:=by unfold cd;rw[Yc hi];rfl
 rw[ec]at e;rw[e];refine⟨⟨vQ oQ,vQ oQ,vQ oQ⟩,?_⟩;have h1:=QR (k:=a) oQ;have h2:=QR (k:=b) oQ;have h3:=QR (k:=o) oQ;unfold lX fY;simp[Lib.join,List.intercalate,List.intersperse];omega
theorem bU.zqz(h:bU T X):(DR X.S.v.tr).length<=30000:=by
 have QP:=zbQ (X.S.v.tr.map lX) [44,32] 30 fun x hx=>by
  obtain⟨d,hd,rfl⟩:=Ym.1 hx;have:=(h.cms d hd).2;simp;omega
 have hf:=h.cl.inv.jv.few;rw[Yh]at QP;unfold DR;omega
theorem bU.shown(h:bU T X):dc (oV X.S.v):=by
 unfold oV;split
 ·unfold dc;omega
 ·rename_i hn;have h0:0<X.S.v.tr.length:=by
   simp only[zr5,YB,not_or]at hn;omega
  obtain⟨a,b,o,_,_,ho,e⟩:=h.small (X.S.v.tr.length-1) oQ;rw[e];exact vQ (by show o<=_;omega)
theorem Lf(l:List Int)(h:∀ z∈l,dc z)(hl:l.length<=1000):(fY l).length<=30000:=by
 have:=Ax l h;omega
theorem bU.zqA(h:bU T X)(hT:T<2000000)(hk:k<3):dc (X.S.rp k).cycle/\dc ((X.S.rp k).st.set:Int):=by
 obtain⟨av,h0,h1⟩:=(h.cl.inv.rp k hk).ok hk h.eE oQ h.cl.inv.jv.few;refine⟨?_,vQ (by have:=av.st.set;omega)⟩;unfold dc;omega
theorem zbV{L:RC}(h:eA L):∀ z∈tR L,dc z:=by
 intro z hz;unfold tR at hz;obtain⟨k,_,rfl⟩:=Ym.1 hz;have:=WC L.zs k (by rw[h.len];have:=h.few;omega);exact vQ oQ
theorem zqB(h:cw s zs d=(0,-1)):eA (xG s zs d)/\((xG s zs d).s:Int)=s/\((xG s zs d).d:Int)=d:=by
 have hr:=oO h;unfold jY at hr;simp only[X6,mj]at hr;have e1:((xG s zs d).s:Int)=s:=by show((s.toNat:Nat):Int)=s;omega
 have e2:((xG s zs d).d:Int)=d:=by show((d.toNat:Nat):Int)=d;omega
 exact⟨⟨by rw[e1,e2];exact h,rfl⟩,e1,e2⟩
theorem zqC(h:Row V M 0 (a::d::s::zs)):Row V M 3 zs:=fun k hk=>by
 have:=h (k+3) tQ;rw[Yv]at this;rw[zuD 3 k,this];simp
theorem zqD{l:List Int}(h:kx V (some (aQ M 0)) n cap (a::l)):Row V M 0 (a::l)/\M<V.1.size:=by
 rcases h.2.2 with e|⟨b,o,e,hb,hr⟩
 ·cases e
 ·simp only[YA,zts,zsB]at e;obtain⟨rfl,rfl⟩:=e;exact⟨hr,hb⟩
theorem zqE(h:dc z):(gN z).length<=30000:=by
 have:=Lib.itoa_length_le z h.1 h.2;show([101,114,114,111,114,32]++Zu z).length<=30000;simp;omega
theorem zqF{W:YM}{L:RC}(h:bY V N c D X)(ik:M<V.1.size)(cG:m<=M)(aK:m<=V.1.size)(hL:eA L)(hr:Row V M 3 L.zs)
  (hQ:∃ E:SC,E.p=p/\aL W V.1.size E L win (ko win)/\E.us=[]/\E.lost=0/\YO V.1.size V W):
  ∃ N' c' D',c'.d=c.d/\c'.m=c.m/\bY ((((W.setCell (aQ c.d 0) (iQ (L.s:Int))).setCell (aQ c.d 1) (.slice (some (aQ M 3)) L.n L.n)).setCell (aQ c.d 2) (iQ (L.d:Int))).setCell (aQ c.d 3) (pQ p)) N' c' D' ⟨L,win,ko win,0⟩/\
   Mod V ((((W.setCell (aQ c.d 0) (iQ (L.s:Int))).setCell (aQ c.d 1) (.slice (some (aQ M 3)) L.n L.n)).setCell (aQ c.d 2) (iQ (L.d:Int))).setCell (aQ c.d 3) (pQ p)) (fun k=>Wr D k\/k=c.d)/\∀ k,ll c' D' k->ll c D k\/m<=k:=by
 obtain⟨E,hp,hS,hu,ee,hB⟩:=hQ;have oo:c.d<V.1.size:=h.lt (.inl rfl);have yD:c.m<V.1.size:=h.lt (.inr (.inl rfl));have aW:c.m≠c.d:=fun e=>by
  have hb:=h.dk.blk;obtain⟨es,hx,_⟩:=h.dk.map;rw[e,hb]at hx;cases hx
 have qM:W.1[c.d]?=some (.cells #[iQ (X.L.s:Int),.slice (some (aQ c.g c.o)) X.L.n c.cp,iQ (X.L.d:Int),pQ D.p,.map (some c.m)] 167 (0,0)):=(hB.block _ oo).trans h.dk.blk;have b1:=fZ qM 0 (iQ (L.s:Int));have m1:Mod W (W.setCell (aQ c.d 0) (iQ (L.s:Int))) (· = c.d):=(Mod.refl W _).set (aQ c.d 0) _ (fun _=>rfl);generalize W.setCell (aQ c.d 0) (iQ (L.s:Int))=x1 at b1 m1⊢;have b2:=fZ b1 1 (.slice (some (aQ M 3)) L.n L.n);have m2:Mod W (x1.setCell (aQ c.d 1) (.slice (some (aQ M 3)) L.n L.n)) (· = c.d):=m1.set (aQ c.d 1) _ (fun _=>rfl);generalize x1.setCell (aQ c.d 1) (.slice (some (aQ M 3)) L.n L.n)=x2 at b2 m2⊢;have b3:=fZ b2 2 (iQ (L.d:Int));have m3:Mod W (x2.setCell (aQ c.d 2) (iQ (L.d:Int))) (· = c.d):=m2.set (aQ c.d 2) _ (fun _=>rfl);generalize x2.setCell (aQ c.d 2) (iQ (L.d:Int))=x3 at b3 m3⊢;have b4:=fZ b3 3 (pQ p);have m4:Mod W (x3.setCell (aQ c.d 3) (pQ p)) (· = c.d):=m3.set (aQ c.d 3) _ (fun _=>rfl);generalize x3.setCell (aQ c.d 3) (pQ p)=x4 at b4 m4⊢;have bV:Row x4 M 3 L.zs:=by
  intro k hk;have bW:=hr k hk;have zqG:M≠c.d:=fun e=>by
   have hc:=bW;rw[e]at hc;have iV:=ay h.dk.blk (3+k);rw[hc]at iV;have tZ:k<2:=by
    rcases Ys k 2 with x|x
    ·exact x
    ·have:(#[iQ (X.L.s:Int),.slice (some (aQ c.g c.o)) X.L.n c.cp,iQ (X.L.d:Int),pQ D.p,.map (some c.m)]:Array YN)[3+k]?=none:=XX tQ;rw[this]at iV;cases iV
   rcases(by omega:k=0\/k=1)with rfl|rfl
   ·simp at iV
   ·simp at iV
  exact(Ze (w:=W) (m4.block M (Yr ik hB.size) zqG)).trans ((hB.cell (p:=(aQ M (3+k))) ik).trans bW)
 have hHd:=h.hi;have hBH:YO 7 W x4:=m4.toBelow (Yq h.dk.low (Yq h.dk.le hB.size)) fun k hk e=>oQ
 have oh:YO 7 V W:=hB.mono (Yq h.dk.low h.dk.le);have sY:aL x4 V.1.size E L win (ko win):=hS.others m4 (fun k hk e=>by
  rcases hk with hk|hk
  ·have:=hS.base k hk;omega
  ·have:=hS.vF k hk;omega) (fun i hi=>absurd hi (zxc i))
 refine⟨V.1.size,⟨c.d,c.m,M,3,L.n⟩,E,rfl,rfl,⟨⟨?_,bV,Yp _,oo,yD,ik,Yq h.dk.low h.dk.le,Yq hB.size m4.size,?_,(h.dk.num.lo oh lQ).lo hBH lQ,sY⟩,?_,(h.err.lo oh lQ).lo hBH lQ,hL,hHd⟩,(Mod.fB hB _).then m4 (fun k _ e=>.inr e),fun k hk=>?_⟩
 ·rw[hp];exact b4
 ·exact(h.dk.map.same (hB.block _ yD)).same (m4.block _ (Yr yD hB.size) aW)
 ·show E.lost=Zs (0-((0:Nat):Int));rw[ee];unfold Zs;omega
 ·rcases hk with x|x|x|x|x|⟨u,x,_⟩
  ·exact .inl (.inl x)
  ·exact .inl (.inr (.inl x))
  ·have x':k=M:=x;exact .inr oQ
  ·exact .inr (Yq aK (hS.base k x))
  ·exact .inr (Yq aK (hS.vF k x))
  ·rw[hu]at x;cases x
open Go.Shelf Go.Extern.Stop Go.Stop Go.Extern
attribute [local go_sem] run_store_func run_store_nilFunc
set_option maxRecDepth 100000 in
set_option maxHeartbeats 4000000 in
theorem zqH(d m:Nat)(bI x:List UInt8)(r:List (List UInt8))(w:YM)(hl:bI.length<=1000000)(hd:uO w d m)(hw:lH bI=x::r)(a b:Int)(f:Nat)(hk:(pZ d).lookup x=some (dC d a b f))(ha:a<=(r.length:Int))(hb:(r.length:Int)<=b)(hr:oX r=none):
  YR prog 61 #[pQ d,.string (txt bI)] w fun e w'=>e=.returned (.string (txt (gN 3)))/\YO w.1.size w w':=by
 have Gb:∀(fn:Fn)(first cap:Array YN)(w:YM),(zvi fn first cap).run prog w=.ok (.func fn first cap) w:=fun _ _ _ _=>rfl
 obtain⟨W,hW⟩:∃ W,Hid (w.alloc (.cells #[.string ⟨#[]⟩] 9)=W):=eQ;have aC:YO w.1.size w W:=by rw[<-hW.o];exact(YS _ _).alloc lQ _
 have bm:W.1.size=w.1.size+1:=by rw[<-hW.o];simp
 have fV:W.cell? (aQ w.1.size 0)=some (.string ⟨#[]⟩)/\W.frozen? (aQ w.1.size 0)=false:=by rw[<-hW.o];constructor<;>simp
 have HF:=ae (Gd bI W hl);rw[hw]at HF;have HC:Hid (∀ w1,YO W.1.size W w1->(w1.cell? (aQ w.1.size 0)=some (.string ⟨#[]⟩)/\w1.frozen? (aQ w.1.size 0)=false)):=ae fun w1 h=>
  ⟨(h.cell (p:=(aQ w.1.size 0)) (by show w.1.size<_;omega)).trans fV.1,(zs0 (h.block _ (by show w.1.size<_;omega))).trans fV.2⟩
 have HB:=ae aC;have HS:=ae bm;have HD:=ae hd;have HK:=ae hk;have HR:=ae hr;clear aC bm fV hd hk hr;go_enter_defers func61,ntmps61
 go_wp2_with fail
 rw[hW.o];refine HF.o.mono ?_;rintro e w1 ⟨A,n,rfl,rfl,hA,qY,p5,aG⟩;obtain⟨g0,g1⟩:=HC.o w1 aG;have eD:=ae (HB.o.trans (aG.mono HB.o.size));have c4:=(HD.o.below eD.o).c4;have cx:w1.cell? (aQ A 0)=some (.string (txt x)):=p5 0 x rfl;have jq:YO w.1.size w w1.drew:=eD.o.drew;have k1:=HD.o.look jq x;have iK:YO w1.1.size w1 (w1.alloc (.cells #[iQ 0,iQ 0,.nilFunc] 178)):=(YS _ _).alloc lQ _;have k2:=HD.o.look (eD.o.trans (iK.mono eD.o.size)).drew x;have FE:(w1.alloc (.cells #[iQ 0,iQ 0,.nilFunc] 178)).cell? (aQ d 4)=some (.map (some m)):=(iK.cell (p:=(aQ d 4)) (HD.o.below eD.o).lt).trans c4;have OD:(w1.alloc (.cells #[iQ 0,iQ 0,.nilFunc] 178)).cell? (aQ A 0)=some (.string (txt x)):=(iK.cell (p:=(aQ A 0)) qY).trans cx;rw[HK.o]at k1 k2;simp only[zxj,zzo,dC]at k1 k2;have cP:(x::r).length=r.length+1:=rfl;rw[cP];obtain⟨oA,QN,jG⟩:∃ oA,Hid ((r=[]/\oA=0)\/(¬r=[]/\oA=1))/\CN w1 (some (aQ A oA)) r.length r.length r:=by
  by_cases oM:r=[]
  ·exact⟨0,ae (.inl ⟨oM,rfl⟩),⟨rfl,Yp _,.inl oM⟩⟩
  ·exact⟨1,ae (.inr ⟨oM,rfl⟩),⟨rfl,Yp _,.inr ⟨A,1,rfl,qY,fun j y hy=>by rw[zuD];exact p5 (j+1) y (by rw[zsb];exact hy)⟩⟩⟩
 clear p5 jq HF HC iK;have CO:(0:Int)<(r.length:Int)+1:=oQ;have kR:0<r.length+1:=oQ;have Hn:r.length<=1000001:=by
  have h1:=JG bI;rw[hw,cP]at h1;omega
 have pC:Zs (r.length:Int)=(r.length:Int):=zuw _ ⟨oQ,oQ⟩;have Dc:decide ((r.length:Int)<a)=false:=YD oQ;have O9:decide (b<(r.length:Int))=false:=YD oQ;have jQ:(1:Int)<=(r.length:Int)+1:=oQ;obtain⟨V,hV⟩:∃ V,Hid ((w1.alloc (.cells #[iQ a,iQ b,.func (.func f) #[pQ d] #[]] 178)).drew=V):=eQ;have oh:YO w1.1.size w1 V:=by rw[<-hV.o];exact((YS _ _).alloc lQ _).drew
 have nO:V.cell? (aQ w1.1.size 2)=some (.func (.func f) #[pQ d] #[]):=by rw[<-hV.o];simp
 have La:w1.1.size<V.1.size:=by rw[<-hV.o];simp
 have aj:w.1.size<w1.1.size:=by have:=HS.o;have:=aG.size;omega
 have HN:Hid (YR prog 101 #[.slice (some (aQ A oA)) r.length r.length] V.drew fun e V'=>e=thrown 3/\(V'.cell? (aQ w.1.size 0)=some (.string ⟨#[]⟩)/\V'.frozen? (aQ w.1.size 0)=false)/\Hid (ml V'/\w.1.size<V'.1.size/\YO w.1.size w V')):=ae (by
  refine(Wh r (some (aQ A oA)) r.length r.length V.drew ((jG.below oh).below (YS _ _).drew) (fun y hy=>?_) oQ (((HD.o.below eD.o).num.below oh).below (YS _ _).drew)).mono ?_
  ·have AY:y∈lH bI:=by rw[hw];exact List.mem_cons_of_mem _ hy
   exact Yq (WA AY) hl
  rintro e V' ⟨hB,⟨_,rfl⟩|⟨l',M,hl',_⟩⟩
  ·have om:YO w1.1.size w1 V':=oh.trans (((YS _ _).drew.trans hB).mono oh.size);exact⟨rfl,⟨(om.cell (p:=(aQ w.1.size 0)) aj).trans g0,(zs0 (om.block _ aj)).trans g1⟩,ae ⟨((HD.o.below eD.o).num.below om).pow,Yr aj om.size,eD.o.trans (om.mono eD.o.size)⟩⟩
  ·rw[HR.o]at hl';cases hl')
 clear ha hb jG oh La;have eB:V.drew.cell? (aQ w1.1.size 2)=some (.func (.func f) #[pQ d] #[]):=by simpa using nO
 go_wp2
 go_region
 all_goals
  go_wp2
  rw[hV.o];refine Zh (S:=fun W=>W.cell? (aQ w1.1.size 2)=some (.func (.func f) #[pQ d] #[])) kQ eB (fun af=>?_);refine Y5 (i:=0) (oi:=_) (v:=.pointer (some (aQ w1.1.size 2))) rfl kQ kQ kQ (fun c a w h=>yz dQ c a w h) (Zj ⟨rQ,fun w _=>by go_simp⟩) af ?_;simp only[Zk,ZQ,ZP,ZR,ZT,ZU];refine Y5 (i:=1) (oi:=_) (v:=.func (.func f) #[pQ d] #[]) rfl kQ kQ kQ (fun c a w h=>yz dQ c a w h) (Zj ⟨rQ,fun w h=>by go_simp⟩) af ?_;simp only[Zk,ZQ,Z4,ZP,ZR,ZT,ZU];refine Y5 (i:=2) (oi:=_) (v:=.slice (some (aQ A 0)) (r.length+1) (r.length+1)) rfl kQ kQ kQ (fun c a w h=>yz dQ c a w h) (Zj ⟨rQ,fun w _=>by go_simp⟩) af ?_;simp only[Zk,ZQ,Z4,ZP,ZR,ZT,ZU];refine Y5 (i:=3) (oi:=_) (v:=.slice (some (aQ A oA)) r.length r.length) rfl kQ kQ kQ (fun c a w h=>yz dQ c a w h) (Zj ⟨rQ,fun w _=>by rcases QN.o with ⟨h1,h2⟩|⟨h1,h2⟩<;>subst h2<;>go_simp<;>simp[h1]⟩) af ?_;simp only[Zk,ZQ,Z4,ZP,ZR,ZT,ZU];refine aR 4 fun K hK=>?_
  go_simp;go_at_call 101;refine HN.o.mono ?_;rintro e U ⟨rfl,⟨u0,u1⟩,hs⟩;unfold thrown;dsimp only;refine zuW (f:=98) (args:=#[pQ w.1.size]) sQ (by simp[go_sem]) ?_;refine(JF (aQ w.1.size 0) 3 (.string ⟨#[]⟩) U (by constructor<;>decide) hs.o.1 hs.o.2.1 u0 u1).mono ?_;rintro e u' w2 ⟨rfl,rfl,w3,aZ,rfl⟩;have q0:w3.cell? (aQ w.1.size 0)=some (.string ⟨#[]⟩):=(aZ.cell (p:=(aQ w.1.size 0)) hs.o.2.1).trans u0;simp[Leaves,settle,results,results61,go_sem,q0];exact(hs.o.2.2.trans (aZ.mono hs.o.2.2.size)).setCell (Yp _) _
attribute [local go_sem] run_store_func run_store_nilFunc
set_option maxRecDepth 100000 in
set_option maxHeartbeats 4000000 in
theorem zqI(d m:Nat)(bI x:List UInt8)(r:List (List UInt8))(w:YM)(hl:bI.length<=1000000)(hd:uO w d m)(hw:lH bI=x::r)(a b:Int)(f:Nat)(hk:(pZ d).lookup x=some (dC d a b f))(ud:(r.length:Int)<a\/b<(r.length:Int)):
  YR prog 61 #[pQ d,.string (txt bI)] w fun e w'=>e=.returned (.string (txt (gN 3)))/\YO w.1.size w w':=by
 have Gb:∀(fn:Fn)(first cap:Array YN)(w:YM),(zvi fn first cap).run prog w=.ok (.func fn first cap) w:=fun _ _ _ _=>rfl
 obtain⟨W,hW⟩:∃ W,Hid (w.alloc (.cells #[.string ⟨#[]⟩] 9)=W):=eQ;have aC:YO w.1.size w W:=by rw[<-hW.o];exact(YS _ _).alloc lQ _
 have bm:W.1.size=w.1.size+1:=by rw[<-hW.o];simp
 have fV:W.cell? (aQ w.1.size 0)=some (.string ⟨#[]⟩)/\W.frozen? (aQ w.1.size 0)=false:=by rw[<-hW.o];constructor<;>simp
 have HF:=ae (Gd bI W hl);rw[hw]at HF;have HC:Hid (∀ w1,YO W.1.size W w1->(w1.cell? (aQ w.1.size 0)=some (.string ⟨#[]⟩)/\w1.frozen? (aQ w.1.size 0)=false)):=ae fun w1 h=>
  ⟨(h.cell (p:=(aQ w.1.size 0)) (by show w.1.size<_;omega)).trans fV.1,(zs0 (h.block _ (by show w.1.size<_;omega))).trans fV.2⟩
 have HB:=ae aC;have HS:=ae bm;have HD:=ae hd;have HK:=ae hk;clear aC bm fV hd hk;go_enter_defers func61,ntmps61
 go_wp2_with fail
 rw[hW.o];refine HF.o.mono ?_;rintro e w1 ⟨A,n,rfl,rfl,hA,qY,p5,aG⟩;obtain⟨g0,g1⟩:=HC.o w1 aG;have eD:=ae (HB.o.trans (aG.mono HB.o.size));have c4:=(HD.o.below eD.o).c4;have cx:w1.cell? (aQ A 0)=some (.string (txt x)):=p5 0 x rfl;have jq:YO w.1.size w w1.drew:=eD.o.drew;have k1:=HD.o.look jq x;have iK:YO w1.1.size w1 (w1.alloc (.cells #[iQ 0,iQ 0,.nilFunc] 178)):=(YS _ _).alloc lQ _;have k2:=HD.o.look (eD.o.trans (iK.mono eD.o.size)).drew x;have FE:(w1.alloc (.cells #[iQ 0,iQ 0,.nilFunc] 178)).cell? (aQ d 4)=some (.map (some m)):=(iK.cell (p:=(aQ d 4)) (HD.o.below eD.o).lt).trans c4;have OD:(w1.alloc (.cells #[iQ 0,iQ 0,.nilFunc] 178)).cell? (aQ A 0)=some (.string (txt x)):=(iK.cell (p:=(aQ A 0)) qY).trans cx;rw[HK.o]at k1 k2;simp only[zxj,zzo,dC]at k1 k2;have cP:(x::r).length=r.length+1:=rfl;rw[cP];clear p5 jq HF HC iK;have CO:(0:Int)<(r.length:Int)+1:=oQ;have kR:0<r.length+1:=oQ;have HE:Hid (∀ V,YO w1.1.size w1 V->CallsD prog 98 #[pQ w.1.size] (.panicking [{v:=.iface 74 (iQ 3),recovered:=false}]) V fun e u' w'=>
   e=.returned (.tuple #[])/\u'=.panicking [{v:=.iface 74 (iQ 3),recovered:=true}]/\w'.cell? (aQ w.1.size 0)=some (.string (txt (gN 3)))/\YO w.1.size w w'):=ae fun V hV=>by
  have aj:w.1.size<w1.1.size:=by have:=HS.o;have:=aG.size;omega
  refine(JF (aQ w.1.size 0) 3 (.string ⟨#[]⟩) V (by constructor<;>decide) ((HD.o.below eD.o).num.below hV).pow (Yr aj hV.size) ((hV.cell (p:=(aQ w.1.size 0)) aj).trans g0) ((zs0 (hV.block _ aj)).trans g1)).mono ?_;rintro e u' w' ⟨rfl,rfl,w2,aS,rfl⟩;have gX:w2.cell? (aQ w.1.size 0)=some (.string ⟨#[]⟩):=(aS.cell (p:=(aQ w.1.size 0)) (Yr aj hV.size)).trans ((hV.cell (p:=(aQ w.1.size 0)) aj).trans g0);exact⟨rfl,rfl,World.cell?_setCell_same' _ _ _ (by rw[gX];rfl),(eD.o.trans ((hV.trans (aS.mono hV.size)).mono eD.o.size)).setCell (Yp _) _⟩
 have Hn:r.length<=1000001:=by
  have h1:=JG bI;rw[hw,cP]at h1;omega
 have pC:Zs (r.length:Int)=(r.length:Int):=zuw _ ⟨oQ,oQ⟩;have Ge:YO w1.1.size w1 (w1.alloc (.cells #[iQ a,iQ b,.func (.func f) #[pQ d] #[]] 178)).drew:=((YS _ _).alloc lQ _).drew;have CP:=ae (HE.o _ Ge);clear HE Ge Hn;by_cases zbW:(r.length:Int)<a
 ·have Dc:decide ((r.length:Int)<a)=true:=YE zbW;clear ud;go_wp2
  go_region
  all_goals
   go_wp2
   refine zuW (f:=98) (args:=#[pQ w.1.size]) sQ (by simp[go_sem]) ?_;refine CP.o.mono ?_;rintro e u' w2 ⟨rfl,rfl,q0,q1⟩;simp[Leaves,settle,results,results61,go_sem,q0];exact q1
 ·have ur:b<(r.length:Int):=oQ;have Dc:decide ((r.length:Int)<a)=false:=YD zbW;have O9:decide (b<(r.length:Int))=true:=YE ur;clear ud;go_wp2
  go_region
  all_goals
   go_wp2
   refine zuW (f:=98) (args:=#[pQ w.1.size]) sQ (by simp[go_sem]) ?_;refine CP.o.mono ?_;rintro e u' w2 ⟨rfl,rfl,q0,q1⟩;simp[Leaves,settle,results,results61,go_sem,q0];exact q1
variable {N:Nat}{c:kp}{D:SC}{X:DS}{T:Nat}
theorem QS{b:Int}(h1:dc a)(h2:dc b):∀ z∈[a,b],dc z:=by
 intro z hz;simp only[Yl,Yo,YL]at hz;rcases hz with rfl|rfl
 ·exact h1
 ·exact h2
theorem zqJ(V:YM)(m M:Nat)(a d s:Int)(zs:List Int)(h:bY V N c D X)(hI:bU T X)(hz:0<zs.length)(hzl:zs.length<=1000000)(eW:kx V (some (aQ M 0)) (zs.length+3) (zs.length+3) (a::d::s::zs))(cG:m<=M)(aK:m<=V.1.size):
  YR prog 93 #[pQ c.d,.slice (some (aQ M 0)) (zs.length+3) (zs.length+3)] V fun e V'=>∃ X' t,D5 a d s zs X X' t/\Lb m V V' c D T e X' t:=by
 obtain⟨hr,ik⟩:=zqD eW;have jm:=zqC hr;by_cases lJ:cw s zs d=(0,-1)
 ·obtain⟨hL,e1,e2⟩:=zqB lJ;by_cases hw:a<1\/20<a
  ·refine(zbU V c.d M zs.length a d s zs hz ik hr 2 (2,-1) dQ rfl fun W hB aj=>?_).mono ?_
   ·have:=zqk (xG s zs d) a M 3 zs.length W hL hw (Yr ik hB.size) (jm.below ik hB);rw[e1,e2]at this;refine this.mono ?_;rintro e w' ⟨rfl,cN⟩;exact⟨⟨_,_,0,rfl,zbM w' 0⟩,((h.below hB).below cN).err,cN⟩
   ·rintro e V' ⟨rfl,hB⟩;exact⟨X,gN 2,.inr ⟨lJ,.inl ⟨hw,rfl,rfl⟩⟩,hI.later oQ,Lc,(h.stays hB).q aK,.inr ⟨2,rfl,Le,rfl⟩⟩
  ·have ea:((a.toNat:Nat):Int)=a:=oQ;have qM:=h.dk.blk;have oo:c.d<V.1.size:=h.lt (.inl rfl);refine(zqo V c.d M zs.length a d s zs hz ik hr (fun p W=>∃ E:SC,E.p=p/\aL W V.1.size E (xG s zs d) a.toNat (ko a.toNat)/\E.us=[]/\E.lost=0/\YO V.1.size V W) (iQ (X.L.s:Int)) (.slice (some (aQ c.g c.o)) X.L.n c.cp) (iQ (X.L.d:Int)) (pQ D.p) fun W hB aj=>?_).mono ?_
   ·have:=zbT V.1.size (xG s zs d) a.toNat M 3 zs.length W hL oQ oQ (Yr ik hB.size) (jm.below ik hB) hB.size;rw[e1,e2,ea]at this;refine this.mono ?_;rintro e w' ⟨⟨E,rfl,_,hS,hu,ee⟩,cN⟩;have iz:=hB.trans (cN.mono hB.size);have aX:=(iz.block _ oo).trans qM;exact⟨E.p,rfl,⟨E,rfl,hS,hu,ee,iz⟩,⟨(ay aX 0).trans rfl,(ay aX 1).trans rfl,(ay aX 2).trans rfl,(ay aX 3).trans rfl⟩,⟨fL aX 0,fL aX 1,fL aX 2,fL aX 3⟩,cN⟩
   ·rintro e V' ⟨rfl,p,W,hQ,rfl⟩;have Ef:=zqF h ik cG aK hL jm hQ;rw[e1,e2]at Ef;exact⟨_,_,.inr ⟨lJ,.inr ⟨hw,rfl,rfl⟩⟩,bU.of (bu.new (T:=T+600) oQ oQ) hL lQ,dQ,Ef,.inl rfl⟩
 ·have hc9:=zqn s zs d;have fW:dc (((cw s zs d).1:Nat):Int):=vQ oQ;have hf:(cw s zs d).1≠0:=fun e=>lJ (by
   have:cw s zs d=(0,-1)\/(cw s zs d).1≠0:=by
    unfold cw;split
    ·split
     ·exact .inr (by show(1:Nat)≠0;omega)
     ·split
      ·exact .inr (by show(9:Nat)≠0;omega)
      ·exact .inl rfl
    ·exact .inr (by show(2:Nat)≠0;omega)
   rcases this with x|x
   ·exact x
   ·exact absurd e x)
  refine(zbU V c.d M zs.length a d s zs hz ik hr (((cw s zs d).1:Nat):Int) (cw s zs d) hf rfl fun W hB aj=>?_).mono ?_
  ·refine(zqm s d a M 3 zs.length zs.length zs W rfl hz hzl (Yr ik hB.size) (jm.below ik hB) lJ).mono ?_;rintro e w' ⟨⟨t,x,lo,rfl,he⟩,cN⟩;exact⟨⟨t,x,lo,rfl,he⟩,((h.below hB).below cN).err,cN⟩
  ·rintro e V' ⟨rfl,hB⟩;exact⟨X,_,.inl ⟨lJ,rfl,rfl⟩,hI.later oQ,zqE fW,(h.stays hB).q aK,.inr ⟨_,rfl,fW,rfl⟩⟩
theorem zqK(o:Nat)(a b:Int)(ud:∃ x,(x,(a,b,o))∈rN)(l:List Int)(xI:a<=(l.length:Int))(hlb:(l.length:Int)<=b)(QT:l.length<=1000000)(V:YM)(m M:Nat)(h:bY V N c D X)(hI:bU T X)(hT:T<1000000)(hM:¬Wr D M)(cG:m<=M)(aK:m<=V.1.size)
  (eW:kx V (some (aQ M 0)) l.length l.length l):
  YR prog (rR o) #[pQ c.d,.slice (some (aQ M 0)) l.length l.length] V fun e V'=>∃ X' s,xH o l X X' s/\Lb m V V' c D T e X' s:=by
 obtain⟨x,hx⟩:=ud;have one:(l.length:Int)=1->∃ z,l=[z]:=fun e=>by
  match l,e with
  |[z],_=>exact⟨z,rfl⟩
 have nil:(l.length:Int)=0->l=[]:=fun e=>zsh.1 oQ
 simp only[rN,Yl,zsA,Yo,YL]at hx;rcases hx with ⟨_,ea,eb,rfl⟩|⟨_,ea,eb,rfl⟩|⟨_,ea,eb,rfl⟩|⟨_,ea,eb,rfl⟩|⟨_,ea,eb,rfl⟩|⟨_,ea,eb,rfl⟩|⟨_,ea,eb,rfl⟩|⟨_,ea,eb,rfl⟩|⟨_,ea,eb,rfl⟩|⟨_,ea,eb,rfl⟩|⟨_,ea,eb,rfl⟩|⟨_,ea,eb,rfl⟩|⟨_,ea,eb,rfl⟩|⟨_,ea,eb,rfl⟩|⟨_,ea,eb,rfl⟩|⟨_,ea,eb,rfl⟩|⟨_,ea,eb,rfl⟩
 ·obtain⟨z,rfl⟩:=one oQ;refine(zpZ V M 1 1 z (DT z X) h oQ (qs eW rfl) hM (zqp z hI)).mono fun e V' hh=>?_
  obtain⟨X',s,h1,h2⟩:=BC hh hI (fun X' e=>hI.ask e) dQ aK;exact⟨X',s,h1,h2⟩
 ·match l,xI,QT,eW with
  |[],xI,_,_=>simp at xI;omega
  |[_],xI,_,_=>simp at xI;omega
  |[_,_],xI,_,_=>simp at xI;omega
  |[_,_,_],xI,_,_=>simp at xI;omega
  |a1::d1::s1::z1::zs,_,QT,eW=>exact zqJ V m M a1 d1 s1 (z1::zs) h hI sQ (by simp at QT⊢;omega) eW cG aK
 ·obtain⟨z,rfl⟩:=one oQ;by_cases hz:z<0\/100<z
  ·refine(zqf V c.d M 1 1 z oQ (qs eW rfl) hz).mono ?_;rintro e V' ⟨rfl,rfl⟩;exact⟨X,gN 2,.inl ⟨hz,rfl,rfl⟩,hI.later oQ,Lc,(h.stays (YS _ _)).q aK,.inr ⟨2,rfl,Le,rfl⟩⟩
  ·have ez:((z.toNat:Nat):Int)=z:=oQ;have iV:=qs eW (i:=0) rfl;rw[<-ez]at iV;refine(zqe V M 1 1 z.toNat h oQ iV hM oQ hI.cl oQ).mono ?_;rintro e V' ⟨rfl,S',c',h1,h2,hA⟩;exact⟨_,_,.inr ⟨hz,S',c',h1,rfl,rfl⟩,bU.of h2.inv hI.eE oQ,dQ,hA.q aK,.inl rfl⟩
 ·obtain rfl:=nil oQ;refine(zn3 V _ h.dk h.eE (zbV h.eE)).mono ?_;rintro e V' ⟨he,hB⟩;exact⟨X,_,⟨rfl,rfl⟩,BD h hI he hB (Lf _ (zbV h.eE) (by unfold tR;have:=h.eE.few;simp;omega)) aK⟩
 ·obtain⟨z,rfl⟩:=one oQ;refine(zp4 V M 1 1 z (DU z X) h oQ (qs eW rfl) hM (zqq z)).mono fun e V' hh=>?_
  obtain⟨X',s,h1,h2⟩:=BC hh hI (fun X' e=>hI.PY e) dQ aK;exact⟨X',s,h1,h2⟩
 ·obtain⟨z,rfl⟩:=one oQ;refine(zp1 V M 1 1 z (DX z X) h oQ (qs eW rfl) hM (zqt z hI oQ)).mono fun e V' hh=>?_
  obtain⟨X',s,h1,h2⟩:=BC hh hI (fun X' e=>hI.zqw e) dQ aK;exact⟨X',s,h1,h2⟩
 ·obtain rfl:=nil oQ;refine(zp7 V _ _).mono ?_;rintro e V' ⟨he,rfl⟩;exact⟨X,_,⟨rfl,rfl⟩,BD h hI he (YS _ _) dQ aK⟩
 ·obtain rfl:=nil oQ;refine(zp5 V _ h).mono ?_;rintro e V' ⟨he,hA⟩;exact⟨_,_,⟨rfl,rfl⟩,bU.of hI.cl.inv.Om hI.eE oQ,dQ,hA.q aK,.inl he⟩
 ·obtain⟨z,rfl⟩:=one oQ;refine(zp2 V M 1 1 z (DY z X) h oQ (qs eW rfl) hM (zqu z hI)).mono fun e V' hh=>?_
  obtain⟨X',s,h1,h2⟩:=BC hh hI (fun X' e=>hI.zqx e) dQ aK;exact⟨X',s,h1,h2⟩
 ·obtain rfl:=nil oQ;have hmn:=hI.cl.inv.many;refine(zp6 V _ h oQ).mono ?_;rintro e V' ⟨he,hB⟩;refine⟨X,_,⟨rfl,rfl⟩,BD h hI he hB (Lf _ ?_ (by unfold zr;simp)) aK⟩;unfold zr;exact QS (vQ oQ) (zbN _)
 ·obtain rfl:=nil oQ;have gY:=zlV X.L.zs (by have:=h.eE.few;rw[h.eE.len];omega);have hf:=h.eE.few;have fW:dc ((most (lI X.L.zs):Nat):Int):=vQ (by rw[h.eE.len]at gY;omega);refine(zn4 V _ h.dk h.eE fW).mono ?_;rintro e V' ⟨he,hB⟩;exact⟨X,_,⟨rfl,rfl⟩,BD h hI he hB (Lf _ (by intro z hz;rw[zsm.1 hz];exact fW) sQ) aK⟩
 ·obtain⟨z,rfl⟩:=one oQ;by_cases hz:cV z=true
  ·obtain⟨hk,ez⟩:=zu hz;obtain⟨i1,i2⟩:=hI.zqA oQ hk;refine(zqh V M 1 1 z _ _ i1 i2 h oQ (qs eW rfl) fun W hW=>?_).mono ?_
   ·have:=znQ N D X.L X.win X.S W z.toNat hk hW.dk.sys;rw[ez]at this;exact this
   ·rintro e V' ⟨he,hB⟩;refine⟨X,Hp z X,⟨rfl,rfl⟩,?_⟩;have er:Hp z X=fY [(X.S.rp z.toNat).cycle,((X.S.rp z.toNat).st.set:Int)]:=YH hz;rw[er];exact BD h hI he hB (Lf _ (QS i1 i2) sQ) aK
  ·refine(zqi V M 1 1 z 0 dK h oQ (qs eW rfl) fun W hW=>zqg D.p z W (by simpa using hz)).mono ?_;rintro e V' ⟨rfl,hA⟩;exact⟨X,Hp z X,⟨rfl,rfl⟩,hI.later oQ,by rw[show Hp z X=gN 2 from YG hz];exact Lc,hA.q aK,.inr ⟨2,YG hz,Le,rfl⟩⟩
 ·have h3:l.length=3:=oQ;match l,h3,eW with
  |[z,x,y],_,eW=>
   refine(zqd V M 3 3 z x y (DV z x y X) h oQ (qs eW rfl) (qs eW (i:=1) rfl) (qs eW (i:=2) rfl) hM (zqr z x y)).mono fun e V' hh=>?_
   obtain⟨X',s,h1,h2⟩:=BC hh hI (fun X' e=>hI.see e) dQ aK;exact⟨X',s,h1,h2⟩
 ·obtain rfl:=nil oQ;have P1:=hI.cl.inv.jv.out;have i2:dc (X.S.v.out:Int):=vQ oQ;refine(zn5 V _ h.dk hI.cl.inv.jv hI.shown i2).mono ?_;rintro e V' ⟨he,hB⟩;refine⟨X,_,⟨rfl,rfl⟩,BD h hI he hB ?_ aK⟩;have h1:=Ax [oV X.S.v,(X.S.v.out:Int)] (QS hI.shown i2);unfold G9;have hb:(Lib.formatBool X.S.v.dh).length<=5:=by cases X.S.v.dh<;>decide
  simp at h1⊢;omega
 ·obtain⟨z,rfl⟩:=one oQ;refine(zp0 V M 1 1 z (DW z X) h oQ (qs eW rfl) hM (zqs z hI oQ)).mono fun e V' hh=>?_
  obtain⟨X',s,h1,h2⟩:=BC hh hI (fun X' e=>hI.tick e) dQ aK;exact⟨X',s,h1,h2⟩
 ·obtain rfl:=nil oQ;have hf:=hI.cl.inv.jv.few;refine(zp9 V _ h.dk hI.cl.inv.jv oQ fun d hd=>(hI.cms d hd).1).mono ?_;rintro e V' ⟨he,hB⟩;exact⟨X,_,⟨rfl,rfl⟩,BD h hI he hB hI.zqz aK⟩
 ·obtain⟨z,rfl⟩:=one oQ;refine(zp3 V M 1 1 z (DZ z X) h oQ (qs eW rfl) hM (zqv z hI)).mono fun e V' hh=>?_
  obtain⟨X',s,h1,h2⟩:=BC hh hI (fun X' e=>hI.twice e) dQ aK;exact⟨X',s,h1,h2⟩
variable {N:Nat}{c:kp}{D:SC}{X:DS}{T:Nat}
theorem zqL{r:List (List UInt8)}{l:List Int}(h:oX r=some l):l.length=r.length:=by
 unfold oX at h;split at h
 ·cases h;simp
 ·cases h
theorem zqM{b:Int}{o:Nat}(h:∃ x,(x,(a,b,o))∈rN):∀ args w,(callFunc (rR o) args).run prog w=.ok (.enter (rR o) args) w:=by
 obtain⟨x,hx⟩:=h;simp only[rN,Yl,zsA,Yo,YL]at hx;rcases hx with ⟨_,_,_,rfl⟩|⟨_,_,_,rfl⟩|⟨_,_,_,rfl⟩|⟨_,_,_,rfl⟩|⟨_,_,_,rfl⟩|⟨_,_,_,rfl⟩|⟨_,_,_,rfl⟩|⟨_,_,_,rfl⟩|⟨_,_,_,rfl⟩|⟨_,_,_,rfl⟩|⟨_,_,_,rfl⟩|⟨_,_,_,rfl⟩|⟨_,_,_,rfl⟩|⟨_,_,_,rfl⟩|⟨_,_,_,rfl⟩|⟨_,_,_,rfl⟩|⟨_,_,_,rfl⟩
 ·exact ZV func143 kQ rfl
 ·exact ZV func93 kQ rfl
 ·exact ZV func144 kQ rfl
 ·exact ZV func145 kQ rfl
 ·exact ZV func146 kQ rfl
 ·exact ZV func147 kQ rfl
 ·exact ZV func148 kQ rfl
 ·exact ZV func149 kQ rfl
 ·exact ZV func150 kQ rfl
 ·exact ZV func151 kQ rfl
 ·exact ZV func152 kQ rfl
 ·exact ZV func153 kQ rfl
 ·exact ZV func154 kQ rfl
 ·exact ZV func155 kQ rfl
 ·exact ZV func156 kQ rfl
 ·exact ZV func157 kQ rfl
 ·exact ZV func158 kQ rfl
theorem QU:(gN 3).length<=30000:=by decide +kernel
theorem zqN{w:YM}{X':DS}(h:bY w N c D X)(hQ:∃ N' c' D',c'.d=c.d/\c'.m=c.m/\bY V N' c' D' X'/\Mod w V (fun k=>Wr D k\/k=c.d)/\∀ k,ll c' D' k->ll c D k\/w.1.size+1<=k)(hm:Mod V w' (fun k=>k=w.1.size)):iG w w' c D X':=by
 obtain⟨N',c',D',e1,e2,h1,h2,h3⟩:=hQ;refine⟨N',c',D',e1,e2,h1.others hm (fun k hk e=>?_) (fun k e=>?_),h2.then hm (fun k hk e=>oQ),fun k hk=>(h3 k hk).imp id fun x=>oQ⟩
 ·rcases h3 k hk with x|x
  ·have:=h.lt x;omega
  ·omega
 ·rw[e];exact Yq h.dk.low h.dk.le
theorem zqO(bI:List UInt8)(hl:bI.length<=1000000)(w:YM)(h:bY w N c D X)(hI:bU T X)(hT:T<1000000):
  YR prog 61 #[pQ c.d,.string (txt bI)] w fun e w'=>∃ s X',e=.returned (.string (txt s))/\nw X bI X' s/\bU (T+600) X'/\s.length<=30000/\iG w w' c D X':=by
 cases hw:lH bI with
 |nil=>
  refine(zkb c.d bI w hl hw).mono ?_;rintro e w' ⟨rfl,hB⟩;exact⟨_,X,rfl,by unfold nw;rw[hw];exact⟨rfl,rfl⟩,hI.later oQ,dQ,h.stays hB⟩
 |cons x r=>
  have Lg:=zqb c.d x;cases hk:rN.lookup x with
  |none=>
   rw[hk]at Lg;refine(zkc c.d c.m bI x r w hl h.dk.KG hw Lg).mono ?_;rintro e w' ⟨rfl,hB⟩;exact⟨_,X,rfl,by unfold nw;rw[hw];dsimp only;rw[hk];exact⟨rfl,rfl⟩,hI.later oQ,QU,h.stays hB⟩
  |some p=>
   obtain⟨a,b,o⟩:=p;rw[hk]at Lg;have QV:(pZ c.d).lookup x=some (dC c.d a b (rR o)):=Lg;have bh:∀ X' s,(if(r.length:Int)<a\/b<(r.length:Int)then X'=X/\s=gN 3 else match oX r with|none=>X'=X/\s=gN 3|some l=>xH o l X X' s)->nw X bI X' s:=fun X' s hh=>by
    unfold nw;rw[hw];dsimp only;rw[hk];exact hh
   by_cases hc:(r.length:Int)<a\/b<(r.length:Int)
   ·refine(zqI c.d c.m bI x r w hl h.dk.KG hw a b (rR o) QV hc).mono ?_;rintro e w' ⟨rfl,hB⟩;exact⟨_,X,rfl,bh _ _ (by rw[YH hc];exact⟨rfl,rfl⟩),hI.later oQ,QU,h.stays hB⟩
   ·have hef:∀ args w,(callFunc (rR o) args).run prog w=.ok (.enter (rR o) args) w:=zqM (zbS hk);cases hs:oX r with
    |none=>
     refine(zqH c.d c.m bI x r w hl h.dk.KG hw a b (rR o) QV oQ oQ hs).mono ?_;rintro e w' ⟨rfl,hB⟩;exact⟨_,X,rfl,bh _ _ (by rw[YG hc,hs];exact⟨rfl,rfl⟩),hI.later oQ,QU,h.stays hB⟩
    |some l=>
     have Hn:l.length=r.length:=zqL hs;have Kc:r.length<=1000000:=by
      have h1:=JG bI;rw[hw]at h1;simp at h1;omega
     refine(zpW c.d c.m bI x r w hl h.dk.KG hw a b (rR o) l QV oQ oQ hs hef (fun s V'=>∃ X',xH o l X X' s/\bU (T+600) X'/\s.length<=30000/\∃ N' c' D',c'.d=c.d/\c'.m=c.m/\bY V' N' c' D' X'/\Mod w V' (fun k=>Wr D k\/k=c.d)/\∀ k,ll c' D' k->ll c D k\/w.1.size+1<=k) fun V M hB aj ik eW fW=>?_).mono ?_
     ·rw[<-Hn]at eW⊢;refine(zqK o a b (zbS hk) l oQ oQ oQ V (w.1.size+1) M (h.below hB) hI hT (fun fH=>by have:=h.lt (k:=M) (eO (.inl fH));omega) oQ oQ eW).mono ?_;rintro e V' ⟨X',s,hO,hX,QW,⟨N',c',D',e1,e2,h1,h2,h3⟩,he⟩;refine⟨h2.mono fun k _ dB=>?_,s,⟨X',hO,hX,QW,N',c',D',e1,e2,h1,(Mod.fB hB _).then h2 (fun _ _ x=>x),h3⟩,?_⟩
      ·rcases dB with x|x
       ·exact h.lt (eO (.inl x))
       ·exact h.lt (.inl x)
      ·rcases he with he|⟨z,z1,z2,z3⟩
       ·exact .inl he
       ·exact .inr ⟨z,z1,z2,h1.dk.num.pow,z3⟩
     ·rintro e w' ⟨s,V',⟨X',hO,hX,QW,hQ⟩,rfl,hm⟩;exact⟨s,X',rfl,bh _ _ (by rw[YG hc,hs];exact hO),hX,QW,zqN h hQ hm⟩
theorem zqP{w2:YM}{d b:Nat}(h:∃ D,D.lost=0/\D.p=p/\aL w2 V.1.size D L0 10 (ko 10)/\YO V.1.size V w2/\w2.1[d]?=some (.cells #[iQ 0,.slice none 0 0,iQ 0,.pointer none,.map (some m)] 167 (0,0))/\d<V.1.size):
    ∃ D, D.lost = 0 ∧ aL ((((w2.setCell (aQ d 0) (iQ 4)).setCell (aQ d 1) (.slice (some (aQ b 3)) 3 3)).setCell (aQ d 2) (iQ 2)).setCell (aQ d 3) (pQ p)) V.1.size D L0 10 (ko 10) ∧
      ((((w2.setCell (aQ d 0) (iQ 4)).setCell (aQ d 1) (.slice (some (aQ b 3)) 3 3)).setCell (aQ d 2) (iQ 2)).setCell (aQ d 3) (pQ p)).1[d]? = some (.cells #[iQ 4, .slice (some (aQ b 3)) 3 3, iQ 2, pQ D.p, .map (some m)] 167 (0, 0)) ∧
      Mod V ((((w2.setCell (aQ d 0) (iQ 4)).setCell (aQ d 1) (.slice (some (aQ b 3)) 3 3)).setCell (aQ d 2) (iQ 2)).setCell (aQ d 3) (pQ p)) (· = d) := by
  obtain ⟨D, BL, hp, hS, hB, qM, oo⟩ := h
  have b1 := fZ qM 0 (iQ 4)
  have m1 : Mod w2 (w2.setCell (aQ d 0) (iQ 4)) (· = d) := (Mod.refl w2 _).set (aQ d 0) _ (fun _ => rfl)
  generalize w2.setCell (aQ d 0) (iQ 4) = x1 at b1 m1 ⊢
  have b2 := fZ b1 1 (.slice (some (aQ b 3)) 3 3)
  have m2 : Mod w2 (x1.setCell (aQ d 1) (.slice (some (aQ b 3)) 3 3)) (· = d) := m1.set (aQ d 1) _ (fun _ => rfl)
  generalize x1.setCell (aQ d 1) (.slice (some (aQ b 3)) 3 3) = x2 at b2 m2 ⊢
  have b3 := fZ b2 2 (iQ 2)
  have m3 : Mod w2 (x2.setCell (aQ d 2) (iQ 2)) (· = d) := m2.set (aQ d 2) _ (fun _ => rfl)
  generalize x2.setCell (aQ d 2) (iQ 2) = x3 at b3 m3 ⊢
  have b4 := fZ b3 3 (pQ p)
  have m4 : Mod w2 (x3.setCell (aQ d 3) (pQ p)) (· = d) := m3.set (aQ d 3) _ (fun _ => rfl)
  generalize x3.setCell (aQ d 3) (pQ p) = x4 at b4 m4 ⊢
  refine ⟨D, BL, hS.others m4 ?_ (fun i hi => absurd hi (zxc i)), by rw [hp]; exact b4, (Mod.fB hB _).then m4 (fun _ _ e => e)⟩
  rintro k (hk | hk) e
  · have := hS.base k hk; omega
  · have := hS.vF k hk; omega
theorem zqQ(V:YM)(d m b:Nat)(hd:V.1[d]?=some (.cells #[iQ 0,.slice none 0 0,iQ 0,.pointer none,.map (some m)] 167 (0,0)))(hb:b<V.1.size)(hr:Row V b 0 [10,2,4,3,12,6]):
    YR prog 93 #[pQ d, .slice (some (aQ b 0)) 6 6] V fun e V' => e = .returned (.string (txt [98, 101, 103, 105, 110])) ∧ ∃ D, D.lost = 0 ∧ aL V' V.1.size D L0 10 (ko 10) ∧
      V'.1[d]? = some (.cells #[iQ 4, .slice (some (aQ b 3)) 3 3, iQ 2, pQ D.p, .map (some m)] 167 (0, 0)) ∧ Mod V V' (· = d) := by
  have oo : d < V.1.size := bp hd
  have r0 : V.cell? (aQ b 0) = some (iQ 10) := hr 0 sQ
  have r1 : V.cell? (aQ b 1) = some (iQ 2) := hr 1 sQ
  have r2 : V.cell? (aQ b 2) = some (iQ 4) := hr 2 sQ
  obtain ⟨V1, dp⟩ : ∃ V1, Hid ((V.alloc (.cells #[iQ 4, .slice (some (aQ b 3)) 3 3, iQ 2] 42)).drew = V1) := eQ
  have aG : YO V.1.size V V1 := by rw [← dp.o]; exact ((YS _ _).alloc lQ _).drew
  have aJ : V1.1[V.1.size]? = some (.cells #[iQ 4, .slice (some (aQ b 3)) 3 3, iQ 2] 42 (0, 0)) := by rw [← dp.o]; exact zwh V _
  have x0 : V1.cell? (aQ V.1.size 0) = some (iQ 4) ∧ V1.cell? (aQ V.1.size 1) = some (.slice (some (aQ b 3)) 3 3) ∧ V1.cell? (aQ V.1.size 2) = some (iQ 2) := by refine ⟨?_, ?_, ?_⟩ <;> simp [Z9, aJ]
  obtain ⟨y0, y1, y2⟩ := x0
  have r0' : V1.cell? (aQ b 0) = some (iQ 10) := (aG.cell (p := (aQ b 0)) hb).trans r0
  have HN : Hid (YR prog 24 #[.agg #[iQ 4, .slice (some (aQ b 3)) 3 3, iQ 2], iQ 10] V1.drew fun e w' => ∃ p, e = .returned (.tuple #[pQ p, .nilIface]) ∧
      ((w'.cell? (aQ V.1.size 0) = some (iQ 4) ∧ w'.cell? (aQ V.1.size 1) = some (.slice (some (aQ b 3)) 3 3) ∧ w'.cell? (aQ V.1.size 2) = some (iQ 2)) ∧
       (w'.cell? (aQ d 0) = some (iQ 0) ∧ w'.cell? (aQ d 1) = some (.slice none 0 0) ∧ w'.cell? (aQ d 2) = some (iQ 0) ∧ w'.cell? (aQ d 3) = some (.pointer none)) ∧
       (w'.frozen? (aQ d 0) = false ∧ w'.frozen? (aQ d 1) = false ∧ w'.frozen? (aQ d 2) = false ∧ w'.frozen? (aQ d 3) = false)) ∧
      Hid (∃ D, D.lost = 0 ∧ D.p = p ∧ aL w' V.1.size D L0 10 (ko 10) ∧ YO V.1.size V w' ∧ w'.1[d]? = some (.cells #[iQ 0, .slice none 0 0, iQ 0, .pointer none, .map (some m)] 167 (0, 0)) ∧ d < V.1.size)) := ae (by
    have bV : Row V1.drew b 3 L0.zs := fun k hk => by
      have iq : k < 3 := hk
      have h1 := hr (k + 3) tQ
      rw [Yv, zuD] at h1
      refine ((aG.drew.cell (p := (aQ b (3 + k))) hb).trans h1).trans ?_
      rw [zuD]
      rfl
    refine (zbT V.1.size L0 10 b 3 3 V1.drew P8 oQ oQ (Yr hb aG.drew.size) bV aG.drew.size).mono ?_
    rintro e w' ⟨⟨D, rfl, _, hS, _, BL⟩, hB⟩
    have Lh : YO V1.1.size V1 w' := (YS _ _).drew.trans hB
    have iz : YO V.1.size V w' := aG.trans (Lh.mono aG.size)
    have pF : V.1.size < V1.1.size := bp aJ
    have qM : w'.1[d]? = some (.cells #[iQ 0, .slice none 0 0, iQ 0, .pointer none, .map (some m)] 167 (0, 0)) := (iz.block d oo).trans hd
    refine ⟨D.p, rfl, ⟨⟨(Lh.cell (p := (aQ V.1.size 0)) pF).trans y0, (Lh.cell (p := (aQ V.1.size 1)) pF).trans y1, (Lh.cell (p := (aQ V.1.size 2)) pF).trans y2⟩, ?_, ?_⟩, ae ⟨D, BL, rfl, hS, iz, qM, oo⟩⟩
    · refine ⟨?_, ?_, ?_, ?_⟩ <;> simp [Z9, qM]
    · refine ⟨?_, ?_, ?_, ?_⟩ <;> simp [World.frozen?, qM])
  clear hr hd aG aJ
  go_enter func93, ntmps93
  go_wp2
  go_region
  all_goals
    go_wp2
    rw [dp.o]
    go_region_with (go_at_call 24; refine HN.o.mono ?_; rintro e w1 ⟨p, rfl, ⟨⟨z0, z1, z2⟩, ⟨d0, d1, d2, d3⟩, f0, f1, f2, f3⟩, hg⟩)
  all_goals
    go_wp2_with fail
    refine (qX _).mono ?_
    rintro e w2 ⟨rfl, rfl⟩
    go_wp2
    go_ret
    exact ⟨rfl, zqP hg.o⟩
theorem zqR(w:YM)(hn:kg w)(h7:7<=w.1.size):
  YR prog 58 #[] w fun e w'=>∃ N c D,w.1.size<=c.d/\e=.returned (pQ c.d)/\jM w' N c D L0 10 (ko 10)/\YO w.1.size w w'/\D.lost=0/\w.1.size<=c.m/\w.1.size<=c.g/\w.1.size<=N:=by
 obtain⟨V,hV⟩:∃ V,Hid (w.alloc (.cells #[iQ 0,.slice none 0 0,iQ 0,.pointer none,.map none] 167)=V):=eQ;have aC:YO w.1.size w V:=by rw[<-hV.o];exact(YS _ _).alloc lQ _
 have qy:V.1[w.1.size]?=some (.cells #[iQ 0,.slice none 0 0,iQ 0,.pointer none,.map none] 167 (0,0)):=by rw[<-hV.o];exact aU _ _
 have oo:=bp qy;obtain⟨d,hd⟩:∃ d,Hid (w.1.size=d):=eQ;have HA:Hid (YR prog 92 #[pQ d] V fun e w'=>∃ m,e=.returned (.map (some m))/\(w'.cell? (aQ d 4)=some (.map none)/\w'.frozen? (aQ d 4)=false)/\
   Hid (∃ W,w'.setCell (aQ d 4) (.map (some m))=W/\YO w.1.size w W/\d<=m/\d<W.1.size/\kX W m (pZ d)/\W.1[d]?=some (.cells #[iQ 0,.slice none 0 0,iQ 0,.pointer none,.map (some m)] 167 (0,0)))):=ae (by
  refine(zj8 d V).mono ?_;rintro e w' ⟨m,rfl,hm,hM,hB⟩;rw[hd.o]at qy oo;have A0:=(hB.block d oo).trans qy;refine⟨m,rfl,⟨ay A0 4,fL A0 4⟩,ae ⟨_,rfl,?_,oQ,by rw[World.size_setCell];exact Yr oo hB.size,?_,fZ A0 4 _⟩⟩
  ·exact(aC.trans (hB.mono aC.size)).setCell (by rw[hd.o];exact Yp _) _
  ·exact hM.same (((Mod.refl w' (· = d)).set (aQ d 4) _ (fun _=>rfl)).block m hM.lt (by show ¬m=d;omega)))
 have HN:=ae hn;have H7:=ae h7;have HS:=ae aC.size;clear hn h7 aC qy oo;go_enter func58,ntmps58;go_wp2_with fail
 rw[hV.o,hd.o];refine HA.o.mono ?_;rintro e w1 ⟨m,rfl,⟨g0,g1⟩,HW⟩;obtain⟨W,hW,dI,hdm,Li,hM,jq⟩:=HW.o;clear HA HW;go_wp2_with fail
 have HE:Hid (YR prog 93 #[pQ d,.slice (some (aQ W.1.size 0)) 6 6] (W.alloc (.cells #[iQ 10,iQ 2,iQ 4,iQ 3,iQ 12,iQ 6] 3)) fun e w'=>e=.returned (.string (txt [98,101,103,105,110]))/\Hid (∃ N c D,c.d=d/\jM w' N c D L0 10 (ko 10)/\YO w.1.size w w'/\D.lost=0/\d<=c.m/\d<=c.g/\d<=N)):=ae (by
  have iK:YO W.1.size W (W.alloc (.cells #[iQ 10,iQ 2,iQ 4,iQ 3,iQ 12,iQ 6] 3)):=(YS _ _).alloc lQ _;have J7:(W.alloc (.cells #[iQ 10,iQ 2,iQ 4,iQ 3,iQ 12,iQ 6] 3)).1[W.1.size]?=some (.cells #[iQ 10,iQ 2,iQ 4,iQ 3,iQ 12,iQ 6] 3 (0,0)):=aU _ _;have eW:=(Dw W [10,2,4,3,12,6] 6 rfl).2.2;have bV:Row (W.alloc (.cells #[iQ 10,iQ 2,iQ 4,iQ 3,iQ 12,iQ 6] 3)) W.1.size 0 [10,2,4,3,12,6]:=by
   rcases eW with e|⟨b,o,e1,_,hr⟩
   ·cases e
   ·simp only[YA,zts]at e1;obtain⟨rfl,rfl,_⟩:=e1;exact hr
  generalize(W.alloc (.cells #[iQ 10,iQ 2,iQ 4,iQ 3,iQ 12,iQ 6] 3))=X at iK J7 bV⊢;refine(zqQ X d m W.1.size ((iK.block d Li).trans jq) (bp J7) bV).mono ?_;rintro e w' ⟨rfl,D,BL,hS,gH,cq⟩;have ee:YO w.1.size w w':=(dI.trans (iK.mono dI.size)).trans (cq.toBelow (Yq dI.size iK.size) (fun k hk e=>by have:=hd.o;omega));have hX:W.1.size<X.1.size:=bp J7;refine⟨rfl,ae ⟨X.1.size,⟨d,m,W.1.size,3,3⟩,D,rfl,⟨gH,fun k hk=>?_,Yp _,zvn Li hX,zvn hM.lt hX,hX,?_,cq.size,?_,?_,hS⟩,ee,BL,hdm,Nat.le_of_lt Li,Nat.le_of_lt (zvn Li hX)⟩⟩
  ·have iq:k<3:=hk;have h1:=bV (k+3) tQ;rw[Yv,zuD]at h1;refine((Ze (w:=X) (a:=(aQ W.1.size (3+k))) (cq.block _ hX (by show ¬W.1.size=d;omega))).trans h1).trans ?_;rw[zuD];rfl
  ·have:=H7.o;have:=dI.size;omega
  ·exact hM.same ((cq.block m (zvn hM.lt hX) (by show ¬m=d;intro e;rw[e]at hM;exact hM.zj6 jq)).trans (iK.block m hM.lt))
  ·exact HN.o.below ee)
 refine HE.o.mono ?_;rintro e w2 ⟨rfl,hg⟩;go_wp2
 go_ret;obtain⟨N,c,D,hc,h1,h2,h3,h4,h5,h6⟩:=hg.o;exact⟨N,c,D,by rw[hc,hd.o];exact Yp _,by rw[hc];rfl,h1,h2,h3,by rw[hd.o];exact h4,by rw[hd.o];exact h5,by rw[hd.o];exact h6⟩
theorem bY.cells{w:YM}{N:Nat}{c:kp}{D:SC}{X:DS}(h:bY w N c D X)(hk:ll c D k)(hm:k≠c.m){o:Obj}(ho:w.1[k]?=some o):o.isCells=true:=by
 rcases hk with rfl|rfl|rfl|hk|hk|hk
 ·rw[h.dk.blk]at ho;cases ho;rfl
 ·exact absurd rfl hm
 ·have hf:=h.eE.few;have hz:0<X.L.zs.length:=by rw[h.eE.len];omega
  exact Ha (a:=(aQ c.g (c.o+0))) (h.dk.row 0 hz) ho
 ·exact h.dk.sys.cells h.eE (.inl hk) ho
 ·exact h.dk.sys.cells h.eE (.inr hk) ho
 ·obtain⟨u,hu,a,n,cap,e,rfl,hn⟩:=hk;obtain⟨i,hi,rfl⟩:=List.getElem_of_mem hu;have hb:=h.dk.sys.aq.za i (by rw[<-h.dk.sys.aq.len];exact hi);rw[Yc hi]at hb;obtain⟨_,a',eu,e',_,h3⟩:=hb;have e2:D.us[i]=.slice a' (gU X.S.aq i).b.length eu:=e';rw[e]at e2;simp only[Value.slice.injEq]at e2;obtain⟨rfl,rfl,rfl⟩:=e2;rcases h3 with h3|⟨g,off,cs,e3,h4,_⟩
  ·rw[h3]at hn;simp at hn
  ·cases e3;rw[h4]at ho;cases ho;rfl
structure nx(w:YM)(B NB b bd:Nat)(N:Nat)(c:kp)(D:SC)(v:YN)(X:DS)(l:List UInt8)(W:YM):Prop where
 dk:bY W N c D X
 bl:jd W NB b v l
 box:W.1[bd]?=some (.cells #[pQ c.d] 100 (0,0))
 apart:∀ k,ll c D k->¬sL b v k/\k≠bd
 own:¬sL b v bd
 base:NB<=W.1.size
 old:YO w.1.size w W
 D7:w.1.size<=B
 D8:w.1.size<=NB
 Lj:∀ k,ll c D k->w.1.size<=k
 mlt:c.m<B
 low:7<=w.1.size
section
variable {w W W':YM}{B NB b bd N:Nat}{c:kp}{D:SC}{v:YN}{X X':DS}{l:List UInt8}
theorem nx.Ht(h:nx w B NB b bd N c D v X l W):bd<W.1.size:=bp h.box
theorem nx.QX(h:nx w B NB b bd N c D v X l W)(hk:sL b v k):NB<=k/\k<W.1.size:=by
 rcases hk with rfl|hk
 ·exact⟨h.bl.ge,h.bl.lt⟩
 ·exact h.bl.row.lt k hk
theorem nx.turn(h:nx w B NB b bd N c D v X l W){row:Option Nat}(hg:W.grownBy W' row)(hr:∀ r,row=some r->B<=r/\∃ o:Obj,W.1[r]?=some o/\o.isCells=false):nx w B NB b bd N c D v X l W':=by
 have hm:Mod W W' (fun k=>row=some k):=⟨hg.os,hg.tape,hg.output,hg.size,fun k hk ht=>hg.block k hk (fun e=>ht e.symm)⟩;have cX:∀ k,(∀ o:Obj,W.1[k]?=some o->o.isCells=true)->¬row=some k:=fun k hc e=>by
  obtain⟨_,o,ho,hf⟩:=hr k e;rw[hc o ho]at hf;cases hf
 refine⟨h.dk.others hm (fun k hk=>?_) (fun k e=>Yq h.low (Yq h.D7 (hr k e).1)),h.bl.mod hm fun k hk=>cX k fun o ho=>h.bl.cells hk ho,?_,h.apart,h.own,Yq h.base hg.size,h.old.trans (hm.toBelow h.old.size fun k hk e=>by have:=(hr k e).1;have:=h.D7;omega),h.D7,h.D8,h.Lj,h.mlt,h.low⟩
 ·by_cases hkm:k=c.m
  ·intro e;have:=(hr k e).1;have:=h.mlt;omega
  ·exact cX k fun o ho=>h.dk.cells hk hkm ho
 ·exact(hm.block bd h.Ht (cX bd fun o ho=>by rw[h.box]at ho;cases ho;rfl)).trans h.box
theorem nx.said(h:nx w B NB b bd N c D v X l W)(hA:iG W W' c D X'):∃ N' c' D',c'.d=c.d/\nx w B NB b bd N' c' D' v X' l W':=by
 obtain⟨N',c',D',e1,e2,h1,hm,h3⟩:=hA;have hw:∀ k,(Wr D k\/k=c.d)->ll c D k:=fun k hk=>hk.elim (fun x=>eO (.inl x)) (fun x=>.inl x)
 refine⟨N',c',D',e1,h1,h.bl.mod hm fun k hk fH=>(h.apart k (hw k fH)).1 hk,by rw[e1];exact(hm.block bd h.Ht fun fH=>(h.apart bd (hw bd fH)).2 rfl).trans h.box,fun k hk=>?_,h.own,Yq h.base hm.size,h.old.trans (hm.toBelow h.old.size fun k hk fH=>by have:=h.Lj k (hw k fH);omega),h.D7,h.D8,fun k hk=>?_,by rw[e2];exact h.mlt,h.low⟩
 ·rcases h3 k hk with x|x
  ·exact h.apart k x
  ·exact⟨fun fH=>by have:=(h.QX fH).2;omega,by have:=h.Ht;omega⟩
 ·rcases h3 k hk with x|x
  ·exact h.Lj k x
  ·exact Yq h.old.size x
theorem nx.wrote(h:nx w B NB b bd N c D v X l W){l':List UInt8}(hg:AA W W' NB b v l'):∃ v',nx w B NB b bd N c D v' X l' W':=by
 obtain⟨v',hb,hm,Bq⟩:=hg;have fH:∀ k,sL b v' k->sL b v k\/W.1.size<=k:=fun k hk=>by
  rcases hk with rfl|hk
  ·exact .inl (.inl rfl)
  ·exact(Bq k hk).imp .inr id
 refine⟨v',h.dk.others hm (fun k hk=>(h.apart k hk).1) (fun k hk=>Yq h.low (Yq h.D8 (h.QX hk).1)),hb,(hm.block bd h.Ht h.own).trans h.box,fun k hk=>⟨fun hw=>?_,(h.apart k hk).2⟩,fun hw=>?_,Yq h.base hm.size,h.old.trans (hm.toBelow h.old.size fun k hk hw=>by have:=(h.QX hw).1;have:=h.D8;omega),h.D7,h.D8,h.Lj,h.mlt,h.low⟩
 ·rcases fH k hw with x|x
  ·exact(h.apart k hk).1 x
  ·have:=h.dk.lt hk;omega
 ·rcases fH bd hw with x|x
  ·exact h.own x
  ·have:=h.Ht;omega
end
attribute [local go_sem] Oper.semAt_some
def zqS(t:List UInt8)(xO:List {x:List UInt8 // x∈jf t}->DS->List UInt8->Prop):Prop:=
 ∀ pre x X l W N c D,xO pre X l->pre.length<(jf t).length->bY W N c D X->YR prog 61 #[pQ c.d,.string (txt x.1)] W fun e W'=>
  ∃ s X',e=.returned (.string (txt s))/\xO (pre++[x]) X' (l++s++[10])/\iG W W' c D X'
set_option maxRecDepth 100000 in
set_option maxHeartbeats 4000000 in
theorem zqT(t:List UInt8)(w:YM)(ht:t.length<=20000)(hn:kg w)(hE:fC w)(h7:7<=w.1.size)(xO:List {x:List UInt8 // x∈jf t}->DS->List UInt8->Prop)(h0:xO [] ⟨L0,10,ko 10,0⟩ [])
  (pz:∀ pre X l,xO pre X l->l.length<=90000000) (uC:zqS t xO):
  YR prog 23 #[.string (txt t)] w fun e w'=>(∃ xs X l,xs.map zwe=jf t/\xO xs X l/\e=.returned (.string (txt l)))/\YO w.1.size w w':=by
 have HND:=ae (zqR w hn h7);have wU:¬(20000:Int)<(t.length:Int):=oQ;have zrY:¬ 20000<t.length:=oQ;have htd:decide ((20000:Int)<(t.length:Int))=false:=YD wU;refine(zul (n:=3)).1 ?_;refine callsIn_of_wp_marks func23 rfl trivial ?_ rfl;simp only[ntmps23,List.size_toArray,Yg,zsi,Nat.reduceAdd,Nat.reduceSub,Array.replicate_succ,Array.replicate_zero,List.push_toArray,List.append_toArray,zsn,Ya];gi_wp2_with fail
 refine⟨trivial,?_⟩;gi_at_call 58
 refine(zul.2 HND.o).mono ?_;rintro e w1 ⟨N,c,D,sr,rfl,BF,hB,BL,Ed,vP,hcN⟩;clear HND;have Lk:Hid (bY w1 N c D ⟨L0,10,ko 10,0⟩):=ae ⟨BF,by show D.lost=Zs (0-((0:Nat):Int));rw[BL];unfold Zs;omega,hE.lo hB h7,P8,Yq h7 sr⟩;have HOC:Hid (∀ k,ll c D k->w.1.size<=k):=ae fun k hk=>by
  rcases hk with rfl|rfl|rfl|x|x|⟨u,x,_⟩
  ·exact sr
  ·exact Ed
  ·exact vP
  ·exact Yq hcN (BF.sys.base k x)
  ·exact Yq hcN (BF.sys.vF k x)
  ·have hu:D.us=[]:=zsh.1 BF.sys.aq.len;rw[hu]at x;cases x
 have HB:=ae hB;clear BF hB;gi_wp2_with fail
 refine⟨trivial,?_⟩;gi_at_call 59
 refine(zjI _ t _).mono ?_;rintro e w2 ⟨rfl,rfl⟩;gi_wp2_with fail
 obtain⟨W0,l7⟩:∃ W0,Hid (((w1.alloc (.cells #[pQ c.d] 100)).alloc (.cells #[.pointer none,.slice none 0 0] 104)).alloc (.cells #[.string (txt t)] 9)=W0):=eQ;rw[l7.o];have bm:W0.1.size=w1.1.size+3:=by rw[<-l7.o];simp
 have hbt:W0.cell? (aQ (w1.1.size+1+1) 0)=some (.string (txt t)):=by
  have gl:=aU ((w1.alloc (.cells #[pQ c.d] 100)).alloc (.cells #[.pointer none,.slice none 0 0] 104)) (.cells #[.string (txt t)] 9);rw[l7.o,zxu,zxu]at gl;exact ay gl 0
 have zn:Hid (nx w W0.1.size (w1.1.size+1) (w1.1.size+1) w1.1.size N c D (.slice none 0 0) ⟨L0,10,ko 10,0⟩ [] W0):=ae (by
  have aG:YO w1.1.size w1 (w1.alloc (.cells #[pQ c.d] 100)):=(YS _ _).alloc lQ _;have lp:=aU w1 (.cells #[pQ c.d] 100);have bf:(w1.alloc (.cells #[pQ c.d] 100)).1.size=w1.1.size+1:=zxu _ _;generalize w1.alloc (.cells #[pQ c.d] 100)=x1 at aG lp bf l7;have aS:YO x1.1.size x1 (x1.alloc (.cells #[.pointer none,.slice none 0 0] 104)):=(YS _ _).alloc lQ _;have jq:=jd.new x1;generalize x1.alloc (.cells #[.pointer none,.slice none 0 0] 104)=x2 at aS jq l7;have aZ:YO x2.1.size x2 W0:=by rw[<-l7.o];exact(YS _ _).alloc lQ _
  have zbX:=aG.trans (aS.mono aG.size);have Cx:=zbX.trans (aZ.mono zbX.size);have zqU:=aS.trans (aZ.mono aS.size);rw[bf]at jq;have yD:c.m<w1.1.size:=Lk.o.lt (.inr (.inl rfl));refine⟨Lk.o.below Cx,jq.below aZ,(zqU.block _ oQ).trans lp,fun k hk=>?_,?_,oQ,HB.o.trans (Cx.mono HB.o.size),by have:=HB.o.size;omega,by have:=HB.o.size;omega,HOC.o,oQ,h7⟩
  ·have gO:k<w1.1.size:=Lk.o.lt hk;refine⟨?_,oQ⟩;rintro(e|e)
   ·omega
   ·simp[ZF]at e
  ·rintro(e|e)
   ·omega
   ·simp[ZF]at e)
 obtain⟨d0,uD⟩:∃ d0,Hid (c.d=d0):=eQ;rw[uD.o];clear Lk HB;have aj:w1.1.size+1+1<W0.1.size:=oQ;refine wpIn_rangeFunc_ownG rfl oQ (gf:=94) (lb:=#[.pointer (some (aQ (w1.1.size+1+1) 0))]) rfl trivial (ZV func94 kQ rfl) (zjJ _ oQ (w1.1.size+1+1) t oQ W0 aj hbt) (fun _ _=>trivial) (fun _ _ _ _ _ _ _ _=>trivial) (YS _ _) (fun _=>rfl)
  (fun pre W=>∃ X l N c D v,c.d=d0/\xO pre X l/\nx w W0.1.size (w1.1.size+1) (w1.1.size+1) w1.1.size N c D v X l W) (fun _ _ _=>False)
  (fun pre A Bw row hs hg hr=>by
   obtain⟨X,l,N,c,D,v,h0,h1,h2⟩:=hs;exact⟨X,l,N,c,D,v,h0,h1,h2.turn hg hr⟩)
  (fun _ _ _ _ _ hs _ _=>hs)
  ⟨⟨L0,10,ko 10,0⟩,[],N,c,D,_,uD.o,h0,zn.o⟩
  (fun x=>{tmps:=#[.string (txt t),YY,.string ⟨#[]⟩,pQ w1.1.size,.pointer (some (aQ (w1.1.size+1) 0)),.string (txt x.1),.string (txt t),iQ (t.length:Int),.bool false,YY,YY,pQ d0,.string (txt t),.func (.func 94) #[] #[.pointer (some (aQ (w1.1.size+1+1) 0))],.string (txt x.1),YY,YY,YY,YY,YY,YY],defers:=[]}) ?assign ?body ?done ?stop
 case assign=>
  intro l x W K hK;gi_wp2
  exact hK
 case body=>
  rintro l pre x W ⟨X,la,N1,c1,D1,v,QY,hR,hI⟩ cP;have c0:W.cell? (aQ w1.1.size 0)=some (pQ d0):=by rw[<-QY];exact ay hI.box 0
  have HA:=ae (uC pre x X la W N1 c1 D1 hR cP hI.dk);rw[QY]at HA;have HI:=ae hI;clear hI;gi_wp2_with fail
  refine⟨trivial,?_⟩;gi_at_call 61
  refine(zya l (zul.2 HA.o)).mono ?_;rintro e W1 ⟨s,X',rfl,yJ,dz⟩;have xZ:=pz _ _ _ yJ;have zrZ:la.length+s.length+1<=90000000:=by
   have h2:=xZ;simp only[Yf,Yg,zsi]at h2;omega
  obtain⟨N2,c2,D2,zqV,j9⟩:=HI.o.said dz;have zL:zvV W0.1.size W W1:=by
   obtain⟨_,_,_,_,_,_,cq,_⟩:=dz;exact P9 cq fun k hk o ho=>HI.o.dk.cells (hk.elim (fun x=>eO (.inl x)) (fun x=>.inl x)) (hk.elim (fun x=>(HI.o.dk.ne x).2.1) (fun x e=>by
    have hb:=HI.o.dk.dk.blk;obtain⟨es,hx,_⟩:=HI.o.dk.dk.map;rw[<-e,x,hb]at hx;cases hx)) ho
  have HWS:=ae (zjw (w1.1.size+1) (w1.1.size+1) v la s W1 j9.bl j9.base oQ);have iC:=ae j9;have xc:=ae zL;have HR':=ae yJ;clear j9 zL yJ dz xZ HA c0;gi_wp2_with fail
  refine⟨trivial,?_⟩;gi_at_call 60
  refine(zya l (zul.2 HWS.o)).mono ?_;rintro e W2 ⟨⟨x2,rfl⟩,cY⟩;obtain⟨v2,jr⟩:=iC.o.wrote cY;have tZ:zvV W0.1.size W1 W2:=by
   obtain⟨_,_,hm,_⟩:=cY;exact P9 hm fun k hk o ho=>iC.o.bl.cells hk ho
  have HWB:Hid (YR prog 62 #[.pointer (some (aQ (w1.1.size+1) 0)),.int .u8 10] W2 fun e w'=>(∃ x,e=.returned x)/\AA W2 w' (w1.1.size+1) (w1.1.size+1) v2 (la++s++[10])):=ae (zjx (w1.1.size+1) (w1.1.size+1) v2 (la++s) 10 W2 jr.bl jr.base (by rw[Yf];omega));have dO:=ae jr;have xd:=ae (xc.o.trans tZ);clear jr tZ cY HWS;gi_wp2_with fail
  refine⟨trivial,?_⟩;gi_at_call 62
  refine(zya l (zul.2 HWB.o)).mono ?_;rintro e W3 ⟨⟨x3,rfl⟩,im⟩;obtain⟨v3,cj⟩:=dO.o.wrote im;have iq:zvV W0.1.size W2 W3:=by
   obtain⟨_,_,hm,_⟩:=im;exact P9 hm fun k hk o ho=>dO.o.bl.cells hk ho
  have HF:Hid (zvV W0.1.size W W3/\True/\∃ X l N c D v,c.d=d0/\xO (pre++[x]) X l/\nx w W0.1.size (w1.1.size+1) (w1.1.size+1) w1.1.size N c D v X l W3):=ae ⟨xd.o.trans iq,trivial,X',_,N2,c2,D2,v3,zqV.trans QY,HR'.out,cj⟩;clear cj iq im HWB;gi_wp2
  exact HF.o
 case done=>
  rintro Dd xs W hDd qL ⟨X,la,N1,c1,D1,v,_,hR,hI⟩ hK;have cZ:=ae (zjy (w1.1.size+1) (w1.1.size+1) v la W hI.bl hI.base);have HO:Hid (∀ w',YO (w1.1.size+1) W w'->YO w.1.size w w'):=ae fun w' hB=>hI.old.trans (hB.mono (by have:=hI.D8;omega))
  have HR:=ae hR;have HX:=ae qL;clear hI hR qL;gi_wp2_with fail
  refine⟨trivial,?_⟩;gi_at_call 63
  refine(zul.2 cZ.o).mono ?_;rintro e W9 ⟨rfl,vv,hd9⟩;have hK9:=hd9 Dd _ hK;have HB9:=ae (HO.o W9 vv);clear hK vv hd9 cZ HO;gi_wp2
  refine⟨sQ,.inl ⟨_,_,rfl,run_takeDeferred hK9,?_⟩⟩;have hwd:w.1.size<=Dd:=Yq zn.o.D7 hDd;exact⟨_,results_tmp rfl _ _ _,⟨xs,X,la,HX.o,HR.o,rfl⟩,HB9.o.trans ((YS _ W9).grown (grownBy_putObj' W9 Dd _) HB9.o.size (fun k e=>by cases e;exact hwd))⟩
 case stop=>
  rintro Dd cc pre W _ _ h _;exact h.elim
def ot:List (List UInt8)->DS->List UInt8->DS->List UInt8->Prop
 |[],X,l,X',l'=>X'=X/\l'=l
 |x::xs,X,l,X',l'=>∃ X1 s,nw X x X1 s/\ot xs X1 (l++s++[10]) X' l'
theorem ot.snoc:∀{xs:List (List UInt8)}{X X1 X2:DS}{l l1 s x:List UInt8},ot xs X l X1 l1->nw X1 x X2 s->ot (xs++[x]) X l X2 (l1++s++[10])
 |[],_,_,_,_,_,_,_,⟨e1,e2⟩,hs=>by subst e1 e2;exact⟨_,_,hs,rfl,rfl⟩
 |_::_,_,_,_,_,_,_,_,⟨X',s',h1,h2⟩,hs=>⟨X',s',h1,ot.snoc h2 hs⟩
theorem ot.qq:∀{xs:List (List UInt8)}{X A B:DS}{l a b:List UInt8},ot xs X l A a->ot xs X l B b->A=B/\a=b
 |[],_,_,_,_,_,_,⟨e1,e2⟩,⟨g1,g2⟩=>⟨e1.trans g1.symm,e2.trans g2.symm⟩
 |_::_,_,_,_,_,_,_,⟨X1,s1,h1,h2⟩,⟨Y1,t1,k1,k2⟩=>by
  obtain⟨rfl,rfl⟩:=nw.qq h1 k1;exact ot.qq h2 k2
theorem zqW(c:UInt8)(l:List UInt8):je (c::l)=if c=10 then []::je l else(c::(je l).headD [])::(je l).tail:=rfl
theorem zbY:∀(l:List UInt8),(je l).length<=l.length+1/\∀ x∈je l,x.length<=l.length
 |[]=>by simp[je]
 |c::l=>by
  obtain⟨h1,h2⟩:=zbY l;obtain⟨h,t,e⟩:=List.exists_cons_of_ne_nil (zjz l);rw[zqW];rw[e]at h1 h2⊢;split
  ·refine⟨by simp at h1⊢;omega,fun x hx=>?_⟩;rcases Yl.1 hx with rfl|hx
   ·simp
   ·have:=h2 x hx;simp;omega
  ·refine⟨by simp at h1⊢;omega,fun x hx=>?_⟩;rcases Yl.1 hx with rfl|hx
   ·have:=h2 h sQ;simp;omega
   ·have:=h2 x (by simp at hx⊢;exact .inr hx);simp;omega
theorem zqX(l:List UInt8)(x:UInt8):ztO (l++[x]) [10]=if x=10 then l else l++[x]:=by
 unfold ztO;by_cases h:x=10
 ·subst h;rw[if_pos (by simp[Lib.hasSuffix]),if_pos rfl];simp
 ·rw[if_neg (by simp[Lib.hasSuffix];exact fun e=>h e.symm),if_neg h]
theorem zqY(t:List UInt8):(jf t).length<=t.length+1/\∀ x∈jf t,x.length<=t.length:=by
 have bn:(ztO t [10]).length<=t.length:=by
  rcases List.eq_nil_or_concat t with rfl|⟨l,x,rfl⟩
  ·decide
  ·rw[List.concat_eq_append,zqX];split<;>simp
 obtain⟨h1,h2⟩:=zbY (ztO t [10]);exact⟨by unfold jf;omega,fun x hx=>Yq (h2 x hx) bn⟩
def X0:DS:=⟨L0,10,ko 10,0⟩
def zbZ(t:List UInt8)(pre:List {x:List UInt8 // x∈jf t})(X:DS)(l:List UInt8):Prop:=
 ot (pre.map zwe) X0 [] X l/\bU (600*pre.length) X/\l.length<=30001*pre.length/\pre.length<=(jf t).length
theorem zqZ(t:List UInt8)(ht:t.length<=1501)(w:YM)(hn:kg w)(hE:fC w)(h7:7<=w.1.size):
  YR prog 23 #[.string (txt t)] w fun e w'=>(∃ X l,ot (jf t) X0 [] X l/\l.length<=90000000/\e=.returned (.string (txt l)))/\YO w.1.size w w':=by
 obtain⟨yR,rX⟩:=zqY t;have pz:∀ pre X l,zbZ t pre X l->l.length<=90000000:=fun pre X l h=>by
  obtain⟨_,_,h3,h4⟩:=h;omega
 refine(zqT t w oQ hn hE h7 (zbZ t) ⟨⟨rfl,rfl⟩,⟨QQ (bu.new (win:=10) oQ oQ),P8⟩,sQ,sQ⟩ pz ?_).mono ?_
 ·rintro pre x X l W N c D ⟨h1,h2,h3,h4⟩ cP BF;refine(zqO x.1 (by have:=rX x.1 x.2;omega) W BF h2 oQ).mono ?_;rintro e W' ⟨s,X',rfl,bh,hX,eW,hA⟩;refine⟨s,X',rfl,⟨?_,?_,?_,?_⟩,hA⟩
  ·rw[zsk];exact h1.snoc bh
  ·rw[Yf];exact hX.later tQ
  ·simp only[Yf,Yg,zsi];omega
  ·simp only[Yf,Yg,zsi];omega
 ·rintro e w' ⟨⟨xs,X,l,qL,hR,rfl⟩,hB⟩;exact⟨⟨X,l,by rw[<-qL];exact hR.1,pz _ _ _ hR,rfl⟩,hB⟩
end Go.Proofs.YtaablbmgagiajabGreatDoor
