import Derived.Test.YtaablbmgagiajabGreatDoorZGAC
import Derived.Deep.Upon
import Derived.Great.BuildSlice
import Derived.Laws.CopyOwn
set_option maxHeartbeats 4000000
set_option maxRecDepth 20000
open Go.Addr.mk renaming injEq->zts
open Go.RowKit renaming Below->YO
open Go.RowKit.Below renaming heap_alloc->Za,heap_setCell->Zb,refl->YS
open Go renaming Calls->YR,TypeId->YT,Value->YN,World->YM,bodyPost_ret->Zm,info_parts->ZM,undef->YY,wpList_append_own->ztq,wp_region_held_drew->Zh
open Nat renaming zero_mul->zvp
open Go.Region renaming wanted->zuO
open Go.Result renaming andThen_ok->ztn
open Go.Value renaming int->zsS
open Go.Value.slice renaming injEq->ztd
open Go.World renaming cell?_of_block->Ze,setRow->zwl
namespace Go.Proofs.YtaablbmgagiajabGreatDoor
open Go.Proofs.Tryz
open Go.RowKit Go.Deep
variable{M N c cap cg d j k m o s:Nat}{P:Program}{ad:Addr}{l zs:List Int}{tmps:Array YN}{v v':YN}
def cW(n:Nat)(x:Int):Nat:=u64 x&&&(2^n-1)
theorem WU(n:Nat)(x:Int)(h:n<=12):bits .and .i64 x (top (n:Int))=((cW n x:Nat):Int):=by
 have hp:2^n<=2^12:=Yt dQ h;have hq:0<2^n:=Yu _;unfold top cW;rw[zr7,and_right _ _ (by rw[nN _ oQ];omega),nN _ oQ]
theorem CY(n:Nat)(x:Int):cW n x<2^n:=by
 have hq:0<2^n:=Yu n;exact zsu zsr oQ
theorem WV(s d:Nat)(x0 x1:Int)(b n cap:Nat)(zs:List Int)(w:YM)(hn:zs.length=n)(av:cw s zs d=(0,-1))(hb:b<w.1.size)(hc:Row w b 0 zs)(fw:n<=cap):
  YR prog 19 #[.agg #[iQ (s:Int),.slice (some (aQ b 0)) n cap,iQ (d:Int)],.agg #[iQ x0,iQ x1]] w fun e w'=>
   e=.returned (.tuple #[.agg #[iQ ((cW s x0:Nat):Int),iQ ((cW n x1:Nat):Int)],.nilIface])/\YO w.1.size w w':=by
 have hr:=oO av;unfold jY at hr;simp only[X6,mj]at hr;have h1:=zkC (s:Int) (d:Int) x0 x1 b 0 cap zs w av hb hc oQ;rw[WU s x0 oQ,WU zs.length x1 oQ,hn]at h1;exact h1
def dK:St:=⟨0,fun _=>0,fun _=>0⟩
theorem sV(S:St):(aB S).all (·.oneCell')=true:=by simp[aB,Value.oneCell']
theorem iM:(prog.info? 34).map (·.size)=some 17:=kQ
theorem yB(w:YM)(g k:Nat)(cs:Array YN)(h:k≠g):(w.setRow g cs).1[k]?=w.1[k]?:=by
 simp only[zwl,Array.getElem?_modify];rw[YG oQ]
theorem sW{w:YM}{g:Nat}{S:St}(h:ck w g S)(X:St):ck (w.setRow g (aB X)) g X:=setRow_heap w g _ _ _ _ h
theorem sX{B:Nat}{a w:YM}(h:YO B a w){g:Nat}(hg:B<=g)(cs:Array YN):YO B a (w.setRow g cs):=
 h.trans ⟨rfl,rfl,rfl,by simp[zwl],fun k hk=>yB _ _ _ _ oQ⟩
theorem zkD{f:Func}{w:YM}{a k:Tmp}{t:YT}(hf:f.results=#[.cell a t,.tmp k])(ha:tmps.getD a YY=.pointer (some ad))(hl:(loadVar t ad).run P w=.ok v w):
  (results f tmps).run P w=.ok (.tuple #[v,tmps.getD k YY]) w:=by
 have zB:tmps[a]?.getD YY=.pointer (some ad):=by simpa using ha
 simp only[results,hf];simp[asAddr,zB,hl]
structure yC(w wz:YM)(N p s d n:Nat)(zs:List Int)(g cg M c v:Nat)(X:St):Prop where
 old:YO N w wz
 K:gz wz p (s:Int) (d:Int) n zs g cg M
 st:ck wz N X
 bx:wz.1[N+1]?=some (.cells #[iQ (c:Int),iQ (v:Int)] 31 (0,0))
 rs:ck wz (N+1+1) dK
theorem yC.grown{w wz wy:YM}{p n:Nat}{g v:Nat}{X Y:St}(h:yC w wz N p s d n zs g cg M c v X)(hw:N=w.1.size)(hp:p≠N)(hg:g≠N)(hM:M≠N)(k:wz.grownBy wy (some N))(hY:ck wy N Y):yC w wy N p s d n zs g cg M c v Y:=
 ⟨h.old.grown k (by rw[hw];exact h.old.size) (fun j e=>by cases e;exact Yp _),h.K.grown hp hg hM k,hY,(k.block _ (bp h.bx) sQ).trans h.bx,(k.block _ (bp h.rs) tQ).trans h.rs⟩
theorem yC.x0{w wz:YM}{p n:Nat}{g v:Nat}{X:St}(h:yC w wz N p s d n zs g cg M c v X):wz.cell? (aQ (N+1) 0)=some (iQ (c:Int)):=by rw[ay h.bx];rfl
theorem yC.x1{w wz:YM}{p n:Nat}{g v:Nat}{X:St}(h:yC w wz N p s d n zs g cg M c v X):wz.cell? (aQ (N+1) 1)=some (iQ (v:Int)):=by rw[ay h.bx];rfl
theorem WW(p s d n:Nat)(zs:List Int)(g cg M:Nat)(x0 x1:Int)(S:St)(w:YM)(hK:gz w p (s:Int) (d:Int) n zs g cg M)(av:AH S):
  YR prog 180 #[pQ p,.agg (aB S),.agg #[iQ x0,iQ x1]] w fun e w'=>
   e=.returned (.tuple #[.agg (aB (CJ (rt zs) (eC zs) n d (cW s x0) (cW n x1) S)),iQ ((F2 (rt zs) (eC zs) n d (cW s x0) (cW n x1) S:Nat):Int)])/\YO w.1.size w w':=by
 obtain⟨f1,f8,CU,CV,CW,CX⟩:=hK.few;have AK:cW s x0<4096:=Yr (CY _ _) (Yt (n:=2) dQ (show s<=12 by omega));have JK:cW n x1<256:=Yr (CY _ _) (Yt (n:=2) dQ (show n<=8 by omega));obtain⟨W,hW⟩:∃ W,Hid ((((w.alloc (.cells (aB S) 34)).alloc (.cells #[iQ x0,iQ x1] 31)).alloc (.cells (aB dK) 34))=W):=eQ;have aC:YO w.1.size w W:=by rw[<-hW.o];exact(((YS _ _).alloc lQ _).alloc sQ _).alloc tQ _
 have F9:W.1.size=w.1.size+1+1+1:=by rw[<-hW.o];simp
 have b0:ck W w.1.size S:=by rw[<-hW.o];exact(Za _ _ _ tQ).trans ((Za _ _ _ sQ).trans (aU _ _))
 have b1:W.1[w.1.size+1]?=some (.cells #[iQ x0,iQ x1] 31 (0,0)):=by
  rw[<-hW.o];refine(Za _ _ _ sQ).trans ?_;have:=aU (w.alloc (.cells (aB S) 34)) (.cells #[iQ x0,iQ x1] 31);simpa using this
 have b2:ck W (w.1.size+1+1) dK:=by
  rw[<-hW.o];have:=aU ((w.alloc (.cells (aB S) 34)).alloc (.cells #[iQ x0,iQ x1] 31)) (.cells (aB dK) 34);unfold ck;simpa using this
 have pR:=hK.below hK.kh hK.eV hK.mlt aC;have bJ:=hK.kh;have yA:=hK.eV;have yD:=hK.mlt;obtain⟨c,hc⟩:∃ c,Hid (cW s x0=c):=eQ;obtain⟨v,hv⟩:∃ v,Hid (cW n x1=v):=eQ;rw[hc.o,hv.o];rw[hc.o]at AK;rw[hv.o]at JK;have wZ:∀ wx,YO W.1.size W wx->YR prog 19 #[.agg #[iQ (s:Int),.slice (some (aQ g 0)) n cg,iQ (d:Int)],.agg #[iQ x0,iQ x1]] wx fun e w'=>
   e=.returned (.tuple #[.agg #[iQ (c:Int),iQ (v:Int)],.nilIface])/\(w'.cell? (aQ (w.1.size+1) 0)=some (iQ x0)/\w'.cell? (aQ (w.1.size+1) 1)=some (iQ x1)/\w'.frozen? (aQ (w.1.size+1) 0)=false/\w'.frozen? (aQ (w.1.size+1) 1)=false)/\
    Hid (yC w ((w'.setCell (aQ (w.1.size+1) 0) (iQ (c:Int))).setCell (aQ (w.1.size+1) 1) (iQ (v:Int))) w.1.size p s d n zs g cg M c v S):=by
  intro wx hx;refine(WV s d x0 x1 g n cg zs wx pR.len pR.ok (Yr pR.eV hx.size) (pR.row.below pR.eV hx) pR.cap).mono ?_;rw[hc.o,hv.o];rintro e w' ⟨he,hB⟩;have cN:=hx.trans (hB.mono hx.size);have aX:w'.1[w.1.size+1]?=some (.cells #[iQ x0,iQ x1] 31 (0,0)):=(cN.block _ oQ).trans b1;have aW:∀ k,k≠w.1.size+1->((w'.setCell (aQ (w.1.size+1) 0) (iQ (c:Int))).setCell (aQ (w.1.size+1) 1) (iQ (v:Int))).1[k]?=w'.1[k]?:=fun k hk=>by
   rw[Zb _ _ _ _ hk,Zb _ _ _ _ hk]
  refine⟨he,⟨by rw[ay aX];rfl,by rw[ay aX];rfl,fL aX 0,fL aX 1⟩,?_,?_,?_,?_,?_⟩
  ·exact((aC.trans (cN.mono oQ)).setCell (by show w.1.size<=w.1.size+1;omega) _).setCell (by show w.1.size<=w.1.size+1;omega) _
  ·have hb:YO w.1.size w' ((w'.setCell (aQ (w.1.size+1) 0) (iQ (c:Int))).setCell (aQ (w.1.size+1) 1) (iQ (v:Int))):=((YS w.1.size w').setCell (p:=(aQ (w.1.size+1) 0)) (by show w.1.size<=w.1.size+1;omega) _).setCell (by show w.1.size<=w.1.size+1;omega) _;exact(pR.below (B:=w.1.size) bJ yA yD (cN.mono oQ)).below bJ yA yD hb
  ·exact(aW _ oQ).trans ((cN.block _ oQ).trans b0)
  ·exact(fZ (fZ aX _ _) _ _).trans rfl
  ·exact(aW _ oQ).trans ((cN.block _ oQ).trans b2)
 have Gn:=ae wZ;have k0:W.cell? (aQ p 0)=some (iQ (s:Int)):=by rw[ay pR.blk];rfl
 have k1:W.cell? (aQ p 1)=some (.slice (some (aQ g 0)) n cg):=by rw[ay pR.blk];rfl
 have k2:W.cell? (aQ p 2)=some (iQ (d:Int)):=by rw[ay pR.blk];rfl
 have y0:W.cell? (aQ (w.1.size+1) 0)=some (iQ x0):=by rw[ay b1];rfl
 have y1:W.cell? (aQ (w.1.size+1) 1)=some (iQ x1):=by rw[ay b1];rfl
 have fX:=ae av;clear wZ hK pR aC b0 b1 b2 av hc hv;go_enter func180,ntmps180;go_wp2_with fail
 rw[show(((w.alloc (.cells (aB S) 34)).alloc (.cells #[iQ x0,iQ x1] 31)).alloc (.cells #[iQ 0,iQ 0,iQ 0,iQ 0,iQ 0,iQ 0,iQ 0,iQ 0,iQ 0,iQ 0,iQ 0,iQ 0,iQ 0,iQ 0,iQ 0,iQ 0,iQ 0] 34))=W from hW.o];clear hW;go_region_with ((go_at_call 19;refine(bE Gn _ (by first |exact YS _ _|exact(YS _ _).drew|exact below_drewN (YS _ _) _)).mono ?_;rintro e w1 ⟨rfl,⟨z0,z1,z2,z3⟩,HM⟩))
 all_goals
  clear k0 k1 k2 y0 y1 z0 z1 z2 z3 Gn;generalize((w1.setCell (aQ (w.1.size+1) 0) (iQ (c:Int))).setCell (aQ (w.1.size+1) 1) (iQ (v:Int)))=w2 at HM⊢;have y0:=HM.o.x0;have y1:=HM.o.x1;have WX:=zkv p w.1.size (s:Int) d n zs g cg M c v S w2 HM.o.K HM.o.st oQ oQ oQ fX.o AK JK;have WY:=ae WX;clear WX;go_wp2_with fail
  refine WY.o.mono ?_;rintro e w3 ⟨rfl,zC,im⟩;have kA:=HM.o.grown rfl oQ oQ oQ im zC;obtain⟨L,hL⟩:∃ L,Hid (iA (rt zs) d c v S n=L):=eQ;rw[hL.o]at kA;have WZ:L.set<256:=by rw[<-hL.o];exact Oa _ _ _ _ _ _ 8 fX.o.set
  have kB:=ae kA;clear zC im kA WY HM y0 y1;have y0:=kB.o.x0;have y1:=kB.o.x1;have hsw:=zkz p w.1.size (s:Int) d n zs g cg M c v L w3 kB.o.K kB.o.st oQ oQ oQ WZ AK JK;have W4:=ae hsw;clear hsw;go_wp2_with fail
  refine W4.o.mono ?_;rintro e w4 ⟨rfl,W5,BJ⟩;have lK:=kB.o.grown rfl oQ oQ oQ BJ W5;have W6:mm (rt zs) (eC zs) c v L.set n<256:=Ob _ _ _ _ _ _ 8 WZ oQ;obtain⟨X,hX⟩:∃ X,Hid ((⟨mm (rt zs) (eC zs) c v L.set n,L.used,L.idle⟩:St)=X):=eQ;rw[hX.o]at lK;have zkE:X.set<256:=by rw[<-hX.o];exact W6
  have dx:=ae lK;clear W5 BJ lK W4 kB y0 y1 W6;have mQ:CJ (rt zs) (eC zs) n d c v S=X:=by rw[<-hX.o,<-hL.o];rfl
  have zb7:F2 (rt zs) (eC zs) n d c v S=pT (rt zs) c v X n:=by unfold F2;rw[mQ]
  have JL:=ae mQ;have zkF:=ae zb7;have sY:∀ w':YM,YO w4.1.size w4 w'->w'.rangeAt w.1.size 0 (aB X).toList/\w'.cell? (aQ (w.1.size+1) 0)=some (iQ (c:Int))/\w'.cell? (aQ (w.1.size+1) 1)=some (iQ (v:Int))/\(∃ Y,ck w' (w.1.size+1+1) Y):=by
   intro w' cN;have q1:w'.1[w.1.size]?=some (.cells (aB X) 34 (0,0)):=(cN.block _ (bp dx.o.st)).trans dx.o.st;have q2:w'.1[w.1.size+1]?=_:=(cN.block _ (bp dx.o.bx)).trans dx.o.bx;have q3:w'.1[w.1.size+1+1]?=some (.cells (aB dK) 34 (0,0)):=(cN.block _ (bp dx.o.rs)).trans dx.o.rs;exact⟨fun j u hj=>by rw[Yv,ay q1];simpa using hj,(ay q2 0).trans rfl,(ay q2 1).trans rfl,_,q3⟩
  have OM:∀ wx,YO w4.1.size w4 wx->YR prog 202 #[pQ p,.agg (aB X).toList.toArray,.agg #[iQ (c:Int),iQ (v:Int)]] wx fun e w'=>
    e=.returned (iQ ((pT (rt zs) c v X n:Nat):Int))/\Hid (YO w4.1.size w4 w'):=by
   intro wx hx;have hKx:=dx.o.K.below dx.o.K.kh dx.o.K.eV dx.o.K.mlt hx;refine(zkB p (s:Int) d n zs g cg M c v X wx hKx zkE AK JK).mono ?_;rintro e w' ⟨he,hB⟩;exact⟨he,hx.trans (hB.mono hx.size)⟩
  have HPR:=ae OM;have sZ:=ae sY;have hi:(prog.info? 34).map (·.size)=some (aB X).toList.length:=by rw[iM];rfl
  have HI:=ae hi;clear OM mQ zb7 hX hL sY hi;go_wp2_with fail
  refine Zh (S:=fun w'=>w'.rangeAt w.1.size 0 (aB X).toList/\w'.cell? (aQ (w.1.size+1) 0)=some (iQ (c:Int))/\w'.cell? (aQ (w.1.size+1) 1)=some (iQ (v:Int))/\∃ Y,ck w' (w.1.size+1+1) Y) kQ (sZ.o _ (YS _ _).drew) (fun af=>?_);refine ai 0 _ af ?_ (hy:=yieldsIf_load_mid rQ _ _ rfl _ _ rfl _ _ (fun w h=>h.1) underlying34 rfl HI.o);refine ai 1 (pQ p) af ?_;refine ai 2 _ af ?_ (hy:=yieldsIf_load_mid rQ _ _ rfl _ _ rfl _ _ (fun w h=>h.1) underlying34 rfl HI.o);refine ai 3 (.agg #[iQ (c:Int),iQ (v:Int)]) af ?_ (hy:=Or.inl ⟨rQ,fun w h=>by obtain⟨_,h1,h2,_⟩:=h;go_simp⟩);refine aR 4 fun K hK=>?_
  go_simp;go_at_call 202;refine(bE HPR _ (YS _ _).drew).mono ?_;rintro e w5 ⟨rfl,gS⟩;dsimp only;refine hK.o _ _ (sZ.o _ gS.o) (fun af=>?_);clear hK K;refine aR 5 fun K hK=>?_
  obtain⟨W7,W8,Xa,Y,JM⟩:=sZ.o _ gS.o;refine wp_store_row _ _ _ rfl _ _ rfl rfl _ _ JM (by rw[iM];rfl) rfl (sV X) ?_;have Gp:∀ k,k≠w.1.size+1+1->∀ j,(w5.setRow (w.1.size+1+1) (aB X)).cell? (aQ k j)=w5.cell? (aQ k j):=fun k hk j=>Ze (w:=w5) (yB _ _ _ _ hk)
  refine hK.o _ _ ⟨fun j u hj=>(Gp _ oQ _).trans (W7 j u hj),(Gp _ oQ _).trans W8,(Gp _ oQ _).trans Xa,X,sW JM X⟩ (fun af=>?_);clear hK K;simp only[Act.put];have gA:=sX (dx.o.old.trans (gS.o.mono (Nat.le_of_lt (bp dx.o.st)))) (show w.1.size<=w.1.size+1+1 by omega) (aB X);have yE:=sW JM X;have mq:=ae gA;clear gA Gp W7 W8 Xa JM;generalize w5.setRow (w.1.size+1+1) (aB X)=w6 at mq yE af⊢;refine ai 6 (iQ ((pT (rt zs) c v X n:Nat):Int)) af ?_;refine wpAnyH_done kQ ?_ _;have zkG:=ae yE;clear yE af;go_wp2
  refine Zm (v:=.tuple #[.agg (aB X),iQ ((pT (rt zs) c v X n:Nat):Int)]) ?_ rfl ⟨by rw[JL.o,zkF.o],mq.o⟩;have hld:=run_loadVar_row (P:=prog) w6 _ _ 34 _ _ _ zkG.o underlying34 rfl (by rw[iM];rfl);exact zkD results180 rfl hld
def eJ(w:YM)(p t n:Nat)(f:Nat->YN):Prop:=∃ cs:Array YN,w.1[p]?=some (.cells cs t (0,0))/\cs.size=n/\∀ k,k<n->cs[k]?=some (f k)
section
variable {w w':YM}{p t n:Nat}{f g:Nat->YN}
theorem eJ.at(h:eJ w p t n f)(hk:k<n):w.cell? (aQ p k)=some (f k):=by
 obtain⟨cs,h1,_,h3⟩:=h;rw[ay h1];exact h3 k hk
theorem eJ.free(h:eJ w p t n f)(k:Nat):w.frozen? (aQ p k)=false:=by
 obtain⟨cs,h1,_⟩:=h;exact fL h1 k
theorem eJ.lt(h:eJ w p t n f):p<w.1.size:=by
 obtain⟨cs,h1,_⟩:=h;exact bp h1
theorem eJ.same(h:eJ w p t n f)(hb:w'.1[p]?=w.1[p]?):eJ w' p t n f:=by
 obtain⟨cs,h1,h2⟩:=h;exact⟨cs,hb.trans h1,h2⟩
theorem eJ.congr(h:eJ w p t n f)(e:∀ k,k<n->f k=g k):eJ w p t n g:=by
 obtain⟨cs,h1,h2,h3⟩:=h;exact⟨cs,h1,h2,fun k hk=>by rw[h3 k hk,e k hk]⟩
theorem eJ.set(h:eJ w p t n f)(hk:k<n)(v:YN):eJ (w.setCell (aQ p k) v) p t n (upd f k v):=by
 obtain⟨cs,h1,h2,h3⟩:=h;refine⟨_,fZ h1 k v,by simpa using h2,fun j hj=>?_⟩;rw[Array.getElem?_setIfInBounds];by_cases e:k=j
 ·subst e;simp[h2,hk,upd_same]
 ·rw[YG e,cR f v (fun h=>e h.symm)];exact h3 j hj
theorem eJ.mr:∀(vs:List YN)(o:Nat)(w:YM)(f:Nat->YN),eJ w p t n f->o+vs.length<=n->eJ (w.setCells p o vs) p t n (fun k=>if o<=k then(vs[k-o]?).getD (f k)else f k)
 |[],o,w,f,h,_=>h.congr fun k _=>sQ
 |v::r,o,w,f,h,hl=>by
  simp only[Yg]at hl;refine(eJ.mr r (o+1) (w.setCell (aQ p o) v) (upd f o v) (h.set oQ v) oQ).congr fun k _=>?_
  by_cases h1:k<o
  ·rw[YG oQ,YG oQ,cR _ _ oQ]
  ·by_cases h2:k=o
   ·subst h2;rw[if_neg oQ,if_pos lQ];simp[upd_same]
   ·rw[YH oQ,YH oQ,cR _ _ h2,show k-o=(k-(o+1))+1 by omega,zsb]
theorem eJ.range(h:eJ w p t n f){cs:List YN}(hl:o+cs.length<=n)(hc:∀ j,j<cs.length->cs[j]?=some (f (o+j))):w.rangeAt p o cs:=by
 intro j v hv;have hj:j<cs.length:=(Ye.1 hv).1;rw[h.at oQ,<-hc j hj,hv]
theorem eJ.there(h:eJ w p t n f)(hl:o+m<=n):w.there p o m:=fun j hj=>⟨by rw[h.at oQ];rfl,h.free _⟩
end
structure mv where
 there:Bool
 came:Int
 c:Nat
 v:Nat
def js:mv:=⟨false,0,0,0⟩
def jF(x:mv):List YN:=[.bool x.there,iQ x.came,iQ (x.c:Int),iQ (x.v:Int)]
structure RS where
 id:Nat
 cycle:Int
 aO:Int
 ahead:Int
 st:St
 sx:Int
 sy:Int
 aI:Nat->mv
 told:Nat->Nat->Int
def di(T:Nat->Int):Array YN:=#[iQ (T 0),iQ (T 1),iQ (T 2),iQ (T 3),iQ (T 4),iQ (T 5),iQ (T 6),iQ (T 7),iQ (T 8),iQ (T 9),iQ (T 10),iQ (T 11),iQ (T 12),iQ (T 13),iQ (T 14),iQ (T 15),iQ (T 16),iQ (T 17)]
theorem AL(T:Nat->Int)(k:Nat)(h:k<18):(di T)[k]?=some (iQ (T k)):=by
 match k,h with
 | 0,_=>rfl | 1,_=>rfl | 2,_=>rfl | 3,_=>rfl | 4,_=>rfl | 5,_=>rfl | 6,_=>rfl | 7,_=>rfl | 8,_=>rfl | 9,_=>rfl | 10,_=>rfl | 11,_=>rfl | 12,_=>rfl | 13,_=>rfl | 14,_=>rfl | 15,_=>rfl | 16,_=>rfl | 17,_=>rfl
 |_+18,h=>exact absurd h oQ
structure RC where
 s:Nat
 d:Nat
 n:Nat
 zs:List Int
 pc:Nat
 g:Nat
 cg:Nat
 M:Nat
 g2:Nat
 c2:Nat
def bX(C:RC)(R:RS)(k:Nat):YN:=
 if k=0 then .int .i64 (R.id:Int)else if k=1 then .int .i64 (C.s:Int)else if k=2 then .slice (some (aQ C.g2 0)) C.n C.c2 else if k=3 then .int .i64 (C.d:Int)else if k=4 then pQ C.pc
 else if k=5 then .int .i64 R.cycle else if k=6 then .int .i64 R.aO else if k=7 then .int .i64 R.ahead
 else if k<25 then((aB R.st)[k-8]?).getD YY
 else if k=25 then .int .i64 R.sx else if k=26 then .int .i64 R.sy
 else if k<39 then((jF (R.aI ((k-27)/4)))[(k-27)%4]?).getD YY
 else .int .i64 (R.told ((k-39)/18) ((k-39)%18))
structure aF(w:YM)(p:Nat)(C:RC)(R:RS):Prop where
 blk:eJ w p 160 93 (bX C R)
 core:gz w C.pc (C.s:Int) (C.d:Int) C.n C.zs C.g C.cg C.M
 row:Row w C.g2 0 C.zs
 nV:C.g2<w.1.size
 JN:C.n<=C.c2
 ap:p≠C.pc/\p≠C.g/\p≠C.M/\p≠C.g2
theorem gz.blocks{w wx:YM}{p:Nat}{s d:Int}{n:Nat}{g:Nat}(h:gz w p s d n zs g cg M)(hs:w.1.size<=wx.1.size)(hb:∀ k,k=p\/k=g\/k=M->wx.1[k]?=w.1[k]?):gz wx p s d n zs g cg M:=
 ⟨(hb p (.inl rfl)).trans h.blk,h.len,h.cap,Yr h.eV hs,fun k hk=>(Ze (w:=w) (hb g (.inr (.inl rfl)))).trans (h.row k hk),h.CQ.of_block (hb M (.inr (.inr rfl))),h.ok⟩
section
variable {w w':YM}{p:Nat}{C:RC}{R R':RS}
theorem aF.lt(h:aF w p C R):p<w.1.size:=h.blk.lt
theorem aF.mod(h:aF w p C R)(hm:Mod w w' (· = p))(hb:eJ w' p 160 93 (bX C R')):aF w' p C R':=by
 have e:∀ k,k<w.1.size->k≠p->w'.1[k]?=w.1[k]?:=fun k hk hp=>hm.block k hk hp
 obtain⟨a1,a2,a3,a4⟩:=h.ap;refine⟨hb,h.core.blocks hm.size ?_,fun k hk=>(Ze (w:=w) (e _ h.nV (fun x=>a4 x.symm))).trans (h.row k hk),Yr h.nV hm.size,h.JN,h.ap⟩;rintro k (rfl|rfl|rfl)
 ·exact e _ h.core.kh (fun x=>a1 x.symm)
 ·exact e _ h.core.eV (fun x=>a2 x.symm)
 ·exact e _ h.core.mlt (fun x=>a3 x.symm)
theorem aF.below(h:aF w p C R)(hB:YO w.1.size w w'):aF w' p C R:=h.mod (Mod.fB hB _) (h.blk.same (hB.block _ h.lt))
theorem aF.other(h:aF w p C R){q:Nat}(hm:Mod w w' (· = q))(hq:q≠p/\q≠C.pc/\q≠C.g/\q≠C.M/\q≠C.g2):aF w' p C R:=by
 have e:∀ k,k<w.1.size->k≠q->w'.1[k]?=w.1[k]?:=fun k hk hp=>hm.block k hk hp
 obtain⟨a0,a1,a2,a3,a4⟩:=hq;refine⟨h.blk.same (e _ h.lt (fun x=>a0 x.symm)),h.core.blocks hm.size ?_,fun k hk=>(Ze (w:=w) (e _ h.nV (fun x=>a4 x.symm))).trans (h.row k hk),Yr h.nV hm.size,h.JN,h.ap⟩;rintro k (rfl|rfl|rfl)
 ·exact e _ h.core.kh (fun x=>a1 x.symm)
 ·exact e _ h.core.eV (fun x=>a2 x.symm)
 ·exact e _ h.core.mlt (fun x=>a3 x.symm)
theorem aF.put(h:aF w p C R)(hk:k<93)(v:YN)(e:∀ j,j<93->upd (bX C R) k v j=bX C R' j):aF (w.setCell (aQ p k) v) p C R':=
 h.mod ((Mod.refl w _).set (aQ p k) v (fun _=>rfl)) ((h.blk.set hk v).congr e)
theorem Mod.mr{T:Nat->Prop}{w w1:YM}(h:Mod w w1 T)(p o:Nat)(vs:List YN)(hp:T p):Mod w (w1.setCells p o vs) T:=by
 refine⟨(World.os_setCells _ _ _ _).trans h.os,?_,(World.output_setCells _ _ _ _).trans h.output,?_,fun k hk ht=>?_⟩
 ·have:∀(vs:List YN)(o:Nat)(x:YM),(x.setCells p o vs).tape=x.tape:=by
   intro vs;induction vs with
   |nil=>intro _ _;rfl
   |cons v r ih=>intro o x;exact ih (o+1) (x.setCell ⟨p,o,none⟩ v)
  rw[this];exact h.tape
 ·have:∀(vs:List YN)(o:Nat)(x:YM),(x.setCells p o vs).1.size=x.1.size:=by
   intro vs;induction vs with
   |nil=>intro _ _;rfl
   |cons v r ih=>intro o x;exact(ih (o+1) (x.setCell ⟨p,o,none⟩ v)).trans (by simp[World.setCell])
  rw[this];exact h.size
 ·have aW:k≠p:=fun e=>ht (e▸hp)
  exact(World.heap_setCells_other w1 p o vs (Yr hk h.size) aW).trans (h.block k hk ht)
theorem aF.AO(h:aF w p C R)(o:Nat)(vs:List YN)(hl:o+vs.length<=93)(e:∀ j,j<93->(if o<=j then(vs[j-o]?).getD (bX C R j)else bX C R j)=bX C R' j):aF (w.setCells p o vs) p C R':=
 h.mod ((Mod.refl w _).mr p o vs rfl) ((eJ.mr vs o w _ h.blk hl).congr e)
theorem aF.c0(h:aF w p C R):w.cell? (aQ p 0)=some (iQ (R.id:Int)):=h.blk.at dQ
theorem aF.c1(h:aF w p C R):w.cell? (aQ p 1)=some (iQ (C.s:Int)):=h.blk.at dQ
theorem aF.c2(h:aF w p C R):w.cell? (aQ p 2)=some (.slice (some (aQ C.g2 0)) C.n C.c2):=h.blk.at dQ
theorem aF.c3(h:aF w p C R):w.cell? (aQ p 3)=some (iQ (C.d:Int)):=h.blk.at dQ
theorem aF.c4(h:aF w p C R):w.cell? (aQ p 4)=some (pQ C.pc):=h.blk.at dQ
theorem aF.c5(h:aF w p C R):w.cell? (aQ p 5)=some (iQ R.cycle):=h.blk.at dQ
theorem aF.c6(h:aF w p C R):w.cell? (aQ p 6)=some (iQ R.aO):=h.blk.at dQ
theorem aF.c7(h:aF w p C R):w.cell? (aQ p 7)=some (iQ R.ahead):=h.blk.at dQ
theorem aF.AP(h:aF w p C R):w.cell? (aQ p 25)=some (iQ R.sx):=h.blk.at dQ
theorem aF.AU(h:aF w p C R):w.cell? (aQ p 26)=some (iQ R.sy):=h.blk.at dQ
theorem aF.state(h:aF w p C R):w.rangeAt p 8 (aB R.st).toList:=by
 refine h.blk.range (by show 8+17<=93;omega) fun j hj=>?_
 have kq:j<17:=hj;unfold bX;rw[YG oQ,YG oQ,YG oQ,YG oQ,YG oQ,YG oQ,YG oQ,YG oQ,YH oQ,show 8+j-8=j by omega];have hs:j<(aB R.st).size:=kq;rw[X5,XW hs];rfl
theorem yF(hk:k<3)(hj:j<4):bX C R (27+k*4+j)=((jF (R.aI k))[j]?).getD YY:=by
 unfold bX;rw[YG oQ,YG oQ,YG oQ,YG oQ,YG oQ,YG oQ,YG oQ,YG oQ,YG oQ,YG oQ,YG oQ,YH oQ,show(27+k*4+j-27)/4=k by omega,show(27+k*4+j-27)%4=j by omega]
theorem JO(hk:k<3)(hj:j<18):bX C R (39+k*18+j)=iQ (R.told k j):=by
 unfold bX;rw[YG oQ,YG oQ,YG oQ,YG oQ,YG oQ,YG oQ,YG oQ,YG oQ,YG oQ,YG oQ,YG oQ,YG oQ,show(39+k*18+j-39)/18=k by omega,show(39+k*18+j-39)%18=j by omega]
theorem aF.s2(h:aF w p C R)(hk:k<3):w.cell? (aQ p (27+k*4+2))=some (iQ ((R.aI k).c:Int)):=(h.blk.at oQ).trans (YC some (yF (j:=2) hk oQ))
theorem aF.s3(h:aF w p C R)(hk:k<3):w.cell? (aQ p (27+k*4+3))=some (iQ ((R.aI k).v:Int)):=(h.blk.at oQ).trans (YC some (yF (j:=3) hk oQ))
def oY(f:Nat->mv):List YN:=jF (f 0)++jF (f 1)++jF (f 2)
theorem aF.samples(h:aF w p C R):w.rangeAt p 27 (oY R.aI):=by
 refine h.blk.range (by show 27+12<=93;omega) fun j hj=>?_
 have kq:j<12:=hj;rcases(by omega:j<4\/(4<=j/\j<8)\/(8<=j/\j<12))with h1|h1|h1
 ·have:=yF (C:=C) (R:=R) (k:=0) (j:=j) oQ h1;rw[show 27+0*4+j=27+j by omega]at this;rw[this];rcases(by omega:j=0\/j=1\/j=2\/j=3)with rfl|rfl|rfl|rfl<;>rfl
 ·have:=yF (C:=C) (R:=R) (k:=1) (j:=j-4) oQ oQ;rw[show 27+1*4+(j-4)=27+j by omega]at this;rw[this];rcases(by omega:j=4\/j=5\/j=6\/j=7)with rfl|rfl|rfl|rfl<;>rfl
 ·have:=yF (C:=C) (R:=R) (k:=2) (j:=j-8) oQ oQ;rw[show 27+2*4+(j-8)=27+j by omega]at this;rw[this];rcases(by omega:j=8\/j=9\/j=10\/j=11)with rfl|rfl|rfl|rfl<;>rfl
def p7(f:Nat->Nat->Int):List YN:=(di (f 0)).toList++(di (f 1)).toList++(di (f 2)).toList
theorem Xb(f:Nat->Nat->Int)(hk:k<3)(hj:j<18):(p7 f)[k*18+j]?=some (iQ (f k j)):=by
 have a:∀ i,(di (f i)).toList[j]?=some (iQ (f i j)):=fun i=>by rw[X5];exact AL _ _ hj
 have l:∀ i,(di (f i)).toList.length=18:=fun _=>rfl
 unfold p7;rcases(by omega:k=0\/k=1\/k=2)with rfl|rfl|rfl
 ·rw[zr8,Yb (by rw[l];omega),zvp,Yv,a]
 ·rw[zr8,zsa (by rw[l];omega),Yb (by rw[l,l];omega),l,show 1*18+j-18=j by omega,a]
 ·rw[zsa (by rw[Yf,l,l];omega),Yf,l,l,show 2*18+j-(18+18)=j by omega,a]
theorem aF.zkH(h:aF w p C R):w.rangeAt p 39 (p7 R.told):=by
 refine h.blk.range (by show 39+54<=93;omega) fun j hj=>?_
 have kq:j<54:=hj;have e:=Xb R.told (k:=j/18) (j:=j%18) oQ oQ;have e2:=JO (C:=C) (R:=R) (k:=j/18) (j:=j%18) oQ oQ;rw[show j/18*18+j%18=j by omega]at e;rw[show 39+j/18*18+j%18=39+j by omega]at e2;rw[e,e2]
end
section
variable {C:RC}{R:RS}
theorem zkI(x:mv)(hk:k<3)(hj:j<93):(if 27+k*4<=j then((jF x)[j-(27+k*4)]?).getD (bX C R j)else bX C R j)=bX C {R with aI:=upd R.aI k x} j:=by
 by_cases hr:27+k*4<=j/\j<27+k*4+4
 ·obtain⟨i,rfl⟩:∃ i,j=27+k*4+i:=⟨j-(27+k*4),oQ⟩;have hi:i<4:=oQ;rw[YH oQ,yF hk hi,yF hk hi,show 27+k*4+i-(27+k*4)=i by omega];show _=((jF (upd R.aI k x k))[i]?).getD YY;rw[upd_same];rcases(by omega:i=0\/i=1\/i=2\/i=3)with rfl|rfl|rfl|rfl<;>rfl
 ·have e:(if 27+k*4<=j then((jF x)[j-(27+k*4)]?).getD (bX C R j)else bX C R j)=bX C R j:=by
   split
   ·rw[zsc (by show 4<=_;omega)];rfl
   ·rfl
  rw[e];unfold bX;refine YJ rfl (fun _=>rfl) fun h0=>?_
  refine YJ rfl (fun _=>rfl) fun h1=>?_
  refine YJ rfl (fun _=>rfl) fun h2=>?_
  refine YJ rfl (fun _=>rfl) fun h3=>?_
  refine YJ rfl (fun _=>rfl) fun h4=>?_
  refine YJ rfl (fun _=>rfl) fun h5=>?_
  refine YJ rfl (fun _=>rfl) fun h6=>?_
  refine YJ rfl (fun _=>rfl) fun h7=>?_
  refine YJ rfl (fun _=>rfl) fun h8=>?_
  refine YJ rfl (fun _=>rfl) fun h9=>?_
  refine YJ rfl (fun _=>rfl) fun Hx=>?_
  refine YJ rfl (fun pB=>?_) fun _=>rfl
  show _=((jF (upd R.aI k x ((j-27)/4)))[(j-27)%4]?).getD YY;rw[cR _ _ oQ]
theorem zkJ(T:Nat->Int)(hk:k<3)(hj:j<93):(if 39+k*18<=j then((di T).toList[j-(39+k*18)]?).getD (bX C R j)else bX C R j)=bX C {R with told:=upd R.told k T} j:=by
 by_cases hr:39+k*18<=j/\j<39+k*18+18
 ·obtain⟨i,rfl⟩:∃ i,j=39+k*18+i:=⟨j-(39+k*18),oQ⟩;have hi:i<18:=oQ;rw[YH oQ,JO hk hi,JO hk hi,show 39+k*18+i-(39+k*18)=i by omega,X5,AL T i hi];show _=iQ (upd R.told k T k i);rw[upd_same];rfl
 ·have e:(if 39+k*18<=j then((di T).toList[j-(39+k*18)]?).getD (bX C R j)else bX C R j)=bX C R j:=by
   split
   ·rw[zsc (by show 18<=_;omega)];rfl
   ·rfl
  rw[e];unfold bX;refine YJ rfl (fun _=>rfl) fun h0=>?_
  refine YJ rfl (fun _=>rfl) fun h1=>?_
  refine YJ rfl (fun _=>rfl) fun h2=>?_
  refine YJ rfl (fun _=>rfl) fun h3=>?_
  refine YJ rfl (fun _=>rfl) fun h4=>?_
  refine YJ rfl (fun _=>rfl) fun h5=>?_
  refine YJ rfl (fun _=>rfl) fun h6=>?_
  refine YJ rfl (fun _=>rfl) fun h7=>?_
  refine YJ rfl (fun _=>rfl) fun h8=>?_
  refine YJ rfl (fun _=>rfl) fun h9=>?_
  refine YJ rfl (fun _=>rfl) fun Hx=>?_
  refine YJ rfl (fun _=>rfl) fun pB=>?_
  have:upd R.told k T ((j-39)/18)=R.told ((j-39)/18):=cR _ _ oQ;show _=iQ (upd R.told k T ((j-39)/18) ((j-39)%18));rw[this]
theorem zkK(X:St):(if 8<=j then((aB X).toList[j-8]?).getD (bX C R j)else bX C R j)=bX C {R with st:=X} j:=by
 by_cases hr:8<=j/\j<25
 ·rw[YH hr.1];have hs:j-8<(aB X).size:=by show j-8<17;omega
  unfold bX;rw[YG oQ,YG oQ,YG oQ,YG oQ,YG oQ,YG oQ,YG oQ,YG oQ,YH hr.2];rw[YG oQ,YG oQ,YG oQ,YG oQ,YG oQ,YG oQ,YG oQ,YG oQ,YH hr.2];rw[X5,XW hs];rfl
 ·have e:(if 8<=j then((aB X).toList[j-8]?).getD (bX C R j)else bX C R j)=bX C R j:=by
   split
   ·rw[zsc (by show 17<=_;omega)];rfl
   ·rfl
  rw[e];unfold bX;refine YJ rfl (fun _=>rfl) fun h0=>?_
  refine YJ rfl (fun _=>rfl) fun h1=>?_
  refine YJ rfl (fun _=>rfl) fun h2=>?_
  refine YJ rfl (fun _=>rfl) fun h3=>?_
  refine YJ rfl (fun _=>rfl) fun h4=>?_
  refine YJ rfl (fun _=>rfl) fun h5=>?_
  refine YJ rfl (fun _=>rfl) fun h6=>?_
  refine YJ rfl (fun _=>rfl) fun h7=>?_
  exact YJ rfl (fun h8=>absurd h8 oQ) fun _=>rfl
theorem zkL(hj:j<93):(if 27<=j then((oY fun _=>js)[j-27]?).getD (bX C R j)else bX C R j)=bX C {R with aI:=fun _=>js} j:=by
 by_cases hr:27<=j/\j<39
 ·obtain⟨i,rfl⟩:∃ i,j=27+i:=⟨j-27,oQ⟩;have hi:i<12:=oQ;rw[YH oQ,show 27+i-27=i by omega];have e:=yF (C:=C) (R:={R with aI:=fun _=>js}) (k:=i/4) (j:=i%4) oQ oQ;rw[show 27+i/4*4+i%4=27+i by omega]at e;rw[e];show((oY fun _=>js)[i]?).getD _=((jF js)[i%4]?).getD YY;rcases(by omega:i=0\/i=1\/i=2\/i=3\/i=4\/i=5\/i=6\/i=7\/i=8\/i=9\/i=10\/i=11)with rfl|rfl|rfl|rfl|rfl|rfl|rfl|rfl|rfl|rfl|rfl|rfl<;>rfl
 ·have e:(if 27<=j then((oY fun _=>js)[j-27]?).getD (bX C R j)else bX C R j)=bX C R j:=by
   split
   ·rw[zsc (by show 12<=_;omega)];rfl
   ·rfl
  rw[e];unfold bX;refine YJ rfl (fun _=>rfl) fun h0=>?_
  refine YJ rfl (fun _=>rfl) fun h1=>?_
  refine YJ rfl (fun _=>rfl) fun h2=>?_
  refine YJ rfl (fun _=>rfl) fun h3=>?_
  refine YJ rfl (fun _=>rfl) fun h4=>?_
  refine YJ rfl (fun _=>rfl) fun h5=>?_
  refine YJ rfl (fun _=>rfl) fun h6=>?_
  refine YJ rfl (fun _=>rfl) fun h7=>?_
  refine YJ rfl (fun _=>rfl) fun h8=>?_
  refine YJ rfl (fun _=>rfl) fun h9=>?_
  refine YJ rfl (fun _=>rfl) fun Hx=>?_
  exact YJ rfl (fun pB=>absurd pB oQ) fun _=>rfl
theorem zkM(hj:j<93):(if 39<=j then((p7 fun _ _=>0)[j-39]?).getD (bX C R j)else bX C R j)=bX C {R with told:=fun _ _=>0} j:=by
 by_cases hr:39<=j
 ·obtain⟨i,rfl⟩:∃ i,j=39+i:=⟨j-39,oQ⟩;have hi:i<54:=oQ;rw[YH oQ,show 39+i-39=i by omega];have e:=JO (C:=C) (R:={R with told:=fun _ _=>0}) (k:=i/18) (j:=i%18) oQ oQ;have e2:=Xb (fun _ _=>0) (k:=i/18) (j:=i%18) oQ oQ;rw[show 39+i/18*18+i%18=39+i by omega]at e;rw[show i/18*18+i%18=i by omega]at e2;rw[e,e2];rfl
 ·rw[YG hr];unfold bX;refine YJ rfl (fun _=>rfl) fun h0=>?_
  refine YJ rfl (fun _=>rfl) fun h1=>?_
  refine YJ rfl (fun _=>rfl) fun h2=>?_
  refine YJ rfl (fun _=>rfl) fun h3=>?_
  refine YJ rfl (fun _=>rfl) fun h4=>?_
  refine YJ rfl (fun _=>rfl) fun h5=>?_
  refine YJ rfl (fun _=>rfl) fun h6=>?_
  refine YJ rfl (fun _=>rfl) fun h7=>?_
  refine YJ rfl (fun _=>rfl) fun h8=>?_
  refine YJ rfl (fun _=>rfl) fun h9=>?_
  refine YJ rfl (fun _=>rfl) fun Hx=>?_
  exact YJ rfl (fun _=>rfl) fun pB=>absurd hj oQ
theorem zkN(c:Int):upd (bX C R) 5 (iQ c) j=bX C {R with cycle:=c} j:=by
 unfold upd bX;by_cases e:j=5
 ·subst e;rfl
 ·simp[e]
theorem zkO(c:Int):upd (bX C R) 6 (iQ c) j=bX C {R with aO:=c} j:=by
 unfold upd bX;by_cases e:j=6
 ·subst e;rfl
 ·simp[e]
theorem zkP(c:Int):upd (bX C R) 7 (iQ c) j=bX C {R with ahead:=c} j:=by
 unfold upd bX;by_cases e:j=7
 ·subst e;rfl
 ·simp[e]
end
section
variable {w:YM}{p:Nat}{C:RC}{R:RS}
theorem aF.OO(h:aF w p C R)(hk:k<3)(x:mv):aF (w.setCells p (27+k*4) (jF x)) p C {R with aI:=upd R.aI k x}:=
 h.AO _ _ (by show 27+k*4+4<=93;omega) fun _ hj=>zkI x hk hj
theorem aF.zkQ(h:aF w p C R)(hk:k<3)(T:Nat->Int):aF (w.setCells p (39+k*18) (di T).toList) p C {R with told:=upd R.told k T}:=
 h.AO _ _ (by show 39+k*18+18<=93;omega) fun _ hj=>zkJ T hk hj
theorem aF.zkR(h:aF w p C R)(X:St):aF (w.setCells p 8 (aB X).toList) p C {R with st:=X}:=
 h.AO _ _ (by show 8+17<=93;omega) fun _ _=>zkK X
theorem aF.zkS(h:aF w p C R):aF (w.setCells p 27 (oY fun _=>js)) p C {R with aI:=fun _=>js}:=
 h.AO _ _ (by show 27+12<=93;omega) fun _ hj=>zkL hj
theorem aF.zkT(h:aF w p C R):aF (w.setCells p 39 (p7 fun _ _=>0)) p C {R with told:=fun _ _=>0}:=
 h.AO _ _ (by show 39+54<=93;omega) fun _ hj=>zkM hj
theorem aF.lL(h:aF w p C R)(c:Int):aF (w.setCell (aQ p 5) (iQ c)) p C {R with cycle:=c}:=h.put dQ _ fun _ _=>zkN c
theorem aF.tick(h:aF w p C R)(c:Int):aF (w.setCell (aQ p 6) (iQ c)) p C {R with aO:=c}:=h.put dQ _ fun _ _=>zkO c
theorem aF.CZ(h:aF w p C R)(c:Int):aF (w.setCell (aQ p 7) (iQ c)) p C {R with ahead:=c}:=h.put dQ _ fun _ _=>zkP c
theorem aF.drew(h:aF w p C R):aF w.drew p C R:=h.below (YS _ _).drew
end
def ep(w:YM)(t:YT)(v:YN)(L:List FR):Prop:=
 (L=[]/\v=.slice none 0 0)\/∃ g cap,v=.slice (some (aQ g 0)) L.length cap/\L.length<=cap/\∃ cs,w.1[g]?=some (.cells cs t (0,0))/\∀ i,i<L.length->∀ j,j<23->cs[i*23+j]?=some (iQ ((L[i]?.getD aD) j))
theorem ep.one{w:YM}{t g:Nat}{F:FR}(h:w.1[g]?=some (.cells (ak F) t (0,0))):ep w t (.slice (some (aQ g 0)) 1 1) [F]:=
 .inr ⟨g,1,rfl,Yp _,ak F,h,fun i hi j hj=>by
  have:i=0:=by simpa using hi
  subst this;rw[zvp,Yv];exact cK F j hj⟩
theorem ep.two{w:YM}{t base g:Nat}{F G:FR}(h:w.ownsRow base t 23 (.slice (some (aQ g 0)) 2 cap) 2 ((ak F).toList++(ak G).toList)):ep w t (.slice (some (aQ g 0)) 2 cap) [F,G]:=by
 rcases h.2 with ⟨e,_⟩|⟨g',eu,bA,e,_,hg,hc,_,_,ht⟩
 ·simp at e
 simp only[ztd,YA,zts,zsB,true_and]at e;obtain⟨rfl,rfl⟩:=e;refine .inr ⟨g,cap,rfl,hc,bA,hg,fun i hi j hj=>?_⟩;have qG:i<2:=by simpa using hi
 have e1:bA[i*23+j]?=((ak F).toList++(ak G).toList)[i*23+j]?:=by
  rw[<-ht,zse,YH oQ,X5]
 rw[e1];match i,qG with
 | 0,_=>rw[List.getElem?_append_left (by simp[ky];omega),Array.getElem?_toList,zvp,Nat.zero_add];exact cK F j hj
 | 1,_=>rw[List.getElem?_append_right (by simp[ky]),Array.getElem?_toList,show 1*23+j-(ak F).toList.length=j by simp[ky]];exact cK G j hj
theorem ep.range{w:YM}{t g n:Nat}{L:List FR}(h:ep w t (.slice (some (aQ g 0)) n cap) L){i:Nat}(hi:i<L.length):w.rangeAt g (i*23) (ak (L[i]?.getD aD)).toList:=by
 rcases h with ⟨_,e⟩|⟨g',eu,e,_,cs,hg,hc⟩
 ·simp at e
 simp only[ztd,YA,zts,zsB]at e;obtain⟨rfl,_⟩:=e;intro j v hv;have hj:j<23:=by have:=(List.getElem?_eq_some_iff.1 hv).1;simpa[ky]using this
 have e2:=cK (L[i]?.getD aD) j hj;rw[<-X5,hv]at e2;rw[ay hg,hc i hi j hj,e2]
theorem ep.below{w w':YM}{t:YT}{L:List FR}(h:ep w t v L)(hB:YO w.1.size w w'):ep w' t v L:=by
 rcases h with h|⟨g,cap,rfl,h1,cs,hg,hc⟩
 ·exact .inl h
 ·exact .inr ⟨g,cap,rfl,h1,cs,(hB.block g (bp hg)).trans hg,hc⟩
theorem Xc:(prog.info? 36).map (fun i=>(i.zero,i.size,i.bytes))=some (some (.agg (ak aD)),23,184):=kQ
theorem zkU(F:FR):Instr.fill (fun i=>some (i*23,23)) ((Array.range (1*23)).map ((ak aD)[· % (ak aD).size]!)) [(0,.agg (ak F))]=some (ak F):=by
 have h:=Great.fill_whole (s:=23) dQ [.agg (ak F)] ((Array.range (1*23)).map ((ak aD)[· % (ak aD).size]!)) (by intro v hv;simp at hv;subst hv;rfl) sQ;have e:(List.flatMap (fun v:YN=>v.cells.toList) [Value.agg (ak F)]).toArray=ak F:=by
  rw[List.flatMap_cons,List.flatMap_nil,List.append_nil];rfl
 rw[e]at h;exact h
section
variable {au:Array Oper}{rest:List Oper}{op:Oper}{a:Act}{w:YM}{Q:Exit->Act->YM->Prop}
theorem yG(gq:op.guard=none)(x:Operand)(ho:op.op=.buildSlice 211 1 #[(0,x)])(F:FR)(hx:a.eval x=.agg (ak F))(H:Nat)(hH:w.1.size=H)
  (h:∀ w',Hid (w'.1[H]?=some (.cells (ak F) 36 (0,0))/\w'.1.size=H+1/\YO H w w')->wpList prog au Q rest (a.put op.dst (.slice (some (aQ H 0)) 1 1)) w'):wpList prog au Q (op::rest) a w:=by
 obtain⟨i0,hi,cQ,bf,bK⟩:=ZM Xc;subst hH;refine wpList_buildSlice gq _ 36 1 _ ho (ak F) i0 (.agg (ak aD)) underlying211 hi cQ (by rw[bf];decide) (by rw[bf];decide) ?_ (h _ ⟨aU _ _,sQ,(YS _ _).alloc lQ _⟩);rw[bf];simp only[Yk,Yi,Yj,hx];exact zkU F
end
def ints(l:List Int):List YN:=l.map (zsS .i64)
structure ra(w wr:YM)(t:Nat)(F:FR)(v:YN)(l:List Int):Prop where
 old:YO w.1.size w wr
 box:aM wr w.1.size t F
 own:wr.ownsRow (w.1.size+1) 3 1 v l.length (ints l)
theorem ra.put{w wr w3:YM}{t:Nat}{F:FR}{ms:List Int}{p:Obj}(h:ra w wr t F v l)(hm:ms.length=m)
  (bC:w3.ownsRow (w.1.size+1) 3 1 v' (l.length+m) (ints l++ints ms)) (hg:(wr.alloc p).grownBy w3 v.ownBlock):ra w w3 t F v' (l++ms):=by
 have hN:w.1.size<wr.1.size:=h.box.lt;have bo:YO wr.1.size wr (wr.alloc p):=(YS _ _).alloc lQ _;refine⟨(h.old.trans (bo.mono oQ)).grown hg tQ (fun k hk=>by have:=(h.own.lt k hk).1;omega),?_,?_⟩
 ·unfold aM;rw[hg.block w.1.size tQ (fun e=>by have:=(h.own.lt _ e.symm).1;omega),bo.block _ hN];exact h.box
 ·rw[Yf,hm];simpa[ints]using bC
def xa(w w':YM)(l:List Int)(v:YN):Prop:=∃ g cp,v=.slice (some (aQ g 0)) l.length cp/\w.1.size<=g/\g<w'.1.size/\l.length<=cp/\Row w' g 0 l
theorem ra.done{w wr:YM}{t:Nat}{F:FR}(h:ra w wr t F v l)(hl:l≠[]):xa w wr l v:=by
 have ho:=h.own;obtain⟨_,zX⟩:=h.own;rcases zX with ⟨_,h0⟩|⟨g,cp,bA,rfl,hg,hh,il,hm,bm,ht⟩
 ·exact absurd (zsh.1 h0) hl
 ·refine⟨g,cp,rfl,oQ,bp hh,il,fun k hk=>?_⟩;rw[Yv,ho.cellAt k oQ];simp[ints,hk]
theorem Gq(w:YM)(t:Nat)(F:FR)(x y z:Int):ra w ((w.alloc (.cells (ak F) t)).alloc (.cells #[iQ x,iQ y,iQ z] 3)) t F (.slice (some (aQ (w.1.size+1) 0)) 3 3) [x,y,z]:=by
 refine⟨((YS _ _).alloc lQ _).alloc sQ _,(Za _ _ _ sQ).trans (aU _ _),?_⟩;have:=World.ownsRow_lit (base:=w.1.size+1) (e:=3) (size:=1) (w.alloc (.cells (ak F) t)) #[iQ x,iQ y,iQ z] 3 sQ (by unfold maxLen;omega) rfl;simpa[ints]using this
def OP(F:FR):List YN:=[iQ (F 7),iQ (F 8),iQ (F 9),iQ (F 10),iQ (F 11),iQ (F 12),iQ (F 13),iQ (F 14)]
theorem aM.zkV{w:YM}{q t:Nat}{F:FR}(h:aM w q t F):w.rangeAt q 7 (OP F):=fun j v hv=>by
 have hj:j<8:=(Ye.1 hv).1;rw[h.at oQ,<-hv];match j,hj with
 | 0,_=>rfl | 1,_=>rfl | 2,_=>rfl | 3,_=>rfl | 4,_=>rfl | 5,_=>rfl | 6,_=>rfl | 7,_=>rfl
theorem zkW(F:FR)(k:Nat)(hk:k<8)(w:YM):(Instr.index 32 (.agg (OP F).toArray) (iQ (k:Int))).run prog w=.ok (iQ (F (7+k))) w:=by
 rcases(by omega:k=0\/k=1\/k=2\/k=3\/k=4\/k=5\/k=6\/k=7)with rfl|rfl|rfl|rfl|rfl|rfl|rfl|rfl<;>kernel_rfl
theorem zkX:(prog.info? 32).map (·.size)=some 8:=kQ
theorem AV(w:YM)(l:List YN)(t:YT)(B:Nat)(hB:w.1.size=B):∀ j u,l[j]?=some u->(w.alloc (.cells l.toArray t)).cell? (((aQ B 0):Addr).add j)=some u:=by
 subst hB;intro j u hj;have e:((aQ w.1.size 0):Addr).add j=(aQ w.1.size j):=by unfold Addr.add;split<;>simp_all
 rw[e,ay (aU _ _)];simpa using hj
theorem AX(l:List Int):∀ u∈ints l,u.oneCell'=true:=ints_oneCell _ _
theorem zkY(F:FR)(w:YM)(h0:F 0=1):
  YR prog 82 #[.agg (ak F)] w fun e w'=>(∃ v,e=.returned v/\xa w w' (dV F) v)/\YO w.1.size w w':=by
 have c0:=cK F 0 oQ;have c1:=cK F 1 oQ;have c2:=cK F 2 oQ;have c3:=cK F 3 oQ;have c4:=cK F 4 oQ;obtain⟨i0,hi,cQ,bf,bK⟩:=ZM Ay;have HI:=ae hi;have fN:=ae cQ;have gP:=ae bf;have gQ:=ae bK;clear hi cQ bf bK;have HN:=ae (zi8 h0);have HS:=ae (Gq w 36 F (F 0) (F 1) (F 2));rw[h0]at c0 HN HS;go_enter func82,ntmps82;go_wp2_with (at_builtin;refine ztq _ rfl _ _ 22 rfl (w.1.size+1) 3 i0 (iQ 0) 1 8 underlying22 HI.o fN.o gP.o gQ.o rfl dQ _ _ _ rfl (HS.o.own.alloc _) (aQ _ 0) 2 2 (ints [F 3,F 4]) rfl rfl ?c1 (AX _) ?c3 ?c4 ?c5 ?_)
 case c1=>exact AV _ _ _ _ sQ
 case c3=>unfold maxLen;simp
 case c4=>simp
 case c5=>simp
 intro v1 w1 bC bL _;have R:=ra.put HS.o (ms:=[F 3,F 4]) rfl bC bL;clear bC bL HS;go_wp2
 go_ret;exact⟨⟨_,rfl,by rw[HN.o];exact R.done sQ⟩,R.old⟩
theorem zkZ(F:FR)(w:YM)(h0:F 0=2):
  YR prog 82 #[.agg (ak F)] w fun e w'=>(∃ v,e=.returned v/\xa w w' (dV F) v)/\YO w.1.size w w':=by
 have c0:=cK F 0 oQ;have c1:=cK F 1 oQ;have c2:=cK F 2 oQ;have c3:=cK F 3 oQ;have c4:=cK F 4 oQ;have c5:=cK F 5 oQ;obtain⟨i0,hi,cQ,bf,bK⟩:=ZM Ay;have HI:=ae hi;have fN:=ae cQ;have gP:=ae bf;have gQ:=ae bK;clear hi cQ bf bK;have HN:=ae (Oe (.inl h0));have HS:=ae (Gq w 36 F (F 0) (F 1) (F 2));rw[h0]at c0 HN HS;go_enter func82,ntmps82;go_wp2_with (at_builtin;refine ztq _ rfl _ _ 22 rfl (w.1.size+1) 3 i0 (iQ 0) 1 8 underlying22 HI.o fN.o gP.o gQ.o rfl dQ _ _ _ rfl (HS.o.own.alloc _) (aQ _ 0) 3 3 (ints [F 3,F 4,F 5]) rfl rfl ?c1 (AX _) ?c3 ?c4 ?c5 ?_)
 case c1=>exact AV _ _ _ _ sQ
 case c3=>unfold maxLen;simp
 case c4=>simp
 case c5=>simp
 intro v1 w1 bC bL _;have R:=ra.put HS.o (ms:=[F 3,F 4,F 5]) rfl bC bL;clear bC bL HS;go_wp2
 go_ret;exact⟨⟨_,rfl,by rw[HN.o];exact R.done sQ⟩,R.old⟩
theorem zk0(F:FR)(w:YM)(h0:F 0=3):
  YR prog 82 #[.agg (ak F)] w fun e w'=>(∃ v,e=.returned v/\xa w w' (dV F) v)/\YO w.1.size w w':=by
 have c0:=cK F 0 oQ;have c1:=cK F 1 oQ;have c2:=cK F 2 oQ;have c3:=cK F 3 oQ;have c4:=cK F 4 oQ;have c5:=cK F 5 oQ;obtain⟨i0,hi,cQ,bf,bK⟩:=ZM Ay;have HI:=ae hi;have fN:=ae cQ;have gP:=ae bf;have gQ:=ae bK;clear hi cQ bf bK;have HN:=ae (Oe (.inr h0));have HS:=ae (Gq w 36 F (F 0) (F 1) (F 2));rw[h0]at c0 HN HS;go_enter func82,ntmps82;go_wp2_with (at_builtin;refine ztq _ rfl _ _ 22 rfl (w.1.size+1) 3 i0 (iQ 0) 1 8 underlying22 HI.o fN.o gP.o gQ.o rfl dQ _ _ _ rfl (HS.o.own.alloc _) (aQ _ 0) 3 3 (ints [F 3,F 4,F 5]) rfl rfl ?c1 (AX _) ?c3 ?c4 ?c5 ?_)
 case c1=>exact AV _ _ _ _ sQ
 case c3=>unfold maxLen;simp
 case c4=>simp
 case c5=>simp
 intro v1 w1 bC bL _;have R:=ra.put HS.o (ms:=[F 3,F 4,F 5]) rfl bC bL;clear bC bL HS;go_wp2
 go_ret;exact⟨⟨_,rfl,by rw[HN.o];exact R.done sQ⟩,R.old⟩
theorem zk1(F:FR)(w:YM)(h1:F 0≠1)(h2:F 0≠2)(h3:F 0≠3)(h5:F 0≠5):
  YR prog 82 #[.agg (ak F)] w fun e w'=>(∃ v,e=.returned v/\xa w w' (dV F) v)/\YO w.1.size w w':=by
 have c0:=cK F 0 oQ;have c1:=cK F 1 oQ;have c2:=cK F 2 oQ;obtain⟨i0,hi,cQ,bf,bK⟩:=ZM Ay;have HI:=ae hi;have fN:=ae cQ;have gP:=ae bf;have gQ:=ae bK;clear hi cQ bf bK;have HN:=ae (zja h1 h2 h3 h5);have HS:=ae (Gq w 36 F (F 0) (F 1) (F 2));obtain⟨q,hq⟩:∃ q,Hid (F 0=q):=eQ;rw[hq.o]at c0 HN HS;have t1:(q==1)=false:=by rw[<-hq.o];simpa using h1
 have t2:(q==2)=false:=by rw[<-hq.o];simpa using h2
 have t3:(q==3)=false:=by rw[<-hq.o];simpa using h3
 have t5:(q==5)=false:=by rw[<-hq.o];simpa using h5
 clear h1 h2 h3 h5;go_enter func82,ntmps82;go_wp2
 go_ret;exact⟨⟨_,rfl,by rw[HN.o];exact HS.o.done sQ⟩,HS.o.old⟩
theorem zk2(F:FR)(w:YM)(h0:F 0=5):
  YR prog 82 #[.agg (ak F)] w fun e w'=>(∃ v,e=.returned v/\xa w w' (dV F) v)/\YO w.1.size w w':=by
 have c0:=cK F 0 oQ;have c1:=cK F 1 oQ;have c2:=cK F 2 oQ;have c6:=cK F 6 oQ;obtain⟨i0,hi,cQ,bf,bK⟩:=ZM Ay;have HI:=ae hi;have fN:=ae cQ;have gP:=ae bf;have gQ:=ae bK;clear hi cQ bf bK;have HN:=ae (zi9 h0);have HS:=ae (Gq w 36 F (F 0) (F 1) (F 2));rw[h0]at c0 HN HS;go_enter func82,ntmps82;go_wp2_with (at_builtin;refine ztq _ rfl _ _ 22 rfl (w.1.size+1) 3 i0 (iQ 0) 1 8 underlying22 HI.o fN.o gP.o gQ.o rfl dQ _ _ _ rfl (HS.o.own.alloc _) (aQ _ 0) 1 1 (ints [F 6]) rfl rfl ?c1 (AX _) ?c3 ?c4 ?c5 ?_)
 case c1=>exact AV _ _ _ _ sQ
 case c3=>unfold maxLen;simp
 case c4=>simp
 case c5=>simp
 intro v1 w1 bC bL _;have R:=ra.put HS.o (ms:=[F 6]) rfl bC bL;have HR:=ae R;clear bC bL HS R;have Xd:=HR.o.box.zkV;have HU:=ae Xd;clear Xd c0 c1 c2 c6 h0;go_wp2_with (refine wpList_load_mid rfl 32 _ rfl w.1.size 7 rfl (OP F) _ HU.o underlying32 rfl (by rw[zkX];rfl) ?_)
 go_loopw [3,51] (fun v i wr=>∃ k:Nat,k<=8/\i=iQ k/\ra w wr 36 F v ([5,F 1,F 2,F 6]++qP F k)) (fun _ i _=>8-(intOf i).toNat)
 case atStart=>exact⟨0,Nat.zero_le _,rfl,by simpa[qP]using HR.o⟩
 case round=>
  clear HR HU;obtain⟨k,hk,rfl,hI⟩:=hrel;by_cases aj:k<8
  ·have s9:=zkW F k aj;have hid:=hI.box.at (k:=15+k) oQ;obtain⟨x,hx⟩:∃ x,Hid (F (7+k)=x):=eQ;obtain⟨y,hy⟩:∃ y,Hid (F (15+k)=y):=eQ;rw[hx.o]at s9;rw[hy.o]at hid;have cP:([5,F 1,F 2,F 6]++qP F k).length=4+2*k:=by rw[Yf,Od];rfl
   have HL:=ae cP;have hN:=hI.box.lt;clear cP;go_wp2_with (at_builtin;refine ztq _ rfl _ _ 22 rfl (w.1.size+1) 3 i0 (iQ 0) 1 8 underlying22 HI.o fN.o gP.o gQ.o rfl dQ _ _ _ rfl (hI.own.alloc _) (aQ _ 0) 2 2 (ints [x,y]) rfl rfl ?c1 (AX _) ?c3 ?c4 ?c5 ?_)
   case c1=>exact AV _ _ _ _ sQ
   case c3=>have:=HL.o;unfold maxLen;omega
   case c4=>have:=HL.o;omega
   case c5=>simp;omega
   intro v1 w1 bC bL _;have R:=ra.put hI (ms:=[x,y]) rfl bC bL;clear bC bL s9 hid;go_wp2
   go_roundw
   case rel=>exact⟨k+1,oQ,by go_num,by rw[qP,hx.o,hy.o,<-zr8];exact R⟩
   case measure=>simp[intOf];omega
  ·have Gs:k=8:=oQ;subst Gs;have HD:=ae hI;clear hI;go_wp2
   go_ret;exact⟨⟨_,rfl,by rw[HN.o];exact HD.o.done sQ⟩,HD.o.old⟩
theorem Xe(F:FR)(w:YM):
  YR prog 82 #[.agg (ak F)] w fun e w'=>(∃ v,e=.returned v/\xa w w' (dV F) v)/\YO w.1.size w w':=by
 by_cases h1:F 0=1
 ·exact zkY F w h1
 by_cases h2:F 0=2
 ·exact zkZ F w h2
 by_cases h3:F 0=3
 ·exact zk0 F w h3
 by_cases h5:F 0=5
 ·exact zk2 F w h5
 exact zk1 F w h1 h2 h3 h5
def uR:List YN:=[iQ 0,iQ 0,iQ 0,iQ 0,iQ 0,iQ 0,iQ 0,iQ 0,iQ 0,iQ 0,iQ 0,iQ 0,iQ 0,iQ 0,iQ 0,iQ 0,iQ 0,iQ 0,iQ 0,iQ 0]
theorem zk3(k:Nat)(h:k<20):uR[k]?=some (iQ 0):=by
 match k,h with
 | 0,_=>rfl | 1,_=>rfl | 2,_=>rfl | 3,_=>rfl | 4,_=>rfl | 5,_=>rfl | 6,_=>rfl | 7,_=>rfl | 8,_=>rfl | 9,_=>rfl | 10,_=>rfl | 11,_=>rfl | 12,_=>rfl | 13,_=>rfl | 14,_=>rfl | 15,_=>rfl | 16,_=>rfl | 17,_=>rfl | 18,_=>rfl | 19,_=>rfl|n+20,h=>omega
def copied(l:List Int):List YN:=ints (l.take 20)
theorem C0(l:List Int):(copied l).length=Nat.min l.length 20:=by simp[copied,ints,Nat.min_comm]
theorem Xf(l:List Int)(k:Nat)(h:k<20):(splice uR 0 (copied l))[k]?=some (iQ (bF l k)):=by
 unfold splice;rw[List.take_zero,zsn,Yv,C0];by_cases hk:k<l.length
 ·rw[Yb (by rw[C0];exact Nat.lt_min.2 ⟨hk,h⟩)];simp[copied,ints,bF,hk,h]
 ·have bn:Nat.min l.length 20<=k:=Yq (Nat.min_le_left _ _) oQ;rw[zsa (by rw[C0];exact bn),List.getElem?_drop,C0,Nat.add_sub_cancel' bn,zk3 k h];simp[bF,List.getElem?_eq_none (show l.length<=k by omega)]
theorem uS{f:Func}{w:YM}{a:Tmp}{t:YT}(hf:f.results=#[.cell a t])(ha:tmps.getD a YY=.pointer (some ad))(hl:(loadVar t ad).run P w=.ok v w):
  (results f tmps).run P w=.ok v w:=by
 have zB:tmps[a]?.getD YY=.pointer (some ad):=by simpa using ha
 simp only[results,hf];simp[asAddr,zB,hl]
theorem C2{f:Func}{w:YM}{a k:Tmp}{t:YT}(hf:f.results=#[.cell a t,.tmp k])(ha:tmps.getD a YY=.pointer (some ad))(hl:(loadVar t ad).run P w=.ok v w):
  (results f tmps).run P w=.ok (.tuple #[v,tmps.getD k YY]) w:=by
 have zB:tmps[a]?.getD YY=.pointer (some ad):=by simpa using ha
 simp only[results,hf];simp[asAddr,zB,hl]
structure uT(w wr:YM)(N Q:Nat)(l:List Int)(F:FR):Prop where
 old:YO N w wr
 res:aM wr N 36 aD
 arr:wr.1[N+1]?=some (.cells (splice uR 0 (copied l)).toArray 254 (0,0))
 bS:aM wr Q 36 F
 far:N+1<Q
theorem uT.num{w wr:YM}{Q:Nat}{F:FR}(h:uT w wr N Q l F)(hk:k<20):wr.cell? (aQ (N+1) k)=some (iQ (bF l k)):=by
 rw[ay h.arr];have:=Xf l k hk;simpa using this
theorem uT.put{w wr:YM}{Q:Nat}{F:FR}(h:uT w wr N Q l F)(hk:k<23)(v:Int):uT w (wr.setCell (aQ Q k) (iQ v)) N Q l (upd F k v):=by
 have hf:=h.far;exact⟨h.old.setCell (by show N<=Q;omega) _,(Zb _ _ _ _ (by show N≠Q;omega)).trans h.res,(Zb _ _ _ _ (by show N+1≠Q;omega)).trans h.arr,h.bS.put hk v,hf⟩
theorem uT.drew{w wr:YM}{Q:Nat}{F:FR}(h:uT w wr N Q l F):uT w wr.drew N Q l F:=⟨h.old.drew,h.res,h.arr,h.bS,h.far⟩
theorem Xg(b off n cap:Nat)(l:List Int)(w:YM)(hn:l.length=n)(hb:b<w.1.size)(hr:Row w b off l):
  YR prog 131 #[.slice (some (aQ b off)) n cap] w (bQ (.agg (ak (dZ l))) w):=by
 have hB:YO w.1.size w ((w.alloc (.cells (ak aD) 36)).alloc (.cells uR.toArray 254)):=((YS _ _).alloc lQ _).alloc sQ _;have dW:aM ((w.alloc (.cells (ak aD) 36)).alloc (.cells uR.toArray 254)) w.1.size 36 aD:=(Za _ _ _ sQ).trans (aU _ _);have Xh:((w.alloc (.cells (ak aD) 36)).alloc (.cells uR.toArray 254)).1[w.1.size+1]?=some (.cells uR.toArray 254 (0,0)):=by
  have:=aU (w.alloc (.cells (ak aD) 36)) (.cells uR.toArray 254);simpa using this
 have Xi:∀ j v,(copied l)[j]?=some v->((w.alloc (.cells (ak aD) 36)).alloc (.cells uR.toArray 254)).cell? (((aQ b off):Addr).add j)=some v:=by
  intro j v hj;have Gt:j<l.length/\j<20:=by
   have:=(Ye.1 hj).1;rw[C0]at this;exact Nat.lt_min.1 this
  have e:((aQ b off):Addr).add j=(aQ b (off+j)):=by unfold Addr.add;split<;>simp_all
  rw[e,hB.cell (p:=(aQ b (off+j))) hb,hr j Gt.1,<-hj];simp[copied,ints,Gt.1,Gt.2]
 have HB:=ae hB;have lM:=ae dW;have Xj:=ae Xh;have Xk:=ae Xi;have cP:=C0 l;rw[hn]at cP;have Rg:=ae cP;have bm:(prog.info? 3).map (·.size)=some 1:=kQ;have Xl:=ae bm;clear hB dW Xh Xi cP bm hr;go_enter func131,ntmps131;go_wp2_with (refine wpList_copy_splice rfl _ _ 22 22 rfl 3 underlying22 Xl.o _ _ _ _ _ _ rfl rfl (w.1.size+1) 0 uR 254 Xj.o (copied l) Rg.o (fun _=>⟨rfl,_,rfl,Xk.o⟩) ?g1 (AX _) (w.1.size+1) _ (YS _ _) lQ ?_)
 case g1=>rw[Rg.o];exact Yq (Nat.le_of_eq (Yv _)) (Nat.min_le_right _ _)
 intro w2 CF aS;have hold:YO w.1.size w w2:=HB.o.trans (aS.mono (Nat.le_succ _));have gI:aM w2 w.1.size 36 aD:=(aS.block _ (Nat.lt_succ_self _)).trans lM.o;have gC:w.1.size+1<w2.1.size:=bp CF.o;have qW:∀ k,k<20->w2.cell? (aQ (w.1.size+1) k)=some (iQ (bF l k)):=fun k hk=>by
  rw[ay CF.o];simpa using Xf l k hk
 have a0:=qW 0 oQ;have a1:=qW 1 oQ;have a2:=qW 2 oQ;obtain⟨x0,lY⟩:∃ x,Hid (bF l 0=x):=eQ;obtain⟨x1,lp⟩:∃ x,Hid (bF l 1=x):=eQ;obtain⟨x2,gW⟩:∃ x,Hid (bF l 2=x):=eQ;rw[lY.o]at a0;rw[lp.o]at a1;rw[gW.o]at a2;have zA:=ae hold;have my:=ae gI;clear qW hold gI aS HB lM Xj Xk Rg Xl;go_wp2_with (refine jb rfl _ _ rfl w2.1.size (df x0 x1 x2) rfl rfl aD (aU _ _) ?_)
 intro w3 lN;have P3:uT w w3 w.1.size w2.1.size l (df x0 x1 x2):=by
  refine⟨zA.o.trans ?_,(lN.o.2.1 _ oQ).trans ((Za _ _ _ oQ).trans my.o),(lN.o.2.1 _ oQ).trans ((Za _ _ _ oQ).trans CF.o),lN.o.1,gC⟩;exact((YS _ _).alloc oQ _).trans (lN.o.2.2 _ oQ)
 clear lN my CF zA a0 a1 a2;generalize w2.1.size=Q at P3 gC⊢;have k0:w3.cell? (aQ Q 0)=some (iQ x0):=(P3.bS.at (k:=0) oQ).trans rfl;by_cases e1:x0=1
 ·subst e1;have a3:=P3.num (k:=3) oQ;have a4:=P3.num (k:=4) oQ;obtain⟨x3,qx⟩:∃ x,Hid (bF l 3=x):=eQ;obtain⟨x4,uU⟩:∃ x,Hid (bF l 4=x):=eQ;rw[qx.o]at a3;rw[uU.o]at a4;have k3:=P3.bS.at (k:=3) oQ;have k4:=P3.bS.at (k:=4) oQ;have f3:=P3.bS.free 3;have f4:=P3.bS.free 4;have PF:=ae ((P3.put (k:=3) oQ x3).put (k:=4) oQ x4);rw[Oi]at PF;have HE:Hid (dZ l=mW 1 x1 x2 x3 x4):=by rw[Hid,zjb lY.o,lY.o,lp.o,gW.o,qx.o,uU.o]
  clear P3;go_wp2_with (first
   |(refine fM rfl _ rfl Q rfl _ PF.out.bS ?_)
   |(refine jb rfl _ _ rfl w.heap.size (mW 1 x1 x2 x3 x4) rfl rfl aD PF.out.res ?_))
  intro w9 dD;go_wp2
  refine Zm (v:=.agg (ak (mW 1 x1 x2 x3 x4))) ?_ rfl ⟨by rw[HE.o],PF.out.old.trans (dD.o.2.2 _ lQ)⟩;exact uS results131 rfl (iB dD.o.1)
 by_cases e2:x0=2
 ·subst e2;have a3:=P3.num (k:=3) oQ;have a4:=P3.num (k:=4) oQ;have a5:=P3.num (k:=5) oQ;obtain⟨x3,qx⟩:∃ x,Hid (bF l 3=x):=eQ;obtain⟨x4,uU⟩:∃ x,Hid (bF l 4=x):=eQ;obtain⟨x5,Gu⟩:∃ x,Hid (bF l 5=x):=eQ;rw[qx.o]at a3;rw[uU.o]at a4;rw[Gu.o]at a5;have k3:=P3.bS.at (k:=3) oQ;have k4:=P3.bS.at (k:=4) oQ;have k5:=P3.bS.at (k:=5) oQ;have f3:=P3.bS.free 3;have f4:=P3.bS.free 4;have f5:=P3.bS.free 5;have PF:=ae (((P3.put (k:=3) oQ x3).put (k:=4) oQ x4).put (k:=5) oQ x5).drew;rw[Oi,VD]at PF;have HE:Hid (dZ l=ie 2 x1 x2 x3 x4 x5):=by rw[Hid,Oh (.inl lY.o),lY.o,lp.o,gW.o,qx.o,uU.o,Gu.o]
  clear P3;go_wp2_with fail
  go_region
  go_wp2_with (first
   |(refine fM rfl _ rfl Q rfl _ PF.out.bS ?_)
   |(refine jb rfl _ _ rfl w.heap.size (ie 2 x1 x2 x3 x4 x5) rfl rfl aD PF.out.res ?_))
  intro w9 dD;go_wp2
  refine Zm (v:=.agg (ak (ie 2 x1 x2 x3 x4 x5))) ?_ rfl ⟨by rw[HE.o],PF.out.old.trans (dD.o.2.2 _ lQ)⟩;exact uS results131 rfl (iB dD.o.1)
 by_cases e3:x0=3
 ·subst e3;have a3:=P3.num (k:=3) oQ;have a4:=P3.num (k:=4) oQ;have a5:=P3.num (k:=5) oQ;obtain⟨x3,qx⟩:∃ x,Hid (bF l 3=x):=eQ;obtain⟨x4,uU⟩:∃ x,Hid (bF l 4=x):=eQ;obtain⟨x5,Gu⟩:∃ x,Hid (bF l 5=x):=eQ;rw[qx.o]at a3;rw[uU.o]at a4;rw[Gu.o]at a5;have k3:=P3.bS.at (k:=3) oQ;have k4:=P3.bS.at (k:=4) oQ;have k5:=P3.bS.at (k:=5) oQ;have f3:=P3.bS.free 3;have f4:=P3.bS.free 4;have f5:=P3.bS.free 5;have PF:=ae (((P3.put (k:=3) oQ x3).put (k:=4) oQ x4).put (k:=5) oQ x5).drew;rw[Oi,VD]at PF;have HE:Hid (dZ l=ie 3 x1 x2 x3 x4 x5):=by rw[Hid,Oh (.inr lY.o),lY.o,lp.o,gW.o,qx.o,uU.o,Gu.o]
  clear P3;go_wp2_with fail
  go_region
  go_wp2_with (first
   |(refine fM rfl _ rfl Q rfl _ PF.out.bS ?_)
   |(refine jb rfl _ _ rfl w.heap.size (ie 3 x1 x2 x3 x4 x5) rfl rfl aD PF.out.res ?_))
  intro w9 dD;go_wp2
  refine Zm (v:=.agg (ak (ie 3 x1 x2 x3 x4 x5))) ?_ rfl ⟨by rw[HE.o],PF.out.old.trans (dD.o.2.2 _ lQ)⟩;exact uS results131 rfl (iB dD.o.1)
 by_cases e5:x0=5
 ·subst e5;have a3:=P3.num (k:=3) oQ;obtain⟨x3,qx⟩:∃ x,Hid (bF l 3=x):=eQ;rw[qx.o]at a3;have k6:=P3.bS.at (k:=6) oQ;have f6:=P3.bS.free 6;have P4:=P3.put (k:=6) oQ x3;have jn:=zje l;rw[lY.o,lp.o,gW.o,qx.o]at jn;rw[jn]at P4;have Xm:=ae P4;clear P3 P4 jn;go_wp2
  clear a3 k6 f6 k0;go_loopw [44] (fun i wr=>∃ k:Nat,k<=8/\i=iQ k/\uT w wr w.1.size Q l (oP l k)) (fun i _=>8-(intOf i).toNat)
  case atStart=>exact⟨0,Yw _,rfl,Xm.o⟩
  case round=>
   clear Xm;obtain⟨k,hk,rfl,hI⟩:=hrel;by_cases aj:k<8
   ·have n1:=hI.num (k:=4+2*k) oQ;have n2:=hI.num (k:=5+2*k) oQ;have u1:=hI.bS.at (k:=7+k) oQ;have u2:=hI.bS.at (k:=15+k) oQ;have g1:=hI.bS.free (7+k);have g2:=hI.bS.free (15+k);obtain⟨y1,OQ⟩:∃ x,Hid (bF l (4+2*k)=x):=eQ;obtain⟨y2,AY⟩:∃ x,Hid (bF l (5+2*k)=x):=eQ;rw[OQ.o]at n1;rw[AY.o]at n2;obtain⟨z1,bf⟩:∃ x,Hid (oP l k (7+k)=x):=eQ;obtain⟨z2,bK⟩:∃ x,Hid (oP l k (15+k)=x):=eQ;rw[bf.o]at u1;rw[bK.o]at u2;have PA:=ae ((hI.put (k:=7+k) oQ y1).put (k:=15+k) oQ y2).drew;rw[<-OQ.o,<-AY.o,zjf l k aj]at PA;rw[OQ.o,AY.o]at PA;clear hI;go_wp2_with fail
    go_region
    clear n1 n2 u1 u2 g1 g2;go_wp2
    go_roundw
    case rel=>exact⟨k+1,oQ,by go_num,PA.out⟩
    case measure=>simp[intOf];omega
   ·have Gs:k=8:=oQ;subst Gs;have PF:=ae hI;have HE:Hid (dZ l=oP l 8):=zjc lY.o;clear hI;go_wp2_with (first
     |(refine fM rfl _ rfl Q rfl _ PF.out.bS ?_)
     |(refine jb rfl _ _ rfl w.heap.size (oP l 8) rfl rfl aD PF.out.res ?_))
    intro w9 dD;go_wp2
    refine Zm (v:=.agg (ak (oP l 8))) ?_ rfl ⟨by rw[HE.o],PF.out.old.trans (dD.o.2.2 _ lQ)⟩;exact uS results131 rfl (iB dD.o.1)
 have t1:(x0==1)=false:=by simpa using e1
 have t2:(x0==2)=false:=by simpa using e2
 have t3:(x0==3)=false:=by simpa using e3
 have t5:(x0==5)=false:=by simpa using e5
 have PF:=ae P3;have HE:Hid (dZ l=df x0 x1 x2):=by
  have h:=zjd (l:=l) (by rw[lY.o];exact e1) (by rw[lY.o];exact e2) (by rw[lY.o];exact e3) (by rw[lY.o];exact e5);rw[lY.o,lp.o,gW.o]at h;exact h
 clear P3 e1 e2 e3 e5;go_wp2_with (first
  |(refine fM rfl _ rfl Q rfl _ PF.out.bS ?_)
  |(refine jb rfl _ _ rfl w.heap.size (df x0 x1 x2) rfl rfl aD PF.out.res ?_))
 intro w9 dD;go_wp2
 refine Zm (v:=.agg (ak (df x0 x1 x2))) ?_ rfl ⟨by rw[HE.o],PF.out.old.trans (dD.o.2.2 _ lQ)⟩;exact uS results131 rfl (iB dD.o.1)
theorem C3{au:Array Oper}{S:YM->Prop}{op:Oper}{a:Act}(hw:zuO op (yielded au a.tmps)=true)(x:Operand)(ho:op.op=.load 36 x)
  (b:Nat) (hx:a.eval x=.pointer (some ⟨b,0,none⟩)) (F:FR) (hS:∀ w,S w->aM w b 36 F):YieldsIf prog au S op (.agg (ak F)) a:=
 .inl ⟨hw,fun w h=>by
  unfold execOp;simp only[ho,hx,Instr.loadAt,Instr.sureAddr,Sem.run_bind,Sem.run_pure,ztn,iB (hS w h)]⟩
theorem zk4{au:Array Oper}{S:YM->Prop}{op:Oper}{a:Act}(hw:zuO op (yielded au a.tmps)=true)(x y:Operand)(ho:op.op=.binOp .eql 36 x y 36)
  (F G:FR) (hx:a.eval x=.agg (ak F)) (hy:a.eval y=.agg (ak G)):YieldsIf prog au S op (.bool (qQ F G)) a:=
 .inl ⟨hw,fun w _=>by
  have h:=zjp w F G;unfold execOp;simp only[ho,hx,hy];have hq:(eqGuard BinOp.eql 36 x y (.agg (ak F)) (.agg (ak G))).run prog w=.ok () w:=run_eqGuard_agg w _ _ _ _ _ _ kQ
  (simp only[Sem.run_bind,hq,h,ztn,Sem.run_pure])⟩
theorem zk5{F:FR}(h:sK F=false):gy F=false:=by unfold gy;rw[h];rfl
theorem zk6(F:FR)(w:YM)(h:sK F=false):
  YR prog 81 #[.agg (ak F)] w (bQ (.bool (gy F)) w):=by
 have HM:=ae (zk5 h);have c0:=cK F 0 oQ;have c1:=cK F 1 oQ;unfold sK at h;obtain⟨x,hx⟩:∃ x,Hid (F 0=x):=eQ;obtain⟨y,hy⟩:∃ y,Hid (F 1=y):=eQ;rw[hx.o]at c0 h;rw[hy.o]at c1 h;have HB:=ae ((YS w.1.size w).alloc lQ (.cells (ak F) 36));by_cases h1:x<1
 ·clear h;go_enter func81,ntmps81;go_wp2
  go_ret;exact⟨dU HM.o.symm,HB.o⟩
 ·by_cases h2:5<x
  ·clear h;go_enter func81,ntmps81;go_wp2
   go_ret;exact⟨dU HM.o.symm,HB.o⟩
  ·by_cases h3:y<0
   ·clear h;go_enter func81,ntmps81;go_wp2
    go_ret;exact⟨dU HM.o.symm,HB.o⟩
   ·have h4:3<y:=by
     simp only[Bool.and_eq_false_iff,decide_eq_false_iff_not]at h;omega
    clear h;go_enter func81,ntmps81;go_wp2
    go_ret;exact⟨dU HM.o.symm,HB.o⟩
theorem zk7(F:FR)(w:YM)(h:sK F=true):
  YR prog 81 #[.agg (ak F)] w (bQ (.bool (gy F)) w):=by
 have hm:gy F=((dV F).all lD&&qQ F (dZ (dV F))):=by unfold gy;rw[h];rfl
 rw[hm];have c0:=cK F 0 oQ;have c1:=cK F 1 oQ;unfold sK at h;obtain⟨x,hx⟩:∃ x,Hid (F 0=x):=eQ;obtain⟨y,hy⟩:∃ y,Hid (F 1=y):=eQ;rw[hx.o]at c0 h;rw[hy.o]at c1 h;simp only[X6,zsE]at h;obtain⟨⟨h1,h2⟩,h3,h4⟩:=h;have hB:YO w.1.size w (w.alloc (.cells (ak F) 36)):=(YS w.1.size w).alloc lQ _;have iZ:aM (w.alloc (.cells (ak F) 36)) w.1.size 36 F:=aU _ _;have HB:=ae hB;have qZ:=ae iZ;have xb:=ae (Xe F (w.alloc (.cells (ak F) 36)));obtain⟨l,hl⟩:∃ l,Hid (dV F=l):=eQ;have cP:=Og F;rw[hl.o]at xb cP⊢;clear hB iZ hm;go_enter func81,ntmps81;go_wp2_with (first
  |(refine fM rfl _ rfl w.heap.size rfl F qZ.out ?_)
  |(go_at_call 82;refine xb.out.mono ?_))
 rintro e w1 ⟨⟨v,rfl,g,cp,rfl,eY,cY,rf,bV⟩,aG⟩;have hN:w.1.size<w1.1.size:=by have:=aG.size;simp at this;omega
 have Gv:aM w1 w.1.size 36 F:=qZ.o.below sQ aG;have Gw:YO w.1.size w w1:=HB.o.trans (aG.mono sQ);have JP:=ae Gv;have AZ:=ae Gw;have nR:=ae bV;clear Gv Gw bV aG HB qZ xb eY c0 c1;obtain⟨n,hn⟩:∃ n,Hid (l.length=n):=eQ;rw[hn.o]at cP rf⊢;go_wp2
 go_loop [28] (fun i=>∃ k:Nat,k<=n/\i=iQ k/\Hid ((l.take k).all lD=true)) (fun i=>n-(intOf i).toNat)
 case atStart=>exact⟨0,Nat.zero_le _,rfl,by simp[Hid]⟩
 case round=>
  obtain⟨k,hk,rfl,HT⟩:=hrel;by_cases aj:k<n
  ·have gO:k<l.length:=by rw[hn.o];exact aj
   obtain⟨z,hz,iV⟩:=nR.o.at gO;rw[Yv]at iV;by_cases q1:z<0
   ·have hf:l.all lD=false:=VE gO (by rw[hz.o];unfold lD;simp;omega);have HF:=ae hf;clear hf gO;go_wp2
    go_ret;exact⟨dU (by rw[HF.o];rfl),AZ.o⟩
   ·by_cases q2:1048576<z
    ·have hf:l.all lD=false:=VE gO (by rw[hz.o];unfold lD;simp;omega);have HF:=ae hf;clear hf gO;go_wp2
     go_ret;exact⟨dU (by rw[HF.o];rfl),AZ.o⟩
    ·have hf:(l.take (k+1)).all lD=true:=zjg gO HT.o (by rw[hz.o];unfold lD;simp;omega);have HF:=ae hf;clear hf gO;go_wp2
     go_round
     case rel=>exact⟨k+1,oQ,by go_num,HF.o⟩
     case measure=>simp[intOf];omega
  ·have jz:k=n:=oQ;subst jz;have jP:l.all lD=true:=by
    have:=HT.o;rwa [zsp (by rw[hn.o];omega)]at this
   have JQ:=ae jP;have az:∀ wx,YO w1.1.size w1 wx->YR prog 131 #[.slice (some (aQ g 0)) k cp] wx fun e w'=>e=.returned (.agg (ak (dZ l)))/\Hid (YO w1.1.size w1 w'):=by
    intro wx hx;refine(Xg g 0 k cp l wx hn.o (Yr cY hx.size) (nR.o.below cY hx)).mono ?_;rintro e w' ⟨he,hB⟩;exact⟨he,hx.trans (hB.mono hx.size)⟩
   have dJ:=ae az;obtain⟨G,hG⟩:∃ G,Hid (dZ l=G):=eQ;rw[hG.o]at dJ;have jG:∀ wx,YO w1.1.size w1 wx->aM wx w.1.size 36 F:=fun wx hx=>JP.o.below hN hx
   clear jP az;go_wp2_with fail
   refine Zh (S:=fun w'=>aM w' w.1.size 36 F) kQ (jG _ (YS _ _).drew) (fun af=>?_);refine ai 0 _ af ?_ (hy:=C3 rQ _ rfl _ rfl F (fun w h=>h));refine ai 1 (.slice (some (aQ g 0)) k cp) af ?_;refine aR 2 fun K hK=>?_
   go_simp;go_at_call 131;refine(bE dJ _ (YS _ _).drew).mono ?_;rintro e w5 ⟨rfl,gS⟩;dsimp only;refine hK.o _ _ (jG _ gS.o) (fun af=>?_);clear hK K;refine ai 3 (.bool (qQ F G)) af ?_ (hy:=zk4 rQ _ _ rfl F G rfl rfl);refine ai 4 (.bool (qQ F G)) af ?_;refine wpAnyH_done kQ ?_ _;clear af;go_wp2
   go_ret;exact⟨dU (by rw[JQ.o,hG.o];rfl),AZ.o.trans (gS.o.mono oQ)⟩
theorem Xn(F:FR)(w:YM):
  YR prog 81 #[.agg (ak F)] w (bQ (.bool (gy F)) w):=by
 cases h:sK F
 ·exact zk6 F w h
 ·exact zk7 F w h
def b3(n:Nat):List Nat:=[n/65536%256,n/256%256,n%256]
def b4(n:Nat):List Nat:=[n/16777216%256,n/65536%256,n/256%256,n%256]
def nW(l:List Int):List Nat:=l.flatMap fun x=>b3 x.toNat
def uV(l:List Nat):List Nat:=l++b4 (jZ l).toNat
def gT(F:Nat->Int):List Nat:=uV (nW (dV F))
theorem zk8(l:List Int)(k:Nat)(h:k<l.length):nW (l.take (k+1))=nW (l.take k)++b3 (l[k]?.getD 0).toNat:=by
 unfold nW;rw[zso,Yc h,List.flatMap_append];rfl
theorem OS(l:List Int):(nW l).length=3*l.length:=by
 induction l with
 |nil=>rfl
 |cons x l ih=>
  show(b3 x.toNat++nW l).length=_;rw[Yf,ih];simp[b3];omega
theorem zk9(n:Nat):∀ c∈b3 n,c<256:=by
 intro c hc;simp only[b3,Yl,Yo,YL]at hc;omega
theorem Xo(n:Nat):∀ c∈b4 n,c<256:=by
 intro c hc;simp only[b4,Yl,Yo,YL]at hc;omega
theorem JR(l:List Int):∀ c∈nW l,c<256:=by
 intro c hc;obtain⟨x,_,hx⟩:=List.mem_flatMap.1 hc;exact zk9 _ _ hx
theorem OT(l:List Nat):(uV l).length=l.length+4:=by unfold uV;rw[Yf];rfl
theorem OU{l:List Nat}(h:∀ c∈l,c<256):∀ c∈uV l,c<256:=by
 intro c hc;rcases zsl.1 hc with hc|hc
 ·exact h c hc
 ·exact Xo _ _ hc
theorem zla(F:Nat->Int):∀ c∈gT F,c<256:=OU (JR _)
theorem Xp(F:Nat->Int):(gT F).length=3*(dV F).length+4:=by unfold gT;rw[OT,OS]
def jH(l:List Nat):List YN:=l.map fun(c:Nat)=>zsS .u8 (c:Int)
theorem Xq(l:List Nat):∀ u∈jH l,u.oneCell'=true:=by
 intro u hu;obtain⟨c,_,rfl⟩:=Ym.1 hu;rfl
theorem infoByte:(prog.info? 5).map (fun i=>(i.zero,i.size,i.bytes))=some (some (.int .u8 0),1,1):=kQ
theorem zlb(m:Nat)(h:m<4294967296):#[zsS .u8 ((m:Int)/16777216),.int .u8 ((m:Int)/65536%256),.int .u8 ((m:Int)/256%256),.int .u8 ((m:Int)%256)]=(jH (b4 m)).toArray:=by
 have e:(m:Int)/16777216=((m/16777216%256:Nat):Int):=oQ;rw[e];simp[jH,b4]
theorem zlc(m:Nat)(h:m<=1048576):[zsS .u8 ((m:Int)/65536),.int .u8 ((m:Int)/256%256),.int .u8 ((m:Int)%256)]=jH (b3 m):=by
 have e:(m:Int)/65536=((m/65536%256:Nat):Int):=oQ;rw[e];simp[jH,b3]
theorem Xr(a:Option Addr)(len cap:Nat)(l:List Nat)(w:YM)(hl:len<=1000)(h:jE w a len cap l):
  YR prog 83 #[.slice a len cap] w fun e w'=>e=.returned (.slice (some (aQ w.1.size 0)) 4 4)/\w'=w.alloc (.cells (jH (b4 (jZ l).toNat)).toArray 5):=by
 have HS:=ae (zi5 a len cap l w hl h);clear h;obtain⟨x,hx⟩:∃ x,Hid (jZ l=x):=eQ;rw[hx.o]at HS;have aj:x.toNat<4294967296:=x.isLt;obtain⟨m,hm⟩:∃ m,Hid (x.toNat=m):=eQ;rw[hm.o]at HS aj;go_enter func83,ntmps83;go_wp2_with (go_at_call 136;refine HS.o.mono ?_;rintro e w' ⟨rfl,rfl⟩)
 go_ret;exact⟨rfl,by rw[hx.o,hm.o,zlb m aj]⟩
structure td(w wr:YM)(v:YN)(l:List Nat):Prop where
 old:YO w.1.size w wr
 own:wr.ownsRow w.1.size 5 1 v l.length (jH l)
theorem td.put{w wr w3:YM}{l ms:List Nat}{p:Obj}(h:td w wr v l)(hm:ms.length=m)
  (bC:w3.ownsRow w.1.size 5 1 v' (l.length+m) (jH l++jH ms)) (hg:(wr.alloc p).grownBy w3 v.ownBlock):td w w3 v' (l++ms):=by
 have bo:YO wr.1.size wr (wr.alloc p):=(YS _ _).alloc lQ _;have hs:=h.old.size;refine⟨(h.old.trans (bo.mono hs)).grown hg tQ (fun k hk=>by have:=(h.own.lt k hk).1;omega),?_⟩;rw[Yf,hm];simpa[jH]using bC
theorem td.sM{w wr:YM}{l:List Nat}(h:td w wr v l)(hl:l≠[])(hb:∀ c∈l,c<256):∃ g cp,v=.slice (some (aQ g 0)) l.length cp/\w.1.size<=g/\g<wr.1.size/\jE wr (some (aQ g 0)) l.length cp l:=by
 have ho:=h.own;obtain⟨_,zX⟩:=h.own;rcases zX with ⟨_,h0⟩|⟨g,cp,bA,rfl,hg,hh,il,hm,bm,ht⟩
 ·exact absurd (zsh.1 h0) hl
 ·refine⟨g,cp,rfl,hg,bp hh,rfl,il,hb,.inr ⟨g,0,rfl,bp hh,fun k hk=>?_⟩⟩;rw[Yv,ho.cellAt k oQ];simp[jH,hk]
theorem zld{w:YM}{base b2:Nat}{e:YT}{size:Nat}{n:Nat}{xs:List YN}(h:w.ownsRow base e size v n xs)(hb:b2<=base):w.ownsRow b2 e size v n xs:=by
 obtain⟨h1,h2⟩:=h;refine⟨h1,?_⟩;rcases h2 with h2|⟨g,cp,bA,h3,h4,h5⟩
 ·exact .inl h2
 ·exact .inr ⟨g,cp,bA,h3,Yq hb h4,h5⟩
theorem Xs(F:FR)(w:YM)(h:gy F=false):
  YR prog 39 #[.agg (ak F)] w (bQ (.tuple #[.slice none 0 0,.iface 74 (iQ 1)]) w):=by
 have hB:YO w.1.size w (w.alloc (.cells (ak F) 36)):=(YS w.1.size w).alloc lQ _;have iZ:aM (w.alloc (.cells (ak F) 36)) w.1.size 36 F:=aU _ _;have rh:=Xn F (w.alloc (.cells (ak F) 36));rw[h]at rh;have HB:=ae hB;have qZ:=ae iZ;have HM:=ae rh;clear hB iZ rh h;go_enter func39,ntmps39;go_wp2_with (first
  |(refine fM rfl _ rfl w.heap.size rfl F qZ.out ?_)
  |(go_at_call 81;refine HM.out.mono ?_))
 rintro e w1 ⟨rfl,aG⟩;have dN:=ae (HB.o.trans (aG.mono sQ));clear aG HM qZ HB;go_wp2
 go_ret2
 exact⟨rfl,dN.o⟩
theorem Xt(F:FR)(w:YM)(h:gy F=true):
  YR prog 39 #[.agg (ak F)] w fun e w'=>(∃ v,e=.returned (.tuple #[v,.nilIface])/\w'.ownsRow w.1.size 5 1 v (gT F).length (jH (gT F)))/\YO w.1.size w w':=by
 have hB:YO w.1.size w (w.alloc (.cells (ak F) 36)):=(YS w.1.size w).alloc lQ _;have iZ:aM (w.alloc (.cells (ak F) 36)) w.1.size 36 F:=aU _ _;have rh:=Xn F (w.alloc (.cells (ak F) 36));rw[h]at rh;have wZ:∀ k,k<(dV F).length->∃ m:Nat,Hid ((dV F)[k]?.getD 0=(m:Int))/\m<=1048576:=fun k hk=>by
  unfold gy at h;simp only[X6,X9]at h;have:=h.2.1 _ (zsf hk);unfold lD at this;simp only[X6,zsE]at this;obtain⟨m,hm⟩:=zr6 this.1;exact⟨m,by rw[Hid,Yc hk];exact hm,oQ⟩
 have HB:=ae hB;have qZ:=ae iZ;have HM:=ae rh;have cP:=Og F;have dX:=VC F;obtain⟨l,hl⟩:∃ l,Hid (dV F=l):=eQ;have xb:=fun wx=>ae (Xe F wx)
 have HE:Hid (gT F=uV (nW l)):=by rw[Hid,gT,hl.o]
 rw[hl.o]at wZ cP dX xb;clear hB iZ rh h;obtain⟨i0,hi,cQ,bf,bK⟩:=ZM infoByte;have HI:=ae hi;have fN:=ae cQ;have gP:=ae bf;have gQ:=ae bK;clear hi cQ bf bK;go_enter func39,ntmps39;go_wp2_with (first
  |(refine fM rfl _ rfl w.heap.size rfl F qZ.out ?_)
  |(go_at_call 81;refine HM.out.mono ?_))
 rintro e w1 ⟨rfl,aG⟩;have Gw:=HB.o.trans (aG.mono sQ);have Gv:aM w1 w.1.size 36 F:=qZ.o.below sQ aG;have AZ:=ae Gw;have JP:=ae Gv;clear Gw Gv aG HM qZ HB;go_wp2_with (first
  |(refine fM rfl _ rfl w.heap.size rfl F JP.out ?_)
  |(go_at_call 82;refine(xb w1).out.mono ?_))
 rintro e w2 ⟨⟨v,rfl,g,cp,rfl,eY,cY,rf,bV⟩,aS⟩;have OV:=ae (AZ.o.trans (aS.mono AZ.o.size));have nR:=ae bV;clear aS bV AZ JP xb;obtain⟨n,hn⟩:∃ n,Hid (l.length=n):=eQ;rw[hn.o]at cP rf dX wZ⊢;go_wp2
 go_loopw [4,14] (fun v i wr=>∃ k:Nat,k<=n/\i=iQ k/\td w2 wr v (nW (l.take k))) (fun _ i _=>n-(intOf i).toNat)
 case atStart=>exact⟨0,Yw _,rfl,YS _ _,World.ownsRow_nil _ _ _ _⟩
 case round=>
  obtain⟨k,hk,rfl,hI⟩:=hrel;have jl:(nW (l.take k)).length=3*k:=by rw[OS,zsj,hn.o,Nat.min_eq_left hk]
  have kW:=ae jl;clear jl;by_cases aj:k<n
  ·obtain⟨m,hm,zF⟩:=wZ k aj;have iV:wr.cell? (aQ g k)=some (iQ (m:Int)):=by
    have:=nR.o.below cY hI.old k (by rw[hn.o];exact aj);rw[hm.o,Yv]at this;exact this
   have gC:=hI.old.size;go_wp2_with (at_builtin;refine ztq _ rfl _ _ 37 rfl w2.1.size 5 i0 (.int .u8 0) 1 1 underlying37 HI.o fN.o gP.o gQ.o rfl dQ _ _ _ rfl (hI.own.alloc _) (aQ _ 0) 3 3 (jH (b3 m)) rfl rfl ?c1 (Xq _) ?c3 ?c4 ?c5 ?_)
   case c1=>
    rw[<-zlc m zF];exact AV _ _ _ _ rfl
   case c3=>have:=kW.o;unfold maxLen;omega
   case c4=>have:=kW.o;omega
   case c5=>simp;omega
   intro v1 w3 bC bL _;have R:=td.put hI (ms:=b3 m) rfl bC bL;clear bC bL iV;go_wp2
   go_roundw
   case rel=>exact⟨k+1,oQ,by go_num,by rw[zk8 l k (by rw[hn.o];exact aj),hm.o];exact R⟩
   case measure=>simp[intOf];omega
  ·have jz:k=n:=oQ;subst jz;rw[zsp (by rw[hn.o];omega)]at hI kW;obtain⟨bs,uW⟩:∃ bs,Hid (nW l=bs):=eQ;have jl:=JR l;rw[uW.o]at hI kW jl;have C4:=kW.o;obtain⟨g4,cp4,rfl,zrI,zrJ,OW⟩:=hI.sM (by intro e;rw[e]at C4;simp at C4;omega) jl;rw[C4]at OW⊢;have C5:=ae (Xr _ _ _ bs wr oQ OW);have yH:=hI.own;rw[C4]at yH;have th:=ae yH;have zle:=ae hI.old;have gC:=hI.old.size;obtain⟨x,hx⟩:∃ x,Hid ((jZ bs).toNat=x):=eQ;rw[hx.o]at C5;clear hI OW jl yH;go_wp2_with (first
    |(go_at_call 83;refine C5.out.mono ?_;rintro e w4 ⟨rfl,rfl⟩)
    |(at_builtin;refine ztq _ rfl _ _ 37 rfl w2.heap.size 5 i0 (.int .u8 0) 1 1 underlying37 HI.out fN.out gP.out gQ.out rfl dQ _ _ _ rfl (th.out.alloc _) ⟨_,0,none⟩ 4 4 (jH (b4 x)) rfl rfl ?c1 (Xq _) ?c3 ?c4 ?c5 ?_))
   case c1=>exact AV _ _ _ _ rfl
   case c3=>unfold maxLen;omega
   case c4=>omega
   case c5=>simp;omega
   intro v1 w3 bC bL _;have R:=td.put (⟨zle.o,by rw[C4];exact th.o⟩:td w2 wr (.slice (some (aQ g4 0)) (3*k) cp4) bs) (ms:=b4 x) rfl (by rw[C4];exact bC) bL;have HR:=ae R;clear bC bL R th C5;go_wp2
   go_ret2
   refine⟨⟨v1,rfl,?_⟩,OV.o.trans (HR.o.old.mono OV.o.size)⟩;have he:gT F=bs++b4 x:=by rw[HE.o,uV,uW.o,hx.o]
   rw[he];exact zld HR.o.own OV.o.size
end Go.Proofs.YtaablbmgagiajabGreatDoor
