import Derived.Test.YtaablbmgagiajabGreatDoorZGAM
import Derived.Test.YtaablbmgagiajabGreatDoorRows
import Derived.Conc.AtomicLaws2
import Derived.Conc.SmallLaws
import Derived.Conc.Own2
import Derived.Conc.WgArith
import Derived.Test.YtaablbmgagiajabGreatDoorZAB
open Go.Proofs.Tryz renaming prog->π
open Go.Extern.AbiNoEscape renaming same->zxJ
open Go renaming Addr->YQ,Event->YX,FuncId->Zt,Goroutine->YP,Program->Y2,Trace->Y6,TypeId->YT,Value->YN,World->YM,callFunc->Z0,deafBehind->zsT,events_store->zzK,execOp->Zf,handleType->zxy,heap_setCell_other->zum,partners->ztZ,run_store->zu1,stepG->YV,undef->YY
open Array renaming empty_append->zxK,getD_eq_getD_getElem?->zvD,mem_of_getElem?->zt5
open Go.Extern.BytealgIndex renaming index->zwI,maxLen->zx7
open Go.Extern.BytealgIndexByte renaming indexByte->zwJ
open Go.Extern.BytealgMakeNoZero renaming digits->zDz,makeNoZero->zwK
open Go.Extern.Bytes renaming asByte->zwL,bytesOf->zAB,loadBytes->zx8
open Go.Conc renaming Deaf_other->ZZ,mem_ofEvents->ZJ,served->ZK,woken->ZL,crowd->Y4,finishComm_recv->zzL,getElem?_stand->zzN,mem_partners->zvz,offersAt_parked_recv->zzW,offersAt_parked_send->zzX,semEvents->zsM,woken_quitsD->zuq
open Go.Extern.Atomic renaming casT->zAJ
open Go.Extern.Sync renaming semacquire->zAK
open Go.Extern renaming find->Zx,findNext->zvL
open Go.Frame renaming enter->Y8
open Go.ConcN renaming Deaf_still->zyn,sumTo_le->zAT
open Go.ConcN.RelBy renaming appNot->zAS,appOwn->zve,new->zD5
open Go.ConcR renaming mk->zvf
open Int renaming ofNat->zvU
open List renaming range->ZE
open Go.Made renaming reckonStruct->zBn
open Go.MemAct renaming ofEvent->Zi,touch?->Zv
open Go.MemOp renaming ofEvents->Zl
open Nat renaming not_lt->zzd
open Go.Conc.NoRelease renaming app->zvq
open Option renaming bind_eq_bind->zuF,bind_eq_some_iff->zsI
open Pure renaming pure->YZ
open Go.Extern.ReflectliteType renaming abiMethod->zuG,assignableTo->zuH,elem->zuI,implements_->zuJ,method->zvr,ofRtype->zuK,relation->ztl,toType->zuL,typeOf->zuM
open Go.Extern.ReflectliteValue renaming elem->ztR,isNil->ztS,method->zsR,methodAny->zvs,mk->zxl,parts->ztm,partsAny->zzq,set->zuN,unpack->zue,valueError->Z6,zeroV->zxm
open Go.Region renaming wanted->zuO
open Go.Extern.Rtype renaming directlyAssignable->zxo,handle->zBT,hasName->zBU,implements->zzu,kind->zuP,noPack->zzv,noPackMethods->zBV,noPackNamed->zBW,ofHandle->zuf
open Go.Tables renaming info?->zB1
open Go.World renaming setChan->zuj,size_setCell->zsG
namespace Go.Proofs.YtaablbmgagiajabGreatDoor.Ren
open Go Go.Conc
open Go.ConcR (KK WgAt stA smA rd wr mk)
open Go.ConcN (RelBy sumTo upd upd_same upd_ne sumTo_upd sumTo_congr)
variable{P:Y2}{a ad:YQ}{a' g':YP}{args:Array YN}{b:Bool}{d i j k kd r s:Nat}{e:YX}{es:Array YX}{kt mN:Int}{m:Mark}{ob':Nat->Nat}{u v:YN}{w':YM}{zw:YT->Option TypeInfo}
section
variable {S:Sc}{c:Nat}{D:Nat->WD}{M:MD}{ob oc q:Nat->Nat}{cl:Bool}{st sm:Int}{gs:Array YP}{w:YM}{t:Y6}
theorem Inv.open_(h:Inv S c D M ob oc q cl st sm gs w t)(hk:10<=M.kind):cl=false:=by
 cases cl with
 |false=>rfl
 |true=>have:=h.l8.1 rfl;omega
theorem Inv.pass(X:dR S)(h:Inv S c D M ob oc q cl st sm gs w t)(hi:i<c)(hk:M.kind=12\/M.kind=11)(TV:(D i).stage=17){g0:YP}(ou:S.AR g0)(mQ:kN S M.r a')
    (fH:w'=(w.at d).setChan S.Cn 0 #[] false s r false) {gs':Array YP} (sl:Option (Nat×Nat)) (bm:gs'.size=gs.size) (h0:gs'[0]?=some a') (ug:gs'[S.j0+i]?=some (ZK g0 (recvd true (S.tv (S.m-(M.r+1))) true)))
  (TW:∀ k,k≠0->k≠S.j0+i->gs'[k]?=gs[k]?) {u:List MemOp} (hu:∀ op∈u,op.g<S.j0+c/\op.act.low w.1.size/\op.act.touch?=none/\∀ m,op.act≠.mark m):
  ∃ ν,Less (Nx S.E) S.n ν (meas S c D M q)/\gL S ν (Y4 gs' w' sl) (t++u.toArray):=by
 have hj:=X.j0;obtain⟨a,ha,hm⟩:=h.main;have I2:=hm.range.2.2.2.2.1 oQ oQ;have MI:=hm.range.2.2.2.1 oQ;have cB:=h.open_ oQ;subst cB;obtain⟨M',cq,Ca,MJ,jW⟩:=TN mQ (Nat.le_of_lt I2);have eH:cn S M=S.m-(M.r+1):=by
  unfold cn;rw[YG oQ,YH oQ]
 obtain⟨n,hn⟩:=(X.ar g0 ou).2.2.2.1 (S.m-(M.r+1)) oQ;have hC:=X.hC;have zrp:=h.kw.size;have dm:Ch (· = S.Cn) w w':=by
  rw[fH];exact⟨by simp[zuj,World.at],fun b _ hb=>(MG hb).trans rfl,rfl,rfl,rfl⟩
 have TX:w'.1.size=w.1.size:=by rw[fH];simp[zuj,World.at]
 have sB:w'.1[S.Cn]?=some (.chan 0 #[] false s r false):=by rw[fH];exact MH (by show S.Cn<w.1.size;omega)
 have oL:∀ k,Deaf (t++u.toArray) k=Deaf t k:=fun k=>zyn t k _ fun op hop=>by
  have:=(hu op (by simpa using hop)).2.2.2;exact⟨this _,this _⟩
 generalize hp:S.m-(M.r+1)=p at *;have e1:=sumTo_upd D (⟨24,n,0,p,([],#[])⟩:WD) dr hi;have e2:=sumTo_upd D (⟨24,n,0,p,([],#[])⟩:WD) WD.stage hi;have gG:dr (⟨24,n,0,p,([],#[])⟩:WD)=1:=rfl;have gX:dr (D i)=1:=by simp[dr,TV]
 have ma:Vc c (upd D i ⟨24,n,0,p,([],#[])⟩)=Vc c D:=by
  unfold Vc;omega
 have Mz:∀ k l,S.Own ob oc k l->S.Own ob (upd oc p (S.j0+i)) k l:=by
  rintro k l ⟨hk,⟨ad,rfl,⟨h1,h2⟩|⟨h1,h2⟩⟩|⟨b,rfl,h2⟩⟩
  ·exact⟨hk,.inl ⟨ad,rfl,.inl ⟨h1,h2⟩⟩⟩
  ·refine⟨hk,.inl ⟨ad,rfl,.inr ⟨h1,?_⟩⟩⟩;rw[upd_ne oc _ fun e=>?_]
   ·exact h2
   ·rw[e,h.qJ p oQ]at h2;omega
  ·exact⟨hk,.inr ⟨b,rfl,h2⟩⟩
 refine⟨meas S c (upd D i ⟨24,n,0,p,([],#[])⟩) M' q,?_,c,upd D i ⟨24,n,0,p,([],#[])⟩,M',ob,upd oc p (S.j0+i),q,false,st,sm,gs',w',sl,rfl,⟨?_,?_,?_,?_,?_,?_,?_,?_,?_,?_,?_,?_,?_,?_,?_,?_,⟨s,r,sB⟩,?_,?_,?_,?_,?_,?_⟩,rfl⟩
 ·unfold Less meas;left;simp only[eH,Ca,MJ,Ssum];have e3:phi S (Vc c D) M=8*S.n+8+2*(M.r+1):=by
   unfold phi;rw[YG oQ,YH oQ]
  rw[e3];have e2:(sumTo c fun a=>(upd D i (⟨24,n,0,p,([],#[])⟩:WD) a).stage)+17=(sumTo c fun a=>(D a).stage)+24:=by
   rw[<-TV];exact e2
  omega
 ·rw[bm];exact h.size
 ·exact⟨a',h0,by rw[MI];exact cq⟩
 ·intro k bW vT;obtain⟨y,hy,hq⟩:=h.old k bW vT;refine⟨y,by rw[TW k oQ oQ];exact hy,?_⟩;rw[oL];exact hq
 ·intro i' aN;by_cases aT:i'=i
  ·subst aT;rw[upd_same];exact⟨_,ug,.inl ⟨rfl,rfl,hn⟩⟩
  ·obtain⟨y,hy,hs⟩:=h.wk i' aN;rw[upd_ne D _ aT];exact⟨y,by rw[TW _ oQ oQ];exact hy,ME X h dm (fun b hb=>.inr hb) hs⟩
 ·rw[oL,h.deaf0];have e1:pM M.kind=0:=by rcases hk with e|e<;>rw[e]<;>rfl
  have e2:pM M'.kind=0:=by rcases jW with e|e<;>rw[e]<;>rfl
  rw[e1,e2]
 ·intro i' aN;rw[oL,h.deafW i' aN];by_cases aT:i'=i
  ·subst aT;rw[upd_same];obtain⟨y,_,hs⟩:=h.wk i' aN;rcases hs with hs|hs|hs|hs|hs|hs|hs|hs|hs|hs|hs|hs|hs|hs
   all_goals first |(have:=hs.1;omega)|exact hs.2.1
  ·rw[upd_ne D _ aT]
 ·intro k hk;rw[oL];exact h.pN k hk
 ·rw[fH];exact KW.setChan X h.kw ..
 ·rw[TX];refine Tr.H9 u (h.tr.give Mz fun k l hl=>?_) fun y hy=>⟨(hu y hy).1,(hu y hy).2.1,(hu y hy).2.2.1⟩
  obtain⟨hk,⟨ad,rfl,⟨h1,h2⟩|⟨h1,h2⟩⟩|⟨b,rfl,h2⟩⟩:=hl
  ·exact .inl ⟨hk,.inl ⟨ad,rfl,.inl ⟨h1,h2⟩⟩⟩
  ·by_cases yc:ad.off=p
   ·exact .inr fun op hop a ha=>h.sw op hop a ha p oQ ad h1 yc
   ·rw[upd_ne oc _ yc]at h2;exact .inl ⟨hk,.inl ⟨ad,rfl,.inr ⟨h1,h2⟩⟩⟩
  ·exact .inl ⟨hk,.inr ⟨b,rfl,h2⟩⟩
 ·rw[TX];exact h.jU
 ·intro p' nD;rw[upd_ne oc _ oQ];exact h.qJ p' oQ
 ·intro op hop b hb p' nD ad h1 h2;rcases zr3.1 hop with hop|hop
  ·exact h.sw op hop b hb p' oQ ad h1 h2
  ·rw[(hu op (by simpa using hop)).2.2.1]at hb;cases hb
 ·intro i' aN hs;by_cases aT:i'=i
  ·subst aT;rw[upd_same]at hs;simp at hs
  ·rw[upd_ne D _ aT]at hs;have:=h.opn rfl i' aN;omega
 ·exact zvq h.nor fun op hop hm=>(hu op (by simpa using hop)).2.2.2 _ hm
 ·exact dm.same h.eN X.wc
 ·rcases h.mode with ⟨_,h2,h3,h4,_⟩|⟨h1,_⟩|⟨h1,_⟩|⟨h1,_⟩|⟨h1,_⟩
  ·refine .inl ⟨oQ,fun i' aN=>?_,?_,h4,fun e=>oQ⟩
   ·by_cases aT:i'=i
    ·subst aT;rw[upd_same];exact .inl sQ
    ·rw[upd_ne D _ aT];exact h2 i' aN
   ·have fJ:pend M.kind=0:=by rcases hk with e|e<;>rw[e]<;>rfl
    have mb:pend M'.kind=0:=by rcases jW with e|e<;>rw[e]<;>rfl
    rw[ma,mb,h3,fJ]
  all_goals omega
 ·constructor
  ·intro e;cases e
  ·intro e;omega
 ·intro _ i' aN;by_cases aT:i'=i
  ·subst aT;rw[upd_same];simp
  ·rw[upd_ne D _ aT];exact h.opn rfl i' aN
 ·obtain⟨cs,h1,h2,h3⟩:=h.pay;refine⟨cs,dm.same h1 fun e=>X.ca e.symm,h2,fun p' nD=>?_⟩;by_cases yc:p'=p
  ·exact .inr ⟨i,hi,by rw[upd_same];exact yc.symm,by rw[upd_same];simp⟩
  ·rcases h3 p' oQ with h4|⟨i',h4,h5,h6⟩
   ·exact .inl h4
   ·have aT:i'≠i:=fun e=>by subst e;omega
    exact .inr ⟨i',h4,by rw[upd_ne D _ aT];exact h5,by rw[upd_ne D _ aT];exact h6⟩
 ·intro i' aN hs;by_cases aT:i'=i
  ·subst aT;rw[upd_same];exact⟨tQ,upd_same ..⟩
  ·rw[upd_ne D _ aT]at hs⊢;have:=h.oI i' aN hs;refine⟨oQ,?_⟩;rw[upd_ne oc _ oQ];exact this.2
 ·intro e;omega
 ·intro i';by_cases aT:i'=i
  ·subst aT;rw[upd_same];exact Acc.intro _ fun y hy=>absurd rfl hy.1
  ·rw[upd_ne D _ aT];exact h.acc i'
theorem Inv.send(X:dR S)(h:Inv S c D M ob oc q cl st sm gs w t){a:YP}(sl:Option (Nat×Nat))(ha:gs[0]?=some a)(hk:M.kind=12)(hr:M.r<S.m)(fc:c=S.n)(hf:0<M.fuel)(hs:AtSend S (S.m-(M.r+1)) (kN S M.r) a):
  ∃ m' au ν,runT S.E.P (Y4 gs w sl) 0=(.next m',au)/\Less (Nx S.E) S.n ν (meas S c D M q)/\gL S ν m' (t++au):=by
 have hj:=X.j0;have cB:=h.open_ oQ;subst cB;obtain⟨s,r,dm⟩:=h.ly;have bO:YV S.E.P (0==0) a w=_:=hs.2.1 w h.kw;have BH:∀ j k,(j,k)∈ztZ (gs.setIfInBounds 0 ph) S.Cn false->k=0/\j≠0/\∃ i,i<c/\j=S.j0+i/\∃ g0,S.AR g0/\gs[j]?=some (parked g0 #[rcase S.Cn S.z] (.recv true))/\(D i).stage=17:=fun j k ub=>by
  obtain⟨x,hx,ye⟩:=zvz.1 ub;rcases zzN gs 0 j x hx with ⟨_,rfl⟩|⟨Ab,hx⟩
  ·rw[offersAt_ph]at ye;cases ye
  ·rcases h.who hx with ⟨h1,_⟩|⟨_,_,h1⟩|⟨i,h1,h2,h3⟩
   ·exact absurd h1 Ab
   ·rw[MK h1]at ye;cases ye
   ·by_cases hp:(D i).stage=17/\(D i).fuel=0
    ·obtain⟨_,_,g0,h6,h7⟩:=h3.MF hp.1 hp.2;rw[h7,zzW,YH rfl]at ye;exact⟨by simpa using ye,Ab,i,h1,h2,g0,h6,by rw[hx,h7],hp.1⟩
    ·rw[zeu X h3 hp]at ye;cases ye
 by_cases aW:ztZ (gs.setIfInBounds 0 ph) S.Cn false=[]
 ·
  have hw:=crowd_waits (sl:=sl) ha bO (fun cc il=>by
   simp only[Yn,Yl,Yo,YL]at il;subst il;exact ways_send_none dm sQ aW)
  have rW:Zl 0 a.frame.fn a.frame.place #[]=#[]:=rfl;rw[rW]at hw;have eH:cn S ⟨11,M.r,0⟩=cn S M:=by simp[cn,hk]
  have E7:∀ v,phi S v ⟨11,M.r,0⟩=phi S v M:=fun v=>by simp[phi,hk]
  have aj:0<gs.size:=by rw[h.size];omega
  have wH:∀ k,k≠0->(gs.setIfInBounds 0 (parked a #[scase S.Cn (S.tv (S.m-(M.r+1))) S.zs] .send))[k]?=gs[k]?:=fun k hk=>X3 fun e=>hk e.symm
  have yf:∀ i,i<c->¬((D i).stage=17/\(D i).fuel=0):=fun i hi hp=>by
   obtain⟨x,hx,h3⟩:=h.wk i hi;obtain⟨_,_,g0,h6,h7⟩:=h3.MF hp.1 hp.2;have:(S.j0+i,0)∈ztZ (gs.setIfInBounds 0 ph) S.Cn false:=zvz.2 ⟨x,by rw[X3 oQ];exact hx,by rw[h7,zzW,YH rfl];simp⟩;rw[aW]at this;cases this
  refine⟨_,_,meas S c D ⟨11,M.r,0⟩ q,hw,?_,c,D,⟨11,M.r,0⟩,ob,oc,q,false,st,sm,_,w,sl,rfl,⟨?_,?_,?_,?_,?_,?_,?_,h.kw,?_,h.jU,?_,?_,?_,?_,h.eN,?_,h.ly,?_,h.opn,?_,?_,fun _=>yf,h.acc⟩,rfl⟩
  all_goals(try rw[XV])
  ·unfold Less meas;right;simp only[eH,E7];exact⟨by first |rfl|trivial,.inr ⟨by first |rfl|trivial,oQ⟩⟩
  ·simp[h.size]
  ·exact⟨_,X4 aj,z7 (.inl ⟨rfl,fc,hr,a,rfl,hs,rfl⟩)⟩
  ·intro k bW vT;obtain⟨y,hy,hq⟩:=h.old k bW vT;exact⟨y,by rw[wH k oQ];exact hy,hq⟩
  ·intro i hi;obtain⟨y,hy,hq⟩:=h.wk i hi;exact⟨y,by rw[wH _ oQ];exact hy,hq⟩
  ·rw[h.deaf0,hk];rfl
  ·exact h.deafW
  ·exact h.pN
  ·exact h.tr
  ·rw[eH];exact h.qJ
  ·rw[eH];exact h.sw
  ·exact h.rel
  ·exact h.nor
  ·have:=h.mode;rw[hk]at this;rcases this with ⟨_,h2,h3,h4,_⟩|⟨h1,_⟩|⟨h1,_⟩|⟨h1,_⟩|⟨h1,_⟩
   ·exact .inl ⟨sQ,h2,h3,h4,fun e=>by cases e⟩
   all_goals omega
  ·rw[h.l8,hk];simp
  ·rw[eH];exact h.pay
  ·rw[eH];exact h.oI
 ·obtain⟨j,gj,zj,shj,d,Ab,Cc,cO⟩:=crowd_send_meets_some (sl:=sl) ha bO dm aW (fun j k ub=>by
   obtain⟨h1,h2,i,_,_,g0,_,h5,_⟩:=BH j k ub;exact⟨h1,h2,g0,S.z,_,h5⟩)
  have ub:(j,0)∈ztZ (gs.setIfInBounds 0 ph) S.Cn false:=zvz.2 ⟨_,by rw[X3 oQ];exact Cc,by rw[zzW,YH rfl];simp⟩;obtain⟨_,_,i,hi,mO,g0,ou,h5,sA⟩:=BH j 0 ub;rw[Cc]at h5;obtain⟨f1,f2,f3,f4,f5⟩:=TR (Yz h5);subst mO;have hz:zj=S.z:=by simpa[rcase]using f4
  subst hz;subst f5;have zew:Zl 0 a.frame.fn a.frame.place #[]=#[]:=rfl;rw[zew,zxK,finishComm_send,zzL]at cO;have aj:0<gs.size:=by rw[h.size];omega
  have ur:S.j0+i<gs.size:=by rw[h.size];omega
  have rW:ZK gj (recvd true (S.tv (S.m-(M.r+1))) true)=ZK g0 (recvd true (S.tv (S.m-(M.r+1))) true):=by
   simp[ZK,f1,f2,f3]
  rw[rW]at cO;have I3:=pK dm;obtain⟨ν,hl,hI⟩:=h.pass X hi (.inl hk) sA ou hs.2.2 (w':=(w.at d).setChan S.Cn 0 #[] false (s+1) (r+1) false) rfl (gs':=(gs.setIfInBounds (S.j0+i) (ZK g0 (recvd true (S.tv (S.m-(M.r+1))) true))).setIfInBounds 0 (ZK a YY)) sl sQ (by rw[X4 (by simpa using aj)])
   (by rw[X3 oQ,X4 ur]) (fun k h1 h2=>by rw[X3 oQ,X3 oQ])
   (u:=[{g:=0,fn:=a.frame.fn,pos:=a.frame.place,act:=.send S.Cn s},{g:=S.j0+i,fn:=gj.frame.fn,pos:=gj.frame.place,act:=.recv S.Cn r 0},{g:=0,fn:=a.frame.fn,pos:=a.frame.place,act:=.sendDone S.Cn s},{g:=S.j0+i,fn:=gj.frame.fn,pos:=gj.frame.place,act:=.recvDone S.Cn r}])
   (fun op hop=>by
    simp only[Yl,Yo,YL]at hop;rcases hop with rfl|rfl|rfl|rfl<;>exact⟨tQ,I3,rfl,fun m=>sQ⟩)
  exact⟨_,_,ν,cO,hl,hI⟩
end
section
variable {S:Sc}{c:Nat}{D:Nat->WD}{M:MD}{ob oc q:Nat->Nat}{cl:Bool}{st sm:Int}{gs:Array YP}{w:YM}{t:Y6}
theorem Inv.still(X:dR S)(h:Inv S c D M ob oc q cl st sm gs w t)(hi:i<c){d':WD}(sl:Option (Nat×Nat))(Aa:WSit S (S.j0+i) d' ob cl g' w)(bh:16<=d'.stage)(h18:d'.stage<=17)(sA:(D i).stage=17)(uy:d'.deaf=(D i).deaf)(hy:d'.y=(D i).y)
  (E5:cl=false->d'.stage=17) (E6:M.kind=11->¬(d'.stage=17/\d'.fuel=0)) (aj:d'.stage<17\/(d'.stage=17/\d'.fuel<(D i).fuel)) {u:List MemOp} (hu:∀ op∈u,op.g=S.j0+i/\op.act.low w.1.size/\op.act.touch?=none/\∀ m,op.act≠.mark m):
  ∃ ν,Less (Nx S.E) S.n ν (meas S c D M q)/\gL S ν (Y4 (gs.setIfInBounds (S.j0+i) g') w sl) (t++u.toArray):=by
 have hj:=X.j0;have ur:S.j0+i<gs.size:=by rw[h.size];omega
 have wH:∀ k,k≠S.j0+i->(gs.setIfInBounds (S.j0+i) g')[k]?=gs[k]?:=fun k hk=>X3 fun e=>hk e.symm
 have oL:∀ k,Deaf (t++u.toArray) k=Deaf t k:=fun k=>zyn t k _ fun op hop=>by
  have:=(hu op (by simpa using hop)).2.2.2;exact⟨this _,this _⟩
 have e1:=sumTo_upd D d' dr hi;have e2:=sumTo_upd D d' WD.stage hi;have e3:=sumTo_upd D d' WD.fuel hi;have gG:dr d'=1:=by unfold dr;rw[YH oQ]
 have gX:dr (D i)=1:=by unfold dr;rw[YH oQ]
 have ma:Vc c (upd D i d')=Vc c D:=by
  unfold Vc;omega
 obtain⟨a,ha,hm⟩:=h.main;have fc:=hm.range.2.2.1;refine⟨meas S c (upd D i d') M q,?_,c,upd D i d',M,ob,oc,q,cl,st,sm,_,w,sl,rfl,⟨?_,?_,?_,?_,?_,?_,?_,h.kw,?_,h.jU,h.qJ,?_,?_,?_,h.eN,?_,h.ly,h.l8,?_,?_,?_,?_,?_⟩,rfl⟩
 ·unfold Less meas;simp only[ma,Ssum,Fsum];rcases aj with hl|⟨hl,hf⟩
  ·left;omega
  ·right;refine⟨oQ,.inr ⟨?_,oQ⟩⟩;funext j
   show(upd D i d' j).y=(D j).y;by_cases mO:j=i
   ·subst mO;rw[upd_same];exact hy
   ·rw[upd_ne D d' mO]
 ·simp[h.size]
 ·exact⟨a,by rw[wH 0 oQ];exact ha,hm⟩
 ·intro k bW vT;obtain⟨y,hy,hq⟩:=h.old k bW vT;refine⟨y,by rw[wH k oQ];exact hy,?_⟩;rw[oL];exact hq
 ·intro i' aN;by_cases aT:i'=i
  ·subst aT;rw[upd_same];exact⟨_,X4 ur,Aa⟩
  ·obtain⟨y,hy,hs⟩:=h.wk i' aN;rw[upd_ne D _ aT];exact⟨y,by rw[wH _ oQ];exact hy,hs⟩
 ·rw[oL];exact h.deaf0
 ·intro i' aN;rw[oL,h.deafW i' aN];by_cases aT:i'=i
  ·subst aT;rw[upd_same,uy]
  ·rw[upd_ne D _ aT]
 ·intro k hk;rw[oL];exact h.pN k hk
 ·exact Tr.H9 u h.tr fun y hy=>⟨by rw[(hu y hy).1];omega,(hu y hy).2.1,(hu y hy).2.2.1⟩
 ·intro op hop b hb p' nD ad h1 h2;rcases zr3.1 hop with hop|hop
  ·exact h.sw op hop b hb p' nD ad h1 h2
  ·rw[(hu op (by simpa using hop)).2.2.1]at hb;cases hb
 ·intro i' aN hs;by_cases aT:i'=i
  ·subst aT;rw[upd_same]at hs;omega
  ·rw[upd_ne D _ aT]at hs;obtain⟨r,hr⟩:=h.rel i' aN hs;exact⟨r,zAS hr fun op hop=>by rw[(hu op (by simpa using hop)).1];omega⟩
 ·exact zvq h.nor fun op hop hm=>(hu op (by simpa using hop)).2.2.2 _ hm
 ·have hop:wE c D->wE c (upd D i d'):=fun ho i' aN=>by
   by_cases aT:i'=i
   ·subst aT;rw[upd_same];exact .inl oQ
   ·rw[upd_ne D _ aT];exact ho i' aN
  rcases h.mode with ⟨h1,h2,h3,h4,h5⟩|⟨h1,h2,h3,h4⟩|⟨h1,_,L,h2,h3,h4⟩|⟨h1,h2,_⟩|⟨h1,h2,_⟩
  ·exact .inl ⟨h1,hop h2,by rw[ma];exact h3,h4,fun e=>by rw[ma];exact h5 e⟩
  ·exact .inr (.inl ⟨h1,hop h2,by rw[ma];exact h3,by rw[ma];exact h4⟩)
  ·by_cases hL:i=L
   ·subst hL;omega
   ·have:=h3 i hi hL;omega
  ·have:=h2 i hi;omega
  ·have:=h2 i hi;omega
 ·intro cB i' aN;by_cases aT:i'=i
  ·subst aT;rw[upd_same,E5 cB];exact Yp _
  ·rw[upd_ne D _ aT];exact h.opn cB i' aN
 ·obtain⟨cs,h1,h2,h3⟩:=h.pay;refine⟨cs,h1,h2,fun p' nD=>?_⟩;rcases h3 p' nD with h4|⟨i',h4,h5,h6⟩
  ·exact .inl h4
  ·have aT:i'≠i:=fun e=>by subst e;omega
   exact .inr ⟨i',h4,by rw[upd_ne D _ aT];exact h5,by rw[upd_ne D _ aT];exact h6⟩
 ·intro i' aN hs;by_cases aT:i'=i
  ·subst aT;rw[upd_same]at hs;omega
  ·rw[upd_ne D _ aT]at hs⊢;exact h.oI i' aN hs
 ·intro hk i' aN;by_cases aT:i'=i
  ·subst aT;rw[upd_same];exact E6 hk
  ·rw[upd_ne D d' aT];exact h.B6 hk i' aN
 ·intro i';by_cases aT:i'=i
  ·subst aT;rw[upd_same,hy];exact h.acc i'
  ·rw[upd_ne D _ aT];exact h.acc i'
theorem Inv.recv(X:dR S)(h:Inv S c D M ob oc q cl st sm gs w t)(hi:i<c){x g0:YP}(sl:Option (Nat×Nat))(hx:gs[S.j0+i]?=some x)(qL:YV S.E.P false x w=.comm g0 #[rcase S.Cn S.z] true (.recv true) w #[])(ou:S.AR g0)(sA:(D i).stage=17)(hf:0<(D i).fuel)(uy:(D i).deaf=0):
  ∃ m' au ν,runT S.E.P (Y4 gs w sl) (S.j0+i)=(.next m',au)/\Less (Nx S.E) S.n ν (meas S c D M q)/\gL S ν m' (t++au):=by
 have hj:=X.j0;have bW:(S.j0+i==0)=false:=tQ;have bO:YV S.E.P (S.j0+i==0) x w=.comm g0 #[rcase S.Cn S.z] true (.recv true) w #[]:=by rw[bW];exact qL
 obtain⟨s,r,dm⟩:=h.ly;obtain⟨a,ha,hm⟩:=h.main;have rW:Zl (S.j0+i) x.frame.fn x.frame.place #[]=#[]:=rfl;have I3:=pK dm;have zb4:M.kind≠11->ztZ (gs.setIfInBounds (S.j0+i) ph) S.Cn true=[]:=fun hk=>partners_nil fun j y hy=>by
  rcases zzN gs (S.j0+i) j y hy with ⟨_,rfl⟩|⟨_,hy⟩
  ·rfl
  ·rcases h.who hy with ⟨_,h1⟩|⟨_,_,h1⟩|⟨i',_,_,h3⟩
   ·exact zev X h1 hk _ _
   ·exact MK h1 _ _
   ·exact TQ X h3 _
 cases cl with
 |true=>
  have hk:M.kind≠11:=by have:=h.l8.1 rfl;omega
  have cO:=crowd_recv_closed (sl:=sl) hx bO dm (zb4 hk);rw[rW,zxK,zzL]at cO;obtain⟨n,hn⟩:=(X.ar g0 ou).2.2.2.2;obtain⟨ν,hl,hI⟩:=h.still X hi (d':=⟨16,n,0,0,(D i).y⟩) sl (I1 (.inl ⟨rfl,rfl,hn⟩)) sQ sQ sA uy.symm rfl (fun e=>by cases e) (fun e=>absurd e hk) (.inl sQ)
   (u:=[{g:=S.j0+i,fn:=g0.frame.fn,pos:=g0.frame.place,act:=.recvClosed S.Cn}]) (fun op hop=>by
    simp only[Yl,Yo,YL]at hop;subst hop;exact⟨rfl,I3,rfl,fun m=>sQ⟩)
  exact⟨_,_,ν,cO,hl,hI⟩
 |false=>
  by_cases hk:M.kind=11
  ·
   rcases hm.status X with h1|⟨_,gm,hs,yg⟩|⟨h1,_⟩
   ·exfalso;rcases hm with hm|hm|hm|hm|hm|hm|hm|hm|hm|hm|hm|hm|hm|hm|hm|hm
    all_goals first |omega|skip
    obtain⟨_,_,_,g,_,_,rfl⟩:=hm;cases h1
   ·rw[yg]at ha;have BH:∀ j k,(j,k)∈ztZ (gs.setIfInBounds (S.j0+i) ph) S.Cn true->k=0/\j=0:=fun j k ub=>by
     obtain⟨y,hy,Ac⟩:=zvz.1 ub;rcases zzN gs (S.j0+i) j y hy with ⟨_,rfl⟩|⟨_,hy⟩
     ·cases Ac
     ·rcases h.who hy with ⟨h1,_⟩|⟨_,_,h1⟩|⟨i',_,_,h3⟩
      ·subst h1;rw[ha]at hy;cases hy;rw[zzX,YH rfl]at Ac;exact⟨by simpa using Ac,rfl⟩
      ·rw[MK h1]at Ac;cases Ac
      ·rw[TQ X h3]at Ac;cases Ac
    have aW:ztZ (gs.setIfInBounds (S.j0+i) ph) S.Cn true≠[]:=fun e=>by
     have:(0,0)∈ztZ (gs.setIfInBounds (S.j0+i) ph) S.Cn true:=zvz.2 ⟨_,by rw[X3 oQ];exact ha,by rw[zzX,YH rfl];simp⟩;rw[e]at this;cases this
    obtain⟨j,gj,vj,zj,shj,d,mO,Cc,cO⟩:=crowd_recv_meets_some (sl:=sl) hx bO dm aW (fun j k ub=>by
     obtain⟨h1,h2⟩:=BH j k ub;subst h2;exact⟨h1,oQ,gm,_,S.zs,_,ha⟩)
    have ub:(j,0)∈ztZ (gs.setIfInBounds (S.j0+i) ph) S.Cn true:=zvz.2 ⟨_,by rw[X3 oQ];exact Cc,by rw[zzX,YH rfl];simp⟩;obtain⟨_,Ab⟩:=BH j 0 ub;subst Ab;rw[ha]at Cc;obtain⟨f1,f2,f3,f4,f5⟩:=TR (Yz Cc);have hv:S.tv (S.m-(M.r+1))=vj/\S.zs=zj:=by simpa[scase]using f4
    obtain⟨Ce,zx⟩:=hv;subst Ce;subst zx;subst f5;rw[rW,zxK,finishComm_send,zzL]at cO;have E8:ZK gj YY=ZK gm YY:=by simp[ZK,f1,f2,f3]
    rw[E8]at cO;have aj:0<gs.size:=by rw[h.size];omega
    have ur:S.j0+i<gs.size:=by rw[h.size];omega
    obtain⟨ν,hl,hI⟩:=h.pass X hi (.inr hk) sA ou hs.2.2 (w':=(w.at d).setChan S.Cn 0 #[] false (s+1) (r+1) false) rfl (gs':=(gs.setIfInBounds 0 (ZK gm YY)).setIfInBounds (S.j0+i) (ZK g0 (recvd true (S.tv (S.m-(M.r+1))) true))) sl sQ (by rw[X3 oQ,X4 aj])
     (by rw[X4 (by simpa using ur)]) (fun k h1 h2=>by rw[X3 oQ,X3 oQ])
     (u:=[{g:=0,fn:=gj.frame.fn,pos:=gj.frame.place,act:=.send S.Cn s},{g:=S.j0+i,fn:=g0.frame.fn,pos:=g0.frame.place,act:=.recv S.Cn r 0},{g:=0,fn:=gj.frame.fn,pos:=gj.frame.place,act:=.sendDone S.Cn s},{g:=S.j0+i,fn:=g0.frame.fn,pos:=g0.frame.place,act:=.recvDone S.Cn r}])
     (fun op hop=>by
      simp only[Yl,Yo,YL]at hop;rcases hop with rfl|rfl|rfl|rfl<;>exact⟨tQ,I3,rfl,fun m=>sQ⟩)
    exact⟨_,_,ν,cO,hl,hI⟩
   ·omega
  ·have hw:=crowd_waits (sl:=sl) hx bO (fun cc il=>by
    simp only[Yn,Yl,Yo,YL]at il;subst il;exact ways_recv_none dm (zb4 hk))
   rw[rW]at hw;obtain⟨ν,hl,hI⟩:=h.still X hi (d':=⟨17,0,0,0,(D i).y⟩) sl (g':=parked g0 #[rcase S.Cn S.z] (.recv true)) (ux (.inl ⟨rfl,rfl,.inr (.inr ⟨g0,rfl,rfl,ou,rfl⟩)⟩)) sQ sQ sA uy.symm rfl (fun _=>rfl) (fun e=>absurd e hk) (.inr ⟨rfl,hf⟩)
    (u:=[]) (fun op hop=>by cases hop)
   exact⟨_,_,ν,hw,hl,hI⟩
end
theorem nK(ob:Nat->Nat)(n k:Nat):l9 ob n n k=ob:=by
 funext b
 exact YG oQ
theorem Mode.ML{c:Nat}{D:Nat->WD}{st sm:Int}(h:Mode c D 4 r st sm):Mode c D 5 r st sm:=by
 rcases h with ⟨h1,_⟩|⟨_,h⟩|⟨_,h⟩|⟨h1,_⟩|⟨h1,_⟩
 ·omega
 ·exact .inr (.inl ⟨.inl rfl,h⟩)
 ·exact .inr (.inr (.inl ⟨.inl rfl,h⟩))
 ·omega
 ·omega
theorem Mode.keep{c:Nat}{D:Nat->WD}{st sm:Int}(h:Mode c D kd r st sm)(hi:i<c){d':WD}(hd:(5<=(D i).stage/\5<=d'.stage)\/d'.stage=(D i).stage):Mode c (upd D i d') kd r st sm:=by
 have e1:=sumTo_upd D d' dr hi;have gG:dr d'=dr (D i):=by
  unfold dr;rcases hd with ⟨h1,h2⟩|h1
  ·rw[YH h1,YH h2]
  ·rw[h1]
 have ma:Vc c (upd D i d')=Vc c D:=by
  unfold Vc;omega
 have hop:wE c D->wE c (upd D i d'):=fun ho i' aN=>by
  by_cases aT:i'=i
  ·subst aT;rw[upd_same];have:=ho i' aN;omega
  ·rw[upd_ne D _ aT];exact ho i' aN
 have bh:∀ i',¬ 5<=(D i).stage->(upd D i d' i').stage=(D i').stage:=fun i' hn=>by
  by_cases aT:i'=i
  ·subst aT;rw[upd_same];omega
  ·rw[upd_ne D _ aT]
 rcases h with ⟨h1,h2,h3,h4,h5⟩|⟨h1,h2,h3,h4⟩|⟨h1,h5,L,h2,h3,h4⟩|⟨h1,h2,h3⟩|⟨h1,h2,h3⟩
 ·exact .inl ⟨h1,hop h2,by rw[ma];exact h3,h4,fun e=>by rw[ma];exact h5 e⟩
 ·exact .inr (.inl ⟨h1,hop h2,by rw[ma];exact h3,by rw[ma];exact h4⟩)
 ·have hn:¬ 5<=(D i).stage:=fun h6=>by
   by_cases hL:i=L
   ·subst hL;omega
   ·have:=h3 i hi hL;omega
  exact .inr (.inr (.inl ⟨h1,h5,L,h2,fun i' q1 q2=>by rw[bh i' hn];exact h3 i' q1 q2,by rw[bh L hn];exact h4⟩))
 ·have hn:¬ 5<=(D i).stage:=fun h6=>by have:=h2 i hi;omega
  exact eO (.inl ⟨h1,fun i' q1=>by rw[bh i' hn];exact h2 i' q1,h3⟩)
 ·have hn:¬ 5<=(D i).stage:=fun h6=>by have:=h2 i hi;omega
  exact eO (.inr ⟨h1,fun i' q1=>by rw[bh i' hn];exact h2 i' q1,h3⟩)
section
variable {S:Sc}{c:Nat}{D:Nat->WD}{M:MD}{ob oc q:Nat->Nat}{cl:Bool}{st sm:Int}{gs:Array YP}{w:YM}{t:Y6}
theorem Inv.uz(X:dR S)(h:Inv S c D M ob oc q cl st sm gs w t)(hi:i<c){g:YP}(sl:Option (Nat×Nat))(hg:gs[S.j0+i]?=some g)(bO:YV S.E.P false g w=.go g' w' es)
  {d':WD} {T:Nat->Prop} (dm:Ch T w w') (hT:∀ b,T b->ob b=S.j0+i)
  (Aa:WSit S (S.j0+i) d' (l9 ob w.1.size w'.1.size (S.j0+i)) cl g' w') (dG:∀ e∈es,oJ S (l9 ob w.1.size w'.1.size (S.j0+i)) oc (S.j0+i) w'.1.size e)
  (E4:zsT (D i).deaf es=d'.deaf) (hrel:d'.stage<=6->∃ r,RelBy (stA S.Wg) (t++Zl (S.j0+i) g.frame.fn g.frame.place es) (S.j0+i) r)
  (bh:(5<=(D i).stage/\5<=d'.stage)\/d'.stage=(D i).stage) (bJ:19<=(D i).stage->19<=d'.stage/\d'.place=(D i).place) (zex:19<=d'.stage->19<=(D i).stage) (E5:cl=false->17<=d'.stage) (E6:M.kind=11->¬(d'.stage=17/\d'.fuel=0)) (zO:Acc (Nx S.E) d'.y)
  (aj:d'.stage<(D i).stage\/(d'.stage=(D i).stage/\Nx S.E d'.y (D i).y)\/(d'.stage=(D i).stage/\d'.y=(D i).y/\d'.fuel<(D i).fuel)):
  ∃ m' au ν,runT S.E.P (Y4 gs w sl) (S.j0+i)=(.next m',au)/\Less (Nx S.E) S.n ν (meas S c D M q)/\gL S ν m' (t++au):=by
 have hj:=X.j0;have MM:∀ b,T b->S.w0.1.size<=b:=fun b hb=>(h.jU b (by rw[hT b hb];omega)).1
 have hW:=X.hW;have hA:=X.hA;refine h.stepW X hi sl hg bO dm (fun b hb=>.inl (hT b hb)) (h.kw.ch dm MM X.hW X.hC X.hA) Aa dG E4 hrel (dm.same h.eN fun ht=>?_) (fun kO hk _=>?_) ?_ (fun mf=>?_) E5 E6 zO aj
 ·have:=MM _ ht;omega
 ·rcases hk with rfl|⟨h4,rfl⟩
  ·exact h.mode.keep hi bh
  ·have hm:=h.mode;rw[h4]at hm;exact hm.ML.keep hi bh
 ·obtain⟨cs,h1,h2,h3⟩:=h.pay;refine⟨cs,dm.same h1 fun ht=>?_,h2,fun p' nD=>?_⟩
  ·have:=MM _ ht;omega
  ·rcases h3 p' nD with h4|⟨i',h4,h5,h6⟩
   ·exact .inl h4
   ·by_cases aT:i'=i
    ·subst aT;obtain⟨k1,k2⟩:=bJ h6;exact .inr ⟨i',h4,by rw[upd_same,k2];exact h5,by rw[upd_same];exact k1⟩
    ·exact .inr ⟨i',h4,by rw[upd_ne D _ aT];exact h5,by rw[upd_ne D _ aT];exact h6⟩
 ·have h1:=zex mf;rw[(bJ h1).2];exact h.oI i hi h1
theorem Ad(_:dR S){B:Nat}(hB:S.w0.1.size<=B)(he:uv S e):oJ S ob' oc k B e:=by
 obtain⟨a,h1,rfl⟩:=he;refine⟨fun x hx _=>?_,?_,sQ⟩
 ·simp only[Zi,Zv,YA]at hx;subst hx;exact .inr (.inr ⟨h1,rfl,rfl⟩)
 ·obtain⟨a',h2,h3,_⟩:=h1;cases h2;show a.block<B;omega
theorem MN(X:dR S){B:Nat}{wr:Bool}(hk:k≠0)(hB:a.block<B)(ho:ob' a.block=k)(hl:S.w0.1.size<=a.block):oJ S ob' oc k B ⟨.cell a,wr,false⟩:=by
 have hA:=X.hA;refine⟨fun x hx _=>?_,hB,sQ⟩;simp only[Zi,Zv,YA]at hx;subst hx;exact .inr (.inl ⟨⟨hk,.inl ⟨a,rfl,.inl ⟨oQ,ho⟩⟩⟩,rfl⟩)
theorem TY(X:dR S){f:Nat->Nat}{B n:Nat}(hk:k≠0)(hB:S.w0.1.size<=B)(hf:∀ b,S.E.I n b->ob' (f b)=k/\S.w0.1.size<=f b/\f b<B)(he:pE S.E f n e):oJ S ob' oc k B e:=by
 have hA:=X.hA;rcases he with ⟨m,rfl,hm⟩|⟨b,hb,hs,hl⟩|⟨a,ha,rfl⟩|hl
 ·cases m with
  |extern _=>exact⟨fun x hx=>by simp[Zi,Zv]at hx,trivial,sQ⟩
  |noRoom=>exact⟨fun x hx=>by simp[Zi,Zv]at hx,trivial,sQ⟩
  |_=>exact hm.elim
 ·obtain⟨h1,h2,h3⟩:=hf b hb;obtain⟨loc,wr,sy⟩:=e;simp only at hs hl;subst hs;rcases hl with rfl|⟨a,ha,rfl⟩
  ·refine⟨fun x hx _=>?_,?_,sQ⟩
   ·cases wr<;>
    ·simp only[Zi,Zv,YA]at hx;subst hx;exact .inr (.inl ⟨⟨hk,.inr ⟨f b,rfl,h1⟩⟩,rfl⟩)
   ·cases wr<;>exact h3
  ·exact MN X hk oQ (by rw[ha];exact h1) oQ
 ·obtain⟨h1,h2,_,h3⟩:=X.IZ a.block (.inl ha);exact Ad X hB ⟨a,⟨a,rfl,h1,h2,h3,X.EZ a ha⟩,rfl⟩
 ·obtain⟨loc,wr,sy⟩:=e;simp only at hl;subst hl;refine⟨fun x hx hm=>?_,trivial,sQ⟩;simp only[Zi,Zv,YA]at hx;subst hx;cases hm
theorem Cf(h:uv S e):e.loc≠.mark .disable/\e.loc≠.mark .enable:=by
 obtain⟨a,_,rfl⟩:=h;simp
theorem MO{q:Nat}(h:EY S q e):e.loc≠.mark .disable/\e.loc≠.mark .enable:=by
 rcases h with h|⟨a,_,rfl⟩
 ·exact Cf h
 ·simp
theorem MP{E:Env}{f:Nat->Nat}{n:Nat}(he:pE E f n e):e.loc≠.mark .disable/\e.loc≠.mark .enable:=by
 rcases he with ⟨m,rfl,hm⟩|⟨b,hb,hs,hl⟩|⟨a,ha,rfl⟩|hl
 ·cases m<;>first |exact hm.elim|simp
 ·rcases hl with hl|⟨a,_,hl⟩<;>rw[hl]<;>simp
 ·simp
 ·rw[hl];simp
theorem Inv.MQ(X:dR S)(h:Inv S c D M ob oc q cl st sm gs w t)(hi:i<c){g:YP}{n:Nat}(sl:Option (Nat×Nat))(hg:gs[S.j0+i]?=some g)(bO:YV S.E.P false g w=.go g' w es)
  (dG:∀ e∈es,oJ S ob oc (S.j0+i) w.1.size e) (hq:∀ e∈es,e.loc≠.mark .disable/\e.loc≠.mark .enable) (hrel:(D i).stage<=6->es=#[]) (hn:n<(D i).fuel) (h0:(D i).stage=17->n≠0) (Aa:WSit S (S.j0+i) {D i with fuel:=n} ob cl g' w):
  ∃ m' au ν,runT S.E.P (Y4 gs w sl) (S.j0+i)=(.next m',au)/\Less (Nx S.E) S.n ν (meas S c D M q)/\gL S ν m' (t++au):=by
 refine h.uz X hi sl hg bO (d':={D i with fuel:=n}) (T:=fun _=>False) (Ch.refl _ w) (fun b hb=>hb.elim) (by rw[nK];exact Aa) (by rw[nK];exact dG) (deafBehind_still hq _) (fun hs=>?_) (.inr rfl) (fun mf=>⟨mf,rfl⟩) (fun mf=>mf) (fun cB=>h.opn cB i hi) (fun hk hp=>?_) (h.acc i) (.inr (.inr ⟨rfl,rfl,hn⟩))
 ·rw[hrel hs];obtain⟨r,hr⟩:=h.rel i hi hs;exact⟨r,by simpa[Zl]using hr⟩
 ·exact h0 hp.1 hp.2
theorem iy{main:Bool}{K:YM->Prop}{Ok:YX->Prop}{Stop:YP->Prop}{n:Nat}{g:YP}(h:Wk P main K Ok Stop n g):Stop g\/∃ n' g' es,n=n'+1/\(∀ w,K w->YV P main g w=.go g' w es)/\(∀ e∈es,Ok e)/\Wk P main K Ok Stop n' g':=by
 cases n with
 |zero=>exact .inl h
 |succ n=>
  rcases h with h|⟨_,g',es,h1,h2,h3⟩
  ·exact .inl h
  ·exact .inr ⟨n,g',es,rfl,h1,h2,h3⟩
end
section
variable {S:Sc}{c:Nat}{D:Nat->WD}{M:MD}{ob oc q:Nat->Nat}{cl:Bool}{st sm:Int}{gs:Array YP}{w:YM}{t:Y6}
theorem zey(P:Y2)(main:Bool)(g:YP)(o:Option (Array CommCase×CommShape))(w:YM):YV P main {g with offers:=o} w=YV P main g w:=by
 cases g;rfl
theorem MR(X:dR S)(h:Inv S c D M ob oc q cl st sm gs w t){b:Nat}(hk:k≠0)(mM:ob b=k)(he:EY S b e):oJ S ob oc k w.1.size e:=by
 rcases he with he|⟨a,rfl,rfl⟩
 ·exact Ad X h.kw.size he
 ·have:=h.jU a.block (by rw[mM];exact hk);exact MN X hk this.2 mM this.1
theorem Inv.upper(X:dR S)(h:Inv S c D M ob oc q cl st sm gs w t)(hi:i<c){g:YP}(sl:Option (Nat×Nat))(hg:gs[S.j0+i]?=some g)(cO:g.status=.running)(MS:17<=(D i).stage):
  ∃ m' au ν,runT S.E.P (Y4 gs w sl) (S.j0+i)=(.next m',au)/\Less (Nx S.E) S.n ν (meas S c D M q)/\gL S ν m' (t++au):=by
 have hj:=X.j0;have bW:S.j0+i≠0:=oQ;have uB:=h.kw.size;obtain⟨x,hx,hs⟩:=h.wk i hi;rw[hg]at hx;cases hx;have Cg:∀{g':YP}{es:Array YX}{n:Nat},YV S.E.P false g w=.go g' w es->(∀ e∈es,oJ S ob oc (S.j0+i) w.1.size e)->(∀ e∈es,e.loc≠.mark .disable/\e.loc≠.mark .enable)->n<(D i).fuel->((D i).stage=17->n≠0)->WSit S (S.j0+i) {D i with fuel:=n} ob cl g' w->
   ∃ m' au ν,runT S.E.P (Y4 gs w sl) (S.j0+i)=(.next m',au)/\Less (Nx S.E) S.n ν (meas S c D M q)/\gL S ν m' (t++au):=fun h1 h2 h3 h4 h5 h6=>h.MQ X hi sl hg h1 h2 h3 (fun hs=>oQ) h4 h5 h6
 have cX:∀{e:YX},e∈(#[]:Array YX)->False:=fun he=>by simp at he
 rcases hs with ⟨h1,h2,hw⟩|⟨h1,h2,b,hb,aJ,hw⟩|⟨h1,h2,b,hb,aJ,hw⟩|⟨h1,h2,b,hb,aJ,hw⟩|⟨h1,h2,b,z,zs,f,hb,aJ,vU,Ae,mM,dX⟩|⟨h1,h2,b,v,hb,aJ,hv,hw⟩|⟨h1,h2,hw⟩|hs
 ·
  rcases iy hw with bR|⟨n,g',es,hn,k1,k2,k3⟩
  ·obtain⟨_,bh⟩:=bR;obtain⟨g',w',k1,k2,k3,k4,n,k5⟩:=bh w h.kw;have hq:l9 ob w.1.size w'.1.size (S.j0+i) w.1.size=S.j0+i:=YH oQ;exact h.uz X hi sl hg k1 (d':=⟨23,n,0,(D i).place,(D i).y⟩) k2 (fun _ hb=>hb.elim) (.inr (.inl ⟨rfl,rfl,w.1.size,hq,k4,k5⟩)) (fun e he=>(cX he).elim) h2 (fun hs=>by simp at hs) (.inl ⟨oQ,sQ⟩) (fun _=>⟨sQ,rfl⟩) (fun _=>oQ) (fun _=>sQ) (fun _ hp=>by simp at hp) (h.acc i) (.inl tQ)
  ·exact Cg (k1 w h.kw) (fun e he=>Ad X uB (k2 e he)) (fun e he=>Cf (k2 e he)) (n:=n) oQ oQ (.inl ⟨h1,h2,k3⟩)
 ·
  rcases iy hw with bR|⟨n,g',es,hn,k1,k2,k3⟩
  ·obtain⟨_,g',bh,n,hn⟩:=bR;obtain⟨w',es,k1,k2,k3,k4,k5⟩:=bh w h.kw aJ;have jl:=h.jU b (by rw[hb];exact bW);refine h.uz X hi sl hg k1 (d':=⟨22,n,0,(D i).place,(D i).y⟩) k2 (fun x hx=>by rw[hx];exact hb) (by rw[k3,nK];exact .inr (.inr (.inl ⟨rfl,rfl,b,hb,k4,hn⟩))) (fun e he=>?_) ?_ (fun hs=>by simp at hs) (.inl ⟨oQ,sQ⟩) (fun _=>⟨sQ,rfl⟩) (fun _=>oQ) (fun _=>sQ) (fun _ hp=>by simp at hp) (h.acc i) (.inl tQ)
   ·obtain⟨a,ha,rfl⟩:=k5 e he;rw[k3,nK];exact MN X bW oQ (by rw[ha];exact hb) oQ
   ·rw[h2];exact deafBehind_still (fun e he=>by obtain⟨a,_,rfl⟩:=k5 e he;simp) _
  ·exact Cg (k1 w h.kw) (fun e he=>Ad X uB (k2 e he)) (fun e he=>Cf (k2 e he)) (n:=n) oQ oQ (.inr (.inl ⟨h1,h2,b,hb,aJ,k3⟩))
 ·
  rcases iy hw with bR|⟨n,g',es,hn,k1,k2,k3⟩
  ·obtain⟨_,bh⟩:=bR;obtain⟨g',d,k1,n,k5⟩:=bh w ⟨h.kw,aJ⟩;exact h.uz X hi sl hg k1 (d':=⟨21,n,0,(D i).place,(D i).y⟩) (Ch.at (fun _=>False) w d) (fun _ hb=>hb.elim) (by rw[show(w.at d).1.size=w.1.size from rfl,nK];exact eO (.inl ⟨rfl,rfl,b,hb,aJ,k5⟩)) (fun e he=>(cX he).elim) h2 (fun hs=>by simp at hs) (.inl ⟨oQ,sQ⟩) (fun _=>⟨sQ,rfl⟩) (fun _=>oQ) (fun _=>sQ) (fun _ hp=>by simp at hp) (h.acc i) (.inl tQ)
  ·exact Cg (k1 w ⟨h.kw,aJ⟩) (fun e he=>MR X h bW hb (k2 e he)) (fun e he=>MO (k2 e he)) (n:=n) oQ oQ (.inr (.inr (.inl ⟨h1,h2,b,hb,aJ,k3⟩)))
 ·
  rcases iy hw with bR|⟨n,g',es,hn,k1,k2,k3⟩
  ·obtain⟨_,z,zs,k1,k2⟩:=bR;have hp:=h.oI i hi oQ;obtain⟨a,_,hm⟩:=h.main;have Af:(D i).place<S.m:=by
    have:cn S M<=S.m:=by unfold cn;split<;>(try split)<;>omega
    omega
   obtain⟨f,f1,f2,f3,f4⟩:=X.TD (D i).place w Af h.kw;refine h.uz X hi sl hg (k1 w ⟨h.kw,aJ⟩) (d':=⟨20,0,0,(D i).place,S.x0 (D i).place⟩) (Ch.refl (fun _=>False) w) (fun _ hb=>hb.elim) ?_ (fun e he=>(cX he).elim) h2 (fun hs=>by simp at hs) (.inl ⟨oQ,sQ⟩) (fun _=>⟨sQ,rfl⟩) (fun _=>oQ) (fun _=>sQ) (fun _ hp=>by simp at hp) (X.cont _ Af).acc (.inl tQ);rw[nK];refine wF (.inl ⟨rfl,rfl,b,z,zs,f,hb,aJ,k2,f1,fun y hy=>?_,?_⟩)
   ·have h3:y<(S.x0 (D i).place).2.size:=hy.2;have h4:=hy.1;omega
   ·show eG (S.x0 (D i).place).1 (z::zs)=eG ((S.x0 (D i).place).1.map (rF f)) (z::zs);rw[f2]
  ·exact Cg (k1 w ⟨h.kw,aJ⟩) (fun e he=>MR X h bW hb (k2 e he)) (fun e he=>MO (k2 e he)) (n:=n) oQ oQ (eO (.inl ⟨h1,h2,b,hb,aJ,k3⟩))
 ·
  have hp:=h.oI i hi oQ;have Af:(D i).place<S.m:=by
   have:cn S M<=S.m:=by unfold cn;split<;>(try split)<;>omega
   omega
  subst dX;have wq:∀ y,S.E.I (D i).y.2.size y->f y<w.1.size:=fun y hy=>EX Ae.fit Ae.rel hy.2
  by_cases l6:wm (D i).y.1
  ·obtain⟨v,wl,w',es,k1,k2,_,k4,k5⟩:=Ae.leave X.rt (X.cont _ Af) l6 false z zs;have uC:=X.val _ v wl Af k2;rw[X.plain _ v f uC]at k4;obtain⟨n,hn⟩:=vU v uC;have bm:w'.1.size=w.1.size:=by have:=k5.size;omega
   have dm:Ch (fun b=>∃ y,S.E.I (D i).y.2.size y/\f y=b) w w':=⟨oQ,fun b h1 h2=>k5.stay b h1 fun y hy he=>h2 ⟨y,hy,he⟩,k5.os,k5.out,k5.tape⟩;refine h.uz X hi sl hg k4 (d':=⟨19,n,0,(D i).place,(D i).y⟩) dm (fun b ⟨y,hy,he⟩=>by rw[<-he];exact(mM y hy).1) ?_ (fun e he=>?_) ?_ (fun hs=>by simp at hs) (.inl ⟨oQ,sQ⟩) (fun _=>⟨sQ,rfl⟩) (fun _=>oQ) (fun _=>sQ) (fun _ hp=>by simp at hp) (h.acc i) (.inl tQ)
   ·rw[bm,nK];exact z7 (.inl ⟨rfl,rfl,b,v,hb,dm.same aJ fun⟨y,hy,he⟩=>(mM y hy).2 he,uC,hn⟩)
   ·rw[bm,nK];refine TY X bW uB (fun y hy=>?_) (k5.evs e he);have:=h.jU (f y) (by rw[(mM y hy).1];exact bW);exact⟨(mM y hy).1,this.1,this.2⟩
   ·rw[h2];exact deafBehind_still (fun e he=>MP (k5.evs e he)) _
  ·obtain⟨y',w',es,k1,k2,k3,k4,k5⟩:=Ae.step X.rt X.call X.code (X.cont _ Af) l6 false (z::zs);have bm:=k2.size;have jl:=h.jU b (by rw[hb];exact bW);have dm:Ch (fun b=>∃ y,S.E.I (D i).y.2.size y/\f y=b) w w':=⟨oQ,fun b h1 h2=>k2.stay b h1 fun y hy he=>h2 ⟨y,hy,he⟩,k2.os,k2.out,k2.tape⟩;have bC:∀ y,S.E.I y'.2.size y->l9 ob w.1.size w'.1.size (S.j0+i) (f y)=S.j0+i/\f y≠b/\S.w0.1.size<=f y/\f y<w'.1.size:=fun y hy=>by
    rcases Ys y (D i).y.2.size with aj|dX
    ·have h3:=wq y ⟨hy.1,aj⟩;have h4:=mM y ⟨hy.1,aj⟩;have h5:=h.jU (f y) (by rw[h4.1];exact bW);exact⟨by rw[E3 h3];exact h4.1,h4.2,h5.1,oQ⟩
    ·have h3:=Ae.rel.new y dX;have h4:=hy.2;exact⟨YH oQ,oQ,oQ,oQ⟩
   refine h.uz X hi sl hg k1 (d':=⟨20,(D i).fuel,0,(D i).place,y'⟩) dm (fun b ⟨y,hy,he⟩=>by rw[<-he];exact(mM y hy).1) ?_ (fun e he=>?_) ?_ (fun hs=>by simp at hs) (.inl ⟨oQ,sQ⟩) (fun _=>⟨sQ,rfl⟩) (fun _=>oQ) (fun _=>sQ) (fun _ hp=>by simp at hp) ((h.acc i).inv k5) (.inr (.inl ⟨h1.symm,k5⟩))
   ·exact wF (.inl ⟨rfl,rfl,b,z,zs,f,by rw[E3 jl.2];exact hb,dm.same aJ fun⟨y,hy,he⟩=>(mM y hy).2 he,vU,k4,fun y hy=>⟨(bC y hy).1,(bC y hy).2.1⟩,rfl⟩)
   ·exact TY X bW oQ (fun y hy=>⟨(bC y hy).1,(bC y hy).2.2⟩) (k2.evs e he)
   ·rw[h2];exact deafBehind_still (fun e he=>MP (k2.evs e he)) _
 ·
  rcases iy hw with bR|⟨n,g',es,hn,k1,k2,k3⟩
  ·obtain⟨_,g',k1,n,hn⟩:=bR;obtain⟨fJ,mb⟩:=h.oI i hi oQ;obtain⟨cs,c1,c2,c3⟩:=h.pay;have hA:=X.hA;have E9:=heap_setCell_same w S.An (D i).place cs S.B4 v c1;have oz:∀ b,b≠S.An->(w.setCell ⟨S.An,(D i).place,none⟩ v).1[b]?=w.1[b]?:=fun b hb=>zum w _ b v hb
   have bm:(w.setCell ⟨S.An,(D i).place,none⟩ v).1.size=w.1.size:=zsG ..;have TZ:=k1 w ⟨h.kw,aJ⟩;have Af:(D i).place<S.m:=by
    have:cn S M<=S.m:=by unfold cn;split<;>(try split)<;>omega
    omega
   have uw:KW S (w.setCell ⟨S.An,(D i).place,none⟩ v):=by
    obtain⟨st1,sm1,q2⟩:=h.kw.eN;obtain⟨c',s',r',q3⟩:=h.kw.ly;exact⟨fun b hb n1 n2 n3=>(oz b n3).trans (h.kw.low b hb n1 n2 n3),⟨st1,sm1,(oz _ X.wa).trans q2⟩,⟨_,E9,by simpa using c2⟩,⟨c',s',r',(oz _ X.ca).trans q3⟩,h.kw.os,h.kw.out,h.kw.tape,by rw[bm];exact uB⟩
   refine h.stepW X hi sl hg TZ (d':=⟨17,n+1,0,0,(D i).y⟩) (T:=(· = S.An)) (Ch.setCell (a:=⟨S.An,(D i).place,none⟩)) (fun b hb=>.inr (.inr hb)) uw ?_ (fun e he=>?_) ?_ (fun hs=>by simp at hs) ((oz _ X.wa).trans h.eN) (fun kO hk _=>?_) ⟨_,E9,by simpa using c2,fun p hp=>?_⟩ (fun hs=>by simp at hs) (fun _=>sQ) (fun _ hp=>by simp at hp) (h.acc i) (.inl tQ)
   ·rw[bm,nK];exact ux (.inl ⟨rfl,rfl,.inl ⟨n,rfl,hn⟩⟩)
   ·simp only[Yn,Yl,Yo,YL]at he;subst he;refine⟨fun x hx _=>?_,?_,sQ⟩
    ·simp only[Zi,Zv,YA]at hx;subst hx;exact .inr (.inl ⟨⟨bW,.inl ⟨_,rfl,.inr ⟨rfl,mb⟩⟩⟩,rfl⟩)
    ·rw[bm];show S.An<w.1.size;omega
   ·rw[h2];rfl
   ·have bh:(5<=(D i).stage/\5<=17)\/17=(D i).stage:=.inl ⟨oQ,oQ⟩;rcases hk with rfl|⟨h4,rfl⟩
    ·exact h.mode.keep hi bh
    ·have hm:=h.mode;rw[h4]at hm;exact hm.ML.keep hi bh
   ·by_cases yc:p=(D i).place
    ·subst yc;exact .inl ⟨v,X4 oQ,hv⟩
    ·rcases c3 p hp with ⟨v',q1,q2⟩|⟨i',q1,q2,q3⟩
     ·exact .inl ⟨v',by rw[X3 fun e=>yc e.symm];exact q1,q2⟩
     ·have aT:i'≠i:=fun e=>by subst e;exact yc q2.symm
      exact .inr ⟨i',q1,by rw[upd_ne D _ aT];exact q2,by rw[upd_ne D _ aT];exact q3⟩
  ·exact Cg (k1 w ⟨h.kw,aJ⟩) (fun e he=>MR X h bW hb (k2 e he)) (fun e he=>MO (k2 e he)) (n:=n) oQ oQ (z7 (.inl ⟨h1,h2,b,v,hb,aJ,hv,k3⟩))
 ·
  rcases hw with ⟨f,hf,hw⟩|⟨g0,o,hf,ou,rfl⟩|⟨g0,_,_,_,rfl⟩
  ·rcases iy hw with bR|⟨n,g',es,hn,k1,k2,k3⟩
   ·exact h.recv X hi sl hg ((X.ar g bR).2.2.1 w h.kw) bR h1 oQ h2
   ·exact Cg (k1 w h.kw) (fun e he=>Ad X uB (k2 e he)) (fun e he=>Cf (k2 e he)) (n:=n+1) oQ oQ (ux (.inl ⟨h1,h2,.inl ⟨n,rfl,k3⟩⟩))
  ·exact h.recv X hi sl hg ((zey _ _ _ _ _).trans ((X.ar g0 ou).2.2.1 w h.kw)) ou h1 oQ h2
  ·cases cO
 ·exfalso;rcases hs with hs|hs|hs|hs|hs|hs|hs<;>(have:=hs.1;omega)
end
open Go.ConcN (RelBy sumTo upd upd_same upd_ne sumTo_upd sumTo_congr le_sumTo)
section
variable {S:Sc}{c:Nat}{D:Nat->WD}{M:MD}{ob oc q:Nat->Nat}{cl:Bool}{st sm:Int}{gs:Array YP}{w:YM}{t:Y6}
theorem KW.wg(X:dR S)(h:KW S w)(ha:a.block=S.Wg)(hw:WgAt S.ty S.Wg (w.setCell a v) kt mN):KW S (w.setCell a v):=by
 have oz:∀ b,b≠S.Wg->(w.setCell a v).1[b]?=w.1[b]?:=fun b hb=>zum w _ b v (by rw[ha];exact hb)
 obtain⟨cs,q1,q2⟩:=h.pay;obtain⟨c',s',r',q3⟩:=h.ly;exact⟨fun b hb n1 n2 n3=>(oz b n1).trans (h.low b hb n1 n2 n3),⟨_,_,hw⟩,⟨cs,(oz _ fun e=>X.wa e.symm).trans q1,q2⟩,⟨c',s',r',(oz _ fun e=>X.wc e.symm).trans q3⟩,h.os,h.out,h.tape,by rw[zsG];exact h.size⟩
theorem Ci{B:Nat}(ha:a.block=S.Wg)(hB:S.Wg<B):oJ S ob' oc k B ⟨.cell a,b,true⟩:=by
 refine⟨fun x hx _=>?_,by show a.block<B;omega,sQ⟩;simp only[Zi,Zv,YA]at hx;subst hx;exact .inl ⟨⟨a,rfl,ha⟩,rfl⟩
theorem Fa{B:Nat}(hm:m=.disable\/m=.enable\/m=.releaseMerge (stA S.Wg)\/m=.acquire (stA S.Wg))(hB:S.Wg<B):oJ S ob' oc k B (mk m):=by
 rcases hm with rfl|rfl|rfl|rfl
 ·exact⟨fun x hx=>by simp[mk,Zi,Zv]at hx,trivial,by simp[mk]⟩
 ·exact⟨fun x hx=>by simp[mk,Zi,Zv]at hx,trivial,by simp[mk]⟩
 ·exact⟨fun x hx=>by simp[mk,Zi,Zv]at hx,hB,by simp[mk]⟩
 ·exact⟨fun x hx=>by simp[mk,Zi,Zv]at hx,hB,by simp[mk]⟩
theorem zez{B:Nat}(h:e.mute=true):oJ S ob' oc k B e:=by
 refine⟨fun x hx=>?_,low_mute h B,?_⟩
 ·rw[touch_mute h]at hx;cases hx
 ·obtain⟨loc,wr,sy⟩:=e;intro he;simp only at he;subst he;simp[Event.mute]at h
theorem T1(h:Vc c D=0)(hi:i<c):¬ 5<=(D i).stage:=fun h5=>by
 have:=le_sumTo (f:=fun i=>dr (D i)) hi;have e:dr (D i)=1:=YH h5;unfold Vc at h;simp only[e]at this;omega
theorem Inv.lower(X:dR S)(h:Inv S c D M ob oc q cl st sm gs w t)(hi:i<c){g:YP}(sl:Option (Nat×Nat))(hg:gs[S.j0+i]?=some g)(cO:g.status=.running)(MS:(D i).stage<=16):
  ∃ m' au ν,runT S.E.P (Y4 gs w sl) (S.j0+i)=(.next m',au)/\Less (Nx S.E) S.n ν (meas S c D M q)/\gL S ν m' (t++au):=by
 have hj:=X.j0;have bW:S.j0+i≠0:=oQ;have uB:=h.kw.size;have hW:=X.hW;have hB:S.Wg<w.1.size:=oQ;obtain⟨x,hx,hs⟩:=h.wk i hi;rw[hg]at hx;cases hx;have cB:cl=true:=by
  cases cl with
  |true=>rfl
  |false=>have:=h.opn rfl i hi;omega
 subst cB;have h9:=h.l8.1 rfl;have Fb:M.kind≠11:=oQ;obtain⟨a0,ha0,vW⟩:=h.main;have fc:=vW.range.2.2.2.1 oQ;have T2:pend M.kind=0:=by unfold pend;rw[YG oQ]
 have uy:=h.deafW i hi;have cX:∀{e:YX},e∈(#[]:Array YX)->False:=fun he=>by simp at he
 have Fc:∀{Stop:YP->Prop}{n:Nat}{g':YP}{es:Array YX},(∀ w,KW S w->YV S.E.P false g w=.go g' w es)->(∀ e∈es,False)->n<(D i).fuel->(D i).stage≠17->WSit S (S.j0+i) {D i with fuel:=n} ob true g' w->
   ∃ m' au ν,runT S.E.P (Y4 gs w sl) (S.j0+i)=(.next m',au)/\Less (Nx S.E) S.n ν (meas S c D M q)/\gL S ν m' (t++au):=fun {Stop n g' es} k1 k2 k3 k4 k5=>by
  refine h.MQ X hi sl hg (k1 w h.kw) (fun e he=>(k2 e he).elim) (fun e he=>(k2 e he).elim) (fun _=>?_) k3 (fun e=>absurd e k4) k5;apply Array.eq_empty_of_size_eq_zero;rcases zst es.size with e|e
  ·exact e
  ·exact(k2 _ (zr2 e)).elim
 have wG:∀{a:YQ}{v:YN}{kt mN:Int}{g':YP}{es:Array YX}{d':WD},a.block=S.Wg->WgAt S.ty S.Wg (w.setCell a v) kt mN->YV S.E.P false g w=.go g' (w.setCell a v) es->WSit S (S.j0+i) d' ob true g' (w.setCell a v)->(∀ e∈es,oJ S ob oc (S.j0+i) w.1.size e)->zsT (D i).deaf es=d'.deaf->
   (∃ r,RelBy (stA S.Wg) (t++Zl (S.j0+i) g.frame.fn g.frame.place es) (S.j0+i) r)->(∀ kO,(kO=M.kind\/(M.kind=4/\kO=5))->(mayWake S.E.P g=true->g'.status≠.blocked->g'.status≠.waiting->kO≠4)->Mode c (upd D i d') kO M.r kt mN)->(D i).stage<=6->d'.stage<(D i).stage->d'.y=(D i).y->
   ∃ m' au ν,runT S.E.P (Y4 gs w sl) (S.j0+i)=(.next m',au)/\Less (Nx S.E) S.n ν (meas S c D M q)/\gL S ν m' (t++au):=fun {a v kt mN g' es d'} k1 k2 k3 k4 k5 k6 k7 k8 k9 k10 k11=>by
  have bm:(w.setCell a v).1.size=w.1.size:=zsG ..;have oz:∀ b,b≠S.Wg->(w.setCell a v).1[b]?=w.1[b]?:=fun b hb=>zum w _ b v (by rw[k1];exact hb)
  obtain⟨cs,c1,c2,c3⟩:=h.pay;refine h.stepW X hi sl hg k3 (d':=d') (T:=(· = a.block)) Ch.setCell (fun b hb=>.inr (.inl (by rw[hb];exact k1))) (KW.wg X h.kw k1 k2) (by rw[bm,nK];exact k4) (by rw[bm,nK];exact k5) k6 (fun _=>k7) k2 k8 ⟨cs,(oz _ fun e=>X.wa e.symm).trans c1,c2,fun p hp=>?_⟩ (fun mf=>oQ) (fun e=>by cases e) (fun e=>absurd e Fb) (by rw[k11];exact h.acc i) (.inl k10);rcases c3 p hp with h4|⟨i',q1,q2,q3⟩
  ·exact .inl h4
  ·have aT:i'≠i:=fun e=>by subst e;omega
   exact .inr ⟨i',q1,by rw[upd_ne D _ aT];exact q2,by rw[upd_ne D _ aT];exact q3⟩
 rcases hs with hs|hs|hs|hs|hs|hs|hs|⟨h1,h2,hw⟩|⟨h1,h2,hw⟩|⟨h1,h2,hw⟩|⟨h1,h2,hw⟩|⟨h1,h2,hw⟩|⟨h1,h2,hw⟩|⟨h1,hq⟩
 iterate 7(have:=hs.1;omega)
 ·
  rcases iy hw with bR|⟨n,g',es,hn,k1,k2,k3⟩
  ·obtain⟨_,g',k1,n,hn⟩:=bR;refine h.uz X hi sl hg (k1 w h.kw) (d':=⟨6,n,0,0,(D i).y⟩) (T:=fun _=>False) (Ch.refl _ w) (fun _ hb=>hb.elim) (by rw[nK];exact Fe (.inl ⟨rfl,rfl,hn⟩)) (fun e he=>?_) (by rw[h2];rfl) (fun _=>⟨_,zD5 (by rw[uy,h2]) _ _⟩) (.inl ⟨oQ,sQ⟩) (fun mf=>oQ) (fun mf=>by simp at mf) (fun e=>by cases e) (fun e=>absurd e Fb) (h.acc i) (.inl tQ);simp only[Yn,Yl,Yo,YL]at he;subst he;exact Fa (.inr (.inr (.inl rfl))) hB
  ·exact h.MQ X hi sl hg (k1 w h.kw) (fun e he=>Ad X uB (k2 e he)) (fun e he=>Cf (k2 e he)) (fun hs=>oQ) (n:=n) oQ oQ (I1 (.inl ⟨h1,h2,k3⟩))
 ·
  rcases iy hw with bR|⟨n,g',es,hn,k1,k2,k3⟩
  ·obtain⟨_,g',k1,n,hn⟩:=bR;obtain⟨r,hr⟩:=h.rel i hi oQ;refine h.uz X hi sl hg (k1 w h.kw) (d':=⟨5,n,1,0,(D i).y⟩) (T:=fun _=>False) (Ch.refl _ w) (fun _ hb=>hb.elim) (by rw[nK];exact MT (.inl ⟨rfl,rfl,hn⟩)) (fun e he=>?_) (by rw[h2];rfl) (fun _=>⟨r,zve hr _ _ _ fun j e he=>?_⟩) (.inl ⟨oQ,sQ⟩) (fun mf=>oQ) (fun mf=>by simp at mf) (fun e=>by cases e) (fun e=>absurd e Fb) (h.acc i) (.inl tQ)
   ·simp only[Yn,Yl,Yo,YL]at he;subst he;exact Fa (.inl rfl) hB
   ·have he:=zt5 he;simp only[Yn,Yl,Yo,YL]at he;subst he;exact .inl rfl
  ·exact Fc (Stop:=fun _=>True) k1 k2 (n:=n) oQ oQ (Fe (.inl ⟨h1,h2,k3⟩))
 ·
  rcases iy hw with bR|⟨n,g',es,hn,k1,k2,k3⟩
  ·obtain⟨_,bR⟩:=bR;obtain⟨r,hr⟩:=h.rel i hi oQ;have hc5:dr (D i)=1:=by unfold dr;rw[YH oQ]
   have dp:1<=Vc c D:=by
    have:=le_sumTo (f:=fun i=>dr (D i)) hi;simp only[hc5]at this;exact this
   have hVn:Vc c D<=S.n:=by
    have:=zAT (f:=fun i=>dr (D i)) (c:=1) (j:=c) fun i _=>by unfold dr;split<;>omega
    unfold Vc;omega
   have hrel:∀{g':YP},∃ r,RelBy (stA S.Wg) (t++Zl (S.j0+i) g.frame.fn g.frame.place #[rd (stA S.Wg),wr (stA S.Wg)]) (S.j0+i) r:=fun {_}=>⟨r,zve hr _ _ _ fun j e he=>.inr (by
    rw[uy,h2];match j,he with
    | 0,he=>
     simp at he;subst he;exact⟨⟨_,_,rfl⟩,by simp[zsT]⟩
    | 1,he=>
     simp at he;subst he;exact⟨⟨_,_,rfl⟩,by simp[zsT,rd]⟩)⟩
   have MU:∀ e∈(#[rd (stA S.Wg),wr (stA S.Wg)]:Array YX),oJ S ob oc (S.j0+i) w.1.size e:=fun e he=>by
    simp only[Yn,Yl,Yo,YL]at he;rcases he with rfl|rfl<;>exact Ci rfl hB
   have Q7:zsT (D i).deaf #[rd (stA S.Wg),wr (stA S.Wg)]=1:=by rw[h2];rfl
   have e1:∀ d':WD,d'.stage<5->Vc c (upd D i d')+1=Vc c D:=fun d' hd=>by
    have:=sumTo_upd D d' dr hi;have hc:dr d'=0:=by unfold dr;rw[YG oQ]
    unfold Vc;omega
   have hop:∀ d':WD,d'.stage=1->wE c D->wE c (upd D i d'):=fun d' hd ho i' aN=>by
    by_cases aT:i'=i
    ·subst aT;rw[upd_same];exact .inr hd
    ·rw[upd_ne D _ aT];exact ho i' aN
   have jV:=h.mode;obtain⟨v,hv⟩:∃ v,Vc c D=v+1:=⟨Vc c D-1,oQ⟩;rcases jV with ⟨m1,m2,m3,m4,m5⟩|⟨m1,m2,m3,m4,m5⟩|⟨m1,_,L,m2,m3,m4⟩|⟨m1,m2,_⟩|⟨m1,m2,_⟩
   ·obtain⟨g',k1,_,k3⟩:=bR v 0 oQ oQ;obtain⟨qn,Cj⟩:=k3 oQ;have bh:WgAt S.ty S.Wg w (((v:Nat)+1)*KK+((0:Nat):Int)) 0:=by
     have:=h.eN;rw[m3,m4,T2,hv]at this;simpa using this
    have bO:=k1 w h.kw bh;refine wG rfl (bh.setSt _) bO (d':=⟨1,qn,1,0,(D i).y⟩) (Ah (.inr ⟨rfl,Cj⟩)) MU Q7 (hrel (g':=g')) (fun kO hk _=>?_) oQ tQ rfl;have jW:kO=M.kind:=oQ;subst jW;have:=e1 ⟨1,qn,1,0,(D i).y⟩ sQ;refine .inl ⟨m1,hop _ rfl m2,?_,rfl,fun e=>?_⟩
    ·rw[T2];have:Vc c (upd D i ⟨1,qn,1,0,(D i).y⟩)=v:=oQ;rw[this];simp
    ·have:=m5 e;omega
   ·have bh:WgAt S.ty S.Wg w (((v:Nat)+1)*KK+((1:Nat):Int)) 0:=by
     have:=h.eN;rw[m4,m5,hv]at this;simpa using this
    obtain⟨g',k1,k2,k3⟩:=bR v 1 oQ oQ;have bO:=k1 w h.kw bh;by_cases hv0:v=0
    ·obtain⟨n,hn⟩:=k2 ⟨hv0,rfl⟩;refine wG rfl (bh.setSt _) bO (d':=⟨4,n,1,0,(D i).y⟩) (I4 (.inl ⟨rfl,rfl,hn⟩)) MU Q7 (hrel (g':=g')) (fun kO hk _=>?_) oQ tQ rfl;have hz:Vc c (upd D i ⟨4,n,1,0,(D i).y⟩)=0:=by have:=e1 ⟨4,n,1,0,(D i).y⟩ sQ;omega
     refine .inr (.inr (.inl ⟨oQ,rfl,i,hi,fun i' aN aW=>?_,?_⟩))
     ·have h5:=T1 hz aN;rw[upd_ne D _ aW]at h5⊢;have:=m2 i' aN;omega
     ·rw[upd_same];exact .inl ⟨.inl rfl,by rw[hv0];simp⟩
    ·obtain⟨qn,Cj⟩:=k3 oQ;refine wG rfl (bh.setSt _) bO (d':=⟨1,qn,1,0,(D i).y⟩) (Ah (.inr ⟨rfl,Cj⟩)) MU Q7 (hrel (g':=g')) (fun kO hk _=>?_) oQ tQ rfl;have:=e1 ⟨1,qn,1,0,(D i).y⟩ sQ;have hvv:Vc c (upd D i ⟨1,qn,1,0,(D i).y⟩)=v:=oQ;exact .inr (.inl ⟨oQ,hop _ rfl m2,oQ,by rw[hvv];simp,rfl⟩)
   ·by_cases hL:i=L
    ·subst hL;omega
    ·have:=m3 i hi hL;omega
   ·have:=m2 i hi;omega
   ·have:=m2 i hi;omega
  ·exact Fc (Stop:=fun _=>True) k1 k2 (n:=n) oQ oQ (MT (.inl ⟨h1,h2,k3⟩))
 ·
  rcases iy hw with bR|⟨n,g',es,hn,k1,k2,k3⟩
  ·obtain⟨_,g',k1,n,hn⟩:=bR;obtain⟨r,hr⟩:=h.rel i hi oQ;have Ff:(M.kind=5\/M.kind=4)/\st=1/\sm=0/\∀ i',i'<c->i'≠i->(D i').stage=1:=by
    rcases h.mode with ⟨m1,m2,_⟩|⟨m1,m2,_⟩|⟨m1,m5,L,m2,m3,m4⟩|⟨m1,m2,_⟩|⟨m1,m2,_⟩
    ·have:=m2 i hi;omega
    ·have:=m2 i hi;omega
    ·by_cases hL:i=L
     ·subst hL;exact⟨m1,oQ,m5,m3⟩
     ·have:=m3 i hi hL;omega
    ·have:=m2 i hi;omega
    ·have:=m2 i hi;omega
   obtain⟨l1,rfl,rfl,l4⟩:=Ff;obtain⟨cs,c1,c2,c3⟩:=h.pay;refine h.stepW X hi sl hg (k1 w h.kw h.eN) (d':=⟨3,n,1,0,(D i).y⟩) (T:=fun _=>False) (Ch.refl _ w) (fun _ hb=>hb.elim) h.kw (by rw[nK];exact E0 (.inl ⟨rfl,rfl,hn⟩)) (fun e he=>?_) (by rw[h2];rfl) (fun _=>⟨r,zve hr _ _ _ fun j e he=>?_⟩) h.eN (fun kO hk _=>?_) ⟨cs,c1,c2,fun p hp=>?_⟩ (fun mf=>by simp at mf) (fun e=>by cases e) (fun e=>absurd e Fb) (h.acc i) (.inl tQ)
   ·simp only[Yn,Yl,Yo,YL]at he;subst he;exact Ci rfl hB
   ·rw[uy,h2];match j,he with
    | 0,he=>
     simp at he;subst he;exact .inr ⟨⟨_,_,rfl⟩,by simp[zsT]⟩
   ·refine .inr (.inr (.inl ⟨oQ,rfl,i,hi,fun i' q1 q2=>by rw[upd_ne D _ q2];exact l4 i' q1 q2,?_⟩));rw[upd_same];exact .inl ⟨.inr rfl,rfl⟩
   ·rcases c3 p hp with h4|⟨i',q1,q2,q3⟩
    ·exact .inl h4
    ·have aT:i'≠i:=fun e=>by subst e;omega
     exact .inr ⟨i',q1,by rw[upd_ne D _ aT];exact q2,by rw[upd_ne D _ aT];exact q3⟩
  ·exact Fc (Stop:=fun _=>True) k1 k2 (n:=n) oQ oQ (I4 (.inl ⟨h1,h2,k3⟩))
 ·
  rcases iy hw with bR|⟨n,g',es,hn,k1,k2,k3⟩
  ·obtain⟨_,g',k1,n,hn⟩:=bR;obtain⟨r,hr⟩:=h.rel i hi oQ;have Ff:(M.kind=5\/M.kind=4)/\st=1/\sm=0/\∀ i',i'<c->i'≠i->(D i').stage=1:=by
    rcases h.mode with ⟨m1,m2,_⟩|⟨m1,m2,_⟩|⟨m1,m5,L,m2,m3,m4⟩|⟨m1,m2,_⟩|⟨m1,m2,_⟩
    ·have:=m2 i hi;omega
    ·have:=m2 i hi;omega
    ·by_cases hL:i=L
     ·subst hL;exact⟨m1,oQ,m5,m3⟩
     ·have:=m3 i hi hL;omega
    ·have:=m2 i hi;omega
    ·have:=m2 i hi;omega
   obtain⟨l1,rfl,rfl,l4⟩:=Ff;refine wG rfl (h.eN.setSt _) (k1 w h.kw h.eN) (d':=⟨2,n,1,0,(D i).y⟩) (Ah (.inl ⟨rfl,rfl,hn⟩)) (fun e he=>?_) (by rw[h2];rfl) ⟨r,zve hr _ _ _ fun j e he=>?_⟩ (fun kO hk _=>?_) oQ tQ rfl
   ·simp only[Yn,Yl,Yo,YL]at he;subst he;exact Ci rfl hB
   ·rw[uy,h2];match j,he with
    | 0,he=>
     simp at he;subst he;exact .inr ⟨⟨_,_,rfl⟩,by simp[zsT]⟩
   ·refine .inr (.inr (.inl ⟨oQ,rfl,i,hi,fun i' q1 q2=>by rw[upd_ne D _ q2];exact l4 i' q1 q2,?_⟩));rw[upd_same];exact .inr ⟨rfl,rfl⟩
  ·exact Fc (Stop:=fun _=>True) k1 k2 (n:=n) oQ oQ (E0 (.inl ⟨h1,h2,k3⟩))
 ·
  rcases iy hw with bR|⟨n,g',es,hn,k1,k2,k3⟩
  ·obtain⟨_,hmw,g',k1,qn,Cj⟩:=bR;obtain⟨r,hr⟩:=h.rel i hi oQ;have Ff:(M.kind=5\/M.kind=4)/\st=0/\sm=0/\∀ i',i'<c->i'≠i->(D i').stage=1:=by
    rcases h.mode with ⟨m1,m2,_⟩|⟨m1,m2,_⟩|⟨m1,m5,L,m2,m3,m4⟩|⟨m1,m2,_⟩|⟨m1,m2,_⟩
    ·have:=m2 i hi;omega
    ·have:=m2 i hi;omega
    ·by_cases hL:i=L
     ·subst hL;exact⟨m1,oQ,m5,m3⟩
     ·have:=m3 i hi hL;omega
    ·have:=m2 i hi;omega
    ·have:=m2 i hi;omega
   obtain⟨l1,rfl,rfl,l4⟩:=Ff;refine wG rfl (h.eN.setSm _) (k1 w h.kw h.eN) (d':=⟨1,qn,1,0,(D i).y⟩) (Ah (.inr ⟨rfl,Cj⟩)) (fun e he=>?_) (by rw[h2];rfl) ⟨r,zve hr _ _ _ fun j e he=>?_⟩ (fun kO hk My=>?_) oQ tQ rfl
   ·simp only[zsM,Yn,Yl,Yo,YL]at he;rcases he with rfl|rfl|rfl|rfl
    ·exact Fa (.inl rfl) hB
    ·exact Ci rfl hB
    ·exact Ci rfl hB
    ·exact Fa (.inr (.inl rfl)) hB
   ·rw[uy,h2];match j,he with
    | 0,he=>
     simp[zsM]at he;subst he;exact .inl rfl
    | 1,he=>
     simp[zsM]at he;subst he;exact .inr ⟨⟨_,_,rfl⟩,by simp[zsT,zsM]⟩
    | 2,he=>
     simp[zsM]at he;subst he;exact .inr ⟨⟨_,_,rfl⟩,by simp[zsT,zsM]⟩
    | 3,he=>
     simp[zsM]at he;subst he;exact .inl rfl
   ·have hb:g'.status≠.blocked/\g'.status≠.waiting:=by
     rcases Cj.status with e|e<;>rw[e]<;>simp
    have:=My hmw hb.1 hb.2;have jW:kO=5:=oQ;refine eO (.inl ⟨jW,fun i' aN=>?_,rfl,rfl⟩);by_cases aT:i'=i
    ·subst aT;rw[upd_same]
    ·rw[upd_ne D _ aT];exact l4 i' aN aT
  ·exact Fc (Stop:=fun _=>True) k1 k2 (n:=n) oQ oQ (Ah (.inl ⟨h1,h2,k3⟩))
 ·
  obtain⟨r,hr⟩:=h.rel i hi oQ;generalize hn:(D i).fuel=n at hq;cases n with
  |zero=>
   rw[hq.1]at cO;cases cO
  |succ n=>
   rcases hq with ⟨hq,_⟩|⟨_,g',es,k1,k2,k3⟩
   ·rw[hq]at cO;cases cO
   ·refine h.uz X hi sl hg (k2 w) (d':=⟨1,n,zsT (D i).deaf es,0,(D i).y⟩) (T:=fun _=>False) (Ch.refl _ w) (fun _ hb=>hb.elim) (by rw[nK];exact Ah (.inr ⟨rfl,k3⟩)) (fun e he=>zez (k1 e he)) rfl (fun _=>⟨r,zve hr _ _ _ fun j e he=>.inl (touch_mute (k1 e (zt5 he)))⟩) (.inr h1.symm) (fun mf=>oQ) (fun mf=>by simp at mf) (fun e=>by cases e) (fun e=>absurd e Fb) (h.acc i) (.inr (.inr ⟨h1.symm,rfl,tQ⟩))
end
open Go.ConcN (RelBy sumTo upd upd_same upd_ne sumTo_upd sumTo_congr le_sumTo get_map_set get_map_set_same)
def Ends(S:Sc)(gs:Array YP)(w:YM)(t:Y6):Prop:=
 ∃ a q,gs[0]?=some a/\S.Out a/\gs.size=S.j0+S.n/\Leavers S.E.P t gs q/\Past (fun l=>S.Shun l\/S.Sh l) w.1.size t/\KW S w/\∃ cs,w.1[S.An]?=some (.cells cs S.B4)/\cs.size=S.m/\∀ p,p<S.m->∃ v,cs[p]?=some v/\S.dP p v
section
variable {S:Sc}{c:Nat}{D:Nat->WD}{M:MD}{ob oc q:Nat->Nat}{cl:Bool}{st sm:Int}{gs:Array YP}{w:YM}{t:Y6}
theorem MV{B:Nat}(h:oJ S ob' oc k B e)(hn:∀ l,¬S.Own ob' oc k l):mP S B e:=⟨fun a ha hm=>by
 rcases h.1 a ha hm with ⟨h1,h2⟩|⟨h1,_⟩|⟨h1,h2,_⟩
 ·exact .inl ⟨h1,by rw[h2];simp⟩
 ·exact absurd h1 (hn _)
 ·exact .inr (.inl ⟨h1,h2⟩),h.2⟩
theorem MW(oc:Nat->Nat)(l:Loc):¬S.Own (fun _=>0) oc 0 l:=fun h=>h.1 rfl
theorem Fg{B:Nat}(ha:a.block=S.Wg)(hB:S.Wg<B):mP S B ⟨.cell a,b,true⟩:=MV (Ci (oc:=fun _=>0) (ob':=fun _=>0) (k:=0) ha hB) (MW _)
theorem I5{B:Nat}(hm:m=.disable\/m=.enable\/m=.releaseMerge (stA S.Wg)\/m=.acquire (stA S.Wg))(hB:S.Wg<B):mP S B (mk m):=MV (Fa (oc:=fun _=>0) (ob':=fun _=>0) (k:=0) hm hB) (MW _)
theorem zeA(X:dR S){B:Nat}(hB:S.w0.1.size<=B)(he:wu S e):mP S B e:=by
 have hW:=X.hW;rcases he with he|⟨a,ha,rfl|rfl⟩
 ·exact MV (Ad X (oc:=fun _=>0) (ob':=fun _=>0) (k:=0) hB he) (MW _)
 ·refine⟨fun x hx _=>?_,by show a.block<B;omega,by simp[mk]⟩;simp only[mk,Zi,Zv,YA]at hx;subst hx;exact .inl ⟨⟨a,rfl,ha⟩,sQ⟩
 ·refine⟨fun x hx _=>?_,by show a.block<B;omega,by simp[mk]⟩;simp only[mk,Zi,Zv,YA]at hx;subst hx;exact .inl ⟨⟨a,rfl,ha⟩,sQ⟩
theorem zeB(h:wu S e):e.loc≠.mark .disable/\e.loc≠.mark .enable:=by
 rcases h with h|⟨a,_,rfl|rfl⟩
 ·exact Cf h
 ·simp[mk]
 ·simp[mk]
theorem Inv.T3(X:dR S)(h:Inv S c D M ob oc q cl st sm gs w t){a:YP}(sl:Option (Nat×Nat))(ha:gs[0]?=some a)(bO:∀ w,KW S w->YV S.E.P true a w=.go a' w es)(dG:∀ e∈es,wu S e)
  {M':MD} (cq:lz S M' c a') (hd:pM M'.kind=pM M.kind) (jV:Mode c D M'.kind M'.r st sm) (eH:cn S M'=cn S M) (kP:cl=true↔M'.kind<=9) (pB:M'.kind≠11)
  (aj:phi S (Vc c D) M'<phi S (Vc c D) M\/(phi S (Vc c D) M'=phi S (Vc c D) M/\M'.fuel<M.fuel)):
  ∃ m' au ν,runT S.E.P (Y4 gs w sl) 0=(.next m',au)/\Less (Nx S.E) S.n ν (meas S c D M q)/\gL S ν m' (t++au):=
 h.step0 X sl ha (bO w h.kw) (T:=fun _=>False) (Ch.refl _ w) (fun _ hb=>hb.elim) rfl h.kw cq (fun e he=>zeA X h.kw.size (dG e he)) (by rw[hd];exact deafBehind_still (fun e he=>zeB (dG e he)) _) h.eN jV eH kP pB aj
theorem Inv.says(X:dR S)(h:Inv S c D M ob oc q cl st sm gs w t){a:YP}(sl:Option (Nat×Nat))(ha:gs[0]?=some a)(bO:YV S.E.P true a w=.go a' w es)(dG:∀ e∈es,mP S w.1.size e)
  {M':MD} (cq:lz S M' c a') (hd:zsT (pM M.kind) es=pM M'.kind) (jV:Mode c D M'.kind M'.r st sm) (eH:cn S M'=cn S M) (kP:cl=true↔M'.kind<=9) (pB:M'.kind≠11)
  (aj:phi S (Vc c D) M'<phi S (Vc c D) M\/(phi S (Vc c D) M'=phi S (Vc c D) M/\M'.fuel<M.fuel)):
  ∃ m' au ν,runT S.E.P (Y4 gs w sl) 0=(.next m',au)/\Less (Nx S.E) S.n ν (meas S c D M q)/\gL S ν m' (t++au):=
 h.step0 X sl ha bO (T:=fun _=>False) (Ch.refl _ w) (fun _ hb=>hb.elim) rfl h.kw cq dG hd h.eN jV eH kP pB aj
theorem Inv.turns(X:dR S)(h:Inv S c D M ob oc q cl st sm gs w t){a:YP}(sl:Option (Nat×Nat))(ha:gs[0]?=some a)(bO:YV S.E.P true a w=.go a' (w.setCell ad v) es)(lu:ad.block=S.Wg)(hw:WgAt S.ty S.Wg (w.setCell ad v) kt mN)(dG:∀ e∈es,mP S w.1.size e)
  {M':MD} (cq:lz S M' c a') (hd:zsT (pM M.kind) es=pM M'.kind) (jV:Mode c D M'.kind M'.r kt mN) (eH:cn S M'=cn S M) (kP:cl=true↔M'.kind<=9) (pB:M'.kind≠11)
  (aj:phi S (Vc c D) M'<phi S (Vc c D) M\/(phi S (Vc c D) M'=phi S (Vc c D) M/\M'.fuel<M.fuel)):
  ∃ m' au ν,runT S.E.P (Y4 gs w sl) 0=(.next m',au)/\Less (Nx S.E) S.n ν (meas S c D M q)/\gL S ν m' (t++au):=
 h.step0 X sl ha bO (T:=(· = ad.block)) Ch.setCell (fun b hb=>by rw[hb];exact lu) (zsG ..) (KW.wg X h.kw lu hw) cq (by rw[zsG];exact dG) hd hw jV eH kP pB aj
theorem Mode.open_(h:Mode c D kd r st sm)(hk:6<=kd):wE c D/\st=((Vc c D+pend kd:Nat):Int)*KK/\sm=0/\(kd=6->Vc c D<=r/\1<=r):=by
 rcases h with ⟨_,h⟩|⟨h1,_⟩|⟨h1,_⟩|⟨h1,_⟩|⟨h1,_⟩
 ·exact h
 all_goals omega
theorem Mode.fin(h:Mode c D kd r st sm)(hk:kd<=3):Mw c D/\st=0/\sm=0:=by
 rcases h with ⟨h1,_⟩|⟨h1,_⟩|⟨h1,_⟩|⟨h1,_⟩|⟨_,h⟩
 ·omega
 ·omega
 ·omega
 ·omega
 ·exact h
theorem Vc_le:Vc c D<=c:=by
 have:=zAT (f:=fun i=>dr (D i)) (c:=1) (j:=c) fun i _=>by unfold dr;split<;>omega
 unfold Vc;omega
theorem Inv.ends(X:dR S)(h:Inv S c D M ob oc q cl st sm gs w t){a:YP}(sl:Option (Nat×Nat))(ha:gs[0]?=some a)(hk:M.kind=1)(fc:c=S.n)(bO:YV S.E.P true a w=.go a' w #[zvf (.acquire (stA S.Wg))])(ho:S.Out a'):
  ∃ gs' au,runT S.E.P (Y4 gs w sl) 0=(.next (Y4 gs' w sl),au)/\Ends S gs' w (t++au):=by
 have hj:=X.j0;have uB:=h.kw.size;have hW:=X.hW;have hB:S.Wg<w.1.size:=oQ;have cO:=runT_crowd_go (P:=S.E.P) (sl:=sl) (i:=0) ha (show YV S.E.P (0==0) a w=_ from bO);have iI:∀ op∈Zl 0 a.frame.fn a.frame.place #[zvf (.acquire (stA S.Wg))],op.g=0:=fun op hop=>by
  obtain⟨e,_,rfl⟩:=ZJ hop;rfl
 have aW:∀ k,k≠0->∀ x,gs[k]?=some x->((gs.map (ZL S.E.P a a' w)).setIfInBounds 0 a')[k]?=some (ZL S.E.P a a' w x):=fun k hk x hx=>by
  rw[get_map_set _ _ _ _ (fun e=>hk e.symm),hx];rfl
 obtain⟨jP,_,_⟩:=h.mode.fin oQ;have dG:∀ e∈(#[zvf (.acquire (stA S.Wg))]:Array YX),mP S w.1.size e:=fun e he=>by
  simp only[Yn,Yl,Yo,YL]at he;subst he;exact I5 (.inr (.inr (.inr rfl))) hB
 have uD:Deaf t 0=0:=by rw[h.deaf0,hk];rfl
 have yb:=MC X h (w':=w) rfl (fn:=a.frame.fn) (pos:=a.frame.place) dG;have hq:(t++Zl 0 a.frame.fn a.frame.place #[zvf (.acquire (stA S.Wg))])[t.size]?=some {g:=0,fn:=a.frame.fn,pos:=a.frame.place,act:=.mark (.acquire (stA S.Wg))}:=by
  rw[Array.getElem?_append_right lQ];simp[Zl,zvf,Zi]
 refine⟨_,_,cO,a',fun k=>if k<S.j0 then q k else(D (k-S.j0)).fuel,get_map_set_same _ _ _ (by rw[h.size];omega),ho,by simp[h.size,fc],⟨fun k x bW hx=>?_,fun k dB=>?_⟩,?_,h.kw,?_⟩
 ·have aj:=(XY.1 hx).1;simp[h.size]at aj;rcases Ys k S.j0 with hl|hl
  ·obtain⟨g,hg,Fh⟩:=h.old k bW hl;rw[aW k oQ g hg]at hx;cases hx;rw[zuq Fh,YH hl,ZZ t (g':=0) oQ _ iI];exact Fh
  ·obtain⟨g,hg,hs⟩:=h.wk (k-S.j0) oQ;have e:S.j0+(k-S.j0)=k:=oQ;rw[e]at hg;rw[aW k oQ g hg]at hx;cases hx;have h1:=jP (k-S.j0) oQ;have Fh:QuitsD S.E.P (D (k-S.j0)).fuel (D (k-S.j0)).deaf g:=by
    rcases hs with hs|hs|hs|hs|hs|hs|hs|hs|hs|hs|hs|hs|hs|hs
    all_goals first |(have:=hs.1;omega)|exact hs.2
   have qM:=h.deafW (k-S.j0) oQ;rw[e]at qM;rw[zuq Fh,YG oQ,ZZ t (g':=0) oQ _ iI,qM];exact Fh
 ·simp[h.size]at dB;rw[ZZ t (g':=0) oQ _ iI];exact h.pN k dB
 ·refine yb.past (ad:=stA S.Wg) (q:=t.size) (fun k h1 h2=>?_) (MB h.nor fun e he=>(dG e he).2.2) (by rw[act?_of hq]) (by simp[Trace.g?,hq]) ⟨0,by simp[Trace.g?,hq],by rw[deaf_old lQ];exact uD⟩ ?_
  ·obtain⟨r,hr⟩:=h.rel (k-S.j0) oQ (by rw[jP (k-S.j0) oQ];omega);rw[show S.j0+(k-S.j0)=k by omega]at hr;exact⟨r,RelBy.appOther hr iI oQ,lt_of_act? hr.act⟩
  ·rw[Deaf_own,uD];rfl
 ·obtain⟨cs,h1,h2,h3⟩:=h.pay;have eH:cn S M=S.m:=by simp[cn,hk]
  refine⟨cs,h1,h2,fun p hp=>?_⟩;rcases h3 p oQ with h4|⟨i,h4,_,h6⟩
  ·exact h4
  ·have:=jP i h4;omega
theorem Inv.look(X:dR S)(h:Inv S c D M ob oc q cl st sm gs w t){a:YP}{n:Nat}(sl:Option (Nat×Nat))(ha:gs[0]?=some a)(hk:M.kind=8\/(M.kind=7/\n<=M.fuel))(fc:c=S.n)(hw:cL S (AtW1 S) n a):
  ∃ m' au ν,runT S.E.P (Y4 gs w sl) 0=(.next m',au)/\Less (Nx S.E) S.n ν (meas S c D M q)/\gL S ν m' (t++au):=by
 have cB:cl=true:=h.l8.2 oQ;have uB:=h.kw.size;have hW:=X.hW;have hB:S.Wg<w.1.size:=oQ;have ma:=Vc_le (c:=c) (D:=D);obtain⟨m2,m3,m4,_⟩:=h.mode.open_ oQ;have hp:pend M.kind=0:=by unfold pend;rw[YG oQ]
 have E7:8*Vc c D+5<=phi S (Vc c D) M:=by
  unfold phi;rcases hk with e|⟨e,_⟩<;>simp[e]
 have eH:∀ M':MD,M'.kind<=9->cn S M'=cn S M:=fun M' hm=>by
  unfold cn;rw[YG oQ,YG oQ,YG oQ,YG oQ]
 have MX:pM M.kind=1:=by unfold pM;rw[YH oQ]
 rcases iy hw with bR|⟨n',g',es,hn,k1,k2,k3⟩
 ·obtain⟨_,bR⟩:=bR;obtain⟨g',k1,k2,k3⟩:=bR (Vc c D) oQ;have bh:WgAt S.ty S.Wg w ((Vc c D:Nat)*KK) 0:=by
   have:=h.eN;rw[m3,m4,hp]at this;simpa using this
  have dG:∀ e∈(#[rd (stA S.Wg)]:Array YX),mP S w.1.size e:=fun e he=>by
   simp only[Yn,Yl,Yo,YL]at he;subst he;exact Fg rfl hB
  by_cases hv:Vc c D=0
  ·obtain⟨n',gv⟩:=k2 hv;refine h.says X sl ha (k1 w h.kw bh) dG (M':=⟨2,0,n'⟩) (Fi (.inl ⟨rfl,fc,gv⟩)) (by rw[MX];rfl) (eO (.inr ⟨sQ,fun i hi=>?_,?_,m4⟩)) (eH _ sQ) (by rw[cB];simp) sQ (.inl (by simp[phi]at E7⊢;omega))
   ·have:=m2 i hi;have:=T1 hv hi;omega
   ·rw[m3,hp,hv];rfl
  ·obtain⟨n',gv⟩:=k3 hv;refine h.says X sl ha (k1 w h.kw bh) dG (M':=⟨6,Vc c D,n'⟩) (I4 (.inl ⟨rfl,fc,gv⟩)) (by rw[MX];rfl) (.inl ⟨sQ,m2,?_,m4,fun _=>⟨Yp _,tQ⟩⟩) (eH _ sQ) (by rw[cB];simp) sQ (.inl ?_)
   ·rw[m3,hp];rfl
   ·have:phi S (Vc c D) ⟨6,Vc c D,n'⟩=8*Vc c D+4:=by simp[phi]
    omega
 ·refine h.T3 X sl ha k1 k2 (M':=⟨7,0,n'⟩) (MT (.inl ⟨rfl,fc,k3⟩)) (by rw[MX];rfl) (.inl ⟨sQ,m2,?_,m4,fun e=>by simp at e⟩) (eH _ sQ) (by rw[cB];simp) sQ ?_
  ·rw[m3,hp];rfl
  ·have:phi S (Vc c D) ⟨7,0,n'⟩=8*Vc c D+5:=by simp[phi]
   rcases hk with e|⟨e,e'⟩
   ·left;have:phi S (Vc c D) M=8*Vc c D+6:=by simp[phi,e]
    omega
   ·right;have:phi S (Vc c D) M=8*Vc c D+5:=by simp[phi,e]
    exact⟨oQ,tQ⟩
theorem Inv.zeC(X:dR S)(h:Inv S c D M ob oc q cl st sm gs w t){a:YP}(sl:Option (Nat×Nat))(ha:gs[0]?=some a)(cO:a.status=.running):
  (∃ gs' au,runT S.E.P (Y4 gs w sl) 0=(.next (Y4 gs' w sl),au)/\Ends S gs' w (t++au))\/∃ m' au ν,runT S.E.P (Y4 gs w sl) 0=(.next m',au)/\Less (Nx S.E) S.n ν (meas S c D M q)/\gL S ν m' (t++au):=by
 have uB:=h.kw.size;have hW:=X.hW;have hB:S.Wg<w.1.size:=oQ;have ma:=Vc_le (c:=c) (D:=D);obtain⟨a1,xK,hm⟩:=h.main;rw[ha]at xK;cases xK;have jV:=h.mode;have kP:=h.l8;have uD:∀{m:Mark},(m=.disable\/m=.enable\/m=.releaseMerge (stA S.Wg)\/m=.acquire (stA S.Wg))->∀ e∈(#[zvf m]:Array YX),mP S w.1.size e:=fun hm e he=>by
  simp only[Yn,Yl,Yo,YL]at he;subst he;exact I5 hm hB
 have T4:∀ e∈(#[rd (stA S.Wg)]:Array YX),mP S w.1.size e:=fun e he=>by
  simp only[Yn,Yl,Yo,YL]at he;subst he;exact Fg rfl hB
 have Ck:∀ e∈(#[rd (stA S.Wg),wr (stA S.Wg)]:Array YX),mP S w.1.size e:=fun e he=>by
  simp only[Yn,Yl,Yo,YL]at he;rcases he with rfl|rfl<;>exact Fg rfl hB
 have lv:∀ e∈zsM (smA S.Wg),mP S w.1.size e:=fun e he=>by
  simp only[zsM,Yn,Yl,Yo,YL]at he;rcases he with rfl|rfl|rfl|rfl
  ·exact I5 (.inl rfl) hB
  ·exact Fg rfl hB
  ·exact Fg rfl hB
  ·exact I5 (.inr (.inl rfl)) hB
 have pO:∀{a':YP}{es:Array YX}{n:Nat},(∀ w,KW S w->YV S.E.P true a w=.go a' w es)->(∀ e∈es,wu S e)->lz S ⟨M.kind,M.r,n⟩ c a'->n<M.fuel->M.kind≠11->
   ∃ m' au ν,runT S.E.P (Y4 gs w sl) 0=(.next m',au)/\Less (Nx S.E) S.n ν (meas S c D M q)/\gL S ν m' (t++au):=fun k1 k2 k3 k4 k5=>
  h.T3 X sl ha k1 k2 k3 rfl jV rfl kP k5 (.inr ⟨rfl,k4⟩)
 rcases hm with ⟨h1,h2,h3,hw⟩|⟨h1,h2,h3,hw⟩|⟨h1,h2,h3,hw⟩|⟨h1,h2,h3,hw⟩|⟨h1,h2,h3,f,hf,hw⟩|⟨h1,_,_,g,_,_,rfl⟩|⟨h1,h2,hw⟩|⟨h1,h2,hw⟩|⟨h1,h2,hw⟩|⟨h1,h2,hw⟩|⟨h1,h2,hw⟩|⟨h1,h2,f,hf,hw⟩|⟨h1,_,g,_,_,rfl⟩|⟨h1,h2,hw⟩|⟨h1,h2,hw⟩|⟨h1,h2,hw⟩
 ·
  right;rcases iy hw with bR|⟨n,g',es,hn,k1,k2,k3⟩
  ·obtain⟨_,g',k1,n,hn⟩:=bR;obtain⟨m2,m3,m4,_⟩:=jV.open_ oQ;exact h.says X sl ha (k1 w h.kw) (uD (.inl rfl)) (M':=⟨15,M.r,n⟩) (.inr (.inl ⟨rfl,h2,h3,hn⟩)) (by rw[h1];rfl) (.inl ⟨sQ,m2,by rw[m3,h1];rfl,m4,fun e=>by simp at e⟩) (by simp[cn,h1]) (by rw[kP,h1];simp) sQ (.inl (by simp[phi,h1]))
  ·exact pO k1 k2 (n:=n) (.inl ⟨h1,h2,h3,k3⟩) oQ oQ
 ·
  right;rcases iy hw with bR|⟨n,g',es,hn,k1,k2,k3⟩
  ·obtain⟨_,bR⟩:=bR;obtain⟨m2,m3,m4,_⟩:=jV.open_ oQ;obtain⟨g',k1,n,hn⟩:=bR (Vc c D) oQ;have bh:WgAt S.ty S.Wg w ((Vc c D:Nat)*KK) 0:=by
    have:=h.eN;rw[m3,m4,h1]at this;simpa[pend]using this
   exact h.turns X sl ha (k1 w h.kw bh) rfl (bh.setSt _) Ck (M':=⟨14,M.r,n⟩) (.inr (.inr (.inl ⟨rfl,h2,h3,hn⟩))) (by rw[h1];rfl) (.inl ⟨sQ,m2,by simp[pend],rfl,fun e=>by simp at e⟩) (by simp[cn,h1]) (by rw[kP,h1];simp) sQ (.inl (by simp[phi,h1]))
  ·exact pO k1 k2 (n:=n) (.inr (.inl ⟨h1,h2,h3,k3⟩)) oQ oQ
 ·
  right;rcases iy hw with bR|⟨n,g',es,hn,k1,k2,k3⟩
  ·obtain⟨_,g',k1,n,hn⟩:=bR;obtain⟨m2,m3,m4,_⟩:=jV.open_ oQ;exact h.says X sl ha (k1 w h.kw) (uD (.inr (.inl rfl))) (M':=⟨13,M.r,n⟩) (eO (.inl ⟨rfl,h2,h3,hn⟩)) (by rw[h1];rfl) (.inl ⟨sQ,m2,by rw[m3,h1];rfl,m4,fun e=>by simp at e⟩) (by simp[cn,h1]) (by rw[kP,h1];simp) sQ (.inl (by simp[phi,h1]))
  ·exact pO k1 k2 (n:=n) (.inr (.inr (.inl ⟨h1,h2,h3,k3⟩))) oQ oQ
 ·
  right;rcases iy hw with bR|⟨n,g',es,hn,k1,k2,k3⟩
  ·obtain⟨_,g',x,k1,_,⟨n,hn⟩,k2⟩:=bR;exact h.spawn X sl ha h1 (eO (.inl ⟨h1,h2,h3,hw⟩)) (k1 w h.kw) hn k2
  ·exact pO k1 k2 (n:=n) (eO (.inl ⟨h1,h2,h3,k3⟩)) oQ oQ
 ·
  right;rcases iy hw with bR|⟨n,g',es,hn,k1,k2,k3⟩
  ·exact h.send X sl ha h1 h3 h2 oQ bR
  ·exact pO k1 k2 (n:=n+1) (wF (.inl ⟨h1,h2,h3,n,rfl,k3⟩)) oQ oQ
 ·cases cO
 ·
  right;rcases iy hw with bR|⟨n,g',es,hn,k1,k2,k3⟩
  ·obtain⟨_,hmw,g',bh,k1,n,hn⟩:=bR;obtain⟨s,r,dm⟩:=h.ly;have cB:=h.open_ oQ;rw[cB]at dm;exact h.close X sl ha h1 hmw bh dm (k1 w s r h.kw dm) hn
  ·exact pO k1 k2 (n:=n) (ux (.inl ⟨h1,h2,k3⟩)) oQ oQ
 ·
  right;rcases iy hw with bR|⟨n,g',es,hn,k1,k2,k3⟩
  ·obtain⟨_,g',k1,n,hn⟩:=bR;obtain⟨m2,m3,m4,_⟩:=jV.open_ oQ;exact h.says X sl ha (k1 w h.kw) (uD (.inl rfl)) (M':=⟨8,M.r,n⟩) (Fe (.inl ⟨rfl,h2,hn⟩)) (by rw[h1];rfl) (.inl ⟨sQ,m2,by rw[m3,h1];rfl,m4,fun e=>by simp at e⟩) (by simp[cn,h1]) (by rw[kP,h1];simp) sQ (.inl (by simp[phi,h1];omega))
  ·exact pO k1 k2 (n:=n) (I1 (.inl ⟨h1,h2,k3⟩)) oQ oQ
 ·
  right;rcases iy hw with bR|⟨n,g',es,hn,k1,k2,k3⟩
  ·obtain⟨_,n,hn⟩:=X.aw a bR;exact h.look X sl ha (.inl h1) h2 hn
  ·exact pO k1 k2 (n:=n) (Fe (.inl ⟨h1,h2,k3⟩)) oQ oQ
 ·
  right;exact h.look X sl ha (.inr ⟨h1,Yp _⟩) h2 hw
 ·
  right;rcases iy hw with bR|⟨n,g',es,hn,k1,k2,k3⟩
  ·obtain⟨_,bR⟩:=bR;obtain⟨m2,m3,m4,m5⟩:=jV.open_ oQ;obtain⟨m5,m6⟩:=m5 h1;obtain⟨k1,k2⟩:=bR (Vc c D) oQ;have bh:WgAt S.ty S.Wg w ((Vc c D:Nat)*KK) 0:=by
    have:=h.eN;rw[m3,m4,h1]at this;simpa[pend]using this
   by_cases hv:Vc c D=M.r
   ·obtain⟨g',k3,n,hn⟩:=k1 hv;exact h.turns X sl ha (k3 w h.kw bh) rfl (bh.setSt _) Ck (M':=⟨5,0,n+1⟩) (E0 (.inl ⟨rfl,h2,n,rfl,hn⟩)) (by rw[h1];rfl) (.inr (.inl ⟨.inl rfl,m2,oQ,rfl,rfl⟩)) (by simp[cn,h1]) (by rw[kP,h1];simp) sQ (.inl (by simp[phi,h1];omega))
   ·obtain⟨g',k3,n,hn⟩:=k2 hv;exact h.says X sl ha (k3 w h.kw bh) T4 (M':=⟨8,M.r,n⟩) (Fe (.inl ⟨rfl,h2,hn⟩)) (by rw[h1];rfl) (.inl ⟨sQ,m2,by rw[m3,h1];rfl,m4,fun e=>by simp at e⟩) (by simp[cn,h1]) (by rw[kP,h1];simp) sQ (.inl (by simp[phi,h1];omega))
  ·exact pO k1 k2 (n:=n) (I4 (.inl ⟨h1,h2,k3⟩)) oQ oQ
 ·
  right;rcases iy hw with bR|⟨n,g',es,hn,k1,k2,k3⟩
  ·have zeD:=bR;obtain⟨_,_,k1,g',k2,n,hn⟩:=bR;have qw:∀{kt:Int},WgAt S.ty S.Wg w kt 0->Mode c D 4 M.r st sm->∃ m' au ν,runT S.E.P (Y4 gs w sl) 0=(.next m',au)/\Less (Nx S.E) S.n ν (meas S c D M q)/\gL S ν m' (t++au):=fun {kt} bh gY=>
    h.says X sl ha (k1 w h.kw kt bh) (fun e he=>by simp at he) (M':=⟨4,M.r,0⟩) (Ah (.inl ⟨rfl,h2,a,rfl,zeD,rfl⟩)) (by rw[h1];rfl) gY (by simp[cn,h1]) (by rw[kP,h1];simp) sQ (.inr ⟨by simp[phi,h1],tQ⟩)
   have hg:=h.eN;rcases jV with ⟨m1,_⟩|⟨m1,m2,m3,m4,m5⟩|⟨m1,m2,m3⟩|⟨m1,m2,m3,m4⟩|⟨m1,_⟩
   ·omega
   ·rw[m5]at hg;exact qw hg (.inr (.inl ⟨.inr rfl,m2,m3,m4,m5⟩))
   ·rw[m2]at hg;exact qw hg (.inr (.inr (.inl ⟨.inr rfl,m2,m3⟩)))
   ·rw[m3,m4]at hg;exact h.turns X sl ha (k2 w h.kw hg) rfl (hg.setSm _) lv (M':=⟨3,0,n⟩) (T5 (.inl ⟨rfl,h2,hn⟩)) (by rw[h1];rfl) (eO (.inr ⟨sQ,m2,rfl,rfl⟩)) (by simp[cn,h1]) (by rw[kP,h1];simp) sQ (.inl (by simp[phi,h1]))
   ·omega
  ·exact pO k1 k2 (n:=n+1) (E0 (.inl ⟨h1,h2,n,rfl,k3⟩)) oQ oQ
 ·cases cO
 ·
  right;rcases iy hw with bR|⟨n,g',es,hn,k1,k2,k3⟩
  ·obtain⟨_,g',k1,n,hn⟩:=bR;obtain⟨m1,m2,m3⟩:=jV.fin oQ;have hg:=h.eN;rw[m2,m3]at hg;exact h.says X sl ha (k1 w h.kw hg) T4 (M':=⟨2,0,n⟩) (Fi (.inl ⟨rfl,h2,hn⟩)) (by rw[h1];rfl) (eO (.inr ⟨sQ,m1,m2,m3⟩)) (by simp[cn,h1]) (by rw[kP,h1];simp) sQ (.inl (by simp[phi,h1]))
  ·exact pO k1 k2 (n:=n) (T5 (.inl ⟨h1,h2,k3⟩)) oQ oQ
 ·
  right;rcases iy hw with bR|⟨n,g',es,hn,k1,k2,k3⟩
  ·obtain⟨_,g',k1,n,hn⟩:=bR;obtain⟨m1,m2,m3⟩:=jV.fin oQ;exact h.says X sl ha (k1 w h.kw) (uD (.inr (.inl rfl))) (M':=⟨1,0,n⟩) (Fi (.inr ⟨rfl,h2,hn⟩)) (by rw[h1];rfl) (eO (.inr ⟨sQ,m1,m2,m3⟩)) (by simp[cn,h1]) (by rw[kP,h1];simp) sQ (.inl (by simp[phi,h1]))
  ·exact pO k1 k2 (n:=n) (Fi (.inl ⟨h1,h2,k3⟩)) oQ oQ
 ·
  rcases iy hw with bR|⟨n,g',es,hn,k1,k2,k3⟩
  ·obtain⟨_,g',k1,k2⟩:=bR;exact .inl (h.ends X sl ha h1 h2 (k1 w h.kw) k2)
  ·exact .inr (pO k1 k2 (n:=n) (Fi (.inr ⟨h1,h2,k3⟩)) oQ oQ)
end
open Go.ConcR (KK WgAt stA smA rd wr)
section
variable {S:Sc}{c:Nat}{D:Nat->WD}{M:MD}{ob oc q:Nat->Nat}{cl:Bool}{st sm:Int}{gs:Array YP}{w:YM}{t:Y6}
theorem Inv.zeE(X:dR S)(h:Inv S c D M ob oc q cl st sm gs w t)(bW:0<k)(vT:k<S.j0){g:YP}(sl:Option (Nat×Nat))(hg:gs[k]?=some g)(cO:g.status=.running):
  ∃ m' au ν,runT S.E.P (Y4 gs w sl) k=(.next m',au)/\Less (Nx S.E) S.n ν (meas S c D M q)/\gL S ν m' (t++au):=by
 obtain⟨g1,eY,hq⟩:=h.old k bW vT;rw[hg]at eY;cases eY;generalize hn:q k=n at hq;cases n with
 |zero=>
  rw[hq.1]at cO;cases cO
 |succ n=>
  rcases hq with ⟨hq,_⟩|⟨_,g',es,k1,k2,k3⟩
  ·rw[hq]at cO;cases cO
  ·have hb:(k==0)=false:=tQ;have MZ:=runT_crowd_go (P:=S.E.P) (sl:=sl) (i:=k) hg (by rw[hb];exact k2 w);have iI:∀ op∈Zl k g.frame.fn g.frame.place es,op.g=k:=fun op hop=>by
    obtain⟨e,_,rfl⟩:=ZJ hop;rfl
   have I6:∀ op∈Zl k g.frame.fn g.frame.place es,op.act.touch?=none/\(∀ B,op.act.low B)/\op.act≠.mark (.release (stA S.Wg)):=fun op hop=>by
    obtain⟨e,he,rfl⟩:=ZJ hop;refine⟨touch_mute (k1 e he),fun B=>low_mute (k1 e he) B,?_⟩;have hmu:=k1 e he;intro hx;obtain⟨loc,wr,sy⟩:=e;cases loc with
    |mark m=>
     simp only[Zi,MemAct.mark.injEq]at hx;subst hx;cases hmu
    |obj c=>cases wr<;>cases sy<;>simp[Zi]at hx
    |_=>simp[Zi]at hx
   obtain⟨s,r,fc⟩:=h.ly;obtain⟨a,ha,hm⟩:=h.main;obtain⟨M',cq,qK,_⟩:=hm.woken X g g' fc h.l8;have ku:cn S M'=cn S M:=TH S qK;have jW:M'.kind=M.kind\/(M.kind=4/\M'.kind=5):=by
    rcases qK with rfl|⟨h1,_,rfl⟩
    ·exact .inl rfl
    ·exact .inr ⟨h1,rfl⟩
   have B7:M'.r=M.r:=by
    rcases qK with rfl|⟨_,_,rfl⟩<;>rfl
   have Q6:M'.fuel<=M.fuel+1:=by
    rcases qK with rfl|⟨_,_,rfl⟩
    ·omega
    ·simp
   have aW:∀ k',k'≠k->∀ x,gs[k']?=some x->((gs.map (ZL S.E.P g g' w)).setIfInBounds k g')[k']?=some (ZL S.E.P g g' w x):=fun k' hk x hx=>by
    rw[get_map_set _ _ _ _ (fun e=>hk e.symm),hx];rfl
   have I7:∀ k',k'≠k->Deaf (t++Zl k g.frame.fn g.frame.place es) k'=Deaf t k':=fun k' dB=>ZZ t (g':=k) (fun e=>dB e.symm) _ iI
   refine⟨_,_,meas S c D M' (upd q k n),MZ,?_,c,D,M',ob,oc,upd q k n,cl,st,sm,_,w,sl,rfl,⟨?_,?_,?_,?_,?_,?_,?_,h.kw,?_,h.jU,?_,?_,?_,?_,h.eN,?_,h.ly,?_,h.opn,?_,?_,?_,h.acc⟩,rfl⟩
   ·have e1:sumTo S.j0 (upd q k n)+q k=sumTo S.j0 q+n:=sumTo_upd q n (fun x=>x) vT;unfold Less meas;simp only[ku,TI S _ qK];right;exact⟨by first |rfl|trivial,.inr ⟨by first |rfl|trivial,oQ⟩⟩
   ·simp[h.size]
   ·exact⟨_,aW 0 oQ a ha,cq⟩
   ·intro k' zeF zeG;by_cases iw:k'=k
    ·subst iw;rw[upd_same,Deaf_own];exact⟨g',get_map_set_same _ _ _ (by rw[h.size];omega),k3⟩
    ·obtain⟨x,hx,T6⟩:=h.old k' zeF zeG;refine⟨_,aW k' iw x hx,?_⟩;rw[zuq T6,upd_ne q n iw,I7 k' iw];exact T6
   ·intro i' aN;obtain⟨x,hx,hs⟩:=h.wk i' aN;refine⟨_,aW _ oQ x hx,?_⟩;rw[hs.woken X g g' fc];exact hs
   ·rw[I7 0 oQ,h.deaf0];rcases jW with h1|⟨h1,h2⟩
    ·rw[h1]
    ·rw[h1,h2];rfl
   ·intro i' aN;rw[I7 _ oQ];exact h.deafW i' aN
   ·intro k' dB;rw[I7 _ oQ];exact h.pN k' dB
   ·have:=Tr.H9 (Zl k g.frame.fn g.frame.place es).toList h.tr fun y hy=>by
     have hy:y∈Zl k g.frame.fn g.frame.place es:=by simpa using hy
     exact⟨by rw[iI y hy];omega,(I6 y hy).2.1 _,(I6 y hy).1⟩
    simpa using this
   ·rw[ku];exact h.qJ
   ·rw[ku];intro op hop b hb p' nD ad h1 h2;rcases zr3.1 hop with hop|hop
    ·exact h.sw op hop b hb p' nD ad h1 h2
    ·rw[(I6 op hop).1]at hb;cases hb
   ·intro i' aN hs;obtain⟨r,hr⟩:=h.rel i' aN hs;exact⟨r,RelBy.appOther hr iI oQ⟩
   ·exact zvq h.nor fun op hop=>(I6 op hop).2.2
   ·rw[B7];rcases jW with h1|⟨h1,h2⟩
    ·rw[h1];exact h.mode
    ·have:=h.mode;rw[h1]at this;rw[h2];exact this.ML
   ·rw[h.l8];rcases jW with h1|⟨h1,h2⟩<;>omega
   ·rw[ku];exact h.pay
   ·rw[ku];exact h.oI
   ·intro e;exact h.B6 oQ
theorem Inv.at(h:Inv S c D M ob oc q cl st sm gs w t)(d:Nat):Inv S c D M ob oc q cl st sm gs (w.at d) t where
 size:=h.size
 main:=h.main
 old:=h.old
 wk i hi:=by
  obtain⟨g,hg,hs⟩:=h.wk i hi;exact⟨g,hg,hs.other (Ch.at (fun _=>False) w d) (fun _ hb=>hb.elim) (fun _ _ hb=>hb.elim) fun _ _ he=>he⟩
 deaf0:=h.deaf0
 deafW:=h.deafW
 pN:=h.pN
 kw:=h.kw.at d
 tr:=h.tr
 jU:=h.jU
 qJ:=h.qJ
 sw:=h.sw
 rel:=h.rel
 nor:=h.nor
 eN:=h.eN
 mode:=h.mode
 ly:=h.ly
 l8:=h.l8
 opn:=h.opn
 pay:=h.pay
 oI:=h.oI
 B6:=h.B6
 acc:=h.acc
end
theorem zeH{S:Sc}(X:dR S)(μ:Nat×(Nat->jB)×Nat)(m:Machine)(t:Y6)(h:gL S μ m t):
  (∃ gs' w' sl' au,stepT S.E.P m=(.next (Y4 gs' w' sl'),au)/\Ends S gs' w' (t++au))\/∃ m' au ν,stepT S.E.P m=(.next m',au)/\Less (Nx S.E) S.n ν μ/\gL S ν m' (t++au):=by
 obtain⟨c,D,M,ob,oc,q,cl,st,sm,gs,w,sl,rfl,h,rfl⟩:=h;obtain⟨haw,BH⟩:=h.awake X;obtain⟨k,g,d,sl',hg,cO,lx⟩:=crowd_pick (P:=S.E.P) (w:=w) (sl:=sl) haw BH;rw[lx];have h':=h.at d;have hj:=X.j0;have aj:=(XY.1 hg).1;rw[h.size]at aj;rcases zst k with rfl|nJ
 ·rcases h'.zeC X sl' hg cO with ⟨gs',au,h1,h2⟩|h1
  ·exact .inl ⟨gs',_,sl',au,h1,h2⟩
  ·exact .inr h1
 ·rcases Ys k S.j0 with hl|hl
  ·exact .inr (h'.zeE X nJ hl sl' hg cO)
  ·have e:S.j0+(k-S.j0)=k:=oQ;rw[<-e]at hg⊢;rcases Ys 16 (D (k-S.j0)).stage with sA|sA
   ·exact .inr (h'.upper X oQ sl' hg cO sA)
   ·exact .inr (h'.lower X oQ sl' hg cO sA)
theorem zeI{S:Sc}(X:dR S){μ:Nat×(Nat->jB)×Nat}{m:Machine}{t:Y6}(h:gL S μ m t):∃ N gs' w' sl' t',runNT S.E.P N m t=(.next (Y4 gs' w' sl'),t')/\Ends S gs' w' t':=by
 have hG:∀{μ m t},gL S μ m t->∀ i,Acc (Nx S.E) (μ.2.1 i):=fun h=>by
  obtain⟨c,D,M,ob,oc,q,cl,st,sm,gs,w,sl,rfl,h,rfl⟩:=h;exact h.acc
 have hwf:=zek (r:=Nx S.E) (n:=S.n) (fun x=>∀ i,Acc (Nx S.E) (x.2.1 i)) fun x hx i _=>hx i
 have key:∀ x:{x:Nat×(Nat->jB)×Nat // ∀ i,Acc (Nx S.E) (x.2.1 i)},∀ m t,gL S x.1 m t->∃ N gs' w' sl' t',runNT S.E.P N m t=(.next (Y4 gs' w' sl'),t')/\Ends S gs' w' t':=fun x=>by
  induction x using hwf.induction with
  |h x ih=>
   intro m t h;rcases zeH X x.1 m t h with ⟨gs',w',sl',au,h1,h2⟩|⟨m',au,ν,h1,h2,h3⟩
   ·exact⟨1,gs',w',sl',t++au,by simp[runNT,h1],h2⟩
   ·obtain⟨N,gs',w',sl',t',k1,k2⟩:=ih ⟨ν,hG h3⟩ h2 m' (t++au) h3;exact⟨N+1,gs',w',sl',t',by simp only[runNT,h1];exact k1,k2⟩
 exact key ⟨μ,hG h⟩ m t h
theorem zeJ{S:Sc}(X:dR S){gs:Array YP}{a:YP}{t:Y6}{q:Nat->Nat}{B:Nat}(sl:Option (Nat×Nat))(bm:gs.size=S.j0)(ha:gs[0]?=some a)(hL:Leavers S.E.P t gs q)(hP:Past S.Shun B t)(hB:B<=S.w0.1.size)(hWB:B<=S.Wg)(Ln:S.s0=t.size)
  (hAn:∀ op∈t,∀ a,op.act.touch?=some a->∀ ad:YQ,ad.block=S.An->a.loc≠.cell ad) (uw:KW S S.w0) (M0:WgAt S.ty S.Wg S.w0 0 0)  (dm:S.w0.1[S.Cn]?=some (.chan 0 #[] false s r false)) (hm:nI S S.n a):
  ∃ N gs' w' sl' t',runNT S.E.P N (Y4 gs S.w0 sl) t=(.next (Y4 gs' w' sl'),t')/\Ends S gs' w' t':=by
 have hj:=X.j0;have hn:=X.hn;obtain⟨M,hM,eH,_,jW⟩:=TP hm lQ;rw[zsw]at hM;have M3:M.kind=16:=by
  have:=hM.range.2.2.2.1;omega
 refine zeI X (μ:=_) ⟨0,fun _=>⟨1,0,0,0,([],#[])⟩,M,fun _=>0,fun _=>0,q,false,0,0,gs,S.w0,sl,rfl,⟨oQ,⟨a,ha,hM⟩,fun k h1 h2=>?_,fun i hi=>oQ,?_,fun i hi=>oQ,fun k hk=>hL.above k oQ,uw,?_,fun b hb=>absurd rfl hb,fun _ _=>rfl,fun op hop b hb p _ ad h1 _=>hAn op hop b hb ad h1,fun i hi=>oQ,?_,M0,?_,⟨s,r,dm⟩,?_,fun _ i hi=>oQ,?_,fun i hi=>oQ,fun e=>oQ,fun i=>Acc.intro _ fun y hy=>absurd rfl hy.1⟩,rfl⟩
 ·have aj:k<gs.size:=oQ;exact⟨gs[k],XW aj,hL.old k _ h1 (XW aj)⟩
 ·rw[hP.hears,M3];rfl
 ·have h1:=Tr.zcg (Sh:=S.Sh) (Rd:=S.Rd) hP hj (by
   rintro l ⟨ad,rfl,h1⟩ h2;have h2:ad.block<B:=h2;omega)
  have h2:Tr S.Sh S.Shun S.Rd (fun _ _=>False) S.s0 S.j0 (S.j0+0) B t:=by rw[Ln];exact h1
  refine(h2.give (fun k l hf=>hf.elim) fun k l hl=>?_).more hB;obtain⟨hk,⟨ad,rfl,⟨_,h1⟩|⟨_,h1⟩⟩|⟨b,rfl,h1⟩⟩:=hl<;>exact absurd h1.symm hk
 ·intro i hi;obtain⟨op,hop,he⟩:=Yx.1 hi;have:=hP.seen op (Go.Conc.mem_of_getElem? hop);rw[he]at this;have h2:S.Wg<B:=this;omega
 ·refine .inl ⟨oQ,fun i hi=>oQ,?_,rfl,fun e=>oQ⟩;rw[M3];rfl
 ·rw[M3];simp
 ·obtain⟨cs,h1,h2⟩:=uw.pay;exact⟨cs,h1,h2,fun p hp=>oQ⟩
open Go.Extern
structure Ai(E:Env):Prop where
 r:∃ t,E.K t=true/\∀ w es,(cutType "internal/reflectlite.rtype").runT E.P w es=(.ok t w,es)
 v:∃ t e,E.K t=true/\(∀ w es,(cutType "*internal/reflectlite.ValueError").runT E.P w es=(.ok t w,es))/\∀ w es,(elemOf t).runT E.P w es=(.ok e w,es)
section
variable {E:Env}{f:Nat->Nat}{n:Nat}
theorem M4{α β:Type}{Q:Nat->β->β->Prop}{t:Sem α}{a:α}{g g':α->Sem β}(h:∀ w es,t.runT E.P w es=(.ok a w,es))(hg:aa E f n Q (g a) (g' a)):aa E f n Q (t >>= g) (t >>= g'):=by
 have h1:aa E f n (fun _ x x'=>x=a/\x'=a) t t:=by
  intro hl w hr hn bG;exact aa.good [] (a:=a) (a':=a) #[] lQ ⟨rfl,rfl⟩ (.refl hr) (fun v es hv _=>⟨es,by rw[h v es];subst hv;rfl⟩) (fun es=>by rw[h w es,XV])
 refine h1.bind fun m x x' hm hx=>?_
 obtain⟨rfl,rfl⟩:=hx;exact hg.mono hm fun _ _ _ _ h=>h
theorem zeK(F:Fit E f)(H:bD E)(h:YN):zxy E.P (rV f h)=zxy E.P h:=by
 cases h with
 |pointer a=>
  cases a with
  |none=>rw[rV];rfl
  |some a=>
   rw[rV];show(if(f a.block==E.P.globals.size)=true then some a.off else none)=(if(a.block==E.P.globals.size)=true then some a.off else none);have hg:=F.low _ (F.ro _ H.g);have:(f a.block==E.P.globals.size)=(a.block==E.P.globals.size):=by
    rw[X7];simp only[YB];constructor
    ·intro e;exact F.inj _ _ (e.trans hg.symm)
    ·intro e;rw[e,hg]
   rw[this]
 |_=>simp[rV,zxy]
theorem M5(F:Fit E f)(H:bD E)(h:YN):aa E f n EQ (zuf h) (zuf (rV f h)):=by
 unfold zuf;refine aa.program ?_;rw[zeK F H h];cases zxy E.P h with
 |none=>exact aa.stuck
 |some t=>exact aa.pure fun _ _=>rfl
theorem I8(s:String)(t:YT):Calm E (zzv s t):=by
 unfold zzv;exact .program (.ite (.unsupported sQ) (.pure _))
theorem zeL(s:String)(t:YT):Calm E (zBW s t):=by
 unfold zBW;exact .program (.program (.ite (.unsupported sQ) (.pure _)))
theorem Fj(s:String)(t:YT):Calm E (zBV s t):=by
 unfold zBV;exact .program (.program (.ite (.unsupported sQ) (.pure _)))
theorem M6(t:YT):Calm E (Rtype.spelt t):=(zeL _ t).bind fun _=>RO t
theorem Cl(t:YT):Calm E (Rtype.under t):=by
 unfold Rtype.under;refine(sg t).bind fun i=>?_
 cases i.desc<;>first |exact .pure _|exact(sg _).bind fun _=>.pure _
theorem I9(t:YT):Calm E (zuP t):=by
 unfold zuP;refine(Cl t).bind fun p=>?_
 obtain⟨_,i⟩:=p;dsimp only;cases i.desc with
 |int k=>cases k<;>exact .pure _
 |float k=>cases k<;>exact .pure _
 |complex k=>cases k<;>exact .pure _
 |_=>first |exact .pure _|exact .stuck _
theorem T7(t:YT):Calm E (zBU t):=by
 unfold zBU;refine(sg t).bind fun i=>?_
 cases i.desc<;>exact .pure _
theorem T8(t:YT):Calm E (Rtype.elem? t):=by
 unfold Rtype.elem?;refine(Cl t).bind fun p=>?_
 cases p.2.desc<;>exact .pure _
theorem M7(t u:YT):Calm E (zzu t u):=by
 unfold zzu;refine(Fj _ _).bind fun _=>(Fj _ _).bind fun _=>(Cl t).bind fun p=>(Cl u).bind fun q=>?_
 cases p.2.desc with
 |interface zb3=>
  cases q.2.desc with
  |interface got=>exact .pure _
  |_=>exact(sg u).bind fun _=>.pure _
 |_=>exact .pure _
theorem T9(t u:YT):Calm E (zxo t u):=by
 unfold zxo;refine .ite (.pure _) ?_;refine(T7 t).bind fun a=>(T7 u).bind fun b=>.ite (.pure _) ?_
 refine(Cl t).bind fun p=>?_
 obtain⟨p1,p2⟩:=p;refine(Cl u).bind fun q=>?_
 obtain⟨q1,q2⟩:=q;dsimp only;split<;>exact .pure _
theorem Ua(F:Fit E f)(H:bD E)(t:YT)(m:Nat):rV f (typeHandle E.P t)=typeHandle E.P t/\ah E m (typeHandle E.P t):=⟨(xR F H t m).1.symm,(xR F H t m).2⟩
theorem M8(F:Fit E f)(H:bD E)(Y:Ai E)(t:YT):aa E f n (VQ E f) (zuL t) (zuL t):=by
 obtain⟨t0,hK,hc⟩:=Y.r;unfold zuL;refine M4 hc ?_;unfold zBT;rw[bind_assoc];refine aa.program ?_;rw[pure_bind];refine aa.pure fun m _=>?_
 obtain⟨h1,h2⟩:=Ua (E:=E) F H t m;refine⟨?_,?_⟩
 ·rw[rV,rV];simp[h1]
 ·rw[ah,ah];refine⟨hK,fun x hx=>?_⟩;simp only[Yn,Yl,Yo,YL]at hx;subst hx;exact h2
theorem Co{α:Type}{Q:Nat->α->α->Prop}(Y:Ai E)(s:String)(k:Nat):aa E f n Q (Z6 s k) (Z6 s k):=by
 obtain⟨t0,e0,hK,hc,he⟩:=Y.v;unfold Z6;refine M4 hc (M4 he ?_);have hp:qA (.agg #[strVal s,.int .u8 (zvU k)])=true:=by simp[qA,jA,strVal]
 have h1:=BV (f:=f) (Eo (E:=E) (n:=n) hp) e0;rw[En hp]at h1;refine h1.bind fun m a a' hm ha=>?_
 obtain⟨rfl,hI⟩:=ha;have:=aa.goPanic (E:=E) (f:=f) (n:=m) (Q:=Q) (v:=.iface t0 (.pointer (some a))) (by rw[ah,ah];exact⟨hK,.inl hI⟩);rw[rV,rV]at this;exact this
def M9(E:Env)(f:Nat->Nat)(m:Nat)(x x':Option (YT×YQ×Nat)):Prop:=x'=x.map (fun p=>(p.1,rA f p.2.1,p.2.2))/\∀ t a k,x=some (t,a,k)->E.A m a.block
theorem Ub(F:Fit E f)(H:bD E){x:YN}(hx:ah E n x):aa E f n (M9 E f) (zzq x) (zzq (rV f x)):=by
 cases x with
 |agg cs=>
  obtain⟨l⟩:=cs;rw[rV,Yk];rw[ah]at hx;match l with
  |[]=>exact aa.stuck
  |[_]=>exact aa.stuck
  |[_,_]=>exact aa.stuck
  |_::_::_::_::_=>exact aa.stuck
  |[h,p,q]=>
   rw[Yi,Yi,Yi,Yj];have hp:ah E n p:=hx p sQ;have fin:∀ a (z:Nat),p=.pointer (some a)->aa E f n (M9 E f) (zuf h >>= fun t=>YZ (some (t,a,z))) (zuf (rV f h) >>= fun t=>YZ (some (t,rA f a,z))):=fun a z e=>by
    subst e;rw[ah]at hp;refine(M5 F H h).bind fun m t t' hm ht=>?_
    obtain rfl:=ht;exact aa.pure fun m2 aK=>⟨rfl,fun _ _ _ h=>by cases h;exact Env.A.mono hp (Yq hm aK)⟩
   cases q with
   |int k z=>
    rw[rV];cases k with
    |u64=>
     cases z with
     |ofNat z=>
      cases z with
      |zero=>exact aa.pure fun _ _=>⟨rfl,fun _ _ _ h=>by cases h⟩
      |succ z=>
       cases p with
       |pointer a=>
        cases a with
        |none=>exact aa.stuck
        |some a=>rw[rV];exact fin a (z+1) rfl
       |_=>exact aa.stuck
     |negSucc z=>
      cases p with
      |pointer a=>
       cases a with
       |none=>exact aa.stuck
       |some a=>rw[rV];exact fin a 0 rfl
      |_=>exact aa.stuck
    |_=>
     cases p with
     |pointer a=>cases a<;>exact aa.stuck
     |_=>exact aa.stuck
   |_=>
    cases p with
    |pointer a=>cases a<;>exact aa.stuck
    |_=>exact aa.stuck
 |_=>exact aa.stuck
theorem Na(F:Fit E f)(H:bD E){x:YN}(hx:ah E n x):aa E f n (M9 E f) (ztm x) (ztm (rV f x)):=by
 unfold ztm;refine(Ub F H hx).bind fun m p p' hm hp=>?_
 obtain⟨rfl,hA⟩:=hp;cases p with
 |none=>exact aa.pure fun _ _=>⟨rfl,fun _ _ _ h=>by cases h⟩
 |some p=>
  obtain⟨t,a,k⟩:=p;dsimp only[Option.map_some];refine aa.same (I8 _ _) fun _=>?_
  exact aa.pure fun m2 aK=>⟨rfl,fun _ _ _ h=>by cases h;exact(hA t a k rfl).mono aK⟩
theorem Fl{g:YN->Sem YN}{k:Array YN->Sem YN}(h1:∀ v,k #[v]=g v)(h0:k #[]=stuck "x"\/∃ s,k #[]=stuck s)(h2:∀ a b l,∃ s,k (a::b::l).toArray=stuck s)(ha:bj E n args)(hg:∀ v,ah E n v->aa E f n (VQ E f) (g v) (g (rV f v))):aa E f n (VQ E f) (k args) (k (args.map (rV f))):=by
 obtain⟨l⟩:=args;match l with
 |[]=>
  rcases h0 with h|⟨s,h⟩
  ·show aa E f n _ (k #[]) _;rw[h];exact aa.stuck
  ·show aa E f n _ (k #[]) _;rw[h];exact aa.stuck
 |[v]=>
  rw[Yk,Yi,Yj];show aa E f n _ (k #[v]) (k #[rV f v]);rw[h1,h1];exact hg v (ha v sQ)
 |a::b::l=>
  obtain⟨s,h⟩:=h2 a b l;rw[h];exact aa.stuck
theorem zeM(F:Fit E f)(H:bD E){z:Sem YN}{g:YT->YQ->Nat->Nat->Sem YN}(ha:bj E n args)(hz:∀ m,aa E f m (VQ E f) z z)(hg:∀ m t a k j,n<=m->E.A m a.block->aa E f m (VQ E f) (g t a k j) (g t (rA f a) k j)):aa E f n (VQ E f) (zvs z g args) (zvs z g (args.map (rV f))):=by
 refine Fl (g:=fun v=>zzq v >>= fun p=>match p with|none=>z|some (t,a,fl)=>g t a fl (fl%32)) (fun v=>rfl) (.inr ⟨_,rfl⟩) (fun a b l=>⟨_,rfl⟩) ha fun v hv=>?_
 refine(Ub F H hv).bind fun m p p' hm hp=>?_
 obtain⟨rfl,hA⟩:=hp;cases p with
 |none=>exact hz m
 |some p=>exact hg m p.1 p.2.1 p.2.2 _ hm (hA _ _ _ rfl)
theorem Nb(F:Fit E f)(H:bD E){z:Sem YN}{g:YT->YQ->Nat->Nat->Sem YN}(ha:bj E n args)(hz:∀ m,aa E f m (VQ E f) z z)(hg:∀ m t a k j,n<=m->E.A m a.block->aa E f m (VQ E f) (g t a k j) (g t (rA f a) k j)):aa E f n (VQ E f) (zsR z g args) (zsR z g (args.map (rV f))):=by
 refine Fl (g:=fun v=>ztm v >>= fun p=>match p with|none=>z|some (t,a,fl)=>g t a fl (fl%32)) (fun v=>rfl) (.inr ⟨_,rfl⟩) (fun a b l=>⟨_,rfl⟩) ha fun v hv=>?_
 refine(Na F H hv).bind fun m p p' hm hp=>?_
 obtain⟨rfl,hA⟩:=hp;cases p with
 |none=>exact hz m
 |some p=>exact hg m p.1 p.2.1 p.2.2 _ hm (hA _ _ _ rfl)
theorem zeN(F:Fit E f)(_:bD E)(Y:Ai E){t:YT}(hA:E.A n a.block):aa E f n (VQ E f) (ztS t a k j) (ztS t (rA f a) k j):=by
 unfold ztS;have rest:aa E f n (VQ E f) (loadVar t a >>= fun v=>(match v with|.chan none|.nilFunc|.nilIface|.map none|.pointer none|.slice none _ _=>YZ (.bool true)|_=>YZ (.bool false):Sem YN)) (loadVar t (rA f a) >>= fun v=>(match v with|.chan none|.nilFunc|.nilIface|.map none|.pointer none|.slice none _ _=>YZ (.bool true)|_=>YZ (.bool false):Sem YN)):=by
  refine(EE F hA t).bind fun m v v' hm hv=>?_
  obtain⟨rfl,hv⟩:=hv;cases v with
  |chan r=>cases r<;>(rw[rV];exact aa.pure fun _ _=>cJ rfl)
  |map r=>cases r<;>(rw[rV];exact aa.pure fun _ _=>cJ rfl)
  |pointer r=>cases r<;>(rw[rV];exact aa.pure fun _ _=>cJ rfl)
  |slice r _ _=>cases r<;>(rw[rV];exact aa.pure fun _ _=>cJ rfl)
  |_=>rw[rV];exact aa.pure fun _ _=>cJ rfl
 refine aa.ite (fun _=>?_) fun _=>rest
 exact(Co (Q:=fun _ _ _=>False) Y _ _).bind fun _ _ _ _ h=>h.elim
theorem Uc(m:Nat):VQ E f m zxm zxm:=by
 have:qA zxm=true:=by simp[zxm,qA,jA]
 exact⟨(En this).symm,Eo this⟩
theorem Ud(F:Fit E f)(H:bD E){t:YT}(hA:E.A n a.block):aa E f n (VQ E f) (zxl t a k) (zxl t (rA f a) k):=by
 unfold zxl zBT;rw[bind_assoc,bind_assoc];refine aa.program ?_;rw[pure_bind,pure_bind];refine aa.same (I9 t) fun kk=>?_
 refine aa.pure fun m hm=>?_
 obtain⟨h1,h2⟩:=Ua (E:=E) F H t m;refine⟨?_,?_⟩
 ·rw[rV];simp[h1,rV]
 ·rw[ah];intro x hx;simp only[Yn,Yl,Yo,YL]at hx;rcases hx with rfl|rfl|rfl
  ·exact h2
  ·rw[ah];exact hA.mono hm
  ·rw[ah]<;>simp
theorem Ue(F:Fit E f)(H:bD E)(hv:ah E n v):aa E f n (VQ E f) (zue v) (zue (rV f v)):=by
 cases v with
 |nilIface=>rw[rV];exact aa.pure fun m _=>Uc m
 |iface t v=>
  rw[rV];rw[ah]at hv;unfold zue;refine(BV hv.2 t).bind fun m a a' hm ha=>?_
  obtain⟨rfl,hI⟩:=ha;exact Ud F H (.inl hI)
 |_=>exact aa.stuck
theorem zeO(F:Fit E f)(H:bD E)(Y:Ai E){t:YT}(hA:E.A n a.block):aa E f n (VQ E f) (ztR t a k j) (ztR t (rA f a) k j):=by
 unfold ztR;refine aa.ite (fun _=>(Co (Q:=fun _ _ _=>False) Y _ _).bind fun _ _ _ _ h=>h.elim) fun hc=>?_
 have hj:j=20\/j=22:=by
  rcases Nat.decEq j 20 with h|h
  ·rcases Nat.decEq j 22 with h2|h2
   ·exact absurd (by simp[h,h2]) hc
   ·exact .inr h2
  ·exact .inl h
 refine(EE F hA t).bind fun m v v' hm hv=>?_
 obtain⟨rfl,hv⟩:=hv;refine aa.same (T8 t) fun e=>?_
 rcases hj with rfl|rfl
 ·exact Ue F H hv
 ·have bad:aa E f m (VQ E f) (Z6 "reflectlite.Value.Elem" 22) (Z6 "reflectlite.Value.Elem" 22):=Co Y _ _;cases v with
  |pointer p=>
   rw[ah]at hv;rw[rV];cases p with
   |none=>exact aa.pure fun m _=>Uc m
   |some p=>
    cases e with
    |none=>exact bad
    |some e=>exact Ud F H hv
  |_=>rw[rV];exact bad
theorem zeP(F:Fit E f)(H:bD E)(hK:∀ t,E.K t=true)(ha:bj E n args):aa E f n (VQ E f) (zuN args) (zuN (args.map (rV f))):=by
 obtain⟨l⟩:=args;match l with
 |[]=>exact aa.stuck
 |[_]=>exact aa.stuck
 |_::_::_::_=>exact aa.stuck
 |[v,x]=>
  have hv:ah E n v:=ha v sQ;have hx:ah E n x:=ha x sQ;rw[Yk,Yi,Yi,Yj];unfold zuN;dsimp only;refine(Na F H hv).bind fun m p p' hm hp=>?_
  obtain⟨rfl,hA⟩:=hp;refine(Na F H (aY hm _ hx)).bind fun m2 q q' aK hq=>?_
  obtain⟨rfl,hB⟩:=hq;cases p with
  |none=>exact aa.unsupported sQ
  |some p=>
   obtain⟨dst,a,fl⟩:=p;cases q with
   |none=>exact aa.unsupported sQ
   |some q=>
    obtain⟨src,b,k⟩:=q;have hA:=(hA dst a fl rfl).mono aK;have hB:=hB src b k rfl;dsimp only[Option.map_some];refine aa.ite (fun _=>aa.jR sQ) fun _=>?_
    refine(EE F hB src).bind fun m3 val zrq gu pA=>?_
    obtain⟨rfl,pA⟩:=pA;refine aa.same (T9 dst src) fun d=>?_
    have st:∀ y,ah E m3 y->aa E f m3 (VQ E f) (storeVar dst a y >>= fun _=>YZ (.tuple #[])) (storeVar dst (rA f a) (rV f y) >>= fun _=>YZ (.tuple #[])):=fun y hy=>
     (RU F (hA.mono gu) hy dst).bind fun _ _ _ _ _=>aa.pure fun _ _=>B2 _
    refine aa.ite (fun _=>st val pA) fun _=>?_
    refine aa.same (M7 dst src) fun i=>?_
    refine aa.ite (fun _=>?_) fun _=>?_
    ·refine aa.same (I9 src) fun kk=>?_
     refine aa.ite (fun _=>?_) fun _=>?_
     ·cases val with
      |nilIface=>exact aa.jR sQ
      |_=>
       have:=st _ pA;rw[rV]at this⊢;exact this
     ·have:=st (.iface src val) (by rw[ah];exact⟨hK src,pA⟩);rw[rV]at this;exact this
    ·refine aa.same (M6 src) fun s1=>aa.same (M6 dst) fun s2=>?_
     exact(Iq (Q:=fun _ _ _=>False) H _).bind fun _ _ _ _ h=>h.elim
theorem Nc(F:Fit E f)(H:bD E){x:YN}:aa E f n EQ (zuK x) (zuK (rV f x)):=by
 cases x with
 |agg cs=>
  obtain⟨l⟩:=cs;rw[rV,Yk];match l with
  |[]=>exact aa.stuck
  |[h]=>
   rw[Yi,Yj];show aa E f n EQ (zuf h >>= _) (zuf (rV f h) >>= _);refine(M5 F H h).bind fun m t t' hm ht=>?_
   obtain rfl:=ht;refine aa.same (I8 _ _) fun _=>aa.pure fun _ _=>rfl
  |_::_::_=>exact aa.stuck
 |_=>exact aa.stuck
theorem zeQ(F:Fit E f)(H:bD E)(Y:Ai E)(ha:bj E n args):aa E f n (VQ E f) (zuM args) (zuM (args.map (rV f))):=by
 obtain⟨l⟩:=args;match l with
 |[]=>exact aa.stuck
 |[v]=>
  rw[Yk,Yi,Yj];cases v with
  |nilIface=>rw[rV];exact aa.pure fun _ _=>cJ rfl
  |iface t v=>rw[rV];exact M8 F H Y t
  |_=>exact aa.stuck
 |a::b::l=>
  cases a<;>exact aa.stuck
theorem zeR(F:Fit E f)(H:bD E)(Y:Ai E)(t:YT):aa E f n (VQ E f) (zuI t) (zuI t):=by
 unfold zuI;refine aa.same (T8 t) fun e=>?_
 cases e with
 |some e=>exact M8 F H Y e
 |none=>exact aa.same (M6 t) fun s=>Iq H _
theorem zeS(F:Fit E f)(H:bD E){g:YT->Sem YN}(ha:bj E n args)(hg:∀ m t,aa E f m (VQ E f) (g t) (g t)):aa E f n (VQ E f) (zvr g args) (zvr g (args.map (rV f))):=by
 refine Fl (g:=fun v=>zuK v >>= g) (fun v=>rfl) (.inr ⟨_,rfl⟩) (fun a b l=>⟨_,rfl⟩) ha fun v hv=>?_
 refine(Nc F H).bind fun m t t' hm ht=>?_
 obtain rfl:=ht;exact hg m t'
theorem zeT(F:Fit E f)(H:bD E){g:YT->Sem YN}(ha:bj E n args)(hg:∀ m t,aa E f m (VQ E f) (g t) (g t)):aa E f n (VQ E f) (zuG g args) (zuG g (args.map (rV f))):=by
 refine Fl (g:=fun v=>zuf v >>= fun t=>zzv "a method of abi.Type" t >>= fun _=>g t) (fun v=>rfl) (.inr ⟨_,rfl⟩) (fun a b l=>⟨_,rfl⟩) ha fun v hv=>?_
 refine(M5 F H v).bind fun m t t' hm ht=>?_
 obtain rfl:=ht;exact aa.same (I8 _ _) fun _=>hg m t'
theorem zeU(H:bD E)(u t:YT):aa E f n EQ (zuJ u t) (zuJ u t):=by
 unfold zuJ;refine aa.same (I9 u) fun k=>?_
 refine aa.ite (fun _=>(Iq (Q:=fun _ _ _=>False) H _).bind fun _ _ _ _ h=>h.elim) fun _=>?_
 exact aa.same (Fj _ _) fun _=>aa.same (I8 _ _) fun _=>(M7 u t).LD
theorem zeV(u t:YT):Calm E (zuH u t):=by
 unfold zuH;have rest:Calm E (zxo u t >>= fun a=>zzu u t >>= fun b=>YZ (a||b)):=(T9 u t).bind fun _=>(M7 u t).bind fun _=>.pure _
 refine .ite ?_ rest;exact(Fj _ _).bind fun _=>(Fj _ _).bind fun _=>rest
theorem Uf(F:Fit E f)(H:bD E){s:String}{g:YT->YT->Sem Bool}(hg:∀ m u t,aa E f m EQ (g u t) (g u t)):aa E f n (VQ E f) (ztl s g args) (ztl s g (args.map (rV f))):=by
 obtain⟨l⟩:=args;match l with
 |[]=>exact aa.stuck
 |[_]=>exact aa.stuck
 |a::b::c::l=>cases b<;>exact aa.stuck
 |[r,u]=>
  rw[Yk,Yi,Yi,Yj];cases u with
  |nilIface=>rw[rV];exact Iq H _
  |iface t u=>
   rw[rV];show aa E f n (VQ E f) (zuK u >>= fun x=>zuK r >>= fun y=>g x y >>= fun b=>YZ (.bool b)) (zuK (rV f u) >>= fun x=>zuK (rV f r) >>= fun y=>g x y >>= fun b=>YZ (.bool b));refine(Nc F H).bind fun m x x' hm hx=>?_
   obtain rfl:=hx;refine(Nc F H).bind fun m2 y y' aK hy=>?_
   obtain rfl:=hy;refine(hg m2 x' y').bind fun m3 b b' _ hb=>?_
   obtain rfl:=hb;exact aa.pure fun _ _=>cJ rfl
  |_=>exact aa.stuck
theorem zeW(ha:bj E n args):aa E f n (VQ E f) (zxJ args) (zxJ (args.map (rV f))):=
 Fl (g:=fun v=>YZ v) (fun _=>rfl) (.inr ⟨_,rfl⟩) (fun _ _ _=>⟨_,rfl⟩) ha fun _ hv=>aa.pure fun _ hm=>⟨rfl,aY hm _ hv⟩
theorem Ug(F:Fit E f):∀(k n:Nat)(a:YQ)(acc:ByteArray),E.A n a.block->aa E f n EQ (zx8 a k acc) (zx8 (rA f a) k acc)
 | 0,n,a,acc,hA=>aa.pure fun _ _=>rfl
 |k+1,n,a,acc,hA=>by
  unfold zx8;refine(Io F hA).bind fun m v v' hm hv=>?_
  obtain⟨rfl,hv⟩:=hv;cases v with
  |int kk b=>
   rw[rV];cases kk with
   |u8=>
    rw[ui];exact Ug F k m (a.add 1) _ (by rw[block_add];exact hA.mono hm)
   |_=>exact aa.stuck
  |_=>exact aa.stuck
theorem Nd(F:Fit E f)(hv:ah E n v):aa E f n EQ (zAB v) (zAB (rV f v)):=by
 cases v with
 |string s=>rw[rV];exact aa.pure fun _ _=>rfl
 |slice a l c=>
  rw[rV];rw[ah]at hv;cases a with
  |none=>exact aa.pure fun _ _=>rfl
  |some a=>exact Ug F l n a _ hv
 |_=>exact aa.stuck
theorem zeX{c:YN}:aa E f n EQ (zwL c) (zwL (rV f c)):=by
 cases c with
 |int k z=>
  rw[rV];cases k with
  |u8=>exact aa.pure fun _ _=>rfl
  |_=>exact aa.stuck
 |_=>exact aa.stuck
theorem zeY(F:Fit E f)(ha:bj E n args):aa E f n (VQ E f) (zwJ args) (zwJ (args.map (rV f))):=by
 obtain⟨l⟩:=args;match l with
 |[]=>exact aa.stuck
 |[_]=>exact aa.stuck
 |a::b::c::l=>exact aa.stuck
 |[b,c]=>
  rw[Yk,Yi,Yi,Yj];unfold zwJ;refine(Nd F (ha b sQ)).bind fun m s s' hm hs=>?_
  obtain rfl:=hs;show aa E f m (VQ E f) (zwL c >>= _) (zwL (rV f c) >>= _);refine zeX.bind fun m2 x x' _ hx=>?_
  obtain rfl:=hx;split<;>exact aa.pure fun _ _=>cJ rfl
theorem zeZ(F:Fit E f)(hG:∀ g,g<E.P.globals.size->E.R g\/E.O g):aa E f n EQ zx7 zx7:=by
 unfold zx7 globalAddr;rw[bind_assoc];refine aa.program ?_;cases hg:E.P.globals.findIdx? (·.name == "internal/bytealg.MaxLen")with
 |none=>exact aa.iu
 |some g=>
  dsimp only;rw[pure_bind];have aj:g<E.P.globals.size:=by
   obtain⟨h,_⟩:=Array.findIdx?_eq_some_iff_getElem.1 hg;exact h
  have hA:E.A n ((aQ g 0):YQ).block:=.inr (hG g aj);have h1:=Io F hA;rw[show rA f (aQ g 0)=(aQ g 0)by
   unfold rA;rw[F.low g ((hG g aj).elim (F.ro g) (F.op g))]]at h1
  refine h1.bind fun m v v' hm hv=>?_
  obtain⟨rfl,hv⟩:=hv;exact BW
theorem ze0(F:Fit E f)(hG:∀ g,g<E.P.globals.size->E.R g\/E.O g)(ha:bj E n args):aa E f n (VQ E f) (zwI args) (zwI (args.map (rV f))):=by
 obtain⟨l⟩:=args;match l with
 |[]=>exact aa.stuck
 |[_]=>exact aa.stuck
 |a::b::c::l=>exact aa.stuck
 |[b,c]=>
  rw[Yk,Yi,Yi,Yj];unfold zwI;refine(Nd F (ha b sQ)).bind fun m s s' hm hs=>?_
  obtain rfl:=hs;refine(Nd F (aY hm _ (ha c sQ))).bind fun m2 t t' aK ht=>?_
  obtain rfl:=ht;have rest:∀ m,aa E f m (VQ E f) (match (ZE (s'.size+1-t'.size)).find? fun i=>s'.extract i (i+t'.size)==t' with|some i=>YZ (goInt i)|none=>YZ (goInt (-1))) (match (ZE (s'.size+1-t'.size)).find? fun i=>s'.extract i (i+t'.size)==t' with|some i=>YZ (goInt i)|none=>YZ (goInt (-1))):=fun m=>by
   split<;>exact aa.pure fun _ _=>cJ rfl
  refine(zeZ F hG).bind fun m3 x x' gu hx=>?_
  obtain rfl:=hx;refine aa.ite (fun _=>aa.jR sQ) fun _=>?_
  refine aa.ite (fun _=>aa.jR sQ) fun _=>?_
  exact rest m3
theorem Uh:∀(k t:Nat)(acc:Array YN),(∀ x∈acc,jA x=true)->∀ x∈zDz k t acc,jA x=true
 | 0,_,_,h=>h
 |k+1,t,acc,h=>Uh k (t/256) _ fun x hx=>by
  rcases Array.mem_push.1 hx with h1|rfl
  ·exact h x h1
  ·rfl
theorem ze1(F:Fit E f)(H:bD E){ps rs:Array YT}:aa E f n (VQ E f) (zwK ps rs args) (zwK ps rs (args.map (rV f))):=by
 obtain⟨l⟩:=args;match l with
 |[]=>exact aa.stuck
 |a::b::l=>
  cases a with
  |int k z=>cases k<;>exact aa.stuck
  |_=>exact aa.stuck
 |[v]=>
  rw[Yk,Yi,Yj];cases v with
  |int k z=>
   rw[rV];cases k with
   |i64=>
    unfold zwK;dsimp only;cases rs[0]? with
    |none=>exact aa.stuck
    |some t=>
     dsimp only;refine dT fun d hd=>?_
     cases d with
     |slice e=>
      dsimp only;refine aa.ite (fun _=>zQ F H) fun _=>?_
      refine(aa.choose _).bind fun m c c' hm hc=>?_
      obtain rfl:=hc;refine(LH _).bind fun m2 _ _ aK _=>?_
      refine(aa.choose _).bind fun m3 b b' gu hb=>?_
      obtain rfl:=hb;refine L1 (Uh c' b' #[] fun x hx=>by simp at hx) fun m4 a jS hI=>?_
      exact aa.pure fun m5 SQ=>zR (a:=some a) (.inl (hI.mono SQ))
     |_=>exact aa.stuck
   |_=>exact aa.stuck
  |_=>exact aa.stuck
theorem ze2{g:Zt}{fn:Func}{e:Array YN->Sem YN}(hf:E.P.funcs[g]?=some fn)(hn:(fn.name == "runtime.NumGoroutine")=false)(hb:fn.body.isNone=true)(h1:zvL fn=none)(h2:Zx fn=some e)(he:aa E f n (VQ E f) (e args) (e (args.map (rV f)))):aa E f n (NQ E f) (Z0 g args) (Z0 g (args.map (rV f))):=by
 unfold Z0;refine aa.program ?_;rw[hf];dsimp only;rw[hn,hb];simp only[X8,YF,YI];refine(aa.mark (m:=.extern g) trivial).bind fun m _ _ hm _=>?_
 rw[h1,h2];exact(fq he).mono hm fun _ _ _ _ h=>h
theorem ze3{g:Zt}{fn:Func}{zrb:Array YN}(hf:E.P.funcs[g]?=some fn)(hn:(fn.name == "runtime.NumGoroutine")=false)(hb:fn.body.isNone=true)(h1:zvL fn=none)(h2:Zx fn=none) (h3:(fn.name.endsWith ".init" && !fn.name.startsWith "(" && !fn.name.startsWith "gosem.")=false):aa E f n (NQ E f) (Z0 g args) (Z0 g zrb):=by
 unfold Z0;refine aa.program ?_;rw[hf];dsimp only;rw[hn,hb];simp only[X8,YF,YI];refine(aa.mark (m:=.extern g) trivial).bind fun m _ _ hm _=>?_
 rw[h1,h2];dsimp only;rw[h3];exact aa.unsupported sQ
end
open Go.Proofs.Tryz
variable (pG:Y2)
def tF:List Nat:=[13,14,15,16,17,18,19,20,21,23,24,28,30,32,33,34,35,36,38,39,41,42,43,44,45,46,47,48,49,50,51,52,53,54,55,56,57,58,59,60,61,62,63,64,65,71,72,73,74,75,76,77,79,80,81,82,83,85,86,87,88,89,90,91,92,93,94,95,96,97,98,99,100,101,120,121,122,123,124,125,126,127,128,130,131,132,133,134,135,136,137,138,139,140,141,142,143,144,145,146,147,148,149,150,151,152,153,154,155,156,157,158,159,160,161,162,163,169,170,171,172,173,174,175,176,177,178,179,180,181,182,183,184,185,186,187,188,189,190,191,192,193,194,195,196,197,198,199,200,201,202,203,204,205,206,207,208,209,210,211,212,213,214,215,216,217,218,219,220,221,222,223,224,225,226,227,228,229,230,231,232,233,234,235,236,250,251,258,260,263,265,266,275]
def tM(s:String):Bool:=s == "Kind" || s == "Elem" || s == "Implements" || s == "AssignableTo" || s == "As" || s == "Unwrap"
def tV(t:YT):Bool:=t==5||t==104
def Aj:Env:={P:=pG,T:=fun g=>tF.contains g,K:=fun _=>true,C:=fun _=>true,B:=0,R:=fun _=>False,O:=fun _=>False,os:=default,V:=tV}
def env(B:Nat)(R O:Nat->Prop)(os:Os):Env:={P:=pG,T:=fun g=>tF.contains g,K:=fun _=>true,C:=fun c=>iv (Aj pG) tM c&&sk c,B,R,O,os,V:=tV}
theorem ze4(P:Y2)(T:Zt->Bool)(K:YT->Bool)(V:YT->Bool)(M:String->Bool)(C C':Code->Bool)(B B':Nat)(R R' O O':Nat->Prop)(os zy:Os):∀ c,iv ⟨P,T,K,C,B,R,O,os,V⟩ M c=iv ⟨P,T,K,C',B',R',O',zy,V⟩ M c:=by
 have hx:gK ⟨P,T,K,C,B,R,O,os,V⟩=gK ⟨P,T,K,C',B',R',O',zy,V⟩:=by
  funext x
  cases x<;>rfl
 have qL:mJ ⟨P,T,K,C,B,R,O,os,V⟩=mJ ⟨P,T,K,C',B',R',O',zy,V⟩:=by
  funext l
  unfold mJ;rw[hx]
 have hb:okB ⟨P,T,K,C,B,R,O,os,V⟩=okB ⟨P,T,K,C',B',R',O',zy,V⟩:=by
  funext b ts t
  cases b<;>rfl
 have hc:uk ⟨P,T,K,C,B,R,O,os,V⟩ M=uk ⟨P,T,K,C',B',R',O',zy,V⟩ M:=by
  funext c t
  unfold uk;rw[qL,hx,hb]
 have ho:zT ⟨P,T,K,C,B,R,O,os,V⟩ M=zT ⟨P,T,K,C',B',R',O',zy,V⟩ M:=by
  funext o
  unfold zT;rw[hx,qL,hc];rfl
 intro c;induction c with
 |region _ au _=>simp only[iv];rw[ho]
 |seq a b z6 Fo=>simp only[iv];rw[z6,Fo]
 |cond x a b z6 Fo=>simp only[iv];rw[hx,z6,Fo]
 |rangeFunc x _ a b z6 Fo=>simp only[iv];rw[hx,z6,Fo]
 |block _ c ih=>simp only[iv];rw[ih]
 |loop c ih=>simp only[iv];rw[ih]
 |_=>rfl
theorem Ui(B:Nat)(R O:Nat->Prop)(os:Os)(c:Code):iv (env π B R O os) tM c=iv (Aj π) tM c:=ze4 _ _ _ _ _ _ _ _ _ _ _ _ _ _ _ c
def Nf(g:Zt):Bool:=match pG.funcs[g]? with
 |some fn=>match fn.body with
  |some c=>iv (Aj pG) tM c && !(fn.name == "runtime.NumGoroutine")
  |none=>true
 |none=>true
theorem Uj:tF.all (Nf π)=true:=kQ
theorem ze5:((ZE π.types.size).all fun t=>["Kind","Elem","Implements","AssignableTo","As","Unwrap"].all fun s=>xV (Aj π) t s)=true:=kQ
theorem ze6:π.follows .staticDataAhead=true:=kQ
theorem ze7:π.follows .rangeFuncRecover=true:=kQ
variable (pG:Y2)
def iJ(g:Nat):Func:=(pG.funcs[g]?).getD default
theorem ze8{g:Nat}{fn:Func}(h:π.funcs[g]?=some fn):fn=iJ π g:=by
 unfold iJ;rw[h];rfl
def xF:List Nat:=[120,121,122,162,169,170,171,211,224,232,250,251,260,263,265,266]
theorem ze9:(tF.all fun g=>((π.funcs[g]?).map (fun fn=>fn.body.isSome)).getD true||xF.contains g)=true:=kQ
theorem zfa:(xF.all fun g=>!((iJ π g).name == "runtime.NumGoroutine")&&(zvL (iJ π g)).isNone)=true:=kQ
theorem zfb:Zx (iJ π 120)=some (fun args=>zue (args.getD 0 (.tuple #[]))):=kQ
theorem zfc:Zx (iJ π 121)=some (zvs (Z6 "reflectlite.Value.Type" 0) fun t _ _ _=>zuL t):=kQ
theorem zfd:Zx (iJ π 122)=some (zsR (Z6 "reflectlite.Value.IsNil" 0) ztS):=kQ
theorem zfe:Zx (iJ π 162)=some (zxJ):=kQ
theorem zff:Zx (iJ π 169)=some (zuM):=kQ
theorem zfg:Zx (iJ π 170)=some (zsR (Z6 "reflectlite.Value.Elem" 0) ztR):=kQ
theorem zfh:Zx (iJ π 171)=some (zuN):=kQ
theorem zfi:Zx (iJ π 211)=some (zwI):=kQ
theorem zfj:Zx (iJ π 224)=some (zwJ):=kQ
theorem zfk:Zx (iJ π 232)=some (zwK (iJ π 232).params (iJ π 232).resultTypes):=kQ
theorem zfl:Zx (iJ π 251)=some (zuG fun t=>(do pure (.int .u8 (<-zuP t)))):=kQ
theorem zfm:Zx (iJ π 260)=some (zsR (pure (.int .u8 0)) fun _ _ _ k=>pure (.int .u8 (zvU k))):=kQ
theorem zfn:Zx (iJ π 263)=some (ztl "AssignableTo" zuH):=kQ
theorem zfo:Zx (iJ π 265)=some (zvr zuI):=kQ
theorem zfp:Zx (iJ π 266)=some (ztl "Implements" zuJ):=kQ
theorem zfq:Zx (iJ π 250)=none:=kQ
theorem zfr:((iJ π 250).name.endsWith ".init" && !(iJ π 250).name.startsWith "(" && !(iJ π 250).name.startsWith "gosem.")=false:=kQ
theorem zfs(w:YM)(es:Array YX):(cutType "internal/reflectlite.rtype").runT π w es=(.ok 237 w,es):=kQ
theorem zft(w:YM)(es:Array YX):(cutType "*internal/reflectlite.ValueError").runT π w es=(.ok 238 w,es):=kQ
theorem zfu(w:YM)(es:Array YX):(elemOf 238).runT π w es=(.ok 324 w,es):=kQ
theorem zfv:(π.funcs.toList.all fun fn=>(fn.body.map readies).all (fun l=>l.isEmpty))=true:=kQ
theorem zfw(P:Y2)(T:Zt->Bool)(K:YT->Bool)(V:YT->Bool)(C C':Code->Bool)(B B':Nat)(R R' O O':Nat->Prop)(os zy:Os)(t:YT)(s:String):xV ⟨P,T,K,C,B,R,O,os,V⟩ t s=xV ⟨P,T,K,C',B',R',O',zy,V⟩ t s:=rfl
theorem zfx{fs:Array Field}{i:TypeInfo}(h:zBn zw fs=some i):i.methods=#[]:=by
 unfold zBn at h;simp only[zuF,zsI]at h;obtain⟨r,_,h⟩:=h;split at h
 ·cases h;rfl
 ·cases h;rfl
theorem zfy{d:TypeDesc}{i:TypeInfo}(h:Made.reckon zw d=some i):i.methods=#[]:=by
 unfold Made.reckon at h;cases d with
 |pointer e=>
  simp only[zuF,zsI]at h;obtain⟨x,_,h⟩:=h;split at h
  ·cases h
  ·split at h
   ·cases h
   ·simp only[zsI]at h;obtain⟨y,_,h⟩:=h;cases h;rfl
  ·simp only[zsI]at h;obtain⟨y,_,h⟩:=h;cases h;rfl
 |slice e=>
  simp only[zuF,zsI]at h;obtain⟨x,_,y,_,h⟩:=h;cases h;rfl
 |map k e=>
  simp only[zuF,zsI]at h;obtain⟨x,_,y,_,z,_,u,_,h⟩:=h;cases h;rfl
 |chan dir e=>
  simp only[zuF,zsI]at h;obtain⟨x,_,y,_,h⟩:=h;cases h;rfl
 |func a b c=>
  simp only[zuF,zsI]at h;obtain⟨x,_,h⟩:=h;cases h;rfl
 |array k e=>
  simp only[zuF,zsI]at h;obtain⟨x,_,y,_,h⟩:=h;cases h;rfl
 |struct fs=>exact zfx h
 |_=>cases h
theorem zfz{T:Tables}{t:YT}{i:TypeInfo}(dX:T.types.size<=t):∀ k,Made.infoAt T k t=some i->i.methods=#[]
 | 0,h=>by cases h
 |k+1,h=>by
  unfold Made.infoAt at h;rw[YG (zzd.2 dX)]at h;cases hd:Made.decode (t-T.types.size)with
  |none=>rw[hd]at h;cases h
  |some d=>rw[hd]at h;exact zfy h
theorem yh{α:Type}{l:List α}{p:α->Bool}(h:l.all p=true){a:α}(ha:a∈l):p a=true:=X9.1 h a ha
theorem memT{g:Zt}(h:tF.contains g=true):g∈tF:=by simpa using h
def nf(P:Y2):Nat->YT->Bool
 | 0,_=>true
 |d+1,t=>match P.underlying t with
  |some (.struct fs)=>fs.toList.all fun f=>nf P d f.type
  |some (.array _ e)=>nf P d e
  |some (.float _)=>false
  |some (.complex _)=>false
  |_=>true
theorem Ja:∀(d:Nat)(t:YT)(off:Nat)(l:YN),nf P d t=true->plainCell P d t off=some l->vV l=true
 | 0,_,_,_,_,h=>by cases h
 |d+1,t,off,l,hn,h=>by
  unfold nf at hn;unfold plainCell at h;cases hu:P.underlying t with
  |none=>rw[hu]at h;cases h
  |some x=>
   rw[hu]at h hn;cases x with
   |struct fs=>
    dsimp only at h hn;obtain⟨fl,Ae,hx⟩:=Array.exists_of_findSome?_eq_some h;split at hx
    ·exact Ja d fl.type _ l (yh hn (by simpa using Ae)) hx
    ·cases hx
   |array k e=>
    dsimp only at h hn;split at h
    ·cases h
    ·exact Ja d e _ l hn h
   |bool=>
    dsimp only at h;split at h
    ·cases h;rfl
    ·cases h
   |int k=>
    dsimp only at h;split at h
    ·cases h;rfl
    ·cases h
   |float k=>cases hn
   |complex k=>cases hn
   |_=>cases h
theorem nf1:nf π π.depth 5=true:=kQ
theorem nf2:nf π π.depth 104=true:=kQ
section
variable {B:Nat}{R O:Nat->Prop}{os:Os}
theorem zfA:∀ u,(env π B R O os).V u=true->∀ off l,plainCell (env π B R O os).P (env π B R O os).P.depth u off=some l->vV l=true:=by
 intro u hu off l h;have hu:tV u=true:=hu;unfold tV at hu;rw[zr5]at hu;rcases hu with hu|hu
 ·have hu:u=5:=by simpa using hu
  subst hu;exact Ja _ _ _ _ nf1 h
 ·have hu:u=104:=by simpa using hu
  subst hu;exact Ja _ _ _ _ nf2 h
theorem Ng(hg:R π.globals.size):bD (env π B R O os):=⟨rfl,rfl,rfl,rfl,rfl,rfl,rfl,hg⟩
theorem zfB:Ai (env π B R O os):=⟨⟨_,rfl,zfs⟩,⟨_,_,rfl,zft,zfu⟩⟩
theorem zfC(k:Nat):π.stepOf k=none:=by
 unfold Program.stepOf;rw[Array.findIdx?_eq_none_iff];intro fn vS;have:=yh zfv (a:=fn) (by simpa using vS);cases hb:fn.body with
 |none=>rfl
 |some c=>
  rw[hb]at this;simp only[Yy,Option.all_some]at this;simp only[Yy,Option.any_some];rw[List.isEmpty_iff.1 this];rfl
theorem codeOk(hG:∀ g,g<π.globals.size->R g\/O g):oF (env π B R O os) tM where
 loops c:=by
  show(iv (Aj π) tM c&&sk c)=_;rw[Ui]
 bodies g fn c hT hf hb:=by
  rw[Ui];have h:=yh Uj (memT hT);have hf:π.funcs[g]?=some fn:=hf;unfold Nf at h;rw[hf]at h;dsimp only at h;rw[hb]at h;dsimp only at h;rw[X6]at h;exact h.1
 Tc:=hG
 wait k _:=zfC k
 ahead:=ze6
 back:=ze7
theorem Uk(hg:R π.globals.size)(hG:∀ g,g<π.globals.size->R g\/O g):oD (env π B R O os) tM where
 body g fn hT hf hb:=by
  have h:=yh Uj (memT hT);have hf:π.funcs[g]?=some fn:=hf;unfold Nf at h;rw[hf]at h;dsimp only at h;cases Ul:fn.body with
  |none=>rw[Ul]at hb;cases hb
  |some c=>
   rw[Ul]at h;dsimp only at h;rw[X6]at h;simpa using h.2
 ext g fn hT hf hb f n args F ha:=by
  have H:=Ng (B:=B) (O:=O) (os:=os) hg;have Y:=zfB (B:=B) (R:=R) (O:=O) (os:=os);have mR:π.funcs[g]?=some fn:=hf;have hx:g∈xF:=by
   have h:=yh ze9 (memT hT);rw[mR]at h;have:fn.body.isSome=false:=by
    cases hh:fn.body with
    |none=>rfl
    |some c=>rw[hh]at hb;cases hb
   simpa[this]using h
  have hn:=yh zfa hx;rw[X6]at hn;have e:=ze8 mR;rw[<-e]at hn;have kR:(fn.name == "runtime.NumGoroutine")=false:=by simpa using hn.1
  have mS:zvL fn=none:=by simpa using hn.2
  have go:∀{e:Array YN->Sem YN},Zx fn=some e->aa (env π B R O os) f n (VQ (env π B R O os) f) (e args) (e (args.map (rV f)))->aa (env π B R O os) f n (NQ (env π B R O os) f) (Z0 g args) (Z0 g (args.map (rV f))):=fun h1 h2=>ze2 hf kR hb mS h1 h2
  unfold xF at hx;simp only[Yl,Yo,YL]at hx;rcases hx with rfl|rfl|rfl|rfl|rfl|rfl|rfl|rfl|rfl|rfl|rfl|rfl|rfl|rfl|rfl|rfl
  ·refine go (by rw[e];exact zfb) ?_;rw[show(args.map (rV f)).getD 0 (.tuple #[])=rV f (args.getD 0 (.tuple #[]))from Et f args 0];exact Ue F H (Es ha 0)
  ·exact go (by rw[e];exact zfc) (zeM F H ha (fun _=>Co Y _ _) fun m t a k j _ _=>M8 F H Y t)
  ·exact go (e:=zsR _ ztS) (by rw[e];exact zfd) (Nb F H ha (fun _=>Co Y _ _) fun m t a k j _ hA=>zeN F H Y hA)
  ·exact go (by rw[e];exact zfe) (zeW ha)
  ·exact go (by rw[e];exact zff) (zeQ F H Y ha)
  ·exact go (e:=zsR _ ztR) (by rw[e];exact zfg) (Nb F H ha (fun _=>Co Y _ _) fun m t a k j _ hA=>zeO F H Y hA)
  ·exact go (by rw[e];exact zfh) (zeP F H (fun _=>rfl) ha)
  ·exact go (by rw[e];exact zfi) (ze0 F hG ha)
  ·exact go (by rw[e];exact zfj) (zeY F ha)
  ·exact go (by rw[e];exact zfk) (ze1 F H)
  ·exact ze3 hf kR hb mS (by rw[e];exact zfq) (by rw[e];exact zfr)
  ·refine go (by rw[e];exact zfl) (zeT F H ha fun m t=>?_);exact aa.same (I9 t) fun k=>aa.pure fun _ _=>cJ rfl
  ·exact go (e:=zsR (pure (.int .u8 0)) fun _ _ _ k=>pure (.int .u8 (zvU k))) (by rw[e];exact zfm) (Nb F H ha (fun _=>aa.pure fun _ _=>cJ rfl) fun m t a k j _ hA=>aa.pure fun _ _=>cJ rfl)
  ·exact go (by rw[e];exact zfn) (Uf F H fun m u t=>(zeV u t).LD)
  ·exact go (by rw[e];exact zfo) (zeS F H ha fun m t=>zeR F H Y t)
  ·exact go (by rw[e];exact zfp) (Uf F H fun m u t=>zeU H u t)
 S4 t name _ hM:=by
  have hs:name∈["Kind","Elem","Implements","AssignableTo","As","Unwrap"]:=by
   unfold tM at hM;simp only[zr5,YB]at hM;simp only[Yl,Yo,YL];rcases hM with ((((h|h)|h)|h)|h)|h<;>simp[h]
  have e:xV (env π B R O os) t name=xV (Aj π) t name:=zfw _ _ _ _ _ _ _ _ _ _ _ _ _ _ _ _;rw[e];rcases Ys t π.types.size with aj|dX
  ·exact yh (yh ze5 (List.mem_range.2 aj)) hs
  ·unfold xV;cases hi:(Aj π).P.info? t with
   |none=>rfl
   |some i=>
    have qG:zB1 π.toTables t=some i:=hi;unfold zB1 at qG;rw[YG (zzd.2 dX)]at qG;have hm:=zfz dX _ qG;dsimp only;rw[hm];rfl
end
theorem Cp:∀ v:YN,rV id v=v
 |.pointer a=>by rw[rV];cases a<;>rfl
 |.slice a n c=>by rw[rV];cases a<;>rfl
 |.map r=>by rw[rV];cases r<;>rfl
 |.chan r=>by rw[rV];cases r<;>rfl
 |.func fn a b=>by
  rw[rV,zH fun x hx=>Cp x,zH fun x hx=>Cp x];cases fn<;>rfl
 |.iface t v=>by rw[rV,Cp v]
 |.agg cs=>by rw[rV,zH fun x hx=>Cp x]
 |.tuple cs=>by rw[rV,zH fun x hx=>Cp x]
 |.bool _|.int _ _|.float _ _|.complex _ _ _|.string _|.nilFunc|.nilIface=>by rw[rV]
theorem zfD{E:Env}{g:Zt}{h0:Array Obj}{R:YN->YM->Prop}(h:∀ wl:YM,wl.1=h0->wl.os=E.os->Calls E.P g args wl fun e w'=>∃ v,e=.returned v/\R v w'):kM E ([Y8 E.P g args .normal],h0) R:=by
 intro wl hw bG;obtain⟨e,w',fr,⟨v,rfl,hR⟩,⟨k,hk⟩,_,hl⟩:=h wl hw bG [c0];exact⟨v,w',fr,k,hR,hk,hl⟩
def jo(dG:∀ p:Prop,Decidable p)(R O:Nat->Prop)(B:Nat)(hc:Array Obj):Array Obj:=Array.ofFn (n:=B) fun k=>
 match hc[k.1]? with
 |some (.cells c t _)=>@ite _ (R k.1) (dG _) ( .cells c t (0,c.size)) (@ite _ (O k.1) (dG _) (.pending c t) (.cells #[] 0))
 |_=>.cells #[] 0
theorem Fp(R O:Nat->Prop)(B:Nat)(hc:Array Obj):(jo Classical.propDecidable R O B hc).size=B:=by simp[jo]
theorem Nh{R O:Nat->Prop}{B:Nat}{hc:Array Obj}(hk:k<B){c:Array YN}{t:YT}{z:Nat×Nat}(h:hc[k]?=some (.cells c t z)):(R k->(jo Classical.propDecidable R O B hc)[k]?=some (.cells c t (0,c.size)))/\(¬R k->O k->(jo Classical.propDecidable R O B hc)[k]?=some (.pending c t)):=by
 have aj:k<(jo Classical.propDecidable R O B hc).size:=by rw[Fp];exact hk
 rw[XW aj];simp only[jo,Array.getElem_ofFn,h];exact⟨fun hR=>by rw[YH hR],fun hR hO=>by rw[YG hR,YH hO]⟩
structure uE(R O:Nat->Prop)(B:Nat)(os:Os)(hc:Array Obj):Prop where
 ro:∀ k,R k->k<B/\∃ c t,hc[k]?=some (.cells c t (0,0))/\∀ v,v∈c->ah (env π B R O os) B v/\Ib v
 op:∀ k,O k->k<B/\∃ c t,hc[k]?=some (.cells c t (0,0))/\0<c.size
 no:∀ k,R k->¬O k
 g:R π.globals.size
 gs:∀ g,g<π.globals.size->R g\/O g
section
variable {R O:Nat->Prop}{B:Nat}{os:Os}
theorem mL.begin{w0 w:YM}(h:uE R O B os w0.1)(he:∀ k,R k\/O k->w.1[k]?=w0.1[k]?)(hB:B<=w.1.size)(bG:w.os=os){g:Zt}(hT:tF.contains g=true)(ha:bj (env π B R O os) B args):
  mL (env π B R O os) tM ([Y8 π g args .normal],jo Classical.propDecidable R O B w0.1) (fun j=>if j<B then j else w.1.size+(j-B)) ([Y8 π g args .normal],jo Classical.propDecidable R O B w0.1) w:=by
 have hf:∀ k,k<B->(fun j=>if j<B then j else w.1.size+(j-B)) k=k:=fun k hk=>YH hk
 have F:Fit (env π B R O os) (fun j=>if j<B then j else w.1.size+(j-B)):=by
  refine⟨fun a b e=>?_,hf,fun k hk=>(h.ro k hk).1,fun k hk=>(h.op k hk).1,h.no,zfA⟩;split at e<;>split at e<;>omega
 have bm:=Fp R O B w0.1;refine⟨F,⟨fun k o hk ho=>?_,fun k hk=>?_,fun k hk=>?_,by rw[bm];exact Yp _,fun j hj=>?_⟩,bG,⟨fun fr az=>?_,?_⟩,0,[],Reach.zero⟩
 ·have:k<B:=by
   rcases Ys k (jo Classical.propDecidable R O B w0.1).size with aj|dX
   ·omega
   ·rw[XX dX]at ho;cases ho
  exact absurd this (zzd.2 hk)
 ·obtain⟨h1,c,t,h2,h3⟩:=h.ro k hk;refine⟨c,t,(Nh h1 h2).1 hk,(he k (.inl hk)).trans h2,fun v hv=>?_⟩;obtain⟨q1,q2⟩:=h3 v hv;have zZ:Ag (env π B R O os) B (fun j=>if j<B then j else w.1.size+(j-B)) id:=⟨fun k hk=>hf k (h.ro k hk).1,fun k hk=>hf k (h.op k hk).1,fun k hk=>hf k hk.2⟩;refine⟨by rw[bm];exact q1,q2,?_⟩;rw[rY zZ v q1];exact Cp v
 ·obtain⟨h1,c,t,h2,h3⟩:=h.op k hk;exact⟨c,t,c,(Nh h1 h2).2 (fun hR=>h.no k hR hk) hk,(he k (.inr hk)).trans h2,rfl,h3⟩
 ·rw[bm]at hj⊢;rw[YG oQ];omega
 ·cases az with
  |head=>exact okF.enter (codeOk h.gs) hT (by rw[bm];exact ha) (.inl rfl)
  |tail _ h=>cases h
 ·exact⟨rfl,rfl⟩
end
variable (pG:Y2)
def bZ(main:Bool)(g:YP):YP:=match YV pG main g default with
 |.go g' _ _=>g'
 |_=>g
def ax(main:Bool):Nat->YP->YP
 | 0,g=>g
 |n+1,g=>ax main n (bZ pG main g)
def nL(main:Bool):Nat->YP->Prop
 | 0,_=>True
 |n+1,g=>(g.status=.running/\∀ w,YV π main g w=.go (bZ π main g) w #[])/\nL main n (bZ π main g)
theorem sP{m:Bool}{n:Nat}{g:YP}(h:nL m n g:=by(repeat(refine⟨⟨kQ,fun w=>kQ⟩,?_⟩));trivial):nL m n g:=h
theorem Wk.bB{main:Bool}{K:YM->Prop}{Ok:YX->Prop}{Stop:YP->Prop}{m:Nat}:∀(n:Nat)(g:YP),nL main n g->Wk π main K Ok Stop m (ax π main n g)->Wk π main K Ok Stop (m+n) g
 | 0,_,_,h=>h
 |n+1,g,hs,h=>Wk.step hs.1.1 (fun w _=>hs.1.2 w) (fun e he=>by simp at he) (Wk.bB n (bZ π main g) hs.2 h)
theorem QuitsD.bB{m:Nat}:∀(n:Nat)(g:YP),nL false n g->QuitsD π m d (ax π false n g)->QuitsD π (m+n) d g
 | 0,_,_,h=>h
 |n+1,g,hs,h=>QuitsD.ctl hs.1.1 hs.1.2 (QuitsD.bB n (bZ π false g) hs.2 h)
def fin(g:YP)(v:YN):YP:={frame:=g.frame.finish v,callers:=g.callers,status:=.running,dying:=none}
abbrev Yd(m:Bool)(g:YP)(v:YN):Prop:=∀ w,YV π m g w=.go (fin g v) w #[]
def opAt(g:YP):Oper:=match g.frame.todo with
 |.inRegion au (i::_)::_=>au.getD i default
 |_=>default
def fe(g:YP):Bool:=match g.status,g.dying,g.offers,g.frame.mode,g.frame.roundOf,g.frame.todo with
 |.running,none,none,.run,none,.inRegion au (i::_)::_=>(au[i]?).isSome&&zuO (au.getD i default) (yielded au g.frame.tmps)&&g.frame.kind != .early
 |_,_,_,_,_,_=>false
abbrev Ix(g:YP)(s:Sem Next):Prop:=∀ w,fe g=true/\g.status=.running/\(Zf g.frame.eval (opAt g)).runT π w #[]=s.runT π w #[]
abbrev Ld(g:YP)(f:Zt)(s:Sem Next):Prop:=∀ w,fe g=true/\g.frame.fn=f/\(Zf g.frame.eval (opAt g)).runT π w #[]=s.runT π w #[]
def typesOf:Op->Array YT
 |.call c=>c.argTypes
 |_=>#[]
theorem uF{g:YP}(h:fe g=true):∃ au i rest k,g=G (g.frame.at ⟨g.frame.tmps,g.frame.defers⟩ (.inRegion au (i::rest)::k)) g.callers/\au[i]?=some (opAt g)/\zuO (opAt g) (yielded au g.frame.tmps)=true/\g.frame.kind≠.early/\∀ v,G (g.frame.at (Act.put ⟨g.frame.tmps,g.frame.defers⟩ (opAt g).dst v) (.inRegion au rest::k)) g.callers=fin g v:=by
 obtain⟨fr,cs,st,dy,of⟩:=g;unfold fe at h;simp only at h;split at h
 ·rename_i au i rest k hm iU ht;simp only[X6,zsD,ne_eq]at h;obtain⟨⟨h1,h2⟩,h3⟩:=h;obtain⟨o,ho⟩:=Option.isSome_iff_exists.1 h1;have e1:opAt ⟨fr,cs,.running,none,none⟩=o:=by
   simp only[opAt,ht,zvD,ho,Option.getD_some]
  have e2:au.getD i default=o:=by rw[zvD,ho];rfl
  rw[e2]at h2;have e3:fr.at ⟨fr.tmps,fr.defers⟩ (.inRegion au (i::rest)::k)=fr:=by
   rw[<-ht];obtain⟨a1,a2,a3,a4,a5,a6,a7⟩:=fr;simp only at hm iU;subst hm;subst iU;rfl
  refine⟨au,i,rest,k,?_,by rw[e1];exact ho,by rw[e1];exact h2,h3,fun v=>?_⟩
  ·show _=G _ _;rw[e3];rfl
  ·have:=Frame.finish_at fr ⟨fr.tmps,fr.defers⟩ au i rest k v;rw[e3,ho]at this;rw[e1];simp only[zsz]at this;unfold fin;simp only[this];rfl
 ·cases h
section
variable {main:Bool}{g:YP}{w:YM}{f:Zt}{fn:Func}
theorem Ak(h:fe g=true)(hr:(Zf g.frame.eval (opAt g)).run π w=.ok (.value v) w'):YV π main g w=.go (fin g v) w' (seen π g.frame.fn ((Zf g.frame.eval (opAt g)).events π w #[])):=by
 obtain⟨au,i,rest,k,e,h1,h2,h3,h4⟩:=uF h;have he:Act.eval ⟨g.frame.tmps,g.frame.defers⟩=g.frame.eval:=rfl;have:=stepG_value (P:=π) (main:=main) (b:=g.frame) (a:=⟨g.frame.tmps,g.frame.defers⟩) (k:=k) (cs:=g.callers) (rest:=rest) (w:=w) (v:=v) (w':=w') h1 h2 h3 (by rw[he];exact hr);rw[<-e,h4]at this;exact this
theorem Um(h:fe g=true)(hr:(Zf g.frame.eval (opAt g)).run π w=.ok .skip w'):YV π main g w=.go (fin g YY) w' (seen π g.frame.fn ((Zf g.frame.eval (opAt g)).events π w #[])):=by
 obtain⟨au,i,rest,k,e,h1,h2,h3,h4⟩:=uF h;have he:Act.eval ⟨g.frame.tmps,g.frame.defers⟩=g.frame.eval:=rfl;have:=stepG_none (P:=π) (main:=main) (b:=g.frame) (a:=⟨g.frame.tmps,g.frame.defers⟩) (k:=k) (cs:=g.callers) (rest:=rest) (w:=w) (w':=w') h1 h2 h3 (by rw[he];exact hr);rw[<-e,h4]at this;exact this
variable {x y z:Operand}
theorem Ni(h:fe g=true)(hf:π.funcs[f]?=some fn)(xM:(fn.name == "runtime.NumGoroutine")=false)(hb:fn.body.isNone=true)(hn:zvL fn=none)(hop:(opAt g).op=.call {callee:=.value (.func f),args:=#[x],argTypes:=typesOf (opAt g).op})(he:Zx fn=some (Extern.Atomic.loadT (.int .u64))){v:Int}(hx:g.frame.eval x=.pointer (some ad))(hc:w.cell? ad=some (.int .u64 v)):
  YV π main g w=.go (fin g (.int .u64 v)) w #[⟨.cell ad,false,true⟩]:=by
 obtain⟨au,i,rest,k,e,h1,h2,h3,h4⟩:=uF h;have:=stepG_load_atomic (P:=π) (main:=main) (b:=g.frame) (a:=⟨g.frame.tmps,g.frame.defers⟩) (kk:=k) (cs:=g.callers) (rest:=rest) h1 h2 h3 hop hf xM hb hn .u64 he hx hc;rw[<-e,h4]at this;exact this
theorem zfE(h:fe g=true)(hf:π.funcs[f]?=some fn)(xM:(fn.name == "runtime.NumGoroutine")=false)(hb:fn.body.isNone=true)(hn:zvL fn=none)(hop:(opAt g).op=.call {callee:=.value (.func f),args:=#[x,y],argTypes:=typesOf (opAt g).op})(he:Zx fn=some Extern.Atomic.storeT){v:Int}(hx:g.frame.eval x=.pointer (some ad))(hy:g.frame.eval y=.int .u64 v)(hc:w.cell? ad=some u)(hz:w.frozen? ad=false):
  YV π main g w=.go (fin g (.tuple #[])) (w.setCell ad (.int .u64 v)) #[⟨.cell ad,true,true⟩]:=by
 obtain⟨au,i,rest,k,e,h1,h2,h3,h4⟩:=uF h;have:=stepG_store_atomic (P:=π) (main:=main) (b:=g.frame) (a:=⟨g.frame.tmps,g.frame.defers⟩) (kk:=k) (cs:=g.callers) (rest:=rest) h1 h2 h3 hop hf xM hb hn he hx hy hc hz;rw[<-e,h4]at this;exact this
theorem Un(h:fe g=true)(hf:π.funcs[f]?=some fn)(xM:(fn.name == "runtime.NumGoroutine")=false)(hb:fn.body.isNone=true)(hn:zvL fn=none)(hop:(opAt g).op=.call {callee:=.value (.func f),args:=#[x,y],argTypes:=typesOf (opAt g).op})(he:Zx fn=some (Extern.Atomic.update (Op.intArith .add) .u64 true)){v d n:Int}(hx:g.frame.eval x=.pointer (some ad))(hy:g.frame.eval y=.int .u64 d)(hc:w.cell? ad=some (.int .u64 v))(hz:w.frozen? ad=false)(hs:IntKind.u64.wrap (v+d)=n):
  YV π main g w=.go (fin g (.int .u64 n)) (w.setCell ad (.int .u64 n)) #[⟨.cell ad,false,true⟩,⟨.cell ad,true,true⟩]:=by
 obtain⟨au,i,rest,k,e,h1,h2,h3,h4⟩:=uF h;have:=stepG_add_atomic (P:=π) (main:=main) (b:=g.frame) (a:=⟨g.frame.tmps,g.frame.defers⟩) (kk:=k) (cs:=g.callers) (rest:=rest) h1 h2 h3 hop hf xM hb hn .u64 he hx hy hc hz;rw[<-e,h4,hs]at this;exact this
theorem zfF(h:fe g=true)(hf:π.funcs[f]?=some fn)(xM:(fn.name == "runtime.NumGoroutine")=false)(hb:fn.body.isNone=true)(hn:zvL fn=none)(hop:(opAt g).op=.call {callee:=.value (.func f),args:=#[x,y,z],argTypes:=typesOf (opAt g).op})(he:Zx fn=some (zAJ (.int .u64))){v n:Int}(hx:g.frame.eval x=.pointer (some ad))(hy:g.frame.eval y=.int .u64 v)(Q8:g.frame.eval z=.int .u64 n)(hc:w.cell? ad=some (.int .u64 v))(hz:w.frozen? ad=false):
  YV π main g w=.go (fin g (.bool true)) (w.setCell ad (.int .u64 n)) #[⟨.cell ad,false,true⟩,⟨.cell ad,true,true⟩]:=by
 obtain⟨au,i,rest,k,e,h1,h2,h3,h4⟩:=uF h;have:=stepG_cas_hit (P:=π) (main:=main) (b:=g.frame) (a:=⟨g.frame.tmps,g.frame.defers⟩) (kk:=k) (cs:=g.callers) (rest:=rest) h1 h2 h3 hop hf xM hb hn .u64 he hx hy Q8 hc hz;rw[<-e,h4]at this;exact this
theorem zfG(h:fe g=true)(hf:π.funcs[f]?=some fn)(xM:(fn.name == "runtime.NumGoroutine")=false)(hb:fn.body.isNone=true)(hn:zvL fn=none)(hop:(opAt g).op=.call {callee:=.value (.func f),args:=#[x,y,z],argTypes:=typesOf (opAt g).op})(he:Zx fn=some (zAJ (.int .u64))){v old n:Int}(hx:g.frame.eval x=.pointer (some ad))(hy:g.frame.eval y=.int .u64 old)(Q8:g.frame.eval z=.int .u64 n)(hc:w.cell? ad=some (.int .u64 v))(hz:w.frozen? ad=false)(aW:¬v=old):
  YV π main g w=.go (fin g (.bool false)) w #[⟨.cell ad,false,true⟩]:=by
 obtain⟨au,i,rest,k,e,h1,h2,h3,h4⟩:=uF h;have:=stepG_cas_miss (P:=π) (main:=main) (b:=g.frame) (a:=⟨g.frame.tmps,g.frame.defers⟩) (kk:=k) (cs:=g.callers) (rest:=rest) h1 h2 h3 hop hf xM hb hn .u64 he hx hy Q8 hc hz aW;rw[<-e,h4]at this;exact this
variable {xs:Array Operand}
theorem zfH(h:fe g=true)(hf:π.funcs[f]?=some fn)(xM:(fn.name == "runtime.NumGoroutine")=false)(hb:fn.body.isNone=true)(hn:zvL fn=none)(hop:(opAt g).op=.call {callee:=.value (.func f),args:=xs,argTypes:=typesOf (opAt g).op})(he:Zx fn=some zAK)(hx:(xs.map g.frame.eval)[0]?=some (.pointer (some ad)))(hc:w.cell? ad=some (.int .u32 1))(hz:w.frozen? ad=false):
  YV π main g w=.go (fin g (.tuple #[])) (w.setCell ad (.int .u32 0)) (zsM ad):=by
 obtain⟨au,i,rest,k,e,h1,h2,h3,h4⟩:=uF h;have:=stepG_semacquire (P:=π) (main:=main) (b:=g.frame) (a:=⟨g.frame.tmps,g.frame.defers⟩) (kk:=k) (cs:=g.callers) (rest:=rest) h1 h2 h3 hop hf xM hb hn he hx hc dQ hz;rw[<-e,h4]at this;exact this
theorem zfI(h:fe g=true)(hf:π.funcs[f]?=some fn)(xM:(fn.name == "runtime.NumGoroutine")=false)(hb:fn.body.isNone=true)(hn:zvL fn=none)(hop:(opAt g).op=.call {callee:=.value (.func f),args:=xs,argTypes:=typesOf (opAt g).op})(he:Zx fn=some zAK)(hx:(xs.map g.frame.eval)[0]?=some (.pointer (some ad)))(hc:w.cell? ad=some (.int .u32 0)):
  YV π main g w=.go {g with status:=.blocked} w #[]:=by
 obtain⟨au,i,rest,k,e,h1,h2,h3,h4⟩:=uF h;have:=stepG_semacquire_wait (P:=π) (main:=main) (b:=g.frame) (a:=⟨g.frame.tmps,g.frame.defers⟩) (kk:=k) (cs:=g.callers) (rest:=rest) h1 h2 hop hf xM hb hn he hx hc;rw[<-e]at this;exact this
theorem zfJ(h:fe g=true)(hf:π.funcs[f]?=some fn)(xM:(fn.name == "runtime.NumGoroutine")=false)(hb:fn.body.isNone=true)(hn:zvL fn=none)(hop:(opAt g).op=.call {callee:=.value (.func f),args:=xs,argTypes:=typesOf (opAt g).op})(he:Zx fn=some Extern.Sync.semrelease)(hx:(xs.map g.frame.eval)[0]?=some (.pointer (some ad)))(hc:w.cell? ad=some (.int .u32 0))(hz:w.frozen? ad=false):
  YV π main g w=.go (fin g (.tuple #[])) (w.setCell ad (.int .u32 1)) (zsM ad):=by
 obtain⟨au,i,rest,k,e,h1,h2,h3,h4⟩:=uF h;have:=stepG_semrelease (P:=π) (main:=main) (b:=g.frame) (a:=⟨g.frame.tmps,g.frame.defers⟩) (kk:=k) (cs:=g.callers) (rest:=rest) h1 h2 h3 hop hf xM hb hn he hx hc hz;rw[<-e,h4]at this;exact this
end
def lA(a:YQ):Sem Next:=load a .plain >>= fun v=>pure (.value v)
def yi(a:YQ)(v:YN):Sem Next:=store a v .plain >>= fun _=>pure .skip
def Cq(a b:YQ)(v u:YN):Sem Next:=store a v .plain >>= fun _=>store b u .plain >>= fun _=>pure .skip
section
variable {main:Bool}{g:YP}{w:YM}
theorem wI{s s':Sem Next}{w:YM}(h:s.runT π w #[]=s'.runT π w #[]):s.run π w=s'.run π w/\s.events π w #[]=s'.events π w #[]:=by
 refine⟨?_,?_⟩
 ·rw[<-Sem.runT_fst π s w #[],<-Sem.runT_fst π s' w #[],h]
 ·exact YC Prod.snd h
theorem k_ld(h:fe g=true)(hs:(Zf g.frame.eval (opAt g)).runT π w #[]=(lA a).runT π w #[])(hc:w.cell? a=some v)(hq:seen π g.frame.fn #[⟨.cell a,false,false⟩]=#[⟨.cell a,false,false⟩]):YV π main g w=.go (fin g v) w #[⟨.cell a,false,false⟩]:=by
 obtain⟨h1,h2⟩:=wI hs;have e1:(lA a).run π w=.ok (.value v) w:=by simp[lA,hc]
 have e2:(lA a).events π w #[]=#[⟨.cell a,false,false⟩]:=by simp[lA,hc]
 have:=Ak (main:=main) h (h1.trans e1);rw[h2,e2,hq]at this;exact this
theorem Nj(h:fe g=true)(hs:(Zf g.frame.eval (opAt g)).runT π w #[]=(yi a u).runT π w #[])(hu:u.oneCell'=true)(hc:w.cell? a=some v)(hz:w.frozen? a=false)(hq:seen π g.frame.fn #[⟨.cell a,true,false⟩]=#[⟨.cell a,true,false⟩]):YV π main g w=.go (fin g YY) (w.setCell a u) #[⟨.cell a,true,false⟩]:=by
 obtain⟨h1,h2⟩:=wI hs;have e1:(yi a u).run π w=.ok .skip (w.setCell a u):=by simp[yi,zu1 _ w a u .plain hu,hc,hz]
 have e2:(yi a u).events π w #[]=#[⟨.cell a,true,false⟩]:=by simp[yi,zzK _ w _ a u .plain hu,hc,hz]
 have:=Um (main:=main) h (h1.trans e1);rw[h2,e2,hq]at this;exact this
theorem zfK(h:fe g=true){b:YQ}{u':YN}(hs:(Zf g.frame.eval (opAt g)).runT π w #[]=(Cq a b u u').runT π w #[]){v':YN}(hu:u.oneCell'=true)(uG:u'.oneCell'=true)(ud:a≠b)(hc:w.cell? a=some v)(jO:w.cell? b=some v')(hz:w.frozen? a=false)(Q2:w.frozen? b=false)(hq:seen π g.frame.fn #[⟨.cell a,true,false⟩,⟨.cell b,true,false⟩]=#[⟨.cell a,true,false⟩,⟨.cell b,true,false⟩]):
  YV π main g w=.go (fin g YY) ((w.setCell a u).setCell b u') #[⟨.cell a,true,false⟩,⟨.cell b,true,false⟩]:=by
 obtain⟨h1,h2⟩:=wI hs;have gX:(w.setCell a u).cell? b=some v':=by rw[World.cell?_setCell_other _ _ _ _ ud];exact jO
 have bK:(w.setCell a u).frozen? b=false:=by rw[World.frozen?_setCell];exact Q2
 have e1:(Cq a b u u').run π w=.ok .skip ((w.setCell a u).setCell b u'):=by simp[Cq,zu1 _ w a u .plain hu,zu1 _ (w.setCell a u) b u' .plain uG,hc,hz,gX,bK]
 have e2:(Cq a b u u').events π w #[]=#[⟨.cell a,true,false⟩,⟨.cell b,true,false⟩]:=by simp[Cq,zzK _ w _ a u .plain hu,zzK _ (w.setCell a u) _ b u' .plain uG,zu1 _ w a u .plain hu,hc,hz,gX,bK]
 have:=Um (main:=main) h (h1.trans e1);rw[h2,e2,hq]at this;exact this
end
open Go.ConcN (st_flag st_waiters)
variable (pG:Y2)
def ptr(b:Nat):YN:=pQ b
section
variable (Wg:Nat)(cs:List Frame)
set_option maxRecDepth 100000
def n0:YP:={frame:=Y8 pG 66 #[ptr Wg,iQ (-1)] .normal,callers:=cs,status:=.running,dying:=none}
def n1:YP:=ax pG false 11 (n0 pG Wg cs)
def n2:YP:=fin (n1 pG Wg cs) (ptr Wg)
theorem zfL(w:YM):YV π false (n2 π Wg cs) w=.go (bZ π false (n2 π Wg cs)) w #[mk (.releaseMerge (stA Wg))]:=kQ
def n3:YP:=ax pG false 3 (bZ pG false (n2 pG Wg cs))
theorem zfM(w:YM):YV π false (n3 π Wg cs) w=.go (bZ π false (n3 π Wg cs)) w #[mk .disable]:=kQ
def n4:YP:=ax pG false 34 (bZ pG false (n3 pG Wg cs))
theorem Nk:fe (n4 π Wg cs)=true/\(n4 π Wg cs).frame.eval (.tmp 7)=.pointer (some (stA Wg))/\(n4 π Wg cs).frame.eval (.tmp 8)=.int .u64 18446744069414584320:=⟨kQ,kQ,kQ⟩
theorem zfN:(opAt (n4 π Wg cs)).op=.call {callee:=.value (.func 165),args:=#[.tmp 7,.tmp 8],argTypes:=typesOf (opAt (n4 π Wg cs)).op}:=kQ
theorem zfO{w:YM}{v d:Int}(hc:w.cell? (stA Wg)=some (.int .u64 v))(hz:w.frozen? (stA Wg)=false)(hs:IntKind.u64.wrap (v+18446744069414584320)=d):YV π false (n4 π Wg cs) w=.go (fin (n4 π Wg cs) (.int .u64 d)) (w.setCell (stA Wg) (.int .u64 d)) #[rd (stA Wg),wr (stA Wg)]:=
 Un (Nk Wg cs).1 func165 kQ kQ kQ (zfN Wg cs) kQ (Nk Wg cs).2.1 (Nk Wg cs).2.2 hc hz hs
def m0(X:Int):YP:=fin (n4 pG Wg cs) (.int .u64 X)
def m1(X:Int):YP:=ax pG false 10 (m0 pG Wg cs X)
theorem zfP(X:Int):Yd false (m1 π Wg cs X) (.int .u64 (bits .and .u64 X 2147483648)):=fun w=>kQ
def m2(X:Int):YP:=ax pG false 11 (fin (m1 pG Wg cs X) (.int .u64 0))
theorem zfQ(X:Int):Yd false (m2 π Wg cs X) (.int .u64 (X.fdiv 4294967296)):=fun w=>kQ
theorem zfR(X V:Int):Yd false (fin (m2 π Wg cs X) (.int .u64 V)) (.int .i32 (IntKind.i32.wrap V)):=fun w=>kQ
def m3(X V:Int):YP:=ax pG false 5 (fin (fin (m2 pG Wg cs X) (.int .u64 V)) (.int .i32 V))
theorem zfS(X V:Int):Yd false (m3 π Wg cs X V) (.int .u64 (bits .and .u64 X 2147483647)):=fun w=>kQ
def Jb(X V:Int):YP:=ax pG false 23 (fin (m3 pG Wg cs X V) (.int .u64 0))
theorem zfT(X V:Int):Yd false (Jb π Wg cs X V) (.bool (decide (V<0))):=fun w=>kQ
def pP(X V:Int):YP:=ax pG false 25 (fin (Jb pG Wg cs X V) (.bool false))
theorem zfU(X V:Int):Yd false (pP π Wg cs X V) (.bool (decide (V>0))):=fun w=>kQ
def Fq(X V:Int):YP:=ax pG false 7 (fin (pP pG Wg cs X V) (.bool true))
theorem zfV(X V:Int)(w:YM):YV π false (Fq π Wg cs X V) w=.go (bZ π false (Fq π Wg cs X V)) w #[mk .enable]:=kQ
def Fu(X V:Int):YP:=ax pG false 7 (fin (pP pG Wg cs X V) (.bool false))
theorem zfW(X V:Int)(w:YM):YV π false (Fu π Wg cs X V) w=.go (bZ π false (Fu π Wg cs X V)) w #[mk .enable]:=kQ
def Fv(X V:Int):YP:=ax pG false 23 (fin (m3 pG Wg cs X V) (.int .u64 1))
theorem Uo(X V:Int):Yd false (Fv π Wg cs X V) (.bool (decide (V<0))):=fun w=>kQ
def Al(X V:Int):YP:=ax pG false 25 (fin (Fv pG Wg cs X V) (.bool false))
theorem Up(X V:Int):Yd false (Al π Wg cs X V) (.bool (decide (V>0))):=fun w=>kQ
def Fw(X V:Int):YP:=ax pG false 7 (fin (Al pG Wg cs X V) (.bool true))
theorem zfX(X V:Int)(w:YM):YV π false (Fw π Wg cs X V) w=.go (bZ π false (Fw π Wg cs X V)) w #[mk .enable]:=kQ
def p0:YP:=ax pG false 23 (fin (Al pG Wg cs 1 0) (.bool false))
theorem zfY{w:YM}{v:Int}(hc:w.cell? (stA Wg)=some (.int .u64 v)):YV π false (p0 π Wg cs) w=.go (fin (p0 π Wg cs) (.int .u64 v)) w #[rd (stA Wg)]:=
 Ni (x:=.tmp 5) kQ func166 kQ kQ kQ kQ kQ kQ hc
def p1:YP:=ax pG false 20 (fin (p0 pG Wg cs) (.int .u64 1))
theorem zfZ{w:YM}(hc:w.cell? (stA Wg)=some v)(hz:w.frozen? (stA Wg)=false):YV π false (p1 π Wg cs) w=.go (fin (p1 π Wg cs) (.tuple #[])) (w.setCell (stA Wg) (.int .u64 0)) #[wr (stA Wg)]:=
 zfE (x:=.tmp 6) (y:=.tmp 7) kQ func167 kQ kQ kQ kQ kQ kQ kQ hc hz
def p2:YP:=ax pG false 27 (fin (p1 pG Wg cs) (.tuple #[]))
theorem zf0{w:YM}(hc:w.cell? (smA Wg)=some (.int .u32 0))(hz:w.frozen? (smA Wg)=false):YV π false (p2 π Wg cs) w=.go (fin (p2 π Wg cs) (.tuple #[])) (w.setCell (smA Wg) (.int .u32 1)) (zsM (smA Wg)):=
 zfJ (xs:=#[.tmp 115,.const (.bool false),.const (iQ 0)]) kQ func114 kQ kQ kQ kQ kQ kQ hc hz
theorem zf1:mayWake π (p2 π Wg cs)=true:=kQ
def p3:YP:=ax pG false 17 (fin (p2 pG Wg cs) (.tuple #[]))
theorem zf2(w:YM):YV π false (p3 π Wg cs) w=.go (bZ π false (p3 π Wg cs)) w #[mk .enable]:=kQ
end
end Go.Proofs.YtaablbmgagiajabGreatDoor.Ren
