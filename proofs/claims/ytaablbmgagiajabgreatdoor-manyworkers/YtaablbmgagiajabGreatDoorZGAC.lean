import Derived.Test.YtaablbmgagiajabGreatDoorZGAB
set_option maxHeartbeats 4000000
set_option maxRecDepth 20000
open Go.RowKit renaming Below->YO,wrap64->Zs
open Go.RowKit.Below renaming heap_alloc->Za,heap_setCell->Zb,refl->YS
open Go.BinOp renaming andNot->ztx,or->zt7
open Go.IntKind renaming i64->Zy
open Go renaming Value->YN,World->YM
open Go.World renaming cell?_alloc_at->zvu,cell?_alloc_past->zuT,grownBy_alloc->zB7
namespace Go.Proofs.YtaablbmgagiajabGreatDoor
open Go.Proofs.Tryz
open Go.RowKit Go.Deep
variable{M c cg g i k n p v:Nat}{d s:Int}{r:Option Nat}{w:YM}{zs:List Int}
def aB(S:St):Array YN:=#[iQ (S.set:Int),iQ (S.used 0:Int),iQ (S.used 1:Int),iQ (S.used 2:Int),iQ (S.used 3:Int),iQ (S.used 4:Int),iQ (S.used 5:Int),iQ (S.used 6:Int),iQ (S.used 7:Int),
 iQ (S.idle 0),iQ (S.idle 1),iQ (S.idle 2),iQ (S.idle 3),iQ (S.idle 4),iQ (S.idle 5),iQ (S.idle 6),iQ (S.idle 7)]
theorem zko(S:St):(aB S)[0]?=some (iQ (S.set:Int)):=rfl
theorem zkp(S:St)(i:Nat)(h:i<8):(aB S)[1+i]?=some (iQ (S.used i:Int)):=by
 match i,h with
 | 0,_=>rfl | 1,_=>rfl | 2,_=>rfl | 3,_=>rfl | 4,_=>rfl | 5,_=>rfl | 6,_=>rfl | 7,_=>rfl
theorem zkq(S:St)(i:Nat)(h:i<8):(aB S)[9+i]?=some (iQ (S.idle i)):=by
 match i,h with
 | 0,_=>rfl | 1,_=>rfl | 2,_=>rfl | 3,_=>rfl | 4,_=>rfl | 5,_=>rfl | 6,_=>rfl | 7,_=>rfl
theorem zkr(S:St)(m:Nat):(aB S).setIfInBounds 0 (iQ (m:Int))=aB ⟨m,S.used,S.idle⟩:=rfl
theorem zks(S:St)(i u:Nat)(h:i<8):(aB S).setIfInBounds (1+i) (iQ (u:Int))=aB ⟨S.set,upd S.used i u,S.idle⟩:=by
 match i,h with
 | 0,_=>rfl | 1,_=>rfl | 2,_=>rfl | 3,_=>rfl | 4,_=>rfl | 5,_=>rfl | 6,_=>rfl | 7,_=>rfl
theorem zkt(S:St)(i:Nat)(t:Int)(h:i<8):(aB S).setIfInBounds (9+i) (iQ t)=aB ⟨S.set,S.used,upd S.idle i t⟩:=by
 match i,h with
 | 0,_=>rfl | 1,_=>rfl | 2,_=>rfl | 3,_=>rfl | 4,_=>rfl | 5,_=>rfl | 6,_=>rfl | 7,_=>rfl
def ck(w:YM)(q:Nat)(S:St):Prop:=w.1[q]?=some (.cells (aB S) 34 (0,0))
theorem ck.set{q:Nat}{S:St}(h:ck w q S):w.cell? (aQ q 0)=some (iQ (S.set:Int)):=(ay h 0).trans (zko S)
theorem ck.used{q:Nat}{S:St}(h:ck w q S)(hi:i<8):w.cell? (aQ q (1+i))=some (iQ (S.used i:Int)):=(ay h _).trans (zkp S i hi)
theorem ck.idle{q:Nat}{S:St}(h:ck w q S)(hi:i<8):w.cell? (aQ q (9+i))=some (iQ (S.idle i)):=(ay h _).trans (zkq S i hi)
theorem ck.free{q:Nat}{S:St}(h:ck w q S)(i:Nat):w.frozen? (aQ q i)=false:=fL h i
theorem ck.AG{q:Nat}{S:St}(h:ck w q S)(m:Nat):ck (w.setCell (aQ q 0) (iQ (m:Int))) q ⟨m,S.used,S.idle⟩:=(fZ h _ _).trans (by rw[zkr])
theorem ck.sR{q:Nat}{S:St}(h:ck w q S)(hi:i<8)(u:Nat):ck (w.setCell (aQ q (1+i)) (iQ (u:Int))) q ⟨S.set,upd S.used i u,S.idle⟩:=(fZ h _ _).trans (by rw[zks S i u hi])
theorem ck.mY{q:Nat}{S:St}(h:ck w q S)(hi:i<8)(t:Int):ck (w.setCell (aQ q (9+i)) (iQ t)) q ⟨S.set,S.used,upd S.idle i t⟩:=(fZ h _ _).trans (by rw[zkt S i t hi])
theorem ck.lt{q:Nat}{S:St}(h:ck w q S):q<w.1.size:=bp h
theorem OH{w1 w2:YM}(h:w.grownBy w1 r)(k:w1.grownBy w2 r):w.grownBy w2 r:=
 ⟨k.os.trans h.os,k.tape.trans h.tape,k.output.trans h.output,Yq h.size k.size,fun i hi aW=>(k.block i (Yr hi h.size) aW).trans (h.block i hi aW)⟩
theorem OI(w:YM)(q i:Nat)(u:YN):w.grownBy (w.setCell (aQ q i) u) (some q):=
 ⟨rfl,rfl,rfl,by simp[World.setCell],fun k _ aW=>Zb _ _ _ _ (fun e=>aW (by rw[show k=q from e]))⟩
theorem WI{w1:YM}(h:w.grownBy w1 r)(k:Nat):w.grownBy (w1.drewN k) r:=⟨h.os,h.tape,h.output,h.size,h.block⟩
def rt(zs:List Int)(i:Nat):Nat:=(zs[i]?.getD 0).toNat
theorem gz.grown{wx:YM}{q:Nat}(h:gz w p s d n zs g cg M)(hp:p≠q)(hg:g≠q)(hM:M≠q)(hB:w.grownBy wx (some q)):gz wx p s d n zs g cg M:=
 ⟨(hB.block p h.kh (by simpa using hp)).trans h.blk,h.len,h.cap,Yr h.eV hB.size,fun k hk=>(World.cell?_of_block (w:=w) (hB.block g h.eV (by simpa using hg))).trans (h.row k hk),h.CQ.of_block (hB.block M h.mlt (by simpa using hM)),h.ok⟩
theorem zku(h:cw s zs d=(0,-1))(k:Nat)(hk:k<zs.length):1<=zs[k]?.getD 0/\zs[k]?.getD 0<=top s:=by
 have hr:=oO h;unfold cw at h;rw[YH hr]at h;have hn:jX (pS s zs) zs.length=none:=by
  cases hf:jX (pS s zs) zs.length with
  |none=>rfl
  |some i=>rw[hf]at h;simp at h
 have jP:∀ n,jX (pS s zs) n=none->∀ k,k<n->pS s zs k=false:=by
  intro n;induction n with
  |zero=>intro _ k hk;omega
  |succ n ih=>
   intro hn k hk;unfold jX at hn;cases hf:jX (pS s zs) n with
   |some i=>rw[hf]at hn;simp at hn
   |none=>
    rw[hf]at hn;by_cases e:k=n
    ·subst e;cases hb:pS s zs k
     ·rfl
     ·rw[hb]at hn;simp at hn
    ·exact ih hf k oQ
 have:=jP _ hn k hk;unfold pS at this;exact(mj _ _ _).1 (by simpa using this)
theorem CR(h:cw s zs d=(0,-1))(hk:k<zs.length):zs[k]?.getD 0=((rt zs k:Nat):Int)/\rt zs k<2^s.toNat/\rt zs k<4096/\0<rt zs k:=by
 obtain⟨h1,h2⟩:=zku h k hk;have hr:=oO h;unfold jY at hr;simp only[X6,mj]at hr;unfold rt;unfold top at h2;have hp:2^s.toNat<=2^12:=Yt dQ oQ;have hq:0<2^s.toNat:=Yu _;omega
theorem gz.at(h:gz w p s d n zs g cg M)(hk:k<n):∃ r:Nat,Hid (rt zs k=r)/\(r<4096/\0<r)/\w.cell? (aQ g k)=some (iQ (r:Int)):=by
 have dB:k<zs.length:=by rw[h.len];exact hk
 obtain⟨h1,_,h3⟩:=CR h.ok dB;refine⟨_,ae rfl,h3,?_⟩;have:=h.row k dB;rw[Yv,h1]at this;exact this
theorem gz.WJ(h:gz w p s d n zs g cg M)(hk:k<n):∃ c:Nat,Hid (eC zs k=c)/\c<256/\w.cell? (aQ M k)=some (iQ (c:Int)):=by
 have h8:=h.few;refine⟨_,ae rfl,?_,h.CQ.cell hk⟩;have:=Ju zs k zs.length;rw[h.len]at this;have h2:2^n<=2^8:=Yt dQ oQ;unfold eC;rw[h.len];omega
structure AH(S:St):Prop where
 set:S.set<256
 used:∀ k,S.used k<4096
 idle:∀ k,0<=S.idle k/\S.idle k<=1000000000
theorem eI(u:Nat):((u:Int)==0)=(u==0):=by rw[X7,YB,YB];omega
theorem JI{r d u1:Nat}{T:St}{t1:Int}(hs:T.set.testBit i=true)(hu:yu r c (T.used i)=u1)(ht:sJ v i (T.idle i)=t1)(hl:((wo r u1==0&&wo r c==0)||(u1==0&&decide ((d:Int)<t1)))=true):
  ja r d c v i T=⟨wo T.set (2^i),upd T.used i 0,upd T.idle i 0⟩:=by
 unfold ja F0;rw[YH hs,hu,ht,hl];rfl
theorem CS{r d u1:Nat}{T:St}{t1:Int}(hs:T.set.testBit i=true)(hu:yu r c (T.used i)=u1)(ht:sJ v i (T.idle i)=t1)(hl:((wo r u1==0&&wo r c==0)||(u1==0&&decide ((d:Int)<t1)))=false):
  ja r d c v i T=⟨T.set,upd T.used i u1,upd T.idle i t1⟩:=by
 unfold ja F0;rw[YH hs,hu,ht,hl];rfl
structure gR(w wr:YM)(q c v:Nat)(T:St):Prop where
 old:w.grownBy wr (some q)
 st:ck wr q T
 bx:wr.1[w.1.size]?=some (.cells #[iQ (c:Int),iQ (v:Int)] 31 (0,0))
theorem gR.sR{wr:YM}{q:Nat}{T:St}(h:gR w wr q c v T)(hq:q<w.1.size)(hi:i<8)(u:Nat):gR w (wr.setCell (aQ q (1+i)) (iQ (u:Int))) q c v ⟨T.set,upd T.used i u,T.idle⟩:=
 ⟨OH h.old (OI _ _ _ _),h.st.sR hi u,(Zb _ _ _ _ (by show w.1.size≠q;omega)).trans h.bx⟩
theorem gR.mY{wr:YM}{q:Nat}{T:St}(h:gR w wr q c v T)(hq:q<w.1.size)(hi:i<8)(t:Int):gR w (wr.setCell (aQ q (9+i)) (iQ t)) q c v ⟨T.set,T.used,upd T.idle i t⟩:=
 ⟨OH h.old (OI _ _ _ _),h.st.mY hi t,(Zb _ _ _ _ (by show w.1.size≠q;omega)).trans h.bx⟩
theorem gR.AG{wr:YM}{q:Nat}{T:St}(h:gR w wr q c v T)(hq:q<w.1.size)(m:Nat):gR w (wr.setCell (aQ q 0) (iQ (m:Int))) q c v ⟨m,T.used,T.idle⟩:=
 ⟨OH h.old (OI _ _ _ _),h.st.AG m,(Zb _ _ _ _ (by show w.1.size≠q;omega)).trans h.bx⟩
theorem gR.drew{wr:YM}{q:Nat}{T:St}(h:gR w wr q c v T):gR w wr.drew q c v T:=⟨WI h.old 1,h.st,h.bx⟩
theorem gR.drewN{wr:YM}{q:Nat}{T:St}(h:gR w wr q c v T)(k:Nat):gR w (wr.drewN k) q c v T:=⟨WI h.old k,h.st,h.bx⟩
theorem gR.x0{wr:YM}{q:Nat}{T:St}(h:gR w wr q c v T):wr.cell? (aQ w.1.size 0)=some (iQ (c:Int)):=by rw[ay h.bx];rfl
theorem gR.x1{wr:YM}{q:Nat}{T:St}(h:gR w wr q c v T):wr.cell? (aQ w.1.size 1)=some (iQ (v:Int)):=by rw[ay h.bx];rfl
theorem zkv(p q:Nat)(s:Int)(d n:Nat)(zs:List Int)(g cg M:Nat)(c v:Nat)(S:St)(w:YM)(hK:gz w p s (d:Int) n zs g cg M)(hS:ck w q S)(hp:p≠q)(hg:g≠q)(hM:M≠q)(av:AH S)(hc:c<4096)(hv:v<256):
  Calls prog 200 #[pQ p,pQ q,.agg #[iQ (c:Int),iQ (v:Int)]] w fun e w'=>
   e=.returned (.tuple #[])/\ck w' q (iA (rt zs) d c v S n)/\w.grownBy w' (some q):=by
 obtain⟨f1,f8,CU,CV,CW,CX⟩:=hK.few;have bJ:=hK.kh;have yA:=hK.eV;have fO:=hS.lt;have iZ:∀ i,w.cell? (aQ p i)=_:=fun i=>ay hK.blk i
 have k1:w.cell? (aQ p 1)=some (.slice (some (aQ g 0)) n cg):=iZ 1;have q9:gR w (w.alloc (.cells #[iQ (c:Int),iQ (v:Int)] 31)) q c v S:=⟨zB7 _ _ _,(Za _ _ _ fO).trans hS,aU _ _⟩;have HK:=ae hK;have fX:=ae av;have jD:=ae q9;clear iZ hK av q9 hS;go_enter func200,ntmps200;go_wp2_with fail
 clear k1;go_loopw [17] (fun i wr=>∃ k:Nat,k<=n/\i=iQ k/\gR w wr q c v (iA (rt zs) d c v S k)) (fun i _=>n-(intOf i).toNat)
 case atStart=>exact⟨0,Yw _,rfl,jD.o⟩
 case round=>
  clear jD;obtain⟨i,hi,rfl,hI⟩:=hrel;by_cases aj:i<n
  ·have cM:i<8:=oQ;have AJ:=HK.o.grown hp hg hM hI.old;obtain⟨r,hr,⟨BI,oM⟩,ku⟩:=AJ.at aj;clear AJ;have x0:=hI.x0;obtain⟨T,hT⟩:∃ T,Hid (iA (rt zs) d c v S i=T):=eQ;rw[hT.o]at hI;have hTs:T.set<256:=by rw[<-hT.o];exact Oa _ _ _ _ _ _ 8 fX.o.set
   have p6:=fun wx=>Gi T.set i wx oQ oQ
   have s0:=hI.st.set;have lx:iA (rt zs) d c v S (i+1)=ja r d c v i T:=by rw[<-hT.o,<-hr.o];rfl
   have ed:=ae lx;clear lx;cases hb:T.set.testBit i
   ·rw[hb]at p6;have HH:=ae p6;have nS:=ae hb;clear p6 hb;go_wp2_with (go_at_call 197;refine(bE HH _).mono ?_;rintro e w' ⟨rfl,hw⟩;obtain rfl:=hw.symm)
    go_roundw
    case rel=>exact⟨i+1,oQ,by go_num,by rw[ed.o,ja,nS.o];exact hI⟩
    case measure=>simp[intOf];omega
   ·rw[hb]at p6;have nS:=ae hb;have HH:=ae p6;clear p6 hb;obtain⟨bz,kZ⟩:∃ bz,Hid (wo r c=bz):=eQ;have e1:bits ztx Zy (r:Int) (c:Int)=(bz:Int):=by rw[yr r c oQ oQ,kZ.o]
    have zkw:bz<4096:=by rw[<-kZ.o];exact Jy _ BI
    have WK:T.used i<4096:=by rw[<-hT.o];rw[(CK _ _ _ _ _ _ _ lQ).2.1];exact fX.o.used i
    have WL:T.idle i=S.idle i:=by rw[<-hT.o];exact(CK _ _ _ _ _ _ _ lQ).2.2
    have WM:=fX.o.idle i;rw[<-WL]at WM;obtain⟨zkx,zky⟩:=WM;have su:=hI.st.used cM;obtain⟨u0,wX⟩:∃ u,Hid (T.used i=u):=eQ;obtain⟨t0,mn⟩:∃ t,Hid (T.idle i=t):=eQ;rw[wX.o]at su WK;rw[mn.o]at zkx zky;obtain⟨u1,Gl⟩:∃ u,Hid (u0|||bz=u):=eQ;have zrG:u1<4096:=by rw[<-Gl.o];exact zsv (n:=12) WK zkw
    have e2:bits zt7 Zy (u0:Int) (bz:Int)=(u1:Int):=by rw[wO _ _ oQ oQ,Gl.o]
    have fu:=hI.st.free (1+i);have HI:=ae hI;clear WL hI;go_wp2_with (go_at_call 197;refine(bE HH _).mono ?_;rintro e w' ⟨rfl,hw⟩;obtain rfl:=hw.symm)
    go_region
    have j9:=(HI.o.sR fO cM u1).drew;clear HI fu su s0 e1 e2 ku x0 HH;generalize((wr.setCell (aQ q (1+i)) (iQ (u1:Int))).drew)=w1 at j9⊢;have si:w1.cell? (aQ q (9+i))=some (iQ t0):=by rw[j9.st.idle cM];show some (iQ (T.idle i))=_;rw[mn.o]
    have fi:=j9.st.free (9+i);have iC:=ae j9;clear j9;go_wp2
    go_region
    have jr:=(iC.o.mY fO cM (t0+1)).drew;clear iC si fi;generalize((w1.setCell (aQ q (9+i)) (iQ (t0+1))).drew)=w2 at jr⊢;have x1:=jr.x1;have fi:=jr.st.free (9+i);have si:=jr.st.idle cM;have cU:=fun wx=>Gi v i wx oQ oQ
    have hA:wo r u1<4096:=Jy _ BI;obtain⟨a,ha⟩:∃ a,Hid (wo r u1=a):=eQ;rw[ha.o]at hA;have e3:bits ztx Zy (r:Int) (u1:Int)=(a:Int):=by rw[yr r u1 oQ oQ,ha.o]
    have WN:yu r c (T.used i)=u1:=by unfold yu;rw[wX.o,kZ.o,Gl.o]
    have uQ:=ae WN;have WO:(u1==0)=true->(a==0)=false:=fun h=>by
     rw[YB]at h;have:a=r:=by rw[<-ha.o,h];simp[wo]
     rw[this];simp;omega
    have WQ:=ae WO;have dO:=ae jr;clear jr WN WO;cases bN:v.testBit i
    ·rw[bN]at cU;have HV:=ae cU;have wY:sJ v i (T.idle i)=(t0+1):=by unfold sJ;rw[bN,mn.o];rfl
     have sS:=ae wY;clear cU bN wY;have mZ:w2.cell? (aQ q (1+i))=some (iQ (u1:Int)):=by rw[dO.o.st.used cM];show some (iQ ((upd T.used i u1 i:Nat):Int))=_;rw[upd_same]
     have nT:w2.cell? (aQ q (9+i))=some (iQ (t0+1)):=by rw[si];show some (iQ (upd T.idle i (t0+1) i))=_;rw[upd_same]
     have k2:w2.cell? (aQ p 2)=some (iQ (d:Int)):=by rw[ay (HK.o.grown hp hg hM dO.o.old).blk];rfl
     clear si fi;cases hC:(u1==0)
     ·have OJ:((u1:Int)==0)=false:=by rw[eI];exact hC
      cases dz:(a==0)
      ·have Gm:((a:Int)==0)=false:=by rw[eI];exact dz
       have ee:=CS (d:=d) nS.o uQ.o sS.o (by rw[ha.o,kZ.o,hC,dz];rfl);have iD:=ae ee;clear ee;clear hC dz;go_wp2_with (go_at_call 197;refine(bE HV _).mono ?_;rintro e w' ⟨rfl,hw⟩;obtain rfl:=hw.symm)
       have eh:=dO;have s0:=eh.o.st.set;clear HV x1 dO;go_quiet (fail)
       clear mZ nT k2 s0;go_wp2
       go_roundw
       case rel=>exact⟨i+1,oQ,by go_num,by rw[ed.o,iD.o];exact eh.o.drewN _⟩
       case measure=>simp[intOf];omega
      ·have Gm:((a:Int)==0)=true:=by rw[eI];exact dz
       cases cN:(bz==0)
       ·have OL:((bz:Int)==0)=false:=by rw[eI];exact cN
        have ee:=CS (d:=d) nS.o uQ.o sS.o (by rw[ha.o,kZ.o,hC,dz,cN];rfl);have iD:=ae ee;clear ee;clear hC dz cN;go_wp2_with (go_at_call 197;refine(bE HV _).mono ?_;rintro e w' ⟨rfl,hw⟩;obtain rfl:=hw.symm)
        have eh:=dO;have s0:=eh.o.st.set;clear HV x1 dO;go_quiet (fail)
        clear mZ nT k2 s0;go_wp2
        go_roundw
        case rel=>exact⟨i+1,oQ,by go_num,by rw[ed.o,iD.o];exact eh.o.drewN _⟩
        case measure=>simp[intOf];omega
       ·have OL:((bz:Int)==0)=true:=by rw[eI];exact cN
        have ee:=JI (d:=d) nS.o uQ.o sS.o (by rw[ha.o,kZ.o,hC,dz,cN];rfl);have iD:=ae ee;clear ee;clear hC dz cN;go_wp2_with (go_at_call 197;refine(bE HV _).mono ?_;rintro e w' ⟨rfl,hw⟩;obtain rfl:=hw.symm)
        have eh:=dO;have s0:=eh.o.st.set;clear HV x1 dO;go_quiet (fail)
        have fP:=eh.o.drewN nq;clear mZ nT k2 s0 eh;generalize w2.drewN nq=w4 at fP⊢;have s0:=fP.st.set;have fs:=fP.st.free 0;have e4:bits ztx Zy (T.set:Int) (Zs (2^i))=((wo T.set (2^i):Nat):Int):=by rw[sI i oQ,yr _ _ oQ (wQ i oQ)]
        have nU:=ae fP;obtain⟨m,hm⟩:∃ m,Hid (wo T.set (2^i)=m):=eQ;rw[hm.o]at e4;clear fP;go_wp2
        go_region
        have fQ:=(nU.o.AG fO m).drew;clear s0 fs e4 nU;generalize(w4.setCell (aQ q 0) (iQ (m:Int))).drew=w5 at fQ⊢;have fu:=fQ.st.free (1+i);have fi:=fQ.st.free (9+i);have su:=fQ.st.used cM;have si:=fQ.st.idle cM;have sU:=ae fQ;clear fQ;go_wp2
        go_region
        all_goals go_wp2
        all_goals go_roundw
        all_goals first
         |exact⟨i+1,oQ,by go_num,by rw[ed.out,iD.out,hm.out,<-j7 T.used i u1 0,<-j7 T.idle i (t0+1) 0];exact((sU.out.sR fO cM 0).mY fO cM 0).drew⟩
         |exact⟨i+1,oQ,by go_num,by rw[ed.out,iD.out,hm.out,<-j7 T.used i u1 0,<-j7 T.idle i (t0+1) 0];exact((sU.out.mY fO cM 0).sR fO cM 0).drew⟩
         |(simp[intOf];omega)
     ·have OJ:((u1:Int)==0)=true:=by rw[eI];exact hC
      have dz:=WQ.o hC;have Gm:((a:Int)==0)=false:=by rw[eI];exact dz
      cases hD:decide ((d:Int)<(t0+1))
      ·have ee:=CS (d:=d) nS.o uQ.o sS.o (by rw[ha.o,kZ.o,hC,dz,hD];rfl);have iD:=ae ee;clear ee;clear hC dz;go_wp2_with (go_at_call 197;refine(bE HV _).mono ?_;rintro e w' ⟨rfl,hw⟩;obtain rfl:=hw.symm)
       have eh:=dO;have s0:=eh.o.st.set;clear HV x1 dO;go_quiet (fail)
       clear mZ nT k2 s0;go_wp2
       go_roundw
       case rel=>exact⟨i+1,oQ,by go_num,by rw[ed.o,iD.o];exact eh.o.drewN _⟩
       case measure=>simp[intOf];omega
      ·have ee:=JI (d:=d) nS.o uQ.o sS.o (by rw[ha.o,kZ.o,hC,dz,hD];rfl);have iD:=ae ee;clear ee;clear hC dz;go_wp2_with (go_at_call 197;refine(bE HV _).mono ?_;rintro e w' ⟨rfl,hw⟩;obtain rfl:=hw.symm)
       have eh:=dO;have s0:=eh.o.st.set;clear HV x1 dO;go_quiet (fail)
       have fP:=eh.o.drewN nq;clear mZ nT k2 s0 eh;generalize w2.drewN nq=w4 at fP⊢;have s0:=fP.st.set;have fs:=fP.st.free 0;have e4:bits ztx Zy (T.set:Int) (Zs (2^i))=((wo T.set (2^i):Nat):Int):=by rw[sI i oQ,yr _ _ oQ (wQ i oQ)]
       have nU:=ae fP;obtain⟨m,hm⟩:∃ m,Hid (wo T.set (2^i)=m):=eQ;rw[hm.o]at e4;clear fP;go_wp2
       go_region
       have fQ:=(nU.o.AG fO m).drew;clear s0 fs e4 nU;generalize(w4.setCell (aQ q 0) (iQ (m:Int))).drew=w5 at fQ⊢;have fu:=fQ.st.free (1+i);have fi:=fQ.st.free (9+i);have su:=fQ.st.used cM;have si:=fQ.st.idle cM;have sU:=ae fQ;clear fQ;go_wp2
       go_region
       all_goals go_wp2
       all_goals go_roundw
       all_goals first
        |exact⟨i+1,oQ,by go_num,by rw[ed.out,iD.out,hm.out,<-j7 T.used i u1 0,<-j7 T.idle i (t0+1) 0];exact((sU.out.sR fO cM 0).mY fO cM 0).drew⟩
        |exact⟨i+1,oQ,by go_num,by rw[ed.out,iD.out,hm.out,<-j7 T.used i u1 0,<-j7 T.idle i (t0+1) 0];exact((sU.out.mY fO cM 0).sR fO cM 0).drew⟩
        |(simp[intOf];omega)
    ·rw[bN]at cU;have HV:=ae cU;have wY:sJ v i (T.idle i)=0:=by unfold sJ;rw[bN,mn.o];rfl
     have sS:=ae wY;clear cU bN wY;have mZ:w2.cell? (aQ q (1+i))=some (iQ (u1:Int)):=by rw[dO.o.st.used cM];show some (iQ ((upd T.used i u1 i:Nat):Int))=_;rw[upd_same]
     cases hC:(u1==0)
     ·have OJ:((u1:Int)==0)=false:=by rw[eI];exact hC
      cases dz:(a==0)
      ·have Gm:((a:Int)==0)=false:=by rw[eI];exact dz
       have ee:=CS (d:=d) nS.o uQ.o sS.o (by rw[ha.o,kZ.o,hC,dz];rfl);have iD:=ae ee;clear ee;clear hC dz;go_wp2_with (go_at_call 197;refine(bE HV _).mono ?_;rintro e w' ⟨rfl,hw⟩;obtain rfl:=hw.symm)
       have cj:=dO.o.mY fO cM 0;generalize(w2.setCell (aQ q (9+i)) (iQ 0))=w3 at cj⊢;have cj:gR w w3 q c v ⟨T.set,upd T.used i u1,upd T.idle i 0⟩:=by rw[<-j7 T.idle i (t0+1) 0];exact cj
       have mZ:w3.cell? (aQ q (1+i))=some (iQ (u1:Int)):=by rw[cj.st.used cM];show some (iQ ((upd T.used i u1 i:Nat):Int))=_;rw[upd_same]
       have nT:w3.cell? (aQ q (9+i))=some (iQ 0):=by rw[cj.st.idle cM];show some (iQ (upd T.idle i 0 i))=_;rw[upd_same]
       have k2:w3.cell? (aQ p 2)=some (iQ (d:Int)):=by rw[ay (HK.o.grown hp hg hM cj.old).blk];rfl
       have s0:=cj.st.set;have eh:=ae cj;clear cj x1 HV dO;go_quiet (fail)
       clear mZ nT k2 s0;go_wp2
       go_roundw
       case rel=>exact⟨i+1,oQ,by go_num,by rw[ed.o,iD.o];exact eh.o.drewN _⟩
       case measure=>simp[intOf];omega
      ·have Gm:((a:Int)==0)=true:=by rw[eI];exact dz
       cases cN:(bz==0)
       ·have OL:((bz:Int)==0)=false:=by rw[eI];exact cN
        have ee:=CS (d:=d) nS.o uQ.o sS.o (by rw[ha.o,kZ.o,hC,dz,cN];rfl);have iD:=ae ee;clear ee;clear hC dz cN;go_wp2_with (go_at_call 197;refine(bE HV _).mono ?_;rintro e w' ⟨rfl,hw⟩;obtain rfl:=hw.symm)
        have cj:=dO.o.mY fO cM 0;generalize(w2.setCell (aQ q (9+i)) (iQ 0))=w3 at cj⊢;have cj:gR w w3 q c v ⟨T.set,upd T.used i u1,upd T.idle i 0⟩:=by rw[<-j7 T.idle i (t0+1) 0];exact cj
        have mZ:w3.cell? (aQ q (1+i))=some (iQ (u1:Int)):=by rw[cj.st.used cM];show some (iQ ((upd T.used i u1 i:Nat):Int))=_;rw[upd_same]
        have nT:w3.cell? (aQ q (9+i))=some (iQ 0):=by rw[cj.st.idle cM];show some (iQ (upd T.idle i 0 i))=_;rw[upd_same]
        have k2:w3.cell? (aQ p 2)=some (iQ (d:Int)):=by rw[ay (HK.o.grown hp hg hM cj.old).blk];rfl
        have s0:=cj.st.set;have eh:=ae cj;clear cj x1 HV dO;go_quiet (fail)
        clear mZ nT k2 s0;go_wp2
        go_roundw
        case rel=>exact⟨i+1,oQ,by go_num,by rw[ed.o,iD.o];exact eh.o.drewN _⟩
        case measure=>simp[intOf];omega
       ·have OL:((bz:Int)==0)=true:=by rw[eI];exact cN
        have ee:=JI (d:=d) nS.o uQ.o sS.o (by rw[ha.o,kZ.o,hC,dz,cN];rfl);have iD:=ae ee;clear ee;clear hC dz cN;go_wp2_with (go_at_call 197;refine(bE HV _).mono ?_;rintro e w' ⟨rfl,hw⟩;obtain rfl:=hw.symm)
        have cj:=dO.o.mY fO cM 0;generalize(w2.setCell (aQ q (9+i)) (iQ 0))=w3 at cj⊢;have cj:gR w w3 q c v ⟨T.set,upd T.used i u1,upd T.idle i 0⟩:=by rw[<-j7 T.idle i (t0+1) 0];exact cj
        have mZ:w3.cell? (aQ q (1+i))=some (iQ (u1:Int)):=by rw[cj.st.used cM];show some (iQ ((upd T.used i u1 i:Nat):Int))=_;rw[upd_same]
        have nT:w3.cell? (aQ q (9+i))=some (iQ 0):=by rw[cj.st.idle cM];show some (iQ (upd T.idle i 0 i))=_;rw[upd_same]
        have k2:w3.cell? (aQ p 2)=some (iQ (d:Int)):=by rw[ay (HK.o.grown hp hg hM cj.old).blk];rfl
        have s0:=cj.st.set;have eh:=ae cj;clear cj x1 HV dO;go_quiet (fail)
        have fP:=eh.o.drewN nq;clear mZ nT k2 s0 eh;generalize w3.drewN nq=w4 at fP⊢;have s0:=fP.st.set;have fs:=fP.st.free 0;have e4:bits ztx Zy (T.set:Int) (Zs (2^i))=((wo T.set (2^i):Nat):Int):=by rw[sI i oQ,yr _ _ oQ (wQ i oQ)]
        have nU:=ae fP;obtain⟨m,hm⟩:∃ m,Hid (wo T.set (2^i)=m):=eQ;rw[hm.o]at e4;clear fP;go_wp2
        go_region
        have fQ:=(nU.o.AG fO m).drew;clear s0 fs e4 nU;generalize(w4.setCell (aQ q 0) (iQ (m:Int))).drew=w5 at fQ⊢;have fu:=fQ.st.free (1+i);have fi:=fQ.st.free (9+i);have su:=fQ.st.used cM;have si:=fQ.st.idle cM;have sU:=ae fQ;clear fQ;go_wp2
        go_region
        all_goals go_wp2
        all_goals go_roundw
        all_goals first
         |exact⟨i+1,oQ,by go_num,by rw[ed.out,iD.out,hm.out,<-j7 T.used i u1 0,<-j7 T.idle i 0 0];exact((sU.out.sR fO cM 0).mY fO cM 0).drew⟩
         |exact⟨i+1,oQ,by go_num,by rw[ed.out,iD.out,hm.out,<-j7 T.used i u1 0,<-j7 T.idle i 0 0];exact((sU.out.mY fO cM 0).sR fO cM 0).drew⟩
         |(simp[intOf];omega)
     ·have OJ:((u1:Int)==0)=true:=by rw[eI];exact hC
      have dz:=WQ.o hC;have Gm:((a:Int)==0)=false:=by rw[eI];exact dz
      cases hD:decide ((d:Int)<0)
      ·have ee:=CS (d:=d) nS.o uQ.o sS.o (by rw[ha.o,kZ.o,hC,dz,hD];rfl);have iD:=ae ee;clear ee;clear hC dz;go_wp2_with (go_at_call 197;refine(bE HV _).mono ?_;rintro e w' ⟨rfl,hw⟩;obtain rfl:=hw.symm)
       have cj:=dO.o.mY fO cM 0;generalize(w2.setCell (aQ q (9+i)) (iQ 0))=w3 at cj⊢;have cj:gR w w3 q c v ⟨T.set,upd T.used i u1,upd T.idle i 0⟩:=by rw[<-j7 T.idle i (t0+1) 0];exact cj
       have mZ:w3.cell? (aQ q (1+i))=some (iQ (u1:Int)):=by rw[cj.st.used cM];show some (iQ ((upd T.used i u1 i:Nat):Int))=_;rw[upd_same]
       have nT:w3.cell? (aQ q (9+i))=some (iQ 0):=by rw[cj.st.idle cM];show some (iQ (upd T.idle i 0 i))=_;rw[upd_same]
       have k2:w3.cell? (aQ p 2)=some (iQ (d:Int)):=by rw[ay (HK.o.grown hp hg hM cj.old).blk];rfl
       have s0:=cj.st.set;have eh:=ae cj;clear cj x1 HV dO;go_quiet (fail)
       clear mZ nT k2 s0;go_wp2
       go_roundw
       case rel=>exact⟨i+1,oQ,by go_num,by rw[ed.o,iD.o];exact eh.o.drewN _⟩
       case measure=>simp[intOf];omega
      ·have ee:=JI (d:=d) nS.o uQ.o sS.o (by rw[ha.o,kZ.o,hC,dz,hD];rfl);have iD:=ae ee;clear ee;clear hC dz;go_wp2_with (go_at_call 197;refine(bE HV _).mono ?_;rintro e w' ⟨rfl,hw⟩;obtain rfl:=hw.symm)
       have cj:=dO.o.mY fO cM 0;generalize(w2.setCell (aQ q (9+i)) (iQ 0))=w3 at cj⊢;have cj:gR w w3 q c v ⟨T.set,upd T.used i u1,upd T.idle i 0⟩:=by rw[<-j7 T.idle i (t0+1) 0];exact cj
       have mZ:w3.cell? (aQ q (1+i))=some (iQ (u1:Int)):=by rw[cj.st.used cM];show some (iQ ((upd T.used i u1 i:Nat):Int))=_;rw[upd_same]
       have nT:w3.cell? (aQ q (9+i))=some (iQ 0):=by rw[cj.st.idle cM];show some (iQ (upd T.idle i 0 i))=_;rw[upd_same]
       have k2:w3.cell? (aQ p 2)=some (iQ (d:Int)):=by rw[ay (HK.o.grown hp hg hM cj.old).blk];rfl
       have s0:=cj.st.set;have eh:=ae cj;clear cj x1 HV dO;go_quiet (fail)
       have fP:=eh.o.drewN nq;clear mZ nT k2 s0 eh;generalize w3.drewN nq=w4 at fP⊢;have s0:=fP.st.set;have fs:=fP.st.free 0;have e4:bits ztx Zy (T.set:Int) (Zs (2^i))=((wo T.set (2^i):Nat):Int):=by rw[sI i oQ,yr _ _ oQ (wQ i oQ)]
       have nU:=ae fP;obtain⟨m,hm⟩:∃ m,Hid (wo T.set (2^i)=m):=eQ;rw[hm.o]at e4;clear fP;go_wp2
       go_region
       have fQ:=(nU.o.AG fO m).drew;clear s0 fs e4 nU;generalize(w4.setCell (aQ q 0) (iQ (m:Int))).drew=w5 at fQ⊢;have fu:=fQ.st.free (1+i);have fi:=fQ.st.free (9+i);have su:=fQ.st.used cM;have si:=fQ.st.idle cM;have sU:=ae fQ;clear fQ;go_wp2
       go_region
       all_goals go_wp2
       all_goals go_roundw
       all_goals first
        |exact⟨i+1,oQ,by go_num,by rw[ed.out,iD.out,hm.out,<-j7 T.used i u1 0,<-j7 T.idle i 0 0];exact((sU.out.sR fO cM 0).mY fO cM 0).drew⟩
        |exact⟨i+1,oQ,by go_num,by rw[ed.out,iD.out,hm.out,<-j7 T.used i u1 0,<-j7 T.idle i 0 0];exact((sU.out.mY fO cM 0).sR fO cM 0).drew⟩
        |(simp[intOf];omega)
  ·have fW:i=n:=oQ;subst fW;clear aj;go_wp2
   go_end0
   exact⟨rfl,hI.st,hI.old⟩
theorem zkz(p q:Nat)(s:Int)(d n:Nat)(zs:List Int)(g cg M:Nat)(c v:Nat)(S:St)(w:YM)(hK:gz w p s (d:Int) n zs g cg M)(hS:ck w q S)(hp:p≠q)(hg:g≠q)(hM:M≠q)(sO:S.set<256)(hc:c<4096)(hv:v<256):
  Calls prog 201 #[pQ p,pQ q,.agg #[iQ (c:Int),iQ (v:Int)]] w fun e w'=>
   e=.returned (.tuple #[])/\ck w' q ⟨mm (rt zs) (eC zs) c v S.set n,S.used,S.idle⟩/\w.grownBy w' (some q):=by
 obtain⟨f1,f8,CU,CV,CW,CX⟩:=hK.few;have bJ:=hK.kh;have yA:=hK.eV;have fO:=hS.lt;have iZ:∀ i,w.cell? (aQ p i)=_:=fun i=>ay hK.blk i
 have k1:w.cell? (aQ p 1)=some (.slice (some (aQ g 0)) n cg):=iZ 1;have q9:gR w (w.alloc (.cells #[iQ (c:Int),iQ (v:Int)] 31)) q c v S:=⟨zB7 _ _ _,(Za _ _ _ fO).trans hS,aU _ _⟩;have HK:=ae hK;have jD:=ae q9;clear iZ hK q9 hS;go_enter func201,ntmps201;go_wp2_with fail
 clear k1;go_loopw [15] (fun i wr=>∃ k:Nat,k<=n/\i=iQ k/\gR w wr q c v ⟨mm (rt zs) (eC zs) c v S.set k,S.used,S.idle⟩) (fun i _=>n-(intOf i).toNat)
 case atStart=>exact⟨0,Yw _,rfl,jD.o⟩
 case round=>
  clear jD;obtain⟨i,hi,rfl,hI⟩:=hrel;by_cases aj:i<n
  ·have cM:i<8:=oQ;have AJ:=HK.o.grown hp hg hM hI.old;obtain⟨r,hr,⟨BI,oM⟩,ku⟩:=AJ.at aj;obtain⟨cf,nO,zkA,il⟩:=AJ.WJ aj;have k3:wr.cell? (aQ p 3)=some (.slice (some (aQ M 0)) n n):=by rw[ay AJ.blk];rfl
   clear AJ;have x0:=hI.x0;have x1:=hI.x1;obtain⟨m,hm⟩:∃ m,Hid (mm (rt zs) (eC zs) c v S.set i=m):=eQ;rw[hm.o]at hI;have IJ:m<256:=by rw[<-hm.o];exact Ob _ _ _ _ _ _ 8 sO oQ
   have cU:=fun wx=>Gi v i wx oQ oQ
   have s0:=hI.st.set;have fs:=hI.st.free 0;have lx:mm (rt zs) (eC zs) c v S.set (i+1)=if qO r cf c v i m then m|||2^i else m:=by rw[<-hm.o,<-hr.o,<-nO.o];rfl
   have ed:=ae lx;clear lx;obtain⟨ac,WR⟩:∃ a,Hid (m&&&cf=a):=eQ;have e1:bits BinOp.and Zy (m:Int) (cf:Int)=(ac:Int):=by rw[wP _ _ oQ oQ,WR.o]
   obtain⟨bz,kZ⟩:∃ bz,Hid (wo r c=bz):=eQ;have e2:bits ztx Zy (r:Int) (c:Int)=(bz:Int):=by rw[yr r c oQ oQ,kZ.o]
   have iL:qO r cf c v i m=(v.testBit i&&(ac==0&&bz==0)):=by unfold qO;rw[WR.o,kZ.o]
   have HI:=ae hI;clear hI;cases bN:v.testBit i
   ·cases hA:(ac==0)
    ·have az:qO r cf c v i m=false:=by rw[iL,bN,hA];rfl
     have dJ:=ae az;rw[bN]at cU;have HV:=ae cU;have dz:((ac:Int)==0)=false:=by rw[eI];exact hA
     clear az iL cU bN hA;go_wp2_with fail
     go_quiet (fail)
     go_wp2_with (go_at_call 197;refine(bE HV _).mono ?_;rintro e w' ⟨rfl,hw⟩;obtain rfl:=hw.symm)
     go_roundw
     case rel=>exact⟨i+1,oQ,by go_num,by rw[ed.o,dJ.o];exact HI.o.drewN _⟩
     case measure=>simp[intOf];omega
    ·cases hB:(bz==0)
     ·have az:qO r cf c v i m=false:=by rw[iL,bN,hA,hB];rfl
      have dJ:=ae az;rw[bN]at cU;have HV:=ae cU;have dz:((ac:Int)==0)=true:=by rw[eI];exact hA
      have cN:((bz:Int)==0)=false:=by rw[eI];exact hB
      clear az iL cU bN hA hB;go_wp2_with fail
      go_quiet (fail)
      go_wp2_with (go_at_call 197;refine(bE HV _).mono ?_;rintro e w' ⟨rfl,hw⟩;obtain rfl:=hw.symm)
      go_roundw
      case rel=>exact⟨i+1,oQ,by go_num,by rw[ed.o,dJ.o];exact HI.o.drewN _⟩
      case measure=>simp[intOf];omega
     ·have az:qO r cf c v i m=false:=by rw[iL,bN,hA,hB];rfl
      have dJ:=ae az;rw[bN]at cU;have HV:=ae cU;have dz:((ac:Int)==0)=true:=by rw[eI];exact hA
      have cN:((bz:Int)==0)=true:=by rw[eI];exact hB
      clear az iL cU bN hA hB;go_wp2_with fail
      go_quiet (fail)
      go_wp2_with (go_at_call 197;refine(bE HV _).mono ?_;rintro e w' ⟨rfl,hw⟩;obtain rfl:=hw.symm)
      go_roundw
      case rel=>exact⟨i+1,oQ,by go_num,by rw[ed.o,dJ.o];exact HI.o.drewN _⟩
      case measure=>simp[intOf];omega
   ·cases hA:(ac==0)
    ·have az:qO r cf c v i m=false:=by rw[iL,bN,hA];rfl
     have dJ:=ae az;rw[bN]at cU;have HV:=ae cU;have dz:((ac:Int)==0)=false:=by rw[eI];exact hA
     clear az iL cU bN hA;go_wp2_with fail
     go_quiet (fail)
     go_wp2_with (go_at_call 197;refine(bE HV _).mono ?_;rintro e w' ⟨rfl,hw⟩;obtain rfl:=hw.symm)
     go_roundw
     case rel=>exact⟨i+1,oQ,by go_num,by rw[ed.o,dJ.o];exact HI.o.drewN _⟩
     case measure=>simp[intOf];omega
    ·cases hB:(bz==0)
     ·have az:qO r cf c v i m=false:=by rw[iL,bN,hA,hB];rfl
      have dJ:=ae az;rw[bN]at cU;have HV:=ae cU;have dz:((ac:Int)==0)=true:=by rw[eI];exact hA
      have cN:((bz:Int)==0)=false:=by rw[eI];exact hB
      clear az iL cU bN hA hB;go_wp2_with fail
      go_quiet (fail)
      go_wp2_with (go_at_call 197;refine(bE HV _).mono ?_;rintro e w' ⟨rfl,hw⟩;obtain rfl:=hw.symm)
      go_roundw
      case rel=>exact⟨i+1,oQ,by go_num,by rw[ed.o,dJ.o];exact HI.o.drewN _⟩
      case measure=>simp[intOf];omega
     ·have az:qO r cf c v i m=true:=by rw[iL,bN,hA,hB];rfl
      have dJ:=ae az;rw[bN]at cU;have HV:=ae cU;have dz:((ac:Int)==0)=true:=by rw[eI];exact hA
      have cN:((bz:Int)==0)=true:=by rw[eI];exact hB
      clear az iL cU bN hA hB;go_wp2_with fail
      go_quiet (fail)
      go_wp2_with (go_at_call 197;refine(bE HV _).mono ?_;rintro e w' ⟨rfl,hw⟩;obtain rfl:=hw.symm)
      have fP:=HI.o.drewN nq;clear s0 fs x0 x1 k3 il ku e1 e2;generalize wr.drewN nq=w4 at fP⊢;have s0:=fP.st.set;have fs:=fP.st.free 0;have e4:bits zt7 Zy (m:Int) (Zs (2^i))=((m|||2^i:Nat):Int):=by rw[sI i oQ,wO _ _ oQ (wQ i oQ)]
      obtain⟨m2,aK⟩:∃ m2,Hid (m|||2^i=m2):=eQ;rw[aK.o]at e4;have nU:=ae fP;clear fP;go_region
      all_goals go_wp2
      go_roundw
      case rel=>exact⟨i+1,oQ,by go_num,by rw[ed.o,dJ.o,YH rfl,aK.o];exact(nU.o.AG fO m2).drew⟩
      case measure=>simp[intOf];omega
  ·have fW:i=n:=oQ;subst fW;clear aj;go_wp2
   go_end0
   exact⟨rfl,hI.st,hI.old⟩
theorem zkB(p:Nat)(s:Int)(d n:Nat)(zs:List Int)(g cg M:Nat)(c v:Nat)(S:St)(w:YM)(hK:gz w p s (d:Int) n zs g cg M)(sO:S.set<256)(hc:c<4096)(hv:v<256):
  Calls prog 202 #[pQ p,.agg (aB S),.agg #[iQ (c:Int),iQ (v:Int)]] w fun e w'=>
   e=.returned (iQ ((pT (rt zs) c v S n:Nat):Int))/\YO w.1.size w w':=by
 obtain⟨f1,f8,CU,CV,CW,CX⟩:=hK.few;have hB:YO w.1.size w ((w.alloc (.cells (aB S) 34)).alloc (.cells #[iQ (c:Int),iQ (v:Int)] 31)):=((YS _ _).alloc lQ _).alloc sQ _;have FC:=hK.below hK.kh hK.eV hK.mlt hB;have bh:ck ((w.alloc (.cells (aB S) 34)).alloc (.cells #[iQ (c:Int),iQ (v:Int)] 31)) w.1.size S:=(Za _ _ _ sQ).trans (aU _ _);have aJ:((w.alloc (.cells (aB S) 34)).alloc (.cells #[iQ (c:Int),iQ (v:Int)] 31)).1[w.1.size+1]?=some (.cells #[iQ (c:Int),iQ (v:Int)] 31 (0,0)):=by
  have:=aU (w.alloc (.cells (aB S) 34)) (.cells #[iQ (c:Int),iQ (v:Int)] 31);simpa using this
 have HK:=ae FC;have HB:=ae hB;have cZ:=ae bh;have fR:=ae aJ;have k1:w.cell? (aQ p 1)=some (.slice (some (aQ g 0)) n cg):=by rw[ay hK.blk];rfl
 have bJ:=hK.kh;have yA:=hK.eV;clear hK FC hB bh aJ;go_enter func202,ntmps202;go_wp2_with fail
 clear k1;generalize((w.alloc (.cells (aB S) 34)).alloc (.cells #[iQ (c:Int),iQ (v:Int)] 31))=wz at *;have x0:wz.cell? (aQ (w.1.size+1) 0)=some (iQ (c:Int)):=by rw[ay fR.o];rfl
 have x1:wz.cell? (aQ (w.1.size+1) 1)=some (iQ (v:Int)):=by rw[ay fR.o];rfl
 have s0:=cZ.o.set;obtain⟨sv,E8⟩:∃ a,Hid (S.set&&&v=a):=eQ;have e0:bits BinOp.and Zy (S.set:Int) (v:Int)=(sv:Int):=by rw[wP _ _ oQ oQ,E8.o]
 have zrH:sv<256:=by rw[<-E8.o];exact zsu Nat.and_le_left sO
 go_loop [7,17] (fun o i=>∃ k:Nat,k<=n/\i=iQ k/\o=iQ ((pT (rt zs) c v S k:Nat):Int)) (fun _ i=>n-(intOf i).toNat)
 case atStart=>exact⟨0,Yw _,rfl,rfl⟩
 case round=>
  obtain⟨i,hi,rfl,rfl⟩:=hrel;obtain⟨m,hm⟩:∃ m,Hid (pT (rt zs) c v S i=m):=eQ;have IJ:m<256:=by rw[<-hm.o];exact Oc _ _ _ _ _ 8 oQ
  rw[hm.o];by_cases aj:i<n
  ·have cM:i<8:=oQ;obtain⟨r,hr,⟨BI,oM⟩,ku⟩:=HK.o.at aj;have cU:=fun wx=>Gi sv i wx oQ oQ
   have lx:pT (rt zs) c v S (i+1)=if uK r c v i S then m|||2^i else m:=by rw[<-hm.o,<-hr.o];rfl
   have ed:=ae lx;clear lx;have su:=cZ.o.used cM;obtain⟨u,hu⟩:∃ u,Hid (S.used i=u):=eQ;rw[hu.o]at su;obtain⟨bz,kZ⟩:∃ bz,Hid (wo r c=bz):=eQ;have e2:bits ztx Zy (r:Int) (c:Int)=(bz:Int):=by rw[yr r c oQ oQ,kZ.o]
   have iL:uK r c v i S=(sv.testBit i&&(u==0&&bz==0)):=by unfold uK;rw[E8.o,hu.o,kZ.o]
   cases bN:sv.testBit i
   ·cases hA:(u==0)
    ·have az:uK r c v i S=false:=by rw[iL,bN,hA];rfl
     have dJ:=ae az;rw[bN]at cU;have HV:=ae cU;have dz:((u:Int)==0)=false:=by rw[eI];exact hA
     clear az iL cU bN hA;go_wp2_with (go_at_call 197;refine(bE HV _).mono ?_;rintro e w' ⟨rfl,hw⟩;obtain rfl:=hw.symm)
     go_round
     case rel=>exact⟨i+1,oQ,by go_num,by rw[ed.o,dJ.o];rfl⟩
     case measure=>simp[intOf];omega
    ·cases hB:(bz==0)
     ·have az:uK r c v i S=false:=by rw[iL,bN,hA,hB];rfl
      have dJ:=ae az;rw[bN]at cU;have HV:=ae cU;have dz:((u:Int)==0)=true:=by rw[eI];exact hA
      have cN:((bz:Int)==0)=false:=by rw[eI];exact hB
      clear az iL cU bN hA hB;go_wp2_with (go_at_call 197;refine(bE HV _).mono ?_;rintro e w' ⟨rfl,hw⟩;obtain rfl:=hw.symm)
      go_round
      case rel=>exact⟨i+1,oQ,by go_num,by rw[ed.o,dJ.o];rfl⟩
      case measure=>simp[intOf];omega
     ·have az:uK r c v i S=false:=by rw[iL,bN,hA,hB];rfl
      have dJ:=ae az;rw[bN]at cU;have HV:=ae cU;have dz:((u:Int)==0)=true:=by rw[eI];exact hA
      have cN:((bz:Int)==0)=true:=by rw[eI];exact hB
      clear az iL cU bN hA hB;go_wp2_with (go_at_call 197;refine(bE HV _).mono ?_;rintro e w' ⟨rfl,hw⟩;obtain rfl:=hw.symm)
      go_round
      case rel=>exact⟨i+1,oQ,by go_num,by rw[ed.o,dJ.o];rfl⟩
      case measure=>simp[intOf];omega
   ·cases hA:(u==0)
    ·have az:uK r c v i S=false:=by rw[iL,bN,hA];rfl
     have dJ:=ae az;rw[bN]at cU;have HV:=ae cU;have dz:((u:Int)==0)=false:=by rw[eI];exact hA
     clear az iL cU bN hA;go_wp2_with (go_at_call 197;refine(bE HV _).mono ?_;rintro e w' ⟨rfl,hw⟩;obtain rfl:=hw.symm)
     go_round
     case rel=>exact⟨i+1,oQ,by go_num,by rw[ed.o,dJ.o];rfl⟩
     case measure=>simp[intOf];omega
    ·cases hB:(bz==0)
     ·have az:uK r c v i S=false:=by rw[iL,bN,hA,hB];rfl
      have dJ:=ae az;rw[bN]at cU;have HV:=ae cU;have dz:((u:Int)==0)=true:=by rw[eI];exact hA
      have cN:((bz:Int)==0)=false:=by rw[eI];exact hB
      clear az iL cU bN hA hB;go_wp2_with (go_at_call 197;refine(bE HV _).mono ?_;rintro e w' ⟨rfl,hw⟩;obtain rfl:=hw.symm)
      go_round
      case rel=>exact⟨i+1,oQ,by go_num,by rw[ed.o,dJ.o];rfl⟩
      case measure=>simp[intOf];omega
     ·have az:uK r c v i S=true:=by rw[iL,bN,hA,hB];rfl
      have dJ:=ae az;rw[bN]at cU;have HV:=ae cU;have dz:((u:Int)==0)=true:=by rw[eI];exact hA
      have cN:((bz:Int)==0)=true:=by rw[eI];exact hB
      have e4:bits zt7 Zy (m:Int) (Zs (2^i))=((m|||2^i:Nat):Int):=by rw[sI i oQ,wO _ _ oQ (wQ i oQ)]
      obtain⟨m2,aK⟩:∃ m2,Hid (m|||2^i=m2):=eQ;rw[aK.o]at e4;clear az iL cU bN hA hB;go_wp2_with (go_at_call 197;refine(bE HV _).mono ?_;rintro e w' ⟨rfl,hw⟩;obtain rfl:=hw.symm)
      go_round
      case rel=>exact⟨i+1,oQ,by go_num,by rw[ed.o,dJ.o,YH rfl,aK.o]⟩
      case measure=>simp[intOf];omega
  ·have fW:i=n:=oQ;subst fW;clear aj;go_wp2
   go_ret;exact⟨by rw[hm.o];rfl,HB.o⟩
theorem WS{w1:YM}{N B:Nat}(h:YO B w w1)(hN:B<=N)(u v:YN):YO B w ((w1.setCell (aQ N 0) u).setCell (aQ N 1) v):=(h.setCell hN _).setCell hN _
theorem zkC(s d x0 x1:Int)(b off cap:Nat)(zs:List Int)(w:YM)(av:cw s zs d=(0,-1))(hb:b<w.1.size)(hc:Row w b off zs)(fw:zs.length<=cap):
  Calls prog 19 #[.agg #[iQ s,.slice (some (aQ b off)) zs.length cap,iQ d],.agg #[iQ x0,iQ x1]] w fun e w'=>
   e=.returned (.tuple #[.agg #[iQ (bits .and .i64 x0 (top s)),iQ (bits .and .i64 x1 (top (zs.length:Int)))],.nilIface])/\YO w.1.size w w':=by
 have hr:=oO av;unfold jY at hr;simp only[X6,mj]at hr;obtain⟨⟨⟨FV,FW⟩,Js,Jt⟩,_⟩:=hr;have aC:YO w.1.size w (((w.alloc (.cells #[iQ s,.slice (some (aQ b off)) zs.length cap,iQ d] 42)).alloc (.cells #[iQ x0,iQ x1] 31)).alloc (.cells #[iQ 0,iQ 0] 31)):=(((YS _ _).alloc lQ _).alloc sQ _).alloc tQ _;have lJ:=NW s d (some (aQ b off)) zs.length cap zs _ (kx.below ⟨rfl,fw,.inr ⟨b,off,rfl,hb,hc⟩⟩ aC);have sN:=ae lJ;have fX:=ae av;clear lJ av hc;go_enter func19,ntmps19;go_wp2_with fail
 refine sN.o.mono ?_;rintro e w1 ⟨⟨v,rfl,hv⟩,hB⟩;rw[fX.o]at hv;have dM:=hv.ok;subst dM;have hl:∀ i,w1.cell? (aQ w.1.size i)=(#[iQ s,.slice (some (aQ b off)) zs.length cap,iQ d]:Array YN)[i]?:=fun i=>(hB.cell (p:=(aQ w.1.size i)) tQ).trans (by rw[zuT _ _ _ tQ,zuT _ _ _ sQ,zvu _ _ _ _ rfl])
 have hx:∀ i,w1.cell? (aQ (w.1.size+1) i)=(#[iQ x0,iQ x1]:Array YN)[i]?:=fun i=>(hB.cell (p:=(aQ (w.1.size+1) i)) sQ).trans (by rw[zuT _ _ _ sQ,zvu _ _ _ _ sQ])
 have aJ:∀ i,w1.cell? (aQ (w.1.size+2) i)=(#[iQ 0,iQ 0]:Array YN)[i]?:=fun i=>(hB.cell (p:=(aQ (w.1.size+2) i)) sQ).trans (zvu _ _ _ _ sQ)
 have c0:w1.cell? (aQ (w.1.size+2) 0)=some (iQ 0):=aJ 0;have c1:w1.cell? (aQ (w.1.size+2) 1)=some (iQ 0):=aJ 1;have l0:w1.cell? (aQ w.1.size 0)=some (iQ s):=hl 0;have l1:w1.cell? (aQ w.1.size 1)=some (.slice (some (aQ b off)) zs.length cap):=hl 1;have i0:w1.cell? (aQ (w.1.size+1) 0)=some (iQ x0):=hx 0;have i1:w1.cell? (aQ (w.1.size+1) 1)=some (iQ x1):=hx 1;have JJ:∀ i,w1.frozen? (aQ (w.1.size+2) i)=false:=fun i=>(hB.frozen (p:=(aQ (w.1.size+2) i)) sQ).trans (World.frozen?_alloc_at _ _ _ _ sQ)
 have f0:=JJ 0;have f1:=JJ 1;have HB:=ae (aC.trans (hB.mono tQ));clear hv hB aC sN JJ aJ hl hx fX;have kR:¬(w.1.size=w.1.size+1+1):=oQ;have mS:¬(w.1.size+1+1=w.1.size):=oQ;go_wp2_with fail
 go_region_held3 (fun w'=>w'.cell? (aQ w.1.size 0)=some (iQ s)/\w'.cell? (aQ w.1.size 1)=some (.slice (some (aQ b off)) zs.length cap)/\w'.cell? (aQ (w.1.size+1) 0)=some (iQ x0)/\w'.cell? (aQ (w.1.size+1) 1)=some (iQ x1)) (go_keep) (first |(go_at_call 52;refine(NU _ _ ?_ ?_).mono ?_;omega;omega;rintro e w' ⟨rfl,rfl⟩))
 all_goals go_wp2
 all_goals refine bodyPost_ret (v:=.tuple #[.agg #[iQ (bits .and .i64 x0 (top s)),iQ (bits .and .i64 x1 (top (zs.length:Int)))],.nilIface]) (by simp[results,results19,go_sem,c0,c1]) rfl ⟨rfl,?_⟩
 all_goals exact(WS HB.o oQ _ _).drew
end Go.Proofs.YtaablbmgagiajabGreatDoor
