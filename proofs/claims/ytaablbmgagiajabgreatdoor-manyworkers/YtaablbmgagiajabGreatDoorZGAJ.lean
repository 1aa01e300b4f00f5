import Derived.Test.YtaablbmgagiajabGreatDoorZGAI
import Derived.Laws.EntriesVeiled
set_option maxHeartbeats 2000000
set_option maxRecDepth 20000
open Go.Addr.mk renaming injEq->zts
open Go.RowKit renaming Below->YO
open Go.RowKit.Below renaming heap_alloc->Za,heap_setCell->Zb,refl->YS
open Bool renaming or_eq_false_iff->zwG
open Go.Builtin renaming clear_->zvG
open Go renaming Calls->YR,Value->YN,World->YM,undef->YY
open Int renaming le_refl->ZC
open List renaming eraseIdx_cons_succ->zA8,eraseIdx_cons_zero->zA9,getElem?_drop->zw6,getElem?_eraseIdx_of_ge->zBb,getElem?_eraseIdx_of_lt->zBc,headD_cons->zBd,length_eraseIdx_of_lt->zw7,tail_cons->zy4
open Nat renaming add_zero->zvl
open Go.Value renaming ownBlock->ZF
open Go.Value.slice renaming injEq->ztd
open Go.World renaming cell?_of_block->Ze,drew->zwi,setCell->Zz
namespace Go.Proofs.YtaablbmgagiajabGreatDoor
open Go.Proofs.Tryz
open Go.RowKit Go.Deep
variable{T' b c cap dst g i j m p r s t:Nat}{U:Nat->Int}{l:List Nat}{nv u v:YN}{us:List YN}{x:Int}
theorem bM.cells{w:YM}{N win:Nat}{tv:YN}{S:VS}(h:bM w N p win tv S):w.cell? (aQ p 0)=some tv/\w.cell? (aQ p 16)=some (.bool S.dh):=⟨(h.at 0).trans rfl,(h.at 16).trans rfl⟩
def Bc(N p win:Nat)(tv:YN)(w:YM)(R:VS×List FR×Bool)(e:Ending)(w':YM):Prop:=
 ∃ v pY,e=.returned (.tuple #[v,.bool R.2.2])/\ep w' 36 v R.2.1/\bM w' N p win pY R.1/\kz w tv pY/\Mod w w' (VB p tv)
theorem zmX{win:Nat}{S:VS}{F:FR}(h:jc S F=false):cC win S F=(S,[],false):=by unfold cC;rw[YH h]
theorem zmY{win:Nat}{S:VS}{F:FR}(h:jc S F=true)(h2:F 2<S.tr.length):cC win S F=(S,mX S.tr (F 2).toNat,false):=by unfold cC;rw[YG (by rw[h];decide),YH h2]
theorem PD{win:Nat}{S:VS}{F:FR}(h:jc S F=true)(h2:¬F 2<S.tr.length)(h3:pV S F=true):cC win S F=(S,[],false):=by unfold cC;rw[YG (by rw[h];decide),YG h2,YH h3]
theorem zmZ{win:Nat}{S:VS}{F:FR}(h:jc S F=true)(h2:¬F 2<S.tr.length)(h3:pV S F=false)(h4:oU (cS S (F 1).toNat (bH F)).b (cS S (F 1).toNat (bH F)).x (bH F) (F 1).toNat 3=false):cC win S F=(cS S (F 1).toNat (bH F),[],false):=by
 unfold cC;rw[YG (by rw[h];decide),YG h2,YG (by rw[h3];decide),YH h4]
theorem zm0{win:Nat}{S:VS}{F:FR}(h:jc S F=true)(h2:¬F 2<S.tr.length)(h3:pV S F=false)(h4:oU (cS S (F 1).toNat (bH F)).b (cS S (F 1).toNat (bH F)).x (bH F) (F 1).toNat 3=true):cC win S F=(pU win (cS S (F 1).toNat (bH F)) (bH F),[fA S.tr.length (bH F)],true):=by
 unfold cC;rw[YG (by rw[h];decide),YG h2,YG (by rw[h3];decide),YG (by rw[h4];decide)]
theorem zm1{S:VS}{F:FR}(h:jc S F=true):(F 0=2\/F 0=4)/\(0<=F 1/\F 1<3)/\0<=F 2:=by
 unfold jc F6 F7 at h;simp at h;exact⟨h.1,h.2.1,h.2.2.2⟩
theorem zm2(N p win:Nat)(tv:YN)(S:VS)(w:YM)(F:FR)(h:bM w N p win tv S)(av:dS win S)(_:N<=w.1.size)(hh:jc S F=false):
  YR prog 173 #[pQ p,.agg (ak F)] w (Bc N p win tv w (cC win S F)):=by
 obtain⟨W,hW⟩:∃ W,Hid (w.alloc (.cells (ak F) 36)=W):=eQ;have dI:YO w.1.size w W:=by rw[<-hW.o];exact(YS _ _).alloc lQ _
 have aJ:aM W w.1.size 36 F:=by rw[<-hW.o];exact aU _ _
 have hV:=h.below dI;have HC:=ae (Di N p win tv S W F hV av);obtain⟨c0,_⟩:=h.cells;have hp:=h.lt;have hf:=av.few;obtain⟨a,cap,rfl⟩:=h.row.shape;have fR:=ae aJ;have iP:=ae dI;have HV:=ae hV;have fX:=ae av;have px:Hid (W.1.size=w.1.size+1):=ae (by rw[<-hW.o];simp);obtain⟨n,hn⟩:∃ n,Hid (S.tr.length=n):=eQ;have mB:aM (w.alloc (.cells (ak F) 36)) w.1.size 36 F:=aU _ _;have mC:=ae mB;rw[zmX hh];rw[hh]at HC;rw[hn.o]at c0 hf;clear h hV av aJ mB dI;go_enter func173,ntmps173;go_wp2_with (first
  |(refine fM rfl _ rfl w.heap.size rfl F mC.out ?_)
  |(go_at_call 191;rw[hW.out];refine HC.out.mono ?_))
 rintro e w1 ⟨rfl,aG⟩;have dN:=ae aG;have hB:=iP.o.trans (aG.mono iP.o.size);have HB:=ae hB;have dp:=HV.o.below aG;have dE:=ae dp;have cH:aM w1 w.1.size 36 F:=(aG.block _ (by rw[px.o];omega)).trans fR.o;have jQ:w.1.size<w1.1.size:=cH.lt;have c1:=cH.at (k:=1) oQ;have c2:=cH.at (k:=2) oQ;have qj:=cH.at (k:=0) oQ;have c3:=cH.at (k:=3) oQ;have c4:=cH.at (k:=4) oQ;have c5:=cH.at (k:=5) oQ;obtain⟨k0,pw⟩:=dp.cells;rw[hn.o]at k0;have fJ:=dp.lt;clear aG dp cH hB HC fR mC HV hW;go_wp2
 go_ret2
 exact⟨_,_,rfl,.inl ⟨rfl,rfl⟩,dE.o,kz.refl _ _,Mod.fB HB.o _⟩
theorem zm3(N p win:Nat)(tv:YN)(S:VS)(w:YM)(F:FR)(h:bM w N p win tv S)(av:dS win S)(_:N<=w.1.size)(hh:jc S F=true)(c:Nat)(hc:F 2=(c:Int))(aj:c<S.tr.length):
  YR prog 173 #[pQ p,.agg (ak F)] w (Bc N p win tv w (cC win S F)):=by
 obtain⟨W,hW⟩:∃ W,Hid (w.alloc (.cells (ak F) 36)=W):=eQ;have dI:YO w.1.size w W:=by rw[<-hW.o];exact(YS _ _).alloc lQ _
 have aJ:aM W w.1.size 36 F:=by rw[<-hW.o];exact aU _ _
 have hV:=h.below dI;have HC:=ae (Di N p win tv S W F hV av);obtain⟨c0,_⟩:=h.cells;have hp:=h.lt;have hf:=av.few;obtain⟨a,cap,rfl⟩:=h.row.shape;have fR:=ae aJ;have iP:=ae dI;have HV:=ae hV;have fX:=ae av;have px:Hid (W.1.size=w.1.size+1):=ae (by rw[<-hW.o];simp);obtain⟨n,hn⟩:∃ n,Hid (S.tr.length=n):=eQ;have mB:aM (w.alloc (.cells (ak F) 36)) w.1.size 36 F:=aU _ _;have mC:=ae mB;rw[zmY hh (by rw[hc];exact Int.ofNat_lt.2 aj),hc,zr7];rw[hh]at HC;have GZ:=aj;rw[hn.o]at GZ;have HLT:=ae aj;rw[hn.o]at c0 hf;clear h hV av aJ mB dI;go_enter func173,ntmps173;go_wp2_with (first
  |(refine fM rfl _ rfl w.heap.size rfl F mC.out ?_)
  |(go_at_call 191;rw[hW.out];refine HC.out.mono ?_))
 rintro e w1 ⟨rfl,aG⟩;have dN:=ae aG;have hB:=iP.o.trans (aG.mono iP.o.size);have HB:=ae hB;have dp:=HV.o.below aG;have dE:=ae dp;have cH:aM w1 w.1.size 36 F:=(aG.block _ (by rw[px.o];omega)).trans fR.o;have jQ:w.1.size<w1.1.size:=cH.lt;have c1:=cH.at (k:=1) oQ;have c2:=cH.at (k:=2) oQ;have qj:=cH.at (k:=0) oQ;have c3:=cH.at (k:=3) oQ;have c4:=cH.at (k:=4) oQ;have c5:=cH.at (k:=5) oQ;obtain⟨k0,pw⟩:=dp.cells;rw[hn.o]at k0;have fJ:=dp.lt;clear aG dp cH hB HC fR mC HV hW;rw[hc]at c2;have HPA:=ae (zmL N p win _ S w1 c dE.o fX.o HLT.o);clear qj c1 c3 c4 c5 pw;go_wp2_with (go_at_call 192;refine HPA.o.mono ?_;rintro e w2 ⟨⟨v,rfl,az⟩,aS⟩)
 go_ret2
 exact⟨_,_,rfl,az,dE.o.below aS,kz.refl _ _,Mod.fB (HB.o.trans (aS.mono HB.o.size)) _⟩
theorem zm4(N p win:Nat)(tv:YN)(S:VS)(w:YM)(F:FR)(h:bM w N p win tv S)(av:dS win S)(_:N<=w.1.size)(hh:jc S F=true)(c:Nat)(hc:F 2=(c:Int))(aj:S.tr.length<c):
  YR prog 173 #[pQ p,.agg (ak F)] w (Bc N p win tv w (cC win S F)):=by
 obtain⟨W,hW⟩:∃ W,Hid (w.alloc (.cells (ak F) 36)=W):=eQ;have dI:YO w.1.size w W:=by rw[<-hW.o];exact(YS _ _).alloc lQ _
 have aJ:aM W w.1.size 36 F:=by rw[<-hW.o];exact aU _ _
 have hV:=h.below dI;have HC:=ae (Di N p win tv S W F hV av);obtain⟨c0,_⟩:=h.cells;have hp:=h.lt;have hf:=av.few;obtain⟨a,cap,rfl⟩:=h.row.shape;have fR:=ae aJ;have iP:=ae dI;have HV:=ae hV;have fX:=ae av;have px:Hid (W.1.size=w.1.size+1):=ae (by rw[<-hW.o];simp);obtain⟨n,hn⟩:∃ n,Hid (S.tr.length=n):=eQ;have mB:aM (w.alloc (.cells (ak F) 36)) w.1.size 36 F:=aU _ _;have mC:=ae mB;rw[PD hh (by rw[hc];omega) (by unfold pV;rw[hc,YE (by omega:(S.tr.length:Int)<(c:Int))];rfl)];rw[hh]at HC;rw[hn.o]at aj;rw[hn.o]at c0 hf;clear h hV av aJ mB dI;go_enter func173,ntmps173;go_wp2_with (first
  |(refine fM rfl _ rfl w.heap.size rfl F mC.out ?_)
  |(go_at_call 191;rw[hW.out];refine HC.out.mono ?_))
 rintro e w1 ⟨rfl,aG⟩;have dN:=ae aG;have hB:=iP.o.trans (aG.mono iP.o.size);have HB:=ae hB;have dp:=HV.o.below aG;have dE:=ae dp;have cH:aM w1 w.1.size 36 F:=(aG.block _ (by rw[px.o];omega)).trans fR.o;have jQ:w.1.size<w1.1.size:=cH.lt;have c1:=cH.at (k:=1) oQ;have c2:=cH.at (k:=2) oQ;have qj:=cH.at (k:=0) oQ;have c3:=cH.at (k:=3) oQ;have c4:=cH.at (k:=4) oQ;have c5:=cH.at (k:=5) oQ;obtain⟨k0,pw⟩:=dp.cells;rw[hn.o]at k0;have fJ:=dp.lt;clear aG dp cH hB HC fR mC HV hW;rw[hc]at c2;clear qj c1 c3 c4 c5 pw;go_wp2
 go_ret2
 exact⟨_,_,rfl,.inl ⟨rfl,rfl⟩,dE.o,kz.refl _ _,Mod.fB HB.o _⟩
theorem zm5(N p win:Nat)(tv:YN)(S:VS)(w:YM)(F:FR)(h:bM w N p win tv S)(av:dS win S)(_:N<=w.1.size)(hh:jc S F=true)(hc:F 2=(S.tr.length:Int))(hk:F 0=4):
  YR prog 173 #[pQ p,.agg (ak F)] w (Bc N p win tv w (cC win S F)):=by
 obtain⟨W,hW⟩:∃ W,Hid (w.alloc (.cells (ak F) 36)=W):=eQ;have dI:YO w.1.size w W:=by rw[<-hW.o];exact(YS _ _).alloc lQ _
 have aJ:aM W w.1.size 36 F:=by rw[<-hW.o];exact aU _ _
 have hV:=h.below dI;have HC:=ae (Di N p win tv S W F hV av);obtain⟨c0,_⟩:=h.cells;have hp:=h.lt;have hf:=av.few;obtain⟨a,cap,rfl⟩:=h.row.shape;have fR:=ae aJ;have iP:=ae dI;have HV:=ae hV;have fX:=ae av;have px:Hid (W.1.size=w.1.size+1):=ae (by rw[<-hW.o];simp);obtain⟨n,hn⟩:∃ n,Hid (S.tr.length=n):=eQ;have mB:aM (w.alloc (.cells (ak F) 36)) w.1.size 36 F:=aU _ _;have mC:=ae mB;rw[PD hh (by rw[hc];omega) (by unfold pV;rw[hk];simp)];rw[hh]at HC;rw[hn.o]at hc;rw[hn.o]at c0 hf;clear h hV av aJ mB dI;go_enter func173,ntmps173;go_wp2_with (first
  |(refine fM rfl _ rfl w.heap.size rfl F mC.out ?_)
  |(go_at_call 191;rw[hW.out];refine HC.out.mono ?_))
 rintro e w1 ⟨rfl,aG⟩;have dN:=ae aG;have hB:=iP.o.trans (aG.mono iP.o.size);have HB:=ae hB;have dp:=HV.o.below aG;have dE:=ae dp;have cH:aM w1 w.1.size 36 F:=(aG.block _ (by rw[px.o];omega)).trans fR.o;have jQ:w.1.size<w1.1.size:=cH.lt;have c1:=cH.at (k:=1) oQ;have c2:=cH.at (k:=2) oQ;have qj:=cH.at (k:=0) oQ;have c3:=cH.at (k:=3) oQ;have c4:=cH.at (k:=4) oQ;have c5:=cH.at (k:=5) oQ;obtain⟨k0,pw⟩:=dp.cells;rw[hn.o]at k0;have fJ:=dp.lt;clear aG dp cH hB HC fR mC HV hW;rw[hc]at c2;rw[hk]at qj;clear c1 c3 c4 c5 pw;go_wp2
 go_ret2
 exact⟨_,_,rfl,.inl ⟨rfl,rfl⟩,dE.o,kz.refl _ _,Mod.fB HB.o _⟩
theorem zm6(N p win:Nat)(tv:YN)(S:VS)(w:YM)(F:FR)(h:bM w N p win tv S)(av:dS win S)(_:N<=w.1.size)(hh:jc S F=true)(hc:F 2=(S.tr.length:Int))(hk:F 0=2)(hl:S.dh=true):
  YR prog 173 #[pQ p,.agg (ak F)] w (Bc N p win tv w (cC win S F)):=by
 obtain⟨W,hW⟩:∃ W,Hid (w.alloc (.cells (ak F) 36)=W):=eQ;have dI:YO w.1.size w W:=by rw[<-hW.o];exact(YS _ _).alloc lQ _
 have aJ:aM W w.1.size 36 F:=by rw[<-hW.o];exact aU _ _
 have hV:=h.below dI;have HC:=ae (Di N p win tv S W F hV av);obtain⟨c0,_⟩:=h.cells;have hp:=h.lt;have hf:=av.few;obtain⟨a,cap,rfl⟩:=h.row.shape;have fR:=ae aJ;have iP:=ae dI;have HV:=ae hV;have fX:=ae av;have px:Hid (W.1.size=w.1.size+1):=ae (by rw[<-hW.o];simp);obtain⟨n,hn⟩:∃ n,Hid (S.tr.length=n):=eQ;have mB:aM (w.alloc (.cells (ak F) 36)) w.1.size 36 F:=aU _ _;have mC:=ae mB;rw[PD hh (by rw[hc];omega) (by unfold pV;rw[hl];simp)];rw[hh]at HC;rw[hn.o]at hc;rw[hn.o]at c0 hf;clear h hV av aJ mB dI;go_enter func173,ntmps173;go_wp2_with (first
  |(refine fM rfl _ rfl w.heap.size rfl F mC.out ?_)
  |(go_at_call 191;rw[hW.out];refine HC.out.mono ?_))
 rintro e w1 ⟨rfl,aG⟩;have dN:=ae aG;have hB:=iP.o.trans (aG.mono iP.o.size);have HB:=ae hB;have dp:=HV.o.below aG;have dE:=ae dp;have cH:aM w1 w.1.size 36 F:=(aG.block _ (by rw[px.o];omega)).trans fR.o;have jQ:w.1.size<w1.1.size:=cH.lt;have c1:=cH.at (k:=1) oQ;have c2:=cH.at (k:=2) oQ;have qj:=cH.at (k:=0) oQ;have c3:=cH.at (k:=3) oQ;have c4:=cH.at (k:=4) oQ;have c5:=cH.at (k:=5) oQ;obtain⟨k0,pw⟩:=dp.cells;rw[hn.o]at k0;have fJ:=dp.lt;clear aG dp cH hB HC fR mC HV hW;rw[hc]at c2;rw[hk]at qj;rw[hl]at pw;clear c1 c3 c4 c5;go_wp2
 go_ret2
 exact⟨_,_,rfl,.inl ⟨rfl,rfl⟩,dE.o,kz.refl _ _,Mod.fB HB.o _⟩
theorem zm7(N p win:Nat)(tv:YN)(S:VS)(w:YM)(F:FR)(h:bM w N p win tv S)(av:dS win S)(hN:N<=w.1.size)(hh:jc S F=true)(hc:F 2=(S.tr.length:Int))(hk:F 0=2)(hl:S.dh=false)(hr:F 1=0\/F 1=1\/F 1=2):
  YR prog 173 #[pQ p,.agg (ak F)] w (Bc N p win tv w (cC win S F)):=by
 rcases hr with hr|hr|hr
 all_goals
  obtain⟨W,hW⟩:∃ W,Hid (w.alloc (.cells (ak F) 36)=W):=eQ;have dI:YO w.1.size w W:=by rw[<-hW.o];exact(YS _ _).alloc lQ _
  have aJ:aM W w.1.size 36 F:=by rw[<-hW.o];exact aU _ _
  have hV:=h.below dI;have HC:=ae (Di N p win tv S W F hV av);obtain⟨c0,_⟩:=h.cells;have hp:=h.lt;have hf:=av.few;obtain⟨a,cap,rfl⟩:=h.row.shape;have fR:=ae aJ;have iP:=ae dI;have HV:=ae hV;have fX:=ae av;have px:Hid (W.1.size=w.1.size+1):=ae (by rw[<-hW.o];simp);obtain⟨n,hn⟩:∃ n,Hid (S.tr.length=n):=eQ;have mB:aM (w.alloc (.cells (ak F) 36)) w.1.size 36 F:=aU _ _;have mC:=ae mB;rw[hh]at HC;have ig:=fun h4=>zmZ (win:=win) hh (by rw[hc];omega) (by unfold pV;rw[hc,hk,hl];simp) h4
  have qc:=fun h4=>zm0 (win:=win) hh (by rw[hc];omega) (by unfold pV;rw[hc,hk,hl];simp) h4
  rw[hr]at ig qc;obtain⟨R,hR⟩:∃ R,Hid (cC win S F=R):=eQ;rw[hR.o]at ig qc⊢;have kC:=ae ig;have my:=ae qc;clear ig qc hR;rw[hn.o]at hc;rw[hn.o]at c0 hf;clear h hV av aJ mB dI;go_enter func173,ntmps173;go_wp2_with (first
   |(refine fM rfl _ rfl w.heap.size rfl F mC.out ?_)
   |(go_at_call 191;rw[hW.out];refine HC.out.mono ?_))
  rintro e w1 ⟨rfl,aG⟩;have dN:=ae aG;have hB:=iP.o.trans (aG.mono iP.o.size);have HB:=ae hB;have dp:=HV.o.below aG;have dE:=ae dp;have cH:aM w1 w.1.size 36 F:=(aG.block _ (by rw[px.o];omega)).trans fR.o;have jQ:w.1.size<w1.1.size:=cH.lt;have c1:=cH.at (k:=1) oQ;have c2:=cH.at (k:=2) oQ;have qj:=cH.at (k:=0) oQ;have c3:=cH.at (k:=3) oQ;have c4:=cH.at (k:=4) oQ;have c5:=cH.at (k:=5) oQ;obtain⟨k0,pw⟩:=dp.cells;rw[hn.o]at k0;have fJ:=dp.lt;clear aG dp cH hB HC fR mC HV hW;rw[hc]at c2;rw[hk]at qj;rw[hl]at pw;rw[hr]at c1
 ·have f1:=dE.o.free 1;have f2:=dE.o.free 2;have f3:=dE.o.free 3;have f4:=dE.o.free 4;have e1:w1.cell? (aQ p 1)=some (.bool (S.b 0)):=(dE.o.at 1).trans rfl;have e2:w1.cell? (aQ p 2)=some (iQ (S.x 0).c):=(dE.o.at 2).trans rfl;have e3:w1.cell? (aQ p 3)=some (iQ (S.x 0).v):=(dE.o.at 3).trans rfl;have e4:w1.cell? (aQ p 4)=some (iQ (S.x 0).o):=(dE.o.at 4).trans rfl;go_wp2_with fail
  go_region
  obtain⟨W2,jy⟩:∃ W2,Hid ((((((w1.setCell (aQ p 1) (.bool true)).setCell (aQ p 2) (iQ (F 3))).setCell (aQ p 3) (iQ (F 4))).setCell (aQ p 4) (iQ (F 5))).alloc (.cells #[.bool true,iQ (F 3),iQ (F 4),iQ (F 5)] 145)).drew=W2):=eQ;have kr:bM W2 N p win (.slice a S.tr.length cap) (cS S 0 (bH F)):=by
   rw[<-jy.o];have h4:=(((dE.o.put (S':=⟨S.tr,upd S.b 0 true,S.x,S.left,S.out,S.dh⟩) 1 (.bool true) rfl rfl).put (S':=⟨S.tr,upd S.b 0 true,upd S.x 0 ⟨F 3,(S.x 0).v,(S.x 0).o⟩,S.left,S.out,S.dh⟩) 2 (iQ (F 3)) rfl rfl).put (S':=⟨S.tr,upd S.b 0 true,upd S.x 0 ⟨F 3,F 4,(S.x 0).o⟩,S.left,S.out,S.dh⟩) 3 (iQ (F 4)) rfl rfl).put (S':=cS S 0 (bH F)) 4 (iQ (F 5)) rfl rfl;exact(h4.below ((YS _ _).alloc lQ _)).drewN 1
  have lS:Mod w W2 (VB p (.slice a S.tr.length cap)):=by
   rw[<-jy.o];have m4:=((((Mod.fB HB.o (VB p (.slice a S.tr.length cap))).set (aQ p 1) (.bool true) (fun _=>.inl rfl)).set (aQ p 2) (iQ (F 3)) (fun _=>.inl rfl)).set (aQ p 3) (iQ (F 4)) (fun _=>.inl rfl)).set (aQ p 4) (iQ (F 5)) (fun _=>.inl rfl);exact(m4.below ((YS _ _).alloc lQ _)).drewN 1
  have gC:W2.1.size=w1.1.size+1:=by rw[<-jy.o];simp[zwi,Zz]
  have bo:W2.1[w1.1.size]?=some (.cells #[.bool true,iQ (F 3),iQ (F 4),iQ (F 5)] 145 (0,0)):=by
   rw[<-jy.o];have:=aU ((((w1.setCell (aQ p 1) (.bool true)).setCell (aQ p 2) (iQ (F 3))).setCell (aQ p 3) (iQ (F 4))).setCell (aQ p 4) (iQ (F 5))) (.cells #[.bool true,iQ (F 3),iQ (F 4),iQ (F 5)] 145);rw[show((((w1.setCell (aQ p 1) (.bool true)).setCell (aQ p 2) (iQ (F 3))).setCell (aQ p 3) (iQ (F 4))).setCell (aQ p 4) (iQ (F 5))).1.size=w1.1.size by simp[Zz]]at this;exact this
  have gW:W2.1[w.1.size]?=w1.1[w.1.size]?:=by
   rw[<-jy.o];refine(Za _ _ _ (by simp[Zz];omega)).trans ?_;rw[Zb _ _ _ _ (by show _≠p;omega),Zb _ _ _ _ (by show _≠p;omega),Zb _ _ _ _ (by show _≠p;omega),Zb _ _ _ _ (by show _≠p;omega)]
  have y1:W2.cell? (aQ w.1.size 1)=some (iQ 0):=(Ze (w:=w1) gW).trans c1;have v0:W2.cell? (aQ w1.1.size 0)=some (.bool true):=(ay bo 0).trans rfl;have v1:W2.cell? (aQ w1.1.size 1)=some (iQ (F 3)):=(ay bo 1).trans rfl;have v2:W2.cell? (aQ w1.1.size 2)=some (iQ (F 4)):=(ay bo 2).trans rfl;have v3:W2.cell? (aQ w1.1.size 3)=some (iQ (F 5)):=(ay bo 3).trans rfl;have mD:=ae (zL3 N p win _ (cS S 0 (bH F)) W2 0 0 (ae rfl) (bH F) kr dQ);rw[jy.o];have lh:=ae kr;have jI:=ae lS;have HN:Hid (N<=W2.1.size):=ae oQ;have tI:=ae (fX.o.cast 0 (bH F));have kW:=ae bo;clear f1 f2 f3 f4 e1 e2 e3 e4 qj c1 c2 c3 c4 c5 k0 pw kr lS jy gW dE dN HB iP px c0 bo;generalize hd:bH F=d at *;have d1:F 3=d.c:=by rw[<-hd];rfl
  have d2:F 4=d.v:=by rw[<-hd];rfl
  have d3:F 5=d.o:=by rw[<-hd];rfl
  rw[d1]at v1;rw[d2]at v2;rw[d3]at v3;rw[d1,d2,d3]at kW⊢;clear d1 d2 d3;cases hz:oU (cS S 0 d).b (cS S 0 d).x d 0 3
  ·rw[hz]at mD;have fh:=ae (bE kC hz);clear kC my hz;go_wp2_with (go_at_call 193;refine mD.o.mono ?_;rintro e w3 ⟨rfl,aZ⟩)
   go_ret2
   rw[fh.o];exact⟨_,_,rfl,.inl ⟨rfl,rfl⟩,lh.o.below aZ,kz.refl _ _,jI.o.below aZ⟩
  ·rw[hz]at mD;have fh:=ae (bE my hz);clear kC my hz;go_wp2_with (go_at_call 193;refine mD.o.mono ?_)
   rintro e w3 ⟨rfl,aZ⟩;have rz:=lh.o.below aZ;have gl:=(aZ.block _ oQ).trans kW.o;have kB:=ae (jI.o.below aZ);have s3:=aZ.size;have u1:w3.cell? (aQ w1.1.size 1)=some (iQ d.c):=(ay gl 1).trans rfl;have u2:w3.cell? (aQ w1.1.size 2)=some (iQ d.v):=(ay gl 2).trans rfl;have u3:w3.cell? (aQ w1.1.size 3)=some (iQ d.o):=(ay gl 3).trans rfl;have yT:=ae (Py N p win _ (cS S 0 d) w3 d rz tI.o hl (by have:=HN.o;omega));have yU:=ae (tI.o.F8 hl d);have yV:=ae (show w.1.size<=w3.1.size by omega);clear v0 v1 v2 v3 y1 mD rz gl aZ kW lh jI tI;go_wp2_with (go_at_call 194;refine yT.o.mono ?_)
   rintro e w4 ⟨rfl,yX,pq,yY,lK⟩;have cP:(pU win (cS S 0 d) d).tr.length=n+1:=by show(S.tr++[d]).length=n+1;rw[Yf,hn.o];rfl
   have eM:cd (pU win (cS S 0 d) d).tr n=d:=by
    show((S.tr++[d])[n]?).getD qT=d;rw[zsa (by rw[hn.o];exact Yp _),hn.o,zsw];rfl
   have kG:=GW N p win yX _ w4 n pq yU.o oQ;rw[eM]at kG;have vB:=ae kG;have G1:=ae pq;have yZ:Hid (kz w (.slice a S.tr.length cap) yX):=ae fun g hg=>(yY g hg).imp id (fun h=>Yq yV.o h)
   have dx:=ae (kB.o.then lK (fun _ _ h=>h));clear kG eM cP pq yY lK kB yT u1 u2 u3 yU HN;go_wp2_with (first
    |(go_at_call 195;refine vB.out.mono ?_;rintro e w5 ⟨rfl,eK⟩)
    |(refine yG rfl _ rfl (fA n d) rfl _ rfl ?_))
   intro w6 tq;obtain⟨jJ,_,gA⟩:=tq.o;have y8:YO w4.1.size w4 w6:=eK.trans (gA.mono eK.size);have rB:=ae (ep.one jJ);have y9:=ae y8;clear jJ gA y8 eK vB tq;go_wp2
   go_ret2
   rw[fh.o,hn.o];rw[hn.o]at dx yZ;exact⟨_,_,rfl,rB.o,G1.o.below y9.o,yZ.o,dx.o.below y9.o⟩
 ·have f1:=dE.o.free 5;have f2:=dE.o.free 6;have f3:=dE.o.free 7;have f4:=dE.o.free 8;have e1:w1.cell? (aQ p 5)=some (.bool (S.b 1)):=(dE.o.at 5).trans rfl;have e2:w1.cell? (aQ p 6)=some (iQ (S.x 1).c):=(dE.o.at 6).trans rfl;have e3:w1.cell? (aQ p 7)=some (iQ (S.x 1).v):=(dE.o.at 7).trans rfl;have e4:w1.cell? (aQ p 8)=some (iQ (S.x 1).o):=(dE.o.at 8).trans rfl;go_wp2_with fail
  go_region
  obtain⟨W2,jy⟩:∃ W2,Hid ((((((w1.setCell (aQ p 5) (.bool true)).setCell (aQ p 6) (iQ (F 3))).setCell (aQ p 7) (iQ (F 4))).setCell (aQ p 8) (iQ (F 5))).alloc (.cells #[.bool true,iQ (F 3),iQ (F 4),iQ (F 5)] 145)).drew=W2):=eQ;have kr:bM W2 N p win (.slice a S.tr.length cap) (cS S 1 (bH F)):=by
   rw[<-jy.o];have h4:=(((dE.o.put (S':=⟨S.tr,upd S.b 1 true,S.x,S.left,S.out,S.dh⟩) 5 (.bool true) rfl rfl).put (S':=⟨S.tr,upd S.b 1 true,upd S.x 1 ⟨F 3,(S.x 1).v,(S.x 1).o⟩,S.left,S.out,S.dh⟩) 6 (iQ (F 3)) rfl rfl).put (S':=⟨S.tr,upd S.b 1 true,upd S.x 1 ⟨F 3,F 4,(S.x 1).o⟩,S.left,S.out,S.dh⟩) 7 (iQ (F 4)) rfl rfl).put (S':=cS S 1 (bH F)) 8 (iQ (F 5)) rfl rfl;exact(h4.below ((YS _ _).alloc lQ _)).drewN 1
  have lS:Mod w W2 (VB p (.slice a S.tr.length cap)):=by
   rw[<-jy.o];have m4:=((((Mod.fB HB.o (VB p (.slice a S.tr.length cap))).set (aQ p 5) (.bool true) (fun _=>.inl rfl)).set (aQ p 6) (iQ (F 3)) (fun _=>.inl rfl)).set (aQ p 7) (iQ (F 4)) (fun _=>.inl rfl)).set (aQ p 8) (iQ (F 5)) (fun _=>.inl rfl);exact(m4.below ((YS _ _).alloc lQ _)).drewN 1
  have gC:W2.1.size=w1.1.size+1:=by rw[<-jy.o];simp[zwi,Zz]
  have bo:W2.1[w1.1.size]?=some (.cells #[.bool true,iQ (F 3),iQ (F 4),iQ (F 5)] 145 (0,0)):=by
   rw[<-jy.o];have:=aU ((((w1.setCell (aQ p 5) (.bool true)).setCell (aQ p 6) (iQ (F 3))).setCell (aQ p 7) (iQ (F 4))).setCell (aQ p 8) (iQ (F 5))) (.cells #[.bool true,iQ (F 3),iQ (F 4),iQ (F 5)] 145);rw[show((((w1.setCell (aQ p 5) (.bool true)).setCell (aQ p 6) (iQ (F 3))).setCell (aQ p 7) (iQ (F 4))).setCell (aQ p 8) (iQ (F 5))).1.size=w1.1.size by simp[Zz]]at this;exact this
  have gW:W2.1[w.1.size]?=w1.1[w.1.size]?:=by
   rw[<-jy.o];refine(Za _ _ _ (by simp[Zz];omega)).trans ?_;rw[Zb _ _ _ _ (by show _≠p;omega),Zb _ _ _ _ (by show _≠p;omega),Zb _ _ _ _ (by show _≠p;omega),Zb _ _ _ _ (by show _≠p;omega)]
  have y1:W2.cell? (aQ w.1.size 1)=some (iQ 1):=(Ze (w:=w1) gW).trans c1;have v0:W2.cell? (aQ w1.1.size 0)=some (.bool true):=(ay bo 0).trans rfl;have v1:W2.cell? (aQ w1.1.size 1)=some (iQ (F 3)):=(ay bo 1).trans rfl;have v2:W2.cell? (aQ w1.1.size 2)=some (iQ (F 4)):=(ay bo 2).trans rfl;have v3:W2.cell? (aQ w1.1.size 3)=some (iQ (F 5)):=(ay bo 3).trans rfl;have mD:=ae (zL3 N p win _ (cS S 1 (bH F)) W2 1 1 (ae rfl) (bH F) kr dQ);rw[jy.o];have lh:=ae kr;have jI:=ae lS;have HN:Hid (N<=W2.1.size):=ae oQ;have tI:=ae (fX.o.cast 1 (bH F));have kW:=ae bo;clear f1 f2 f3 f4 e1 e2 e3 e4 qj c1 c2 c3 c4 c5 k0 pw kr lS jy gW dE dN HB iP px c0 bo;generalize hd:bH F=d at *;have d1:F 3=d.c:=by rw[<-hd];rfl
  have d2:F 4=d.v:=by rw[<-hd];rfl
  have d3:F 5=d.o:=by rw[<-hd];rfl
  rw[d1]at v1;rw[d2]at v2;rw[d3]at v3;rw[d1,d2,d3]at kW⊢;clear d1 d2 d3;cases hz:oU (cS S 1 d).b (cS S 1 d).x d 1 3
  ·rw[hz]at mD;have fh:=ae (bE kC hz);clear kC my hz;go_wp2_with (go_at_call 193;refine mD.o.mono ?_;rintro e w3 ⟨rfl,aZ⟩)
   go_ret2
   rw[fh.o];exact⟨_,_,rfl,.inl ⟨rfl,rfl⟩,lh.o.below aZ,kz.refl _ _,jI.o.below aZ⟩
  ·rw[hz]at mD;have fh:=ae (bE my hz);clear kC my hz;go_wp2_with (go_at_call 193;refine mD.o.mono ?_)
   rintro e w3 ⟨rfl,aZ⟩;have rz:=lh.o.below aZ;have gl:=(aZ.block _ oQ).trans kW.o;have kB:=ae (jI.o.below aZ);have s3:=aZ.size;have u1:w3.cell? (aQ w1.1.size 1)=some (iQ d.c):=(ay gl 1).trans rfl;have u2:w3.cell? (aQ w1.1.size 2)=some (iQ d.v):=(ay gl 2).trans rfl;have u3:w3.cell? (aQ w1.1.size 3)=some (iQ d.o):=(ay gl 3).trans rfl;have yT:=ae (Py N p win _ (cS S 1 d) w3 d rz tI.o hl (by have:=HN.o;omega));have yU:=ae (tI.o.F8 hl d);have yV:=ae (show w.1.size<=w3.1.size by omega);clear v0 v1 v2 v3 y1 mD rz gl aZ kW lh jI tI;go_wp2_with (go_at_call 194;refine yT.o.mono ?_)
   rintro e w4 ⟨rfl,yX,pq,yY,lK⟩;have cP:(pU win (cS S 1 d) d).tr.length=n+1:=by show(S.tr++[d]).length=n+1;rw[Yf,hn.o];rfl
   have eM:cd (pU win (cS S 1 d) d).tr n=d:=by
    show((S.tr++[d])[n]?).getD qT=d;rw[zsa (by rw[hn.o];exact Yp _),hn.o,zsw];rfl
   have kG:=GW N p win yX _ w4 n pq yU.o oQ;rw[eM]at kG;have vB:=ae kG;have G1:=ae pq;have yZ:Hid (kz w (.slice a S.tr.length cap) yX):=ae fun g hg=>(yY g hg).imp id (fun h=>Yq yV.o h)
   have dx:=ae (kB.o.then lK (fun _ _ h=>h));clear kG eM cP pq yY lK kB yT u1 u2 u3 yU HN;go_wp2_with (first
    |(go_at_call 195;refine vB.out.mono ?_;rintro e w5 ⟨rfl,eK⟩)
    |(refine yG rfl _ rfl (fA n d) rfl _ rfl ?_))
   intro w6 tq;obtain⟨jJ,_,gA⟩:=tq.o;have y8:YO w4.1.size w4 w6:=eK.trans (gA.mono eK.size);have rB:=ae (ep.one jJ);have y9:=ae y8;clear jJ gA y8 eK vB tq;go_wp2
   go_ret2
   rw[fh.o,hn.o];rw[hn.o]at dx yZ;exact⟨_,_,rfl,rB.o,G1.o.below y9.o,yZ.o,dx.o.below y9.o⟩
 ·have f1:=dE.o.free 9;have f2:=dE.o.free 10;have f3:=dE.o.free 11;have f4:=dE.o.free 12;have e1:w1.cell? (aQ p 9)=some (.bool (S.b 2)):=(dE.o.at 9).trans rfl;have e2:w1.cell? (aQ p 10)=some (iQ (S.x 2).c):=(dE.o.at 10).trans rfl;have e3:w1.cell? (aQ p 11)=some (iQ (S.x 2).v):=(dE.o.at 11).trans rfl;have e4:w1.cell? (aQ p 12)=some (iQ (S.x 2).o):=(dE.o.at 12).trans rfl;go_wp2_with fail
  go_region
  obtain⟨W2,jy⟩:∃ W2,Hid ((((((w1.setCell (aQ p 9) (.bool true)).setCell (aQ p 10) (iQ (F 3))).setCell (aQ p 11) (iQ (F 4))).setCell (aQ p 12) (iQ (F 5))).alloc (.cells #[.bool true,iQ (F 3),iQ (F 4),iQ (F 5)] 145)).drew=W2):=eQ;have kr:bM W2 N p win (.slice a S.tr.length cap) (cS S 2 (bH F)):=by
   rw[<-jy.o];have h4:=(((dE.o.put (S':=⟨S.tr,upd S.b 2 true,S.x,S.left,S.out,S.dh⟩) 9 (.bool true) rfl rfl).put (S':=⟨S.tr,upd S.b 2 true,upd S.x 2 ⟨F 3,(S.x 2).v,(S.x 2).o⟩,S.left,S.out,S.dh⟩) 10 (iQ (F 3)) rfl rfl).put (S':=⟨S.tr,upd S.b 2 true,upd S.x 2 ⟨F 3,F 4,(S.x 2).o⟩,S.left,S.out,S.dh⟩) 11 (iQ (F 4)) rfl rfl).put (S':=cS S 2 (bH F)) 12 (iQ (F 5)) rfl rfl;exact(h4.below ((YS _ _).alloc lQ _)).drewN 1
  have lS:Mod w W2 (VB p (.slice a S.tr.length cap)):=by
   rw[<-jy.o];have m4:=((((Mod.fB HB.o (VB p (.slice a S.tr.length cap))).set (aQ p 9) (.bool true) (fun _=>.inl rfl)).set (aQ p 10) (iQ (F 3)) (fun _=>.inl rfl)).set (aQ p 11) (iQ (F 4)) (fun _=>.inl rfl)).set (aQ p 12) (iQ (F 5)) (fun _=>.inl rfl);exact(m4.below ((YS _ _).alloc lQ _)).drewN 1
  have gC:W2.1.size=w1.1.size+1:=by rw[<-jy.o];simp[zwi,Zz]
  have bo:W2.1[w1.1.size]?=some (.cells #[.bool true,iQ (F 3),iQ (F 4),iQ (F 5)] 145 (0,0)):=by
   rw[<-jy.o];have:=aU ((((w1.setCell (aQ p 9) (.bool true)).setCell (aQ p 10) (iQ (F 3))).setCell (aQ p 11) (iQ (F 4))).setCell (aQ p 12) (iQ (F 5))) (.cells #[.bool true,iQ (F 3),iQ (F 4),iQ (F 5)] 145);rw[show((((w1.setCell (aQ p 9) (.bool true)).setCell (aQ p 10) (iQ (F 3))).setCell (aQ p 11) (iQ (F 4))).setCell (aQ p 12) (iQ (F 5))).1.size=w1.1.size by simp[Zz]]at this;exact this
  have gW:W2.1[w.1.size]?=w1.1[w.1.size]?:=by
   rw[<-jy.o];refine(Za _ _ _ (by simp[Zz];omega)).trans ?_;rw[Zb _ _ _ _ (by show _≠p;omega),Zb _ _ _ _ (by show _≠p;omega),Zb _ _ _ _ (by show _≠p;omega),Zb _ _ _ _ (by show _≠p;omega)]
  have y1:W2.cell? (aQ w.1.size 1)=some (iQ 2):=(Ze (w:=w1) gW).trans c1;have v0:W2.cell? (aQ w1.1.size 0)=some (.bool true):=(ay bo 0).trans rfl;have v1:W2.cell? (aQ w1.1.size 1)=some (iQ (F 3)):=(ay bo 1).trans rfl;have v2:W2.cell? (aQ w1.1.size 2)=some (iQ (F 4)):=(ay bo 2).trans rfl;have v3:W2.cell? (aQ w1.1.size 3)=some (iQ (F 5)):=(ay bo 3).trans rfl;have mD:=ae (zL3 N p win _ (cS S 2 (bH F)) W2 2 2 (ae rfl) (bH F) kr dQ);rw[jy.o];have lh:=ae kr;have jI:=ae lS;have HN:Hid (N<=W2.1.size):=ae oQ;have tI:=ae (fX.o.cast 2 (bH F));have kW:=ae bo;clear f1 f2 f3 f4 e1 e2 e3 e4 qj c1 c2 c3 c4 c5 k0 pw kr lS jy gW dE dN HB iP px c0 bo;generalize hd:bH F=d at *;have d1:F 3=d.c:=by rw[<-hd];rfl
  have d2:F 4=d.v:=by rw[<-hd];rfl
  have d3:F 5=d.o:=by rw[<-hd];rfl
  rw[d1]at v1;rw[d2]at v2;rw[d3]at v3;rw[d1,d2,d3]at kW⊢;clear d1 d2 d3;cases hz:oU (cS S 2 d).b (cS S 2 d).x d 2 3
  ·rw[hz]at mD;have fh:=ae (bE kC hz);clear kC my hz;go_wp2_with (go_at_call 193;refine mD.o.mono ?_;rintro e w3 ⟨rfl,aZ⟩)
   go_ret2
   rw[fh.o];exact⟨_,_,rfl,.inl ⟨rfl,rfl⟩,lh.o.below aZ,kz.refl _ _,jI.o.below aZ⟩
  ·rw[hz]at mD;have fh:=ae (bE my hz);clear kC my hz;go_wp2_with (go_at_call 193;refine mD.o.mono ?_)
   rintro e w3 ⟨rfl,aZ⟩;have rz:=lh.o.below aZ;have gl:=(aZ.block _ oQ).trans kW.o;have kB:=ae (jI.o.below aZ);have s3:=aZ.size;have u1:w3.cell? (aQ w1.1.size 1)=some (iQ d.c):=(ay gl 1).trans rfl;have u2:w3.cell? (aQ w1.1.size 2)=some (iQ d.v):=(ay gl 2).trans rfl;have u3:w3.cell? (aQ w1.1.size 3)=some (iQ d.o):=(ay gl 3).trans rfl;have yT:=ae (Py N p win _ (cS S 2 d) w3 d rz tI.o hl (by have:=HN.o;omega));have yU:=ae (tI.o.F8 hl d);have yV:=ae (show w.1.size<=w3.1.size by omega);clear v0 v1 v2 v3 y1 mD rz gl aZ kW lh jI tI;go_wp2_with (go_at_call 194;refine yT.o.mono ?_)
   rintro e w4 ⟨rfl,yX,pq,yY,lK⟩;have cP:(pU win (cS S 2 d) d).tr.length=n+1:=by show(S.tr++[d]).length=n+1;rw[Yf,hn.o];rfl
   have eM:cd (pU win (cS S 2 d) d).tr n=d:=by
    show((S.tr++[d])[n]?).getD qT=d;rw[zsa (by rw[hn.o];exact Yp _),hn.o,zsw];rfl
   have kG:=GW N p win yX _ w4 n pq yU.o oQ;rw[eM]at kG;have vB:=ae kG;have G1:=ae pq;have yZ:Hid (kz w (.slice a S.tr.length cap) yX):=ae fun g hg=>(yY g hg).imp id (fun h=>Yq yV.o h)
   have dx:=ae (kB.o.then lK (fun _ _ h=>h));clear kG eM cP pq yY lK kB yT u1 u2 u3 yU HN;go_wp2_with (first
    |(go_at_call 195;refine vB.out.mono ?_;rintro e w5 ⟨rfl,eK⟩)
    |(refine yG rfl _ rfl (fA n d) rfl _ rfl ?_))
   intro w6 tq;obtain⟨jJ,_,gA⟩:=tq.o;have y8:YO w4.1.size w4 w6:=eK.trans (gA.mono eK.size);have rB:=ae (ep.one jJ);have y9:=ae y8;clear jJ gA y8 eK vB tq;go_wp2
   go_ret2
   rw[fh.o,hn.o];rw[hn.o]at dx yZ;exact⟨_,_,rfl,rB.o,G1.o.below y9.o,yZ.o,dx.o.below y9.o⟩
theorem zm8(N p win:Nat)(tv:YN)(S:VS)(w:YM)(F:FR)(h:bM w N p win tv S)(av:dS win S)(hN:N<=w.1.size):
  YR prog 173 #[pQ p,.agg (ak F)] w (Bc N p win tv w (cC win S F)):=by
 cases hh:jc S F
 ·exact zm2 N p win tv S w F h av hN hh
 ·obtain⟨hk,⟨h1,h3⟩,h2⟩:=zm1 hh;obtain⟨c,hc⟩:=zr6 h2;rcases Nat.lt_trichotomy c S.tr.length with aj|he|Gg
  ·exact zm3 N p win tv S w F h av hN hh c hc aj
  ·rw[he]at hc;rcases hk with hk|hk
   ·cases hl:S.dh
    ·exact zm7 N p win tv S w F h av hN hh hc hk hl oQ
    ·exact zm6 N p win tv S w F h av hN hh hc hk hl
   ·exact zm5 N p win tv S w F h av hN hh hc hk
  ·exact zm4 N p win tv S w F h av hN hh c hc Gg
def jL(w:YM)(u:YN)(l:List Nat):Prop:=(∀ x∈l,x<256)/\∃ a cap,u=.slice a l.length cap/\l.length<=cap/\(l=[]\/∃ g off cs,a=some (aQ g off)/\w.1[g]?=some (.cells cs 5 (0,0))/\∀ i,i<l.length->cs[off+i]?=some (.int .u8 ((l[i]?.getD 0:Nat):Int)))
def km(w:YM)(k t:Nat):Prop:=∃ cs f,w.1[k]?=some (.cells cs t f)
theorem km.ne{w:YM}{a:Nat}(h1:km w a s)(h2:km w b t)(h:s≠t):a≠b:=by
 obtain⟨_,_,h1⟩:=h1;obtain⟨_,_,h2⟩:=h2;exact Oo h1 h2 h
theorem km.lt{w:YM}{a:Nat}(h:km w a s):a<w.1.size:=by obtain⟨_,_,h⟩:=h;exact bp h
theorem jL.sM{w:YM}(h:jL w u l):∃ a cap,u=.slice a l.length cap/\jE w a l.length cap l:=by
 obtain⟨h1,a,cap,rfl,h2,h3⟩:=h;refine⟨a,cap,rfl,rfl,h2,h1,?_⟩;rcases h3 with h3|⟨g,off,cs,rfl,h4,h5⟩
 ·exact .inl h3
 ·exact .inr ⟨g,off,rfl,bp h4,fun i hi=>by rw[ay h4];exact h5 i hi⟩
theorem jL.mod{w w':YM}{T:Nat->Prop}(h:jL w u l)(hm:Mod w w' T)(hT:∀ k,T k->¬km w k 5):jL w' u l:=by
 obtain⟨h1,a,cap,rfl,h2,h3⟩:=h;refine⟨h1,a,cap,rfl,h2,?_⟩;rcases h3 with h3|⟨g,off,cs,rfl,h4,h5⟩
 ·exact .inl h3
 ·exact .inr ⟨g,off,cs,rfl,(hm.block g (bp h4) (fun ht=>hT g ht ⟨_,_,h4⟩)).trans h4,h5⟩
theorem jL.below{w w':YM}(h:jL w u l)(hB:YO w.1.size w w'):jL w' u l:=h.mod (Mod.fB hB (fun _=>False)) (fun _ hf=>hf.elim)
theorem zm9{w:YM}{N:Nat}(hb:∀ x∈l,x<256)(h:w.ownsRow N 5 1 u l.length (jH l)):jL w u l:=by
 refine⟨hb,?_⟩;rcases h.2 with ⟨rfl,h0⟩|⟨g,cap,bA,rfl,h1,h2,h3,h4,h5,h6⟩
 ·have:l=[]:=zsh.1 h0;subst this;exact⟨none,0,rfl,Yp _,.inl rfl⟩
 ·refine⟨_,cap,rfl,h3,.inr ⟨g,0,bA,rfl,h2,fun i hi=>?_⟩⟩;rw[Yv,<-X5];have e:(bA.toList.take (l.length*1))[i]?=(jH l)[i]?:=by rw[h6]
  rw[zse,YH oQ]at e;rw[e];unfold jH;rw[zsd,Yc hi];rfl
theorem zna(w:YM)(a:Option Addr)(cap:Nat):jL w (.slice a 0 cap) []:=⟨fun _ hx=>by simp at hx,a,cap,rfl,Yw _,.inl rfl⟩
def lV(p:Pk)(u:YN):List YN:=[iQ (p.src:Int),iQ (p.dst:Int),u]
def fT:List Pk->List YN->List YN
 |[],_=>[]
 |p::r,us=>lV p (us.headD YY)++fT r us.tail
theorem Dk:∀(l:List Pk)(us:List YN),(fT l us).length=l.length*3
 |[],_=>rfl
 |p::r,us=>by rw[fT,List.length_append,Dk r];simp[lV];omega
theorem zaH:∀(l m:List Pk)(us vs:List YN),us.length=l.length->fT (l++m) (us++vs)=fT l us++fT m vs
 |[],m,us,vs,h=>by
  have:us=[]:=zsh.1 (by simpa using h);subst this;rfl
 |p::r,m,us,vs,h=>by
  cases us with
  |nil=>simp at h
  |cons u us=>rw[Ya,Ya,fT,fT,zr8];simp only[zBd,zy4];rw[zaH r m us vs (by simpa using h)]
theorem PE:∀(l:List Pk)(us:List YN)(k j:Nat),us.length=l.length->k<l.length->j<3->(fT l us)[k*3+j]?=(lV (gU l k) (us[k]?.getD YY))[j]?
 |[],_,k,_,_,hk,_=>by simp at hk
 |p::r,us,k,j,h,hk,hj=>by
  cases us with
  |nil=>simp at h
  |cons u us=>
   cases k with
   |zero=>
    rw[fT,List.getElem?_append_left (by simp[lV];omega),Nat.zero_mul,Nat.zero_add];rfl
   |succ k=>
    rw[fT,List.getElem?_append_right (by simp[lV];omega),show(k+1)*3+j-(lV p ((u::us).headD YY)).length=k*3+j by simp[lV];omega];simp only[zy4];rw[PE r us k j (by simpa using h) (by simpa using hk) hj];rfl
theorem zaI:∀(l:List Pk)(us:List YN)(i:Nat),us.length=l.length->i<l.length->fT (l.eraseIdx i) (us.eraseIdx i)=(fT l us).take (i*3)++(fT l us).drop ((i+1)*3)
 |[],_,i,_,hi=>by simp at hi
 |p::r,us,i,h,hi=>by
  cases us with
  |nil=>simp at h
  |cons u us=>
   cases i with
   |zero=>
    rw[zA9,zA9,fT];simp[lV]
   |succ i=>
    rw[zA8,zA8,fT,fT];simp only[zBd,zy4];rw[zaI r us i (by simpa using h) (by simpa using hi)];have e1:(lV p u).length=3:=rfl;have e2:List.take ((i+1)*3) (lV p u)=lV p u:=zsp (by rw[e1];omega);have e3:List.drop ((i+1+1)*3) (lV p u)=[]:=List.drop_eq_nil_of_le (by rw[e1];omega);rw[List.take_append,List.drop_append,e1,e2,e3,show(i+1)*3-3=i*3 by omega,show(i+1+1)*3-3=(i+1)*3 by omega,zsn,zr8]
structure jk(w:YM)(N:Nat)(nv:YN)(l:List Pk)(us:List YN):Prop where
 row:w.ownsRow N 134 3 nv l.length (fT l us)
 len:us.length=l.length
 za:∀ i,i<l.length->jL w (us[i]?.getD YY) (gU l i).b
theorem znb{w:YM}{l:List Pk}(h:us.length=l.length)(hb:∀ i,i<l.length->jL w (us[i]?.getD YY) (gU l i).b):∀ u∈fT l us,u.oneCell'=true:=by
 intro u hu;obtain⟨i,hi,rfl⟩:=List.getElem_of_mem hu;rw[Dk]at hi;have e:=PE l us (i/3) (i%3) h oQ oQ;rw[show i/3*3+i%3=i by omega,Yc (by rw[Dk];exact hi)]at e;obtain⟨_,a,cap,hv,_⟩:=hb (i/3) oQ;rw[hv]at e;have hm:i%3=0\/i%3=1\/i%3=2:=oQ;rcases hm with m|m|m<;>rw[m]at e<;>simp[lV]at e<;>rw[e]<;>rfl
structure SC where
 p:Nat
 g0:Nat
 c0:Nat
 rp:Nat->Nat
 C:Nat->RC
 vp:Nat
 tv:YN
 nv:YN
 us:List YN
 lost:Int
def Bd(D:SC)(L:RC):Array YN:=#[iQ (L.s:Int),.slice (some (aQ D.g0 0)) L.n D.c0,iQ (L.d:Int),.pointer (some (aQ (D.rp 0) 0)),.pointer (some (aQ (D.rp 1) 0)),.pointer (some (aQ (D.rp 2) 0)),pQ D.vp,D.nv,iQ D.lost]
def Wr(D:SC)(k:Nat):Prop:=k=D.p\/D.nv.ownBlock=some k\/(∃ j,j<3/\k=D.rp j)\/k=D.vp\/D.tv.ownBlock=some k
def rC(D:SC)(k:Nat):Prop:=k=D.g0\/∃ j,j<3/\(k=(D.C j).pc\/k=(D.C j).g\/k=(D.C j).M\/k=(D.C j).g2)
structure rG(C L:RC):Prop where
 s:C.s=L.s
 d:C.d=L.d
 n:C.n=L.n
 zs:C.zs=L.zs
structure aL(w:YM)(N:Nat)(D:SC)(L:RC)(win:Nat)(S:SY):Prop where
 blk:w.1[D.p]?=some (.cells (Bd D L) 90 (0,0))
 row:Row w D.g0 0 L.zs
 xw:D.g0<w.1.size
 zb:L.n<=D.c0
 rp:∀ k,k<3->aF w (D.rp k) (D.C k) (S.rp k)
 ln:∀ k,k<3->rG (D.C k) L
 ne:∀ i j,i<3->j<3->i≠j->D.rp i≠D.rp j
 vt:bM w N D.vp win D.tv S.v
 aq:jk w N D.nv S.aq D.us
 sep:∀ x y,Wr D x->rC D y->x≠y
 base:∀ x,Wr D x->N<=x
 vF:∀ y,rC D y->N<=y
section
variable {w w':YM}{N win:Nat}{D:SC}{L:RC}{S:SY}
theorem aL.lt(h:aL w N D L win S):D.p<w.1.size:=bp h.blk
theorem jk.own{l:List Pk}(h:jk w N nv l us)(hg:nv.ownBlock=some g):∃ bA,w.1[g]?=some (.cells bA 134 (0,0)):=by
 rcases h.row.2 with ⟨rfl,h1⟩|⟨g',cap,bA,rfl,h1,h2,_⟩
 ·simp[ZF]at hg
 ·simp only[ZF,YA]at hg;subst hg;exact⟨bA,h2⟩
theorem aL.nj(h:aL w N D L win S):km w D.p 90:=⟨_,_,h.blk⟩
theorem aL.tJ(h:aL w N D L win S)(hg:D.nv.ownBlock=some g):km w g 134:=by obtain⟨c,e⟩:=h.aq.own hg;exact⟨_,_,e⟩
theorem aL.py(h:aL w N D L win S)(hj:j<3):km w (D.rp j) 160:=by obtain⟨cs,e,_⟩:=(h.rp j hj).blk;exact⟨_,_,e⟩
theorem aL.rH(h:aL w N D L win S):km w D.vp 148:=⟨_,_,h.vt.blk⟩
theorem aL.rJ(h:aL w N D L win S)(hg:D.tv.ownBlock=some g):km w g 49:=by obtain⟨_,c,e⟩:=h.vt.row.own hg;exact⟨_,_,e⟩
theorem aL.PG(h:aL w N D L win S){k:Nat}(hk:Wr D k):k<w.1.size:=by
 rcases hk with rfl|hk|⟨j,hj,rfl⟩|rfl|hk
 ·exact h.nj.lt
 ·exact(h.tJ hk).lt
 ·exact(h.py hj).lt
 ·exact h.rH.lt
 ·exact(h.rJ hk).lt
theorem aL.PH(h:aL w N D L win S){k:Nat}(hk:Wr D k):¬km w k 5:=by
 intro hb;rcases hk with rfl|hk|⟨j,hj,rfl⟩|rfl|hk
 ·exact h.nj.ne hb dQ rfl
 ·exact(h.tJ hk).ne hb dQ rfl
 ·exact(h.py hj).ne hb dQ rfl
 ·exact h.rH.ne hb dQ rfl
 ·exact(h.rJ hk).ne hb dQ rfl
theorem aL.Kv(h:aL w N D L win S){k:Nat}(hk:rC D k):k<w.1.size:=by
 rcases hk with rfl|⟨j,hj,rfl|rfl|rfl|rfl⟩
 ·exact h.xw
 ·exact(h.rp j hj).core.kh
 ·exact(h.rp j hj).core.eV
 ·exact(h.rp j hj).core.mlt
 ·exact(h.rp j hj).nV
theorem aL.bytes(h:aL w N D L win S)(hi:i<S.aq.length):jL w (D.us[i]?.getD YY) (gU S.aq i).b:=h.aq.za i hi
theorem aF.zaJ{C:RC}{R:RS}(h:aF w p C R){T:Nat->Prop}(hm:Mod w w' T)(hp:¬T p)(hT:∀ k,k=C.pc\/k=C.g\/k=C.M\/k=C.g2->¬T k):aF w' p C R:=by
 have e:∀ k,k<w.1.size->¬T k->w'.1[k]?=w.1[k]?:=fun k hk hp=>hm.block k hk hp
 refine⟨h.blk.same (e _ h.lt hp),h.core.blocks hm.size ?_,fun k hk=>(Ze (w:=w) (e _ h.nV (hT _ (.inr (.inr (.inr rfl)))))).trans (h.row k hk),Yr h.nV hm.size,h.JN,h.ap⟩;rintro k (rfl|rfl|rfl)
 ·exact e _ h.core.kh (hT _ (.inl rfl))
 ·exact e _ h.core.eV (hT _ (.inr (.inl rfl)))
 ·exact e _ h.core.mlt (hT _ (.inr (.inr (.inl rfl))))
theorem jk.mod{l:List Pk}(h:jk w N nv l us){T:Nat->Prop}(hm:Mod w w' T)(hn:∀ g,nv.ownBlock=some g->¬T g)(hb:∀ k,T k->¬km w k 5):jk w' N nv l us:=by
 refine⟨⟨h.row.1,?_⟩,h.len,fun i hi=>(h.za i hi).mod hm hb⟩;rcases h.row.2 with h2|⟨g,cap,bA,rfl,h3,h4,h5⟩
 ·exact .inl h2
 ·exact .inr ⟨g,cap,bA,rfl,h3,(hm.block g (bp h4) (hn g rfl)).trans h4,h5⟩
theorem aL.part(h:aL w N D L win S){T:Nat->Prop}(hm:Mod w w' T)(hT:∀ k,T k->Wr D k):
    (¬ T D.p → w'.1[D.p]? = some (.cells (Bd D L) 90 (0, 0))) ∧ (Row w' D.g0 0 L.zs ∧ D.g0 < w'.1.size) ∧ (∀ k, k < 3 → ¬ T (D.rp k) → aF w' (D.rp k) (D.C k) (S.rp k)) ∧
    ((∀ k, VB D.vp D.tv k → ¬ T k) → bM w' N D.vp win D.tv S.v) ∧ ((∀ g, D.nv.ownBlock = some g → ¬ T g) → jk w' N D.nv S.aq D.us) := by
  have bh : ∀ k, rC D k → ¬ T k := fun k hk ht => h.sep k k (hT k ht) hk rfl
  refine ⟨fun hp => (hm.block _ h.lt hp).trans h.blk, ⟨fun k hk => (Ze (w := w) (hm.block _ h.xw (bh _ (.inl rfl)))).trans (h.row k hk), Yr h.xw hm.size⟩, fun k hk hp => (h.rp k hk).zaJ hm hp fun j hj => bh j (.inr ⟨k, hk, hj⟩), fun hv => h.vt.move hm hv, fun hn => h.aq.mod hm hn fun k hk => h.PH (hT k hk)⟩
theorem aL.below(h:aL w N D L win S)(hB:YO w.1.size w w'):aL w' N D L win S:=by
 obtain⟨h1,⟨h2,h3⟩,h4,h5,h6⟩:=h.part (Mod.fB hB (fun _=>False)) (fun _ hf=>hf.elim);exact⟨h1 (fun x=>x),h2,h3,h.zb,fun k hk=>h4 k hk (fun x=>x),h.ln,h.ne,h5 (fun _ _ x=>x),h6 (fun _ _ x=>x),h.sep,h.base,h.vF⟩
structure Gr(n:Nat)(D D':SC):Prop where
 wr:∀ k,Wr D' k->Wr D k\/n<=k
 st:∀ k,rC D' k->rC D k\/n<=k
theorem Gr.refl(n:Nat)(D:SC):Gr n D D:=⟨fun _ x=>.inl x,fun _ x=>.inl x⟩
theorem Gr.le{n:Nat}{D D':SC}(h:Gr n D D')(hm:m<=n):Gr m D D':=⟨fun k hk=>(h.wr k hk).imp id fun x=>Yq hm x,fun k hk=>(h.st k hk).imp id fun x=>Yq hm x⟩
theorem Gr.trans{n:Nat}{D D1 D2:SC}(h:Gr n D D1)(g:Gr m D1 D2)(hm:n<=m):Gr n D D2:=by
 refine⟨fun k hk=>?_,fun k hk=>?_⟩
 ·rcases g.wr k hk with x|x
  ·exact h.wr k x
  ·exact .inr (Yq hm x)
 ·rcases g.st k hk with x|x
  ·exact h.st k x
  ·exact .inr (Yq hm x)
def Dl(w w':YM)(N:Nat)(D:SC)(L:RC)(win:Nat)(S':SY):Prop:=∃ D',D'.p=D.p/\aL w' N D' L win S'/\Mod w w' (Wr D)/\Gr w.1.size D D'
theorem aL.uZ(h:aL w N D L win S){k:Nat}(hk:k<3){R:RS}(hm:Mod w w' (· = D.rp k))(hR:aF w' (D.rp k) (D.C k) R):aL w' N D L win ⟨upd S.rp k R,S.v,S.aq⟩/\Mod w w' (Wr D):=by
 have hT:∀ j,j=D.rp k->Wr D j:=fun j hj=>.inr (.inr (.inl ⟨k,hk,hj⟩))
 obtain⟨h1,⟨h2,h3⟩,h4,h5,h6⟩:=h.part hm hT;refine⟨⟨h1 (fun e=>h.nj.ne (h.py hk) dQ e),h2,h3,h.zb,fun j hj=>?_,h.ln,h.ne,h5 fun j hj e=>?_,h6 fun g hg e=>(h.tJ hg).ne (h.py hk) dQ e,h.sep,h.base,h.vF⟩,hm.mono fun i _ hi=>hT i hi⟩
 ·show aF w' (D.rp j) (D.C j) (upd S.rp k R j);by_cases e:j=k
  ·subst e;rw[upd_same];exact hR
  ·rw[cR _ _ e];exact h4 j hj (h.ne j k hj hk e)
 ·rcases hj with rfl|hj
  ·exact h.rH.ne (h.py hk) dQ e
  ·exact(h.rJ hj).ne (h.py hk) dQ e
def NB(D:SC)(k:Nat):Prop:=k=D.p\/D.nv.ownBlock=some k
theorem aL.at(h:aL w N D L win S)(k:Nat):w.cell? (aQ D.p k)=(Bd D L)[k]?:=ay h.blk k
theorem aL.free(h:aL w N D L win S)(k:Nat):w.frozen? (aQ D.p k)=false:=fL h.blk k
theorem aL.drew(h:aL w N D L win S):aL w.drew N D L win S:=h.below (YS _ _).drew
end
theorem zaK:(prog.info? 134).map (fun i=>(i.zero,i.size,i.bytes))=some (some (.agg #[iQ 0,iQ 0,.slice none 0 0]),3,40):=kQ
section
variable {w w':YM}{N win:Nat}{D:SC}{L:RC}{S:SY}
theorem jk.shape{l:List Pk}(h:jk w N nv l us):∃ a cap,nv=.slice a l.length cap:=by
 rcases h.row.2 with ⟨rfl,h0⟩|⟨g,cap,bA,rfl,_⟩
 ·exact⟨none,0,by rw[h0]⟩
 ·exact⟨_,_,rfl⟩
theorem aL.G2(h:aL w N D L win S):∀ g,D.nv.ownBlock=some g->g≠D.p:=fun _ hg=>(h.tJ hg).ne h.nj dQ
theorem jk.grown{l:List Pk}{q:Pk}{wb w3:YM}{eu:Nat}(h:jk wb N nv l us)(hu:jL wb u q.b)(bC:w3.ownsRow N 134 3 (.slice (some (aQ g 0)) (l.length+1) eu) (l.length+1) (fT l us++lV q u))(hg:wb.grownBy w3 nv.ownBlock):jk w3 N (.slice (some (aQ g 0)) (l.length+1) eu) (l++[q]) (us++[u]):=by
 have hm:Mod wb w3 (fun k=>nv.ownBlock=some k):=(Mod.refl wb _).grown hg (fun k _ e=>e);have hty:∀ k,nv.ownBlock=some k->¬km wb k 5:=fun k hk hb=>by
  obtain⟨bA,hc⟩:=h.own hk;exact km.ne ⟨_,_,hc⟩ hb dQ rfl
 refine⟨?_,by rw[Yf,Yf,h.len];rfl,fun i hi=>?_⟩
 ·rw[Yf,zaH _ _ _ _ h.len];exact bC
 ·rw[Yf]at hi;have aN:i<l.length+1:=hi;by_cases e:i<l.length
  ·rw[Yb (by rw[h.len];exact e),show gU (l++[q]) i=gU l i by unfold gU;rw[Yb e]];exact(h.za i e).mod hm hty
  ·have e:i=l.length:=oQ;subst e;rw[show(us++[u])[l.length]?=some u by rw[<-h.len];simp,show gU (l++[q]) l.length=q by unfold gU;simp];exact hu.mod hm hty
end
def xx:List YN:=[iQ 0,iQ 0,.slice none 0 0]
theorem znc(w:YM)(ty:TypeId)(b o c:Nat)(ht:w.there b o 3):
  (zvG #[88] ty #[.slice (some (aQ b o)) 1 c]).run prog w=.ok (.tuple #[]) (w.setCells b o xx):=by
 have bh:=run_storeCells_cells (P:=prog) b o xx 0 w (by intro j hj;rw[zvl];exact(ht j hj).1) (by intro j hj;rw[zvl];exact(ht j hj).2) (by intro v hv;simp[xx]at hv;rcases hv with rfl|rfl|rfl<;>rfl);simp only[zvl]at bh;have hzc:(Builtin.zeroCells (Value.agg #[iQ 0,iQ 0,.slice none 0 0]).cells 1).toList=xx:=kQ;simp[zvG,run_underlying underlying88,hzc,bh]
section
variable {au:Array Oper}{rest:List Oper}{op:Oper}{a:Act}{w:YM}{Q:Exit->Act->YM->Prop}
theorem znd(gq:op.guard=none)(x:Operand)(ho:op.op=Op.call {callee:=Callee.builtin Builtin.clear,args:=#[x],argTypes:=#[88]})(b o c:Nat)(hx:a.eval x=.slice (some (aQ b o)) 1 c)(ht:w.there b o 3)
  (h:∀ w',Hid (w.setCells b o xx=w')->wpList prog au Q rest (a.put op.dst (.tuple #[])) w'):wpList prog au Q (op::rest) a w:=
 wpList_plain gq fun _ hK=>by
  have cO:=znc w op.type b o c ht;unfold Oper.wp;simp[execOp,ho,resolve,invoke,builtin,hx,cO,Result.andThen];exact hK _ _ (h _ rfl)
end
theorem zaL{w:YM}{n:Nat}{bA:Array YN}(h:w.1[g]?=some (.cells bA t (0,0)))(hs:bA.size=n):eJ w g t n (fun k=>bA[k]?.getD YY):=by
 refine⟨bA,h,hs,fun k hk=>?_⟩;have:k<bA.size:=oQ;simp[this]
theorem zne{w w2:YM}{N:Nat}{l:List Pk}(h:jk w N (.slice (some (aQ g 0)) l.length cap) l us)(hi:i<l.length)
  (hw:w2=(w.setCells g (i*3) ((fT l us).drop ((i+1)*3))).setCells g ((l.length-1)*3) xx):w2.ownsRow N 134 3 (.slice (some (aQ g 0)) (l.length-1) cap) (l.length-1) (fT (l.eraseIdx i) (us.eraseIdx i))/\Mod w w2 (· = g):=by
 have rK:=Dk l us;have bn:(l.eraseIdx i).length=l.length-1:=zw7 hi;rcases h.row.2 with ⟨e,_⟩|⟨g',eu,bA,e,h1,h2,h3,h4,h5,h6⟩
 ·simp at e
 ·simp only[ztd,YA,zts,zsB]at e;obtain⟨rfl,_,rfl⟩:=e;have hB:eJ w g 134 (cap*3) (fun k=>bA[k]?.getD YY):=zaL h2 h5;have aS:=eJ.mr ((fT l us).drop ((i+1)*3)) (i*3) w _ hB (by rw[zsg,rK];omega);have aZ:=eJ.mr xx ((l.length-1)*3) _ _ aS (by show(l.length-1)*3+3<=cap*3;omega);rw[<-hw]at aZ;obtain⟨cs,b1,b2,b3⟩:=aZ;refine⟨⟨by rw[Dk,bn],.inr ⟨g,cap,cs,rfl,h1,b1,oQ,h4,b2,?_⟩⟩,?_⟩
  ·rw[zaI l us i h.len hi];apply List.ext_getElem?;intro j;rw[zse];by_cases hj:j<(l.length-1)*3
   ·rw[YH hj,X5,b3 j oQ];show some (if(l.length-1)*3<=j then _ else if i*3<=j then _ else _)=_;rw[YG oQ];have Dm:∀ x,x<l.length*3->bA[x]?=(fT l us)[x]?:=fun x hx=>by rw[<-h6,zse,YH hx,X5]
    by_cases mO:i*3<=j
    ·rw[YH mO,zsa (by rw[zsj,rK];omega),zsj,rK,show min (i*3) (l.length*3)=i*3 by omega,zw6,Yc (by rw[rK];omega)];rfl
    ·rw[YG mO,Yb (by rw[zsj,rK];omega),zse,YH oQ];show some (bA[j]?.getD YY)=_;rw[Dm j oQ,Yc (by rw[rK];omega)];rfl
   ·rw[YG hj,zsc];rw[Yf,zsj,zsg,rK];omega
  ·rw[hw];exact((Mod.refl w (· = g)).mr g _ _ rfl).mr g _ _ rfl
theorem jk.del{w w2:YM}{N:Nat}{l:List Pk}(h:jk w N (.slice (some (aQ g 0)) l.length cap) l us)(hi:i<l.length)
  (hw:w2=(w.setCells g (i*3) ((fT l us).drop ((i+1)*3))).setCells g ((l.length-1)*3) xx):jk w2 N (.slice (some (aQ g 0)) (l.length-1) cap) (l.eraseIdx i) (us.eraseIdx i)/\Mod w w2 (· = g):=by
 obtain⟨h1,h2⟩:=zne h hi hw;have bn:(l.eraseIdx i).length=l.length-1:=zw7 hi;have hlu:(us.eraseIdx i).length=us.length-1:=zw7 (by rw[h.len];exact hi);refine⟨⟨by rw[bn];exact h1,by rw[bn,hlu,h.len],fun j hj=>?_⟩,h2⟩;rw[bn]at hj;have key:∃ m,m<l.length/\(us.eraseIdx i)[j]?=us[m]?/\(l.eraseIdx i)[j]?=l[m]?:=by
  by_cases e:j<i
  ·exact⟨j,oQ,zBc e,zBc e⟩
  ·exact⟨j+1,oQ,zBb oQ,zBb oQ⟩
 obtain⟨m,m1,m2,m3⟩:=key;rw[m2,show gU (l.eraseIdx i) j=gU l m by unfold gU;rw[m3]];refine(h.za m m1).mod h2 fun k hk hb=>?_
 subst hk;obtain⟨bA,hc⟩:=h.own rfl;exact km.ne ⟨_,_,hc⟩ hb dQ rfl
theorem znf(N g cap:Nat)(l:List Pk)(us:List YN)(i:Nat)(w:YM)(h:jk w N (.slice (some (aQ g 0)) l.length cap) l us)(hi:i<l.length)(bn:l.length<=120):
  YR prog 128 #[.slice (some (aQ g 0)) l.length cap,iQ (i:Int),iQ ((i:Int)+1)] w fun e w'=>
   e=.returned (.slice (some (aQ g 0)) (l.length-1) cap)/\jk w' N (.slice (some (aQ g 0)) (l.length-1) cap) (l.eraseIdx i) (us.eraseIdx i)/\Mod w w' (· = g):=by
 have rK:=Dk l us;obtain⟨rf,Ed,qw,bV⟩:l.length<=cap/\cap<=maxLen/\(∃ bA,w.1[g]?=some (.cells bA 134 (0,0))/\bA.size=cap*3)/\∀ j u,(fT l us)[j]?=some u->w.cell? (aQ g j)=some u:=by
  rcases h.row.2 with ⟨e,_⟩|⟨g',eu,bA,e,h1,h2,h3,h4,h5,h6⟩
  ·simp at e
  ·simp only[ztd,YA,zts,zsB]at e;obtain⟨rfl,_,rfl⟩:=e;refine⟨h3,h4,⟨bA,h2,h5⟩,fun j u hu=>?_⟩;have hj:j<l.length*3:=by have:=(Ye.1 hu).1;rwa [rK]at this
   rw[ay h2,<-X5,<-hu,<-h6,zse,YH hj]
 obtain⟨bA,Dm,bm⟩:=qw;obtain⟨i0,FH,cQ,bf,bK⟩:=info_parts zaK;obtain⟨uf,Hy⟩:∃ uf,Hid ((fT l us).drop ((i+1)*3)=uf):=eQ;obtain⟨A,hA,Dn⟩:∃ A:Addr,(if cap=i+1 then some ((aQ g 0):Addr)else some ⟨g,(i+1)*3,none⟩)=some A/\Hid (∀ j u,uf[j]?=some u->w.drew.cell? (A.add j)=some u):=by
  rw[<-Hy.o];by_cases e:cap=i+1
  ·refine⟨(aQ g 0),by simp[e],fun j u hu=>?_⟩;have h0:((fT l us).drop ((i+1)*3)).length=0:=by rw[zsg,rK];omega
   rw[zsh.1 h0]at hu;simp at hu
  ·refine⟨⟨g,(i+1)*3,none⟩,by simp[e],fun j u hu=>?_⟩;rw[zw6]at hu;rw[Addr.add_lit];exact bV _ u hu
 have s1:Hid (uf.length=(l.length-(i+1))*3):=by rw[Hid,<-Hy.o,zsg,rK];omega
 have s2:Hid (∀ u∈uf,u.oneCell'=true):=by rw[Hid,<-Hy.o];exact fun u hu=>znb h.len h.za u (List.mem_of_mem_drop hu)
 have s3:Hid (∀ j,j<uf.length->(w.drew.cell? (aQ g (0+i*3+j))).isSome=true/\w.drew.frozen? (aQ g (0+i*3+j))=false):=by
  rw[Hid];intro j hj;rw[s1.out]at hj;refine⟨?_,fL (w:=w) Dm _⟩;show(w.cell? _).isSome=true;rw[ay Dm,XW oQ];rfl
 have Kw:Hid (∀ w2,w2=(w.drew.setCells g (i*3) uf).setCells g ((l.length-1)*3) xx->jk w2 N (.slice (some (aQ g 0)) (l.length-1) cap) (l.eraseIdx i) (us.eraseIdx i)/\Mod w w2 (· = g)):=ae fun w2 e=>by
  have hd:jk w.drew N (.slice (some (aQ g 0)) l.length cap) l us:=h.mod (T:=fun _=>False) ⟨rfl,rfl,rfl,Yp _,fun _ _ _=>rfl⟩ (fun _ _ x=>x) (fun _ x=>x.elim);obtain⟨a1,a2⟩:=hd.del hi (w2:=w2) (by rw[e,Hy.o]);exact⟨a1,⟨a2.os,a2.tape,a2.output,a2.size,a2.block⟩⟩
 have nY:Hid ((w.drew.setCells g (i*3) uf).there g ((l.length-1)*3) 3):=by
  rw[Hid];have hB:eJ w.drew g 134 (cap*3) (fun k=>bA[k]?.getD YY):=zaL (w:=w.drew) Dm bm;exact(eJ.mr uf (i*3) w.drew _ hB (by rw[s1.out];omega)).there oQ
 have pC:IntKind.i64.wrap ((i:Int)+1)=(i:Int)+1:=by rw[IntKind.wrap_i64];omega
 have hp0:(0:Int)<=(i:Int)+1:=oQ;have fJ:(i:Int)+1<=(l.length:Int):=oQ;have mb:((i:Int)+1).toNat=i+1:=oQ;have qV:(i:Int)<=(i:Int)+1:=oQ;have Ky:(l.length:Int)<=(cap:Int):=oQ;have hic:i<=cap:=oQ;have hm:cap<=9223372036854775807:=by unfold maxLen at Ed;omega
 have aW:((i:Int)==(i:Int)+1)=false:=tQ;clear h bV Dm bm Hy;go_enter func128,ntmps128;go_wp2_with fail
 go_region_law (refine step_append_room rfl (.tmp 22) (.tmp 25) 88 rfl 134 i0 3 underlying88 FH bf g 0 i cap (by simp[Act.eval,Act.put]) A (l.length-(i+1)) (cap-(i+1)) uf (by simp[Act.eval,Act.put]) s1.out Dn.o s2.out oQ s3.out ?_)
 rw[show i+(l.length-(i+1))=l.length-1 by omega];generalize HWx:w.drew.setCells g (i*3) uf=W1;rw[HWx]at nY Kw;clear HWx s1 s2 s3 Dn hA pC hp0 fJ mb qV aW;obtain⟨m,cG⟩:∃ m,l.length=m+1:=⟨l.length-1,oQ⟩;have HML:Hid (l.length-1=m):=by rw[Hid];omega
 rw[cG]at nY Kw rf Ky bn hi⊢;rw[show m+1-1=m by omega]at nY Kw⊢;clear cG rK;have vG:¬cap=m:=oQ;have yy:m<=m+1:=oQ;have hq3:(m:Int)<=(m:Int)+1:=oQ;have hq4:m+1-m=1:=oQ;go_wp2_with (refine znd rfl _ rfl g (m*3) _ rfl nY.o ?_)
 intro W2 Kp;go_wp2
 go_ret;rw[HML.o];exact⟨rfl,Kw.o _ Kp.o.symm⟩
section
variable {w:YM}{N win:Nat}{D:SC}{L:RC}{S:SY}
theorem aL.PI(h:aL w N D L win S)(h0:0<S.aq.length):∃ g cap,D.nv=.slice (some (aQ g 0)) S.aq.length cap:=by
 rcases h.aq.row.2 with ⟨_,e⟩|⟨g,cap,bA,e,_⟩
 ·omega
 ·exact⟨g,cap,e⟩
end
theorem zng(x:Int)(w:YM):
  YR prog 124 #[iQ x] w fun e w'=>e=.returned (.func (Fn.func 172) #[] #[pQ w.1.size])/\w'=w.alloc (.cells #[iQ x] 3):=by
 go_enter func124,ntmps124;go_wp2
 go_ret;exact⟨rfl,rfl⟩
theorem znh(x y:Int)(b:Nat)(w:YM)(hc:w.cell? (aQ b 0)=some (iQ y)):
  YR prog 172 #[iQ x,pQ b] w fun e w'=>e=.returned (.bool (x != y))/\w'=w:=by
 go_enter func172,ntmps172;go_wp2
 go_ret;exact⟨rfl,rfl⟩
theorem xy(x:Int)(w:YM):
  YR prog 49 #[iQ x] w fun e w'=>e=.returned (.bool (cV x))/\w'=w:=by
 by_cases h0:0<=x
 ·by_cases h3:x<3
  ·have e:cV x=true:=by unfold cV;simp[h0,h3]
   rw[e];go_enter func49,ntmps49;go_wp2
   go_ret;exact⟨rfl,rfl⟩
  ·have e:cV x=false:=by unfold cV;simp[h0,h3]
   rw[e];go_enter func49,ntmps49;go_wp2
   go_ret;exact⟨rfl,rfl⟩
 ·have e:cV x=false:=by unfold cV;simp[h0]
  rw[e];go_enter func49,ntmps49;go_wp2
  go_ret;exact⟨rfl,rfl⟩
theorem PJ(N:Nat)(D:SC)(L:RC)(win:Nat)(S:SY)(w:YM)(i:Nat)(h:aL w N D L win S):
  YR prog 74 #[pQ D.p,iQ (i:Int)] w fun e w'=>e=.returned (.bool (decide (i<S.aq.length)))/\w'=w:=by
 obtain⟨a,cap,fo⟩:=h.aq.shape;have c7:w.cell? (aQ D.p 7)=some (.slice a S.aq.length cap):=(h.at 7).trans (by show some D.nv=_;rw[fo]);have h0:(0:Int)<=(i:Int):=oQ;clear h fo;by_cases hi:i<S.aq.length
 ·have aN:(i:Int)<(S.aq.length:Int):=oQ;rw[YE hi];go_enter func74,ntmps74;go_wp2
  go_ret;exact⟨rfl,rfl⟩
 ·have aN:¬(i:Int)<(S.aq.length:Int):=oQ;rw[YD hi];go_enter func74,ntmps74;go_wp2
  go_ret;exact⟨rfl,rfl⟩
theorem zaM{p:Pk}{l:List Pk}(h:l.length<=120):(ji p l).length<=120:=by
 unfold ji;split
 ·exact h
 ·rw[Yf];simp;omega
theorem G3{src:Nat}{F:FR}{l:List Pk}(h:l.length<=120):∀ k,(iR src F l k).length<=120
 | 0=>h
 |k+1=>by
  unfold iR;split
  ·exact G3 h k
  ·exact zaM (G3 h k)
theorem PK{src:Nat}:∀(Fs:List FR)(l:List Pk),l.length<=120->(lf src dst Fs l).length<=120
 |[],_,h=>h
 |_::r,_,h=>PK r _ (zaM h)
theorem zaN{src:Nat}:∀(Fs:List FR)(l:List Pk),l.length<=120->(yP src Fs l).length<=120
 |[],_,h=>h
 |_::r,_,h=>zaN r _ (G3 h 3)
section
variable {w w':YM}{N win:Nat}{D:SC}{L:RC}{S:SY}
theorem aL.zaO(h:aL w N D L win S){k:Nat}(hk:km w k t)(ht:90≠t/\134≠t/\160≠t/\148≠t/\49≠t):¬Wr D k:=by
 obtain⟨t1,t2,t3,t4,t5⟩:=ht;rintro(e|e|⟨j,hj,e⟩|e|e)
 ·exact h.nj.ne hk t1 e.symm
 ·exact(h.tJ e).ne hk t2 rfl
 ·exact(h.py hj).ne hk t3 e.symm
 ·exact h.rH.ne hk t4 e.symm
 ·exact(h.rJ e).ne hk t5 rfl
theorem Dl.stays(h:Dl w w' N D L win S){S0:SY}(h0:aL w N D L win S0){k:Nat}{cs:Array YN}{f:Nat×Nat}(hk:w.1[k]?=some (.cells cs t f))(ht:90≠t/\134≠t/\160≠t/\148≠t/\49≠t):w'.1[k]?=some (.cells cs t f):=by
 obtain⟨D',_,_,hm,_⟩:=h;exact(hm.block k (bp hk) (h0.zaO ⟨_,_,hk⟩ ht)).trans hk
end
theorem rG.tick{C L:RC}(h:rG C L)(R:RS):ij C R=ij L R:=by
 obtain⟨h1,h2,h3,h4⟩:=h;unfold ij;rw[h1,h3]
theorem rG.second{C L:RC}(h:rG C L)(R:RS):iF C R=iF L R:=by
 obtain⟨h1,h2,h3,h4⟩:=h;unfold iF nc Db;rw[h1,h2,h3,h4]
theorem rG.takes{C L:RC}(h:rG C L)(F:FR)(R:RS):fj C F R=fj L F R/\gh C F R=gh L F R:=by
 obtain⟨h1,h2,h3,h4⟩:=h;unfold fj gh rr iN GH;rw[h1,h2,h3,h4];exact⟨rfl,rfl⟩
theorem aL.Dp{w:YM}{N win:Nat}{D:SC}{L:RC}{S:SY}(h:aL w N D L win S){k:Nat}(hk:k<3):w.cell? (aQ D.p (3+k))=some (.pointer (some (aQ (D.rp k) 0))):=by
 rw[h.at];rcases(by omega:k=0\/k=1\/k=2)with rfl|rfl|rfl<;>rfl
theorem zni(R:RS):ng R 1=(R.id:Int):=rfl
theorem znj(win:Nat)(V:VS)(F:FR):∀ G∈(cC win V F).2.1,G 1=3:=by
 intro G hG;unfold cC at hG;split at hG
 ·simp at hG
 ·split at hG
  ·have ze:G∈mX V.tr (F 2).toNat:=hG;unfold mX at ze;split at ze
   ·rw[zsm.1 ze];rfl
   ·simp only[Yl,Yo,YL]at ze;rcases ze with rfl|rfl<;>rfl
  ·split at hG
   ·simp at hG
   ·split at hG
    ·simp at hG
    ·rw[zsm.1 hG];rfl
theorem znk(win:Nat)(V:VS)(F:FR):(cC win V F).2.1.length<=2:=by
 unfold cC;split
 ·simp
 ·split
  ·show(mX V.tr (F 2).toNat).length<=2;unfold mX;split<;>simp
  ·split
   ·simp
   ·split<;>simp
theorem PL(src dst:Nat)(F:FR):∀(a:List FR)(l:List Pk),lf src dst (a++[F]) l=vC src F dst (lf src dst a l)
 |[],_=>rfl
 |_::r,_=>PL src dst F r _
theorem zaP(src:Nat)(F:FR):∀(a:List FR)(l:List Pk),yP src (a++[F]) l=iR src F (yP src a l) 3
 |[],_=>rfl
 |_::r,_=>zaP src F r _
theorem zaQ{Fs:List FR}(hi:i<Fs.length):Fs.take (i+1)=Fs.take i++[Fs[i]?.getD aD]:=by
 rw[zso,Yc hi];rfl
theorem ep.stays{w w':YM}{N win:Nat}{D:SC}{L:RC}{S S0:SY}{Fs:List FR}(h:ep w 36 v Fs)(hg:Dl w w' N D L win S)(h0:aL w N D L win S0):ep w' 36 v Fs:=by
 rcases h with h|⟨g,cap,rfl,h1,cs,h2,hc⟩
 ·exact .inl h
 ·exact .inr ⟨g,cap,rfl,h1,cs,hg.stays h0 h2 dQ,hc⟩
theorem ep.shape{w:YM}{Fs:List FR}(h:ep w 36 v Fs):∃ a cap,v=.slice a Fs.length cap:=by
 rcases h with ⟨rfl,rfl⟩|⟨g,cap,rfl,_⟩
 ·exact⟨none,0,rfl⟩
 ·exact⟨_,_,rfl⟩
theorem ep.some{w:YM}{a:Option Addr}{n:Nat}{Fs:List FR}(h:ep w 36 (.slice a n cap) Fs)(h0:0<Fs.length):∃ g,a=some (aQ g 0):=by
 rcases h with ⟨rfl,_⟩|⟨g,cap,e,_⟩
 ·simp at h0
 ·simp only[ztd]at e;exact⟨g,e.1⟩
def nk(al:Bool)(src:Nat)(Fs:List FR)(l:List Pk):List Pk:=if al then yP 3 Fs l else lf 3 src Fs l
theorem znl(al:Bool)(src:Nat)(Fs:List FR){l:List Pk}(h:l.length<=120):(nk al src Fs l).length<=120:=by
 unfold nk;split
 ·exact zaN _ _ h
 ·exact PK _ _ h
abbrev Seen:=Nat->Nat->Bool->Nat->Prop
def tK(W:Seen)(j n c v:Nat):Prop:=(∀ b,c.testBit b=true->W j n false b)/\∀ b,v.testBit b=true->W j n true b
def zaR(W:Seen)(liar n c v:Nat):Prop:=(∀ b,c.testBit b=true->∃ j,j<3/\j≠liar/\W j n false b)/\∀ b,v.testBit b=true->∃ j,j<3/\j≠liar/\W j n true b
def mF(L:RC)(W:Seen)(liar:Nat)(tr:List Cm)(n:Nat)(d:Cm):Prop:=∃ c v:Nat,d=⟨c,v,(Dh L (lg L tr n) c v:Nat)⟩/\c<2^L.s/\v<2^L.n/\zaR W liar n c v
structure kH(L:RC)(W:Seen)(liar:Nat)(tr:List Cm)(src:Nat)(F:FR):Prop where
 PM:F 0=1->∃ n c v:Nat,F 2=n/\F 3=c/\F 4=v/\c<2^L.s/\v<2^L.n/\tK W src n c v
 PN:F 0=2->∃ n:Nat,F 2=n/\n<=tr.length/\mF L W liar tr n (bH F)
 done:F 0=3->∃ n:Nat,F 2=n/\n<tr.length/\F 3=(cd tr n).c/\F 4=(cd tr n).v
 known:F 0=5->∃ n:Nat,F 2=n/\n<=tr.length/\∀ j,j<17->F (6+j)=yN (lg L tr n) j
structure vH(L:RC)(W:Seen)(liar:Nat)(tr:List Cm)(p:Pk):Prop where
 src:p.src<=3
 dst:p.dst<=3
 len:p.b.length<=80
 byte:∀ x∈p.b,x<256
 po:(p.src=liar/\p.src<3)\/(aP p.b).1≠0\/kH L W liar tr p.src (aP p.b).2
def Be(L:RC)(tr:List Cm)(T:Nat->Int):Prop:=(∀ i,i<18->T i=0)\/∃ n:Nat,n<=tr.length/\T 0=n/\∀ i,i<17->T (1+i)=yN (lg L tr n) i
structure dF(L:RC)(W:Seen)(liar:Nat)(tr:List Cm)(T k:Nat)(R:RS):Prop where
 id:R.id=k
 aO:0<=R.aO/\R.aO<=(T:Int)
 came:∀ j,j<3->0<=(R.aI j).came/\(R.aI j).came<=R.aO
 aI:∀ j,j<3->(R.aI j).c<2^L.s/\(R.aI j).v<2^L.n
 lL:∃ n:Nat,R.cycle=n/\n<=tr.length/\R.st=lg L tr n/\∀ j,j<3->j≠liar->tK W j n (R.aI j).c (R.aI j).v
 told:∀ j,j<3->j≠liar->Be L tr (R.told j)
 me:∀ i,i<18->R.told k i=0
 ahead:0<=R.ahead/\(R.ahead<(tr.length:Int)\/R.ahead=0)
structure bu(L:RC)(W:Seen)(liar win T:Nat)(S:SY):Prop where
 rp:∀ k,k<3->dF L W liar S.v.tr T k (S.rp k)
 jv:dS win S.v
 tr:∀ i,i<S.v.tr.length->mF L W liar S.v.tr i (cd S.v.tr i)
 xr:∀ k,k<3->k≠liar->S.v.b k=true->mF L W liar S.v.tr S.v.tr.length (S.v.x k)
 out:∀ k,k<3->k≠liar->S.v.out.testBit k=false
 apart:∀ i j,i≠j->S.v.b i=true->S.v.b j=true->S.v.x i≠S.v.x j
 few:∀ i,3<=i->S.v.b i=false
 many:S.aq.length<=120
 aq:∀ p∈S.aq,vH L W liar S.v.tr p
section
variable {L:RC}{W W':Seen}{liar win T n k:Nat}{tr:List Cm}
theorem mF.app{d:Cm}(h:mF L W liar tr n d)(hn:n<=tr.length)(a:List Cm):mF L W liar (tr++a) n d:=by
 obtain⟨c,v,h1,h2⟩:=h;exact⟨c,v,by rw[Ko hn];exact h1,h2⟩
theorem kH.app{src:Nat}{F:FR}(h:kH L W liar tr src F)(a:List Cm):kH L W liar (tr++a) src F:=by
 refine⟨h.PM,fun e=>?_,fun e=>?_,fun e=>?_⟩
 ·obtain⟨n,h1,h2,h3⟩:=h.PN e;exact⟨n,h1,by rw[Yf];omega,h3.app h2 a⟩
 ·obtain⟨n,h1,h2,h3,h4⟩:=h.done e;exact⟨n,h1,by rw[Yf];omega,by rw[Pq h2];exact h3,by rw[Pq h2];exact h4⟩
 ·obtain⟨n,h1,h2,h3⟩:=h.known e;exact⟨n,h1,by rw[Yf];omega,by rw[Ko h2];exact h3⟩
theorem vH.app{p:Pk}(h:vH L W liar tr p)(a:List Cm):vH L W liar (tr++a) p:=by
 refine⟨h.src,h.dst,h.len,h.byte,?_⟩;rcases h.po with h|h|h
 ·exact .inl h
 ·exact .inr (.inl h)
 ·exact .inr (.inr (h.app a))
theorem Be.app(h:Be L tr U)(a:List Cm):Be L (tr++a) U:=by
 rcases h with h|⟨n,h1,h2,h3⟩
 ·exact .inl h
 ·exact .inr ⟨n,by rw[Yf];omega,h2,by rw[Ko h1];exact h3⟩
theorem dF.app{R:RS}(h:dF L W liar tr T k R)(a:List Cm):dF L W liar (tr++a) T k R:=by
 obtain⟨n,c1,c2,c3,c4⟩:=h.lL;refine⟨h.id,h.aO,h.came,h.aI,⟨n,c1,by rw[Yf];omega,by rw[Ko c2];exact c3,c4⟩,fun j hj hl=>(h.told j hj hl).app a,h.me,h.ahead.1,?_⟩;rcases h.ahead.2 with h|h
 ·left;rw[Yf];omega
 ·exact .inr h
theorem dF.later{R:RS}(h:dF L W liar tr T k R)(hT:T<=T'):dF L W liar tr T' k R:=⟨h.id,⟨h.aO.1,by have:=h.aO.2;omega⟩,h.came,h.aI,h.lL,h.told,h.me,h.ahead⟩
theorem bu.later{S:SY}(h:bu L W liar win T S)(hT:T<=T'):bu L W liar win T' S:=⟨fun k hk=>(h.rp k hk).later hT,h.jv,h.tr,h.xr,h.out,h.apart,h.few,h.many,h.aq⟩
theorem dF.ok{R:RS}(h:dF L W liar tr T k R)(hk:k<3)(hL:eA L)(hT:T<8000000)(ht:tr.length<=1000):GQ R/\0<=R.cycle/\R.cycle<1000000000:=by
 obtain⟨n,c1,c2,c3,_⟩:=h.lL;have hf:=hL.few;have ht:=h.aO;refine⟨⟨by rw[h.id];exact hk,⟨ht.1,oQ⟩,fun j hj=>?_,⟨fun j hj=>?_,fun j hj=>?_⟩,?_⟩,oQ,oQ⟩
 ·have:=h.came j hj;omega
 ·exact Yr (h.aI j hj).1 (Yt (n:=2) dQ (show L.s<=12 by omega))
 ·exact Yr (h.aI j hj).2 (Yt (n:=2) dQ (show L.n<=8 by omega))
 ·rw[c3];exact zl3 hL.ok (by rw[hL.len];exact Pr hL tr n c2) oQ
theorem znm{a:Nat}(h:(uY a b c).testBit i=true):(a.testBit i=true/\b.testBit i=true)\/(b.testBit i=true/\c.testBit i=true)\/(c.testBit i=true/\a.testBit i=true):=by
 unfold uY at h;simp only[zsy,zsx,zr5,X6]at h;rcases h with (h|h)|h
 ·exact .inl h
 ·exact .inr (.inl h)
 ·exact .inr (.inr h)
theorem zaS{f:Nat->Nat}{P:Nat->Prop}(h:(uY (f 0) (f 1) (f 2)).testBit i=true)(hP:∀ j,j<3->j≠liar->(f j).testBit i=true->P j):∃ j,j<3/\j≠liar/\P j:=by
 have one:∀ j,j<3->j≠liar->(f j).testBit i=true->∃ j,j<3/\j≠liar/\P j:=fun j hj hl hb=>⟨j,hj,hl,hP j hj hl hb⟩
 rcases znm h with ⟨h1,h2⟩|⟨h1,h2⟩|⟨h1,h2⟩
 ·by_cases e:0=liar
  ·exact one 1 oQ oQ h2
  ·exact one 0 oQ e h1
 ·by_cases e:1=liar
  ·exact one 2 oQ oQ h2
  ·exact one 1 oQ e h1
 ·by_cases e:2=liar
  ·exact one 0 oQ oQ h2
  ·exact one 2 oQ e h1
theorem znn{R:RS}(h:∀ j,j<3->j≠liar->tK W j n (R.aI j).c (R.aI j).v):zaR W liar n (xg R) (xh R):=
 ⟨fun b hb=>zaS (f:=fun j=>(R.aI j).c) hb fun j hj hl hb=>(h j hj hl).1 b hb,fun b hb=>zaS (f:=fun j=>(R.aI j).v) hb fun j hj hl hb=>(h j hj hl).2 b hb⟩
theorem PO(F:FR):(aP (fF F)).1≠0\/∀ k,k<23->(aP (fF F)).2 k=F k:=by
 unfold fF;split
 ·rename_i h;obtain⟨G,h1,h2⟩:=zax h;right;rw[h1];exact h2
 ·left;rw[JU (by left;simp)];simp
theorem zno(F:FR):∀ x∈gT F,x<256:=OU (JR _)
def Bf(L:RC)(W:Seen)(liar:Nat)(tr:List Cm)(src:Nat)(F:FR):Prop:=(src=liar/\src<3)\/kH L W liar tr src F
theorem kH.congr{src:Nat}{F G:FR}(h:kH L W liar tr src F)(e:∀ k,k<23->G k=F k):kH L W liar tr src G:=by
 have e0:=e 0 oQ;have e2:=e 2 oQ;have e3:=e 3 oQ;have e4:=e 4 oQ;have e5:=e 5 oQ;have ec:bH G=bH F:=by unfold bH;rw[e3,e4,e5]
 refine⟨fun h0=>?_,fun h0=>?_,fun h0=>?_,fun h0=>?_⟩
 ·rw[e2,e3,e4];exact h.PM (e0▸h0)
 ·rw[e2,ec];exact h.PN (e0▸h0)
 ·rw[e2,e3,e4];exact h.done (e0▸h0)
 ·obtain⟨n,h1,h2,h3⟩:=h.known (e0▸h0);exact⟨n,by rw[e2];exact h1,h2,fun j hj=>by rw[e _ oQ];exact h3 j hj⟩
theorem znp{src:Nat}{F:FR}(h1:src<=3)(h2:dst<=3)(h:Bf L W liar tr src F):vH L W liar tr ⟨src,dst,fF F⟩:=by
 refine⟨h1,h2,?_,?_,?_⟩
 ·show(fF F).length<=80;unfold fF;split
  ·have:=zaw F;omega
  ·simp
 ·show ∀ x∈fF F,x<256;unfold fF;split
  ·exact zno F
  ·simp
 ·rcases h with h|h
  ·exact .inl h
  ·rcases PO F with e|e
   ·exact .inr (.inl e)
   ·exact .inr (.inr (h.congr e))
def gi(L:RC)(W:Seen)(liar:Nat)(tr:List Cm)(l:List Pk):Prop:=l.length<=120/\∀ p∈l,vH L W liar tr p
theorem gi.put{l:List Pk}{p:Pk}(h:gi L W liar tr l)(hp:vH L W liar tr p):gi L W liar tr (ji p l):=by
 unfold ji;split
 ·exact h
 ·refine⟨by rw[Yf];simp;omega,fun q hq=>?_⟩;rcases zsl.1 hq with hq|hq
  ·exact h.2 q hq
  ·rw[zsm.1 hq];exact hp
theorem gi.send{l:List Pk}{src:Nat}{F:FR}(h:gi L W liar tr l)(h1:src<=3)(h2:dst<=3)(hF:Bf L W liar tr src F):gi L W liar tr (vC src F dst l):=h.put (znp h1 h2 hF)
theorem gi.others{l:List Pk}{src:Nat}{F:FR}(h:gi L W liar tr l)(h1:src<=3)(hF:Bf L W liar tr src F):∀ k,k<=4->gi L W liar tr (iR src F l k)
 | 0,_=>h
 |k+1,hk=>by
  unfold iR;split
  ·exact h.others h1 hF k oQ
  ·exact(h.others h1 hF k oQ).send h1 oQ hF
theorem gi.sends{src:Nat}(h1:src<=3)(h2:dst<=3):∀(Fs:List FR)(l:List Pk),gi L W liar tr l->(∀ F∈Fs,Bf L W liar tr src F)->gi L W liar tr (lf src dst Fs l)
 |[],_,h,_=>h
 |F::r,l,h,hF=>gi.sends h1 h2 r _ (h.send h1 h2 (hF F sQ)) fun G hG=>hF G (by simp[hG])
theorem gi.zaT{src:Nat}(h1:src<=3):∀(Fs:List FR)(l:List Pk),gi L W liar tr l->(∀ F∈Fs,Bf L W liar tr src F)->gi L W liar tr (yP src Fs l)
 |[],_,h,_=>h
 |F::r,l,h,hF=>gi.zaT h1 r _ (h.others h1 (hF F sQ) 3 oQ) fun G hG=>hF G (by simp[hG])
theorem gi.erase{l:List Pk}(h:gi L W liar tr l)(i:Nat):gi L W liar tr (l.eraseIdx i):=
 ⟨Yq (List.length_eraseIdx_le l i) h.1,fun p hp=>h.2 p (List.mem_of_mem_eraseIdx hp)⟩
theorem gi.app{l:List Pk}(h:gi L W liar tr l)(a:List Cm):gi L W liar (tr++a) l:=⟨h.1,fun p hp=>(h.2 p hp).app a⟩
theorem PR(src:Nat)(c:Int)(x:Int):kH L W liar tr src (df 4 x c):=⟨fun h=>by simp[df]at h,fun h=>by simp[df]at h,fun h=>by simp[df]at h,fun h=>by simp[df]at h⟩
theorem znq{src v:Nat}(x:Int)(hc:c<2^L.s)(hv:v<2^L.n)(h:tK W src n c v):kH L W liar tr src (mW 1 x (n:Int) (c:Int) (v:Int)):=
 ⟨fun _=>⟨n,c,v,rfl,rfl,rfl,hc,hv,h⟩,fun h=>by simp[mW]at h,fun h=>by simp[mW]at h,fun h=>by simp[mW]at h⟩
theorem znr{src:Nat}{d:Cm}(x:Int)(hn:n<=tr.length)(h:mF L W liar tr n d):kH L W liar tr src (ie 2 x (n:Int) d.c d.v d.o):=
 ⟨fun h=>by simp[ie]at h,fun _=>⟨n,rfl,hn,h⟩,fun h=>by simp[ie]at h,fun h=>by simp[ie]at h⟩
theorem Kz{src:Nat}(hn:n<tr.length):kH L W liar tr src (fA n (cd tr n)):=
 ⟨fun h=>by simp[fA,ie]at h,fun h=>by simp[fA,ie]at h,fun _=>⟨n,rfl,hn,rfl,rfl⟩,fun h=>by simp[fA,ie]at h⟩
theorem zns{src:Nat}{R:RS}(hc:R.cycle=n)(hn:n<=tr.length)(hs:R.st=lg L tr n):kH L W liar tr src (nh R):=by
 refine⟨fun h=>by simp[nh]at h,fun h=>by simp[nh]at h,fun h=>by simp[nh]at h,fun _=>⟨n,hc,hn,fun j hj=>?_⟩⟩;unfold nh;rw[YG oQ,YG oQ,YG oQ,YG oQ,hs,show 6+j-6=j by omega]
end
section
variable {L:RC}{W:Seen}{liar win T n k:Nat}{tr:List Cm}{R:RS}
theorem PS(j:Nat):tK W j n 0 0:=⟨fun b hb=>by simp at hb,fun b hb=>by simp at hb⟩
theorem dF.see(h:dF L W liar tr T k R)(x y:Int):dF L W liar tr T k (GC x y R):=⟨h.id,h.aO,h.came,h.aI,h.lL,h.told,h.me,h.ahead⟩
theorem dF.new:dF L W liar tr T k (pk k):=by
 refine⟨rfl,⟨ZC _,by show(0:Int)<=_;omega⟩,fun _ _=>⟨ZC _,ZC _⟩,fun _ _=>⟨Yu _,Yu _⟩,⟨0,rfl,Yw _,rfl,fun j _ _=>PS j⟩,fun _ _ _=>.inl fun _ _=>rfl,fun _ _=>rfl,ZC _,.inr rfl⟩
theorem dF.put(h:dF L W liar tr T k R){y:Int}(hc:R.cycle=n)(hs:j≠liar->tK W j n (cW L.s x) (cW L.n y)):dF L W liar tr T k (uZ j (cW L.s x) (cW L.n y) R):=by
 obtain⟨m,c1,c2,c3,c4⟩:=h.lL;have e:m=n:=oQ;subst e;refine⟨h.id,h.aO,fun i hi=>?_,fun i hi=>?_,⟨m,c1,c2,c3,fun i hi hl=>?_⟩,h.told,h.me,h.ahead⟩
 ·show 0<=(upd R.aI j _ i).came/\(upd R.aI j _ i).came<=R.aO;by_cases e:i=j
  ·rw[e,upd_same];exact⟨h.aO.1,ZC _⟩
  ·rw[cR _ _ e];exact h.came i hi
 ·show(upd R.aI j _ i).c<_/\(upd R.aI j _ i).v<_;by_cases e:i=j
  ·rw[e,upd_same];exact⟨CY _ _,CY _ _⟩
  ·rw[cR _ _ e];exact h.aI i hi
 ·show tK W i m (upd R.aI j _ i).c (upd R.aI j _ i).v;by_cases e:i=j
  ·rw[e,upd_same];exact hs (e▸hl)
  ·rw[cR _ _ e];exact c4 i hi hl
theorem dF.tick(h:dF L W liar tr T k R)(hc:R.cycle=n)(hs:k≠liar->tK W k n (cW L.s R.sx) (cW L.n R.sy)):dF L W liar tr (T+1) k (ij L R):=by
 have h1:dF L W liar tr (T+1) k (J0 {R with aO:=R.aO+1}):=by
  obtain⟨m,c1,c2,c3,c4⟩:=h.lL;have hg:∀ j,j<3->(jg (R.aO+1) R.aI 3 j)=js\/(jg (R.aO+1) R.aI 3 j)=R.aI j:=fun j hj=>by rw[O5,YH hj];exact zmr _ _
  have ht:=h.aO;refine⟨h.id,⟨by show 0<=R.aO+1;omega,by show R.aO+1<=((T+1:Nat):Int);omega⟩,fun j hj=>?_,fun j hj=>?_,⟨m,c1,c2,c3,fun j hj hl=>?_⟩,h.told,h.me,h.ahead⟩
  ·show 0<=(jg (R.aO+1) R.aI 3 j).came/\(jg (R.aO+1) R.aI 3 j).came<=R.aO+1;rcases hg j hj with e|e
   ·rw[e];exact⟨ZC _,by show(0:Int)<=_;omega⟩
   ·rw[e];have:=h.came j hj;omega
  ·show(jg (R.aO+1) R.aI 3 j).c<_/\(jg (R.aO+1) R.aI 3 j).v<_;rcases hg j hj with e|e
   ·rw[e];exact⟨Yu _,Yu _⟩
   ·rw[e];exact h.aI j hj
  ·show tK W j m (jg (R.aO+1) R.aI 3 j).c (jg (R.aO+1) R.aI 3 j).v;rcases hg j hj with e|e
   ·rw[e];exact PS j
   ·rw[e];exact c4 j hj hl
 have h2:=h1.put (j:=R.id) (x:=R.sx) (y:=R.sy) (n:=n) hc (by rw[h.id];exact hs);exact h2
theorem dF.goes(h:dF L W liar tr T k R){X:St}{c:Int}(hc:c=n)(hn:n<=tr.length)(hX:X=lg L tr n):dF L W liar tr T k (A5 c X R):=by
 have ht:=h.aO;exact⟨h.id,⟨ZC _,by show(0:Int)<=_;omega⟩,fun _ _=>⟨ZC _,ZC _⟩,fun _ _=>⟨Yu _,Yu _⟩,⟨n,hc,hn,hX,fun j _ _=>PS j⟩,fun _ _ _=>.inl fun _ _=>rfl,fun _ _=>rfl,h.ahead⟩
theorem dF.CZ(h:dF L W liar tr T k R)(hx:x=n)(hn:n<tr.length):dF L W liar tr T k (Kb x R):=by
 refine⟨h.id,h.aO,h.came,h.aI,h.lL,h.told,h.me,?_⟩;have:=h.ahead;show 0<=(if R.ahead<x then x else R.ahead)/\((if R.ahead<x then x else R.ahead)<_\/(if R.ahead<x then x else R.ahead)=0);split<;>omega
theorem dF.done(h:dF L W liar tr T k R){F:FR}(h2:F 2=n)(hn:n<tr.length)(h3:F 3=(cd tr n).c)(h4:F 4=(cd tr n).v):dF L W liar tr T k (iN L F R):=by
 unfold iN;split
 ·exact h
 ·split
  ·rename_i _ he;obtain⟨m,c1,c2,c3,_⟩:=h.lL;have e:m=n:=oQ;subst e;refine(h.CZ h2 hn).goes (n:=m+1) oQ oQ ?_;rw[zay hn,<-c3,<-h3,<-h4];rfl
  ·exact h.CZ h2 hn
theorem St.ext'{X Y:St}(h1:X.set=Y.set)(h2:∀ k,X.used k=Y.used k)(h3:∀ k,X.idle k=Y.idle k):X=Y:=by
 cases X;cases Y;simp only[St.mk.injEq];exact⟨h1,funext h2,funext h3⟩
theorem znt{F:FR}{X:St}(hL:eA L){B:Int}(hX:Good (rt L.zs) L.n B X)(h:∀ j,j<17->F (6+j)=yN X j):vA (gF F)=X:=by
 have hf:=hL.few;apply St.ext'
 ·show(F 6).toNat=X.set;rw[h 0 oQ];exact zr7 _
 ·intro k;show((if k<8 then F (7+k)else 0):Int).toNat=X.used k;by_cases hk:k<8
  ·rw[YH hk,show 7+k=6+(1+k)by omega,h (1+k) oQ];unfold yN;rw[YG oQ,YH oQ,show 1+k-1=k by omega];exact zr7 _
  ·rw[YG hk,(hX.rest k (.inl oQ)).1];rfl
 ·intro k;show(if k<8 then F (15+k)else 0)=X.idle k;by_cases hk:k<8
  ·rw[YH hk,show 15+k=6+(9+k)by omega,h (9+k) oQ];unfold yN;rw[YG oQ,YG oQ,show 9+k-9=k by omega]
  ·rw[YG hk,(hX.rest k (.inl oQ)).2]
theorem zaU{f:Nat->Nat->Int}:∀{m:Nat},o8 f j U m=true->∃ i,i<m/\i≠j/\∀ x,x<18->f i x=U x
 | 0,h=>by simp[o8]at h
 |m+1,h=>by
  unfold o8 at h;rw[zr5]at h;rcases h with h|h
  ·obtain⟨i,h1,h2⟩:=zaU h;exact⟨i,oQ,h2⟩
  ·rw[X6]at h;exact⟨m,oQ,by simpa using h.1,(zlH _ _).1 h.2⟩
theorem zaV(F:FR)(i:Nat):pj F (1+i)=F (6+i):=by
 unfold pj;rw[YG oQ,show 5+(1+i)=6+i by omega]
theorem dF.znu(h:dF L W liar tr T k R)(hL:eA L){F:FR}{src:Nat}(hk:src≠k)(h0:F 0=5)(po:src=liar\/kH L W liar tr src F)(hc:R.cycle<F 2):dF L W liar tr T k (tz src (pj F) (vA (gF F)) R):=by
 have Dq:src≠liar->Be L tr (pj F):=fun hl=>by
  rcases po with e|e
  ·exact absurd e hl
  ·obtain⟨n,h1,h2,h3⟩:=e.known h0;exact .inr ⟨n,h2,h1,fun i hi=>by rw[zaV];exact h3 i hi⟩
 have ht:dF L W liar tr T k (C8 src (pj F) R):=by
  refine⟨h.id,h.aO,h.came,h.aI,h.lL,fun j hj hl=>?_,fun i hi=>?_,h.ahead⟩
  ·show Be L tr (upd R.told src (pj F) j);by_cases e:j=src
   ·rw[e,upd_same];exact Dq (e▸hl)
   ·rw[cR _ _ e];exact h.told j hj hl
  ·show upd R.told src (pj F) k i=0;rw[cR _ _ (fun e=>hk e.symm)];exact h.me i hi
 unfold tz;split
 ·rename_i ht3;obtain⟨i,i1,i2,i3⟩:=zaU ht3;have qN:∃ m:Nat,R.cycle=m:=by obtain⟨m,c1,_⟩:=h.lL;exact⟨m,c1⟩
  obtain⟨m0,vW⟩:=qN;have hz:∀ U,Be L tr U->(∀ x,x<18->U x=pj F x)->∃ n:Nat,n<=tr.length/\F 2=n/\∀ i,i<17->F (6+i)=yN (lg L tr n) i:=by
   intro U hU e;rcases hU with hU|⟨n,h1,h2,h3⟩
   ·have:=(e 0 oQ).symm.trans (hU 0 oQ);have h20:F 2=0:=this;omega
   ·refine⟨n,h1,?_,fun i hi=>?_⟩
    ·have:=(e 0 oQ).symm.trans h2;exact this
    ·rw[<-zaV F i,<-e _ oQ];exact h3 i hi
  have av:∃ n:Nat,n<=tr.length/\F 2=n/\∀ i,i<17->F (6+i)=yN (lg L tr n) i:=by
   by_cases e:src=liar
   ·exact hz _ (ht.told i i1 (fun e2=>i2 (e2.trans e.symm))) i3
   ·exact hz _ (Dq e) fun _ _=>rfl
  obtain⟨n,h1,h2,h3⟩:=av;exact ht.goes (n:=n) h2 h1 (znt hL (Pr hL tr n h1) h3)
 ·exact ht
theorem zaW(h:c<2^m)(hm:m<=12):cW m (c:Int)=c:=by
 have hp:2^m<=2^12:=Yt dQ hm;unfold cW;rw[nN c oQ,Nat.and_two_pow_sub_one_eq_mod,Nat.mod_eq_of_lt h]
theorem dF.take(h:dF L W liar tr T k R)(hL:eA L){F:FR}{src:Nat}(h1:F 1=(src:Int))(po:(src=liar/\src<3)\/kH L W liar tr src F):dF L W liar tr T k (fj L F R):=by
 have hf:=hL.few;unfold fj;split
 ·rename_i hd;have:src=3:=oQ;rcases po with e|e
  ·omega
  ·obtain⟨n,d1,d2,d3,d4⟩:=e.done hd.1;exact h.done d1 d2 d3 d4
 ·split
  ·exact h
  ·rename_i hr;have B7:cV (F 1)=true/\F 1≠(R.id:Int):=by
    refine⟨?_,fun e=>hr (.inr e)⟩;cases hb:cV (F 1)
    ·exact absurd (.inl hb) hr
    ·rfl
   have zC:src<3:=by
    have:=B7.1;unfold cV at this;simp only[X6,zsE]at this;omega
   have hsk:src≠k:=by
    intro e;apply B7.2;rw[h1,h.id,e]
   have PT:(F 1).toNat=src:=by rw[h1];exact zr7 _
   rw[PT];have zaX:src=liar\/kH L W liar tr src F:=po.imp (fun e=>e.1) fun e=>e
   split
   ·rename_i hs;obtain⟨m,c1,c2,c3,c4⟩:=h.lL;refine h.put (n:=m) c1 fun hl=>?_
    rcases zaX with e|e
    ·exact absurd e hl
    ·obtain⟨n,c,v,s1,s2,s3,s4,s5,s6⟩:=e.PM hs.1;have e:n=m:=oQ;subst e;rw[s2,s3,zaW s4 oQ,zaW s5 oQ];exact s6
   ·split
    ·exact h
    ·split
     ·rename_i hc;exact h.znu hL hsk hc.1 zaX hc.2.1
     ·exact h
theorem dF.tells(h:dF L W liar tr T k R){F:FR}:∀ G∈gh L F R,kH L W liar tr k G:=by
 intro G hG;unfold gh at hG;obtain⟨n,c1,c2,c3,_⟩:=h.lL;split at hG
 ·unfold rr at hG;split at hG
  ·simp at hG
  ·split at hG
   ·rw[zsm.1 hG];exact PR _ _ _
   ·simp at hG
 ·split at hG
  ·simp at hG
  ·split at hG
   ·rw[zsm.1 hG];exact zns c1 c2 c3
   ·simp at hG
structure zf(L:RC)(W:Seen)(liar win:Nat)(V:VS):Prop where
 jv:dS win V
 tr:∀ i,i<V.tr.length->mF L W liar V.tr i (cd V.tr i)
 xr:∀ k,k<3->k≠liar->V.b k=true->mF L W liar V.tr V.tr.length (V.x k)
 out:∀ k,k<3->k≠liar->V.out.testBit k=false
 apart:∀ i j,i≠j->V.b i=true->V.b j=true->V.x i≠V.x j
 few:∀ i,3<=i->V.b i=false
theorem zaY{b:Nat->Bool}{x:Nat->Cm}{d:Cm}:∀{m:Nat},oU b x d r m=false->∀ i,i<m->i≠r->b i=true->x i≠d
 | 0,_,i,hi,_,_=>absurd hi oQ
 |m+1,h,i,hi,hr,hb=>by
  unfold oU at h;rw[zwG]at h;by_cases e:i=m
  ·subst e;intro hx;have h2:=h.2;unfold Ol at h2;rw[hb,VN.2 hx]at h2;simp at h2;exact hr h2
  ·exact zaY h.1 i oQ hr hb
theorem zaZ{b:Nat->Bool}{x:Nat->Cm}{d:Cm}:∀{m:Nat},oU b x d r m=true->∃ i,i<m/\i≠r/\b i=true/\x i=d
 | 0,h=>by simp[oU]at h
 |m+1,h=>by
  unfold oU at h;rw[zr5]at h;rcases h with h|h
  ·obtain⟨i,h1,h2⟩:=zaZ h;exact⟨i,oQ,h2⟩
  ·unfold Ol at h;simp only[X6,zsD]at h;exact⟨m,oQ,h.1,h.2.1,VN.1 h.2.2⟩
theorem znv{d e:Cm}(h1:mF L W liar tr n d)(h2:mF L W liar tr n e)(h:uM d e=true):d.o=e.o:=by
 obtain⟨c,v,rfl,_⟩:=h1;obtain⟨c',v',rfl,_⟩:=h2;unfold uM at h;simp only[X6,YB]at h;simp only[h.1,h.2]
theorem zf.take{V:VS}(h:zf L W liar win V){F:FR}{src:Nat}(h1:F 1=(src:Int))(po:(src=liar/\src<3)\/kH L W liar V.tr src F):
  zf L W liar win (cC win V F).1/\(∀ G∈(cC win V F).2.1,kH L W liar (cC win V F).1.tr 3 G)/\∃ a,(cC win V F).1.tr=V.tr++a:=by
 have hv:=h.jv.take F;unfold cC at hv⊢;split
 ·exact⟨h,fun G hG=>by simp at hG,[],sQ⟩
 ·rename_i hh;have Bg:jc V F=true:=by simpa using hh
  unfold jc F6 F7 at Bg;simp only[X6,zr5,YB,zsE]at Bg;obtain⟨hk,⟨mR,hf3⟩,_,h20⟩:=Bg;have PT:(F 1).toNat=src:=by rw[h1];exact zr7 _
  have zC:src<3:=oQ;split
  ·rename_i hp;have hm:(F 2).toNat<V.tr.length:=oQ;refine⟨h,fun G hG=>?_,[],sQ⟩;unfold mX at hG;split at hG
   ·rw[zsm.1 hG];exact Kz hm
   ·simp only[Yl,Yo,YL]at hG;rcases hG with rfl|rfl
    ·exact Kz hm
    ·exact Kz (show V.tr.length-1<V.tr.length by omega)
  ·rename_i yf;split
   ·exact⟨h,fun G hG=>by simp at hG,[],sQ⟩
   ·rename_i Dr;have PU:pV V F=false:=by simpa using Dr
    unfold pV at PU;simp only[zwG,decide_eq_false_iff_not,beq_eq_false_iff_ne]at PU;obtain⟨⟨fJ,mb⟩,qV⟩:=PU;have hF0:F 0=2:=by rcases hk with e|e;exact e;exact absurd e mb
    have hF2:F 2=V.tr.length:=oQ;have za0:src≠liar->mF L W liar V.tr V.tr.length (bH F):=fun hl=>by
     rcases po with e|e
     ·exact absurd e.1 hl
     ·obtain⟨n,n1,n2,n3⟩:=e.PN hF0;have e:n=V.tr.length:=oQ;rw[e]at n3;exact n3
    rw[PT]at hv⊢;have PV:∀ k,k<3->k≠liar->(cS V src (bH F)).b k=true->mF L W liar V.tr V.tr.length ((cS V src (bH F)).x k):=fun k hk hl hb=>by
     show mF L W liar V.tr V.tr.length (upd V.x src (bH F) k);by_cases e:k=src
     ·rw[e,upd_same];exact za0 (e▸hl)
     ·rw[cR _ _ e];have gH:upd V.b src true k=true:=hb;rw[cR _ _ e]at gH;exact h.xr k hk hl gH
    split
    ·rename_i PW;have aW:∀ i,i≠src->(cS V src (bH F)).b i=true->(cS V src (bH F)).x i≠bH F:=fun i hi hb=>by
      by_cases e:i<3
      ·exact zaY PW i e hi hb
      ·have gH:upd V.b src true i=true:=hb;rw[cR _ _ hi,h.few i oQ]at gH;exact absurd gH dQ
     refine⟨⟨h.jv.cast _ _,h.tr,PV,h.out,fun i j uJ hi hj=>?_,fun i hi=>?_⟩,fun G hG=>by simp at hG,[],by simp[cS]⟩
     ·by_cases e:i=src
      ·subst e;have:=aW j (fun x=>uJ x.symm) hj;show upd V.x i (bH F) i≠_;rw[upd_same];exact fun x=>this x.symm
      ·by_cases e2:j=src
       ·subst e2;have:=aW i e hi;show _≠upd V.x j (bH F) j;rw[upd_same];exact this
       ·show upd V.x src (bH F) i≠upd V.x src (bH F) j;rw[cR _ _ e,cR _ _ e2];have aN:upd V.b src true i=true:=hi;have kq:upd V.b src true j=true:=hj;rw[cR _ _ e]at aN;rw[cR _ _ e2]at kq;exact h.apart i j uJ aN kq
     ·show upd V.b src true i=false;rw[cR _ _ oQ];exact h.few i hi
    ·rename_i PW;have znw:oU (cS V src (bH F)).b (cS V src (bH F)).x (bH F) src 3=true:=by simpa using PW
     obtain⟨i,i1,i2,i3,i4⟩:=zaZ znw;have hd:mF L W liar V.tr V.tr.length (bH F):=by
      by_cases e:src=liar
      ·have:=PV i i1 (fun e2=>i2 (e2.trans e.symm)) i3;rw[i4]at this;exact this
      ·exact za0 e
     have ry:(V.tr++[bH F]).length=V.tr.length+1:=sQ;refine⟨⟨(h.jv.cast src (bH F)).F8 qV _,fun i hi=>?_,fun k _ _ hb=>absurd hb (by show ¬(false=true);decide),fun k hk hl=>?_,fun i j _ hi _=>absurd hi (by show ¬(false=true);decide),fun _ _=>rfl⟩,fun G hG=>?_,[bH F],rfl⟩
     ·show mF L W liar (V.tr++[bH F]) i (cd (V.tr++[bH F]) i);have aN:i<(V.tr++[bH F]).length:=hi;rw[ry]at aN;by_cases e:i<V.tr.length
      ·rw[Pq e];exact(h.tr i e).app oQ _
      ·have e:i=V.tr.length:=oQ;rw[e,zaz];exact hd.app lQ _
     ·show(Az (cS V src (bH F)) (bH F)).testBit k=false;unfold Az;rw[zsy,zjq,YE hk,Bool.true_and];show(V.out.testBit k||_)=false;rw[h.out k hk hl,Bool.false_or];cases xv:oT (cS V src (bH F)).b (cS V src (bH F)).x (bH F) k
      ·rfl
      ·unfold oT at xv;simp only[X6,zsD]at xv;exact absurd (znv (PV k hk hl xv.1.1) hd xv.1.2) xv.2
     ·rw[zsm.1 hG];have:=Kz (L:=L) (W:=W) (liar:=liar) (tr:=V.tr++[bH F]) (n:=V.tr.length) (src:=3) oQ;rw[zaz]at this;exact this
end
section
variable {L:RC}{W:Seen}{liar win T n k:Nat}{S:SY}
theorem bu.Ds(h:bu L W liar win T S):zf L W liar win S.v:=⟨h.jv,h.tr,h.xr,h.out,h.apart,h.few⟩
theorem bu.vI(h:bu L W liar win T S):gi L W liar S.v.tr S.aq:=⟨h.many,h.aq⟩
theorem bu.mk'{V:VS}{rp:Nat->RS}{aq:List Pk}(h1:∀ k,k<3->dF L W liar V.tr T k (rp k))(h2:zf L W liar win V)(h3:gi L W liar V.tr aq):bu L W liar win T ⟨rp,V,aq⟩:=⟨h1,h2.jv,h2.tr,h2.xr,h2.out,h2.apart,h2.few,h3.1,h3.2⟩
theorem bu.KA(h:bu L W liar win T S){R:RS}{aq:List Pk}(hR:dF L W liar S.v.tr T k R)(hn:gi L W liar S.v.tr aq):bu L W liar win T ⟨upd S.rp k R,S.v,aq⟩:=by
 refine bu.mk' (fun j hj=>?_) h.Ds hn;show dF L W liar S.v.tr T j (upd S.rp k R j);by_cases e:j=k
 ·rw[e,upd_same];exact hR
 ·rw[cR _ _ e];exact h.rp j hj
theorem bu.come(h:bu L W liar win T S)(hL:eA L){p:Pk}(hp:vH L W liar S.v.tr p):bu L W liar win T (kj L win p S)/\∃ a,(kj L win p S).v.tr=S.v.tr++a:=by
 unfold kj;split
 ·exact⟨h,[],sQ⟩
 ·rename_i hn;have kR:(aP p.b).1=0:=by
   by_cases e:(aP p.b).1=0
   ·exact e
   ·exact absurd (.inl e) hn
  have mS:(aP p.b).2 1=(p.src:Int):=by
   by_cases e:(aP p.b).2 1=(p.src:Int)
   ·exact e
   ·exact absurd (.inr e) hn
  have po:(p.src=liar/\p.src<3)\/kH L W liar S.v.tr p.src (aP p.b).2:=by
   rcases hp.po with e|e|e
   ·exact .inl e
   ·exact absurd kR e
   ·exact .inr e
  split
  ·obtain⟨v1,v2,a,va⟩:=h.Ds.take mS po;refine⟨bu.mk' (fun j hj=>?_) v1 ?_,a,va⟩
   ·rw[va];exact(h.rp j hj).app a
   ·have hN:gi L W liar (cC win S.v (aP p.b).2).1.tr S.aq:=by rw[va];exact h.vI.app a
    unfold pn;split
    ·exact gi.zaT oQ _ _ hN fun G hG=>.inr (v2 G hG)
    ·exact gi.sends oQ hp.src _ _ hN fun G hG=>.inr (v2 G hG)
  ·rename_i hd;have nG:p.dst<3:=by have:=hp.dst;omega
   refine⟨h.KA ((h.rp _ nG).take hL mS po) (gi.sends oQ hp.src _ _ h.vI fun G hG=>.inr ((h.rp _ nG).tells G hG)),[],sQ⟩
theorem PX{l:List Pk}(hi:i<l.length):gU l i∈l:=by
 unfold gU;rw[Yc hi];exact zsf hi
theorem bu.outs(h:bu L W liar win T S)(i:Nat):bu L W liar win T (ju i S):=bu.mk' h.rp h.Ds (h.vI.erase i)
theorem bu.Dt(h:bu L W liar win T S)(hL:eA L)(hi:i<S.aq.length):bu L W liar win T (fS L win i S)/\∃ a,(fS L win i S).v.tr=S.v.tr++a:=
 (h.outs i).come hL (h.aq _ (PX hi))
theorem bu.AO(h:bu L W liar win T S){p:Pk}(hp:vH L W liar S.v.tr p):bu L W liar win T (Po p S):=bu.mk' h.rp h.Ds (h.vI.put hp)
theorem bu.see(h:bu L W liar win T S)(hk:k<3)(x y:Int):bu L W liar win T (Kn k x y S):=h.KA ((h.rp k hk).see x y) h.vI
theorem bu.PY(h:bu L W liar win T S):bu L W liar win T (Pn k S):=h.KA dF.new h.vI
theorem bu.asks(h:bu L W liar win T S)(hk:k<3):bu L W liar win T (Km k S):=bu.mk' h.rp h.Ds (h.vI.others oQ (.inr (PR _ _ _)) 3 oQ)
theorem zf.tick{V:VS}(h:zf L W liar win V):zf L W liar win (pX V):=by
 have hv:=h.jv.tick;unfold pX at hv⊢;split
 ·exact h
 ·rename_i hl;rw[YG hl]at hv;exact⟨hv,h.tr,h.xr,h.out,h.apart,h.few⟩
theorem za1(V:VS):(pX V).tr=V.tr:=by unfold pX;split<;>rfl
theorem bu.KB(h:bu L W liar win T S):bu L W liar win T (xq S):=bu.mk' (by rw[za1];exact h.rp) h.Ds.tick (by rw[za1];exact h.vI)
theorem bu.Om(h:bu L W liar win T S):bu L W liar win T (Dg S):=bu.mk' h.rp ⟨h.jv.Om,h.tr,h.xr,h.out,h.apart,h.few⟩ h.vI
theorem bu.tick(h:bu L W liar win T S)(hk:k<3)(hc:(S.rp k).cycle=n)(hs:k≠liar->tK W k n (cW L.s (S.rp k).sx) (cW L.n (S.rp k).sy)):bu L W liar win (T+1) (qi L k S):=by
 have hR:=(h.rp k hk).tick hc hs;have h':=h.later (T':=T+1) oQ;refine h'.KA hR ?_;obtain⟨m,c1,c2,c3,c4⟩:=hR.lL;obtain⟨hsa,hse⟩:Bf L W liar S.v.tr k (ng (ij L (S.rp k)))/\(lU (ij L (S.rp k))=true->Bf L W liar S.v.tr k (iF L (ij L (S.rp k)))):=by
  by_cases hl:k=liar
  ·exact⟨.inl ⟨hl,hk⟩,fun _=>.inl ⟨hl,hk⟩⟩
  ·refine⟨.inr ?_,fun G4=>.inr ?_⟩
   ·unfold ng;rw[hR.id,c1];exact znq _ (hR.aI k hk).1 (hR.aI k hk).2 (c4 k hk hl)
   ·unfold iF;split
    ·unfold nc;rw[c1];exact znr (d:=⟨(xg (ij L (S.rp k)):Nat),(xh (ij L (S.rp k)):Nat),(Db L (ij L (S.rp k)) (xg (ij L (S.rp k))) (xh (ij L (S.rp k))):Nat)⟩) _ c2 ⟨xg (ij L (S.rp k)),xh (ij L (S.rp k)),by unfold Db Dh;rw[c3],XR (hR.aI 0 oQ).1 (hR.aI 1 oQ).1,XR (hR.aI 0 oQ).2 (hR.aI 1 oQ).2,znn c4⟩
    ·rename_i hv;split
     ·exact PR _ _ _
     ·rename_i ht;unfold lU at G4;rw[zr5]at G4;rcases G4 with e|e
      ·exact absurd e hv
      ·exact absurd (YK e) ht
 have hN:=h.vI.others (src:=k) oQ hsa 3 oQ;unfold yQ;split
 ·rename_i G4;exact hN.send oQ oQ (hse G4)
 ·exact hN
end
def gV(S:SY)(k:Nat):Int:=(S.rp k).cycle
abbrev tL(cy:Nat->Int)(p:Pk):Prop:=¬isNone p/\p.dst≠3/\(aP p.b).2 0=3/\(aP p.b).2 1=3/\(aP p.b).2 2=cy p.dst
def lW(cy:Nat->Int)(p:Pk):Nat:=
 if isNone p then 1
 else if p.dst=3 then(if(aP p.b).2 2=cy p.src then 2 else 7)
 else if(aP p.b).2 0=3/\(aP p.b).2 1=3 then(if(aP p.b).2 2<cy p.dst then 1 else 3)
 else if(aP p.b).2 0=4 then 2 else 1
def tN(cy:Nat->Int)(p:Pk):Nat:=if tL cy p then 1 else lW cy p
def dL(cy:Nat->Int):List Pk->Nat
 |[]=>0
 |p::r=>if tL cy p then 1 else lW cy p+dL cy r
theorem zg(cy:Nat->Int)(p:Pk)(r:List Pk):dL cy (p::r)=if tL cy p then 1 else lW cy p+dL cy r:=rfl
theorem znx(cy:Nat->Int)(p:Pk):lW cy p<=7:=by
 unfold lW
 repeat' split
 all_goals omega
theorem PZ(cy:Nat->Int)(p:Pk):1<=lW cy p:=by
 unfold lW
 repeat' split
 all_goals omega
theorem zny(cy:Nat->Int)(l:List Pk):dL cy l<=7*l.length:=by
 induction l with
 |nil=>exact Yp _
 |cons p r ih=>
  have:=znx cy p;rw[zg,Yg];split<;>omega
theorem za2(cy:Nat->Int)(l m:List Pk):dL cy (l++m)<=dL cy l+dL cy m:=by
 induction l with
 |nil=>simp[dL]
 |cons p r ih=>
  rw[Ya,zg,zg];split<;>omega
theorem znz(cy:Nat->Int){l:List Pk}(m:List Pk){p:Pk}(hp:p∈l)(h:tL cy p):dL cy (l++m)=dL cy l:=by
 induction l with
 |nil=>simp at hp
 |cons q r ih=>
  rw[Ya,zg,zg];split
  ·rfl
  ·rename_i hq;rcases Yl.1 hp with e|e
   ·rw[<-e]at hq;exact absurd h hq
   ·rw[ih e]
theorem za3(cy:Nat->Int)(p:Pk):dL cy [p]=tN cy p:=by
 unfold tN;rw[zg];split
 ·rfl
 ·simp[dL]
theorem KC(cy:Nat->Int)(p:Pk)(l:List Pk):dL cy (ji p l)<=dL cy l+tN cy p:=by
 unfold ji;split
 ·omega
 ·have:=za2 cy l [p];rw[za3]at this;exact this
theorem znA(cy:Nat->Int)(p q:Pk)(l:List Pk)(h:tL cy p):dL cy (ji q (ji p l))<=dL cy l+1:=by
 by_cases hl:120<=l.length
 ·have e:ji p l=l:=YH hl;rw[e,show ji q l=l from YH hl];omega
 ·have e:ji p l=l++[p]:=YG hl;have h1:dL cy (l++[p])<=dL cy l+1:=by
   have:=za2 cy l [p];rw[za3]at this;unfold tN at this;rw[YH h]at this;exact this
  rw[e];unfold ji;split
  ·exact h1
  ·rw[znz cy [q] (p:=p) sQ h];exact h1
section
variable {L:RC}{W:Seen}{liar win T n k:Nat}{S:SY}
theorem znB{c v o:Int}{k:Int}(hk:k=2\/k=3)(h1:0<=x/\x<=3)(hn:0<=n/\(n:Int)<=1048576)(hc:0<=c/\c<=1048576)(hv:0<=v/\v<=1048576)(ho:0<=o/\o<=1048576):gy (ie k x (n:Int) c v o)=true:=by
 have e0:ie k x (n:Int) c v o 0=k:=rfl;have qW:dV (ie k x (n:Int) c v o)=[k,x,(n:Int),c,v,o]:=Oe (by rw[e0];exact hk);unfold gy;rw[qW];have az:dZ [k,x,(n:Int),c,v,o]=ie k x (n:Int) c v o:=Oh (l:=[k,x,(n:Int),c,v,o]) hk;rw[az];have hh:sK (ie k x (n:Int) c v o)=true:=by
  unfold sK;show((decide (1<=k)&&decide (k<=5))&&(decide (0<=x)&&decide (x<=3)))=true;simp only[X6,zsE];omega
 rw[hh,(F4 _ _).2 fun _ _=>rfl];simp only[List.all_cons,List.all_nil,lD,X6,zsE,zsB,true_and];omega
theorem znC{tr:List Cm}{d:Cm}(hL:eA L)(h:mF L W liar tr n d):(0<=d.c/\d.c<=1048576)/\(0<=d.v/\d.v<=1048576)/\0<=d.o/\d.o<=1048576:=by
 obtain⟨c,v,rfl,h1,h2,_⟩:=h;have hf:=hL.few;have p1:2^L.s<=2^12:=Yt dQ oQ;have p2:2^L.n<=2^8:=Yt dQ oQ;have h3:Dh L (lg L tr n) (c:Int) (v:Int)<2^L.n:=Oc _ _ _ _ _ _ lQ;show(0<=(c:Int)/\(c:Int)<=1048576)/\(0<=(v:Int)/\(v:Int)<=1048576)/\0<=((Dh L (lg L tr n) (c:Int) (v:Int):Nat):Int)/\((Dh L (lg L tr n) (c:Int) (v:Int):Nat):Int)<=1048576;omega
theorem bu.znD(h:bu L W liar win T S)(hL:eA L)(hn:n<S.v.tr.length):gy (fA n (cd S.v.tr n))=true:=by
 obtain⟨h1,h2,h3⟩:=znC hL (h.tr n hn);have:=h.jv.few;exact znB (.inr rfl) oQ oQ h1 h2 h3
theorem znE{F:FR}(h:gy F=true):(aP (fF F)).1=0/\∀ k,k<23->(aP (fF F)).2 k=F k:=by
 unfold fF;rw[YH h];obtain⟨G,h1,h2⟩:=zax h;rw[h1];exact⟨rfl,h2⟩
theorem bu.znF(h:bu L W liar win T S)(hL:eA L)(hn:n<S.v.tr.length):(aP (fF (fA n (cd S.v.tr n)))).1=0/\∀ k,k<23->(aP (fF (fA n (cd S.v.tr n)))).2 k=fA n (cd S.v.tr n) k:=znE (h.znD hL hn)
def za4(S S':SY):Prop:=S.v.tr.length<S'.v.tr.length\/∃ k,k<3/\gV S k<gV S' k
structure Comes(S S':SY):Prop where
 tr:∃ a,S'.v.tr=S.v.tr++a
 cy:∀ k,k<3->gV S k<=gV S' k
 less:za4 S S'\/gV S'=gV S/\dL (gV S) S'.aq<dL (gV S) S.aq
theorem P0(F:FR)(R:RS):R.cycle<=(fj L F R).cycle:=by
 unfold fj;split
 ·unfold iN;split
  ·exact ZC _
  ·split
   ·show R.cycle<=R.cycle+1;omega
   ·exact ZC _
 ·split
  ·exact ZC _
  ·split
   ·exact ZC _
   ·split
    ·exact ZC _
    ·split
     ·rename_i hc;unfold tz;split
      ·show R.cycle<=F 2;omega
      ·exact ZC _
     ·exact ZC _
theorem za5(cy:Nat->Int)(src:Nat)(hs:src≠3)(F:FR):tN cy ⟨3,src,fF F⟩<=3:=by
 unfold tN;split
 ·omega
 ·unfold lW;split
  ·omega
  ·repeat' split
   all_goals first |omega|contradiction
theorem bu.comes(h:bu L W liar win T S)(hL:eA L){p:Pk}{l:List Pk}(he:S.aq=p::l):Comes S (fS L win 0 S):=by
 have yg:gU S.aq 0=p:=by rw[he];rfl
 have P1:ju 0 S=⟨S.rp,S.v,l⟩:=by unfold ju;rw[he];rfl
 have hp:vH L W liar S.v.tr p:=h.aq p (by rw[he];simp);have hI:bu L W liar win T ⟨S.rp,S.v,l⟩:=P1▸h.outs 0;unfold fS;rw[yg,P1];obtain⟨_,yb⟩:=hI.come hL hp;refine⟨yb,?_,?_⟩
 ·intro k hk;unfold kj gV;split
  ·exact ZC _
  ·split
   ·exact ZC _
   ·show(S.rp k).cycle<=(upd S.rp p.dst _ k).cycle;by_cases e:k=p.dst
    ·subst e;rw[upd_same];exact P0 _ _
    ·rw[cR _ _ e];exact ZC _
 ·by_cases hn:isNone p
  ·right;unfold kj;rw[YH hn];refine⟨rfl,?_⟩;generalize gV S=cy;rw[he];show dL cy l<dL cy (p::l);have yf:¬tL cy p:=fun e=>e.1 hn
   rw[zg,YG yf];have:=PZ cy p;omega
  ·have kR:(aP p.b).1=0:=by
    by_cases e:(aP p.b).1=0
    ·exact e
    ·exact absurd (.inl e) hn
   have mS:(aP p.b).2 1=(p.src:Int):=by
    by_cases e:(aP p.b).2 1=(p.src:Int)
    ·exact e
    ·exact absurd (.inr e) hn
   have zC:=hp.src;by_cases hd:p.dst=3
   ·have eX:kj L win p ⟨S.rp,S.v,l⟩=⟨S.rp,(cC win S.v (aP p.b).2).1,pn win p.src ⟨S.rp,S.v,l⟩ (aP p.b).2⟩:=by
     unfold kj;rw[YG hn,YH hd]
    rw[eX];have yf:∀ cy,¬tL cy p:=fun cy e=>e.2.1 hd
    have G5:∀ cy:Nat->Int,dL cy S.aq=(if(aP p.b).2 2=cy p.src then 2 else 7)+dL cy l:=fun cy=>by
     rw[he];show(if tL cy p then 1 else lW cy p+dL cy l)=_;rw[YG (yf cy)];unfold lW;rw[YG hn,YH hd]
    generalize(aP p.b).2=F at eX mS G5⊢;have nothing:∀ V:VS,(cC win S.v F)=(V,[],false)->V.tr=S.v.tr->za4 S ⟨S.rp,(cC win S.v F).1,pn win p.src ⟨S.rp,S.v,l⟩ F⟩\/gV ⟨S.rp,(cC win S.v F).1,pn win p.src ⟨S.rp,S.v,l⟩ F⟩=gV S/\dL (gV S) (pn win p.src ⟨S.rp,S.v,l⟩ F)<dL (gV S) S.aq:=by
     intro V e _;right;refine⟨rfl,?_⟩;generalize gV S=cy;unfold pn;show dL cy (if(cC win S.v F).2.2 then _ else _)<_;rw[G5];simp only[e,X8,YF,lf];split<;>omega
    by_cases h1:jc S.v F=false
    ·exact nothing S.v (by unfold cC;rw[YH h1]) rfl
    ·have Bg:jc S.v F=true:=by simpa using h1
     unfold jc F6 F7 at Bg;simp only[X6,zr5,YB,zsE]at Bg;obtain⟨_,⟨mR,hf3⟩,_,h20⟩:=Bg;by_cases h2:F 2<S.v.tr.length
     ·right;refine⟨rfl,?_⟩;generalize gV S=cy;have hm:(F 2).toNat<S.v.tr.length:=oQ;have et:cC win S.v F=(S.v,mX S.v.tr (F 2).toNat,false):=by unfold cC;rw[YG h1,YH h2]
      have ev:pn win p.src ⟨S.rp,S.v,l⟩ F=lf 3 p.src (mX S.v.tr (F 2).toNat) l:=by
       unfold pn;show(if(cC win S.v F).2.2 then yP 3 (cC win S.v F).2.1 l else lf 3 p.src (cC win S.v F).2.1 l)=_;rw[et];simp
      show dL cy (pn win p.src ⟨S.rp,S.v,l⟩ F)<_;rw[ev,G5];have Dq:p.src≠3:=oQ;have d1:=za5 cy p.src Dq (fA (F 2).toNat (cd S.v.tr (F 2).toNat));have d2:=za5 cy p.src Dq (fA (S.v.tr.length-1) (cd S.v.tr (S.v.tr.length-1)));have w1:=KC cy ⟨3,p.src,fF (fA (F 2).toNat (cd S.v.tr (F 2).toNat))⟩ l;have hpg:F 2=cy p.src->tL cy ⟨3,p.src,fF (fA (F 2).toNat (cd S.v.tr (F 2).toNat))⟩:=fun e=>by
       obtain⟨q1,q2⟩:=h.znF hL hm;refine⟨?_,Dq,?_,?_,?_⟩
       ·rintro(e|e)
        ·exact e q1
        ·exact e (q2 1 oQ)
       ·exact q2 0 oQ
       ·exact q2 1 oQ
       ·have:=q2 2 oQ;show(aP (fF (fA (F 2).toNat (cd S.v.tr (F 2).toNat)))).2 2=cy p.src;rw[this,<-e];show((F 2).toNat:Int)=F 2;omega
      unfold mX;split
      ·show dL cy (ji _ l)<_;split
       ·rename_i e;have:=hpg e;unfold tN at w1;rw[YH this]at w1;omega
       ·omega
      ·show dL cy (ji _ (ji _ l))<_;split
       ·rename_i e;have:=znA cy _ ⟨3,p.src,fF (fA (S.v.tr.length-1) (cd S.v.tr (S.v.tr.length-1)))⟩ l (hpg e);omega
       ·have w2:=KC cy ⟨3,p.src,fF (fA (S.v.tr.length-1) (cd S.v.tr (S.v.tr.length-1)))⟩ (ji ⟨3,p.src,fF (fA (F 2).toNat (cd S.v.tr (F 2).toNat))⟩ l);omega
     ·by_cases h3:pV S.v F=true
      ·exact nothing S.v (by unfold cC;rw[YG h1,YG h2,YH h3]) rfl
      ·by_cases h4:oU (cS S.v (F 1).toNat (bH F)).b (cS S.v (F 1).toNat (bH F)).x (bH F) (F 1).toNat 3=false
       ·exact nothing (cS S.v (F 1).toNat (bH F)) (by unfold cC;rw[YG h1,YG h2,YG h3,YH h4]) rfl
       ·left;left;have et:(cC win S.v F).1.tr=S.v.tr++[bH F]:=by unfold cC;rw[YG h1,YG h2,YG h3,YG h4];rfl
        show S.v.tr.length<(cC win S.v F).1.tr.length;rw[et];simp
   ·have nG:p.dst<3:=by have:=hp.dst;omega
    have eX:kj L win p ⟨S.rp,S.v,l⟩=⟨upd S.rp p.dst (fj L (aP p.b).2 (S.rp p.dst)),S.v,lf p.dst p.src (gh L (aP p.b).2 (S.rp p.dst)) l⟩:=by
     unfold kj;rw[YG hn,YG hd]
    rw[eX];by_cases hup:(S.rp p.dst).cycle<(fj L (aP p.b).2 (S.rp p.dst)).cycle
    ·left;right;refine⟨p.dst,nG,?_⟩;show(S.rp p.dst).cycle<(upd S.rp p.dst _ p.dst).cycle;rw[upd_same];exact hup
    ·right;have E9:(fj L (aP p.b).2 (S.rp p.dst)).cycle=(S.rp p.dst).cycle:=by have:=P0 (L:=L) (aP p.b).2 (S.rp p.dst);omega
     refine⟨funext fun k=>?_,?_⟩
     ·show(upd S.rp p.dst _ k).cycle=(S.rp k).cycle;by_cases e:k=p.dst
      ·subst e;rw[upd_same];exact E9
      ·rw[cR _ _ e]
     ·have sr:gV S p.dst=(S.rp p.dst).cycle:=rfl;generalize gV S=cy at sr⊢;have hid:=(h.rp _ nG).id;have yf:¬tL cy p:=by
       rintro⟨_,_,q1,q2,q3⟩;apply hup;have:fj L (aP p.b).2 (S.rp p.dst)=iN L (aP p.b).2 (S.rp p.dst):=by unfold fj;rw[YH ⟨q1,q2⟩]
       rw[this];unfold iN;rw[sr]at q3;rw[YG oQ,YH q3];show _<(S.rp p.dst).cycle+1;omega
      have G5:dL cy S.aq=lW cy p+dL cy l:=by
       rw[he];show(if tL cy p then 1 else lW cy p+dL cy l)=_;rw[YG yf]
      rw[G5];have nJ:=PZ cy p;show dL cy (lf p.dst p.src (gh L (aP p.b).2 (S.rp p.dst)) l)<_;unfold gh;split
      ·rename_i kG;have hs:p.src=3:=oQ;unfold rr;split
       ·show dL cy l<_;omega
       ·rename_i aj;split
        ·have qz:lW cy p=3:=by
          unfold lW;rw[YG hn,YG hd,YH kG,YG oQ]
         have znG:(iN L (aP p.b).2 (S.rp p.dst)).cycle=(S.rp p.dst).cycle:=by
          have:fj L (aP p.b).2 (S.rp p.dst)=iN L (aP p.b).2 (S.rp p.dst):=by unfold fj;rw[YH kG]
          rw[<-this];exact E9
         have hw:=KC cy ⟨p.dst,p.src,fF (nZ (iN L (aP p.b).2 (S.rp p.dst)))⟩ l;have hpw:tN cy ⟨p.dst,p.src,fF (nZ (iN L (aP p.b).2 (S.rp p.dst)))⟩<=2:=by
          unfold tN;split
          ·omega
          ·unfold lW;split
           ·omega
           ·rename_i gv;split
            ·omega
            ·rename_i aW;exfalso;apply aW;rcases PO (nZ (iN L (aP p.b).2 (S.rp p.dst)))with e|e
             ·exact absurd (.inl e) gv
             ·show(aP (fF (nZ (iN L (aP p.b).2 (S.rp p.dst))))).2 2=cy p.dst;rw[e 2 oQ,sr];exact znG
         show dL cy (ji _ l)<_;omega
        ·show dL cy l<_;omega
      ·rename_i kG;split
       ·show dL cy l<_;omega
       ·split
        ·rename_i h4;have hw2:lW cy p=2:=by
          unfold lW;rw[YG hn,YG hd,YG kG,YH h4]
         have hw:=KC cy ⟨p.dst,p.src,fF (nh (S.rp p.dst))⟩ l;have zrR:p.src≠3:=by
          intro e;rename_i hr;apply hr;left;rw[mS,e];rfl
         have hpw:tN cy ⟨p.dst,p.src,fF (nh (S.rp p.dst))⟩<=1:=by
          unfold tN;split
          ·omega
          ·unfold lW;split
           ·omega
           ·rename_i gv;rcases PO (nh (S.rp p.dst))with e|e
            ·exact absurd (.inl e) gv
            ·have e0:(aP (fF (nh (S.rp p.dst)))).2 0=5:=e 0 oQ;rw[YG (fun x=>by rw[e0]at x;exact absurd x.1 dQ),YG (fun x=>by rw[e0]at x;exact absurd x dQ)];omega
         show dL cy (ji _ l)<_;omega
        ·show dL cy l<_;omega
def za6(S:SY):Nat:=(gV S 0).toNat+(gV S 1).toNat+(gV S 2).toNat
theorem bu.Du(h:bu L W liar win T S)(hk:k<3):0<=gV S k/\gV S k<=S.v.tr.length:=by
 obtain⟨n,c1,c2,_⟩:=(h.rp k hk).lL;unfold gV;omega
theorem znH(hL:eA L):∀(m:Nat)(S:SY),bu L W liar win T S->1000*(4000-(S.v.tr.length+za6 S))+dL (gV S) S.aq<=m->∃ j,(eL L win j S).aq=[]:=by
 intro m;induction m with
 |zero=>
  intro S h hm;cases pz:S.aq with
  |nil=>exact⟨0,pz⟩
  |cons p l=>
   rw[pz]at hm;have:1<=dL (gV S) (p::l):=by
    rw[zg];split
    ·omega
    ·have:=PZ (gV S) p;omega
   omega
 |succ m ih=>
  intro S h hm;cases pz:S.aq with
  |nil=>exact⟨0,pz⟩
  |cons p l=>
   have hc:=h.comes hL pz;obtain⟨hA,_⟩:=h.Dt hL (i:=0) (by rw[pz];simp);obtain⟨j,hj⟩:=ih (fS L win 0 S) hA (by
    have b0:=h.Du (k:=0) oQ;have b1:=h.Du (k:=1) oQ;have b2:=h.Du (k:=2) oQ;have e0:=hA.Du (k:=0) oQ;have e1:=hA.Du (k:=1) oQ;have e2:=hA.Du (k:=2) oQ;have g0:=hc.cy 0 oQ;have g1:=hc.cy 1 oQ;have g2:=hc.cy 2 oQ;have f1:=hA.jv.few;have l1:=zny (gV (fS L win 0 S)) (fS L win 0 S).aq;have l2:=hA.many;obtain⟨a,ha⟩:=hc.tr;have cP:S.v.tr.length<=(fS L win 0 S).v.tr.length:=by rw[ha,Yf];omega
    unfold za6 at hm⊢;rcases hc.less with hg|⟨hs,hw⟩
    ·rcases hg with hg|⟨k,hk,hg⟩
     ·omega
     ·rcases(by omega:k=0\/k=1\/k=2)with rfl|rfl|rfl<;>omega
    ·rw[hs];omega)
   exact⟨j+1,hj⟩
theorem bu.ends(h:bu L W liar win T S)(hL:eA L):∃ j,(eL L win j S).aq=[]:=znH hL _ S h lQ
theorem P2(h:S.aq=[]):∀ m,eL L win m S=S
 | 0=>rfl
 |m+1=>by
  have e:fS L win 0 S=S:=by
   unfold fS ju kj;rw[h];have:isNone (gU [] 0):=.inl (by show(aP []).1≠0;rw[JU (by left;simp)];decide);rw[YH this];cases S;simp only[]at h;rw[h];rfl
  show eL L win m (fS L win 0 S)=S;rw[e];exact P2 h m
end
end Go.Proofs.YtaablbmgagiajabGreatDoor
