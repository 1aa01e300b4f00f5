import Derived.Test.YtaablbmgagiajabGreatDoorZGAA
import Derived.BigQuiet
set_option maxHeartbeats 4000000
open Go.RowKit renaming Below->YO
open Go.RowKit.Below renaming refl->YS
open Go renaming Calls->YR,Value->YN,World->YM,rounds_succ->zzZ,run_callFunc_extern->ZO
open Go.Instr renaming typeAssert->zuv
open Go.Extern.ReflectliteType renaming abiMethod->zuG,assignableTo->zuH,elem->zuI,implements_->zuJ,method->zvr,relation->ztl,toType->zuL,typeOf->zuM
open Go.Extern.ReflectliteValue renaming elem->ztR,isNil->ztS,method->zsR,methodAny->zvs,set->zuN,unpack->zue,valueError->Z6
open Go.World renaming block_lt_of_cell?->ztA,cell?_alloc_at->zvu,cell?_alloc_lt->ZB,cell?_setCell_same->zB4,frozen?_alloc_old->zuh,setCell->Zz
namespace Go.Proofs.YtaablbmgagiajabGreatDoor
open Go.Proofs.Tryz
open Go.RowKit Go.Extern.Stop Go.Stop Go.Extern
variable{B M cg g n p:Nat}{d s:Int}{f:Nat×Int}{v:YN}{w wx:YM}{zs:List Int}
def fC(w:YM):Prop:=w.cell? (aQ 0 0)=some (.iface 237 (.agg #[.pointer (some (aQ 7 54))]))
theorem fC.pos(h:fC w):0<w.1.size:=by
 rcases zst w.1.size with h0|h1
 ·unfold fC at h;simp[World.cell?,h0]at h
 ·exact h1
theorem fC.below(h:fC w)(hb:YO B w wx)(hB:0<B):fC wx:=(hb.cell (p:=(aQ 0 0)) hB).trans h
theorem Tryz.zjQ(v:YN)(w:YM):(zuv (.iface 161 v) 54 242 true).run prog w=.ok (.tuple #[.nilIface,.bool false]) w:=run_typeAssert_lacksB underlying242 kQ kQ v _ w
theorem Tryz.zjR(v:YN)(w:YM):(zuv (.iface 161 v) 54 245 true).run prog w=.ok (.tuple #[.iface 161 v,.bool true]) w:=run_typeAssert_hasB underlying245 kQ v _ w
theorem Tryz.zjS(a:Addr)(w:YM):(Go.method 435 161 (.pointer (some a)) "Unwrap").run prog w=.ok (258,.pointer (some a)) w:=kQ
theorem zjT(c:Int)(t:Addr)(old:YN)(w:YM)(hg:fC w)(mn:w.cell? t=some old)(mR:w.frozen? t=false):
  YR prog 71 #[.iface 74 (iQ c),.iface 127 (.pointer (some t))] w fun ev w'=>ev=.returned (.bool true)/\YO t.block w w'/\w'.cell? t=some (iQ c):=by
 have h6:=@ZO prog 120 _ (fun args=>zue (args.getD 0 (.tuple #[]))) func120 kQ kQ kQ kQ;have h7:=@ZO prog 121 _ (zvs (Z6 "reflectlite.Value.Type" 0) (fun t _ _ _=>zuL t)) func121 kQ kQ kQ kQ;have h8:=@ZO prog 122 _ (zsR (Z6 "reflectlite.Value.IsNil" 0) ztS) func122 kQ kQ kQ kQ;have h27:=@ZO prog 251 _ (zuG fun t=>do pure (.int .u8 (<-Rtype.kind t))) func251 kQ kQ kQ kQ;have h37:=@ZO prog 265 _ (zvr zuI) func265 kQ kQ kQ kQ;have h38:=@ZO prog 266 _ (ztl "Implements" zuJ) func266 kQ kQ kQ kQ;have Hx:=@ZO prog 169 _ zuM func169 kQ kQ kQ kQ;have h35:=@ZO prog 263 _ (ztl "AssignableTo" zuH) func263 kQ kQ kQ kQ;have pB:=@ZO prog 170 _ (zsR (Z6 "reflectlite.Value.Elem" 0) ztR) func170 kQ kQ kQ kQ;have NL:=@ZO prog 171 _ zuN func171 kQ kQ kQ kQ;have tO:=Tryz.V9;have mA:=Tryz.V6;have a25:=Tryz.Wa;have v25:=Tryz.Wc;have f6:=Tryz.VW;have f7:=Tryz.VX;have mK:=Tryz.VY;have mE:=Tryz.V4;have mI:=Tryz.V5;have k27:=Tryz.VZ;have k25:=Tryz.V0;have e27:=Tryz.V7;have i25:=Tryz.V8;have aj:=hg.pos;have wU:t.block<w.1.size:=ztA _ _ mn;have n8:=Tryz.V3 (aQ w.1.size 0) t ((w.alloc (.cells #[.pointer (some t)] 127)).alloc (.cells #[.pointer (some (aQ 7 127)),pQ w.1.size,.int .u64 150] 200)) sQ;have cY:((w.alloc (.cells #[.pointer (some t)] 127)).alloc (.cells #[.pointer (some (aQ 7 127)),pQ w.1.size,.int .u64 150] 200)).cell? (aQ 0 0)=some (.iface 237 (.agg #[.pointer (some (aQ 7 54))])):=by
  rw[ZB _ _ (aQ 0 0) sQ,ZB _ _ (aQ 0 0) aj];exact hg
 have el:=Tryz.Wd (aQ w.1.size 0) t (((w.alloc (.cells #[.pointer (some t)] 127)).alloc (.cells #[.pointer (some (aQ 7 127)),pQ w.1.size,.int .u64 150] 200)).alloc (.cells #[.pointer (some (aQ 7 127)),pQ w.1.size,.int .u64 150] 200)) (by rw[ZB _ _ (aQ w.1.size 0) tQ];simp);have st:=Tryz.We t (aQ (w.1.size+1+1+1) 0) c old ((((w.alloc (.cells #[.pointer (some t)] 127)).alloc (.cells #[.pointer (some (aQ 7 127)),pQ w.1.size,.int .u64 150] 200)).alloc (.cells #[.pointer (some (aQ 7 127)),pQ w.1.size,.int .u64 150] 200)).alloc (.cells #[iQ c] 74))
  (by rw[zvu _ _ _ _ sQ];rfl)
  (by rw[ZB _ _ t tQ,ZB _ _ t tQ,ZB _ _ t tQ,ZB _ _ t wU];exact mn)
  (by rw[zuh _ _ t tQ,zuh _ _ t tQ,zuh _ _ t tQ,zuh _ _ t (Nat.ne_of_lt wU)];exact mR)
 go_enter func71,ntmps71;go_wp2
 refine wp_loop_rounds 1 ?_;rw[zzZ];go_wp2
 go_ret;refine⟨rfl,?_,?_⟩
 ·exact((((YS _ _).alloc oQ _).alloc tQ _).alloc tQ _).alloc tQ _ |>.setCell (Yp _) _
 ·exact zB4 _ _ _ (u:=old) (by rw[ZB _ _ t tQ,ZB _ _ t tQ,ZB _ _ t tQ,ZB _ _ t wU];exact mn)
theorem zjU(c:Int)(p t:Addr)(old:YN)(w:YM)(hg:fC w)(mn:w.cell? t=some old)(mR:w.frozen? t=false)(hp:w.cell? p=some (iQ c)):
  YR prog 71 #[.iface 161 (.pointer (some p)),.iface 127 (.pointer (some t))] w fun ev w'=>ev=.returned (.bool true)/\YO t.block w w'/\w'.cell? t=some (iQ c):=by
 have h6:=@ZO prog 120 _ (fun args=>zue (args.getD 0 (.tuple #[]))) func120 kQ kQ kQ kQ;have h7:=@ZO prog 121 _ (zvs (Z6 "reflectlite.Value.Type" 0) (fun t _ _ _=>zuL t)) func121 kQ kQ kQ kQ;have h8:=@ZO prog 122 _ (zsR (Z6 "reflectlite.Value.IsNil" 0) ztS) func122 kQ kQ kQ kQ;have h27:=@ZO prog 251 _ (zuG fun t=>do pure (.int .u8 (<-Rtype.kind t))) func251 kQ kQ kQ kQ;have h37:=@ZO prog 265 _ (zvr zuI) func265 kQ kQ kQ kQ;have h38:=@ZO prog 266 _ (ztl "Implements" zuJ) func266 kQ kQ kQ kQ;have Hx:=@ZO prog 169 _ zuM func169 kQ kQ kQ kQ;have h35:=@ZO prog 263 _ (ztl "AssignableTo" zuH) func263 kQ kQ kQ kQ;have pB:=@ZO prog 170 _ (zsR (Z6 "reflectlite.Value.Elem" 0) ztR) func170 kQ kQ kQ kQ;have NL:=@ZO prog 171 _ zuN func171 kQ kQ kQ kQ;have tO:=Tryz.V9;have tA:=Tryz.zjK;have aA:=Tryz.zjL;have nA:=Tryz.zjQ;have uA:=Tryz.zjR;have mU:=Tryz.zjS p;have mA:=Tryz.V6;have a25:=Tryz.Wa;have v25:=Tryz.Wc;have f6:=Tryz.VW;have f7:=Tryz.VX;have mK:=Tryz.VY;have mE:=Tryz.V4;have mI:=Tryz.V5;have k27:=Tryz.VZ;have k25:=Tryz.V0;have e27:=Tryz.V7;have i25:=Tryz.V8;have aj:=hg.pos;have wU:t.block<w.1.size:=ztA _ _ mn;have n8:=Tryz.V3 (aQ w.1.size 0) t ((w.alloc (.cells #[.pointer (some t)] 127)).alloc (.cells #[.pointer (some (aQ 7 127)),pQ w.1.size,.int .u64 150] 200)) sQ;have cY:((w.alloc (.cells #[.pointer (some t)] 127)).alloc (.cells #[.pointer (some (aQ 7 127)),pQ w.1.size,.int .u64 150] 200)).cell? (aQ 0 0)=some (.iface 237 (.agg #[.pointer (some (aQ 7 54))])):=by
  rw[ZB _ _ (aQ 0 0) sQ,ZB _ _ (aQ 0 0) aj];exact hg
 have el:=Tryz.Wd (aQ w.1.size 0) t (((w.alloc (.cells #[.pointer (some t)] 127)).alloc (.cells #[.pointer (some (aQ 7 127)),pQ w.1.size,.int .u64 150] 200)).alloc (.cells #[.pointer (some (aQ 7 127)),pQ w.1.size,.int .u64 150] 200)) (by rw[ZB _ _ (aQ w.1.size 0) tQ];simp);have st:=Tryz.We t (aQ (w.1.size+1+1+1) 0) c old ((((w.alloc (.cells #[.pointer (some t)] 127)).alloc (.cells #[.pointer (some (aQ 7 127)),pQ w.1.size,.int .u64 150] 200)).alloc (.cells #[.pointer (some (aQ 7 127)),pQ w.1.size,.int .u64 150] 200)).alloc (.cells #[iQ c] 74))
  (by rw[zvu _ _ _ _ sQ];rfl)
  (by rw[ZB _ _ t tQ,ZB _ _ t tQ,ZB _ _ t tQ,ZB _ _ t wU];exact mn)
  (by rw[zuh _ _ t tQ,zuh _ _ t tQ,zuh _ _ t tQ,zuh _ _ t (Nat.ne_of_lt wU)];exact mR)
 have bJ:p.block<w.1.size:=ztA _ _ hp;have qV:(((w.alloc (.cells #[.pointer (some t)] 127)).alloc (.cells #[.pointer (some (aQ 7 127)),pQ w.1.size,.int .u64 150] 200)).alloc (.cells #[.pointer (some (aQ 7 127)),pQ w.1.size,.int .u64 150] 200)).cell? p=some (iQ c):=by
  rw[ZB _ _ p tQ,ZB _ _ p tQ,ZB _ _ p bJ];exact hp
 go_enter func71,ntmps71;go_wp2
 refine wp_loop_rounds 2 ?_;rw[zzZ];go_wp2
 rw[zzZ];go_wp2
 go_ret;refine⟨rfl,?_,?_⟩
 ·exact((((YS _ _).alloc oQ _).alloc tQ _).alloc tQ _).alloc tQ _ |>.setCell (Yp _) _
 ·exact zB4 _ _ _ (u:=old) (by rw[ZB _ _ t tQ,ZB _ _ t tQ,ZB _ _ t tQ,ZB _ _ t wU];exact mn)
theorem zjV(w:YM)(lo:Nat)(f:Nat×Int)(v:YN)(he:iY w lo f v)(hg:fC w):
  YR prog 28 #[v] w (bQ (iQ (f.1:Int)) w):=by
 obtain⟨c,pl⟩:=f;rcases he with ⟨h0,rfl⟩|⟨h0,_,rfl⟩|⟨h0,_,nb,_,hnb,rfl,fV,_⟩
 ·obtain⟨rfl,rfl⟩:=Prod.mk.inj h0;go_enter func28,ntmps28;go_wp2
  go_ret;exact⟨rfl,YS _ _⟩
 ·have hB:YO w.1.size w (w.alloc (.cells #[iQ 0] 74)):=(YS _ _).alloc lQ _;have fI:=hg.below hB hg.pos;have HG:=ae fI;clear fI;go_enter func28,ntmps28;go_wp2_with fail
  refine(zjT (c:Int) (aQ w.1.size 0) (iQ 0) _ HG.o sQ sQ).mono ?_;rintro e w1 ⟨rfl,aX,gG⟩;have HB:=ae (hB.trans aX);clear hB aX;go_wp2
  go_ret;exact⟨rfl,HB.o⟩
 ·have hB:YO w.1.size w (w.alloc (.cells #[iQ 0] 74)):=(YS _ _).alloc lQ _;have fI:=hg.below hB hg.pos;have HG:=ae fI;have HC:=ae ((hB.cell (p:=(aQ nb 0)) hnb).trans fV);clear fI;go_enter func28,ntmps28;go_wp2_with fail
  refine(zjU (c:Int) (aQ nb 0) (aQ w.1.size 0) (iQ 0) _ HG.o sQ sQ HC.o).mono ?_;rintro e w1 ⟨rfl,aX,gG⟩;have HB:=ae (hB.trans aX);clear hB aX;go_wp2
  go_ret;exact⟨rfl,HB.o⟩
open Go.Deep
def uP(c:List Nat):Nat->Nat
 | 0=>0
 |m+1=>if FU m c then max (uP c m) (pop 8 m)else uP c m
def most(c:List Nat):Nat:=uP c (2^c.length)
def lI(zs:List Int):List Nat:=(List.range zs.length).map (eC zs)
theorem Gf(zs:List Int):(lI zs).length=zs.length:=by simp[lI]
theorem WB(zs:List Int)(k:Nat)(h:k<zs.length):(lI zs)[k]?.getD 0=eC zs k:=by simp[lI,h]
theorem WC(zs:List Int)(k:Nat)(h:zs.length<=8):eC zs k<256:=Yr (Ju zs k zs.length) (Yt dQ h)
theorem zke(zs:List Int)(h:zs.length<=8)(k:Nat):(lI zs)[k]?.getD 0<256:=by
 by_cases hk:k<zs.length
 ·rw[WB zs k hk];exact WC zs k h
 ·simp[lI,hk]
theorem zkf(h:w.rowIs M 3 zs.length (fun k=>iQ ((eC zs k:Nat):Int))):CC w M 0 (lI zs):=by
 intro k hk;rw[Gf]at hk;rw[Yv,h.cell hk,WB zs k hk]
theorem zkg(s:Nat)(M n:Nat)(c:List Nat)(w:YM)(hn:c.length=n)(hs:s<256)(hl:c.length<=8)(hz:∀ k:Nat,c[k]?.getD 0<256)(hc:CC w M 0 c):
  YR prog 207 #[iQ (s:Int),.slice (some (aQ M 0)) n n] w fun e w'=>e=.returned (.bool (FU s c))/\w'=w:=by
 subst hn;exact ziM s M 0 _ c w hs hl hz hc
theorem zkh(s d:Int)(b off cap:Nat)(zs:List Int)(w:YM)(av:cw s zs d=(0,-1))(hb:b<w.1.size)(hc:Row w b off zs)(fw:zs.length<=cap):
  YR prog 184 #[.agg #[iQ s,.slice (some (aQ b off)) zs.length cap,iQ d]] w fun e w'=>
   e=.returned (.tuple #[iQ ((most (lI zs):Nat):Int),.nilIface])/\YO w.1.size w w':=by
 have hr:=oO av;unfold jY at hr;simp only[X6,mj]at hr;obtain⟨⟨_,Js,Jt⟩,_⟩:=hr;have hP:2^zs.length<=256:=Yt (n:=2) dQ (by omega:zs.length<=8);have hw:=sI zs.length oQ;obtain⟨P,WE⟩:∃ P,Hid (2^zs.length=P):=eQ;rw[WE.o]at hw hP;go_enter func184,ntmps184;go_wp2_with fail
 refine(NY s d b off cap zs _ av tQ (hc.below hb ((YS _ _).alloc lQ _)) fw).mono ?_;rintro e w1 ⟨⟨M,hM,rfl,bV⟩,hB⟩;have FX:YO w.1.size w w1:=((YS _ _).alloc lQ _).trans (hB.mono sQ);have hap:=fun(m:Nat)(hm:m<256)=>zkg m M zs.length (lI zs) w1 (Gf zs) hm (by rw[Gf];omega) (zke zs oQ) (zkf bV)
 have OG:=ae hap;clear hap hB hc av hM bV;have zki:=ae FX;clear FX;go_wp2
 rw[hw];clear hw;go_loopw [6,19] (fun t i wr=>wr=w1/\∃ m:Nat,m<=P/\i=iQ m/\∃ q:Nat,q<=8/\t=iQ q/\Hid (uP (lI zs) m=q)) (fun _ i _=>P-(intOf i).toNat)
 case atStart=>exact⟨rfl,0,Yw _,rfl,0,oQ,rfl,rfl⟩
 case round=>
  obtain⟨rfl,m,hm,rfl,q,hq,rfl,Hq⟩:=hrel;by_cases aj:m<P
  ·cases ud:FU m (lI zs)
   ·go_wp2_with (go_at_call 207;refine(bE OG _ oQ).mono ?_;rintro e w' ⟨rfl,fH⟩;subst w')
    go_roundw
    case rel=>exact⟨trivial,m+1,oQ,by go_num,q,hq,rfl,by rw[uP,ud];exact Hq.o⟩
    case measure=>simp[intOf];omega
   ·have hp:=NT 8 m;by_cases Gg:q<pop 8 m
    ·go_wp2_with (first
      |(go_at_call 207;refine(bE OG _ oQ).mono ?_;rintro e w' ⟨rfl,fH⟩;subst w')
      |(go_at_call 21;refine(NV _ _ oQ).mono ?_;rintro e w' ⟨rfl,fH⟩;subst w'))
     go_roundw
     case rel=>exact⟨trivial,m+1,oQ,by go_num,pop 8 m,hp,rfl,by rw[uP,ud,Hq.o,YH rfl];exact Nat.max_eq_right oQ⟩
     case measure=>simp[intOf];omega
    ·go_wp2_with (first
      |(go_at_call 207;refine(bE OG _ oQ).mono ?_;rintro e w' ⟨rfl,fH⟩;subst w')
      |(go_at_call 21;refine(NV _ _ oQ).mono ?_;rintro e w' ⟨rfl,fH⟩;subst w'))
     go_roundw
     case rel=>exact⟨trivial,m+1,oQ,by go_num,q,hq,rfl,by rw[uP,ud,Hq.o,YH rfl];exact Nat.max_eq_left oQ⟩
     case measure=>simp[intOf];omega
  ·go_wp2
   go_ret2
   have e:m=P:=oQ;subst e;refine⟨?_,zki.o⟩;unfold most;rw[Gf,WE.o,Hq.o];rfl
theorem zkj(s d:Int)(b off n cap:Nat)(zs:List Int)(w:YM)(hn:zs.length=n)(av:cw s zs d=(0,-1))(hb:b<w.1.size)(hc:Row w b off zs)(fw:n<=cap):
  YR prog 184 #[.agg #[iQ s,.slice (some (aQ b off)) n cap,iQ d]] w fun e w'=>
   e=.returned (.tuple #[iQ ((most (lI zs):Nat):Int),.nilIface])/\YO w.1.size w w':=by
 subst hn;exact zkh s d b off cap zs w av hb hc fw
theorem iY.bad{w':YM}{lo:Nat}(h:iY w' lo f v)(hf:f≠(0,-1)):∃ t x,v=.iface t x/\(t=74\/t=161):=by
 rcases h with ⟨h,_⟩|⟨_,_,h⟩|⟨_,_,nb,_,_,h,_⟩
 ·exact absurd h hf
 ·exact⟨_,_,h,.inl rfl⟩
 ·exact⟨_,_,h,.inr rfl⟩
theorem iY.lower{lo WG:Nat}(h:iY w lo f v)(hl:WG<=lo):iY w WG f v:=by
 rcases h with h|h|⟨h0,h1,nb,h2,h3⟩
 ·exact .inl h
 ·exact .inr (.inl h)
 ·exact .inr (.inr ⟨h0,h1,nb,Yq hl h2,h3⟩)
theorem zkk(s d:Int)(a:Option Addr)(len cap:Nat)(zs:List Int)(w:YM)(h:kx w a len cap zs)(iW:cw s zs d≠(0,-1)):
  YR prog 178 #[.agg #[iQ s,.slice a len cap,iQ d]] w fun e w'=>(∃ v,e=.returned (.tuple #[.slice none 0 0,v])/\iY w' w.1.size (cw s zs d) v)/\YO w.1.size w w':=by
 have aC:YO w.1.size w (w.alloc (.cells #[iQ s,.slice a len cap,iQ d] 42)):=(YS _ _).alloc lQ _;have lJ:=NW s d a len cap zs _ (h.below aC);have sN:=ae lJ;have Gh:=ae iW;clear lJ iW;go_enter func178,ntmps178;go_wp2_with fail
 refine sN.o.mono ?_;rintro e w1 ⟨⟨v,rfl,hv⟩,hB⟩;have dM:iY w1 w.1.size (cw s zs d) v:=hv.lower sQ;have HV:=ae dM;have HB:=ae (aC.trans (hB.mono sQ));obtain⟨t,x,rfl,_⟩:=hv.bad Gh.o;clear hv dM hB aC sN;go_wp2
 go_ret2
 exact⟨⟨_,rfl,HV.o⟩,HB.o⟩
theorem zkl(x:Int)(i:Nat)(hi:i<=62):(bits BinOp.and IntKind.i64 (x/2^i) 1==1)=(u64 x).testBit i:=by
 rw[Vg x i hi,Vh];cases(u64 x).testBit i<;>rfl
theorem zkm(x:Int)(i:Nat)(w:YM)(hi:i<=62):
  YR prog 197 #[iQ x,iQ (i:Int)] w fun e w'=>e=.returned (.bool ((u64 x).testBit i))/\w'=w:=by
 have hb:=zkl x i hi;have HB:=ae hb;clear hb;go_enter func197,ntmps197;go_wp2
 go_ret;exact⟨dU HB.o,rfl⟩
theorem Gi(m i:Nat)(w:YM)(hm:m<9223372036854775808)(hi:i<=62):
  YR prog 197 #[iQ (m:Int),iQ (i:Int)] w fun e w'=>e=.returned (.bool (m.testBit i))/\w'=w:=by
 have:=zkm (m:Int) i w hi;rw[nN m hm]at this;exact this
theorem JH(b off n cap:Nat)(zs:List Int)(w:YM)(hn:zs.length=n)(h0:0<n)(h8:n<=8)(hb:b<w.1.size)(hc:Row w b off zs):
  YR prog 64 #[.slice (some (aQ b off)) n cap] w fun e w'=>
   (∃ g cg,w.1.size<=g/\g<w'.1.size/\n<=cg/\e=.returned (.slice (some (aQ g 0)) n cg)/\Row w' g 0 zs)/\YO w.1.size w w':=by
 obtain⟨i0,hi,cQ,bf,bK⟩:=info_parts NX;have HI:=ae hi;have fN:=ae cQ;have gP:=ae bf;have gQ:=ae bK;have HC:=ae hc;clear hi cQ bf bK hc;have hq:∀ wx:YM,(binOp .eql 22 (.slice (some (aQ b off)) n cap) (.slice none 0 0)).run prog wx=.ok (.bool false) wx:=fun wx=>Lib.run_eql_slice_nil wx _ _ _ _ _ _ _ underlying22
 go_enter func64,ntmps64;go_wp2_with (at_builtin;refine wpList_append_own _ rfl _ _ 22 rfl w.1.size 3 i0 (iQ 0) 1 8 underlying22 HI.o fN.o gP.o gQ.o rfl dQ _ _ _ rfl (World.ownsRow_made w #[] 0 lQ (by unfold maxLen;omega) rfl) (aQ b off) n cap (zs.map (Value.int .i64)) rfl (by rw[Yh,hn,Nat.mul_one]) ?c1 ?c2 ?c3 ?c4 ?c5 ?_)
 case c1=>
  intro j u hj;have kq:j<zs.length:=by
   have:=(Ye.1 hj).1;simpa using this
  have e:((aQ b off):Addr).add j=(aQ b (off+j)):=by unfold Addr.add;split<;>simp_all
  rw[e,World.cell?_alloc_past _ _ _ hb,HC.o j kq];rw[zsd,Yc kq]at hj;rw[Yc kq];exact hj
 case c2=>
  intro u hu;obtain⟨z,_,rfl⟩:=Ym.1 hu;rfl
 case c3=>unfold maxLen;omega
 case c4=>omega
 case c5=>simp
 intro v' w1 bC bL _;obtain⟨g,cg,rfl,eY,cY,im⟩:∃ g cg,v'=.slice (some (aQ g 0)) n cg/\w.1.size<=g/\g<w1.1.size/\n<=cg:=by
  rcases bC.2 with ⟨_,h0⟩|⟨g,cg,bA,h0,h1,h2,h3,_⟩
  ·omega
  ·exact⟨g,cg,h0,h1,bp h2,h3⟩
 have bV:Row w1 g 0 zs:=by
  intro k hk;have:=bC.cellAt k oQ;rw[Yv,this];simp[hk]
 have hold:YO w.1.size w w1:=((YS _ _).alloc lQ _).grown bL sQ (fun j hj=>by
  have:w.1.size=j:=by simpa[Value.ownBlock]using hj
  omega)
 have nR:=ae bV;have zA:=ae hold;clear bV hold bC bL;go_wp2
 go_ret;exact⟨⟨g,cg,eY,cY,im,rfl,nR.o⟩,zA.o⟩
structure gz(w:YM)(p:Nat)(s d:Int)(n:Nat)(zs:List Int)(g cg M:Nat):Prop where
 blk:w.1[p]?=some (.cells #[iQ s,.slice (some (aQ g 0)) n cg,iQ d,.slice (some (aQ M 0)) n n] 258 (0,0))
 len:zs.length=n
 cap:n<=cg
 eV:g<w.1.size
 row:Row w g 0 zs
 CQ:w.rowIs M 3 n (fun k=>iQ ((eC zs k:Nat):Int))
 ok:cw s zs d=(0,-1)
theorem gz.below(h:gz w p s d n zs g cg M)(hp:p<B)(hg:g<B)(hM:M<B)(hB:YO B w wx):gz wx p s d n zs g cg M:=
 ⟨(hB.block p hp).trans h.blk,h.len,h.cap,Yr h.eV hB.size,h.row.below hg hB,h.CQ.of_block (hB.block M hM),h.ok⟩
theorem gz.kh(h:gz w p s d n zs g cg M):p<w.1.size:=bp h.blk
theorem gz.mlt(h:gz w p s d n zs g cg M):M<w.1.size:=h.CQ.lt
theorem gz.few(h:gz w p s d n zs g cg M):1<=n/\n<=8/\1<=s/\s<=12/\0<=d/\d<=20:=by
 have hr:=oO h.ok;unfold jY at hr;simp only[X6,mj]at hr;have:=h.len;omega
theorem WH(s d:Int)(b off n cap:Nat)(zs:List Int)(w:YM)(hn:zs.length=n)(av:cw s zs d=(0,-1))(hb:b<w.1.size)(hc:Row w b off zs)(fw:n<=cap):
  YR prog 133 #[.agg #[iQ s,.slice (some (aQ b off)) n cap,iQ d]] w fun e w'=>
   (∃ p g cg M,w.1.size<=p/\w.1.size<=g/\w.1.size<=M/\e=.returned (.tuple #[pQ p,.nilIface])/\gz w' p s d n zs g cg M)/\YO w.1.size w w':=by
 subst hn;have hr:=oO av;unfold jY at hr;simp only[X6,mj]at hr;obtain⟨⟨_,Js,Jt⟩,_⟩:=hr;have aC:YO w.1.size w (w.alloc (.cells #[iQ s,.slice (some (aQ b off)) zs.length cap,iQ d] 42)):=(YS _ _).alloc lQ _;have nO:=NY s d b off cap zs _ av tQ (hc.below hb aC) fw;have CE:=ae nO;have fX:=ae av;have HC:=ae hc;clear nO av hc;go_enter func133,ntmps133;go_wp2_with fail
 refine CE.o.mono ?_;rintro e w1 ⟨⟨M,hM,rfl,Ck⟩,hB⟩;have Gj:w.1.size<w1.1.size:=by have:=hB.size;simp at this;omega
 have wW:M<w1.1.size:=Ck.lt;have iZ:w1.1[w.1.size]?=some (.cells #[iQ s,.slice (some (aQ b off)) zs.length cap,iQ d] 42 (0,0)):=(hB.block _ sQ).trans (aU _ _);have c1:w1.cell? (aQ w.1.size 1)=some (.slice (some (aQ b off)) zs.length cap):=by rw[ay iZ];rfl
 have aG:YO w.1.size w w1:=aC.trans (hB.mono sQ);have cB:=JH b off zs.length cap zs w1 rfl oQ oQ oQ (HC.o.below hb aG);have kY:=ae cB;have qZ:=ae iZ;have AE:=ae Ck;have dN:=ae aG;clear cB iZ Ck hB aG aC CE HC;go_wp2_with fail
 refine kY.o.mono ?_;rintro e w2 ⟨⟨g,cg,eY,cY,im,rfl,bV⟩,aS⟩;have Gk:w2.1[w.1.size]?=some (.cells #[iQ s,.slice (some (aQ b off)) zs.length cap,iQ d] 42 (0,0)):=(aS.block _ Gj).trans qZ.o;have d0:w2.cell? (aQ w.1.size 0)=some (iQ s):=by rw[ay Gk];rfl
 have d1:w2.cell? (aQ w.1.size 1)=some (.slice (some (aQ b off)) zs.length cap):=by rw[ay Gk];rfl
 have d2:w2.cell? (aQ w.1.size 2)=some (iQ d):=by rw[ay Gk];rfl
 have f1:w2.frozen? (aQ w.1.size 1)=false:=fL Gk 1;have jC:=ae aS;have nR:=ae bV;clear aS bV Gk kY c1;go_wp2
 go_ret2
 have hN2:w.1.size<w2.1.size:=Yr Gj jC.o.size;have qK:w.1.size+1<=M:=by simpa using hM
 have sO:YO w.1.size w2 ((w2.setCell (aQ w.1.size 1) (.slice (some (aQ g 0)) zs.length cg)).alloc (.cells #[iQ s,.slice (some (aQ g 0)) zs.length cg,iQ d,.slice (some (aQ M 0)) zs.length zs.length] 258)):=
  (show YO w.1.size w2 (w2.setCell (aQ w.1.size 1) (.slice (some (aQ g 0)) zs.length cg))from Below.setCell (YS w.1.size w2) (p:=(aQ w.1.size 1)) lQ _).alloc (by simp[Zz];omega) _
 have hk:∀ k,k<w2.1.size->k≠w.1.size->((w2.setCell (aQ w.1.size 1) (.slice (some (aQ g 0)) zs.length cg)).alloc (.cells #[iQ s,.slice (some (aQ g 0)) zs.length cg,iQ d,.slice (some (aQ M 0)) zs.length zs.length] 258)).1[k]?=w2.1[k]?:=fun k h1 h2=>by
  rw[Below.heap_alloc _ _ _ (by simp[Zz];omega),Below.heap_setCell _ _ _ _ h2]
 refine⟨⟨w2.1.size,g,cg,M,oQ,oQ,oQ,rfl,?_⟩,(dN.o.trans (jC.o.mono oQ)).trans sO⟩;refine⟨?_,rfl,im,?_,fun k dB=>(World.cell?_of_block (w:=w2) (hk g cY oQ)).trans (nR.o k dB),?_,fX.o⟩
 ·have:=aU (w2.setCell (aQ w.1.size 1) (.slice (some (aQ g 0)) zs.length cg)) (.cells #[iQ s,.slice (some (aQ g 0)) zs.length cg,iQ d,.slice (some (aQ M 0)) zs.length zs.length] 258);simpa[Zz]using this
 ·simp[Zz];omega
 ·refine AE.o.of_block ((hk M ?_ oQ).trans (jC.o.block M wW));exact Yr wW jC.o.size
theorem zkn(s d:Int)(a:Option Addr)(len cap:Nat)(zs:List Int)(w:YM)(h:kx w a len cap zs)(iW:cw s zs d≠(0,-1)):
  YR prog 133 #[.agg #[iQ s,.slice a len cap,iQ d]] w fun e w'=>(∃ v,e=.returned (.tuple #[.pointer none,v])/\iY w' w.1.size (cw s zs d) v)/\YO w.1.size w w':=by
 have aC:YO w.1.size w (w.alloc (.cells #[iQ s,.slice a len cap,iQ d] 42)):=(YS _ _).alloc lQ _;have lJ:=zkk s d a len cap zs _ (h.below aC) iW;have sN:=ae lJ;have Gh:=ae iW;clear lJ iW;go_enter func133,ntmps133;go_wp2_with fail
 refine sN.o.mono ?_;rintro e w1 ⟨⟨v,rfl,hv⟩,hB⟩;have dM:iY w1 w.1.size (cw s zs d) v:=hv.lower sQ;have HV:=ae dM;have HB:=ae (aC.trans (hB.mono sQ));obtain⟨t,x,rfl,_⟩:=hv.bad Gh.o;clear hv dM hB aC sN;go_wp2
 go_ret2
 exact⟨⟨_,rfl,HV.o⟩,HB.o⟩
end Go.Proofs.YtaablbmgagiajabGreatDoor
