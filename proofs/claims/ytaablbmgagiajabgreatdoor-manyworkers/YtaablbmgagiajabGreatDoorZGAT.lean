import Derived.Test.YtaablbmgagiajabGreatDoorZGAS
import Derived.RangeFuncCalls
set_option maxHeartbeats 4000000
set_option maxRecDepth 20000
open Go.RowKit renaming Below->YO,wrap64->Zs
open Go.RowKit.Below renaming heap_alloc->Za,refl->YS
open Go renaming Calls->YR,Value->YN,World->YM,bodyPost_ret->Zm,results_none->zun,wpAnyH_done->Y7,wpList_load_mid->zsU,wp_region_held_drew->Zh
open Int renaming add_zero->zyO
open Go.Lib renaming formatBool->zub
open List renaming take_length->zy5
open Nat renaming add_right_comm->zBq,exists_eq_add_of_le->zxb
open Go.Value renaming int->zsS,ownBlock->ZF,slice->zuS
open Go.Value.slice renaming injEq->ztd
open Go.World renaming cell?->Z9,cell?_of_block->Ze
namespace Go.Proofs.YtaablbmgagiajabGreatDoor
open Go.Proofs.Tryz
open Go.RowKit Go.Deep
variable{c':Int}{k m n:Nat}{o:Obj}{v:YN}{w0:YM}
variable {N win:Nat}{c:kp}{D:SC}{L:RC}{S:SY}
theorem Dw(w:YM)(xs:List Int)(n:Nat)(hn:xs.length=n):kx (w.alloc (.cells (xs.map (zsS .i64)).toArray 3)) (some (aQ w.1.size 0)) n n xs:=by
 refine⟨hn,Yp _,.inr ⟨w.1.size,0,rfl,sQ,fun k hk=>?_⟩⟩;have hb:(w.alloc (.cells (xs.map (zsS .i64)).toArray 3)).1[w.1.size]?=some (.cells (xs.map (zsS .i64)).toArray 3 (0,0)):=World.alloc_heap_new w _;unfold Z9;rw[hb];simp[hk]
def tR(L:RC):List Int:=(List.range L.n).map fun k=>((eC L.zs k:Nat):Int)
theorem zn3(V:YM)(a:YN)(h:jM V N c D L win S)(hL:eA L)(hc:∀ z∈tR L,dc z):
  YR prog 145 #[pQ c.d,a] V fun e V'=>e=.returned (.string (txt (fY (tR L))))/\YO V.1.size V V':=by
 obtain⟨c0,c1,c2⟩:=h.c0;have hf:=hL.few;have HC:Hid (YR prog 178 #[.agg #[iQ (L.s:Int),.slice (some (aQ c.g c.o)) L.n c.cp,iQ (L.d:Int)]] V fun e w'=>∃ M,e=.returned (.tuple #[.slice (some (aQ M 0)) L.n L.n,.nilIface])/\Hid (YO V.1.size V w'/\kx w' (some (aQ M 0)) L.n L.n (tR L))):=ae (by
  have hk:=NY (L.s:Int) (L.d:Int) c.g c.o c.cp L.zs V hL.ok (Yr h.eV h.le) h.row (by rw[hL.len];exact h.room);rw[hL.len]at hk;refine hk.mono ?_;rintro e w' ⟨⟨M,hM,rfl,bV⟩,hB⟩;refine⟨M,rfl,ae ⟨hB,by unfold tR;simp,Yp _,.inr ⟨M,0,rfl,bV.lt,fun k hk=>?_⟩⟩⟩;have tZ:k<L.n:=by unfold tR at hk;simpa using hk
  rw[Yv,bV.cell tZ];unfold tR;simp[tZ])
 have HN:=ae h.num;clear h;go_enter func145,ntmps145;go_wp2_with (go_at_call 178;refine HC.o.mono ?_;rintro e w1 ⟨M,rfl,hb⟩)
 go_wp2_with fail
 refine(qX _).mono ?_;rintro e w2 ⟨rfl,rfl⟩;have HS:=ae (CH (tR L) (some (aQ M 0)) L.n L.n _ hb.o.2 hc oQ (HN.o.below hb.o.1).pow);go_wp2_with (go_at_call 182;refine HS.o.mono ?_;rintro e w3 ⟨rfl,aZ⟩)
 go_ret;exact⟨rfl,hb.o.1.trans (aZ.mono hb.o.1.size)⟩
theorem zn4(V:YM)(a:YN)(h:jM V N c D L win S)(hL:eA L)(hc:dc ((most (lI L.zs):Nat):Int)):
  YR prog 152 #[pQ c.d,a] V fun e V'=>e=.returned (.string (txt (fY [((most (lI L.zs):Nat):Int)])))/\YO V.1.size V V':=by
 obtain⟨c0,c1,c2⟩:=h.c0;have HC:=ae (zkj (L.s:Int) (L.d:Int) c.g c.o L.n c.cp L.zs V hL.len hL.ok (Yr h.eV h.le) h.row h.room);have HN:=ae h.num;clear h;generalize hq:((most (lI L.zs):Nat):Int)=q at hc HC⊢;go_enter func152,ntmps152;go_wp2_with (go_at_call 184;refine HC.o.mono ?_;rintro e w1 ⟨rfl,aG⟩)
 go_wp2_with fail
 refine(qX _).mono ?_;rintro e w2 ⟨rfl,rfl⟩;have HS:=ae (CH [q] (some (aQ w2.1.size 0)) 1 1 _ (Dw w2 [q] 1 rfl) (by intro z hz;simp only[Yl,Yo,YL]at hz;rw[hz];exact hc) oQ ((HN.o.below aG).below ((YS _ _).alloc lQ _)).pow);have aS:YO V.1.size V (w2.alloc (.cells #[iQ q] 3)):=aG.trans (((YS _ _).alloc lQ _).mono aG.size);go_wp2_with (go_at_call 182;refine HS.o.mono ?_;rintro e w3 ⟨rfl,aZ⟩)
 go_ret;exact⟨rfl,aS.trans (aZ.mono aS.size)⟩
def G9(v:VS):List UInt8:=fY [oV v,(v.out:Int)]++[32]++zub v.dh
theorem zn5(V:YM)(a:YN)(h:jM V N c D L win S)(av:dS win S.v)(hs:dc (oV S.v))(ho:dc (S.v.out:Int)):
  YR prog 155 #[pQ c.d,a] V fun e V'=>e=.returned (.string (txt (G9 S.v)))/\YO V.1.size V V':=by
 have HH:Hid (∀ W,YO V.1.size V W->jM W N c D L win S):=ae fun W hB=>h.below hB
 have c3:=h.c3;have eB:V.drew.cell? (aQ c.d 3)=some (pQ D.p):=by simpa using c3
 have fX:=ae av;obtain⟨q1,vG⟩:∃ q,Hid (oV S.v=q):=eQ;obtain⟨q2,yy⟩:∃ q,Hid ((S.v.out:Int)=q):=eQ;obtain⟨bl,jl⟩:∃ q,Hid (S.v.dh=q):=eQ;have HI:Hid (∀ z∈[q1,q2],dc z):=ae (by
  intro z hz;simp only[Yl,Yo,YL]at hz;rcases hz with rfl|rfl
  ·rw[<-vG.o];exact hs
  ·rw[<-yy.o];exact ho)
 have zv:¬ 9223372036854775807<(fY [q1,q2]).length+1:=by
  have:=Ax [q1,q2] HI.o;simp at this;omega
 have hl3:¬ 9223372036854775807<(fY [q1,q2]).length+1+(zub bl).length:=by
  have:=Ax [q1,q2] HI.o;simp at this;have zh:(zub bl).length<=5:=by cases bl<;>decide
  omega
 have HT:Hid (G9 S.v=fY [q1,q2]++[32]++zub bl):=ae (by unfold G9;rw[vG.o,yy.o,jl.o]);clear h av hs ho;go_enter func155,ntmps155;go_wp2
 refine Zh (S:=fun W=>W.cell? (aQ c.d 3)=some (pQ D.p)) kQ eB (fun af=>?_);refine ai 0 (pQ c.d) af ?_;refine ai 1 (pQ c.d) af ?_;refine ai 2 (.pointer (some (aQ c.d 3))) af ?_;refine ai 3 (pQ D.p) af ?_;refine ai 5 (pQ c.d) af ?_;refine ai 6 (pQ c.d) af ?_;refine ai 7 (.pointer (some (aQ c.d 3))) af ?_;refine ai 8 (pQ D.p) af ?_;refine ai 13 (pQ c.d) af ?_;refine ai 14 (pQ c.d) af ?_;refine ai 15 (.pointer (some (aQ c.d 3))) af ?_;refine ai 16 (pQ D.p) af ?_;refine aR 4 fun K hK=>?_
 go_simp;go_at_call 15;refine(znX N D L win S _ (HH.o _ (YS _ _).drew).sys fX.o).mono ?_;rintro e w1 ⟨rfl,aG⟩;rw[vG.o];dsimp only;have dN:=ae ((YS _ _).drew.trans aG:YO V.1.size V w1);clear aG;refine hK.o _ _ (HH.o w1 dN.o).c3 (fun af=>?_);clear hK K;refine aR 9 fun K hK=>?_
 go_simp;go_at_call 17;refine(znW N D L win S _ (HH.o w1 dN.o).sys).mono ?_;rintro e w2 ⟨rfl,rfl⟩;rw[yy.o];dsimp only;refine hK.o _ _ (HH.o _ dN.o).c3 (fun af=>?_);clear hK K;refine aR 10 fun K hK=>?_
 go_simp;have jC:Hid (YO V.1.size V (w2.alloc (.cells #[iQ q1,iQ q2] 3))):=ae (dN.o.trans (((YS _ _).alloc lQ _).mono dN.o.size));have HP:Hid (YR prog 182 #[.slice (some (aQ w2.1.size 0)) 2 2] (w2.alloc (.cells #[iQ q1,iQ q2] 3)) fun e w'=>e=.returned (.string (txt (fY [q1,q2])))/\Hid (YO V.1.size V w')):=ae (by
  refine(CH [q1,q2] (some (aQ w2.1.size 0)) 2 2 _ (Dw w2 [q1,q2] 2 rfl) HI.o oQ (HH.o _ jC.o).num.pow).mono ?_;rintro e w' ⟨rfl,hB⟩;exact⟨rfl,ae (jC.o.trans (hB.mono jC.o.size))⟩)
 refine hK.o _ _ (HH.o _ jC.o).c3 (fun af=>?_);clear hK K;refine aR 11 fun K hK=>?_
 go_simp;go_at_call 182;refine HP.o.mono ?_;rintro e w3 ⟨rfl,xB⟩;dsimp only;refine hK.o _ _ (HH.o _ xB.o).c3 (fun af=>?_);clear hK K HP;refine ai 12 (.string (txt (fY [q1,q2])++⟨#[32]⟩)) af ?_;refine aR 17 fun K hK=>?_
 go_simp;go_at_call 14;refine(znV N D L win S _ (HH.o _ xB.o).sys).mono ?_;rintro e w4 ⟨rfl,rfl⟩;rw[jl.o];dsimp only;refine hK.o _ _ (HH.o _ xB.o).c3 (fun af=>?_);clear hK K;refine aR 18 fun K hK=>?_
 go_simp;go_at_call 185;refine(Tryz.strconv_FormatBool bl _).mono ?_;rintro e w5 ⟨rfl,rfl⟩;dsimp only;refine hK.o _ _ (HH.o _ xB.o).c3 (fun af=>?_);clear hK K;refine ai 19 (.string (txt (fY [q1,q2])++⟨#[32]⟩++⟨(zub bl).toArray⟩)) af ?_;refine ai 20 (.string (txt (fY [q1,q2])++⟨#[32]⟩++⟨(zub bl).toArray⟩)) af ?_;refine Y7 kQ ?_ _;go_wp2
 go_ret;refine⟨?_,xB.o⟩;rw[HT.o,<-NZ,<-NZ];rfl
theorem Ha{w:YM}{a:Addr}(h:w.cell? a=some v)(ho:w.1[a.block]?=some o):o.isCells=true:=by
 unfold Z9 at h;rw[ho]at h;cases o<;>first |rfl|(simp at h)
theorem aL.cells{w:YM}{N win:Nat}{D:SC}{L:RC}{S:SY}(h:aL w N D L win S)(hL:eA L)(hk:Wr D k\/rC D k)(ho:w.1[k]?=some o):o.isCells=true:=by
 have ty:∀{t:TypeId},km w k t->o.isCells=true:=fun⟨c,f,e⟩=>by rw[e]at ho;cases ho;rfl
 have hf:=hL.few;have hz:0<L.zs.length:=by rw[hL.len];omega
 rcases hk with hk|hk
 ·rcases hk with rfl|hk|⟨j,hj,rfl⟩|rfl|hk
  ·exact ty h.nj
  ·exact ty (h.tJ hk)
  ·exact ty (h.py hj)
  ·exact ty h.rH
  ·exact ty (h.rJ hk)
 ·rcases hk with rfl|⟨j,hj,rfl|rfl|rfl|rfl⟩
  ·exact Ha (a:=(aQ D.g0 (0+0))) (h.row 0 hz) ho
  ·have hb:=(h.rp j hj).core.blk;rw[hb]at ho;cases ho;rfl
  ·exact Ha (a:=⟨(D.C j).g,0+0,none⟩) ((h.rp j hj).core.row 0 (by rw[(h.ln j hj).zs];exact hz)) ho
  ·exact Ha (a:=⟨(D.C j).M,0,none⟩) ((h.rp j hj).core.CQ.cell (by rw[(h.ln j hj).n];omega)) ho
  ·exact Ha (a:=⟨(D.C j).g2,0+0,none⟩) ((h.rp j hj).row 0 (by rw[(h.ln j hj).zs];exact hz)) ho
theorem jd.cells{w:YM}{N b:Nat}{l:List UInt8}(h:jd w N b v l)(hk:sL b v k)(ho:w.1[k]?=some o):o.isCells=true:=by
 rcases hk with rfl|hk
 ·obtain⟨p,_,hb⟩:=h.blk;rw[hb]at ho;cases ho;rfl
 ·rcases h.row.2 with ⟨rfl,_⟩|⟨g,cap,bA,rfl,_,hg,_⟩
  ·simp[ZF]at hk
  ·simp only[ZF,YA]at hk;subst hk;rw[hg]at ho;cases ho;rfl
open Go.Shelf
attribute [local go_sem] Oper.semAt_some
theorem P9{B:Nat}{W W':YM}{T:Nat->Prop}(hm:Mod W W' T)(hc:∀ k,T k->∀ o:Obj,W.1[k]?=some o->o.isCells=true):KeepsFrom B W W':=
 ⟨hm.size,fun k o _ hk ho=>(hm.block k (XY.1 hk).1 (fun ht=>by rw[hc k ht o hk]at ho;cases ho)).trans hk⟩
def zn6:List UInt8:=[99,111,110,102,108,105,99,116,115]
def zn7:List UInt8:=[109,111,115,116]
def zn8:List UInt8:=[115,104,111,119]
def t0:List UInt8:=zn6++[10]++zn7++[10]++zn8++[10,120,10]
def xD(u:YN)(k:Nat):Prop:=∃ a n cap,u=.slice (some a) n cap/\a.block=k/\0<n
def By(D:SC)(k:Nat):Prop:=∃ u∈D.us,xD u k
def cI(D:SC)(S:SY)(c:Int):Prop:=D.lost=Zs (c-(S.aq.length:Int))
theorem zpr(c n:Int):Zs (Zs (c-n)+1)=Zs (c+1-n):=by
 unfold Zs;omega
structure nt(n:Nat)(D D':SC):Prop where
 gr:Gr n D D'
 lies:∀ k,By D' k->By D k\/n<=k
theorem nt.refl(n:Nat)(D:SC):nt n D D:=⟨Gr.refl n D,fun _ x=>.inl x⟩
theorem nt.le{D D':SC}(h:nt n D D')(hm:m<=n):nt m D D':=⟨h.gr.le hm,fun k hk=>(h.lies k hk).imp id fun x=>Yq hm x⟩
theorem nt.trans{D D1 D2:SC}(h:nt n D D1)(g:nt m D1 D2)(hm:n<=m):nt n D D2:=by
 refine⟨h.gr.trans g.gr hm,fun k hk=>?_⟩;rcases g.lies k hk with x|x
 ·exact h.lies k x
 ·exact .inr (Yq hm x)
def tU(m:Nat)(w w':YM)(N:Nat)(D:SC)(L:RC)(win:Nat)(S':SY)(c:Int):Prop:=∃ D',D'.p=D.p/\aL w' N D' L win S'/\Mod w w' (Wr D)/\nt m D D'/\cI D' S' c
def aV(w w':YM)(N:Nat)(D:SC)(L:RC)(win:Nat)(S':SY)(c:Int):Prop:=tU w.1.size w w' N D L win S' c
section
variable {w w':YM}{N win:Nat}{D:SC}{L:RC}{S:SY}{c:Int}
theorem aV.go{S':SY}(h:aV w w' N D L win S' c):Dl w w' N D L win S':=by
 obtain⟨D',e,h1,h2,h3,_⟩:=h;exact⟨D',e,h1,h2,h3.gr⟩
theorem aL.Qn(h:aL w N D L win S)(hc:cI D S c):aV w w N D L win S c:=⟨D,rfl,h,Mod.refl _ _,nt.refl _ _,hc⟩
theorem tU.of{S':SY}(h:tU m w w' N D L win S' c)(hB:YO w0.1.size w0 w)(hm:m=w0.1.size):aV w0 w' N D L win S' c:=by
 subst hm;obtain⟨D',e,h1,h2,h3,h4⟩:=h;exact⟨D',e,h1,(Mod.fB hB (Wr D)).then h2 (fun _ _ x=>x),h3,h4⟩
theorem aV.cast{S':SY}(h:aV w w' N D L win S' c)(e:c=c'):aV w w' N D L win S' c':=e▸h
theorem aV.pre{S':SY}(h:aV w w' N D L win S' c)(hB:YO w0.1.size w0 w):aV w0 w' N D L win S' c:=by
 obtain⟨D',e,h1,h2,h3,h4⟩:=h;exact⟨D',e,h1,(Mod.fB hB (Wr D)).then h2 (fun _ _ x=>x),h3.le hB.size,h4⟩
theorem aV.below{w2:YM}{S':SY}(h:aV w w' N D L win S' c)(hB:YO w'.1.size w' w2):aV w w2 N D L win S' c:=by
 obtain⟨D',e,h1,h2,h3,h4⟩:=h;exact⟨D',e,h1.below hB,h2.below hB,h3,h4⟩
theorem aV.then{w2:YM}{S2:SY}{D1:SC}(hp:D1.p=D.p)(hm:Mod w w' (Wr D))(hg:nt w.1.size D D1)(h:aV w' w2 N D1 L win S2 c):aV w w2 N D L win S2 c:=by
 obtain⟨D',e,h1,h2,h3,h4⟩:=h;refine⟨D',e.trans hp,h1,hm.then h2 (fun i hi hw=>?_),hg.trans h3 hm.size,h4⟩;rcases hg.gr.wr i hw with x|x
 ·exact x
 ·omega
theorem aV.stays(h:aV w w' N D L win S c){S0:SY}(h0:aL w N D L win S0){t:Nat}{cs:Array YN}{f:Nat×Nat}(hk:w.1[k]?=some (.cells cs t f))(ht:90≠t/\134≠t/\160≠t/\148≠t/\49≠t):w'.1[k]?=some (.cells cs t f):=h.go.stays h0 hk ht
theorem aL.KV(h:aL w N D L win S){V:VS}{pY:YN}(hm:Mod w w' (VB D.vp D.tv))(hV:bM w' N D.vp win pY V)(hc:cI D S c)(Bq:kz w D.tv pY):aV w w' N D L win ⟨S.rp,V,S.aq⟩ c:=by
 have hT:∀ j,VB D.vp D.tv j->Wr D j:=fun j hj=>.inr (.inr (.inr hj))
 obtain⟨h1,⟨h2,h3⟩,h4,h5,h6⟩:=h.part hm hT;have hw:∀ k,Wr ⟨D.p,D.g0,D.c0,D.rp,D.C,D.vp,pY,D.nv,D.us,D.lost⟩ k->Wr D k\/w.1.size<=k:=fun k hk=>by
  rcases hk with x|x|x|x|x
  ·exact .inl (.inl x)
  ·exact .inl (.inr (.inl x))
  ·exact .inl (.inr (.inr (.inl x)))
  ·exact .inl (eO (.inl x))
  ·rcases Bq k x with y|y
   ·exact .inl (eO (.inr y))
   ·exact .inr y
 refine⟨⟨D.p,D.g0,D.c0,D.rp,D.C,D.vp,pY,D.nv,D.us,D.lost⟩,rfl,⟨h1 fun e=>?_,h2,h3,h.zb,fun k hk=>h4 k hk fun e=>?_,h.ln,h.ne,hV,h6 fun g hg e=>?_,fun x y hx hy e=>?_,fun x hx=>?_,fun y hy=>h.vF y hy⟩,hm.mono fun i _ hi=>hT i hi,⟨⟨hw,fun _ x=>.inl x⟩,fun _ x=>.inl x⟩,hc⟩
 ·rcases e with e|e
  ·exact h.nj.ne h.rH dQ e
  ·exact h.nj.ne (h.rJ e) dQ rfl
 ·rcases e with e|e
  ·exact(h.py hk).ne h.rH dQ e
  ·exact(h.py hk).ne (h.rJ e) dQ rfl
 ·rcases e with e|e
  ·exact(h.tJ hg).ne h.rH dQ e
  ·exact(h.tJ hg).ne (h.rJ e) dQ rfl
 ·rcases hw x hx with z|z
  ·exact h.sep x y z hy e
  ·have:=h.Kv (k:=y) hy;omega
 ·rcases hx with x'|x'|x'|x'|x'
  ·exact h.base x (.inl x')
  ·exact h.base x (.inr (.inl x'))
  ·exact h.base x (.inr (.inr (.inl x')))
  ·exact h.base x (eO (.inl x'))
  ·exact(hV.row.own x').1
theorem aL.Qo(h:aL w N D L win S){l:List Pk}{nv':YN}{us':List YN}{lost':Int}(hm:Mod w w' (NB D))(hb:w'.1[D.p]?=some (.cells (Bd ⟨D.p,D.g0,D.c0,D.rp,D.C,D.vp,D.tv,nv',us',lost'⟩ L) 90 (0,0)))
  (hN:jk w' N nv' l us') (m:Nat) (hmw:m<=w.1.size) (hby:∀ k,(∃ u∈us',xD u k)->By D k\/m<=k) {c:Int} (hc:lost'=Zs (c-(l.length:Int))) (Bq:∀ g,nv'.ownBlock=some g->D.nv.ownBlock=some g\/w.1.size<=g):tU m w w' N D L win ⟨S.rp,S.v,l⟩ c:=by
 have hT:∀ j,NB D j->Wr D j:=fun j hj=>hj.imp id .inl
 obtain⟨_,⟨h2,h3⟩,h4,h5,_⟩:=h.part hm hT;have hw:∀ k,Wr ⟨D.p,D.g0,D.c0,D.rp,D.C,D.vp,D.tv,nv',us',lost'⟩ k->Wr D k\/w.1.size<=k:=fun k hk=>by
  rcases hk with x|x|x|x|x
  ·exact .inl (.inl x)
  ·rcases Bq k x with y|y
   ·exact .inl (.inr (.inl y))
   ·exact .inr y
  ·exact .inl (.inr (.inr (.inl x)))
  ·exact .inl (eO (.inl x))
  ·exact .inl (eO (.inr x))
 refine⟨⟨D.p,D.g0,D.c0,D.rp,D.C,D.vp,D.tv,nv',us',lost'⟩,rfl,⟨hb,h2,h3,h.zb,fun k hk=>h4 k hk fun e=>?_,h.ln,h.ne,h5 fun k hk e=>?_,hN,fun x y hx hy e=>?_,fun x hx=>?_,fun y hy=>h.vF y hy⟩,hm.mono fun i _ hi=>hT i hi,⟨Gr.le ⟨hw,fun _ x=>.inl x⟩ hmw,hby⟩,hc⟩
 ·rcases e with e|e
  ·exact(h.py hk).ne h.nj dQ e
  ·exact(h.py hk).ne (h.tJ e) dQ rfl
 ·rcases e with e|e
  ·rcases hk with hk|hk
   ·exact h.rH.ne h.nj dQ (hk.symm.trans e)
   ·exact(h.rJ hk).ne h.nj dQ e
  ·rcases hk with hk|hk
   ·exact h.rH.ne (h.tJ e) dQ hk.symm
   ·exact(h.rJ hk).ne (h.tJ e) dQ rfl
 ·rcases hw x hx with z|z
  ·exact h.sep x y z hy e
  ·have:=h.Kv (k:=y) hy;omega
 ·rcases hx with x'|x'|x'|x'|x'
  ·exact h.base x (.inl x')
  ·have:=hN.row.2;rcases this with ⟨e,_⟩|⟨g,cap,bA,e,h1,_⟩
   ·have e':nv'=.slice none 0 0:=e;rw[show(⟨D.p,D.g0,D.c0,D.rp,D.C,D.vp,D.tv,nv',us',lost'⟩:SC).nv=nv' from rfl,e']at x';simp[ZF]at x'
   ·rw[show(⟨D.p,D.g0,D.c0,D.rp,D.C,D.vp,D.tv,nv',us',lost'⟩:SC).nv=nv' from rfl,e]at x';simp only[ZF,YA]at x';omega
  ·exact h.base x (.inr (.inr (.inl x')))
  ·exact h.base x (eO (.inl x'))
  ·exact h.base x (eO (.inr x'))
end
section
variable {w w':YM}{N win:Nat}{D:SC}{L:RC}{S:SY}{c:Int}
theorem tU.zps{w2:YM}{S':SY}(h:tU m w w' N D L win S' c)(hB:YO w'.1.size w' w2):tU m w w2 N D L win S' c:=by
 obtain⟨D',e,h1,h2,h3,h4⟩:=h;exact⟨D',e,h1.below hB,h2.below hB,h3,h4⟩
theorem aL.zpt(h:aL w N D L win S)(m:Nat)(hmw:m<=w.1.size)(x c:Int)(hx:x=Zs (c-(S.aq.length:Int))):tU m w (w.setCell (aQ D.p 8) (iQ x)) N D L win S c:=by
 have hm:Mod w (w.setCell (aQ D.p 8) (iQ x)) (NB D):=(Mod.refl w _).set _ _ (fun _=>.inl rfl);have cG:Mod w (w.setCell (aQ D.p 8) (iQ x)) (· = D.p):=(Mod.refl w _).set _ _ (fun _=>rfl);exact h.Qo (m:=m) (hmw:=hmw) (lost':=x) hm ((fZ h.blk 8 _).trans rfl) (h.aq.mod cG (fun g hg=>h.G2 g hg) (fun k hk hb=>by subst hk;exact h.PH (.inl rfl) hb)) (hby:=fun _ hk=>.inl hk) (hc:=hx) (fun _ hg=>.inl hg)
end
theorem zbv(N:Nat)(D:SC)(L:RC)(win:Nat)(S:SY)(w:YM)(q:Pk)(u:YN)(h:aL w N D L win S)(hu:jL w u q.b)(hN:N<=w.1.size)(bn:S.aq.length<=120)(m:Nat)(hmw:m<=w.1.size)(Bj:∀ k,xD u k->By D k\/m<=k)(c:Int)(hc:cI D S c):
    YR prog 77 #[pQ D.p, .agg #[iQ (q.src : Int), iQ (q.dst : Int), u]] w fun e w' => e = .returned (.tuple #[]) ∧ tU m w w' N D L win ⟨S.rp, S.v, ji q S.aq⟩ (c + 1) := by
  obtain ⟨W, hW⟩ : ∃ W, Hid (w.alloc (.cells #[iQ (q.src : Int), iQ (q.dst : Int), u] 134) = W) := eQ
  have dI : YO w.1.size w W := by rw [← hW.o]; exact (YS _ _).alloc lQ _
  have aJ : W.1[w.1.size]? = some (.cells #[iQ (q.src : Int), iQ (q.dst : Int), u] 134 (0, 0)) := by rw [← hW.o]; exact aU _ _
  have hS := h.below dI
  have uG := hu.below dI
  obtain ⟨a, cap, fo⟩ := h.aq.shape
  have HUE : Hid (u.oneCell' = true) := by obtain ⟨_, ua, uc, e, _⟩ := hu; rw [Hid, e]; rfl
  have c7 : w.cell? (aQ D.p 7) = some (.slice a S.aq.length cap) := (h.at 7).trans (by show some D.nv = _; rw [fo])
  have c8 : w.cell? (aQ D.p 8) = some (iQ D.lost) := (h.at 8).trans rfl
  have f8 := h.free 8
  have bJ := h.lt
  by_cases Qp : 120 ≤ S.aq.length
  · have dX : (120 : Int) ≤ (S.aq.length : Int) := oQ
    have HG : Hid (∀ o, tU m w ((w.setCell (aQ D.p 8) (iQ (Zs (D.lost + 1)))).alloc o) N D L win ⟨S.rp, S.v, ji q S.aq⟩ (c + 1)) := ae fun o => by
      rw [show ji q S.aq = S.aq from YH Qp]
      exact (h.zpt m hmw _ _ (by rw [show D.lost = _ from hc]; exact zpr _ _)).zps ((YS _ _).alloc lQ _)
    clear h hu aJ hS uG dI fo hW
    go_enter func77, ntmps77
    go_wp2
    exact Zm (zun rfl _ _ _) rfl ⟨rfl, HG.o _⟩
  · have aj : ¬ (120 : Int) ≤ (S.aq.length : Int) := oQ
    have x0 : W.cell? (aQ w.1.size 0) = some (iQ (q.src : Int)) := (ay aJ 0).trans rfl
    have x1 : W.cell? (aQ w.1.size 1) = some (iQ (q.dst : Int)) := (ay aJ 1).trans rfl
    have x2 : W.cell? (aQ w.1.size 2) = some u := (ay aJ 2).trans rfl
    obtain ⟨i0, hi, cQ, bf, bK⟩ := info_parts zaK
    have HI := ae hi
    have fN := ae cQ
    have gP := ae bf
    have gQ := ae bK
    have yS : some D.p ≠ (zuS a S.aq.length cap).ownBlock := fun e => hS.G2 D.p (by rw [fo]; exact e.symm) rfl
    have jQ : w.1.size < W.1.size := bp aJ
    have zbw := hS.lt
    have d7 : W.cell? (aQ D.p 7) = some (.slice a S.aq.length cap) := (hS.at 7).trans (by show some D.nv = _; rw [fo])
    have Ku : Hid ((W.alloc (.cells #[iQ (q.src : Int), iQ (q.dst : Int), u] 134)).drew.frozen? (aQ D.p 7) = false) := ae ((World.frozen?_of_block (w := W) (Za _ _ _ zbw)).trans (hS.free 7))
    have Dj : Hid ((W.alloc (.cells #[iQ (q.src : Int), iQ (q.dst : Int), u] 134)).drew.cell? (aQ D.p 7) = some (.slice a S.aq.length cap)) := ae ((Ze (w := W) (Za _ _ _ zbw)).trans d7)
    have zpu := ae hS.aq
    have HS := ae hS
    have HU := ae uG
    have HB := ae dI
    obtain ⟨n, vE⟩ : ∃ n, Hid (S.aq.length = n) := eQ
    rw [vE.o] at bn Qp aj c7 yS Dj fo d7
    have iO := ae fo
    have xc : Hid (n + 1 ≤ maxLen) := by rw [Hid]; unfold maxLen; omega
    have xd : Hid ((n + 1) * 40 ≤ 140737488355328) := by rw [Hid]; omega
    have A1 : Hid (N ≤ (W.alloc (.cells #[iQ (q.src : Int), iQ (q.dst : Int), u] 134)).drew.1.size) := by rw [Hid]; simp; omega
    have th : Hid (W.ownsRow N 134 3 (.slice a n cap) n (fT S.aq D.us)) := by
      have := zpu.o.row
      rw [fo, vE.o] at this
      exact this
    have zpv : Hid (∀ v ∈ lV q u, v.oneCell' = true) := by
      rw [Hid]
      intro v hv
      simp [lV] at hv
      rcases hv with rfl | rfl | rfl
      · rfl
      · rfl
      · exact HUE.o
    have zpw : Hid (ji q S.aq = S.aq ++ [q]) := by rw [Hid]; exact YG (by rw [vE.o]; exact Qp)
    have yx : Hid (∀ (o : Obj) (w3 : YM) (g eu : Nat), w3.ownsRow N 134 3 (.slice (some (aQ g 0)) (n + 1) eu) (n + 1) (fT S.aq D.us ++ lV q u) → (W.alloc o).drew.grownBy w3 (zuS a n cap).ownBlock → ((zuS a n cap).ownBlock = some g ∨ w.1.size ≤ g) →
        tU m w (w3.setCell (aQ D.p 7) (.slice (some (aQ g 0)) (n + 1) eu)) N D L win ⟨S.rp, S.v, S.aq ++ [q]⟩ (c + 1)) := ae fun o w3 g eu ho xN eM => by
      have Qq : YO W.1.size W (W.alloc o).drew := ((YS _ _).alloc lQ _).drew
      have KX := HS.o.below Qq
      have Qr : D.nv = .slice a n cap := iO.o
      have hmg : Mod (W.alloc o).drew w3 (fun k => D.nv.ownBlock = some k) := by rw [Qr]; exact (Mod.refl _ _).grown xN (fun k _ e => e)
      have hN3 : jk w3 N (.slice (some (aQ g 0)) (n + 1) eu) (S.aq ++ [q]) (D.us ++ [u]) := by
        have cP := vE.o
        subst cP
        exact KX.aq.grown (HU.o.below Qq) ho (by rw [Qr]; exact xN)
      have gl : w3.1[D.p]? = some (.cells (Bd D L) 90 (0, 0)) := (hmg.block _ KX.lt (fun e => KX.G2 _ e rfl)).trans KX.blk
      have im : ∃ bA, w3.1[g]? = some (.cells bA 134 (0, 0)) := hN3.own rfl
      have jS : Mod w3 (w3.setCell (aQ D.p 7) (.slice (some (aQ g 0)) (n + 1) eu)) (· = D.p) := (Mod.refl _ _).set _ _ (fun _ => rfl)
      have Qs : jk (w3.setCell (aQ D.p 7) (.slice (some (aQ g 0)) (n + 1) eu)) N (.slice (some (aQ g 0)) (n + 1) eu) (S.aq ++ [q]) (D.us ++ [u]) := by
        refine hN3.mod jS (fun x hx e => ?_) (fun k hk hb => ?_)
        · obtain ⟨bA, hc⟩ := im
          have : g = x := by simpa [ZF] using hx
          subst this
          exact km.ne ⟨_, _, hc⟩ ⟨_, _, gl⟩ dQ e
        · subst hk
          exact km.ne ⟨_, _, gl⟩ hb dQ rfl
      refine h.Qo (m := m) (hmw := hmw) (nv' := .slice (some (aQ g 0)) (n + 1) eu) (us' := D.us ++ [u]) (lost' := D.lost) ?_ ((fZ gl 7 _).trans rfl) Qs (hby := fun k hk => ?_) (hc := ?_) (fun x hx => ?_)
      · have m1 : Mod w (W.alloc o).drew (NB D) := (Mod.fB HB.o _).below Qq
        have m2 : Mod w w3 (NB D) := m1.then hmg (fun i _ e => .inr e)
        exact m2.set _ _ (fun _ => .inl rfl)
      · obtain ⟨u', uG, dM⟩ := hk
        rcases zsl.1 uG with x | x
        · exact .inl ⟨u', x, dM⟩
        · rw [zsm.1 x] at dM; exact Bj k dM
      · rw [show D.lost = _ from hc, Yf]
        congr 1
        simp
        omega
      · have e : g = x := by simpa [ZF] using hx
        rw [Qr, ← e]; exact eM
    clear h hu aJ hS uG dI hi cQ bf bK fo d7 f8 c8
    go_enter func77, ntmps77
    go_wp2_with fail
    rw [show w.alloc (.cells #[iQ (q.src : Int), iQ (q.dst : Int), u] 134) = W from hW.o]
    have d7 : W.cell? (aQ D.p 7) = some (.slice a n cap) := by rw [← hW.o]; exact (Ze (w := w) (Za _ _ _ bJ)).trans c7
    clear c7 hW
    go_region_law
      ((refine step_append_lies _ rQ _ _ _ rQ N 134 i0 _ 3 40 underlying88 HI.o fN.o gP.o gQ.o rfl oQ (.slice a n cap) n (fT S.aq D.us) rQ ((th.o.alloc _).drew)
          (aQ W.1.size 0) 1 1 (lV q u) rQ rQ (World.news_of_block (cs := #[iQ (q.src : Int), iQ (q.dst : Int), u]) (t := 134) (fr := (0, 0)) (heap_alloc_new W _)) zpv.o
          oQ xc.o xd.o A1.o (W.1.size + 1) sQ ?_; intro g eu w3 PB bL eM zrS; have fz : w3.frozen? (aQ D.p 7) = false := (bL.frozen_far (aQ D.p 7) tQ yS).trans Ku.out; have cz : w3.cell? (aQ D.p 7) = some (.slice a n cap) := (bL.cell_far (aQ D.p 7) tQ yS).trans Dj.out))
    all_goals
      go_wp2_with fail
      go_end0
      rw [zpw.o]
      exact ⟨rfl, yx.o _ w3 g eu PB bL (eM.imp id (fun e => oQ))⟩
def jw(src:Nat):Nat->Int
 | 0=>0
 |k+1=>if k=src then jw src k else jw src k+1
theorem zpx(F:FR)(w:YM):
  YR prog 39 #[.agg (ak F)] w fun e w'=>(∃ v ev,e=.returned (.tuple #[v,ev])/\jL w' v (fF F)/\∀ k,xD v k->w.1.size<=k)/\YO w.1.size w w':=by
 cases hm:gy F
 ·refine(Xs F w hm).mono ?_;rintro e w1 ⟨rfl,hB⟩;refine⟨⟨_,_,rfl,?_,fun k hk=>?_⟩,hB⟩
  ·unfold fF;rw[hm,YG dQ];exact zna _ _ _
  ·obtain⟨a,n,cap,e,_⟩:=hk;simp at e
 ·refine(Xt F w hm).mono ?_;rintro e w1 ⟨⟨v,rfl,hv⟩,hB⟩;refine⟨⟨_,_,rfl,?_,fun k hk=>?_⟩,hB⟩
  ·unfold fF;rw[hm,YH rfl];exact zm9 (OU (JR _)) hv
  ·obtain⟨a,n,cap,e,rfl,_⟩:=hk;rcases hv.2 with ⟨e',_⟩|⟨g,eu,bA,e',h1,_⟩
   ·rw[e]at e';simp at e'
   ·rw[e]at e';simp only[ztd,YA]at e';rw[e'.1];exact h1
theorem zbx(N:Nat)(D:SC)(L:RC)(win:Nat)(S:SY)(w:YM)(i:Nat)(h:aL w N D L win S)(hi:i<S.aq.length)(bn:S.aq.length<=120)(c:Int)(hc:cI D S c):
  YR prog 76 #[pQ D.p,iQ (i:Int)] w fun e w'=>e=.returned (.tuple #[])/\aV w w' N D L win (ju i S) (c-1):=by
 obtain⟨g,cap,fo⟩:=h.PI oQ;have zcc:=znf N g cap S.aq D.us i w (by have:=h.aq;rw[fo]at this;exact this) hi bn;have c7:w.cell? (aQ D.p 7)=some (.slice (some (aQ g 0)) S.aq.length cap):=(h.at 7).trans (by show some D.nv=_;rw[fo]);have Qt:g≠D.p:=h.G2 g (by rw[fo];rfl);have pC:IntKind.i64.wrap ((i:Int)+1)=(i:Int)+1:=by rw[IntKind.wrap_i64];omega
 have iT:YR prog 128 #[.slice (some (aQ g 0)) S.aq.length cap,iQ (i:Int),iQ ((i:Int)+1)] w fun e w1=>
   e=.returned (.slice (some (aQ g 0)) (S.aq.length-1) cap)/\(w1.cell? (aQ D.p 7)=some (.slice (some (aQ g 0)) S.aq.length cap)/\w1.frozen? (aQ D.p 7)=false)/\Hid (aV w (w1.setCell (aQ D.p 7) (.slice (some (aQ g 0)) (S.aq.length-1) cap)) N D L win (ju i S) (c-1)):=by
  refine zcc.mono ?_;rintro e w1 ⟨rfl,Gj,cG⟩;have aX:w1.1[D.p]?=some (.cells (Bd D L) 90 (0,0)):=(cG.block _ h.lt (fun e=>Qt e.symm)).trans h.blk;refine⟨rfl,⟨(Ze (w:=w) (cG.block _ h.lt (fun e=>Qt e.symm))).trans c7,fL aX 7⟩,ae ?_⟩;have eY:∃ bA,w1.1[g]?=some (.cells bA 134 (0,0)):=Gj.own rfl;have jS:Mod w1 (w1.setCell (aQ D.p 7) (.slice (some (aQ g 0)) (S.aq.length-1) cap)) (· = D.p):=(Mod.refl _ _).set _ _ (fun _=>rfl);have Qs:jk (w1.setCell (aQ D.p 7) (.slice (some (aQ g 0)) (S.aq.length-1) cap)) N (.slice (some (aQ g 0)) (S.aq.length-1) cap) (S.aq.eraseIdx i) (D.us.eraseIdx i):=by
   refine Gj.mod jS (fun x hx e=>?_) (fun k hk hb=>?_)
   ·have:g=x:=by simpa[ZF]using hx
    exact Qt (this.trans e)
   ·subst hk;exact km.ne ⟨_,_,aX⟩ hb dQ rfl
  refine h.Qo (m:=w.1.size) (hmw:=Yp _) (nv':=.slice (some (aQ g 0)) (S.aq.length-1) cap) (us':=D.us.eraseIdx i) (lost':=D.lost) ?_ ((fZ aX 7 _).trans rfl) Qs (hby:=fun k hk=>?_) (hc:=?_) (fun x hx=>?_)
  ·have m2:Mod w w1 (NB D):=cG.mono fun k _ e=>.inr (by rw[fo,e];rfl)
   exact m2.set _ _ (fun _=>.inl rfl)
  ·obtain⟨u',uG,dM⟩:=hk;exact .inl ⟨u',List.mem_of_mem_eraseIdx uG,dM⟩
  ·rw[show D.lost=_ from hc,List.length_eraseIdx_of_lt hi];congr 1
   omega
  ·left;rw[fo];exact hx
 have HC:=ae iT;have bJ:=h.lt;clear iT zcc h;go_enter func76,ntmps76;go_wp2_with (go_at_call 128;refine HC.o.mono ?_;rintro e w1 ⟨rfl,⟨z0,z1⟩,HM⟩)
 go_end0
 exact⟨rfl,HM.o⟩
theorem KY(N:Nat)(D:SC)(L:RC)(win:Nat)(S:SY)(w:YM)(F:FR)(src dst:Nat)(h:aL w N D L win S)(hF:F 1=(src:Int))(hN:N<=w.1.size)(bn:S.aq.length<=120)(c:Int)(hc:cI D S c):
  YR prog 88 #[pQ D.p,.agg (ak F),iQ (dst:Int)] w fun e w'=>e=.returned (.tuple #[])/\aV w w' N D L win ⟨S.rp,S.v,vC src F dst S.aq⟩ (c+1):=by
 have aC:YO w.1.size w (w.alloc (.cells (ak F) 36)):=(YS _ _).alloc lQ _;have aJ:aM (w.alloc (.cells (ak F) 36)) w.1.size 36 F:=aU _ _;have iT:YR prog 39 #[.agg (ak F)] (w.alloc (.cells (ak F) 36)) fun e w1=>
   ∃ va vn vc ev,e=.returned (.tuple #[.slice va vn vc,ev])/\w1.cell? (aQ w.1.size 1)=some (iQ (src:Int))/\
    Hid (YR prog 77 #[pQ D.p,.agg #[iQ (src:Int),iQ (dst:Int),.slice va vn vc]] w1 fun e w'=>e=.returned (.tuple #[])/\aV w w' N D L win ⟨S.rp,S.v,vC src F dst S.aq⟩ (c+1)):=by
  refine(zpx F _).mono ?_;rintro e w1 ⟨⟨v,ev,rfl,hv,az⟩,aG⟩;have cH:=aJ.below sQ aG;have iz:YO w.1.size w w1:=aC.trans (aG.mono sQ);obtain⟨va,vc,Hi⟩:∃ va vc,v=.slice va (fF F).length vc:=by obtain⟨_,a,c,e,_⟩:=hv;exact⟨a,c,e⟩
  subst Hi;refine⟨va,_,vc,ev,rfl,by rw[cH.at oQ,hF],ae ?_⟩;refine(zbv N D L win S w1 ⟨src,dst,fF F⟩ _ (h.below iz) hv (Yq hN iz.size) bn w.1.size iz.size (fun k hk=>.inr (Yq sQ (az k hk))) c hc).mono ?_;rintro e w2 ⟨rfl,hg⟩;exact⟨rfl,hg.of iz rfl⟩
 have HC:=ae iT;have fR:=ae aJ;clear iT aJ aC h hF;go_enter func88,ntmps88;go_wp2_with (refine fM rfl _ rfl w.1.size rfl F fR.o ?_)
 refine HC.o.mono ?_;rintro e w1 ⟨va,vn,vc,ev,rfl,z1,HP⟩;clear HC fR;go_wp2_with fail
 refine HP.o.mono ?_;rintro e w2 ⟨rfl,hg⟩;go_wp2
 go_end0
 exact⟨rfl,hg⟩
theorem Qu(N:Nat)(D:SC)(L:RC)(win:Nat)(S:SY)(w:YM)(F:FR)(src:Nat)(h:aL w N D L win S)(hF:F 1=(src:Int))(hN:N<=w.1.size)(bn:S.aq.length<=120)(c:Int)(hc:cI D S c):
  YR prog 72 #[pQ D.p,.agg (ak F)] w fun e w'=>e=.returned (.tuple #[])/\aV w w' N D L win ⟨S.rp,S.v,iR src F S.aq 3⟩ (c+jw src 3):=by
 obtain⟨W0,l7⟩:∃ W,Hid (w.alloc (.cells (ak F) 36)=W):=eQ;have aC:YO w.1.size w W0:=by rw[<-l7.o];exact(YS _ _).alloc lQ _
 have aJ:aM W0 w.1.size 36 F:=by rw[<-l7.o];exact aU _ _
 have Ln:W0.1.size=w.1.size+1:=by rw[<-l7.o];simp
 have z1:(w.alloc (.cells (ak F) 36)).cell? (aQ w.1.size 1)=some (iQ (src:Int)):=by rw[l7.o,aJ.at oQ,hF]
 have Kk:=zng (src:Int) W0;have HI:=ae Kk;have HZ:=ae z1;have H:=ae h;have fV:=ae hc;have iE:=ae aC;have fR:=ae aJ;clear h aC aJ Kk;go_enter func72,ntmps72;go_wp2_with fail
 rw[show w.alloc (.cells (ak F) 36)=W0 from l7.o];refine HI.o.mono ?_;rintro e W1 ⟨rfl,Ri⟩;rw[Ln];have aG:YO W0.1.size W0 W1:=by rw[Ri];exact(YS _ _).alloc lQ _
 have fw:W1.1[w.1.size+1]?=some (.cells #[iQ (src:Int)] 3 (0,0)):=by rw[Ri,<-Ln];exact aU _ _
 have iz:YO w.1.size w W1:=iE.o.trans (aG.mono oQ);have cZ:Hid (aV w W1 N D L win ⟨S.rp,S.v,iR src F S.aq 0⟩ (c+jw src 0)/\aM W1 w.1.size 36 F/\W1.1[w.1.size+1]?=some (.cells #[iQ (src:Int)] 3 (0,0))):=
  ae ⟨(H.o.Qn fV.o).below iz |>.cast (by simp[jw]),fR.o.below oQ aG,fw⟩
 clear Ri aG fw iz HI HZ z1 fR iE l7;go_wp2_with fail
 go_loopw [9] (fun j wr=>∃ k:Nat,k<=3/\j=iQ k/\aV w wr N D L win ⟨S.rp,S.v,iR src F S.aq k⟩ (c+jw src k)/\aM wr w.1.size 36 F/\wr.1[w.1.size+1]?=some (.cells #[iQ (src:Int)] 3 (0,0))) (fun j _=>3-(intOf j).toNat)
 case atStart=>exact⟨0,oQ,rfl,cZ.o⟩
 case round=>
  obtain⟨k,hk,rfl,bO,az,rf⟩:=hrel;clear cZ;by_cases iq:k<3
  ·have dB:(k:Int)<3:=oQ;have cB:=znh (k:Int) (src:Int) (w.1.size+1) wr ((ay rf 0).trans rfl);have kY:=ae cB;obtain⟨D1,fJ,cm,cG,eY,gG⟩:=bO;have bm:=cG.size;by_cases jn:k=src
   ·have e1:((k:Int) !=(src:Int))=false:=tQ;rw[e1]at kY;have HR:Hid (aV w wr N D L win ⟨S.rp,S.v,iR src F S.aq (k+1)⟩ (c+jw src (k+1))/\aM wr w.1.size 36 F/\wr.1[w.1.size+1]?=some (.cells #[iQ (src:Int)] 3 (0,0))):=ae ⟨by rw[show iR src F S.aq (k+1)=iR src F S.aq k from YH jn,show jw src (k+1)=jw src k from YH jn];exact⟨D1,fJ,cm,cG,eY,gG⟩,az,rf⟩;clear cm cG eY gG az rf cB jn e1;go_wp2_with fail
    refine kY.o.mono ?_;rintro e wz ⟨rfl,rfl⟩;go_wp2
    go_roundw
    case rel=>exact⟨k+1,oQ,by go_num,HR.o⟩
    case measure=>simp[intOf];omega
   ·have e1:((k:Int) !=(src:Int))=true:=tQ;rw[e1]at kY;have Qv:=KY N D1 L win ⟨S.rp,S.v,iR src F S.aq k⟩ wr F src k cm hF (Yq hN bm) (G3 bn k) _ gG;rw[fJ]at Qv;have HSN:Hid (YR prog 88 #[pQ D.p,.agg (ak F),iQ (k:Int)] wr fun e w'=>e=.returned (.tuple #[])/\Hid (aV w w' N D L win ⟨S.rp,S.v,iR src F S.aq (k+1)⟩ (c+jw src (k+1))/\aM w' w.1.size 36 F/\w'.1[w.1.size+1]?=some (.cells #[iQ (src:Int)] 3 (0,0)))):=ae (by
     refine Qv.mono ?_;rintro e w2 ⟨rfl,cY⟩;refine⟨rfl,ae ⟨?_,cY.stays cm az dQ,cY.stays cm rf dQ⟩⟩;have e2:iR src F S.aq (k+1)=vC src F k (iR src F S.aq k):=YG jn;rw[e2];exact(aV.then fJ cG eY cY).cast (by rw[show jw src (k+1)=jw src k+1 from YG jn];omega))
    have dJ:=ae az;clear cm cG eY gG az rf cB jn e1 Qv;go_wp2_with fail
    refine kY.o.mono ?_;rintro e wz ⟨rfl,rfl⟩;go_wp2_with (refine fM rfl _ rfl w.1.size rfl F dJ.o ?_)
    refine HSN.o.mono ?_;rintro e w2 ⟨rfl,HR⟩;go_wp2
    go_roundw
    case rel=>exact⟨k+1,oQ,by go_num,HR.o⟩
    case measure=>simp[intOf];omega
  ·have e3:k=3:=oQ;subst e3;have HG:=ae bO;clear bO az rf;go_wp2
   go_end0
   exact⟨rfl,HG.o⟩
def zm(L:RC)(k:Nat)(S:SY):Int:=if lU (ij L (S.rp k))then jw k 3+1 else jw k 3
theorem zby(N:Nat)(D:SC)(L:RC)(win:Nat)(S:SY)(w:YM)(k:Nat)(hk:k<3)(h:aL w N D L win S)(av:GQ (S.rp k))(hid:(S.rp k).id=k)(hN:N<=w.1.size)(bn:S.aq.length<=120)(c:Int)(hc:cI D S c):
  YR prog 46 #[pQ D.p,iQ (k:Int)] w fun e w'=>e=.returned (.tuple #[])/\aV w w' N D L win (qi L k S) (c+zm L k S):=by
 have ry:=h.ln k hk;have iT:=zlR (D.rp k) (D.C k) (S.rp k) w (h.rp k hk) av;rw[ry.tick,ry.second]at iT;have cr:=h.Dp hk;have dB:(k:Int)<3:=oQ;have bJ:=h.lt;have HC:=ae iT;have H:=ae h;obtain⟨R1,ig⟩:∃ R,Hid (ij L (S.rp k)=R):=eQ;have wY:R1.id=k:=by rw[<-ig.o];exact hid
 have HTC:Hid (zm L k S=if lU R1 then jw k 3+1 else jw k 3):=by rw[Hid];unfold zm;rw[ig.o]
 have oZ:Hid (qi L k S=⟨upd S.rp k R1,S.v,yQ L k R1 S.aq⟩):=by rw[Hid];unfold qi;rw[ig.o]
 rw[ig.o]at HC;clear iT h ig av;go_enter func46,ntmps46;go_wp2_with fail
 refine HC.o.mono ?_;rintro e w1 ⟨rfl,hR,hm⟩;obtain⟨cm,wW⟩:=H.o.uZ hk hm hR;have nd:=ae cm;have oW:=ae wW;have q1:aM ((w1.alloc (.cells (ak aD) 36)).alloc (.cells (ak aD) 36)) w1.1.size 36 aD:=(Za _ _ _ sQ).trans (aU _ _);have q2:aM ((w1.alloc (.cells (ak aD) 36)).alloc (.cells (ak aD) 36)) (w1.1.size+1) 36 aD:=by
  have:=aU (w1.alloc (.cells (ak aD) 36)) (.cells (ak aD) 36);rwa [show(w1.alloc (.cells (ak aD) 36)).1.size=w1.1.size+1 by simp]at this
 have tW:=ae q1;have HQ2:=ae q2;clear q1 q2 cm wW hR hm HC;go_wp2_with (refine jb rfl _ _ rfl w1.1.size (ng R1) rfl rfl aD tW.o ?_)
 intro w2 tC;have HQ3:Hid (aM w2 (w1.1.size+1) 36 aD):=ae ((tC.o.2.1 _ oQ).trans HQ2.o);go_wp2_with (refine jb rfl _ _ rfl (w1.1.size+1) (iF L R1) rfl rfl aD HQ3.o ?_)
 intro w3 lN;have HA:Hid (aM w3 w1.1.size 36 (ng R1)):=ae ((lN.o.2.1 _ oQ).trans tC.o.1);have HB:Hid (aM w3 (w1.1.size+1) 36 (iF L R1)):=ae lN.o.1;have aZ:YO w1.1.size w1 w3:=(((YS _ _).alloc lQ _).alloc sQ _).trans ((tC.o.2.2 _ lQ).trans (lN.o.2.2 _ oQ));have DI:=nd.o.below aZ;have kA:Mod w w3 (Wr D):=oW.o.below aZ;have hso:=Qu N D L win ⟨upd S.rp k R1,S.v,S.aq⟩ w3 (ng R1) k DI (by rw[zni,wY]) (Yq hN kA.size) bn c hc;have HSO:Hid (YR prog 72 #[pQ D.p,.agg (ak (ng R1))] w3 fun e w'=>e=.returned (.tuple #[])/\Hid (aV w w' N D L win ⟨upd S.rp k R1,S.v,iR k (ng R1) S.aq 3⟩ (c+jw k 3)/\aM w' (w1.1.size+1) 36 (iF L R1))):=ae (by
  refine hso.mono ?_;rintro e w4 ⟨rfl,hg⟩;exact⟨rfl,ae ⟨aV.then rfl kA (nt.refl _ _) hg,hg.stays DI HB.o dQ⟩⟩)
 clear hso DI kA aZ HB lN tC HQ3 HQ2 tW nd oW H;go_wp2_with (refine fM rfl _ rfl w1.1.size rfl (ng R1) HA.o ?_)
 refine HSO.o.mono ?_;rintro e w4 ⟨rfl,Hj⟩;clear HSO HA;cases hs:lU R1
 ·have HE:Hid (yQ L k R1 S.aq=iR k (ng R1) S.aq 3):=by rw[Hid];unfold yQ;rw[hs];rfl
  go_wp2
  go_end0
  rw[oZ.o,HE.o,HTC.o,hs];exact⟨rfl,Hj.o.1⟩
 ·have HE:Hid (yQ L k R1 S.aq=vC k (iF L R1) 3 (iR k (ng R1) S.aq 3)):=by rw[Hid];unfold yQ;rw[hs];rfl
  obtain⟨⟨D4,Ky,sY,jS,BJ,AK⟩,hf4⟩:=Hj.o;have hF1:iF L R1 1=(k:Int):=by
   have:=hs;unfold lU at this;unfold iF;split
   ·show(R1.id:Int)=_;rw[wY]
   ·rename_i hv;split
    ·show(R1.id:Int)=_;rw[wY]
    ·rename_i ht;rw[zr5]at this;rcases this with x|x
     ·exact absurd x hv
     ·exact absurd (YK x) ht
  have od:=KY N D4 L win _ w4 (iF L R1) k 3 sY hF1 (Yq hN jS.size) (G3 bn 3) _ AK;rw[Ky]at od;have Br:Hid (YR prog 88 #[pQ D.p,.agg (ak (iF L R1)),iQ 3] w4 fun e w'=>e=.returned (.tuple #[])/\aV w w' N D L win ⟨upd S.rp k R1,S.v,yQ L k R1 S.aq⟩ (c+(jw k 3+1))):=ae (by
   rw[HE.o];refine od.mono ?_;rintro e w5 ⟨rfl,hg⟩;exact⟨rfl,(aV.then Ky jS BJ hg).cast oQ⟩)
  have ni:=ae hf4;clear od sY jS BJ AK hf4 Hj HE;go_wp2_with (refine fM rfl _ rfl (w1.1.size+1) rfl (iF L R1) ni.o ?_)
  refine Br.o.mono ?_;rintro e w5 ⟨rfl,Qw⟩;go_wp2
  go_end0
  rw[oZ.o,HTC.o,hs];exact⟨rfl,Qw⟩
def qm(al:Bool)(n:Nat):Int:=(if al then jw 3 3 else 1)*(n:Int)
theorem zbz(al:Bool)(n:Nat):qm al (n+1)=qm al n+if al then jw 3 3 else 1:=by
 unfold qm;rw[Int.natCast_add,Int.mul_add];simp
def Hk(win:Nat)(S:SY)(F:FR):Int:=qm (cC win S.v F).2.2 (cC win S.v F).2.1.length
theorem zpy(N:Nat)(D:SC)(L:RC)(win:Nat)(S:SY)(w:YM)(F:FR)(src:Nat)(h:aL w N D L win S)(hF:F 1=(src:Int))(av:dS win S.v)(hN:N<=w.1.size)(bn:S.aq.length<=120)(c:Int)(hc:cI D S c):
  YR prog 126 #[pQ D.p,.agg (ak F)] w fun e w'=>e=.returned (.tuple #[])/\aV w w' N D L win ⟨S.rp,(cC win S.v F).1,pn win src S F⟩ (c+Hk win S F):=by
 obtain⟨W,hW⟩:∃ W,Hid (w.alloc (.cells (ak F) 36)=W):=eQ;have aC:YO w.1.size w W:=by rw[<-hW.o];exact(YS _ _).alloc lQ _
 have aJ:aM W w.1.size 36 F:=by rw[<-hW.o];exact aU _ _
 have hSW:=h.below aC;have eB:=hSW.drew;have jq:aM W.drew w.1.size 36 F:=aJ;have az:=znj win S.v F;have Rj:=znk win S.v F;obtain⟨T,hT⟩:∃ T,Hid (cC win S.v F=T):=eQ;rw[hT.o]at az Rj;obtain⟨V1,Fs,al⟩:=T;have Rj:Fs.length<=2:=Rj;have oZ:Hid (pn win src S F=nk al src Fs S.aq):=by rw[Hid];unfold pn nk;rw[hT.o]
 have HVC:Hid (Hk win S F=qm al Fs.length):=by rw[Hid];unfold Hk;rw[hT.o]
 have HV:Hid ((cC win S.v F).1=V1):=by rw[Hid,hT.o]
 have cA:Hid (∀ wx,aL wx N D L win S->aM wx w.1.size 36 F->wx.cell? (aQ D.p 6)=some (pQ D.vp)/\aM wx w.1.size 36 F):=ae fun wx hx hf=>⟨(hx.at 6).trans rfl,hf⟩
 have iT:YR prog 173 #[pQ D.vp,.agg (ak F)] W.drew fun e w1=>∃ va vn vc,e=.returned (.tuple #[.slice va vn vc,.bool al])/\vn=Fs.length/\(w1.cell? (aQ D.p 6)=some (pQ D.vp)/\aM w1 w.1.size 36 F)/\Hid (aV w w1 N D L win ⟨S.rp,V1,S.aq⟩ c/\ep w1 36 (.slice va vn vc) Fs):=by
  refine(zm8 N D.vp win D.tv S.v W.drew F eB.vt av (Yq hN aC.size)).mono ?_;rw[hT.o];rintro e w1 ⟨v,pY,rfl,hr,hV,Bq,hm⟩;have bO:=eB.KV hm hV hc Bq;obtain⟨va,vc,Hi⟩:=hr.shape;subst Hi;refine⟨va,_,vc,rfl,rfl,⟨?_,bO.stays eB jq dQ⟩,ae ⟨?_,hr⟩⟩
  ·have:w1.1[D.p]?=W.drew.1[D.p]?:=hm.block D.p eB.lt (fun e=>by
    rcases e with e|e
    ·exact eB.nj.ne eB.rH dQ e
    ·exact eB.nj.ne (eB.rJ e) dQ rfl)
   rw[Ze (w:=W.drew) this];exact(eB.at 6).trans rfl
  ·exact(bO.pre ((YS _ _).drew)).pre aC
 have HC:=ae iT;have zn:Hid (W.drew.cell? (aQ D.p 6)=some (pQ D.vp)/\aM W.drew w.1.size 36 F):=ae (bE cA _ eB jq);clear iT eB jq hSW aJ aC h hT av cA;go_enter func126,ntmps126;go_wp2_with fail
 rw[show w.alloc (.cells (ak F) 36)=W from hW.o];clear hW;refine Zh (S:=fun w'=>w'.cell? (aQ D.p 6)=some (pQ D.vp)/\aM w' w.1.size 36 F) kQ zn.o (fun af=>?_);refine ai 0 (pQ D.p) af ?_;refine ai 1 (pQ D.p) af ?_;refine ai 2 (.pointer (some (aQ D.p 6))) af ?_;refine ai 3 (pQ D.vp) af ?_ (hy:=Or.inl ⟨rQ,fun w h=>by obtain⟨h1,_⟩:=h;go_simp⟩);refine ai 4 (.agg (ak F)) af ?_ (hy:=C3 rQ _ rfl w.1.size rfl F (fun w h=>h.2));refine aR 5 fun K hK=>?_
 go_simp;go_at_call 173;refine HC.o.mono ?_;rintro e w1 ⟨va,vn,vc,rfl,hvn,cm,DJ⟩;have zrT:vn<=2:=oQ;have DK:=ae hvn;clear hvn;dsimp only;refine hK.o _ _ cm (fun af=>?_);clear hK K;refine ai 6 (.tuple #[.slice va vn vc,.bool al]) af ?_;refine ai 7 (.slice va vn vc) af ?_;refine ai 8 (.bool al) af ?_;refine ai 9 (.slice va vn vc) af ?_;refine ai 10 (.bool al) af ?_;refine Y7 kQ ?_ _;have dN:=ae cm.2;clear af zn HC cm;go_wp2_with fail
 have cZ:Hid (aV w w1 N D L win ⟨S.rp,V1,nk al src (Fs.take 0) S.aq⟩ (c+qm al 0)/\ep w1 36 (.slice va vn vc) Fs/\aM w1 w.1.size 36 F):=ae ⟨by unfold nk;cases al<;>exact DJ.o.1.cast (by simp[qm]),DJ.o.2,dN.o⟩;go_loopw [19] (fun j wr=>∃ k:Nat,k<=vn/\j=iQ k/\aV w wr N D L win ⟨S.rp,V1,nk al src (Fs.take k) S.aq⟩ (c+qm al k)/\ep wr 36 (.slice va vn vc) Fs/\aM wr w.1.size 36 F) (fun j _=>vn-(intOf j).toNat)
 case atStart=>exact⟨0,oQ,rfl,cZ.o⟩
 case round=>
  obtain⟨k,hk,rfl,bO,bV,zh⟩:=hrel;clear cZ DJ dN;by_cases iq:k<vn
  ·have dB:(k:Int)<(vn:Int):=oQ;have gO:k<Fs.length:=by rw[<-DK.o];exact iq
   obtain⟨g,rfl⟩:=bV.some oQ;have ov:=bV.range gO;have mQ:=zaQ gO;have vK:(Fs[k]?.getD aD) 1=3:=by rw[Yc gO];exact az _ (zsf gO)
   obtain⟨G,hG⟩:∃ G,Hid (Fs[k]?.getD aD=G):=eQ;rw[hG.o]at ov mQ vK;have vN:=ae ov;have aS:YO wr.1.size wr (wr.alloc (.cells (ak aD) 36)):=(YS _ _).alloc lQ _;have q1:aM (wr.alloc (.cells (ak aD) 36)) wr.1.size 36 aD:=aU _ _;have tW:=ae q1;have AE:=ae bV;have nX:=ae zh;have tB:=ae bO;clear ov q1 bV zh bO;go_wp2_with (first
    |(refine zsU rfl 36 _ rfl g (k*23) rfl (ak G).toList _ vN.out underlying36 rfl (by rw[qR];rfl) ?_)
    |(refine jb rfl _ _ rfl wr.heap.size G rfl rfl aD tW.out ?_))
   intro w2 tC;have aZ:YO wr.1.size wr w2:=aS.trans (tC.o.2.2 _ lQ);obtain⟨D2,mb,iX,aK,cY,gX⟩:=tB.o.below aZ;have HF:=ae tC.o.1;have z1:w2.cell? (aQ w.1.size 1)=some (iQ (src:Int)):=by
    have hb:=nX.o.below nX.o.lt aZ;rw[hb.at oQ,hF]
   have Qx:=ae (AE.o.below aZ);have Qy:=ae (nX.o.below nX.o.lt aZ);clear vN tW AE nX tB tC aS aZ;have JL:Hid (nk al src (Fs.take (k+1)) S.aq=if al then iR 3 G (nk al src (Fs.take k) S.aq) 3 else vC 3 G src (nk al src (Fs.take k) S.aq)):=by
    rw[Hid];unfold nk;rw[mQ];cases al
    ·exact PL _ _ _ _ _
    ·exact zaP _ _ _ _
   have Ec:∀(w3:YM)(aq:List Pk)(c':Int),aV w2 w3 N D2 L win ⟨S.rp,V1,aq⟩ c'->aq=nk al src (Fs.take (k+1)) S.aq->c'=c+qm al (k+1)->aV w w3 N D L win ⟨S.rp,V1,nk al src (Fs.take (k+1)) S.aq⟩ (c+qm al (k+1))/\ep w3 36 (.slice (some (aQ g 0)) vn vc) Fs/\aM w3 w.1.size 36 F:=fun w3 aq c' hg e ec=>by
    rw[<-e,<-ec];exact⟨aV.then mb aK cY hg,Qx.o.stays hg.go iX,hg.stays iX Qy.o dQ⟩
   have cP:=znl al src (Fs.take k) bn;cases al
   ·have od:=KY N D2 L win _ w2 G 3 src iX vK (Yq hN aK.size) cP _ gX;rw[mb]at od;have Br:Hid (YR prog 88 #[pQ D.p,.agg (ak G),iQ (src:Int)] w2 fun e w'=>e=.returned (.tuple #[])/\Hid (aV w w' N D L win ⟨S.rp,V1,nk false src (Fs.take (k+1)) S.aq⟩ (c+qm false (k+1))/\ep w' 36 (.slice (some (aQ g 0)) vn vc) Fs/\aM w' w.1.size 36 F)):=ae (by
     refine od.mono ?_;rintro e w5 ⟨rfl,hg⟩;exact⟨rfl,ae (Ec _ _ _ hg (by rw[JL.o];rfl) (by rw[zbz];simp;omega))⟩)
    clear od Ec iX aK cY gX mQ;go_wp2_with (refine fM rfl _ rfl wr.1.size rfl G HF.o ?_)
    refine Br.o.mono ?_;rintro e w5 ⟨rfl,HR⟩;go_wp2
    go_roundw
    case rel=>exact⟨k+1,oQ,by go_num,HR.o⟩
    case measure=>simp[intOf];omega
   ·have od:=Qu N D2 L win _ w2 G 3 iX vK (Yq hN aK.size) cP _ gX;rw[mb]at od;have Br:Hid (YR prog 72 #[pQ D.p,.agg (ak G)] w2 fun e w'=>e=.returned (.tuple #[])/\Hid (aV w w' N D L win ⟨S.rp,V1,nk true src (Fs.take (k+1)) S.aq⟩ (c+qm true (k+1))/\ep w' 36 (.slice (some (aQ g 0)) vn vc) Fs/\aM w' w.1.size 36 F)):=ae (by
     refine od.mono ?_;rintro e w5 ⟨rfl,hg⟩;exact⟨rfl,ae (Ec _ _ _ hg (by rw[JL.o];rfl) (by rw[zbz];simp;omega))⟩)
    clear od Ec iX aK cY gX mQ;go_wp2_with (refine fM rfl _ rfl wr.1.size rfl G HF.o ?_)
    refine Br.o.mono ?_;rintro e w5 ⟨rfl,HR⟩;go_wp2
    go_roundw
    case rel=>exact⟨k+1,oQ,by go_num,HR.o⟩
    case measure=>simp[intOf];omega
  ·have dB:¬(k:Int)<(vn:Int):=oQ;have HG:Hid (aV w wr N D L win ⟨S.rp,V1,nk al src Fs S.aq⟩ (c+qm al Fs.length)):=ae (by
    have:=bO;rw[show k=Fs.length by have:=DK.o;omega,zy5]at this;exact this)
   clear bO bV zh;go_wp2
   go_end0
   rw[HV.o,oZ.o,HVC.o];exact⟨rfl,HG.o⟩
def KZ(L:RC)(win:Nat)(p:Pk)(S:SY):Int:=
 if isNone p then 0 else if p.dst=3 then Hk win S (aP p.b).2 else((gh L (aP p.b).2 (S.rp p.dst)).length:Int)
def og(L:RC)(win i:Nat)(S:SY):Int:=KZ L win (gU S.aq i) (ju i S)-1
theorem zbA{W:Seen}{liar T:Nat}(N:Nat)(D:SC)(L:RC)(win:Nat)(S:SY)(w:YM)(i:Nat)(h:aL w N D L win S)(hI:bu L W liar win T S)(hL:eA L)(hT:T<8000000)(hi:i<S.aq.length)(hN:N<=w.1.size)(c:Int)(hc:cI D S c):
  YR prog 75 #[pQ D.p,iQ (i:Int)] w fun e w'=>e=.returned (.tuple #[])/\aV w w' N D L win (fS L win i S) (c+og L win i S):=by
 obtain⟨g,cap,fo⟩:=h.PI oQ;have ov:=h.za7 fo hi;have hby:=h.bytes hi;have yg:=hI.aq _ (PX hi);obtain⟨q,hq⟩:∃ q,Hid (gU S.aq i=q):=eQ;obtain⟨u,hu⟩:∃ u,Hid (D.us[i]?.getD undef=u):=eQ;rw[hq.o]at yg;rw[hq.o,hu.o]at ov hby;obtain⟨ua,uc,hue,hib⟩:=hby.sM;subst hue;have vN:=ae ov;have c7:w.cell? (aQ D.p 7)=some (.slice (some (aQ g 0)) S.aq.length cap):=(h.at 7).trans (by show some D.nv=_;rw[fo]);have aN:(i:Int)<(S.aq.length:Int):=oQ;have zrU:=yg.len;have bn:=hI.many;obtain⟨W0,l7⟩:∃ W0,Hid (w.alloc (.cells #[iQ (q.src:Int),iQ (q.dst:Int),.slice ua q.b.length uc] 134)=W0):=eQ;have aC:YO w.1.size w W0:=by rw[<-l7.o];exact(YS _ _).alloc lQ _
 have aJ:W0.1[w.1.size]?=some (.cells #[iQ (q.src:Int),iQ (q.dst:Int),.slice ua q.b.length uc] 134 (0,0)):=by rw[<-l7.o];exact aU _ _
 have Dn:¬Wr D w.1.size:=fun hw=>Nat.lt_irrefl _ (h.PG hw)
 have Bu:=h.below aC;have I2:=zbx N D L win S W0 i Bu hi bn c hc;have hAR:fS L win i S=kj L win q (ju i S):=by unfold fS;rw[hq.o]
 have jr:=hI.outs i;have zcd:YR prog 76 #[pQ D.p,iQ (i:Int)] W0 fun e w2=>e=.returned (.tuple #[])/\w2.cell? (aQ w.1.size 2)=some (.slice ua q.b.length uc)/\
   Hid (YR prog 79 #[.slice ua q.b.length uc] w2 fun e w3=>e=.returned (.tuple #[.agg (ak (aP q.b).2),rj (aP q.b).1])/\Hid (aV w w3 N D L win (ju i S) (c-1)/\w3.1[w.1.size]?=some (.cells #[iQ (q.src:Int),iQ (q.dst:Int),.slice ua q.b.length uc] 134 (0,0))/\∃ D3,D3.p=D.p/\aL w3 N D3 L win (ju i S)/\Mod w w3 (Wr D)/\nt w.1.size D D3/\cI D3 (ju i S) (c-1)/\¬Wr D3 w.1.size)):=by
  refine I2.mono ?_;rintro e w2 ⟨rfl,hg⟩;have hk:w2.1[w.1.size]?=some (.cells #[iQ (q.src:Int),iQ (q.dst:Int),.slice ua q.b.length uc] 134 (0,0)):=(hg.go.keeps Dn (bp aJ)).trans aJ;refine⟨rfl,(ay hk 2).trans rfl,ae ?_⟩;obtain⟨D2,mb,iX,aK,cY,gX⟩:=hg;have bo:jL w2 (.slice ua q.b.length uc) q.b:=(hby.below aC).mod aK fun k hk=>Bu.PH hk
  obtain⟨a',c',e',zpz⟩:=bo.sM;simp only[ztd,true_and]at e';obtain⟨rfl,rfl⟩:=e';refine(zls ua _ uc q.b w2 oQ zpz).mono ?_;rintro e w3 ⟨rfl,aZ⟩;have gu:Mod w w3 (Wr D):=((Mod.fB aC (Wr D)).then aK (fun _ _ x=>x)).below aZ;have im:nt w.1.size D D2:=cY.le aC.size;refine⟨rfl,ae ⟨⟨D2,mb,iX.below aZ,gu,im,gX⟩,(aZ.block _ (bp hk)).trans hk,D2,mb,iX.below aZ,gu,im,gX,fun x=>?_⟩⟩;rcases cY.gr.wr _ x with y|y
  ·exact Dn y
  ·have:=bp aJ;omega
 have HD:=ae zcd;have HPK:=ae yg;have dO:=ae jr;have HL:=ae hL;have K0:=ae hAR;clear zcd ov h hby hib fo I2 Bu aC aJ hI jr yg hL hAR Dn bn;go_enter func75,ntmps75;go_wp2_with (refine zsU rfl 134 _ rfl g (i*3) rfl _ _ vN.o underlying134 rfl (by rw[za8];rfl) ?_)
 rw[show w.alloc (.cells #[iQ (q.src:Int),iQ (q.dst:Int),.slice ua q.b.length uc] 134)=W0 from l7.o];refine HD.o.mono ?_;rintro e w2 ⟨rfl,z2,tj⟩;clear HD l7 vN c7 aN;go_wp2_with fail
 refine tj.o.mono ?_;rintro e w3 ⟨rfl,Hl⟩;clear tj z2;have q1:aM (w3.alloc (.cells (ak aD) 36)) w3.1.size 36 aD:=aU _ _;have tW:=ae q1;have Bv:Hid ((aP q.b).1=0->GU (aP q.b).2):=ae znL;have Bb:Hid (isNone q->kj L win q (ju i S)=ju i S):=ae fun hn=>by unfold kj;rw[YH hn]
 have DL:Hid ((aP q.b).1≠0->isNone q):=ae .inl;have DM:Hid ((aP q.b).2 1≠(q.src:Int)->isNone q):=ae .inr;have Bx:Hid ((aP q.b).1=0->(aP q.b).2 1=(q.src:Int)->q.dst=3->kj L win q (ju i S)=⟨S.rp,(cC win S.v (aP q.b).2).1,pn win q.src (ju i S) (aP q.b).2⟩):=ae fun a b c=>by
  unfold kj;rw[YG (by rintro(x|x);exact x a;exact x b),YH c];rfl
 have Bz:Hid ((aP q.b).1=0->(aP q.b).2 1=(q.src:Int)->q.dst≠3->kj L win q (ju i S)=⟨upd S.rp q.dst (fj L (aP q.b).2 (S.rp q.dst)),S.v,lf q.dst q.src (gh L (aP q.b).2 (S.rp q.dst)) (S.aq.eraseIdx i)⟩):=ae fun a b c=>by
  unfold kj;rw[YG (by rintro(x|x);exact x a;exact x b),YG c];rfl
 have yO:Hid (isNone q->og L win i S=-1):=ae fun hn=>by
  unfold og;rw[hq.o];unfold KZ;rw[YH hn];rfl
 have Qz:Hid ((aP q.b).1=0->(aP q.b).2 1=(q.src:Int)->q.dst=3->og L win i S=Hk win (ju i S) (aP q.b).2-1):=ae fun a b d=>by
  unfold og;rw[hq.o];unfold KZ;rw[YG (by rintro(x|x);exact x a;exact x b),YH d]
 have xE:Hid ((aP q.b).1=0->(aP q.b).2 1=(q.src:Int)->q.dst≠3->og L win i S=((gh L (aP q.b).2 (S.rp q.dst)).length:Int)-1):=ae fun a b d=>by
  unfold og;rw[hq.o];unfold KZ;rw[YG (by rintro(x|x);exact x a;exact x b),YG d];rfl
 clear q1;generalize(aP q.b).2=F at Bv DM Bx Bz Qz xE⊢;generalize(aP q.b).1=er at Bv DL Bx Bz Qz xE⊢;go_wp2_with (refine jb rfl _ _ rfl w3.1.size F rfl rfl aD tW.o ?_)
 intro w4 ni;have rv:YO w3.1.size w3 w4:=((YS _ _).alloc lQ _).trans (ni.o.2.2 _ lQ);obtain⟨_,K1,D3,qV,DI,gu,im,BK,sj⟩:=Hl.o;have Hm:=(rv.block _ (bp K1)).trans K1;have sY:=DI.below rv;have jS:Mod w w4 (Wr D):=gu.below rv;have x0:w4.cell? (aQ w.1.size 0)=some (iQ (q.src:Int)):=(ay Hm 0).trans rfl;have x1:w4.cell? (aQ w.1.size 1)=some (iQ (q.dst:Int)):=(ay Hm 1).trans rfl;have y1:w4.cell? (aQ w3.1.size 1)=some (iQ (F 1)):=ni.o.1.at oQ;have rB:=ae ni.o.1;have fR:=ae Hm;have sZ:=ae sY;have dx:=ae jS;have HG:Hid (aV w w4 N D L win (ju i S) (c-1)):=ae ⟨D3,qV,sY,jS,im,BK⟩;have bm:w.1.size<w4.1.size:=bp Hm;have zrV:w.1.size<w3.1.size:=bp K1;clear Hl ni tW K1 DI gu rv Hm sY jS;by_cases HY:er=0
 ·subst HY;rw[show rj 0=.nilIface from rfl];by_cases az:F 1=(q.src:Int)
  ·have aW:(F 1 !=(q.src:Int))=false:=by simp[az]
   have dJ:=ae az;clear Bb DL DM;by_cases hd:q.dst=3
   ·have Mp:((q.dst:Int)==3)=true:=tQ;have ht:=zpy N D3 L win (ju i S) w4 F q.src sZ.o az dO.o.jv (by have:=dx.o.size;omega) dO.o.many _ BK;rw[qV]at ht;have HT:Hid (YR prog 126 #[pQ D.p,.agg (ak F)] w4 fun e w'=>e=.returned (.tuple #[])/\aV w w' N D L win (fS L win i S) (c+og L win i S)):=ae (by
     rw[K0.o,Bx.o rfl az hd];refine ht.mono ?_;rintro e w5 ⟨rfl,hg⟩;exact⟨rfl,(aV.then qV dx.o im hg).cast (by rw[Qz.o rfl az hd];omega)⟩)
    clear ht az hd Bz Bx;go_wp2_with (refine fM rfl _ rfl w3.1.size rfl F rB.o ?_)
    refine HT.o.mono ?_;rintro e w5 ⟨rfl,hg⟩;go_wp2
    exact Zm (zun rfl _ _ _) rfl ⟨rfl,hg⟩
   ·have Mp:((q.dst:Int)==3)=false:=tQ;have nG:q.dst<3:=by have:=HPK.o.dst;omega
    have zrW:(q.dst:Int)<3:=oQ;have QA:=(dO.o.rp q.dst nG);obtain⟨av,fV,gG⟩:=QA.ok nG HL.o hT dO.o.jv.few;have hid:=QA.id;have ry:=sZ.o.ln q.dst nG;have K2:=zmk (D3.rp q.dst) (D3.C q.dst) (S.rp q.dst) F w4.drew (sZ.o.drew.rp q.dst nG) av ⟨fV,gG⟩ (Bv.o rfl);rw[(ry.takes F _).1,(ry.takes F _).2]at K2;have QB:=znM L F (S.rp q.dst);have Kc:=znN L F (S.rp q.dst);rw[show(S.rp q.dst).id=q.dst from hid]at QB;have QC:=Bz.o rfl az hd;obtain⟨R1,ig⟩:∃ R1,Hid (fj L F (S.rp q.dst)=R1):=eQ;obtain⟨Fs,K4⟩:∃ Fs,Hid (gh L F (S.rp q.dst)=Fs):=eQ;rw[ig.o,K4.o]at K2 QC;have QD:=xE.o rfl az hd;rw[K4.o]at QD;have HCE:=ae QD;clear QD;rw[K4.o]at QB Kc;have oZ:=ae QC;have qy:w4.drew.1[w.1.size]?=some (.cells #[iQ (q.src:Int),iQ (q.dst:Int),.slice ua q.b.length uc] 134 (0,0)):=fR.o;have cA:Hid (∀ wx,aL wx N D3 L win (ju i S)\/aL wx N D3 L win ⟨upd S.rp q.dst R1,S.v,S.aq.eraseIdx i⟩->wx.1[w.1.size]?=some (.cells #[iQ (q.src:Int),iQ (q.dst:Int),.slice ua q.b.length uc] 134 (0,0))->aM wx w3.1.size 36 F->wx.cell? (aQ w.1.size 1)=some (iQ (q.dst:Int))/\wx.cell? (aQ D.p (3+q.dst))=some (.pointer (some (aQ (D3.rp q.dst) 0)))/\aM wx w3.1.size 36 F):=ae fun wx hx hb hf=>⟨(ay hb 1).trans rfl,by rw[<-qV];exact hx.elim (fun x=>x.Dp nG) (fun x=>x.Dp nG),hf⟩
    have zn:=ae (bE cA w4.drew (.inl sZ.o.drew) qy rB.o);have iT:YR prog 127 #[.pointer (some (aQ (D3.rp q.dst) 0)),.agg (ak F)] w4.drew fun e w5=>∃ va vn vc,e=.returned (.slice va vn vc)/\Hid (vn=Fs.length)/\(w5.cell? (aQ w.1.size 1)=some (iQ (q.dst:Int))/\w5.cell? (aQ D.p (3+q.dst))=some (.pointer (some (aQ (D3.rp q.dst) 0)))/\aM w5 w3.1.size 36 F)/\Hid (aV w w5 N D L win ⟨upd S.rp q.dst R1,S.v,S.aq.eraseIdx i⟩ (c-1)/\ep w5 36 (.slice va vn vc) Fs):=by
     refine K2.mono ?_;rintro e w5 ⟨⟨v,rfl,hr⟩,hR,hm⟩;obtain⟨mG,lT⟩:=sZ.o.drew.uZ nG hm hR;obtain⟨va,vc,Hi⟩:=hr.shape;subst Hi;have qd:w5.1[w.1.size]?=some (.cells #[iQ (q.src:Int),iQ (q.dst:Int),.slice ua q.b.length uc] 134 (0,0)):=(lT.block _ (bp qy) sj).trans qy;have hf5:aM w5 w3.1.size 36 F:=(lT.block _ (bp (w:=w4.drew) rB.o) (sZ.o.drew.zaO ⟨_,_,rB.o⟩ dQ)).trans rB.o;refine⟨va,_,vc,rfl,ae rfl,bE cA w5 (.inr mG) qd hf5,ae ⟨⟨D3,qV,mG,?_,im,BK⟩,hr⟩⟩;exact(dx.o.below ((YS _ _).drew)).then lT (fun k hk hw=>(im.gr.wr k hw).elim id (fun x=>oQ))
    have HC:=ae iT;clear iT K2 QC cA qy av QA ry ig K4 Bz Bx hd az;go_wp2_with fail
    refine Zh (S:=fun w'=>w'.cell? (aQ w.1.size 1)=some (iQ (q.dst:Int))/\w'.cell? (aQ D.p (3+q.dst))=some (.pointer (some (aQ (D3.rp q.dst) 0)))/\aM w' w3.1.size 36 F) kQ zn.o (fun af=>?_);refine ai 0 (pQ D.p) af ?_;refine ai 1 (.pointer (some (aQ w.1.size 1))) af ?_;refine ai 2 (iQ (q.dst:Int)) af ?_ (hy:=Or.inl ⟨rQ,fun w h=>by obtain⟨h1,h2,_⟩:=h;go_simp⟩);refine ai 3 (pQ D.p) af ?_;refine ai 4 (.pointer (some (aQ D.p 3))) af ?_;refine ai 5 (.pointer (some (aQ D.p (3+q.dst)))) af ?_;refine ai 6 (.pointer (some (aQ (D3.rp q.dst) 0))) af ?_ (hy:=Or.inl ⟨rQ,fun w h=>by obtain⟨h1,h2,_⟩:=h;go_simp⟩);refine ai 7 (.agg (ak F)) af ?_ (hy:=C3 rQ _ rfl w3.1.size rfl F (fun w h=>h.2.2));refine ai 10 (iQ 0) af ?_;refine aR 8 fun K hK=>?_
    go_simp;go_at_call 127;refine HC.o.mono ?_;rintro e w5 ⟨va,vn,vc,rfl,DK,mG,QE⟩;dsimp only;refine hK.o _ _ mG (fun af=>?_);clear hK K;refine ai 9 (iQ (vn:Int)) af ?_;refine Y7 kQ ?_ _;have zbB:=ae mG.2.2;have zrX:vn<=1:=by have:=DK.o;omega
    clear af zn HC mG rB fR sZ dx HG x0 x1 y1;go_wp2_with fail
    have cZ:Hid (aV w w5 N D L win ⟨upd S.rp q.dst R1,S.v,lf q.dst q.src (Fs.take 0) (S.aq.eraseIdx i)⟩ (c-1+((0:Nat):Int))/\ep w5 36 (.slice va vn vc) Fs/\aM w5 w3.1.size 36 F):=ae ⟨QE.o.1.cast sQ,QE.o.2,zbB.o⟩;go_loopw [50] (fun j wr=>∃ k:Nat,k<=vn/\j=iQ k/\aV w wr N D L win ⟨upd S.rp q.dst R1,S.v,lf q.dst q.src (Fs.take k) (S.aq.eraseIdx i)⟩ (c-1+(k:Int))/\ep wr 36 (.slice va vn vc) Fs/\aM wr w3.1.size 36 F) (fun j _=>vn-(intOf j).toNat)
    case atStart=>exact⟨0,oQ,rfl,cZ.o⟩
    case round=>
     obtain⟨k,hk,rfl,bO,bV,zh⟩:=hrel;clear cZ QE zbB;by_cases iq:k<vn
     ·have dB:(k:Int)<(vn:Int):=oQ;have gO:k<Fs.length:=by rw[<-DK.o];exact iq
      obtain⟨g5,rfl⟩:=bV.some oQ;have ov:=bV.range gO;have mQ:=zaQ gO;have vK:(Fs[k]?.getD aD) 1=(q.dst:Int):=by rw[Yc gO];exact QB _ (zsf gO)
      obtain⟨G,hG⟩:∃ G,Hid (Fs[k]?.getD aD=G):=eQ;rw[hG.o]at ov mQ vK;have vN:=ae ov;have aS:YO wr.1.size wr (wr.alloc (.cells (ak aD) 36)):=(YS _ _).alloc lQ _;have q1:aM (wr.alloc (.cells (ak aD) 36)) wr.1.size 36 aD:=aU _ _;have tW:=ae q1;have AE:=ae bV;have nX:=ae zh;have tB:=ae bO;clear ov q1 bV zh bO;go_wp2_with (first
       |(refine zsU rfl 36 _ rfl g5 (k*23) rfl (ak G).toList _ vN.out underlying36 rfl (by rw[qR];rfl) ?_)
       |(refine jb rfl _ _ rfl wr.heap.size G rfl rfl aD tW.out ?_))
      intro w6 QF;have aZ:YO wr.1.size wr w6:=aS.trans (QF.o.2.2 _ lQ);obtain⟨D6,hp6,K5,qH,hg6,hc6⟩:=tB.o.below aZ;have HF:=ae QF.o.1;have z1:w6.cell? (aQ w3.1.size 1)=some (iQ (q.src:Int)):=by
       have hb:=nX.o.below nX.o.lt aZ;rw[hb.at oQ,dJ.o]
      have Qx:=ae (AE.o.below aZ);have Qy:=ae (nX.o.below nX.o.lt aZ);clear vN tW AE nX tB QF aS aZ;have cP:(lf q.dst q.src (Fs.take k) (S.aq.eraseIdx i)).length<=120:=PK _ _ dO.o.many;have od:=KY N D6 L win _ w6 G q.dst q.src K5 vK (Yq hN qH.size) cP _ hc6;rw[hp6]at od;have Br:Hid (YR prog 88 #[pQ D.p,.agg (ak G),iQ (q.src:Int)] w6 fun e w'=>e=.returned (.tuple #[])/\Hid (aV w w' N D L win ⟨upd S.rp q.dst R1,S.v,lf q.dst q.src (Fs.take (k+1)) (S.aq.eraseIdx i)⟩ (c-1+((k+1:Nat):Int))/\ep w' 36 (.slice (some (aQ g5 0)) vn vc) Fs/\aM w' w3.1.size 36 F)):=ae (by
       refine od.mono ?_;rintro e w7 ⟨rfl,hg⟩;rw[mQ,PL];exact⟨rfl,ae ⟨(aV.then hp6 qH hg6 hg).cast oQ,Qx.o.stays hg.go K5,hg.stays K5 Qy.o dQ⟩⟩)
      clear od K5 qH hg6 hc6 mQ;go_wp2_with (refine fM rfl _ rfl wr.1.size rfl G HF.o ?_)
      refine Br.o.mono ?_;rintro e w7 ⟨rfl,HR⟩;go_wp2
      go_roundw
      case rel=>exact⟨k+1,oQ,by go_num,HR.o⟩
      case measure=>simp[intOf];omega
     ·have dB:¬(k:Int)<(vn:Int):=oQ;have HGE:Hid (aV w wr N D L win ⟨upd S.rp q.dst R1,S.v,lf q.dst q.src Fs (S.aq.eraseIdx i)⟩ (c-1+(Fs.length:Int))):=ae (by
       have:=bO;rw[show k=Fs.length by have:=DK.o;omega,zy5]at this;exact this)
      clear bO bV zh;go_wp2
      go_end0
      rw[K0.o,oZ.o];exact⟨rfl,HGE.o.cast (by rw[HCE.o];omega)⟩
  ·have aW:(F 1 !=(q.src:Int))=true:=by simp[az]
   have HX:=ae (Bb.o (DM.o az));have QG:=ae (yO.o (DM.o az));clear az Bb DL DM Bx Bz;go_wp2
   refine Zm (zun rfl _ _ _) rfl ⟨rfl,?_⟩;rw[K0.o,HX.o];exact HG.o.cast (by rw[QG.o];omega)
 ·rw[show rj er=.iface 74 (iQ (er:Int))from YG HY];have HX:=ae (Bb.o (DL.o HY));have QG:=ae (yO.o (DL.o HY));clear HY Bb DL DM Bx Bz;go_wp2
  refine Zm (zun rfl _ _ _) rfl ⟨rfl,?_⟩;rw[K0.o,HX.o];exact HG.o.cast (by rw[QG.o];omega)
variable {L:RC}{win:Nat}{S S1 S2:SY}
theorem zpA:isNone ⟨0,0,[]⟩:=.inl dQ
theorem zbC(h:S.aq=[]):fS L win 0 S=S:=by
 obtain⟨rp,v,aq⟩:=S;subst h;show kj L win ⟨0,0,[]⟩ ⟨rp,v,[]⟩=⟨rp,v,[]⟩;unfold kj;rw[YH zpA]
theorem QH:∀(m:Nat),S.aq=[]->eL L win m S=S
 | 0,_=>rfl
 |m+1,h=>by
  show eL L win m (fS L win 0 S)=S;rw[zbC h];exact QH m h
theorem QI:∀(m n:Nat)(S:SY),eL L win (m+n) S=eL L win n (eL L win m S)
 | 0,n,S=>by rw[Yv];rfl
 |m+1,n,S=>by
  rw[zBq];exact QI m n _
theorem zbD(h1:(eL L win m S).aq=[])(h2:(eL L win n S).aq=[]):eL L win m S=eL L win n S:=by
 rcases Nat.le_total m n with h|h
 ·obtain⟨q,rfl⟩:=zxb h;rw[QI,QH q h1]
 ·obtain⟨q,rfl⟩:=zxb h;rw[QI,QH q h2]
def jx(L:RC)(win:Nat):Nat->SY->Int
 | 0,_=>0
 |m+1,S=>(if S.aq.length=0 then 0 else og L win 0 S)+jx L win m (fS L win 0 S)
theorem K6{L:RC}{win:Nat}{S:SY}(h:S.aq.length=0):∀{m:Nat},jx L win m S=0
 | 0=>rfl
 |m+1=>by
  show(if S.aq.length=0 then 0 else og L win 0 S)+jx L win m (fS L win 0 S)=0;rw[YH h,zbC (zsh.1 h),K6 h];rfl
theorem QJ{L:RC}{win:Nat}:∀(m n:Nat)(S:SY),jx L win (m+n) S=jx L win m S+jx L win n (eL L win m S)
 | 0,n,S=>by rw[Yv];show _=0+jx L win n S;omega
 |m+1,n,S=>by
  rw[zBq];show(if S.aq.length=0 then 0 else og L win 0 S)+jx L win (m+n) (fS L win 0 S)=(if S.aq.length=0 then 0 else og L win 0 S)+jx L win m (fS L win 0 S)+jx L win n (eL L win m (fS L win 0 S));rw[QJ m n];omega
theorem zbE{L:RC}{win:Nat}{S:SY}(h1:(eL L win m S).aq=[])(h2:(eL L win n S).aq=[]):jx L win m S=jx L win n S:=by
 rcases Nat.le_total m n with h|h
 ·obtain⟨q,rfl⟩:=zxb h;rw[QJ,K6 (m:=q) (by rw[h1];rfl),zyO]
 ·obtain⟨q,rfl⟩:=zxb h;rw[QJ,K6 (m:=q) (by rw[h2];rfl),zyO]
theorem zpB{W:Seen}{liar T:Nat}(N:Nat)(D:SC)(L:RC)(win:Nat)(S:SY)(w:YM)(m:Nat)(h:aL w N D L win S)(hI:bu L W liar win T S)(hL:eA L)(hT:T<8000000)(hN:N<=w.1.size)(hm:(eL L win m S).aq=[])(c:Int)(hc:cI D S c):
  YR prog 45 #[pQ D.p] w fun e w'=>e=.returned (.tuple #[])/\aV w w' N D L win (eL L win m S) (c+jx L win m S):=by
 obtain⟨SF,QK⟩:∃ SF,Hid (eL L win m S=SF):=eQ;obtain⟨cF,hcF⟩:∃ cF,Hid (c+jx L win m S=cF):=eQ;rw[QK.o]at hm⊢;rw[hcF.o];have HM:=ae hm;have cZ:Hid (∃ S' c',aV w w N D L win S' c'/\bu L W liar win T S'/\eL L win m S'=SF/\c'+jx L win m S'=cF):=ae ⟨S,c,h.Qn hc,hI,QK.o,hcF.o⟩;have HL:=ae hL;clear hm h hI QK hL;go_enter func45,ntmps45;go_wp2_with fail
 go_loopg [] m (fun k wr=>∃ S' c',aV w wr N D L win S' c'/\bu L W liar win T S'/\eL L win k S'=SF/\c'+jx L win k S'=cF)
 case atStart=>exact cZ.o
 case round=>
  obtain⟨S',c',⟨D1,fJ,cm,cG,eY,gG⟩,j9,lZ,vG⟩:=hrel;clear cZ;obtain⟨a,cap,c7⟩:=cm.za9;rw[fJ]at c7;by_cases h0:S'.aq.length=0
  ·have aW:¬(0:Int)<(S'.aq.length:Int):=oQ;have HE:Hid (aV w wr N D L win SF cF):=ae (by
    rw[<-lZ,<-vG,P2 (zsh.1 h0),K6 h0,zyO];exact⟨D1,fJ,cm,cG,eY,gG⟩)
   clear cm cG eY j9 lZ gG vG;rw[h0]at c7;go_wp2
   go_end0
   exact⟨rfl,HE.o⟩
  ·have aW:(0:Int)<(S'.aq.length:Int):=oQ;obtain⟨k1,rfl⟩:∃ k1,gk=k1+1:=by
    cases gk with
    |zero=>
     have:S'=SF:=lZ;rw[this,HM.o]at h0;exact absurd rfl h0
    |succ k1=>exact⟨k1,rfl⟩
   have hAr:=(j9.Dt HL.o (i:=0) oQ).1;have iT:=zbA N D1 L win S' wr 0 cm j9 HL.o hT oQ (Yq hN cG.size) _ gG;rw[fJ]at iT;have HC:Hid (YR prog 75 #[pQ D.p,iQ 0] wr fun e w'=>e=.returned (.tuple #[])/\Hid (∃ S' c',aV w w' N D L win S' c'/\bu L W liar win T S'/\eL L win k1 S'=SF/\c'+jx L win k1 S'=cF)):=ae (by
    refine iT.mono ?_;rintro e w2 ⟨rfl,hg⟩;exact⟨rfl,ae ⟨_,_,aV.then fJ cG eY hg,hAr,lZ,by rw[<-vG,show jx L win (k1+1) S'=(if S'.aq.length=0 then 0 else og L win 0 S')+jx L win k1 (fS L win 0 S')from rfl,YG h0];omega⟩⟩)
   clear iT hAr cm cG eY j9 lZ;go_wp2_with fail
   refine HC.o.mono ?_;rintro e w2 ⟨rfl,HR⟩;go_wp2
   go_roundg k1
   case measure=>omega
   case rel=>exact HR.o
def cT(L:RC)(S:SY):Nat->Int
 | 0=>0
 |k+1=>cT L S k+zm L k (tP L S k)
def DN(L:RC)(win:Nat):Nat->SY->Int->SY->Int->Prop
 | 0,S,c,S',c'=>S'=S/\c'=c
 |j+1,S,c,S',c'=>∃ S1 c1 m,DN L win j S c S1 c1/\S'=eL L win m (tP L S1 3)/\S'.aq=[]/\c'=c1+cT L S1 3+jx L win m (tP L S1 3)
def K7(L:RC)(win:Nat)(S:SY)(c:Int)(S':SY)(c':Int):Prop:=∃ m S2,(eL L win m S).aq=[]/\DN L win 2 (eL L win m S) (c+jx L win m S) S2 c'/\S'=xq S2
def qo(L:RC)(win:Nat):Nat->SY->Int->SY->Int->Prop
 | 0,S,c,S',c'=>S'=S/\c'=c
 |n+1,S,c,S',c'=>∃ S1 c1,K7 L win S c S1 c1/\qo L win n S1 c1 S' c'
section
variable {L:RC}{win:Nat}
theorem zbF{S' S2:SY}{c2:Int}:∀{k:Nat}{S:SY}{c:Int},qo L win k S c S' c'->K7 L win S' c' S2 c2->qo L win (k+1) S c S2 c2
 | 0,S,c,⟨e1,e2⟩,hr=>by
  subst e1 e2;exact⟨S2,c2,hr,rfl,rfl⟩
 |k+1,S,c,⟨A,a,hA,hk⟩,hr=>⟨A,a,hA,zbF hk hr⟩
theorem zbG:∀(j:Nat){S S1 S2:SY}{c c1 c2:Int},DN L win j S c S1 c1->DN L win j S c S2 c2->S1=S2/\c1=c2
 | 0,_,_,_,_,_,_,⟨a,b⟩,⟨d,e⟩=>⟨a.trans d.symm,b.trans e.symm⟩
 |j+1,_,_,_,_,_,_,⟨A,a,m,hA,h1,h2,h3⟩,⟨B,b,n,hB,g1,g2,g3⟩=>by
  obtain⟨rfl,rfl⟩:=zbG j hA hB;rw[h1]at h2;rw[g1]at g2;exact⟨by rw[h1,g1,zbD h2 g2],by rw[h3,g3,zbE h2 g2]⟩
theorem zpC{S S1 S2:SY}{c c1 c2:Int}(h1:K7 L win S c S1 c1)(h2:K7 L win S c S2 c2):S1=S2/\c1=c2:=by
 obtain⟨m,A,a0,a1,a2⟩:=h1;obtain⟨n,B,b0,b1,b2⟩:=h2;rw[zbD a0 b0,zbE a0 b0]at a1;obtain⟨rfl,rfl⟩:=zbG 2 a1 b1;exact⟨a2.trans b2.symm,rfl⟩
theorem zbH:∀(n:Nat){S S1 S2:SY}{c c1 c2:Int},qo L win n S c S1 c1->qo L win n S c S2 c2->S1=S2/\c1=c2
 | 0,_,_,_,_,_,_,⟨a,b⟩,⟨d,e⟩=>⟨a.trans d.symm,b.trans e.symm⟩
 |n+1,_,_,_,_,_,_,⟨A,a,p,p'⟩,⟨B,b,q,q'⟩=>by
  obtain⟨rfl,rfl⟩:=zpC p q;exact zbH n p' q'
end
theorem zpD{W:Seen}{liar T:Nat}(N:Nat)(D:SC)(L:RC)(win:Nat)(S:SY)(w:YM)(n:Nat)(h:aL w N D L win S)(hI:fU L W liar win T S)(hL:eA L)(hT:T+6*n<7000000)(hn:n<=1000)(hN:N<=w.1.size)(c:Int)(hc:cI D S c):
  YR prog 16 #[pQ D.p,iQ (n:Int)] w fun e w'=>e=.returned (.tuple #[])/\∃ S' c',qo L win n S c S' c'/\fU L W liar win (T+6*n) S'/\aV w w' N D L win S' c':=by
 have cZ:Hid (∃ S' c',qo L win 0 S c S' c'/\fU L W liar win (T+6*0) S'/\aV w w N D L win S' c'):=ae ⟨S,c,⟨rfl,rfl⟩,hI,h.Qn hc⟩;have HL:=ae hL;have jP:∀(wr:YM)(S':SY)(c':Int)(T':Nat),T'<8000000->fU L W liar win T' S'->aV w wr N D L win S' c'->YR prog 45 #[pQ D.p] wr fun e w'=>e=.returned (.tuple #[])/\Hid (∃ m,(eL L win m S').aq=[]/\fU L W liar win T' (eL L win m S')/\aV w w' N D L win (eL L win m S') (c'+jx L win m S')):=by
  intro wr S' c' T' QL gD hg;obtain⟨D1,fJ,cm,cG,eY,gG⟩:=hg;obtain⟨m,hm⟩:=gD.inv.ends HL.o;have hc:=zpB N D1 L win S' wr m cm gD.inv HL.o QL (Yq hN cG.size) hm _ gG;rw[fJ]at hc;refine hc.mono ?_;rintro e w2 ⟨rfl,hg⟩;exact⟨rfl,ae ⟨m,hm,fU.eL HL.o m S' gD,aV.then fJ cG eY hg⟩⟩
 have zbI:∀(wr:YM)(S':SY)(c':Int)(T' k:Nat),k<3->T'<8000000->fU L W liar win T' S'->aV w wr N D L win S' c'->YR prog 46 #[pQ D.p,iQ (k:Int)] wr fun e w'=>e=.returned (.tuple #[])/\Hid (fU L W liar win (T'+1) (qi L k S')/\aV w w' N D L win (qi L k S') (c'+zm L k S')):=by
  intro wr S' c' T' k hk QL gD hg;obtain⟨D1,fJ,cm,cG,eY,gG⟩:=hg;obtain⟨av,_⟩:=(gD.inv.rp k hk).ok hk HL.o QL gD.inv.jv.few;have hc:=zby N D1 L win S' wr k hk cm av (gD.inv.rp k hk).id (Yq hN cG.size) gD.inv.many _ gG;rw[fJ]at hc;refine hc.mono ?_;rintro e w2 ⟨rfl,hg⟩;exact⟨rfl,ae ⟨gD.tick hk,aV.then fJ cG eY hg⟩⟩
 have GX:∀(wr:YM)(S':SY)(c':Int)(T':Nat),fU L W liar win T' S'->aV w wr N D L win S' c'->∃ vp:Nat,wr.cell? (aQ D.p 6)=some (pQ vp)/\Hid (YR prog 47 #[pQ vp] wr fun e w'=>e=.returned (.tuple #[])/\aV w w' N D L win (xq S') c'):=by
  intro wr S' c' T' gD hg;obtain⟨D1,fJ,cm,cG,eY,gG⟩:=hg;refine⟨D1.vp,by rw[<-fJ];exact cm.Bh,ae ?_⟩;refine(zaA N D1.vp win D1.tv S'.v wr cm.vt gD.inv.jv).mono ?_;rintro e w2 ⟨rfl,hV,hm⟩;exact⟨rfl,aV.then fJ cG eY (cm.KV hm hV gG (kz.refl _ _))⟩
 have JQ:=ae jP;have K8:=ae zbI;have Kr:=ae GX;clear jP zbI GX h hI hL;go_enter func16,ntmps16;go_wp2_with fail
 go_loopw [6] (fun j wr=>∃ k:Nat,k<=n/\j=iQ k/\∃ S' c',qo L win k S c S' c'/\fU L W liar win (T+6*k) S'/\aV w wr N D L win S' c') (fun j _=>n-(intOf j).toNat)
 case atStart=>exact⟨0,oQ,rfl,cZ.o⟩
 case round=>
  obtain⟨k,hk,rfl,S',c',K9,gD,bO⟩:=hrel;clear cZ;by_cases jz:k<n
  ·have dB:(k:Int)<(n:Int):=oQ;have G6:=ae (JQ.o wr S' c' (T+6*k) oQ gD bO);have zpE:=ae K9;clear K9 gD bO;go_wp2_with fail
   refine G6.o.mono ?_;rintro e w1 ⟨rfl,DJ⟩;clear G6;obtain⟨m0,vW,q9,ou⟩:=DJ.o;obtain⟨S0,Bu⟩:∃ S0,Hid (eL L win m0 S'=S0):=eQ;obtain⟨c0,fV⟩:∃ c0,Hid (c'+jx L win m0 S'=c0):=eQ;rw[Bu.o]at vW q9 ou;rw[fV.o]at ou;have HM0:=ae vW;have vd:Hid (∃ S2 c2,DN L win 0 S0 c0 S2 c2/\fU L W liar win (T+6*k+3*0) S2/\aV w w1 N D L win S2 c2):=ae ⟨S0,c0,⟨rfl,rfl⟩,q9,ou⟩;clear DJ vW q9 ou;go_wp2_with fail
   go_loopw [10] (fun j wr=>∃ a:Nat,a<=2/\j=iQ a/\∃ S2 c2,DN L win a S0 c0 S2 c2/\fU L W liar win (T+6*k+3*a) S2/\aV w wr N D L win S2 c2) (fun j _=>2-(intOf j).toNat)
   case atStart=>exact⟨0,oQ,rfl,vd.o⟩
   case round=>
    obtain⟨a,ha,rfl,S2,c2,hh,jr,cY⟩:=hrel;clear vd;by_cases qu:a<2
    ·have zB:(a:Int)<2:=oQ;have HH:=ae hh;have yV:Hid (fU L W liar win (T+6*k+3*a+0) (tP L S2 0)/\aV w wr N D L win (tP L S2 0) (c2+cT L S2 0)):=ae ⟨jr,cY.cast (by simp[cT])⟩;clear hh jr cY;go_wp2_with fail
     go_loopw [12] (fun j wr=>∃ b:Nat,b<=3/\j=iQ b/\fU L W liar win (T+6*k+3*a+b) (tP L S2 b)/\aV w wr N D L win (tP L S2 b) (c2+cT L S2 b)) (fun j _=>3-(intOf j).toNat)
     case atStart=>exact⟨0,oQ,rfl,yV.o⟩
     case round=>
      obtain⟨b,hb,rfl,cj,im⟩:=hrel;clear yV;by_cases gl:b<3
      ·have gH:(b:Int)<3:=oQ;have HC3:=ae (K8.o wr (tP L S2 b) _ (T+6*k+3*a+b) b gl oQ cj im);clear cj im;go_wp2_with fail
       refine HC3.o.mono ?_;rintro e w3 ⟨rfl,Hl⟩;clear HC3;go_wp2
       go_roundw
       case rel=>exact⟨b+1,oQ,by go_num,Hl.o.1,Hl.o.2.cast (by show _=c2+(cT L S2 b+zm L b (tP L S2 b));omega)⟩
       case measure=>simp[intOf];omega
      ·have e3:b=3:=oQ;subst e3;have HC4:=ae (JQ.o wr (tP L S2 3) _ (T+6*k+3*a+3) oQ cj im);clear cj im;go_wp2_with fail
       refine HC4.o.mono ?_;rintro e w4 ⟨rfl,Hj⟩;clear HC4;go_wp2
       go_roundw
       case rel=>
        obtain⟨m,hm,fP,BJ⟩:=Hj.o;exact⟨a+1,oQ,by go_num,_,_,⟨S2,c2,m,HH.o,rfl,hm,rfl⟩,fP,BJ⟩
       case measure=>simp[intOf];omega
    ·have e2:a=2:=oQ;subst e2;obtain⟨vp,cv,HV⟩:=Kr.o wr S2 c2 _ jr cY;have yx:Hid (qo L win (k+1) S c (xq S2) c2/\fU L W liar win (T+6*k+3*2) (xq S2)):=ae ⟨zbF zpE.o ⟨m0,S2,by rw[Bu.o];exact HM0.o,by rw[Bu.o,fV.o];exact hh,rfl⟩,jr.KB⟩;clear hh jr cY;go_wp2_with fail
     refine HV.o.mono ?_;rintro e w5 ⟨rfl,Qw⟩;go_wp2
     go_roundw
     case rel=>exact⟨k+1,oQ,by go_num,_,_,yx.o.1,yx.o.2,Qw⟩
     case measure=>simp[intOf];omega
  ·have e3:k=n:=oQ;have dB:¬(k:Int)<(n:Int):=oQ;have HE:Hid (∃ S' c',qo L win n S c S' c'/\fU L W liar win (T+6*n) S'/\aV w wr N D L win S' c'):=ae (by rw[<-e3];exact⟨S',c',K9,gD,bO⟩);clear K9 gD bO e3;go_wp2
   go_end0
   exact⟨rfl,HE.o⟩
theorem zbJ{D:SC}{i:Nat}(h:xD (D.us[i]?.getD undef) k):By D k:=by
 obtain⟨a,n,cap,e,rfl,hn⟩:=h;cases hu:D.us[i]? with
 |none=>rw[hu]at e;cases e
 |some u=>
  rw[hu]at e;exact⟨u,List.mem_of_getElem? hu,a,n,cap,e,rfl,hn⟩
section
variable {W:Seen}{liar T:Nat}
theorem zpF(N:Nat)(D:SC)(L:RC)(win:Nat)(S:SY)(w:YM)(h:aL w N D L win S)(c:Int)(hc:cI D S c):
  YR prog 41 #[pQ D.p] w fun e w'=>e=.returned (.tuple #[])/\aV w w' N D L win (Dg S) c:=by
 have c6:=h.Bh;have HC:Hid (YR prog 85 #[pQ D.vp] w fun e w'=>e=.returned (.tuple #[])/\aV w w' N D L win (Dg S) c):=ae (by
  refine(zmA N D.vp win D.tv S.v w h.vt).mono ?_;rintro e w2 ⟨rfl,hV,hm⟩;exact⟨rfl,h.KV hm hV hc (kz.refl _ _)⟩)
 clear h;go_enter func41,ntmps41;go_wp2_with fail
 refine HC.o.mono ?_;rintro e w2 ⟨rfl,hg⟩;go_wp2
 go_end0
 exact⟨rfl,hg⟩
theorem zpG(N:Nat)(D:SC)(L:RC)(win:Nat)(S:SY)(w:YM)(k:Nat)(hk:k<3)(h:aL w N D L win S)(hI:bu L W liar win T S)(hL:eA L)(hT:T<8000000)(hN:N<=w.1.size)(c:Int)(hc:cI D S c):
  YR prog 32 #[pQ D.p,iQ (k:Int)] w fun e w'=>e=.returned .nilIface/\aV w w' N D L win (qi L k S) (c+zm L k S):=by
 obtain⟨av,_⟩:=(hI.rp k hk).ok hk hL hT hI.jv.few;have HC:=ae (zby N D L win S w k hk h av (hI.rp k hk).id hN hI.many c hc);have HR:=ae (xy (k:Int) w);rw[KE hk]at HR;clear h hI av;go_enter func32,ntmps32;go_wp2_with fail
 refine HR.o.mono ?_;rintro e wz ⟨rfl,rfl⟩;go_wp2_with fail
 refine HC.o.mono ?_;rintro e w2 ⟨rfl,hg⟩;go_wp2
 go_ret;exact⟨rfl,hg⟩
theorem zpH(N:Nat)(D:SC)(L:RC)(win:Nat)(S:SY)(w:YM)(h:aL w N D L win S)(av:dS win S.v)(c:Int)(hc:cI D S c):
  YR prog 32 #[pQ D.p,iQ 3] w fun e w'=>e=.returned .nilIface/\aV w w' N D L win (xq S) c:=by
 have HR:=ae (xy 3 w);rw[show cV 3=false from rfl]at HR;have c6:=h.Bh;have HC:Hid (YR prog 47 #[pQ D.vp] w fun e w'=>e=.returned (.tuple #[])/\aV w w' N D L win (xq S) c):=ae (by
  refine(zaA N D.vp win D.tv S.v w h.vt av).mono ?_;rintro e w2 ⟨rfl,hV,hm⟩;exact⟨rfl,h.KV hm hV hc (kz.refl _ _)⟩)
 clear h av;go_enter func32,ntmps32;go_wp2_with fail
 refine HR.o.mono ?_;rintro e wz ⟨rfl,rfl⟩;go_wp2_with fail
 refine HC.o.mono ?_;rintro e w2 ⟨rfl,hg⟩;go_wp2
 go_ret;exact⟨rfl,hg⟩
theorem zpI(N:Nat)(D:SC)(L:RC)(win:Nat)(S:SY)(w:YM)(k:Nat)(hk:k<3)(h:aL w N D L win S)(hI:bu L W liar win T S)(hN:N<=w.1.size)(c:Int)(hc:cI D S c):
  YR prog 33 #[pQ D.p,iQ (k:Int)] w fun e w'=>e=.returned .nilIface/\aV w w' N D L win (Km k S) (c+jw k 3):=by
 have HR:=ae (xy (k:Int) w);rw[KE hk]at HR;have dB:(k:Int)<3:=oQ;have cr:=h.Dp hk;have hid:=(hI.rp k hk).id;have HC:Hid (YR prog 73 #[.pointer (some (aQ (D.rp k) 0))] w fun e w1=>e=.returned (.agg (ak (nZ (S.rp k))))/\Hid (YR prog 72 #[pQ D.p,.agg (ak (nZ (S.rp k)))] w1 fun e w'=>e=.returned (.tuple #[])/\aV w w' N D L win (Km k S) (c+jw k 3))):=ae (by
  refine(Ka (D.rp k) (D.C k) (S.rp k) w (h.rp k hk)).mono ?_;rintro e w1 ⟨rfl,hB⟩;refine⟨rfl,ae ?_⟩;refine(Qu N D L win S w1 (nZ (S.rp k)) k (h.below hB) (by show((S.rp k).id:Int)=_;rw[hid]) (Yq hN hB.size) hI.many c hc).mono ?_;rintro e w2 ⟨rfl,hg⟩;exact⟨rfl,hg.pre hB⟩)
 clear h hI;go_enter func33,ntmps33;go_wp2_with fail
 refine HR.o.mono ?_;rintro e wz ⟨rfl,rfl⟩;go_wp2_with fail
 refine HC.o.mono ?_;rintro e w1 ⟨rfl,HS⟩;go_wp2_with fail
 refine HS.o.mono ?_;rintro e w2 ⟨rfl,hg⟩;go_wp2
 go_ret;exact⟨rfl,hg⟩
theorem zpJ(N:Nat)(D:SC)(L:RC)(win:Nat)(S:SY)(w:YM)(i:Nat)(h:aL w N D L win S)(hI:bu L W liar win T S)(hL:eA L)(hT:T<8000000)(hN:N<=w.1.size)(hi:i<S.aq.length)(c:Int)(hc:cI D S c):
  YR prog 34 #[pQ D.p,iQ (i:Int)] w fun e w'=>e=.returned .nilIface/\aV w w' N D L win (fS L win i S) (c+og L win i S):=by
 have HR:=ae (PJ N D L win S w i h);rw[YE hi]at HR;have HC:=ae (zbA N D L win S w i h hI hL hT hi hN c hc);clear h hI;go_enter func34,ntmps34;go_wp2_with fail
 refine HR.o.mono ?_;rintro e wz ⟨rfl,rfl⟩;go_wp2_with fail
 refine HC.o.mono ?_;rintro e w2 ⟨rfl,hg⟩;go_wp2
 go_ret;exact⟨rfl,hg⟩
theorem zpK(N:Nat)(D:SC)(L:RC)(win:Nat)(S:SY)(w:YM)(i:Nat)(h:aL w N D L win S)(bn:S.aq.length<=120)(hi:i<S.aq.length)(c:Int)(hc:cI D S c):
  YR prog 35 #[pQ D.p,iQ (i:Int)] w fun e w'=>e=.returned .nilIface/\aV w w' N D L win (ju i S) (c-1):=by
 have HR:=ae (PJ N D L win S w i h);rw[YE hi]at HR;have HC:=ae (zbx N D L win S w i h hi bn c hc);clear h;go_enter func35,ntmps35;go_wp2_with fail
 refine HR.o.mono ?_;rintro e wz ⟨rfl,rfl⟩;go_wp2_with fail
 refine HC.o.mono ?_;rintro e w2 ⟨rfl,hg⟩;go_wp2
 go_ret;exact⟨rfl,hg⟩
theorem zpL(N:Nat)(D:SC)(L:RC)(win:Nat)(S:SY)(w:YM)(i:Nat)(h:aL w N D L win S)(bn:S.aq.length<=120)(hN:N<=w.1.size)(hi:i<S.aq.length)(c:Int)(hc:cI D S c):
  YR prog 36 #[pQ D.p,iQ (i:Int)] w fun e w'=>e=.returned .nilIface/\aV w w' N D L win (Po (gU S.aq i) S) (c+1):=by
 have HR:=ae (PJ N D L win S w i h);rw[YE hi]at HR;have aN:(i:Int)<(S.aq.length:Int):=oQ;obtain⟨g,cap,fo⟩:=h.PI oQ;have ov:=h.za7 fo hi;have hby:=h.bytes hi;have Ef:=zbv N D L win S w (gU S.aq i) _ h hby hN bn w.1.size lQ (fun k hk=>.inl (zbJ hk)) c hc;have c7:w.cell? (aQ D.p 7)=some (.slice (some (aQ g 0)) S.aq.length cap):=(h.at 7).trans (by show some D.nv=_;rw[fo]);obtain⟨q,hq⟩:∃ q,Hid (gU S.aq i=q):=eQ;obtain⟨u,hu⟩:∃ u,Hid (D.us[i]?.getD undef=u):=eQ;rw[hq.o,hu.o]at ov Ef;rw[hq.o];have HC:=ae Ef;have vN:=ae ov;clear h Ef ov hby fo;go_enter func36,ntmps36;go_wp2_with fail
 refine HR.o.mono ?_;rintro e wz ⟨rfl,rfl⟩;go_wp2_with (refine zsU rfl 134 _ rfl g (i*3) rfl _ _ vN.o underlying134 rfl (by rw[za8];rfl) ?_)
 refine HC.o.mono ?_;rintro e w2 ⟨rfl,hg⟩;go_wp2
 go_ret;exact⟨rfl,hg⟩
end
theorem zpM(N:Nat)(D:SC)(L:RC)(win:Nat)(S:SY)(w:YM)(k:Nat)(x y:Int)(hk:k<3)(h:aL w N D L win S)(c:Int)(hc:cI D S c):
  YR prog 18 #[pQ D.p,iQ (k:Int),.agg #[iQ x,iQ y]] w fun e w'=>e=.returned .nilIface/\aV w w' N D L win (Kn k x y S) c:=by
 obtain⟨W,hW⟩:∃ W,Hid (w.alloc (.cells #[iQ x,iQ y] 31)=W):=eQ;have aC:YO w.1.size w W:=by rw[<-hW.o];exact(YS _ _).alloc lQ _
 have aJ:W.1[w.1.size]?=some (.cells #[iQ x,iQ y] 31 (0,0)):=by rw[<-hW.o];exact aU _ _
 have HR:=ae (xy (k:Int) W);rw[KE hk]at HR;have dB:(k:Int)<3:=oQ;have hS:=h.below aC;have cr:=hS.Dp hk;have x0:W.cell? (aQ w.1.size 0)=some (iQ x):=(ay aJ 0).trans rfl;have x1:W.cell? (aQ w.1.size 1)=some (iQ y):=(ay aJ 1).trans rfl;have HC:Hid (YR prog 50 #[.pointer (some (aQ (D.rp k) 0)),.agg #[iQ x,iQ y]] W.drew fun e w'=>e=.returned (.tuple #[])/\aV w w' N D L win (Kn k x y S) c):=ae (by
  refine(zlv (D.rp k) (D.C k) (S.rp k) x y W.drew (hS.drew.rp k hk)).mono ?_;rintro e w2 ⟨rfl,hR,hm⟩;obtain⟨h1,h2⟩:=hS.drew.uZ hk hm hR;exact⟨rfl,aV.pre ⟨D,rfl,h1,h2,nt.refl _ _,hc⟩ (aC.drew)⟩)
 clear h hS aJ aC;go_enter func18,ntmps18;go_wp2_with fail
 rw[show w.alloc (.cells #[iQ x,iQ y] 31)=W from hW.o];refine HR.o.mono ?_;rintro e wz ⟨rfl,rfl⟩;go_wp2_with fail
 go_region_with ((go_at_call 50;refine HC.o.mono ?_;rintro e w2 ⟨rfl,hg⟩))
 all_goals
  go_wp2
  go_ret;exact⟨rfl,hg⟩
theorem zpN(N:Nat)(D:SC)(L:RC)(win:Nat)(S:SY)(w:YM)(k:Nat)(hk:k<3)(hL:eA L)(h:aL w N D L win S)(hN:N<=w.1.size)(c:Int)(hc:cI D S c):
  YR prog 38 #[pQ D.p,iQ (k:Int)] w fun e w'=>e=.returned .nilIface/\aV w w' N D L win (Pn k S) c:=by
 refine(P5 D.p D.g0 D.c0 L _ _ _ _ k w hk hL (by rw[<-zn0];exact h.blk) h.row h.xw h.zb).mono ?_;rintro e w' ⟨rfl,q,C,hF,hl,hR,hb,hm⟩;refine⟨rfl,?_⟩;obtain⟨f1,f2,f3,f4,f5⟩:=hF;rw[zn1]at hb;have hT:∀ j,j=D.p->Wr D j:=fun j hj=>.inl hj
 obtain⟨_,⟨h2,h3⟩,h4,h5,h6⟩:=h.part hm hT;have hw:∀ x,Wr ⟨D.p,D.g0,D.c0,upd D.rp k q,upd D.C k C,D.vp,D.tv,D.nv,D.us,D.lost⟩ x->Wr D x\/x=q:=fun x hx=>by
  rcases hx with y|y|⟨j,hj,y⟩|y|y
  ·exact .inl (.inl y)
  ·exact .inl (.inr (.inl y))
  ·by_cases e:j=k
   ·right;have y':x=upd D.rp k q j:=y;rw[e,upd_same]at y';exact y'
   ·left;have y':x=upd D.rp k q j:=y;rw[cR _ _ e]at y';exact .inr (.inr (.inl ⟨j,hj,y'⟩))
  ·exact .inl (eO (.inl y))
  ·exact .inl (eO (.inr y))
 have hs:∀ y,rC ⟨D.p,D.g0,D.c0,upd D.rp k q,upd D.C k C,D.vp,D.tv,D.nv,D.us,D.lost⟩ y->rC D y\/(y=C.pc\/y=C.g\/y=C.M\/y=C.g2):=fun y hy=>by
  rcases hy with z|⟨j,hj,z⟩
  ·exact .inl (.inl z)
  ·by_cases e:j=k
   ·right;have z':y=(upd D.C k C j).pc\/y=(upd D.C k C j).g\/y=(upd D.C k C j).M\/y=(upd D.C k C j).g2:=z;rw[e,upd_same]at z';exact z'
   ·left;have z':y=(upd D.C k C j).pc\/y=(upd D.C k C j).g\/y=(upd D.C k C j).M\/y=(upd D.C k C j).g2:=z;rw[cR _ _ e]at z';exact .inr ⟨j,hj,z'⟩
 have aj:∀ j,j<3->D.rp j<w.1.size:=fun j hj=>(h.py hj).lt
 refine⟨⟨D.p,D.g0,D.c0,upd D.rp k q,upd D.C k C,D.vp,D.tv,D.nv,D.us,D.lost⟩,rfl,⟨hb,h2,h3,h.zb,fun j hj=>?_,fun j hj=>?_,fun i j hi hj uJ=>?_,h5 fun x hx e=>?_,h6 fun g hg e=>(h.G2 g hg) e,fun x y hx hy e=>?_,fun x hx=>?_,fun y hy=>?_⟩,hm.mono fun i _ hi=>hT i hi,⟨⟨fun x hx=>(hw x hx).imp id fun e=>oQ,fun y hy=>(hs y hy).imp id fun e=>oQ⟩,fun _ x=>.inl x⟩,hc⟩
 ·show aF w' (upd D.rp k q j) (upd D.C k C j) (upd S.rp k (pk k) j);by_cases e:j=k
  ·rw[e,upd_same,upd_same,upd_same];exact hR
  ·rw[cR _ _ e,cR _ _ e,cR _ _ e];exact h4 j hj (fun x=>(h.py hj).ne h.nj dQ x)
 ·show rG (upd D.C k C j) L;by_cases e:j=k
  ·rw[e,upd_same];exact hl
  ·rw[cR _ _ e];exact h.ln j hj
 ·show upd D.rp k q i≠upd D.rp k q j;have li:=aj i hi;have lj:=aj j hj;by_cases e:i=k
  ·rw[e,upd_same,cR _ _ oQ];omega
  ·rw[cR _ _ e];by_cases e2:j=k
   ·rw[e2,upd_same];omega
   ·rw[cR _ _ e2];exact h.ne i j hi hj uJ
 ·rcases hx with hx|hx
  ·exact h.rH.ne h.nj dQ (hx.symm.trans e)
  ·exact(h.rJ hx).ne h.nj dQ e
 ·rcases hw x hx with a|a
  ·rcases hs y hy with b|b
   ·exact h.sep x y a b e
   ·have:=h.PG a;omega
  ·rcases hs y hy with b|b
   ·have:=h.Kv b;omega
   ·have:=hR.ap;omega
 ·rcases hw x hx with a|a
  ·exact h.base x a
  ·omega
 ·rcases hs y hy with b|b
  ·exact h.vF y b
  ·omega
theorem zpO(p:Nat)(z:Int)(x y:Int)(w:YM)(hz:cV z=false):
  YR prog 18 #[pQ p,iQ z,.agg #[iQ x,iQ y]] w (bQ (.iface 74 (iQ 2)) w):=by
 have HR:=ae fun wx=>xy z wx
 rw[hz]at HR;go_enter func18,ntmps18;go_wp2_with fail
 refine(HR.o _).mono ?_;rintro e wz ⟨rfl,rfl⟩;go_wp2
 go_ret;exact⟨rfl,(YS _ _).alloc lQ _⟩
theorem zpP(p:Nat)(z:Int)(w:YM)(hz:cV z=false):
  YR prog 33 #[pQ p,iQ z] w (bQ (.iface 74 (iQ 2)) w):=by
 have HR:=ae fun wx=>xy z wx
 rw[hz]at HR;go_enter func33,ntmps33;go_wp2_with fail
 refine(HR.o _).mono ?_;rintro e wz ⟨rfl,rfl⟩;go_wp2
 go_ret;exact⟨rfl,YS _ _⟩
theorem zpQ(p:Nat)(z:Int)(w:YM)(hz:cV z=false)(h3:z≠3):
  YR prog 32 #[pQ p,iQ z] w (bQ (.iface 74 (iQ 2)) w):=by
 have HR:=ae fun wx=>xy z wx
 rw[hz]at HR;have h3':(z==3)=false:=by simpa using h3
 go_enter func32,ntmps32;go_wp2_with fail
 refine(HR.o _).mono ?_;rintro e wz ⟨rfl,rfl⟩;go_wp2
 go_ret;exact⟨rfl,YS _ _⟩
theorem QM(N:Nat)(D:SC)(L:RC)(win:Nat)(S:SY)(w:YM)(z:Int)(h:aL w N D L win S)(hz:z<0\/(S.aq.length:Int)<=z):
  YR prog 74 #[pQ D.p,iQ z] w fun e w'=>e=.returned (.bool false)/\w'=w:=by
 obtain⟨a,cap,fo⟩:=h.aq.shape;have c7:w.cell? (aQ D.p 7)=some (.slice a S.aq.length cap):=(h.at 7).trans (by show some D.nv=_;rw[fo]);clear h fo;by_cases h0:(0:Int)<=z
 ·have aN:¬z<(S.aq.length:Int):=oQ;clear hz;go_enter func74,ntmps74;go_wp2
  go_ret;exact⟨rfl,rfl⟩
 ·clear hz;go_enter func74,ntmps74;go_wp2
  go_ret;exact⟨rfl,rfl⟩
theorem zpR(N:Nat)(D:SC)(L:RC)(win:Nat)(S:SY)(w:YM)(z:Int)(h:aL w N D L win S)(hz:z<0\/(S.aq.length:Int)<=z):
  YR prog 34 #[pQ D.p,iQ z] w (bQ (.iface 74 (iQ 2)) w):=by
 have HR:=ae (QM N D L win S w z h hz);clear h hz;go_enter func34,ntmps34;go_wp2_with fail
 refine HR.o.mono ?_;rintro e wz ⟨rfl,rfl⟩;go_wp2
 go_ret;exact⟨rfl,YS _ _⟩
theorem zpS(N:Nat)(D:SC)(L:RC)(win:Nat)(S:SY)(w:YM)(z:Int)(h:aL w N D L win S)(hz:z<0\/(S.aq.length:Int)<=z):
  YR prog 35 #[pQ D.p,iQ z] w (bQ (.iface 74 (iQ 2)) w):=by
 have HR:=ae (QM N D L win S w z h hz);clear h hz;go_enter func35,ntmps35;go_wp2_with fail
 refine HR.o.mono ?_;rintro e wz ⟨rfl,rfl⟩;go_wp2
 go_ret;exact⟨rfl,YS _ _⟩
theorem zpT(N:Nat)(D:SC)(L:RC)(win:Nat)(S:SY)(w:YM)(z:Int)(h:aL w N D L win S)(hz:z<0\/(S.aq.length:Int)<=z):
  YR prog 36 #[pQ D.p,iQ z] w (bQ (.iface 74 (iQ 2)) w):=by
 have HR:=ae (QM N D L win S w z h hz);clear h hz;go_enter func36,ntmps36;go_wp2_with fail
 refine HR.o.mono ?_;rintro e wz ⟨rfl,rfl⟩;go_wp2
 go_ret;exact⟨rfl,YS _ _⟩
theorem zpU(N:Nat)(D:SC)(L:RC)(win:Nat)(S:SY)(w:YM)(h:aL w N D L win S):
  YR prog 183 #[pQ D.p] w fun e w'=>e=.returned (iQ D.lost)/\w'=w:=by
 have c8:w.cell? (aQ D.p 8)=some (iQ D.lost):=(h.at 8).trans rfl;clear h;go_enter func183,ntmps183;go_wp2
 go_ret;exact⟨rfl,rfl⟩
theorem zpV(N:Nat)(D:SC)(L:RC)(win:Nat)(S:SY)(w:YM)(z:Int)(hz:cV z=false)(hL:eA L)(h:aL w N D L win S):
  YR prog 38 #[pQ D.p,iQ z] w (bQ (.iface 74 (iQ 2)) w):=by
 have c0:w.cell? (aQ D.p 0)=some (iQ (L.s:Int)):=(h.at 0).trans rfl;have c1:w.cell? (aQ D.p 1)=some (.slice (some (aQ D.g0 0)) L.n D.c0):=(h.at 1).trans rfl;have c2:w.cell? (aQ D.p 2)=some (iQ (L.d:Int)):=(h.at 2).trans rfl;have HC:=ae (zmo z L.s L.d D.g0 0 L.n D.c0 L.zs w hz hL.len hL.ok h.xw h.row h.zb);clear h hL;go_enter func38,ntmps38;go_wp2_with fail
 refine HC.o.mono ?_;rintro e w1 ⟨rfl,hB⟩;go_wp2
 go_ret;exact⟨rfl,hB⟩
end Go.Proofs.YtaablbmgagiajabGreatDoor
