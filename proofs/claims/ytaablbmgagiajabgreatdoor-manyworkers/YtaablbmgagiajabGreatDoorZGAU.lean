import Derived.Test.YtaablbmgagiajabGreatDoorZGAT
set_option maxHeartbeats 4000000
set_option maxRecDepth 20000
open Go.Act renaming put->Zk
open Go.RowKit renaming Below->YO,wrap64->Zs
open Go.RowKit.Below renaming refl->YS
open Go renaming Calls->YR,Value->YN,World->YM,wpAnyH_done->Y7,wpAnyH_take->Y5,wp_region_held_drew->Zh
open Go.Lib renaming join->zsX,joinTail->zvj
open List renaming getElem_cons_succ->Z4,getElem_cons_zero->ZP,getElem_toArray->ZQ,intercalate->zvX,lookup_cons->zBf,mem_cons_of_mem->zy2,setIfInBounds_toArray->ZR,set_cons_succ->ZT,set_cons_zero->ZU
open Or renaming inl->Zj
open Go.Value.slice renaming injEq->ztd
open Go.Value renaming string->ztU
open Go.World renaming block_lt_of_cell?->ztA,cell?_of_block->Ze,frozen?_of_block->zs0
namespace Go.Proofs.YtaablbmgagiajabGreatDoor
open Go.Proofs.Tryz
open Go.RowKit Go.Deep Go.Shelf Go.Extern.Stop Go.Stop Go.Extern
variable{a z:Int}{k o:Nat}{l:List Nat}{t:List UInt8}{u:YN}
attribute [local go_sem] run_store_func run_store_nilFunc
set_option maxRecDepth 100000 in
set_option maxHeartbeats 4000000 in
theorem zpW(d m:Nat)(bI x:List UInt8)(r:List (List UInt8))(w:YM)(hl:bI.length<=1000000)(hd:uO w d m)(hw:lH bI=x::r)(a b:Int)(f:Nat)(l:List Int)(hk:(pZ d).lookup x=some (dC d a b f))(ha:a<=(r.length:Int))(hb:(r.length:Int)<=b)(hr:oX r=some l)
  (hef:∀ args w,(callFunc f args).run prog w=.ok (.enter f args) w) (G:List UInt8->YM->Prop)
  (zbK:∀ V M,YO w.1.size w V->w.1.size<V.1.size->w.1.size<M->kx V (some (aQ M 0)) r.length r.length l->(∀ z∈l,dc z)->YR prog f #[pQ d,.slice (some (aQ M 0)) r.length r.length] V fun e V'=>Mod V V' (fun k=>k<w.1.size)/\∃ s,G s V'/\(e=.returned (.string (txt s))\/∃ z,s=gN z/\dc z/\ml V'/\e=thrown z)):
  YR prog 61 #[pQ d,.string (txt bI)] w fun e w'=>∃ s V',G s V'/\e=.returned (.string (txt s))/\Mod V' w' (fun k=>k=w.1.size):=by
 have Gb:∀(fn:Fn)(first cap:Array YN)(w:YM),(Instr.makeFunc fn first cap).run prog w=.ok (.func fn first cap) w:=fun _ _ _ _=>rfl
 obtain⟨W,hW⟩:∃ W,Hid (w.alloc (.cells #[.string ⟨#[]⟩] 9)=W):=eQ;have aC:YO w.1.size w W:=by rw[<-hW.o];exact(YS _ _).alloc lQ _
 have bm:W.1.size=w.1.size+1:=by rw[<-hW.o];simp
 have fV:W.cell? (aQ w.1.size 0)=some (.string ⟨#[]⟩)/\W.frozen? (aQ w.1.size 0)=false:=by rw[<-hW.o];constructor<;>simp
 have HF:=ae (Gd bI W hl);rw[hw]at HF;have HC:Hid (∀ w1,YO W.1.size W w1->(w1.cell? (aQ w.1.size 0)=some (.string ⟨#[]⟩)/\w1.frozen? (aQ w.1.size 0)=false)):=ae fun w1 h=>
  ⟨(h.cell (p:=(aQ w.1.size 0)) (by show w.1.size<_;omega)).trans fV.1,(zs0 (h.block _ (by show w.1.size<_;omega))).trans fV.2⟩
 have HB:=ae aC;have HS:=ae bm;have HD:=ae hd;have HK:=ae hk;have HR:=ae hr;have HO:=ae zbK;clear aC bm fV hd hk hr zbK;go_enter_defers func61,ntmps61
 go_wp2_with fail
 rw[hW.o];refine HF.o.mono ?_;rintro e w1 ⟨A,n,rfl,rfl,hA,qY,p5,aG⟩;obtain⟨g0,g1⟩:=HC.o w1 aG;have eD:=ae (HB.o.trans (aG.mono HB.o.size));have c4:=(HD.o.below eD.o).c4;have cx:w1.cell? (aQ A 0)=some (.string (txt x)):=p5 0 x rfl;have jq:YO w.1.size w w1.drew:=eD.o.drew;have k1:=HD.o.look jq x;have iK:YO w1.1.size w1 (w1.alloc (.cells #[iQ 0,iQ 0,.nilFunc] 178)):=(YS _ _).alloc lQ _;have k2:=HD.o.look (eD.o.trans (iK.mono eD.o.size)).drew x;have FE:(w1.alloc (.cells #[iQ 0,iQ 0,.nilFunc] 178)).cell? (aQ d 4)=some (.map (some m)):=(iK.cell (p:=(aQ d 4)) (HD.o.below eD.o).lt).trans c4;have OD:(w1.alloc (.cells #[iQ 0,iQ 0,.nilFunc] 178)).cell? (aQ A 0)=some (.string (txt x)):=(iK.cell (p:=(aQ A 0)) qY).trans cx;rw[HK.o]at k1 k2;simp only[Option.getD_some,Option.isSome_some,dC]at k1 k2;have cP:(x::r).length=r.length+1:=rfl;rw[cP];obtain⟨oA,QN,jG⟩:∃ oA,Hid ((r=[]/\oA=0)\/(¬r=[]/\oA=1))/\CN w1 (some (aQ A oA)) r.length r.length r:=by
  by_cases oM:r=[]
  ·exact⟨0,ae (.inl ⟨oM,rfl⟩),⟨rfl,Yp _,.inl oM⟩⟩
  ·exact⟨1,ae (.inr ⟨oM,rfl⟩),⟨rfl,Yp _,.inr ⟨A,1,rfl,qY,fun j y hy=>by rw[Nat.add_comm];exact p5 (j+1) y (by rw[zsb];exact hy)⟩⟩⟩
 clear p5 jq HF HC iK;have CO:(0:Int)<(r.length:Int)+1:=oQ;have kR:0<r.length+1:=oQ;have Hn:r.length<=1000001:=by
  have h1:=JG bI;rw[hw,cP]at h1;omega
 have pC:Zs (r.length:Int)=(r.length:Int):=IntWalk.wrap64_in _ ⟨oQ,oQ⟩;have Dc:decide ((r.length:Int)<a)=false:=YD oQ;have O9:decide (b<(r.length:Int))=false:=YD oQ;have jQ:(1:Int)<=(r.length:Int)+1:=oQ;obtain⟨V,hV⟩:∃ V,Hid ((w1.alloc (.cells #[iQ a,iQ b,.func (.func f) #[pQ d] #[]] 178)).drew=V):=eQ;have oh:YO w1.1.size w1 V:=by rw[<-hV.o];exact((YS _ _).alloc lQ _).drew
 have nO:V.cell? (aQ w1.1.size 2)=some (.func (.func f) #[pQ d] #[]):=by rw[<-hV.o];simp
 have La:w1.1.size<V.1.size:=by rw[<-hV.o];simp
 have aj:w.1.size<w1.1.size:=by have:=HS.o;have:=aG.size;omega
 have HN:Hid (YR prog 101 #[.slice (some (aQ A oA)) r.length r.length] V.drew fun e V'=>∃ M,e=.returned (.slice (some (aQ M 0)) r.length r.length)/\(V'.cell? (aQ w1.1.size 2)=some (.func (.func f) #[pQ d] #[]))/\Hid (YO w1.1.size w1 V')/\Hid (kx V' (some (aQ M 0)) r.length r.length l/\(∀ z∈l,dc z)/\w.1.size<M)):=ae (by
  refine(Wh r (some (aQ A oA)) r.length r.length V.drew ((jG.below oh).below (YS _ _).drew) (fun y hy=>?_) oQ (((HD.o.below eD.o).num.below oh).below (YS _ _).drew)).mono ?_
  ·have AY:y∈lH bI:=by rw[hw];exact zy2 _ hy
   exact Yq (WA AY) hl
  rintro e V' ⟨hB,⟨cX,_⟩|⟨l',M,hl',hM,rfl,eW,fW⟩⟩
  ·rw[HR.o]at cX;cases cX
  ·rw[HR.o]at hl';obtain rfl:l=l':=by simpa using hl'
   have om:YO V.1.size V V':=(YS _ _).drew.trans hB;exact⟨M,rfl,(om.cell (p:=(aQ w1.1.size 2)) La).trans nO,ae (oh.trans (om.mono oh.size)),ae ⟨eW,fW,Yr aj (Yq oh.size hM)⟩⟩)
 have HG:Hid (∀ V' M,YO w1.1.size w1 V'->kx V' (some (aQ M 0)) r.length r.length l->(∀ z∈l,dc z)->w.1.size<M->V'.cell? (aQ w1.1.size 2)=some (.func (.func f) #[pQ d] #[])->YR prog f #[pQ d,.slice (some (aQ M 0)) r.length r.length] V' fun e U=>U.cell? (aQ w1.1.size 2)=some (.func (.func f) #[pQ d] #[])/\(U.cell? (aQ w.1.size 0)=some (.string ⟨#[]⟩)/\U.frozen? (aQ w.1.size 0)=false)/\∃ s,Hid (G s U/\w.1.size<U.1.size)/\(e=.returned (.string (txt s))\/∃ z,Hid (s=gN z/\dc z/\ml U)/\e=thrown z)):=ae fun V' M cN eW fW hM hcv=>by
  have GZ:w.1.size<V'.1.size:=Yr aj cN.size;refine(HO.o V' M (eD.o.trans (cN.mono eD.o.size)) GZ hM eW fW).mono ?_;rintro e U ⟨hm,s,hG,he⟩;have Au:U.1[w.1.size]?=V'.1[w.1.size]?:=hm.block _ GZ (Nat.lt_irrefl _);refine⟨(Ze (w:=V') (a:=(aQ w1.1.size 2)) (hm.block _ (ztA V' _ hcv) (by show ¬w1.1.size<w.1.size;omega))).trans hcv,⟨(Ze (w:=V') (a:=(aQ w.1.size 0)) Au).trans ((cN.cell (p:=(aQ w.1.size 0)) aj).trans g0),(zs0 (w:=V') (a:=(aQ w.1.size 0)) Au).trans ((zs0 (cN.block _ aj)).trans g1)⟩,s,ae ⟨hG,Yr GZ hm.size⟩,he.imp id fun⟨z,h1,h2,h3,h4⟩=>⟨z,ae ⟨h1,h2,h3⟩,h4⟩⟩
 clear ha hb jG oh La;have eB:V.drew.cell? (aQ w1.1.size 2)=some (.func (.func f) #[pQ d] #[]):=by simpa using nO
 go_wp2
 go_region
 all_goals
  go_wp2
  rw[hV.o];refine Zh (S:=fun W=>W.cell? (aQ w1.1.size 2)=some (.func (.func f) #[pQ d] #[])) kQ eB (fun af=>?_);refine Y5 (i:=0) (oi:=_) (v:=.pointer (some (aQ w1.1.size 2))) rfl kQ kQ kQ (fun c a w h=>yz dQ c a w h) (Zj ⟨rQ,fun w _=>by go_simp⟩) af ?_;simp only[Zk,ZQ,ZP,ZR,ZT,ZU];refine Y5 (i:=1) (oi:=_) (v:=.func (.func f) #[pQ d] #[]) rfl kQ kQ kQ (fun c a w h=>yz dQ c a w h) (Zj ⟨rQ,fun w h=>by go_simp⟩) af ?_;simp only[Zk,ZQ,Z4,ZP,ZR,ZT,ZU];refine Y5 (i:=2) (oi:=_) (v:=.slice (some (aQ A 0)) (r.length+1) (r.length+1)) rfl kQ kQ kQ (fun c a w h=>yz dQ c a w h) (Zj ⟨rQ,fun w _=>by go_simp⟩) af ?_;simp only[Zk,ZQ,Z4,ZP,ZR,ZT,ZU];refine Y5 (i:=3) (oi:=_) (v:=.slice (some (aQ A oA)) r.length r.length) rfl kQ kQ kQ (fun c a w h=>yz dQ c a w h) (Zj ⟨rQ,fun w _=>by rcases QN.o with ⟨h1,h2⟩|⟨h1,h2⟩<;>subst h2<;>go_simp<;>simp[h1]⟩) af ?_;simp only[Zk,ZQ,Z4,ZP,ZR,ZT,ZU];refine aR 4 fun K hK=>?_
  go_simp;go_at_call 101;refine HN.o.mono ?_;rintro e V1 ⟨M,rfl,zbL,zpX,hI⟩;dsimp only;refine hK.o _ _ zbL (fun af=>?_);clear hK K;refine aR 5 fun K hK=>?_
  go_simp;refine(HG.o V1 M zpX.out hI.o.1 hI.o.2.1 hI.o.2.2 zbL).mono ?_;rintro e U ⟨hcU,⟨u0,u1⟩,s,hs,rfl|⟨z,hz,rfl⟩⟩
  ·dsimp only;refine hK.o _ _ hcU (fun af=>?_);clear hK K;refine aR 6 fun K hK=>?_
   go_simp;refine hK.o _ _ ?_ (fun af=>?_)
   ·rw[World.cell?_setCell_far _ _ _ _ (by show w.1.size≠w1.1.size;omega)];exact hcU
   clear hK K;refine Y7 kQ ?_ _;go_wp2
   refine leaves_cons (f:=98) (args:=#[pQ w.1.size]) sQ (by simp[go_sem]) ?_;refine(Wj _ _).mono ?_;rintro e u' w2 ⟨rfl,rfl,rfl⟩;simp[Leaves,settle,results,results61,go_sem,u0];exact⟨s,U,hs.o.1,rfl,(Mod.refl _ _).set _ _ (fun _=>rfl)⟩
  ·unfold thrown;dsimp only;obtain⟨bf,bK,Hw⟩:=hz.o;refine leaves_cons (f:=98) (args:=#[pQ w.1.size]) sQ (by simp[go_sem]) ?_;refine(JF (aQ w.1.size 0) z (.string ⟨#[]⟩) U bK Hw hs.o.2 u0 u1).mono ?_;rintro e u' w2 ⟨rfl,rfl,w3,aZ,rfl⟩;have q0:w3.cell? (aQ w.1.size 0)=some (.string ⟨#[]⟩):=(aZ.cell (p:=(aQ w.1.size 0)) hs.o.2).trans u0;simp[Leaves,settle,results,results61,go_sem,q0];exact⟨s,U,hs.o.1,by rw[bf],(Mod.fB aZ _).set _ _ (fun _=>rfl)⟩
structure DS where
 L:RC
 win:Nat
 S:SY
 c:Int
structure bY(w:YM)(N:Nat)(c:kp)(D:SC)(X:DS):Prop where
 dk:jM w N c D X.L X.win X.S
 cnt:cI D X.S X.c
 err:fC w
 eE:eA X.L
 hi:7<=c.d
def ll(c:kp)(D:SC)(k:Nat):Prop:=k=c.d\/k=c.m\/k=c.g\/Wr D k\/rC D k\/By D k
theorem jL.others{w w':YM}{T:Nat->Prop}(h:jL w u l)(hm:Mod w w' T)(hT:∀ k,xD u k->¬T k):jL w' u l:=by
 obtain⟨h1,a,cap,rfl,h2,h3⟩:=h;refine⟨h1,a,cap,rfl,h2,?_⟩;rcases h3 with h3|⟨g,off,cs,rfl,h4,h5⟩
 ·exact .inl h3
 ·by_cases h0:l=[]
  ·exact .inl h0
  ·exact .inr ⟨g,off,cs,rfl,(hm.block g (bp h4) (hT g ⟨_,_,_,rfl,rfl,List.length_pos_iff.2 h0⟩)).trans h4,h5⟩
theorem xD.lt{w:YM}(h:jL w u l)(hk:xD u k):k<w.1.size:=by
 obtain⟨h1,a,cap,rfl,h2,h3⟩:=h;obtain⟨a',n,eu,e,rfl,hn⟩:=hk;simp only[ztd]at e;obtain⟨rfl,rfl,rfl⟩:=e;rcases h3 with h3|⟨g,off,cs,e,h4,h5⟩
 ·rw[h3]at hn;simp at hn
 ·cases e;exact bp h4
section
variable {w w':YM}{N:Nat}{c:kp}{D:SC}{X:DS}
theorem aL.zpY{L:RC}{win:Nat}{S:SY}(h:aL w N D L win S)(hk:By D k):k<w.1.size:=by
 obtain⟨u,hu,hv⟩:=hk;obtain⟨i,hi,rfl⟩:=List.getElem_of_mem hu;have hb:=h.aq.za i (by rw[<-h.aq.len];exact hi);rw[Yc hi]at hb;exact xD.lt hb hv
theorem bY.lt(h:bY w N c D X)(hk:ll c D k):k<w.1.size:=by
 have bn:=h.dk.le;rcases hk with rfl|rfl|rfl|hk|hk|hk
 ·exact Yr h.dk.Dv bn
 ·exact Yr h.dk.mlt bn
 ·exact Yr h.dk.eV bn
 ·exact h.dk.sys.PG hk
 ·exact h.dk.sys.Kv hk
 ·exact h.dk.sys.zpY hk
theorem bY.ne(h:bY w N c D X)(hk:Wr D k):k≠c.d/\k≠c.m/\k≠c.g:=by
 have h1:=h.dk.sys.base k hk;have h2:=h.dk.Dv;have h3:=h.dk.mlt;have h4:=h.dk.eV;omega
theorem fC.lo{B:Nat}(h:fC w)(hb:YO B w w')(hB:7<=B):fC w':=h.below hb (Yr dQ hB)
theorem bY.others(h:bY w N c D X){T:Nat->Prop}(hm:Mod w w' T)(hT:∀ k,ll c D k->¬T k)(ee:∀ k,T k->7<=k):bY w' N c D X:=by
 have hd:=h.lt (k:=c.d) (.inl rfl);have hmm:=h.lt (k:=c.m) (.inr (.inl rfl));have hg:=h.lt (k:=c.g) (.inr (.inr (.inl rfl)));have hb:YO 7 w w':=hm.toBelow (Yq h.dk.low h.dk.le) fun k hk ht=>by have:=ee k ht;omega
 refine⟨⟨(hm.block _ hd (hT _ (.inl rfl))).trans h.dk.blk,fun k hk=>(Ze (w:=w) (hm.block _ hg (hT _ (.inr (.inr (.inl rfl)))))).trans (h.dk.row k hk),h.dk.room,h.dk.Dv,h.dk.mlt,h.dk.eV,h.dk.low,Yq h.dk.le hm.size,h.dk.map.same (hm.block _ hmm (hT _ (.inr (.inl rfl)))),h.dk.num.lo hb lQ,?_⟩,h.cnt,h.err.lo hb lQ,h.eE,h.hi⟩;refine h.dk.sys.others hm (fun k hk=>hT k (hk.elim (fun x=>eO (.inl x)) fun x=>wF (.inl x))) fun i hi=>(h.dk.sys.aq.za i hi).others hm fun k hk=>hT k (z7 (zbJ hk))
theorem bY.below(h:bY w N c D X)(hB:YO w.1.size w w'):bY w' N c D X:=⟨h.dk.below hB,h.cnt,h.err.lo hB (Yq h.dk.low h.dk.le),h.eE,h.hi⟩
def iG(w w':YM)(c:kp)(D:SC)(X':DS):Prop:=∃ N' c' D',c'.d=c.d/\c'.m=c.m/\bY w' N' c' D' X'/\Mod w w' (fun k=>Wr D k\/k=c.d)/\∀ k,ll c' D' k->ll c D k\/w.1.size<=k
theorem bY.stays(h:bY w N c D X)(hB:YO w.1.size w w'):iG w w' c D X:=⟨N,c,D,rfl,rfl,h.below hB,Mod.fB hB _,fun _ x=>.inl x⟩
theorem bY.went(h:bY w N c D X){S':SY}{c':Int}(hg:aV w w' N D X.L X.win S' c'):iG w w' c D ⟨X.L,X.win,S',c'⟩:=by
 obtain⟨D',hp,hs,hm,xN,hc⟩:=hg;have hb:YO N w w':=hm.toBelow h.dk.le fun k hk hw=>by have:=h.dk.sys.base k hw;omega
 refine⟨N,c,D',rfl,rfl,⟨h.dk.lo hb hp hs,hc,h.err.lo hb h.dk.low,h.eE,h.hi⟩,hm.mono fun k _ hk=>.inl hk,fun k hk=>?_⟩;rcases hk with x|x|x|x|x|x
 ·exact .inl (.inl x)
 ·exact .inl (.inr (.inl x))
 ·exact .inl (.inr (.inr (.inl x)))
 ·exact(xN.gr.wr k x).imp (fun y=>eO (.inl y)) id
 ·exact(xN.gr.st k x).imp (fun y=>wF (.inl y)) id
 ·exact(xN.lies k x).imp (fun y=>wF (.inr y)) id
theorem iG.below{w2:YM}{X':DS}(h:iG w w' c D X')(hB:YO w'.1.size w' w2):iG w w2 c D X':=by
 obtain⟨N',c',D',e1,e2,h1,h2,h3⟩:=h;exact⟨N',c',D',e1,e2,h1.below hB,h2.below hB,h3⟩
end
variable {N:Nat}{c:kp}{D:SC}{X:DS}
def nu(w w':YM)(N:Nat)(D:SC)(X:DS)(op:Option DS)(e:Ending):Prop:=
 (e=.returned .nilIface/\∃ S' c',op=some ⟨X.L,X.win,S',c'⟩/\aV w w' N D X.L X.win S' c')\/(op=none/\e=.returned (.iface 74 (iQ 2))/\YO w.1.size w w')
def zo(w w':YM)(c:kp)(D:SC)(X:DS)(op:Option DS)(t:List UInt8)(e:Ending):Prop:=
 (∃ X',op=some X'/\e=.returned (.string (txt t))/\iG w w' c D X')\/(op=none/\e=thrown 2/\iG w w' c D X)
theorem zbM(w:YM)(lo:Nat):iY w lo (2,-1) (.iface 74 (iQ 2)):=.inr (.inl ⟨dQ,rfl,rfl⟩)
theorem zq(w:YM)(hg:fC w):YR prog 159 #[.iface 74 (iQ 2)] w fun e w'=>e=thrown 2/\YO w.1.size w w':=Wi w 0 (2,-1) _ (zbM w 0) dQ hg
theorem DO{V w':YM}{M:Nat}{op:Option DS}{e:Ending}(h:bY V N c D X)(hz:V.cell? (aQ M 0)=some (iQ z))(hM:¬Wr D M)(hd:nu V.drew w' N D X op e):
  (w'.cell? (aQ c.d 3)=some (pQ D.p)/\w'.cell? (aQ M 0)=some (iQ z))/\((e=.returned .nilIface/\∃ X',op=some X'/\Hid (iG V w' c D X'))\/(op=none/\e=.returned (.iface 74 (iQ 2))/\Hid (iG V w' c D X/\fC w'))):=by
 have ik:=ztA V _ hz;have oo:c.d<V.1.size:=h.lt (.inl rfl);have hB:YO V.1.size V V.drew:=(YS _ _).drew;have c3:=h.dk.c3;have key:Mod V w' (Wr D)->w'.cell? (aQ c.d 3)=some (pQ D.p)/\w'.cell? (aQ M 0)=some (iQ z):=fun hm=>⟨(Ze (w:=V) (a:=(aQ c.d 3)) (hm.block c.d oo fun hw=>(h.ne hw).1 rfl)).trans c3,(Ze (w:=V) (a:=(aQ M 0)) (hm.block M ik hM)).trans hz⟩
 rcases hd with ⟨rfl,S',c',ho,hg⟩|⟨ho,rfl,hb⟩
 ·have fI:=hg.pre hB;obtain⟨D',hp,hs,hm,xN,hc⟩:=fI;exact⟨key hm,.inl ⟨rfl,_,ho,ae (h.went (hg.pre hB))⟩⟩
 ·have gH:YO V.1.size V w':=hB.trans hb;exact⟨key (Mod.fB gH _),.inr ⟨ho,rfl,ae ⟨h.stays gH,(h.below gH).err⟩⟩⟩
theorem zpZ(V:YM)(M n cap:Nat)(z:Int)(op:Option DS)(h:bY V N c D X)(hn:0<n)(hz:V.cell? (aQ M 0)=some (iQ z))(hM:¬Wr D M)
  (hC:∀ W,bY W N c D X->YR prog 33 #[pQ D.p,iQ z] W fun e W'=>nu W W' N D X op e):
  YR prog 143 #[pQ c.d,.slice (some (aQ M 0)) n cap] V fun e V'=>zo V V' c D X op [97,115,107] e:=by
 have eB:V.drew.cell? (aQ c.d 3)=some (pQ D.p)/\V.drew.cell? (aQ M 0)=some (iQ z):=by simpa using⟨h.dk.c3,hz⟩
 have HC:=ae ((hC V.drew (h.below (YS _ _).drew)).mono fun e w' hd=>DO h hz hM hd);have gv:(0:Int)<(n:Int):=oQ;clear h hz hC;go_enter func143,ntmps143;go_wp2_with fail
 refine Zh (S:=fun Y=>Y.cell? (aQ c.d 3)=some (pQ D.p)/\Y.cell? (aQ M 0)=some (iQ z)) kQ eB (fun af=>?_);refine ai 0 (pQ c.d) af ?_;refine ai 1 (pQ c.d) af ?_;refine ai 2 (.pointer (some (aQ c.d 3))) af ?_;refine ai 3 (pQ D.p) af ?_;refine ai 4 (.slice (some (aQ M 0)) n cap) af ?_;refine ai 5 (pQ M) af ?_;refine ai 6 (iQ z) af ?_;refine aR 7 fun K hK=>?_
 go_simp;go_at_call 33;refine HC.o.mono ?_;rintro e w1 ⟨cm,⟨rfl,X',qp,HA⟩|⟨hop,rfl,HA⟩⟩
 ·dsimp only;refine hK.o _ _ cm (fun af=>?_);clear hK K;refine aR 8 fun K hK=>?_
  go_simp;go_at_call 159;refine(qX _).mono ?_;rintro e w2 ⟨rfl,rfl⟩;dsimp only;refine hK.o _ _ cm (fun af=>?_);clear hK K;refine Y7 kQ ?_ _;go_wp2
  go_ret;exact .inl ⟨X',qp,rfl,HA.o⟩
 ·dsimp only;refine hK.o _ _ cm (fun af=>?_);clear hK K;refine aR 8 fun K hK=>?_
  go_simp;go_at_call 159;refine(zq _ HA.o.2).mono ?_;rintro e w2 ⟨rfl,aS⟩;unfold thrown;dsimp only;exact⟨rfl,.inr ⟨hop,rfl,HA.o.1.below aS⟩⟩
theorem zp0(V:YM)(M n cap:Nat)(z:Int)(op:Option DS)(h:bY V N c D X)(hn:0<n)(hz:V.cell? (aQ M 0)=some (iQ z))(hM:¬Wr D M)
  (hC:∀ W,bY W N c D X->YR prog 32 #[pQ D.p,iQ z] W fun e W'=>nu W W' N D X op e):
  YR prog 156 #[pQ c.d,.slice (some (aQ M 0)) n cap] V fun e V'=>zo V V' c D X op [116,105,99,107] e:=by
 have eB:V.drew.cell? (aQ c.d 3)=some (pQ D.p)/\V.drew.cell? (aQ M 0)=some (iQ z):=by simpa using⟨h.dk.c3,hz⟩
 have HC:=ae ((hC V.drew (h.below (YS _ _).drew)).mono fun e w' hd=>DO h hz hM hd);have gv:(0:Int)<(n:Int):=oQ;clear h hz hC;go_enter func156,ntmps156;go_wp2_with fail
 refine Zh (S:=fun Y=>Y.cell? (aQ c.d 3)=some (pQ D.p)/\Y.cell? (aQ M 0)=some (iQ z)) kQ eB (fun af=>?_);refine ai 0 (pQ c.d) af ?_;refine ai 1 (pQ c.d) af ?_;refine ai 2 (.pointer (some (aQ c.d 3))) af ?_;refine ai 3 (pQ D.p) af ?_;refine ai 4 (.slice (some (aQ M 0)) n cap) af ?_;refine ai 5 (pQ M) af ?_;refine ai 6 (iQ z) af ?_;refine aR 7 fun K hK=>?_
 go_simp;go_at_call 32;refine HC.o.mono ?_;rintro e w1 ⟨cm,⟨rfl,X',qp,HA⟩|⟨hop,rfl,HA⟩⟩
 ·dsimp only;refine hK.o _ _ cm (fun af=>?_);clear hK K;refine aR 8 fun K hK=>?_
  go_simp;go_at_call 159;refine(qX _).mono ?_;rintro e w2 ⟨rfl,rfl⟩;dsimp only;refine hK.o _ _ cm (fun af=>?_);clear hK K;refine Y7 kQ ?_ _;go_wp2
  go_ret;exact .inl ⟨X',qp,rfl,HA.o⟩
 ·dsimp only;refine hK.o _ _ cm (fun af=>?_);clear hK K;refine aR 8 fun K hK=>?_
  go_simp;go_at_call 159;refine(zq _ HA.o.2).mono ?_;rintro e w2 ⟨rfl,aS⟩;unfold thrown;dsimp only;exact⟨rfl,.inr ⟨hop,rfl,HA.o.1.below aS⟩⟩
theorem zp1(V:YM)(M n cap:Nat)(z:Int)(op:Option DS)(h:bY V N c D X)(hn:0<n)(hz:V.cell? (aQ M 0)=some (iQ z))(hM:¬Wr D M)
  (hC:∀ W,bY W N c D X->YR prog 34 #[pQ D.p,iQ z] W fun e W'=>nu W W' N D X op e):
  YR prog 147 #[pQ c.d,.slice (some (aQ M 0)) n cap] V fun e V'=>zo V V' c D X op [100,101,108,105,118,101,114] e:=by
 have eB:V.drew.cell? (aQ c.d 3)=some (pQ D.p)/\V.drew.cell? (aQ M 0)=some (iQ z):=by simpa using⟨h.dk.c3,hz⟩
 have HC:=ae ((hC V.drew (h.below (YS _ _).drew)).mono fun e w' hd=>DO h hz hM hd);have gv:(0:Int)<(n:Int):=oQ;clear h hz hC;go_enter func147,ntmps147;go_wp2_with fail
 refine Zh (S:=fun Y=>Y.cell? (aQ c.d 3)=some (pQ D.p)/\Y.cell? (aQ M 0)=some (iQ z)) kQ eB (fun af=>?_);refine ai 0 (pQ c.d) af ?_;refine ai 1 (pQ c.d) af ?_;refine ai 2 (.pointer (some (aQ c.d 3))) af ?_;refine ai 3 (pQ D.p) af ?_;refine ai 4 (.slice (some (aQ M 0)) n cap) af ?_;refine ai 5 (pQ M) af ?_;refine ai 6 (iQ z) af ?_;refine aR 7 fun K hK=>?_
 go_simp;go_at_call 34;refine HC.o.mono ?_;rintro e w1 ⟨cm,⟨rfl,X',qp,HA⟩|⟨hop,rfl,HA⟩⟩
 ·dsimp only;refine hK.o _ _ cm (fun af=>?_);clear hK K;refine aR 8 fun K hK=>?_
  go_simp;go_at_call 159;refine(qX _).mono ?_;rintro e w2 ⟨rfl,rfl⟩;dsimp only;refine hK.o _ _ cm (fun af=>?_);clear hK K;refine Y7 kQ ?_ _;go_wp2
  go_ret;exact .inl ⟨X',qp,rfl,HA.o⟩
 ·dsimp only;refine hK.o _ _ cm (fun af=>?_);clear hK K;refine aR 8 fun K hK=>?_
  go_simp;go_at_call 159;refine(zq _ HA.o.2).mono ?_;rintro e w2 ⟨rfl,aS⟩;unfold thrown;dsimp only;exact⟨rfl,.inr ⟨hop,rfl,HA.o.1.below aS⟩⟩
theorem zp2(V:YM)(M n cap:Nat)(z:Int)(op:Option DS)(h:bY V N c D X)(hn:0<n)(hz:V.cell? (aQ M 0)=some (iQ z))(hM:¬Wr D M)
  (hC:∀ W,bY W N c D X->YR prog 35 #[pQ D.p,iQ z] W fun e W'=>nu W W' N D X op e):
  YR prog 150 #[pQ c.d,.slice (some (aQ M 0)) n cap] V fun e V'=>zo V V' c D X op [108,111,115,101] e:=by
 have eB:V.drew.cell? (aQ c.d 3)=some (pQ D.p)/\V.drew.cell? (aQ M 0)=some (iQ z):=by simpa using⟨h.dk.c3,hz⟩
 have HC:=ae ((hC V.drew (h.below (YS _ _).drew)).mono fun e w' hd=>DO h hz hM hd);have gv:(0:Int)<(n:Int):=oQ;clear h hz hC;go_enter func150,ntmps150;go_wp2_with fail
 refine Zh (S:=fun Y=>Y.cell? (aQ c.d 3)=some (pQ D.p)/\Y.cell? (aQ M 0)=some (iQ z)) kQ eB (fun af=>?_);refine ai 0 (pQ c.d) af ?_;refine ai 1 (pQ c.d) af ?_;refine ai 2 (.pointer (some (aQ c.d 3))) af ?_;refine ai 3 (pQ D.p) af ?_;refine ai 4 (.slice (some (aQ M 0)) n cap) af ?_;refine ai 5 (pQ M) af ?_;refine ai 6 (iQ z) af ?_;refine aR 7 fun K hK=>?_
 go_simp;go_at_call 35;refine HC.o.mono ?_;rintro e w1 ⟨cm,⟨rfl,X',qp,HA⟩|⟨hop,rfl,HA⟩⟩
 ·dsimp only;refine hK.o _ _ cm (fun af=>?_);clear hK K;refine aR 8 fun K hK=>?_
  go_simp;go_at_call 159;refine(qX _).mono ?_;rintro e w2 ⟨rfl,rfl⟩;dsimp only;refine hK.o _ _ cm (fun af=>?_);clear hK K;refine Y7 kQ ?_ _;go_wp2
  go_ret;exact .inl ⟨X',qp,rfl,HA.o⟩
 ·dsimp only;refine hK.o _ _ cm (fun af=>?_);clear hK K;refine aR 8 fun K hK=>?_
  go_simp;go_at_call 159;refine(zq _ HA.o.2).mono ?_;rintro e w2 ⟨rfl,aS⟩;unfold thrown;dsimp only;exact⟨rfl,.inr ⟨hop,rfl,HA.o.1.below aS⟩⟩
theorem zp3(V:YM)(M n cap:Nat)(z:Int)(op:Option DS)(h:bY V N c D X)(hn:0<n)(hz:V.cell? (aQ M 0)=some (iQ z))(hM:¬Wr D M)
  (hC:∀ W,bY W N c D X->YR prog 36 #[pQ D.p,iQ z] W fun e W'=>nu W W' N D X op e):
  YR prog 158 #[pQ c.d,.slice (some (aQ M 0)) n cap] V fun e V'=>zo V V' c D X op [116,119,105,99,101] e:=by
 have eB:V.drew.cell? (aQ c.d 3)=some (pQ D.p)/\V.drew.cell? (aQ M 0)=some (iQ z):=by simpa using⟨h.dk.c3,hz⟩
 have HC:=ae ((hC V.drew (h.below (YS _ _).drew)).mono fun e w' hd=>DO h hz hM hd);have gv:(0:Int)<(n:Int):=oQ;clear h hz hC;go_enter func158,ntmps158;go_wp2_with fail
 refine Zh (S:=fun Y=>Y.cell? (aQ c.d 3)=some (pQ D.p)/\Y.cell? (aQ M 0)=some (iQ z)) kQ eB (fun af=>?_);refine ai 0 (pQ c.d) af ?_;refine ai 1 (pQ c.d) af ?_;refine ai 2 (.pointer (some (aQ c.d 3))) af ?_;refine ai 3 (pQ D.p) af ?_;refine ai 4 (.slice (some (aQ M 0)) n cap) af ?_;refine ai 5 (pQ M) af ?_;refine ai 6 (iQ z) af ?_;refine aR 7 fun K hK=>?_
 go_simp;go_at_call 36;refine HC.o.mono ?_;rintro e w1 ⟨cm,⟨rfl,X',qp,HA⟩|⟨hop,rfl,HA⟩⟩
 ·dsimp only;refine hK.o _ _ cm (fun af=>?_);clear hK K;refine aR 8 fun K hK=>?_
  go_simp;go_at_call 159;refine(qX _).mono ?_;rintro e w2 ⟨rfl,rfl⟩;dsimp only;refine hK.o _ _ cm (fun af=>?_);clear hK K;refine Y7 kQ ?_ _;go_wp2
  go_ret;exact .inl ⟨X',qp,rfl,HA.o⟩
 ·dsimp only;refine hK.o _ _ cm (fun af=>?_);clear hK K;refine aR 8 fun K hK=>?_
  go_simp;go_at_call 159;refine(zq _ HA.o.2).mono ?_;rintro e w2 ⟨rfl,aS⟩;unfold thrown;dsimp only;exact⟨rfl,.inr ⟨hop,rfl,HA.o.1.below aS⟩⟩
theorem zp4(V:YM)(M n cap:Nat)(z:Int)(op:Option DS)(h:bY V N c D X)(hn:0<n)(hz:V.cell? (aQ M 0)=some (iQ z))(hM:¬Wr D M)
  (hC:∀ W,bY W N c D X->YR prog 38 #[pQ D.p,iQ z] W fun e W'=>nu W W' N D X op e):
  YR prog 146 #[pQ c.d,.slice (some (aQ M 0)) n cap] V fun e V'=>zo V V' c D X op [99,114,97,115,104] e:=by
 have eB:V.drew.cell? (aQ c.d 3)=some (pQ D.p)/\V.drew.cell? (aQ M 0)=some (iQ z):=by simpa using⟨h.dk.c3,hz⟩
 have HC:=ae ((hC V.drew (h.below (YS _ _).drew)).mono fun e w' hd=>DO h hz hM hd);have gv:(0:Int)<(n:Int):=oQ;clear h hz hC;go_enter func146,ntmps146;go_wp2_with fail
 refine Zh (S:=fun Y=>Y.cell? (aQ c.d 3)=some (pQ D.p)/\Y.cell? (aQ M 0)=some (iQ z)) kQ eB (fun af=>?_);refine ai 0 (pQ c.d) af ?_;refine ai 1 (pQ c.d) af ?_;refine ai 2 (.pointer (some (aQ c.d 3))) af ?_;refine ai 3 (pQ D.p) af ?_;refine ai 4 (.slice (some (aQ M 0)) n cap) af ?_;refine ai 5 (pQ M) af ?_;refine ai 6 (iQ z) af ?_;refine aR 7 fun K hK=>?_
 go_simp;go_at_call 38;refine HC.o.mono ?_;rintro e w1 ⟨cm,⟨rfl,X',qp,HA⟩|⟨hop,rfl,HA⟩⟩
 ·dsimp only;refine hK.o _ _ cm (fun af=>?_);clear hK K;refine aR 8 fun K hK=>?_
  go_simp;go_at_call 159;refine(qX _).mono ?_;rintro e w2 ⟨rfl,rfl⟩;dsimp only;refine hK.o _ _ cm (fun af=>?_);clear hK K;refine Y7 kQ ?_ _;go_wp2
  go_ret;exact .inl ⟨X',qp,rfl,HA.o⟩
 ·dsimp only;refine hK.o _ _ cm (fun af=>?_);clear hK K;refine aR 8 fun K hK=>?_
  go_simp;go_at_call 159;refine(zq _ HA.o.2).mono ?_;rintro e w2 ⟨rfl,aS⟩;unfold thrown;dsimp only;exact⟨rfl,.inr ⟨hop,rfl,HA.o.1.below aS⟩⟩
variable {N:Nat}{c:kp}{D:SC}{X:DS}
theorem zp5(V:YM)(a:YN)(h:bY V N c D X):
  YR prog 149 #[pQ c.d,a] V fun e V'=>e=.returned (.string (txt [108,97,116,99,104]))/\iG V V' c D ⟨X.L,X.win,Dg X.S,X.c⟩:=by
 have c3:=h.dk.c3;have HC:Hid (YR prog 41 #[pQ D.p] V fun e w'=>e=.returned (.tuple #[])/\Hid (iG V w' c D ⟨X.L,X.win,Dg X.S,X.c⟩)):=ae ((zpF N D X.L X.win X.S V h.dk.sys X.c h.cnt).mono fun e w' hh=>⟨hh.1,ae (h.went hh.2)⟩);clear h;go_enter func149,ntmps149;go_wp2_with fail
 go_at_call 41;refine HC.o.mono ?_;rintro e w1 ⟨rfl,HA⟩;go_wp2
 go_ret;exact⟨rfl,HA.o⟩
def zr(X:DS):List Int:=[(X.S.aq.length:Int),Zs (X.c-(X.S.aq.length:Int))]
theorem zbN(n:Int):dc (Zs n):=by unfold Zs dc;omega
theorem zp6(V:YM)(a:YN)(h:bY V N c D X)(cP:X.S.aq.length<=1000):
  YR prog 151 #[pQ c.d,a] V fun e V'=>e=.returned (.string (txt (fY (zr X))))/\YO V.1.size V V':=by
 have c3:=h.dk.c3;have eB:V.drew.cell? (aQ c.d 3)=some (pQ D.p):=by simpa using c3
 have HM:=ae (znP N D X.L X.win X.S V.drew (h.below (YS _ _).drew).dk.sys);have iD:=ae (zpU N D X.L X.win X.S V.drew (h.below (YS _ _).drew).dk.sys);have fc:D.lost=Zs (X.c-(X.S.aq.length:Int)):=h.cnt;have HI:Hid (∀ z∈zr X,dc z):=ae (by
  intro z hz;unfold zr at hz;simp only[Yl,Yo,YL]at hz;rcases hz with rfl|rfl
  ·unfold dc;omega
  ·exact zbN _)
 have HT:Hid (zr X=[(X.S.aq.length:Int),D.lost]):=ae (by unfold zr;rw[fc]);rw[HT.o]at HI⊢;have HN:=ae h.dk.num;obtain⟨q1,vG⟩:∃ q,Hid ((X.S.aq.length:Int)=q):=eQ;obtain⟨q2,yy⟩:∃ q,Hid (D.lost=q):=eQ;rw[vG.o]at HM HI⊢;rw[yy.o]at iD HI⊢;have HP:Hid (YR prog 182 #[.slice (some (aQ V.1.size 0)) 2 2] (V.drew.alloc (.cells #[iQ q1,iQ q2] 3)) fun e w'=>e=.returned (.string (txt (fY [q1,q2])))/\w'.cell? (aQ c.d 3)=some (pQ D.p)/\Hid (YO V.1.size V w')):=ae (by
  have aS:YO V.1.size V (V.drew.alloc (.cells #[iQ q1,iQ q2] 3)):=(YS V.1.size V).drew.alloc (Yp V.1.size) _;refine(CH [q1,q2] (some (aQ V.1.size 0)) 2 2 _ (Dw V.drew [q1,q2] 2 rfl) HI.o oQ (HN.o.below aS).pow).mono ?_;rintro e w' ⟨rfl,hB⟩;have aZ:=aS.trans (hB.mono aS.size);exact⟨rfl,(h.below aZ).dk.c3,ae aZ⟩)
 have hca:(V.drew.alloc (.cells #[iQ q1,iQ q2] 3)).cell? (aQ c.d 3)=some (pQ D.p):=(h.below ((YS V.1.size V).drew.alloc (Yp V.1.size) _)).dk.c3;clear h fc HT HI;go_enter func151,ntmps151;go_wp2_with fail
 refine Zh (S:=fun Y=>Y.cell? (aQ c.d 3)=some (pQ D.p)) kQ eB (fun af=>?_);refine ai 0 (pQ c.d) af ?_;refine ai 1 (pQ c.d) af ?_;refine ai 2 (.pointer (some (aQ c.d 3))) af ?_;refine ai 3 (pQ D.p) af ?_;refine ai 5 (pQ c.d) af ?_;refine ai 6 (pQ c.d) af ?_;refine ai 7 (.pointer (some (aQ c.d 3))) af ?_;refine ai 8 (pQ D.p) af ?_;refine aR 4 fun K hK=>?_
 go_simp;go_at_call 30;refine HM.o.mono ?_;rintro e w1 ⟨rfl,rfl⟩;dsimp only;refine hK.o _ _ eB (fun af=>?_);clear hK K;refine aR 9 fun K hK=>?_
 go_simp;go_at_call 183;refine iD.o.mono ?_;rintro e w2 ⟨rfl,rfl⟩;dsimp only;refine hK.o _ _ eB (fun af=>?_);clear hK K;refine aR 10 fun K hK=>?_
 go_simp;refine hK.o _ _ hca (fun af=>?_);clear hK K;refine aR 11 fun K hK=>?_
 go_simp;go_at_call 182;refine HP.o.mono ?_;rintro e w3 ⟨rfl,BK,xB⟩;dsimp only;refine hK.o _ _ BK (fun af=>?_);clear hK K;refine aR 12 fun K hK=>?_
 go_simp;refine hK.o _ _ BK (fun af=>?_);clear hK K;refine Y7 kQ ?_ _;go_wp2
 go_ret;exact⟨rfl,xB.o⟩
def zbO:List UInt8:=[97,115,107,32,98,101,103,105,110,32,99,97,108,109,32,99,111,110,102,108,105,99,116,115,32,99,114,97,115,104,32,100,101,108,105,118,101,114,32,104,101,108,112,32,108,97,116,99,104,32,108,111,115,101,32,109,97,110,121,32,109,111,115,116,32,114,101,112,108,105,99,97,32,115,101,101,32,115,104,111,119,32,116,105,99,107,32,116,114,97,99,101,32,116,119,105,99,101]
theorem zp7(V:YM)(d a:YN):
  YR prog 148 #[d,a] V fun e V'=>e=.returned (.string (txt zbO))/\V'=V:=by
 go_enter func148,ntmps148;go_wp2
 go_ret;exact⟨rfl,rfl⟩
variable {N win:Nat}{c:kp}{D:SC}{L:RC}{S:SY}
def lX(d:Cm):List UInt8:=fY [d.c,d.v,d.o]
def DR(tr:List Cm):List UInt8:=zsX (tr.map lX) [44,32]
def zbP(d:Cm):Prop:=dc d.c/\dc d.v/\dc d.o
structure BA(w1 wr:YM)(cv:YN)(tr:List Cm)(k:Nat):Prop where
 old:YO w1.1.size w1 wr
 own:wr.ownsRow w1.1.size 9 1 cv k ((tr.take k).map fun d=>ztU (txt (lX d)))
theorem BA.below{w1 wr wx:YM}{cv:YN}{tr:List Cm}(h:BA w1 wr cv tr k)(hB:YO wr.1.size wr wx):BA w1 wx cv tr k:=by
 refine⟨h.old.trans (hB.mono h.old.size),h.own.1,?_⟩;rcases h.own.2 with h2|⟨g,cap,bA,hg,h3,h4,h5⟩
 ·exact .inl h2
 ·exact .inr ⟨g,cap,bA,hg,h3,(hB.block g (bp h4)).trans h4,h5⟩
theorem zp8:(prog.info? 9).map (fun i=>(i.zero,i.size,i.bytes))=some (some (.string ⟨#[]⟩),1,16):=kQ
theorem zbQ(xs:List (List UInt8))(sep:List UInt8)(m:Nat)(h:∀ x∈xs,x.length+sep.length<=m):(zsX xs sep).length<=m*xs.length:=by
 induction xs with
 |nil=>simp[zsX,zvX]
 |cons x r ih=>
  have h1:=h x sQ;have h2:=ih fun y hy=>h y (by simp[hy])
  cases r with
  |nil=>simp[zsX,zvX];omega
  |cons y r=>
   rw[Lib.join_cons]at h2⊢;have e:zvj sep (y::r)=sep++(y++zvj sep r):=by simp[zvj]
   rw[e];simp only[Yf,Yg,Nat.mul_add,Nat.mul_one]at h2⊢;omega
theorem zp9(V:YM)(a:YN)(h:jM V N c D L win S)(av:dS win S.v)(hn:S.v.tr.length<=20000)(fW:∀ d∈S.v.tr,zbP d):
  YR prog 157 #[pQ c.d,a] V fun e V'=>e=.returned (.string (txt (DR S.v.tr)))/\YO V.1.size V V':=by
 have c3:=h.c3;have HT:=ae (znU N D L win S V h.sys av);have HNU:=ae h.num;obtain⟨tr,yb⟩:∃ tr,S.v.tr=tr:=⟨_,rfl⟩;rw[yb]at HT hn fW⊢;have Bv:=ae fW;obtain⟨i0,hi,cQ,bf,bK⟩:=info_parts zp8;have HI:=ae hi;have fN:=ae cQ;have gP:=ae bf;have gQ:=ae bK;clear h av fW hi cQ bf bK yb;go_enter func157,ntmps157;go_wp2_with fail
 go_at_call 13;refine HT.o.mono ?_;rintro e w1 ⟨⟨tv,rfl,QO⟩,hB⟩;obtain⟨ta,tc,rfl⟩:=QO.shape;have HTI:=ae QO;have HB:=ae hB;clear QO hB HT;have jD:Hid (BA w1 w1 (.slice none 0 0) tr 0):=ae ⟨YS _ _,rfl,.inl ⟨rfl,rfl⟩⟩;go_wp2
 go_loopw [5,14] (fun cv i wr=>∃ k:Nat,k<=tr.length/\i=iQ k/\BA w1 wr cv tr k) (fun _ i _=>tr.length-(intOf i).toNat)
 case atStart=>exact⟨0,Yw _,rfl,jD.o⟩
 case round=>
  clear jD;obtain⟨k,hk,rfl,hI⟩:=hrel;by_cases aj:k<tr.length
  ·obtain⟨g,cap,he,eY,cY,fw⟩:=HTI.o.has oQ;simp only[ztd]at he;obtain⟨rfl,_,rfl⟩:=he;have hr:=(HTI.o.same (w':=wr) fun g' fI=>by cases fI;exact hI.old.block _ cY).range aj;have oH:cd tr k∈tr:=by unfold cd;rw[Yc aj];exact zsf aj
   have HCI:=ae (Bv.o _ oH);have K8:Hid ((tr.take (k+1)).map (fun d=>ztU (txt (lX d)))=(tr.take k).map (fun d=>ztU (txt (lX d)))++[ztU (txt (lX (cd tr k)))]):=ae (by
    rw[zso,zsk,Yc aj];unfold cd;rw[Yc aj];rfl)
   obtain⟨x0,h0⟩:∃ x,Hid ((cd tr k).c=x):=eQ;obtain⟨x1,h1⟩:∃ x,Hid ((cd tr k).v=x):=eQ;obtain⟨x2,h2⟩:∃ x,Hid ((cd tr k).o=x):=eQ;rw[h0.o,h1.o,h2.o]at hr;have r0:wr.cell? (aQ g (k*3))=some (iQ x0):=hr 0 _ rfl;have r1:wr.cell? (aQ g (k*3+1))=some (iQ x1):=hr 1 _ rfl;have r2:wr.cell? (aQ g (k*3+2))=some (iQ x2):=hr 2 _ rfl;have t1:(k:Int)<(tr.length:Int):=oQ;have t2:(0:Int)<=(k:Int):=oQ;have t3:decide ((k:Int)<(tr.length:Int))=true:=YE t1;have iC:=ae hI;obtain⟨X,hX⟩:∃ X,Hid ((wr.alloc (.cells #[iQ x0,iQ x1,iQ x2] 49)).alloc (.cells #[iQ x0,iQ x1,iQ x2] 3)=X):=eQ;clear hI hr oH;have HS:Hid (YR prog 182 #[.slice (some (aQ (wr.1.size+1) 0)) 3 3] X fun e w'=>e=.returned (.string (txt (lX (cd tr k))))/\Hid (BA w1 w' u5 tr k)):=ae (by
    have aX:YO wr.1.size wr (wr.alloc (.cells #[iQ x0,iQ x1,iQ x2] 49)):=(YS _ _).alloc lQ _;have jQ:(wr.alloc (.cells #[iQ x0,iQ x1,iQ x2] 49)).1.size=wr.1.size+1:=World.size_alloc _ _;generalize wr.alloc (.cells #[iQ x0,iQ x1,iQ x2] 49)=y1 at aX jQ hX;have bo:YO y1.1.size y1 X:=by rw[<-hX.o];exact(YS _ _).alloc lQ _
    have eW:kx X (some (aQ (wr.1.size+1) 0)) 3 3 [x0,x1,x2]:=by
     rw[<-hX.o,<-jQ];exact Dw y1 [x0,x1,x2] 3 rfl
    have jr:=(iC.o.below aX).below bo;have hnX:kg X:=(HNU.o.below HB.o).below jr.old;refine(CH [x0,x1,x2] (some (aQ (wr.1.size+1) 0)) 3 3 X eW ?_ oQ hnX.pow).mono ?_
    ·intro z hz;simp only[Yl,Yo,YL]at hz;obtain⟨q0,q1,q2⟩:=HCI.o;rw[h0.o]at q0;rw[h1.o]at q1;rw[h2.o]at q2;rcases hz with rfl|rfl|rfl
     ·exact q0
     ·exact q1
     ·exact q2
    ·rintro e w' ⟨rfl,cN⟩;refine⟨?_,ae (jr.below cN)⟩;unfold lX;rw[h0.o,h1.o,h2.o])
   go_wp2_with fail
   rw[hX.o];refine HS.o.mono ?_;rintro e w3 ⟨rfl,cj⟩;obtain⟨s,hs⟩:∃ s,Hid (lX (cd tr k)=s):=eQ;rw[hs.o];rw[hs.o]at K8;have hYb:YO w3.1.size w3 (w3.alloc (.cells #[.string (txt s)] 9)):=(YS _ _).alloc lQ _;have vO:=ae (cj.o.below hYb);clear HS cj r0 r1 r2 HCI h0 h1 h2 hX iC hYb;go_wp2_with (at_builtin;refine wpList_append_own _ rfl _ _ 70 rfl w1.1.size 9 i0 (.string ⟨#[]⟩) 1 16 underlying70 HI.o fN.o gP.o gQ.o rfl dQ _ _ _ rfl vO.o.own (aQ _ 0) 1 1 [.string (txt s)] rfl rfl ?c1 ?c2 ?c3 ?c4 ?c5 ?_)
   case c1=>
    intro j u hj;match j,hj with
    | 0,hj=>simp at hj;subst hj;exact World.cell?_alloc_at _ _ _ _ rfl
   case c2=>intro u hu;simp at hu;subst hu;rfl
   case c3=>unfold maxLen;omega
   case c4=>omega
   case c5=>exact vO.o.old.size
   intro v' w4 bC bL _;have nU:Hid (BA w1 w4 v' tr (k+1)):=ae ⟨⟨bL.os.trans vO.o.old.os,bL.tape.trans vO.o.old.tape,bL.output.trans vO.o.old.output,Yq vO.o.old.size bL.size,fun q hq=>(bL.block q (Yr hq vO.o.old.size) (fun e=>by have:=(vO.o.own.lt q e.symm).1;omega)).trans (vO.o.old.block q hq)⟩,by rw[K8.o];simpa only [List.map_take]using bC⟩;clear bC bL vO;go_wp2
   go_roundw
   case rel=>exact⟨k+1,oQ,by go_num,nU.o⟩
   case measure=>simp[intOf];omega
  ·have ek:k=tr.length:=oQ;subst ek;have t3:decide ((tr.length:Int)<(tr.length:Int))=false:=YD oQ;have jP:tr.take tr.length=tr:=List.take_length;have HO:=ae hI.old;have HW:=ae hI.own;rw[jP]at HW;have HJ:Hid (YR prog 186 #[u5,.string ⟨#[44,32]⟩] wr fun e w'=>e=.returned (.string (txt (DR tr)))/\YO wr.1.size wr w'):=ae (by
    rcases HW.o.2 with ⟨rfl,zrh⟩|⟨g,cap,bA,rfl,_,hg,Oq,_⟩
    ·have h0:tr=[]:=by
      cases tr with
      |nil=>rfl
      |cons d r=>simp at zrh
     subst h0;refine(Tryz.strings_Join_none none 0 ⟨#[44,32]⟩ wr).mono ?_;rintro e w' ⟨rfl,rfl⟩;exact⟨rfl,YS _ _⟩
    ·have eX:=HW.o.cells (g:=g) rfl;have hj:=Tryz.strings_Join g 0 cap (tr.map fun d=>txt (lX d)) ⟨#[44,32]⟩ wr (fun j x hx=>by
      rw[zsd]at hx;obtain⟨d,hd,rfl⟩:=Yx.1 hx;have:=eX j (.string (txt (lX d))) (by rw[zsd,hd];rfl);rw[Addr.add_mid]at this;exact this) (bp hg) (by rw[Yh];omega) (by rw[Yh];exact Oq) ?_
     ·rw[Yh]at hj;refine hj.mono ?_;rintro e w' ⟨rfl,cN⟩;refine⟨?_,cN⟩;unfold DR;rw[List.map_map];rfl
     ·have QP:=zbQ (tr.map lX) [44,32] 100 fun x hx=>by
       obtain⟨d,hd,rfl⟩:=Ym.1 hx;obtain⟨q0,q1,q2⟩:=Bv.o d hd;have:=Ax [d.c,d.v,d.o] (fun z hz=>by
        simp only[Yl,Yo,YL]at hz;rcases hz with rfl|rfl|rfl
        ·exact q0
        ·exact q1
        ·exact q2)
       unfold lX;simp at this⊢;omega
      rw[Yh]at QP;have e:((tr.map fun d=>txt (lX d)).map (·.data.toList))=tr.map lX:=by rw[List.map_map];rfl
      rw[e];show(zsX (tr.map lX) [44,32]).length<=_;omega)
   clear hI HW jP Bv;go_wp2_with (go_at_call 186;refine HJ.o.mono ?_;rintro e w9 ⟨rfl,vv⟩)
   go_ret;have hq:=HB.o.trans (HO.o.mono HB.o.size);exact⟨rfl,hq.trans (vv.mono hq.size)⟩
def rN:List (List UInt8×(Int×Int×Nat)):=[
 ([97,115,107],(1,1,0)),
 ([98,101,103,105,110],(4,9223372036854775807,1)),
 ([99,97,108,109],(1,1,2)),
 ([99,111,110,102,108,105,99,116,115],(0,0,3)),
 ([99,114,97,115,104],(1,1,4)),
 ([100,101,108,105,118,101,114],(1,1,5)),
 ([104,101,108,112],(0,0,6)),
 ([108,97,116,99,104],(0,0,7)),
 ([108,111,115,101],(1,1,8)),
 ([109,97,110,121],(0,0,9)),
 ([109,111,115,116],(0,0,10)),
 ([114,101,112,108,105,99,97],(1,1,11)),
 ([115,101,101],(3,3,12)),
 ([115,104,111,119],(0,0,13)),
 ([116,105,99,107],(1,1,14)),
 ([116,114,97,99,101],(0,0,15)),
 ([116,119,105,99,101],(1,1,16))]
def rR:Nat->Nat
 | 0=>143
 | 1=>93
 | 2=>144
 | 3=>145
 | 4=>146
 | 5=>147
 | 6=>148
 | 7=>149
 | 8=>150
 | 9=>151
 | 10=>152
 | 11=>153
 | 12=>154
 | 13=>155
 | 14=>156
 | 15=>157
 | 16=>158
 |_=>0
theorem zqa(d:Nat):pZ d=rN.map fun p=>(p.1,dC d p.2.1 p.2.2.1 (rR p.2.2.2)):=rfl
theorem zbR{β γ:Type}(g:β->γ)(x:List UInt8):∀ l:List (List UInt8×β),(l.map fun p=>(p.1,g p.2)).lookup x=(l.lookup x).map g
 |[]=>rfl
 |(y,b)::l=>by
  simp only[Yi,zBf];cases x==y
  ·exact zbR g x l
  ·rfl
theorem zqb(d:Nat)(x:List UInt8):(pZ d).lookup x=(rN.lookup x).map fun p=>dC d p.1 p.2.1 (rR p.2.2):=by
 rw[zqa];exact zbR (fun p=>dC d p.1 p.2.1 (rR p.2.2)) x rN
theorem zbS{x:List UInt8}{b:Int}(h:rN.lookup x=some (a,b,o)):∃ w,(w,(a,b,o))∈rN:=by
 have key:∀ l:List (List UInt8×(Int×Int×Nat)),l.lookup x=some (a,b,o)->∃ w,(w,(a,b,o))∈l:=by
  intro l;induction l with
  |nil=>intro h;cases h
  |cons p l ih=>
   intro h;obtain⟨y,q⟩:=p;rw[zBf]at h;cases e:x==y
   ·rw[e]at h;obtain⟨w,hw⟩:=ih h;exact⟨w,zy2 _ hw⟩
   ·rw[e]at h;cases h;exact⟨y,List.mem_cons_self⟩
 exact key _ h
def rS(op:Option DS)(t:List UInt8)(X X':DS)(s:List UInt8):Prop:=(op=some X'/\s=t)\/(op=none/\X'=X/\s=gN 2)
def DT(z:Int)(X:DS):Option DS:=if cV z=true then some ⟨X.L,X.win,Km z.toNat X.S,X.c+jw z.toNat 3⟩else none
def DU(z:Int)(X:DS):Option DS:=if cV z=true then some ⟨X.L,X.win,Pn z.toNat X.S,X.c⟩else none
def DV(z x y:Int)(X:DS):Option DS:=if cV z=true then some ⟨X.L,X.win,Kn z.toNat x y X.S,X.c⟩else none
def DW(z:Int)(X:DS):Option DS:=if cV z=true then some ⟨X.L,X.win,qi X.L z.toNat X.S,X.c+zm X.L z.toNat X.S⟩else if z=3 then some ⟨X.L,X.win,xq X.S,X.c⟩else none
def DX(z:Int)(X:DS):Option DS:=if 0<=z/\z<(X.S.aq.length:Int)then some ⟨X.L,X.win,fS X.L X.win z.toNat X.S,X.c+og X.L X.win z.toNat X.S⟩else none
def DY(z:Int)(X:DS):Option DS:=if 0<=z/\z<(X.S.aq.length:Int)then some ⟨X.L,X.win,ju z.toNat X.S,X.c-1⟩else none
def DZ(z:Int)(X:DS):Option DS:=if 0<=z/\z<(X.S.aq.length:Int)then some ⟨X.L,X.win,Po (gU X.S.aq z.toNat) X.S,X.c+1⟩else none
def Ho(z:Int)(X X':DS)(s:List UInt8):Prop:=(z<0\/100<z)/\X'=X/\s=gN 2\/¬(z<0\/100<z)/\∃ S' c',qo X.L X.win z.toNat X.S X.c S' c'/\X'=⟨X.L,X.win,S',c'⟩/\s=[99,97,108,109]
def xG(s:Int)(zs:List Int)(d:Int):RC:=⟨s.toNat,d.toNat,zs.length,zs,0,0,0,0,0,0⟩
def D5(a d s:Int)(zs:List Int)(X X':DS)(t:List UInt8):Prop:=
 cw s zs d≠(0,-1)/\X'=X/\t=gN ((cw s zs d).1:Int)\/cw s zs d=(0,-1)/\((a<1\/20<a)/\X'=X/\t=gN 2\/¬(a<1\/20<a)/\X'=⟨xG s zs d,a.toNat,ko a.toNat,0⟩/\t=[98,101,103,105,110])
def Hp(z:Int)(X:DS):List UInt8:=if cV z=true then fY [(X.S.rp z.toNat).cycle,((X.S.rp z.toNat).st.set:Int)]else gN 2
def xH(o:Nat)(l:List Int)(X X':DS)(s:List UInt8):Prop:=
 match o,l with
 | 0,[z]=>rS (DT z X) [97,115,107] X X' s
 | 1,a::d::sx::zs=>D5 a d sx zs X X' s
 | 2,[z]=>Ho z X X' s
 | 3,[]=>X'=X/\s=fY (tR X.L)
 | 4,[z]=>rS (DU z X) [99,114,97,115,104] X X' s
 | 5,[z]=>rS (DX z X) [100,101,108,105,118,101,114] X X' s
 | 6,[]=>X'=X/\s=zbO
 | 7,[]=>X'=⟨X.L,X.win,Dg X.S,X.c⟩/\s=[108,97,116,99,104]
 | 8,[z]=>rS (DY z X) [108,111,115,101] X X' s
 | 9,[]=>X'=X/\s=fY (zr X)
 | 10,[]=>X'=X/\s=fY [((most (lI X.L.zs):Nat):Int)]
 | 11,[z]=>X'=X/\s=Hp z X
 | 12,[z,x,y]=>rS (DV z x y X) [115,101,101] X X' s
 | 13,[]=>X'=X/\s=G9 X.S.v
 | 14,[z]=>rS (DW z X) [116,105,99,107] X X' s
 | 15,[]=>X'=X/\s=DR X.S.v.tr
 | 16,[z]=>rS (DZ z X) [116,119,105,99,101] X X' s
 |_,_=>False
def nw(X:DS)(bI:List UInt8)(X':DS)(s:List UInt8):Prop:=
 match lH bI with
 |[]=>X'=X/\s=[111,107]
 |x::r=>
  match rN.lookup x with
  |none=>X'=X/\s=gN 3
  |some (a,b,o)=>
   if(r.length:Int)<a\/b<(r.length:Int)then X'=X/\s=gN 3
   else
    match oX r with
    |none=>X'=X/\s=gN 3
    |some l=>xH o l X X' s
theorem rS.qq{op:Option DS}{s1 s2:List UInt8}{X A B:DS}(h1:rS op t X A s1)(h2:rS op t X B s2):A=B/\s1=s2:=by
 rcases h1 with ⟨e1,e2⟩|⟨e1,e2,e3⟩<;>rcases h2 with ⟨g1,g2⟩|⟨g1,g2,g3⟩
 ·rw[e1]at g1;exact⟨Yz g1,e2.trans g2.symm⟩
 ·rw[e1]at g1;cases g1
 ·rw[e1]at g1;cases g1
 ·exact⟨e2.trans g2.symm,e3.trans g3.symm⟩
theorem Ho.qq{s1 s2:List UInt8}{X A B:DS}(h1:Ho z X A s1)(h2:Ho z X B s2):A=B/\s1=s2:=by
 rcases h1 with ⟨e0,e1,e2⟩|⟨e0,S1,c1,k1,e1,e2⟩<;>rcases h2 with ⟨g0,g1,g2⟩|⟨g0,S2,c2,k2,g1,g2⟩
 ·exact⟨e1.trans g1.symm,e2.trans g2.symm⟩
 ·exact absurd e0 g0
 ·exact absurd g0 e0
 ·obtain⟨rfl,rfl⟩:=zbH _ k1 k2;exact⟨e1.trans g1.symm,e2.trans g2.symm⟩
theorem D5.qq{d s:Int}{zs:List Int}{s1 s2:List UInt8}{X A B:DS}(h1:D5 a d s zs X A s1)(h2:D5 a d s zs X B s2):A=B/\s1=s2:=by
 rcases h1 with ⟨e0,e1,e2⟩|⟨e0,⟨e3,e1,e2⟩|⟨e3,e1,e2⟩⟩<;>rcases h2 with ⟨g0,g1,g2⟩|⟨g0,⟨g3,g1,g2⟩|⟨g3,g1,g2⟩⟩
 all_goals first
  |exact⟨e1.trans g1.symm,e2.trans g2.symm⟩
  |exact absurd g0 e0
  |exact absurd e0 g0
  |exact absurd e3 g3
  |exact absurd g3 e3
theorem Hr{A B X:DS}{s1 s2:List UInt8}(h1:A=X/\s1=t)(h2:B=X/\s2=t):A=B/\s1=s2:=⟨h1.1.trans h2.1.symm,h1.2.trans h2.2.symm⟩
theorem xH.qq{l:List Int}{s1 s2:List UInt8}{X A B:DS}(h1:xH o l X A s1)(h2:xH o l X B s2):A=B/\s1=s2:=by
 unfold xH at h1 h2;split at h1
 all_goals first
  |exact rS.qq h1 h2
  |exact D5.qq h1 h2
  |exact Ho.qq h1 h2
  |exact Hr h1 h2
  |exact h1.elim
theorem nw.qq{bI:List UInt8}{s1 s2:List UInt8}{X A B:DS}(h1:nw X bI A s1)(h2:nw X bI B s2):A=B/\s1=s2:=by
 unfold nw at h1 h2;generalize lH bI=ws at h1 h2;cases ws with
 |nil=>exact Hr h1 h2
 |cons x r=>
  dsimp only at h1 h2;generalize rN.lookup x=q at h1 h2;cases q with
  |none=>exact Hr h1 h2
  |some p=>
   obtain⟨a,b,o⟩:=p;dsimp only at h1 h2;by_cases hc:(r.length:Int)<a\/b<(r.length:Int)
   ·rw[YH hc]at h1 h2;exact Hr h1 h2
   ·rw[YG hc]at h1 h2;generalize oX r=y at h1 h2;cases y with
    |none=>exact Hr h1 h2
    |some l=>exact xH.qq h1 h2
end Go.Proofs.YtaablbmgagiajabGreatDoor
