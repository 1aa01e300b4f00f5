import Derived.Test.YtaablbmgagiajabGreatDoorZGAQ
import Derived.Conc.LeavingOf
import Derived.Test.YtaablbmgagiajabGreatDoorCards
import Derived.Test.YtaablbmgagiajabGreatDoorTie
import Derived.Lib.SmallJoins
import Derived.Test.YtaablbmgagiajabGreatDoorZGAV
open Go.Proofs.Tryz renaming prog->π
open Go renaming Addr->YQ,Code->Zo,Frame->YU,Goroutine->YP,Program->Y2,TypeId->YT,Value->YN,World->YM,handlesMet->zxz,laidMetH->ztB,stepG->YV
open Array renaming mem_map->ztu
open Go.DataW.agg renaming injEq->zAE
open Go.DataW renaming trod->ZY
open Go.Frame renaming enter->Y8
open Go.Conc renaming Goes->zAR,Good->zwS
open Go.IntKind renaming wrap_i64->zua
open Go.Lib renaming TabIs->zux
open List renaming mem_append_left->zuB,mem_append_right->Z8,mem_range->zuC,range->ZE
open Go.MemPlace renaming cell->zBo,row->zBp
open Nat renaming one_pos->zxd
open Go.Obj renaming row?->zv2
open Go.OpenSpec renaming ofChange->zzl
open Option renaming bind_eq_some_iff->zsI
open Go.Value renaming okWide->zxq
open Go.World renaming cell?->Z9,var?->zvx,var?_cell->zzD
namespace Go.Proofs.YtaablbmgagiajabGreatDoor.Ren
open Go Go.Conc Go.RowKit Go.Deep
variable{P:Y2}{g:YP}{l:List Obj}{m:Machine}{t:Trace}{v:YN}{w:YM}
section
variable {R O:Nat->Prop}{B:Nat}{os:Os}{w0 wl:YM}
structure KH(R O:Nat->Prop)(B:Nat)(os:Os)(w0:YM):Prop where
 low:uE R O B os w0.1
 num:kg w0
 B:7<=B
 pow:R 3
 AB:R 4
 AD:R 5
def Dx:List UInt8:=[52,32,52,32,51,10,50,10,48,32,48,32,102,97,108,115,101,10,101,114,114,111,114,32,51,10]
end
variable (pG:Y2)
def lbd:Zo:=(((pG.funcs[8]?).getD default).body.getD .skip)
variable (pG:Y2)
def l5:Zo:=c2 (c2 (c2 (c2 (c2 (lbd pG)))))
open Go.Proofs.Tryz
theorem Fx.gZ{H:YM}(h:Fx H l w):fK H w:=⟨by rw[h.size];omega,h.low,h.os,h.out,h.tape⟩
section
variable {H:YM}{Shun:Loc->Prop}{n:Nat}{Stop:YP->YM->Prop}
abbrev fG(Shun:Loc->Prop)(Stop:YP->YM->Prop):Nat->(YM->Prop)->YP->Prop:=Wm π (DB (fun w=>w.1.size) Shun (fun _=>False)) Stop
end
def jN(P:Y2)(Post:YN->YM->Prop)(m:Machine)(t:Trace):Prop:=∃ N lq o w' t',runNT P (N+1) m t=(.ended o w',t')/\runN P N m=.next lq/\Go.step P lq=.ended o w'/\zwS P Post lq o w' t'
theorem jN.after{Post:YN->YM->Prop}{k:Nat}{m':Machine}{t':Trace}(h:runNT P k m t=(.next m',t'))(he:jN P Post m' t'):jN P Post m t:=by
 obtain⟨N,lq,o,w',t'',h1,h2,h3,h4⟩:=he;refine⟨k+N,lq,o,w',t'',?_,?_,h3,h4⟩
 ·rw[zsq,runNT_add,h];exact h1
 ·rw[runN_add,<-runNT_fst P k _ t,h];exact h2
theorem zn9{Post Hb:YN->YM->Prop}{o:Outcome}(hp:∀ v w,Post v w->Hb v w)(h:zwS P Post m o w t):zwS P Hb m o w t:=by
 obtain⟨v,h1,h2,h3⟩:=h;exact⟨v,h1,hp v w h2,h3⟩
theorem jN.imp{Post Hb:YN->YM->Prop}(hp:∀ v w,Post v w->Hb v w)(he:jN P Post m t):jN P Hb m t:=by
 obtain⟨N,lq,o,w',t',h1,h2,h3,h4⟩:=he;exact⟨N,lq,o,w',t',h1,h2,h3,zn9 hp h4⟩
def D0(w w':YM)(es:Array Event):Prop:=w'=w/\es=#[]
theorem zbb{Stop:YP->YM->Prop}{m:Nat}:∀(n:Nat)(g:YP)(w:YM),nL true n g->(∀ w',AtRel w w'->zAR π true AtRel D0 Stop m (ax π true n g) w')->zAR π true AtRel D0 Stop (m+n) g w
 | 0,_,w,_,h=>h w (atRel_refl w)
 |n+1,g,w,hs,h=>.inr ⟨hs.1.1,fun w1 hw=>by
   rw[hs.1.2 w1,goes_go];exact⟨⟨rfl,rfl⟩,zbb n (bZ π true g) w1 hs.2 fun w' fH=>h w' (atRel_trans _ _ _ hw fH)⟩⟩
theorem zbc{Shun:Loc->Prop}{Post:YN->YM->Prop}{n:Nat}(hs:nL true n g)(he:(ax π true n g).status=.running/\∀ w,YV π true (ax π true n g) w=.ended (.done v) w #[])(hp:∀ d,Post v (w.at d)){gs:Array YP}{q:Nat->Nat}(sl:Option (Nat×Nat))(h0:gs[0]?=some g)(hL:Leavers π t gs q)(hP:Past Shun w.1.size t):jN π Post (crowd gs w sl) t:=
 beside_ends (D:=D0) (Post:=Post) (Shun:=Shun) (B:=w.1.size) (fun w w' es hd e Aw=>by rw[hd.2]at Aw;simp at Aw) h0 hL hP (zbb (m:=0) n g w hs fun w' hw=>fun w1 hw1=>by
  obtain⟨d,rfl⟩:=atRel_trans _ _ _ hw hw1;exact⟨he.1,v,#[],he.2 _,fun e Aw=>by simp at Aw,hp d⟩)
theorem zoa(a:Int)(k:Int)(h1:0<k)(h2:k<=30000):∃ m:Nat,(m:Int)<k/\(IntKind.u64.wrap a).tmod k=(m:Int)/\IntKind.i64.wrap ((m:Nat):Int)=(m:Int):=by
 have h0:0<=IntKind.u64.wrap a:=by rw[IntKind.wrap_u64];omega
 generalize IntKind.u64.wrap a=X at h0;have e:X.tmod k=X%k:=Int.tmod_eq_emod_of_nonneg h0;have h3:0<=X%k:=Int.emod_nonneg _ oQ;have h4:X%k<k:=Int.emod_lt_of_pos _ h1;refine⟨(X%k).toNat,oQ,by rw[e];omega,?_⟩;rw[zua];omega
section
variable {H:YM}{Shun:Loc->Prop}{Stop:YP->YM->Prop}{K:YM->Prop}
theorem zob{D:YM->YM->Array Event->Prop}(hD:∀ w,D w w #[])(hK:∀ w d,K w->K (World.at w d)){m:Nat}{g':YP}(h:g.status=.running/\∀ w,YV π true g w=.go g' w #[])(hn:Wm π D Stop m K g'):Wm π D Stop (m+1) K g:=⟨h.1,g',K,hK,fun w hw=>⟨w,#[],h.2 w,hD w,hw⟩,hn⟩
end
variable (pG:Y2)
def vbd:Zo:=(((pG.funcs[7]?).getD default).body.getD .skip)
def v1:Zo:=c2 (c2 (c2 (vbd pG)))
def v3:Zo:=c2 (c2 (v1 pG))
def v4:Zo:=c2 (v3 pG)
def v5:Zo:=c2 (v4 pG)
def v6:Zo:=c2 (v5 pG)
def vL:Zo:=ci (ci (c2 (c1 (c2 (c2 (vbd pG))))))
def vM:Zo:=ci (ci (c2 (c1 (v5 pG))))
section
variable (z:YU)(zs:List YU)(a:Int)
set_option maxRecDepth 100000
def Dy:YP:={frame:=Y8 pG 25 #[iQ a,iQ 16] .normal,callers:=z::zs,status:=.running,dying:=none}
def KI:YP:=ax pG true 7 (Dy pG z zs a)
theorem zoc:Yd true (KI π z zs a) (.int .u64 (IntKind.u64.wrap a)):=fun w=>kQ
def Bl(X:Int):YP:=ax pG true 2 (fin (KI pG z zs a) (.int .u64 X))
theorem zod(X:Int):Yd true (Bl π z zs a X) (.int .u64 (X.tmod 16)):=fun w=>kQ
theorem zoe(X Y:Int):Yd true (fin (Bl π z zs a X) (.int .u64 Y)) (iQ (IntKind.i64.wrap Y)):=fun w=>kQ
theorem zof(X Y m:Int):(ax π true 3 (fin (fin (Bl π z zs a X) (.int .u64 Y)) (iQ m))).status=.running/\∀ w,YV π true (ax π true 3 (fin (fin (Bl π z zs a X) (.int .u64 Y)) (iQ m))) w=.go (fg z zs (iQ m)) w #[]:=⟨kQ,fun w=>kQ⟩
theorem zog(X:Int):(KI π z zs a).status=.running/\(Bl π z zs a X).status=.running:=⟨kQ,kQ⟩
end
section
variable (p:Pa)(ta:Option YQ)(tc:Nat)
set_option maxRecDepth 100000
def vg(x1 x2 x7 x8 x9 n9 oa x12 x13:YN)(J:Nat->YN)(todo:List Item):YP:={frame:={fn:=7,tmps:=#[.slice ta p.m tc,x1,x2,J 3,J 4,J 5,J 6,x7,x8,x9,n9,oa,x12,x13,J 14,J 15,J 16,J 17,J 18,J 19,J 20,J 21,J 22,J 23,J 24,J 25,J 26,J 27,J 28,J 29,J 30,J 31,J 32,J 33,J 34,J 35,J 36,J 37,J 38,J 39,J 40,J 41,J 42,J 43,J 44,J 45,J 46,J 47,J 48,J 49,J 50,J 51,J 52,J 53,J 54,J 55,J 56,J 57,J 58,J 59,J 60,J 61,J 62,J 63,J 64,J 65,J 66,J 67,J 68,J 69,J 70,J 71,J 72,J 73,J 74,J 75,J 76,J 77,J 78,J 79,J 80,J 81,J 82,J 83,J 84,J 85,J 86,J 87,J 88,J 89,J 90,J 91],todo,defers:=[],mode:=.run,kind:=.normal},callers:=[],status:=.running,dying:=none}
variable (a b:Int)
def KJ:YP:={frame:=Y8 pG 7 #[.slice ta p.m tc,iQ a,iQ b] .normal,callers:=[],status:=.running,dying:=none}
def vJ:YP:=ax pG true 9 (KJ pG p ta tc a b)
theorem zoh:Yd true (vJ π p ta tc a b) (.bool (decide ((p.m:Int)>4))):=fun w=>kQ
theorem zoi:nL true 7 (fin (vJ π p ta tc a b) (.bool true)):=by
 iterate 7(refine⟨⟨kQ,fun w=>kQ⟩,?_⟩)
 trivial
theorem zoj:(ax π true 7 (fin (vJ π p ta tc a b) (.bool true))).status=.running/\∀ w,YV π true (ax π true 7 (fin (vJ π p ta tc a b) (.bool true))) w=.ended (.done (.bool true)) w #[]:=⟨kQ,fun w=>kQ⟩
def vh(i:Int)(J:Nat->YN):YP:=vg p ta tc (iQ a) (iQ b) (iQ i) (J 8) (J 9) (J 10) (J 11) (J 12) (J 13) J [.code (vL pG),.inLoop (vL pG),.inBlock 0,.code (v1 pG)]
theorem zol:ax π true 10 (fin (vJ π p ta tc a b) (.bool false))=vh π p ta tc a b 0 (gJ (ax π true 10 (fin (vJ π p ta tc a b) (.bool false)))):=kQ
variable (i:Int)(J:Nat->YN)
def zi:YP:=ax pG true 6 (vh pG p ta tc a b i J)
theorem zbd:Yd true (zi π p ta tc a b i J) (.bool (decide (i<(p.m:Int)))):=fun w=>kQ
def Qa:YP:=ax pG true 9 (fin (zi pG p ta tc a b i J) (.bool true))
theorem zom:Ix (Qa π p ta tc a b i J) (wK ta p.m tc i):=fun w=>⟨kQ,kQ,kQ⟩
section
variable (d:YQ)(s:ByteArray)
def Qb:YP:=fin (Qa pG p ta tc a b i J) (.pointer (some d))
theorem zon:Ld (Qb π p ta tc a b i J d) 7 (lA d):=fun w=>⟨kQ,kQ,kQ⟩
def Bn:YP:=ax pG true 1 (fin (Qb pG p ta tc a b i J d) (.string s))
theorem zoo:Yd true (Bn π p ta tc a b i J d s) (.bool (decide ((s.size:Int)>1000))):=fun w=>kQ
theorem zop:nL true 7 (fin (Bn π p ta tc a b i J d s) (.bool true)):=by
 iterate 7(refine⟨⟨kQ,fun w=>kQ⟩,?_⟩)
 trivial
theorem zoq:(ax π true 7 (fin (Bn π p ta tc a b i J d s) (.bool true))).status=.running/\∀ w,YV π true (ax π true 7 (fin (Bn π p ta tc a b i J d s) (.bool true))) w=.ended (.done (.bool true)) w #[]:=⟨kQ,fun w=>kQ⟩
def Dz:YP:=ax pG true 6 (fin (Bn pG p ta tc a b i J d s) (.bool false))
theorem zor:Yd true (Dz π p ta tc a b i J d s) (iQ (IntKind.i64.wrap (i+1))):=fun w=>kQ
theorem zos(j:Int):ax π true 3 (fin (Dz π p ta tc a b i J d s) (iQ j))=vh π p ta tc a b j (gJ (ax π true 3 (fin (Dz π p ta tc a b i J d s) (iQ j)))):=kQ
theorem Qc:(vJ π p ta tc a b).status=.running/\(zi π p ta tc a b i J).status=.running/\(Bn π p ta tc a b i J d s).status=.running/\(Dz π p ta tc a b i J d s).status=.running:=⟨kQ,kQ,kQ,kQ⟩
end
def vc:YP:=vg p ta tc (iQ a) (iQ b) (J 7) (J 8) (J 9) (J 10) (J 11) (J 12) (J 13) J [.code (v1 pG)]
theorem zot:ax π true 3 (fin (zi π p ta tc a b i J) (.bool false))=vc π p ta tc a b (gJ (ax π true 3 (fin (zi π p ta tc a b i J) (.bool false)))):=kQ
def Hc:YU:=(ax pG true 11 (vc pG p ta tc a b J)).callers.headD default
def Hd:List YU:=(ax pG true 11 (vc pG p ta tc a b J)).callers.tail
theorem zou:ax π true 11 (vc π p ta tc a b J)=eG [Y8 π 23 #[.string (txt Go.Proofs.YtaablbmgagiajabGreatDoor.t0)] .normal] (Hc π p ta tc a b J::Hd π p ta tc a b J):=kQ
def DC:YU:=(ax pG true 14 (fg (Hc pG p ta tc a b J) (Hd pG p ta tc a b J) (.string (txt Dx)))).callers.headD default
theorem zov:ax π true 14 (fg (Hc π p ta tc a b J) (Hd π p ta tc a b J) (.string (txt Dx)))=Dy π (DC π p ta tc a b J) [] a:=kQ
section
variable (n k:Int)
theorem zow:Yd true (fg (DC π p ta tc a b J) [] (iQ n)) (iQ (IntKind.i64.wrap (1+n))):=fun w=>kQ
def KL:YU:=(ax pG true 1 (fin (fg (DC pG p ta tc a b J) [] (iQ n)) (iQ k))).callers.headD default
theorem zox:ax π true 1 (fin (fg (DC π p ta tc a b J) [] (iQ n)) (iQ k))=Cu π p (KL π p ta tc a b J n k::[]) ta tc k:=kQ
variable (x8 x9:YN)
def vf(x8 x9:YN)(J:Nat->YN):YP:=vg p ta tc (J 1) (iQ b) (J 7) x8 x9 (J 10) (J 11) (J 12) (J 13) J [.code (v3 pG)]
theorem zoy:nL true 6 (fg (KL π p ta tc a b J n k) [] (.tuple #[x8,x9])):=by
 iterate 6(refine⟨⟨kQ,fun w=>kQ⟩,?_⟩)
 trivial
theorem zoz:ax π true 6 (fg (KL π p ta tc a b J n k) [] (.tuple #[x8,x9]))=vf π p ta tc b x8 x9 (gJ (ax π true 6 (fg (KL π p ta tc a b J n k) [] (.tuple #[x8,x9])))):=kQ
end
section
variable (x8 x9:YN)
def DD:YU:=(ax pG true 5 (vf pG p ta tc b x8 x9 J)).callers.headD default
theorem zoA:ax π true 5 (vf π p ta tc b x8 x9 J)=Dy π (DD π p ta tc b J x8 x9) [] b:=kQ
variable (n k:Int)
theorem zoB:Yd true (fg (DD π p ta tc b J x8 x9) [] (iQ n)) (iQ (IntKind.i64.wrap (1+n))):=fun w=>kQ
def KM:YU:=(ax pG true 1 (fin (fg (DD pG p ta tc b J x8 x9) [] (iQ n)) (iQ k))).callers.headD default
theorem zoC:ax π true 1 (fin (fg (DD π p ta tc b J x8 x9) [] (iQ n)) (iQ k))=Cu π p (KM π p ta tc b J x8 x9 n k::[]) ta tc k:=kQ
variable (n9 oa:YN)
def vk(x8 x9 n9 oa:YN)(J:Nat->YN):YP:=vg p ta tc (J 1) (J 2) (J 7) x8 x9 n9 oa (J 12) (J 13) J [.code (v4 pG)]
theorem zoD:nL true 6 (fg (KM π p ta tc b J x8 x9 n k) [] (.tuple #[n9,oa])):=by
 iterate 6(refine⟨⟨kQ,fun w=>kQ⟩,?_⟩)
 trivial
theorem zoE:ax π true 6 (fg (KM π p ta tc b J x8 x9 n k) [] (.tuple #[n9,oa]))=vk π p ta tc x8 x9 n9 oa (gJ (ax π true 6 (fg (KM π p ta tc b J x8 x9 n k) [] (.tuple #[n9,oa])))):=kQ
end
end
section
variable (p:Pa)(ta:Option YQ)(tc:Nat)(s s2:Nat)(J:Nat->YN)
set_option maxRecDepth 100000
def Qd:YP:=ax pG true 14 (vk pG p ta tc (.slice (some (aQ s 0)) p.m p.m) .nilIface (.slice (some (aQ s2 0)) p.m p.m) .nilIface J)
theorem zoF:Yd true (Qd π p ta tc s s2 J) (.bool (!((p.m:Int)==(p.m:Int)))):=fun w=>kQ
def He:YP:=ax pG true 6 (fin (Qd pG p ta tc s s2 J) (.bool false))
theorem zoG:Yd true (He π p ta tc s s2 J) (.bool (!((p.m:Int)==(p.m:Int)))):=fun w=>kQ
def vq(i:Int)(J:Nat->YN):YP:=vg p ta tc (J 1) (J 2) (J 7) (.slice (some (aQ s 0)) p.m p.m) (J 9) (.slice (some (aQ s2 0)) p.m p.m) (J 11) (iQ i) (J 13) J [.code (vM pG),.inLoop (vM pG),.inBlock 2,.code (v6 pG)]
theorem zoH:ax π true 11 (fin (He π p ta tc s s2 J) (.bool false))=vq π p ta tc s s2 0 (gJ (ax π true 11 (fin (He π p ta tc s s2 J) (.bool false)))):=kQ
variable (i:Int)
def Bo:YP:=ax pG true 6 (vq pG p ta tc s s2 i J)
theorem zbe:Yd true (Bo π p ta tc s s2 J i) (.bool (decide (i<(p.m:Int)))):=fun w=>kQ
theorem zoI:(ax π true 8 (fin (Bo π p ta tc s s2 J i) (.bool false))).status=.running/\∀ w,YV π true (ax π true 8 (fin (Bo π p ta tc s s2 J i) (.bool false))) w=.ended (.done (.bool true)) w #[]:=⟨kQ,fun w=>kQ⟩
def Qe:YP:=ax pG true 9 (fin (Bo pG p ta tc s s2 J i) (.bool true))
theorem zoJ:Ix (Qe π p ta tc s s2 J i) (wK ta p.m tc i):=fun w=>⟨kQ,kQ,kQ⟩
section
variable (d:YQ)(x:ByteArray)
def Hf:YP:=fin (Qe pG p ta tc s s2 J i) (.pointer (some d))
theorem zoK:Ld (Hf π p ta tc s s2 J i d) 7 (lA d):=fun w=>⟨kQ,kQ,kQ⟩
def Hg:YU:=(ax pG true 1 (fin (Hf pG p ta tc s s2 J i d) (.string x))).callers.headD default
theorem zoL:ax π true 1 (fin (Hf π p ta tc s s2 J i d) (.string x))=eG [Y8 π 23 #[.string x] .normal] (Hg π p ta tc s s2 J i d x::[]):=kQ
variable (y:ByteArray)
def vr(i:Int)(y:ByteArray)(J:Nat->YN):YP:=vg p ta tc (J 1) (J 2) (J 7) (.slice (some (aQ s 0)) p.m p.m) (J 9) (.slice (some (aQ s2 0)) p.m p.m) (J 11) (iQ i) (.string y) J [.code (c2 (ci (c1 (c2 (vM pG))))),.inBlock 3,.code (c2 (c2 (vM pG))),.inLoop (vM pG),.inBlock 2,.code (v6 pG)]
theorem zoM:ax π true 2 (fg (Hg π p ta tc s s2 J i d x) [] (.string y))=vr π p ta tc s s2 i y (gJ (ax π true 2 (fg (Hg π p ta tc s s2 J i d x) [] (.string y)))):=kQ
end
variable (y:ByteArray)
def Qf:YP:=ax pG true 4 (vr pG p ta tc s s2 i y J)
theorem zoN:Ix (Qf π p ta tc s s2 J i y) (wK (some (aQ s 0)) p.m p.m i):=fun w=>⟨kQ,kQ,kQ⟩
variable (d:YQ)(u:ByteArray)
def Qg:YP:=fin (Qf pG p ta tc s s2 J i y) (.pointer (some d))
theorem zoO:Ld (Qg π p ta tc s s2 J i y d) 7 (lA d):=fun w=>⟨kQ,kQ,kQ⟩
def Qh:YP:=ax pG true 1 (fin (Qg pG p ta tc s s2 J i y d) (.string u))
theorem zoP:Yd true (Qh π p ta tc s s2 J i y d u) (.bool (!(u.toList==y.toList))):=fun w=>kQ
def Qi:YP:=ax pG true 3 (fin (Qh pG p ta tc s s2 J i y d u) (.bool false))
theorem zoQ:Ix (Qi π p ta tc s s2 J i y d u) (wK (some (aQ s2 0)) p.m p.m i):=fun w=>⟨kQ,kQ,kQ⟩
variable (e:YQ)
def Qj:YP:=fin (Qi pG p ta tc s s2 J i y d u) (.pointer (some e))
theorem zoR:Ld (Qj π p ta tc s s2 J i y d u e) 7 (lA e):=fun w=>⟨kQ,kQ,kQ⟩
def Qk:YP:=ax pG true 1 (fin (Qj pG p ta tc s s2 J i y d u e) (.string u))
theorem zoS:Yd true (Qk π p ta tc s s2 J i y d u e) (.bool (!(u.toList==y.toList))):=fun w=>kQ
def Hh:YP:=ax pG true 7 (fin (Qk pG p ta tc s s2 J i y d u e) (.bool false))
theorem zoT:Yd true (Hh π p ta tc s s2 J i y d u e) (iQ (IntKind.i64.wrap (i+1))):=fun w=>kQ
theorem zoU(j:Int):ax π true 3 (fin (Hh π p ta tc s s2 J i y d u e) (iQ j))=vq π p ta tc s s2 j (gJ (ax π true 3 (fin (Hh π p ta tc s s2 J i y d u e) (iQ j)))):=kQ
theorem KN:(Qd π p ta tc s s2 J).status=.running/\(He π p ta tc s s2 J).status=.running/\(Bo π p ta tc s s2 J i).status=.running/\(Qh π p ta tc s s2 J i y d u).status=.running/\(Qk π p ta tc s s2 J i y d u e).status=.running/\(Hh π p ta tc s s2 J i y d u e).status=.running:=⟨kQ,kQ,kQ,kQ,kQ,kQ⟩
end
theorem zoV(a:YQ):seen π 7 #[⟨.cell a,false,false⟩]=#[⟨.cell a,false,false⟩]:=kQ
def zoW(g:YP):Prop:=∃ n,nL true n g/\(ax π true n g).status=.running/\∀ w,YV π true (ax π true n g) w=.ended (.done (.bool true)) w #[]
section
variable {Shun:Loc->Prop}{Stop:YP->YM->Prop}{K:YM->Prop}
theorem KO(hK:∀ w d,K w->K (World.at w d)){k i m tc:Nat}{a:YQ}(h:∀ w:YM,fe g=true/\g.status=.running/\(execOp g.frame.eval (opAt g)).runT π w #[]=(wK (some a) m tc i).runT π w #[])(hi:i<m)(hn:fG Shun Stop k K (fin g (.pointer (some (a.add i))))):fG Shun Stop (k+1) K g:=by
 refine⟨(h default).2.1,_,_,hK,fun w hw=>⟨w,#[],?_,DB.none w,hw⟩,hn⟩;obtain⟨e1,_,e3⟩:=h w;obtain⟨k1,k2⟩:=wI e3;obtain⟨q1,q2⟩:=U3 (a:=a) (tc:=tc) hi w;have h3:=Ak (main:=true) e1 (k1.trans q1);rw[k2,q2,seen_none]at h3;exact h3
theorem KP(hK:∀ w d,K w->K (World.at w d)){k:Nat}{d:YQ}(hr:g.status=.running)(h:∀ w:YM,fe g=true/\g.frame.fn=7/\(execOp g.frame.eval (opAt g)).runT π w #[]=(lA d).runT π w #[])(hc:∀ w,K w->w.cell? d=some v/\d.block<w.1.size)(hs:¬Shun (.cell d))(hn:fG Shun Stop k K (fin g v)):fG Shun Stop (k+1) K g:=by
 refine⟨hr,_,_,hK,fun w hw=>?_,hn⟩;obtain⟨e1,e2,e3⟩:=h w;obtain⟨c1,c2⟩:=hc w hw;exact⟨w,_,k_ld (main:=true) e1 e3 c1 (by rw[e2];exact zoV _),DB.cell lQ hs c2 id,hw⟩
theorem zbf(hK:∀ w d,K w->K (World.at w d))(z:YU)(zs:List YU)(a:Int)(h:∀ m:Nat,m<16->∃ k,fG Shun Stop k K (fg z zs (iQ m))):∃ k,fG Shun Stop k K (Dy π z zs a):=by
 obtain⟨m,h1,h2,h3⟩:=zoa a 16 oQ oQ;obtain⟨k,hk⟩:=h m oQ;generalize hX:IntKind.u64.wrap a=X at h2;obtain⟨r1,r2⟩:=zog z zs a X;have a5:=zob (fun w=>DB.none w) hK (zof z zs a X m m) hk;have a4:=dH (fun w=>DB.none w) hK 3 _ sP a5;have a3:fG Shun Stop (k+1+3+1) K (fin (Bl π z zs a X) (.int .u64 m)):=kv (fun w=>DB.none w) hK rfl (fun w=>by
  have:=zoe z zs a X m w;rw[h3]at this;exact this) a4
 have a2:fG Shun Stop (k+1+3+1+1) K (Bl π z zs a X):=kv (fun w=>DB.none w) hK r2 (fun w=>by
  have:=zod z zs a X w;rw[h2]at this;exact this) a3
 have FO:=dH (fun w=>DB.none w) hK 2 _ sP a2;have a1:fG Shun Stop (k+1+3+1+1+2+1) K (KI π z zs a):=kv (fun w=>DB.none w) hK r1 (fun w=>by
  have:=zoc z zs a w;rw[hX]at this;exact this) FO
 exact⟨_,dH (fun w=>DB.none w) hK 7 _ sP a1⟩
end
def KR(p:Pa)(ta:Option YQ)(H:YM):Prop:=∀ k,k<p.m->∃ a,ta=some a/\H.cell? (a.add k)=some (.string (p.tx k))/\a.block<H.1.size
theorem tS(a:YQ)(i:Nat):(a.add i).block=a.block:=by unfold Addr.add;split<;>rfl
theorem Ql{H:YM}{a:YQ}(h:fK H w)(hb:a.block<H.1.size):w.cell? a=H.cell? a:=by
 unfold Z9;rw[h.low _ hb]
section
variable {p:Pa}{ta:Option YQ}{tc:Nat}{H:YM}{a b:Int}
theorem bT{H:YM}(w:YM)(d:Nat)(h:Fx H l w):Fx H l (w.at d):=h.at d
def tT(p:Pa)(ta:Option YQ)(tc:Nat)(H:YM)(a b:Int)(g:YP)(w:YM):Prop:=Fx H [] w/\(zoW g\/p.m<=4/\(∀ k,k<p.m->(p.tx k).size<=1000)/\∃ J,g=vc π p ta tc a b J)
theorem zoX(hm:p.m<=4)(X:KR p ta H):∀ k,k<=p.m->(∀ j,j<p.m-k->(p.tx j).size<=1000)->∀ J,∃ n,fG (fun _=>False) (tT p ta tc H a b) n (Fx H []) (vh π p ta tc a b ((p.m-k:Nat):Int) J):=by
 intro k;induction k with
 |zero=>
  intro _ hl J;have a0:fG (fun _=>False) (tT p ta tc H a b) 0 (Fx H []) (ax π true 3 (fin (zi π p ta tc a b p.m J) (.bool false))):=fun w hw=>⟨hw,.inr ⟨hm,hl,_,zot p ta tc a b p.m J⟩⟩
  have a1:=dH (fun w=>DB.none w) bT 3 _ sP a0;have a2:fG (fun _=>False) (tT p ta tc H a b) (0+3+1) (Fx H []) (zi π p ta tc a b p.m J):=kv (fun w=>DB.none w) bT (Qc p ta tc a b p.m J default default).2.1 (v:=.bool false) (fun w=>by
   have:=zbd p ta tc a b p.m J w;rw[show decide ((p.m:Int)<(p.m:Int))=false from YD oQ]at this;exact this) a1
  exact⟨_,dH (fun w=>DB.none w) bT 6 _ sP a2⟩
 |succ k ih=>
  intro hk hl J;have hi:p.m-(k+1)<p.m:=oQ;have ei:(((p.m-(k+1):Nat):Int)+1)=((p.m-k:Nat):Int):=oQ;have ej:p.m-k=p.m-(k+1)+1:=oQ;have ih:=ih oQ;generalize p.m-(k+1)=i at *;obtain⟨ad,rfl,h2,h3⟩:=X i hi;obtain⟨_,r1,r4,r5⟩:=Qc p (some ad) tc a b i J (ad.add i) (p.tx i);have key:∃ n,fG (fun _=>False) (tT p (some ad) tc H a b) n (Fx H []) (fin (Bn π p (some ad) tc a b i J (ad.add i) (p.tx i)) (.bool (decide (((p.tx i).size:Int)>1000)))):=by
   by_cases hz:(p.tx i).size<=1000
   ·rw[show decide (((p.tx i).size:Int)>1000)=false from YD oQ];obtain⟨n,hn⟩:=ih (fun j hj=>by
     rcases Ys j i with h|h
     ·exact hl j h
     ·have:j=i:=oQ;subst this;exact hz) (gJ (ax π true 3 (fin (Dz π p (some ad) tc a b i J (ad.add i) (p.tx i)) (iQ ((p.m-k:Nat):Int)))))
    rw[<-zos]at hn;have b2:=dH (fun w=>DB.none w) bT 3 _ sP hn;have b1:fG (fun _=>False) (tT p (some ad) tc H a b) (n+3+1) (Fx H []) (Dz π p (some ad) tc a b i J (ad.add i) (p.tx i)):=kv (fun w=>DB.none w) bT r5 (fun w=>by
     have:=zor p (some ad) tc a b i J (ad.add i) (p.tx i) w;rw[ei,show IntKind.i64.wrap ((p.m-k:Nat):Int)=((p.m-k:Nat):Int)by rw[zua];omega]at this;exact this) b2
    exact⟨_,dH (fun w=>DB.none w) bT 6 _ sP b1⟩
   ·rw[show decide (((p.tx i).size:Int)>1000)=true from YE oQ];have e:=zoq p (some ad) tc a b i J (ad.add i) (p.tx i);exact⟨0,fun w hw=>⟨hw,.inl ⟨7,zop p (some ad) tc a b i J (ad.add i) (p.tx i),e.1,e.2⟩⟩⟩
  obtain⟨n,hn⟩:=key;have a4:=dH (fun w=>DB.none w) bT 1 _ sP (kv (fun w=>DB.none w) bT r4 (zoo p (some ad) tc a b i J (ad.add i) (p.tx i)) hn);have a3:fG (fun _=>False) (tT p (some ad) tc H a b) (n+1+1+1) (Fx H []) (Qb π p (some ad) tc a b i J (ad.add i)):=KP bT rfl (zon p (some ad) tc a b i J (ad.add i)) (fun w hw=>⟨by rw[Ql hw.gZ (by rw[tS];exact h3)];exact h2,by
   have:=hw.gZ.size;rw[tS];omega⟩) id a4
  have a2:fG (fun _=>False) (tT p (some ad) tc H a b) (n+1+1+1+1) (Fx H []) (Qa π p (some ad) tc a b i J):=KO bT (zom p (some ad) tc a b i J) hi a3;have FO:=dH (fun w=>DB.none w) bT 9 _ sP a2;have a1:fG (fun _=>False) (tT p (some ad) tc H a b) (n+1+1+1+1+9+1) (Fx H []) (zi π p (some ad) tc a b i J):=kv (fun w=>DB.none w) bT r1 (v:=.bool true) (fun w=>by
   have:=zbd p (some ad) tc a b i J w;rw[show decide ((i:Int)<(p.m:Int))=true from YE oQ]at this;exact this) FO
  exact⟨_,dH (fun w=>DB.none w) bT 6 _ sP a1⟩
theorem zoY(X:KR p ta H):∃ n,fG (fun _=>False) (tT p ta tc H a b) n (Fx H []) (KJ π p ta tc a b):=by
 have key:∃ n,fG (fun _=>False) (tT p ta tc H a b) n (Fx H []) (fin (vJ π p ta tc a b) (.bool (decide ((p.m:Int)>4)))):=by
  by_cases h:p.m<=4
  ·rw[show decide ((p.m:Int)>4)=false from YD oQ];obtain⟨n,hn⟩:=zoX (a:=a) (b:=b) (tc:=tc) h X p.m lQ (fun j hj=>oQ) (gJ (ax π true 10 (fin (vJ π p ta tc a b) (.bool false))));rw[zsw]at hn;have hn:fG (fun _=>False) (tT p ta tc H a b) n (Fx H []) (vh π p ta tc a b 0 (gJ (ax π true 10 (fin (vJ π p ta tc a b) (.bool false))))):=hn;rw[<-zol]at hn;exact⟨_,dH (fun w=>DB.none w) bT 10 _ sP hn⟩
  ·rw[show decide ((p.m:Int)>4)=true from YE oQ];have e:=zoj p ta tc a b;exact⟨0,fun w hw=>⟨hw,.inl ⟨7,zoi p ta tc a b,e.1,e.2⟩⟩⟩
 obtain⟨n,hn⟩:=key;exact⟨_,dH (fun w=>DB.none w) bT 9 _ sP (kv (fun w=>DB.none w) bT (Qc p ta tc a b 0 (fun _=>undef) default default).1 (zoh p ta tc a b) hn)⟩
theorem zbg{n:Nat}(h:n<16):IntKind.i64.wrap (1+(n:Int))=((n+1:Nat):Int):=by
 rw[zua];omega
def DF(p:Pa)(ta:Option YQ)(tc:Nat)(H:YM)(Nx:YU->Prop)(g:YP)(w:YM):Prop:=Fx H [] w/\∃(n:Nat)(z:YU),1<=n/\n<=16/\g=Cu π p (z::[]) ta tc n/\Nx z
def KS(p:Pa)(ta:Option YQ)(tc:Nat)(b:Int)(z:YU):Prop:=∀ x8 x9,nL true 6 (fg z [] (.tuple #[x8,x9]))/\∃ J,ax π true 6 (fg z [] (.tuple #[x8,x9]))=vf π p ta tc b x8 x9 J
def KT(p:Pa)(ta:Option YQ)(tc:Nat)(x8 x9:YN)(z:YU):Prop:=∀ n9 oa,nL true 6 (fg z [] (.tuple #[n9,oa]))/\∃ J,ax π true 6 (fg z [] (.tuple #[n9,oa]))=vk π p ta tc x8 x9 n9 oa J
theorem zoZ(Shun:Loc->Prop)(J:Nat->YN):∃ n,fG Shun (DF p ta tc H (KS p ta tc b)) n (Fx H []) (fg (Hc π p ta tc a b J) (Hd π p ta tc a b J) (.string (txt Dx))):=by
 have h1:∃ n,fG Shun (DF p ta tc H (KS p ta tc b)) n (Fx H []) (Dy π (DC π p ta tc a b J) [] a):=zbf bT _ _ a fun n hn=>by
  have a0:fG Shun (DF p ta tc H (KS p ta tc b)) 0 (Fx H []) (ax π true 1 (fin (fg (DC π p ta tc a b J) [] (iQ n)) (iQ ((n+1:Nat):Int)))):=fun w hw=>⟨hw,n+1,_,oQ,oQ,zox p ta tc a b J n ((n+1:Nat):Int),fun x8 x9=>⟨zoy p ta tc a b J n ((n+1:Nat):Int) x8 x9,_,zoz p ta tc a b J n ((n+1:Nat):Int) x8 x9⟩⟩
  have a1:=dH (fun w=>DB.none w) bT 1 _ sP a0;exact⟨_,kv (fun w=>DB.none w) bT rfl (fun w=>by
   have:=zow p ta tc a b J n w;rw[zbg hn]at this;exact this) a1⟩
 obtain⟨n,hn⟩:=h1;rw[<-zov]at hn;exact⟨_,dH (fun w=>DB.none w) bT 14 _ sP hn⟩
theorem zo0(Shun:Loc->Prop){z:YU}(hz:KS p ta tc b z)(x8 x9:YN):∃ n,fG Shun (DF p ta tc H (KT p ta tc x8 x9)) n (Fx H []) (fg z [] (.tuple #[x8,x9])):=by
 obtain⟨hs,J,hJ⟩:=hz x8 x9;have h1:∃ n,fG Shun (DF p ta tc H (KT p ta tc x8 x9)) n (Fx H []) (Dy π (DD π p ta tc b J x8 x9) [] b):=zbf bT _ _ b fun n hn=>by
  have a0:fG Shun (DF p ta tc H (KT p ta tc x8 x9)) 0 (Fx H []) (ax π true 1 (fin (fg (DD π p ta tc b J x8 x9) [] (iQ n)) (iQ ((n+1:Nat):Int)))):=fun w hw=>⟨hw,n+1,_,oQ,oQ,zoC p ta tc b J x8 x9 n ((n+1:Nat):Int),fun n9 oa=>⟨zoD p ta tc b J x8 x9 n ((n+1:Nat):Int) n9 oa,_,zoE p ta tc b J x8 x9 n ((n+1:Nat):Int) n9 oa⟩⟩
  have a1:=dH (fun w=>DB.none w) bT 1 _ sP a0;exact⟨_,kv (fun w=>DB.none w) bT rfl (fun w=>by
   have:=zoB p ta tc b J x8 x9 n w;rw[zbg hn]at this;exact this) a1⟩
 obtain⟨n,hn⟩:=h1;rw[<-zoA]at hn;have a2:=dH (fun w=>DB.none w) bT 5 _ sP hn;rw[<-hJ]at a2;exact⟨_,dH (fun w=>DB.none w) bT 6 _ hs a2⟩
theorem zo1(Shun:Loc->Prop){z:YU}{s s2:Nat}(hz:KT p ta tc (.slice (some (aQ s 0)) p.m p.m) .nilIface z):∃ n,fG Shun (fun g w=>Fx H [] w/\∃ J,g=vq π p ta tc s s2 0 J) n (Fx H []) (fg z [] (.tuple #[.slice (some (aQ s2 0)) p.m p.m,.nilIface])):=by
 obtain⟨hs,J,hJ⟩:=hz (.slice (some (aQ s2 0)) p.m p.m) .nilIface;obtain⟨r1,r2,_⟩:=KN p ta tc s s2 J 0 default default default default;have a0:fG Shun (fun g w=>Fx H [] w/\∃ J,g=vq π p ta tc s s2 0 J) 0 (Fx H []) (ax π true 11 (fin (He π p ta tc s s2 J) (.bool false))):=fun w hw=>⟨hw,_,zoH p ta tc s s2 J⟩
 have a1:=dH (fun w=>DB.none w) bT 11 _ sP a0;have e:(!((p.m:Int)==(p.m:Int)))=false:=sQ;have a2:=kv (fun w=>DB.none w) bT r2 (v:=.bool false) (fun w=>by
  have:=zoG p ta tc s s2 J w;rw[e]at this;exact this) a1
 have a3:=dH (fun w=>DB.none w) bT 6 _ sP a2;have a4:=kv (fun w=>DB.none w) bT r1 (v:=.bool false) (fun w=>by
  have:=zoF p ta tc s s2 J w;rw[e]at this;exact this) a3
 have a5:=dH (fun w=>DB.none w) bT 14 _ sP a4;rw[<-hJ]at a5;exact⟨_,dH (fun w=>DB.none w) bT 6 _ hs a5⟩
end
structure xC(p:Pa)(ta:Option YQ)(W0:YM):Prop where
 rd:KH p.R p.O p.B p.os W0
 B:p.B<=W0.1.size
 os:W0.os=p.os
 h0:p.h0=jo Classical.propDecidable p.R p.O p.B W0.1
 tx:KR p ta W0
 zbh:kM (env π p.B p.R p.O p.os) ([Y8 π 23 #[.string (txt Go.Proofs.YtaablbmgagiajabGreatDoor.t0)] .normal],jo Classical.propDecidable p.R p.O p.B W0.1) (fun v _=>v=.string (txt Dx))
 cont:∀ i,i<p.m->(p.tx i).size<=1000->kM (env π p.B p.R p.O p.os) ([Y8 π 23 #[.string (p.tx i)] .normal],p.h0) (p.Rr i)
 val:∀ i v w,i<p.m->p.Rr i v w->p.dP i v
 dP:∀ i v,p.dP i v->∃ l,v=.string l
 one:∀ i v v',p.dP i v->p.dP i v'->v=v'
def zk(p:Pa)(s:Nat)(H:YM):Prop:=s<H.1.size/\∃ cs,H.1[s]?=some (.cells cs 9)/\∀ i,i<p.m->∃ v,cs[i]?=some v/\p.dP i v
theorem zk.get{p:Pa}{s i:Nat}{H:YM}(one:∀ i v v',p.dP i v->p.dP i v'->v=v')(h:zk p s H)(hg:fK H w)(hi:i<p.m)(hv:p.dP i v):w.cell? (((aQ s 0):YQ).add i)=some v/\(((aQ s 0):YQ).add i).block<w.1.size:=by
 obtain⟨h1,cs,h2,h3⟩:=h;obtain⟨v',h4,h5⟩:=h3 i hi;rw[one i v v' hv h5];have:=hg.size;refine⟨?_,by rw[tS];show s<_;omega⟩;rw[Addr.add_mid,Yv,uH (cs:=cs) (t:=9) (by rw[hg.low s h1];exact h2)];exact h4
section
variable {p:Pa}{ta:Option YQ}{tc:Nat}{W0:YM}{a b:Int}
theorem xC.lt(X:xC p ta W0)(k:Nat)(hk:p.R k\/p.O k):k<p.B:=hk.elim (fun x=>(X.rd.low.ro k x).1) (fun x=>(X.rd.low.op k x).1)
theorem xC.same(X:xC p ta W0){H:YM}(hG:fK W0 H)(k:Nat)(hk:p.R k\/p.O k):H.1[k]?=W0.1[k]?:=hG.low k (by have:=X.lt k hk;have:=X.B;omega)
theorem zo2(X:xC p ta W0)(hm:p.m<=4)(hz:∀ k,k<p.m->(p.tx k).size<=1000){H0:YM}(hG:fK W0 H0){s s2:Nat}(hs:zk p s H0)(gC:zk p s2 H0){Shun:Loc->Prop}(hS:Cz Shun H0.1.size)(hR:∀ a:YQ,a.block<W0.1.size->¬Shun (.cell a))(hA:∀ a:YQ,a.block=s->¬Shun (.cell a))(qY:∀ a:YQ,a.block=s2->¬Shun (.cell a)):
  ∀ k,k<=p.m->∀(H:YM)(gs:Array YP)(sl:Option (Nat×Nat))(t:Trace)(q:Nat->Nat)(J:Nat->YN),fK H0 H->gs[0]?=some (vq π p ta tc s s2 ((p.m-k:Nat):Int) J)->Leavers π t gs q->Past Shun H.1.size t->jN π (fun v w=>v=.bool true/\fK H0 w) (crowd gs H sl) t:=by
 intro k;induction k with
 |zero=>
  intro _ H gs sl t q J hg h0 hL hP;have a0:fG Shun (fun g w=>Fx H [] w/\g=fin (Bo π p ta tc s s2 J p.m) (.bool false)) 0 (Fx H []) (fin (Bo π p ta tc s s2 J p.m) (.bool false)):=fun w hw=>⟨hw,rfl⟩
  have a1:=kv (fun w=>DB.none w) bT (KN p ta tc s s2 J p.m default default default default).2.2.1 (v:=.bool false) (fun w=>by
   have:=zbe p ta tc s s2 J p.m w;rw[show decide ((p.m:Int)<(p.m:Int))=false from YD oQ]at this;exact this) a0
  have a2:=dH (fun w=>DB.none w) bT 6 _ sP a1;obtain⟨N1,sG,x1,w1,ym,t1,q1,r1,r2,r3,⟨r4,hx⟩,r5,r6,_⟩:=uI (sl:=sl) (fun w d=>rfl) (K:=Fx H []) bT a2 (Fx.refl H) h0 hL ⟨hP,fun _ _ _ _ _ hf=>hf.elim⟩;refine jN.after r1 ?_;rw[hx]at r3;exact zbc (Post:=fun v w=>v=.bool true/\fK H0 w) sP (zoI p ta tc s s2 J p.m) (fun d=>⟨rfl,(hg.trans r4.gZ).at d⟩) ym r3 r5 r6
 |succ k ih=>
  intro hk H gs sl t q J hg h0 hL hP;have hi:p.m-(k+1)<p.m:=oQ;have ei:(((p.m-(k+1):Nat):Int)+1)=((p.m-k:Nat):Int):=oQ;have ih:=ih oQ;generalize p.m-(k+1)=i at *;obtain⟨ad,rfl,h2,h3⟩:=X.tx i hi;have ze:=hG.trans hg;have bm:=ze.size;obtain⟨_,_,k1,_⟩:=KN p (some ad) tc s s2 J i default default default default;have b0:fG Shun (fun g w=>Fx H [] w/\g=eG [Y8 π 23 #[.string (p.tx i)] .normal] (Hg π p (some ad) tc s s2 J i (ad.add i) (p.tx i)::[])) 0 (Fx H []) (ax π true 1 (fin (Hf π p (some ad) tc s s2 J i (ad.add i)) (.string (p.tx i)))):=fun w hw=>⟨hw,zoL p (some ad) tc s s2 J i (ad.add i) (p.tx i)⟩
  have b1:=dH (fun w=>DB.none w) bT 1 _ sP b0;have b2:=KP (g:=Hf π p (some ad) tc s s2 J i (ad.add i)) bT rfl (zoK p (some ad) tc s s2 J i (ad.add i)) (fun w hw=>⟨by rw[Ql (ze.trans hw.gZ) (by rw[tS];exact h3)];exact h2,by
   have:=hw.gZ.size;rw[tS];omega⟩) (hR _ (by rw[tS];exact h3)) b1
  have b3:=KO (g:=Qe π p (some ad) tc s s2 J i) bT (zoJ p (some ad) tc s s2 J i) hi b2;have b4:=dH (fun w=>DB.none w) bT 9 _ sP b3;have b5:=kv (fun w=>DB.none w) bT k1 (v:=.bool true) (fun w=>by
   have:=zbe p (some ad) tc s s2 J i w;rw[show decide ((i:Int)<(p.m:Int))=true from YE oQ]at this;exact this) b4
  have b6:=dH (fun w=>DB.none w) bT 6 _ sP b5;obtain⟨N1,sG,x1,w1,ym,t1,q1,r1,r2,r3,⟨r4,hx⟩,r5,r6,_⟩:=uI (sl:=sl) (fun w d=>rfl) (K:=Fx H []) bT b6 (Fx.refl H) h0 hL ⟨hP,fun _ _ _ _ _ hf=>hf.elim⟩;refine jN.after r1 ?_;rw[hx]at r3;have eY:=hg.trans r4.gZ;have jQ:=eY.size;have vK:=hG.trans eY;have hGs:=vK.size;have hB:=X.B;obtain⟨N2,NK,w2,Cy,t2,q2,v,e1,e2,hv,e4,e5,e6⟩:=Ve (H:=w1) (An:=p.dP i) X.rd.low (X.same vK) oQ (vK.os.trans X.os) (X.h0▸X.cont i hi (hz i hi)) (fun v w h=>X.val i v w hi h) (X.dP i) (fun l hl=>by
   obtain⟨a,h1,h2⟩:=hS l hl;exact⟨a,h1,oQ⟩) (fun a ha=>hR a (by have:=X.lt _ (.inl ha);omega)) ym r3 r5 r6
  refine jN.after e1 ?_;obtain⟨y,rfl⟩:=X.dP i v hv;have cY:=eY.trans e6;have hn:(!(y.toList==y.toList))=false:=sQ;generalize hJ:gJ (ax π true 2 (fg (Hg π p (some ad) tc s s2 J i (ad.add i) (p.tx i)) [] (.string y)))=J2;obtain⟨_,_,_,k3,k6,k7⟩:=KN p (some ad) tc s s2 J2 i y (((aQ s 0):YQ).add i) y (((aQ s2 0):YQ).add i);have c0:fG Shun (fun g w=>Fx w2 [] w/\∃ J,g=vq π p (some ad) tc s s2 ((p.m-k:Nat):Int) J) 0 (Fx w2 []) (ax π true 3 (fin (Hh π p (some ad) tc s s2 J2 i y (((aQ s 0):YQ).add i) y (((aQ s2 0):YQ).add i)) (iQ ((p.m-k:Nat):Int)))):=fun w hw=>⟨hw,_,zoU p (some ad) tc s s2 J2 i y (((aQ s 0):YQ).add i) y (((aQ s2 0):YQ).add i) ((p.m-k:Nat):Int)⟩
  have c1:=dH (fun w=>DB.none w) bT 3 _ sP c0;have c2:=kv (fun w=>DB.none w) bT k7 (fun w=>by
   have:=zoT p (some ad) tc s s2 J2 i y (((aQ s 0):YQ).add i) y (((aQ s2 0):YQ).add i) w;rw[ei,show IntKind.i64.wrap ((p.m-k:Nat):Int)=((p.m-k:Nat):Int)by rw[zua];omega]at this;exact this) c1
  have c3:=dH (fun w=>DB.none w) bT 7 _ sP c2;have c4:=kv (fun w=>DB.none w) bT k6 (v:=.bool false) (fun w=>by
   have:=zoS p (some ad) tc s s2 J2 i y (((aQ s 0):YQ).add i) y (((aQ s2 0):YQ).add i) w;rw[hn]at this;exact this) c3
  have c5:=dH (fun w=>DB.none w) bT 1 _ sP c4;have c6:=KP (g:=Qj π p (some ad) tc s s2 J2 i y (((aQ s 0):YQ).add i) y (((aQ s2 0):YQ).add i)) bT rfl (zoR p (some ad) tc s s2 J2 i y (((aQ s 0):YQ).add i) y (((aQ s2 0):YQ).add i)) (fun w hw=>gC.get X.one (cY.trans hw.gZ) hi hv) (qY _ (tS _ _)) c5;have c7:=KO (g:=Qi π p (some ad) tc s s2 J2 i y (((aQ s 0):YQ).add i) y) bT (zoQ p (some ad) tc s s2 J2 i y (((aQ s 0):YQ).add i) y) hi c6;have c8:=dH (fun w=>DB.none w) bT 3 _ sP c7;have c9:=kv (fun w=>DB.none w) bT k3 (v:=.bool false) (fun w=>by
   have:=zoP p (some ad) tc s s2 J2 i y (((aQ s 0):YQ).add i) y w;rw[hn]at this;exact this) c8
  have d0:=dH (fun w=>DB.none w) bT 1 _ sP c9;have d1:=KP (g:=Qg π p (some ad) tc s s2 J2 i y (((aQ s 0):YQ).add i)) bT rfl (zoO p (some ad) tc s s2 J2 i y (((aQ s 0):YQ).add i)) (fun w hw=>hs.get X.one (cY.trans hw.gZ) hi hv) (hA _ (tS _ _)) d0;have d2:=KO (g:=Qf π p (some ad) tc s s2 J2 i y) bT (zoN p (some ad) tc s s2 J2 i y) hi d1;have d3:=dH (fun w=>DB.none w) bT 4 _ sP d2;rw[<-hJ,<-zoM]at d3;have d4:=dH (fun w=>DB.none w) bT 2 _ sP d3;obtain⟨N3,Jo,x3,w3,FP,t3,q3,f1,f2,f3,⟨f4,J3,qx⟩,f5,f6,_⟩:=uI (sl:=Cy) (fun w d=>rfl) (K:=Fx w2 []) bT d4 (Fx.refl w2) e2 e4 ⟨e5,fun _ _ _ _ _ hf=>hf.elim⟩;refine jN.after f1 ?_;rw[qx]at f3;exact ih w3 Jo FP t3 q3 J3 (cY.trans f4.gZ) f3 f5 f6
theorem xC.all(X:xC p ta W0)(hm:p.m<=4)(hz:∀ k,k<p.m->(p.tx k).size<=1000){H:YM}(hG:fK W0 H){n:Nat}(h1:1<=n)(MS:n<=16){Shun:Loc->Prop}(hS:Cz Shun H.1.size)(hR:∀ a:YQ,a.block<W0.1.size->¬Shun (.cell a)):FL {p with n:=n,Shun:=Shun} ta H W0 where
 pP:=by show p.m<=50;omega
 n1:=h1
 n16:=MS
 FM a ha hs:=by
  obtain⟨a',e,h⟩:=hS _ hs;cases e;omega
 EZ a ha:=hR a (by have:=X.lt _ (.inl ha);have:=X.B;omega)
 low:=X.rd.low
 same:=X.same hG
 h0:=X.h0
 B:=by
  have:=X.B;have:=hG.size;show p.B<=_;omega
 os:=hG.os.trans X.os
 txt k hk:=by
  obtain⟨ad,e,h2,h3⟩:=X.tx k hk;have:=hG.size;exact⟨ad,e,by rw[Ql hG (by rw[tS];exact h3)];exact h2,oQ,hR _ (by rw[tS];exact h3)⟩
 cont i hi:=X.cont i hi (hz i hi)
 val i v w hi h:=X.val i v w hi h
 dP i v h:=X.dP i v h
theorem zbi{p:Pa}{H:YM}(h:mi p H w):zk p H.1.size w:=by
 obtain⟨cs,h1,_,h3⟩:=h.dP;exact⟨by have:=h.size;omega,cs,h1,h3⟩
theorem zk.gZ{p:Pa}{s:Nat}{H:YM}(h:zk p s H)(hg:fK H w):zk p s w:=by
 obtain⟨h1,cs,h2,h3⟩:=h;exact⟨by have:=hg.size;omega,cs,by rw[hg.low s h1];exact h2,h3⟩
theorem zo3(X:xC p ta W0)(a b:Int)(sl:Option (Nat×Nat)):jN π (fun v w=>v=.bool true/\fK W0 w) (crowd #[(KJ π) p ta tc a b] W0 sl) #[]:=by
 obtain⟨k,hk⟩:=zoY (p:=p) (tc:=tc) (a:=a) (b:=b) X.tx;obtain⟨N1,sG,x1,w1,ym,t1,q1,r1,r2,r3,⟨r4,hx⟩,r5,r6,_⟩:=uI (sl:=sl) (gs:=#[(KJ π) p ta tc a b]) (t:=#[]) (q:=fun _=>0) (fun w d=>rfl) (K:=Fx W0 []) bT hk (Fx.refl W0) rfl (leavers_one _ _) ⟨past_nil.mono (Yw _),fun _ h=>by simp at h⟩;refine jN.after r1 ?_;have g1:=r4.gZ;rcases hx with ⟨n,hs,he⟩|⟨hm,hz,J,hx⟩
 ·exact zbc (Post:=fun v w=>v=.bool true/\fK W0 w) hs he (fun d=>⟨rfl,g1.at d⟩) ym r3 r5 r6
 rw[hx]at r3;have hB:=X.B;have b0:fG (fun _=>False) (fun g w=>Fx w1 [] w/\g=eG [Y8 π 23 #[.string (txt Go.Proofs.YtaablbmgagiajabGreatDoor.t0)] .normal] (Hc π p ta tc a b J::Hd π p ta tc a b J)) 0 (Fx w1 []) (ax π true 11 (vc π p ta tc a b J)):=fun w hw=>⟨hw,zou p ta tc a b J⟩
 have b1:=dH (fun w=>DB.none w) bT 11 _ sP b0;obtain⟨N2,NK,x2,w2,Cy,t2,q2,e1,_,e3,⟨e4,gW⟩,e5,e6,_⟩:=uI (sl:=ym) (fun w d=>rfl) (K:=Fx w1 []) bT b1 (Fx.refl w1) r3 r5 ⟨r6,fun _ _ _ _ _ hf=>hf.elim⟩;refine jN.after e1 ?_;rw[gW]at e3;have g2:=g1.trans e4.gZ;have s2:=g2.size;obtain⟨N3,Jo,w3,FP,t3,q3,v,f1,f2,rfl,f4,f5,f6⟩:=Ve (H:=w2) (An:=fun v=>v=.string (txt Dx)) X.rd.low (X.same g2) oQ (g2.os.trans X.os) X.zbh (fun v w h=>h) (fun v h=>⟨_,h⟩) (fun l hl=>hl.elim) (fun _ _ h=>h) Cy e3 e5 e6;refine jN.after f1 ?_;have g3:=g2.trans f6;obtain⟨k2,tZ⟩:=zoZ (p:=p) (ta:=ta) (tc:=tc) (H:=w3) (a:=a) (b:=b) (fun _=>False) J;obtain⟨N4,gs4,x4,w4,sl4,t4,q4,h1,_,h3,⟨h4,n,z,n1,n16,uU,bf⟩,h5,h6,_⟩:=uI (sl:=FP) (fun w d=>rfl) (K:=Fx w3 []) bT tZ (Fx.refl w3) f2 f4 ⟨f5,fun _ _ _ _ _ hf=>hf.elim⟩;refine jN.after h1 ?_;rw[uU]at h3;have g4:=g3.trans h4.gZ;have s4:=g4.size;obtain⟨N5,gs5,w5,sl5,t5,q5,i1,i2,i3,i4,i5⟩:=Vb (tc:=tc) (z:=z) (zs:=[]) (X.all hm hz g4 n1 n16 (Shun:=fun _=>False) (fun l hl=>hl.elim) (fun _ _ h=>h)) sl4 h3 h5 h6;refine jN.after i1 ?_;have g5:=g4.trans i5.gZ;have s5:w4.1.size+5<=w5.1.size:=i5.size;have mG:∀{w:YM},fK w5 w->Cz (fun l=>False\/∃ a:YQ,l=.cell a/\a.block=w4.1.size+4) w.1.size:=fun {w} hw l hl=>by
  rcases hl with hl|⟨a,j1,j2⟩
  ·exact hl.elim
  ·have:=hw.size;exact⟨a,j1,oQ⟩
 have hR5:∀ a:YQ,a.block<W0.1.size->¬(False\/∃ a':YQ,Loc.cell a=.cell a'/\a'.block=w4.1.size+4):=fun a ha hs=>by
  rcases hs with h|⟨a',j1,j2⟩
  ·exact h
  ·cases j1;omega
 have i2:gs5[0]?=some (fg z [] (.tuple #[.slice (some (aQ w4.1.size 0)) p.m p.m,.nilIface])):=i2;obtain⟨k3,iq⟩:=zo0 (H:=w5) (fun l=>False\/∃ a:YQ,l=.cell a/\a.block=w4.1.size+4) bf (.slice (some (aQ w4.1.size 0)) p.m p.m) .nilIface;obtain⟨N6,gs6,x6,w6,sl6,t6,q6,j1,_,j3,⟨j4,n',z',n1',zo4,hx6,bK⟩,j5,j6,_⟩:=uI (sl:=sl5) (fun w d=>rfl) (K:=Fx w5 []) bT iq (Fx.refl w5) i2 i3 ⟨i4,fun _ _ _ _ _ hf=>hf.elim⟩;refine jN.after j1 ?_;rw[hx6]at j3;have g6:=g5.trans j4.gZ;have s6:=j4.gZ.size;obtain⟨N7,gs7,w7,sl7,t7,q7,l1,l2,l3,l4,l5⟩:=Vb (tc:=tc) (z:=z') (zs:=[]) (X.all hm hz g6 n1' zo4 (mG j4.gZ) hR5) sl6 j3 j5 j6;refine jN.after l1 ?_;have g7:=g6.trans l5.gZ;have s7:w6.1.size+5<=w7.1.size:=l5.size;have l2:gs7[0]?=some (fg z' [] (.tuple #[.slice (some (aQ w6.1.size 0)) p.m p.m,.nilIface])):=l2;obtain⟨k4,hk4⟩:=zo1 (H:=w7) (s2:=w6.1.size) (fun l=>(False\/∃ a:YQ,l=.cell a/\a.block=w4.1.size+4)\/∃ a:YQ,l=.cell a/\a.block=w6.1.size+4) bK;obtain⟨N8,gs8,x8,w8,sl8,t8,q8,m1,_,m3,⟨m4,J8,hx8⟩,m5,m6,_⟩:=uI (sl:=sl7) (fun w d=>rfl) (K:=Fx w7 []) bT hk4 (Fx.refl w7) l2 l3 ⟨l4,fun _ _ _ _ _ hf=>hf.elim⟩;refine jN.after m1 ?_;rw[hx8]at m3;have g8:=g7.trans m4.gZ;have s8:=m4.gZ.size;have cX:∀{s:Nat}(a:YQ),a.block=s->s≠w4.1.size+4->s≠w6.1.size+4->¬((False\/∃ a':YQ,Loc.cell a=.cell a'/\a'.block=w4.1.size+4)\/∃ a':YQ,Loc.cell a=.cell a'/\a'.block=w6.1.size+4):=fun {s} a ha e1 e2 hs=>by
  rcases hs with (h|⟨a',j1,j2⟩)|⟨a',j1,j2⟩
  ·exact h
  ·cases j1;omega
  ·cases j1;omega
 refine(zo2 (s:=w4.1.size) (s2:=w6.1.size) (Shun:=fun l=>(False\/∃ a:YQ,l=.cell a/\a.block=w4.1.size+4)\/∃ a:YQ,l=.cell a/\a.block=w6.1.size+4) X hm hz g8 ((zbi i5).gZ ((j4.gZ.trans l5.gZ).trans m4.gZ)) ((zbi l5).gZ m4.gZ) (fun l hl=>?_) (fun a ha=>cX a rfl oQ oQ) (fun a ha=>cX a ha oQ oQ) (fun a ha=>cX a ha oQ oQ) p.m lQ w8 gs8 sl8 t8 q8 J8 (fK.refl w8) (by rw[zsw];exact m3) m5 m6).imp fun v w h=>⟨h.1,g8.trans h.2⟩
 rcases hl with (h|⟨a',j1,j2⟩)|⟨a',j1,j2⟩
 ·exact h.elim
 ·exact⟨a',j1,oQ⟩
 ·exact⟨a',j1,oQ⟩
end
end Go.Proofs.YtaablbmgagiajabGreatDoor.Ren
namespace Go.Proofs.YtaablbmgagiajabGreatDoor
open Go.RowKit Go.Conc
variable{W w:YM}
theorem zo5{T:Type}{enc:YT×YN->T}{a:Assume}{C:Checked}{os:Os}{f:FuncId}{fn:Func}{s:ChangeSpec}{zb9:List PathCond}{apart zca zcb again:Bool}{X:YM->Array YN->Prop}
    (hX : ∀ (w w' : YM) (args : Array YN), w.1 = w'.1 → X w args → X w' args)
    (own : ownKnob C.prog.godebug = none) (Hz : os.Started) (vS : C.prog.funcs[f]? = some fn)
    (zrf : ∃ (w : YM) (tape : Tape) (i : Input), w.os = os ∧ (w.forCall tape i).Shaped C.prog ∧ i.vars = [] ∧ Input.okWide C.prog (w.forCall tape i) .any w.1.size f i ∧
      ((s.pre enc C.prog fn zb9 apart (w.forCall tape i).memory i.args ∧ X (w.forCall tape i).memory i.args) ∧ sizedMet enc C.prog fn (zzl s) apart (w.forCall tape i).memory i.args) ∧ a.holds C.prog (lone (Y8 C.prog f i.args .normal) [] (w.forCall tape i)))
    (zrg : ∀ (W : YM) (base : Nat) (args : Array YN) (ds gs : List (DataW T)) (Lp : List MemPlace), W.ShapedOpen C.prog →
      (∀ (j : Nat) t v, fn.params[j]? = some t → args[j]? = some v → zxq C.prog W .any base t v) →
      DataW.Whole enc C.prog fn.params.toList s.vars apart W args.toList ds gs Lp → X W args →
      ∃ M lq o w' t', runNT C.prog (M + 1) (solo (G (Y8 C.prog f args .normal) []) W) #[] = (.ended o w', t') ∧ runN C.prog M (solo (G (Y8 C.prog f args .normal) []) W) = .next lq ∧
        Go.step C.prog lq = .ended o w' ∧ zwS C.prog (fun v W' => s.post enc C.prog fn apart zca zcb again W args v W') lq o w' t') :
    ReturnsInLeavingWide a C os f .any (fun w args => (s.pre enc C.prog fn zb9 apart w args ∧ X w args) ∧ sizedMet enc C.prog fn (zzl s) apart w args) (s.post enc C.prog fn apart zca zcb again) := by
  refine returnsInLeavingWide_of_good own Hz zrf ?_
  intro w tape i _ FD _ av IW _
  obtain ⟨_, _, _, fn', zo6, _, _, _, _, pA⟩ := av
  have e : fn' = fn := Yz (zo6.symm.trans vS)
  subst e
  obtain ⟨⟨⟨ds, gs, Lp, hw, hc⟩, hx⟩, hz⟩ := IW
  have fH := DataW.Whole.of_heap (w' := w.forCall tape i) rQ hw
  obtain ⟨M, lq, o, w', t', h1, h2, h3, h4⟩ := zrg (w.forCall tape i) w.1.size i.args ds gs Lp FD pA fH (hX _ _ _ rQ hx)
  exact ⟨M, lq, o, w', t', h1, h2, h3, h4.mono fun v hp => ChangeSpec.post_blind hp⟩
theorem zo7(h:Ren.fK W w):Below W.1.size W w:=by
 exact⟨h.os,h.tape,h.out,h.size,h.low⟩
open Go.Proofs.Tryz
open Go.ChangeShapes Go.WideShapes Go.ChangeAt Go.Joins
theorem own:ownKnob π.godebug=none:=kQ
theorem laidOut:laidOutB π=true:=kQ
theorem zo8:(π.globals[3]?).map (·.type)=some 290:=kQ
theorem zo9:π.cellsOf 290=20:=kQ
theorem zpa:π.cellsOf 98=1:=kQ
theorem zbj:(π.globals[4]?).map (·.type)=some 54:=kQ
theorem zbk:(π.globals[5]?).map (·.type)=some 54:=kQ
theorem DG:∃ ms,π.underlying 54=some (.interface ms):=⟨_,underlying54⟩
theorem KU{P:Y2}{fuel:Nat}{t:YT}{cs:Array YN}{nm:String}{d:DataW Unit}{p:List MemPlace}(ht:∃ ms,P.underlying t=some (.interface ms))
  (h:ZY (fun _=>()) P w 0 (fun _=>true) false fuel t cs.toList=some (.iface nm d,p)):∃ u v,cs=#[.iface u v]:=by
 obtain⟨ms,ht⟩:=ht;obtain⟨l⟩:=cs;cases fuel with
 |zero=>simp[ZY]at h
 |succ n=>
  match l,h with
  |[],h=>simp[ZY,ht]at h
  |[x],h=>
   cases x<;>first |exact⟨_,_,rfl⟩|simp[ZY,ht]at h
  |x::y::r,h=>simp[ZY,ht]at h
theorem zpb(h:ztB π Rows.manyLimitsRow.laid W):kg W:=by
 have h':laidMet π [("math/bits.deBruijn32tab",Rows.laid_math_bits_deBruijn32tab),("math/bits.deBruijn64tab",Rows.laid_math_bits_deBruijn64tab),("internal/strconv.uint64pow10",Rows.laid_internal_strconv_uint64pow10),("strconv.ErrRange",Rows.laid_strconv_ErrRange),("strconv.ErrSyntax",Rows.laid_strconv_ErrSyntax)] W/\zxz π [("errors.errorType",Rows.laid_errors_errorType)] W:=h;obtain⟨⟨ps,hv,_⟩,_⟩:=h';obtain⟨_,_,_,_,_,_,_,_,_,_,hv,_⟩:=hv;obtain⟨_,_,_,_,_,_,_,_,_,_,hv,_⟩:=hv;obtain⟨g,t,cs,fuel,p,q,h1,h2,h3,h4,hv,_⟩:=hv;obtain⟨g',t',cs',zpc,p',q',k1,k2,k3,k4,hv,_⟩:=hv;obtain⟨g2,t2,cs2,zpd,p2,q2,l1,l2,l3,l4,_,_⟩:=hv;obtain rfl:=Yz (CG.symm.trans h1);obtain rfl:=Yz (zo8.symm.trans h2);obtain rfl:=Yz (CM.symm.trans k1);obtain rfl:=Yz (zbk.symm.trans k2);obtain rfl:=Yz (CL.symm.trans l1);obtain rfl:=Yz (zbj.symm.trans l2);have eX:=Go.Lib.cells_of_tab (zs:=Lib.pow10Tab) (k:=.u64) underlying290 underlying98 zpa zo9 h4;obtain⟨u,v,rfl⟩:=KU DG k4;obtain⟨u2,v2,rfl⟩:=KU DG l4;refine⟨?_,⟨u2,v2,l3⟩,⟨u,v,k3⟩⟩;unfold ml zux;rw[h3,<-eX]
theorem zpe:π.globalNamed "math/bits.deBruijn64tab" = some 6:=kQ
theorem zpf(h:ztB π Rows.manyLimitsRow.laid W):7<=W.1.size:=by
 have h':laidMet π [("math/bits.deBruijn32tab",Rows.laid_math_bits_deBruijn32tab),("math/bits.deBruijn64tab",Rows.laid_math_bits_deBruijn64tab),("internal/strconv.uint64pow10",Rows.laid_internal_strconv_uint64pow10),("strconv.ErrRange",Rows.laid_strconv_ErrRange),("strconv.ErrSyntax",Rows.laid_strconv_ErrSyntax)] W/\zxz π [("errors.errorType",Rows.laid_errors_errorType)] W:=h;obtain⟨⟨ps,hv,_⟩,_⟩:=h';obtain⟨_,_,_,_,_,_,_,_,_,_,hv,_⟩:=hv;obtain⟨_,_,cs,_,_,_,_,_,h3,_,_,_⟩:=hv;unfold zvx at h3;rw[zpe]at h3;by_cases hl:7<=W.1.size
 ·exact hl
 ·have:W.1[6]?=none:=XX oQ;simp[this]at h3
theorem zpg:π.globalNamed "errors.errorType" = some 0:=kQ
theorem zph:(π.cutTypes.find? (·.1 == "internal/reflectlite.rtype")).map (·.2)=some 237:=kQ
theorem zpi:((ZE 335).filter fun t=>π.rowNamed t [101,114,114,111,114])=[54]:=kQ
theorem zpj:π.types.size=335:=kQ
theorem zbl(h:ztB π Rows.manyLimitsRow.laid W):fC W:=by
 have h':laidMet π [("math/bits.deBruijn32tab",Rows.laid_math_bits_deBruijn32tab),("math/bits.deBruijn64tab",Rows.laid_math_bits_deBruijn64tab),("internal/strconv.uint64pow10",Rows.laid_internal_strconv_uint64pow10),("strconv.ErrRange",Rows.laid_strconv_ErrRange),("strconv.ErrSyntax",Rows.laid_strconv_ErrSyntax)] W/\zxz π [("errors.errorType",Rows.laid_errors_errorType)] W:=h;obtain⟨name,u,ty,e1,e2,e3,e4,e5⟩:=h'.2 _ (zsm.2 rfl);have en:name=[101,114,114,111,114]:=(Yz e1).symm;subst en;obtain rfl:=Yz (zph.symm.trans e2);have hm:ty∈(ZE 335).filter fun t=>π.rowNamed t [101,114,114,111,114]:=List.mem_filter.2 ⟨zuC.2 (by rw[<-zpj];exact e3),e4⟩
 rw[zpi]at hm;obtain rfl:=zsm.1 hm;have hh:typeHandle π 54=.pointer (some (aQ 7 54)):=kQ;rw[hh]at e5;unfold fC;simpa using zzD zpg e5 0
end Go.Proofs.YtaablbmgagiajabGreatDoor
namespace Go.Proofs.YtaablbmgagiajabGreatDoor.Ren
open Go.Proofs.Tryz
open Go Go.Conc
variable{W:YM}{u4 u5:YT}
theorem oN:((ZE 7).all fun g=>(((begin π (fun _ _=>0) default).world.1[g]?).bind zv2).any fun p=>decide (0<p.1.size))=true:=kQ
theorem zbm:([0,4,5].all fun g=>(((begin π (fun _ _=>0) default).world.1[g]?).bind zv2).any fun p=>decide (p.1.size=1))=true:=kQ
theorem zbn:(begin π (fun _ _=>0) default).world.1[7]?=some (.cells ((Array.range 335).map fun t=>.int .u64 (Int.ofNat t)) 0):=kQ
theorem Bp:π.globals.size=7:=kQ
theorem zpk:7<(begin π (fun _ _=>0) default).world.1.size:=by
 have h:=zbn;rcases Ys 7 (begin π (fun _ _=>0) default).world.1.size with h1|h1
 ·exact h1
 ·rw[XX h1]at h;cases h
def zl(k:Nat):Prop:=k=0\/k=3\/k=4\/k=5\/k=7
def zbo(b4 b5 k:Nat):Prop:=(k<7/\¬zl k)\/k=b4\/k=b5
theorem Qm(hs:W.ShapedOpen π){g:Nat}(hg:g<7):∃ cs t,W.1[g]?=some (.cells cs t (0,0))/\0<cs.size:=by
 have h:=X9.1 oN g (zuC.2 hg);cases hr:((begin π (fun _ _=>0) default).world.1[g]?).bind zv2 with
 |none=>rw[hr]at h;cases h
 |some p=>
  rw[hr]at h;obtain⟨z,t⟩:=p;obtain⟨cs,h1,h2,_⟩:=hs.1 g z t (by rw[Bp];exact hg) hr;refine⟨cs,t,h1,?_⟩;have:0<z.size:=by simpa using h
  omega
theorem zbp(hs:W.ShapedOpen π):W.1[7]?=some (.cells ((Array.range 335).map fun t=>.int .u64 (Int.ofNat t)) 0 (0,0)):=by
 obtain⟨o,o0,h1,h2,h3⟩:=hs.2 7 (by rw[Bp];exact Yp _) zpk;rw[zbn]at h2;cases h2;rw[YG (by rw[Bp];decide)]at h3;rw[h1,h3]
theorem zbq(hs:W.ShapedOpen π)(hn:kg W)(hE:fC W){v4 v5:YN}(h4:W.cell? (aQ 4 0)=some (.iface u4 v4))(h5:W.cell? (aQ 5 0)=some (.iface u5 v5)){a:YQ}{s:ByteArray}(ha:W.cell? a=some (.string s)):¬zl a.block:=by
 have one:∀{g:Nat},g∈[0,4,5]->g<7->∀{x:YN},W.cell? (aQ g 0)=some x->a.block=g->x=.string s:=fun {g} hm hg {x} hx e=>by
  have h:=X9.1 zbm g hm;cases hr:((begin π (fun _ _=>0) default).world.1[g]?).bind zv2 with
  |none=>rw[hr]at h;cases h
  |some p=>
   rw[hr]at h;obtain⟨z,t⟩:=p;obtain⟨cs,h1,h2,_⟩:=hs.1 g z t (by rw[Bp];exact hg) hr;have hz:z.size=1:=by simpa using h
   rw[kI (a:=(aQ g 0)) h1]at hx;rw[kI (a:=a) (by rw[e];exact h1)]at ha;split at ha
   ·cases ha
   ·have h0:a.off=0:=by
     rcases Ys a.off cs.size with h|h
     ·omega
     ·rw[XX h]at ha;cases ha
    rw[h0]at ha;have hx:cs[0]?=some x:=by simpa using hx
    rw[hx]at ha;exact Yz ha
 have ints:∀{g:Nat}{cs:Array YN}{t:YT}{z:Nat×Nat},W.1[g]?=some (.cells cs t z)->(∀ v∈cs,∃ n,v=.int .u64 n)->a.block≠g:=fun {g cs t z} h1 h2 e=>by
  rw[kI (a:=a) (by rw[e];exact h1)]at ha;split at ha
  ·cases ha
  ·obtain⟨n,hn⟩:=h2 _ (Array.mem_of_getElem? ha);cases hn
 rintro(e|e|e|e|e)
 ·cases one sQ dQ hE e
 ·obtain⟨cs,t,h1,_⟩:=Qm hs (g:=3) dQ;have hp:=hn.pow;unfold ml zux zvx at hp;rw[CG,zsz,h1]at hp;have hp:cs=(Lib.pow10Tab.map fun z=>Value.int .u64 z).toArray:=Yz hp;refine ints h1 (fun v hv=>?_) e;rw[hp]at hv;simp only[Yn,Ym]at hv;obtain⟨z,_,rfl⟩:=hv;exact⟨z,rfl⟩
 ·cases one sQ dQ h4 e
 ·cases one sQ dQ h5 e
 ·refine ints (zbp hs) (fun v hv=>?_) e;obtain⟨z,_,rfl⟩:=ztu.1 hv;exact⟨_,rfl⟩
theorem zpl(hs:W.ShapedOpen π)(hn:kg W)(hE:fC W){a4 a5:YQ}(h4:W.cell? (aQ 4 0)=some (.iface u4 (.pointer (some a4))))(h5:W.cell? (aQ 5 0)=some (.iface u5 (.pointer (some a5))))
  (k4:∃ c t,W.1[a4.block]?=some (.cells c t (0,0))/\0<c.size) (k5:∃ c t,W.1[a5.block]?=some (.cells c t (0,0))/\0<c.size) (n4:¬zl a4.block) (n5:¬zl a5.block):uE zl (zbo a4.block a5.block) W.1.size W.os W.1:=by
 have lt:∀{k:Nat}{o:Obj},W.1[k]?=some o->k<W.1.size:=fun {k o} h=>by
  rcases Ys k W.1.size with h1|h1
  ·exact h1
  ·rw[XX h1]at h;cases h
 have one:∀{g:Nat},g∈[0,4,5]->g<7->∀{x:YN},W.cell? (aQ g 0)=some x->∃ t,W.1[g]?=some (.cells #[x] t (0,0)):=fun {g} hm hg {x} hx=>by
  have h:=X9.1 zbm g hm;cases hr:((begin π (fun _ _=>0) default).world.1[g]?).bind zv2 with
  |none=>rw[hr]at h;cases h
  |some p=>
   rw[hr]at h;obtain⟨z,t⟩:=p;obtain⟨cs,h1,h2,_⟩:=hs.1 g z t (by rw[Bp];exact hg) hr;have hz:z.size=1:=by simpa using h
   obtain⟨l⟩:=cs;match l,h1,h2 with
   |[y],h1,_=>
    rw[kI (a:=(aQ g 0)) h1]at hx;have:y=x:=by simpa using hx
    subst this;exact⟨t,h1⟩
   |[],_,h2=>simp at h2;omega
   |_::_::_,_,h2=>simp at h2;omega
 have hH:=zbp hs;have aH:(env π W.1.size zl (zbo a4.block a5.block) W.os).A W.1.size 7:=.inr (.inl (eO (.inr rfl)));refine⟨fun k hk=>?_,fun k hk=>?_,fun k hk hO=>?_,by rw[Bp];exact eO (.inr rfl),fun g hg=>?_⟩
 ·rcases hk with rfl|rfl|rfl|rfl|rfl
  ·obtain⟨t,h1⟩:=one sQ dQ hE;refine⟨lt h1,_,t,h1,fun v hv=>?_⟩;simp only[Yn,Yl,Yo,YL]at hv;subst hv;refine⟨?_,trivial⟩;rw[ah,ah];refine⟨rfl,fun y hy=>?_⟩;simp only[Yn,Yl,Yo,YL]at hy;subst hy;rw[ah];exact aH
  ·obtain⟨cs,t,h1,_⟩:=Qm hs (g:=3) dQ;have hp:=hn.pow;unfold ml zux zvx at hp;rw[CG,zsz,h1]at hp;have hp:cs=(Lib.pow10Tab.map fun z=>Value.int .u64 z).toArray:=Yz hp;refine⟨lt h1,cs,t,h1,fun v hv=>?_⟩;rw[hp]at hv;simp only[Yn,Ym]at hv;obtain⟨z,_,rfl⟩:=hv;exact⟨uh rfl,trivial⟩
  ·obtain⟨t,h1⟩:=one sQ dQ h4;refine⟨lt h1,_,t,h1,fun v hv=>?_⟩;simp only[Yn,Yl,Yo,YL]at hv;subst hv;refine⟨?_,trivial⟩;rw[ah,ah];exact⟨rfl,eO (.inl rfl)⟩
  ·obtain⟨t,h1⟩:=one sQ dQ h5;refine⟨lt h1,_,t,h1,fun v hv=>?_⟩;simp only[Yn,Yl,Yo,YL]at hv;subst hv;refine⟨?_,trivial⟩;rw[ah,ah];exact⟨rfl,eO (.inr rfl)⟩
  ·refine⟨lt hH,_,_,hH,fun v hv=>?_⟩;obtain⟨z,_,rfl⟩:=ztu.1 hv;exact⟨uh rfl,trivial⟩
 ·rcases hk with ⟨hk,_⟩|rfl|rfl
  ·obtain⟨cs,t,h1,h2⟩:=Qm hs hk;exact⟨lt h1,cs,t,h1,h2⟩
  ·obtain⟨c,t,h1,h2⟩:=k4;exact⟨lt h1,c,t,h1,h2⟩
  ·obtain⟨c,t,h1,h2⟩:=k5;exact⟨lt h1,c,t,h1,h2⟩
 ·rcases hO with ⟨_,h⟩|rfl|rfl
  ·exact h hk
  ·exact n4 hk
  ·exact n5 hk
 ·rw[Bp]at hg;rcases Classical.em (zl g)with h|h
  ·exact .inl h
  ·exact .inr (.inl ⟨hg,h⟩)
end Go.Proofs.YtaablbmgagiajabGreatDoor.Ren
namespace Go.Proofs.YtaablbmgagiajabGreatDoor
open Go.Proofs.Tryz
open Go.ChangeShapes Go.WideShapes Go.ChangeAt Go.RowKit Go.Joins
variable{v:YN}
section
variable {P:Y2}{W:YM}{base n:Nat}{spare:Nat->Bool}{held:Bool}{t:YT}{cs:List YN}{d:DataW Unit}{ds:List (DataW Unit)}{l:List UInt8}{p:List MemPlace}
theorem zpm(h:ZY (fun _=>()) P W base spare held n t cs=some (.agg ds,p)):(∃ fs,P.underlying t=some (.struct fs))\/∃ k e,P.underlying t=some (.array k e):=by
 cases n with
 |zero=>simp[ZY]at h
 |succ n=>
  unfold ZY at h;split at h<;>simp_all
  all_goals(first |(split at h<;>simp_all[zsI,Option.map_eq_some_iff])|(simp[zsI,Option.map_eq_some_iff]at h))
theorem zpn(h:ZY (fun _=>()) P W base spare held n t cs=some (.ptr d,p)):∃ e,P.underlying t=some (.pointer e):=by
 cases n with
 |zero=>simp[ZY]at h
 |succ n=>
  unfold ZY at h;split at h<;>simp_all
  all_goals(first |(split at h<;>simp_all[zsI,Option.map_eq_some_iff])|(simp[zsI,Option.map_eq_some_iff]at h))
theorem zbr(h:ZY (fun _=>()) P W base spare held n t cs=some (.lit (.string l),p)):∃ s,cs=[.string s]:=by
 cases n with
 |zero=>simp[ZY]at h
 |succ n=>
  unfold ZY at h;split at h<;>simp_all
  all_goals(first |(split at h<;>simp_all[zsI,Option.map_eq_some_iff])|(simp[zsI,Option.map_eq_some_iff]at h))
theorem zbs{xs:List (DataW Unit×List MemPlace)}{d:DataW Unit}(h:xs.map (·.1)=[d]):∃ q,xs=[(d,q)]:=by
 match xs,h with
 |[x],h=>
  simp only[Yi,Yj,zr9,zsB]at h;exact⟨x.2,by rw[<-h]⟩
theorem zbt{cs:List YN}{o c:Nat}(h:(cs.drop o).take c=[v]):cs[o]?=some v:=by
 have h1:((cs.drop o).take c)[0]?=some v:=by rw[h];rfl
 rw[zse]at h1;split at h1
 ·simpa using h1
 ·cases h1
theorem zpo(h:ZY (fun _=>()) P W base spare held n t cs=some (.agg [.lit (.string l)],p)):∃(o:Nat)(s:ByteArray),cs[o]?=some (Value.string s):=by
 rcases zpm h with ⟨fs,hu⟩|⟨k,e,hu⟩
 ·obtain⟨xs,m,_,hx,_,cP,hf⟩:=DataW.trod_struct hu h;simp only[zsA,zAE]at hx;obtain⟨q,rfl⟩:=zbs hx.1.symm;have hz:0<fs.size:=by rw[<-cP];exact zxd
  have h0:=hf 0 fs[0] (XW hz);obtain⟨s,hs⟩:=zbr h0;exact⟨_,s,zbt hs⟩
 ·obtain⟨xs,m,_,hx,_,cP,hf⟩:=DataW.trod_array hu h;simp only[zsA,zAE]at hx;obtain⟨q,rfl⟩:=zbs hx.1.symm;have hz:0<k:=by rw[<-cP];exact zxd
  have h0:=hf 0 hz;obtain⟨s,hs⟩:=zbr h0;exact⟨_,s,zbt hs⟩
theorem zbu{te u:YT}{nm:String}(he:∃ ms,P.underlying te=some (.interface ms))(ok:zxq P W .any 0 u v)(h:ZY (fun _=>()) P W base spare false n te [.iface u v]=some (.iface nm (.ptr (.agg [.lit (.string l)])),p)):
  ∃ a o s,v=.pointer (some a)/\zBo a.block (a.off+o)∈p/\W.cell? (a.add o)=some (.string s):=by
 obtain⟨ms,he⟩:=he;cases n with
 |zero=>simp[ZY]at h
 |succ n=>
  unfold ZY at h;rw[he]at h;simp only at h;cases hN:P.typeName? 3 u with
  |none=>rw[hN]at h;cases h
  |some nm'=>
   rw[hN]at h;simp only[Yx,zsA,DataW.iface.injEq]at h;obtain⟨x,hx,⟨rfl,hd⟩,rfl⟩:=h;obtain⟨x1,x2⟩:=x;simp only at hd;subst hd;obtain⟨e,hp⟩:=zpn hx;obtain⟨y,rfl⟩:=okWide_pointer hp ok;rcases DataW.trod_pointer hp hx with ⟨_,e2⟩|⟨a,cs',z,m,_,e1,e2,e3,e4⟩
   ·cases e2
   ·have ea:y=some a:=by simpa[Value.cells]using e1
    subst ea;obtain⟨z1,z2⟩:=z;simp only[zsA,DataW.ptr.injEq]at e2;obtain⟨rfl,rfl⟩:=e2;obtain⟨_,hl,hc⟩:=World.cells?_some e3;obtain⟨o,s,ho⟩:=zpo e4;have aj:o<P.cellsOf e:=by
     have:=(Ye.1 ho).1;omega
    refine⟨a,o,s,rfl,zuB _ (Ym.2 ⟨o,zuC.2 aj,rfl⟩),?_⟩;rw[hc o aj];exact ho
end
theorem row_one(g:Nat){n:Nat}(h:0<n):zBo g 0∈zBp (aQ g 0) n:=by
 unfold zBp;exact Ym.2 ⟨0,zuC.2 h,rfl⟩
set_option maxRecDepth 100000 in
theorem zpp{W:YM}(h:ztB π Rows.manyLimitsRow.laid W):∃ a4 a5 u4 u5 b4 b5 s4 s5,W.cell? (aQ 4 0)=some (.iface u4 (.pointer (some a4)))/\W.cell? (aQ 5 0)=some (.iface u5 (.pointer (some a5)))/\
  (∃ c t,W.1[a4.block]?=some (.cells c t (0,0))/\0<c.size)/\(∃ c t,W.1[a5.block]?=some (.cells c t (0,0))/\0<c.size)/\(W.cell? b4=some (.string s4)/\b4.block=a4.block)/\W.cell? b5=some (.string s5)/\b5.block=a5.block:=by
 have h':laidMet π [("math/bits.deBruijn32tab",Rows.laid_math_bits_deBruijn32tab),("math/bits.deBruijn64tab",Rows.laid_math_bits_deBruijn64tab),("internal/strconv.uint64pow10",Rows.laid_internal_strconv_uint64pow10),("strconv.ErrRange",Rows.laid_strconv_ErrRange),("strconv.ErrSyntax",Rows.laid_strconv_ErrSyntax)] W/\zxz π [("errors.errorType",Rows.laid_errors_errorType)] W:=h;obtain⟨⟨ps,hv,_,Dr⟩,_⟩:=h';obtain⟨_,_,_,_,_,q1,_,_,_,_,hv,rfl⟩:=hv;obtain⟨_,_,_,_,_,q2,_,_,_,_,hv,rfl⟩:=hv;obtain⟨_,_,_,_,_,q3,_,_,_,_,hv,rfl⟩:=hv;obtain⟨g',t',cs',zpc,p',q',k1,k2,k3,k4,hv,rfl⟩:=hv;obtain⟨g2,t2,cs2,zpd,p2,q2',l1,l2,l3,l4,_,rfl⟩:=hv;obtain rfl:=Yz (CM.symm.trans k1);obtain rfl:=Yz (zbk.symm.trans k2);obtain rfl:=Yz (CL.symm.trans l1);obtain rfl:=Yz (zbj.symm.trans l2);obtain⟨u,v,rfl⟩:=KU DG k4;obtain⟨u2,v2,rfl⟩:=KU DG l4;have c5:W.cell? (aQ 5 0)=some (.iface u v):=by simpa using zzD CM k3 0
 have c4:W.cell? (aQ 4 0)=some (.iface u2 v2):=by simpa using zzD CL l3 0
 have o5:=(Dr 5 0 (Z8 _ (Z8 _ (Z8 _ (zuB _ (zuB _ (row_one _ zxd))))))).2 u v c5;have o4:=(Dr 4 0 (Z8 _ (Z8 _ (Z8 _ (Z8 _ (zuB _ (zuB _ (row_one _ zxd)))))))).2 u2 v2 c4;obtain⟨a5,i5,s5,rfl,m5,e5⟩:=zbu DG o5 k4;obtain⟨a4,i4,s4,rfl,m4,e4⟩:=zbu DG o4 l4;have bl:∀(a:YQ)(i:Nat),(a.add i).block=a.block:=fun a i=>by unfold Addr.add;split<;>rfl
 have pos:∀{a:YQ}{s:ByteArray}{c:Array YN}{t:YT},W.1[a.block]?=some (.cells c t (0,0))->W.cell? a=some (.string s)->0<c.size:=fun {a s c t} h1 h2=>by
  rw[Ren.kI h1]at h2;split at h2
  ·cases h2
  ·rcases Ys a.off c.size with h|h
   ·omega
   ·rw[XX h]at h2;cases h2
 obtain⟨b5,t5,qd⟩:=(Dr a5.block (a5.off+i5) (Z8 _ (Z8 _ (Z8 _ (zuB _ (Z8 _ m5)))))).1;obtain⟨b4,t4,hb4⟩:=(Dr a4.block (a4.off+i4) (Z8 _ (Z8 _ (Z8 _ (Z8 _ (zuB _ (Z8 _ m4))))))).1;exact⟨a4,a5,u2,u,a4.add i4,a5.add i5,s4,s5,c4,c5,⟨b4,t4,hb4,pos (a:=a4.add i4) (by rw[bl];exact hb4) e4⟩,⟨b5,t5,qd,pos (a:=a5.add i5) (by rw[bl];exact qd) e5⟩,⟨e4,bl _ _⟩,e5,bl _ _⟩
theorem zpq{W:YM}(hs:W.ShapedOpen π)(h:ztB π Rows.manyLimitsRow.laid W):∃ O,Ren.KH Ren.zl O W.1.size W.os W:=by
 obtain⟨a4,a5,u4,u5,b4,b5,s4,s5,h4,h5,k4,k5,⟨e4,f4⟩,e5,f5⟩:=zpp h;have hn:=zpb h;have hE:=zbl h;exact⟨_,Ren.zpl hs hn hE h4 h5 k4 k5 (f4▸Ren.zbq hs hn hE h4 h5 e4) (f5▸Ren.zbq hs hn hE h4 h5 e5),hn,zpf h,.inr (.inl rfl),.inr (.inr (.inl rfl)),eO (.inl rfl)⟩
end Go.Proofs.YtaablbmgagiajabGreatDoor
namespace Go.Proofs.YtaablbmgagiajabGreatDoor.Ren
open Go.Proofs.Tryz
open Go Go.Conc
variable{k:Nat}
section
variable {R O:Nat->Prop}{B:Nat}{os:Os}{w0 wl:YM}
theorem zb0(h:uE R O B os w0.1)(hw:wl.1=jo Classical.propDecidable R O B w0.1)(hk:R k):∃ c t,w0.1[k]?=some (.cells c t (0,0))/\wl.1[k]?=some (.cells c t (0,c.size)):=by
 obtain⟨h1,c,t,h2,_⟩:=h.ro k hk;exact⟨c,t,h2,by rw[hw];exact(Nh h1 h2).1 hk⟩
theorem zq0(h:uE R O B os w0.1)(hw:wl.1=jo Classical.propDecidable R O B w0.1)(hk:R k)(i:Nat):wl.cell? (aQ k i)=w0.cell? (aQ k i):=by
 obtain⟨c,t,h1,h2⟩:=zb0 h hw hk;simp only[Z9,h1,h2]
theorem QZ(h:uE R O B os w0.1)(hw:wl.1=jo Classical.propDecidable R O B w0.1){s:String}(hg:π.globalNamed s=some k)(hk:R k):wl.var? π s=w0.var? π s:=by
 obtain⟨c,t,h1,h2⟩:=zb0 h hw hk;simp only[zvx,hg,zsz,h1,h2]
def Q0(t:List UInt8)(v:YN)(_:YM):Prop:=∃ X l,ot (jf t) X0 [] X l/\l.length<=90000000/\v=.string (txt l)
theorem zb1(h:uE R O B os w0.1)(hn:kg w0)(hE:fC w0)(hB:7<=B)(h3:R 3)(h4:R 4)(h5:R 5)(h0:R 0)(t:List UInt8)(ht:t.length<=1501):
  kM (env π B R O os) ([Y8 π 23 #[.string (txt t)] .normal],jo Classical.propDecidable R O B w0.1) (Q0 t):=by
 refine zfD fun wl hw _=>?_
 have gv:kg wl:=by
  refine⟨?_,?_,?_⟩
  ·have:=hn.pow;unfold ml zux at this⊢;rw[QZ h hw CG h3];exact this
  ·rw[QZ h hw CL h4];exact hn.AB
  ·rw[QZ h hw CM h5];exact hn.AD
 have hE':fC wl:=by
  unfold fC at hE⊢;rw[zq0 h hw h0];exact hE
 refine(zqZ t ht wl gv hE' (by rw[hw,Fp];exact hB)).mono ?_;rintro e w' ⟨⟨X,l,h1,h2,rfl⟩,_⟩;exact⟨_,rfl,X,l,h1,h2,rfl⟩
end
end Go.Proofs.YtaablbmgagiajabGreatDoor.Ren
namespace Go.Proofs.YtaablbmgagiajabGreatDoor.Ren
open Go.Proofs.Tryz
open Go Go.Conc
def pW(dG:∀ p:Prop,Decidable p)(R O:Nat->Prop)(B:Nat)(os:Os)(W0:YM)(m:Nat)(ts:Nat->List UInt8):Pa where
 B:=B
 R:=R
 O:=O
 os:=os
 w0:=W0
 Wg:=0
 Cn:=0
 An:=0
 Bt:=0
 Ba:=0
 n:=0
 m:=m
 Shun _:=False
 tx k:=txt (ts k)
 h0:=jo dG R O B W0.1
 Rr k:=Q0 (ts k)
 dP k v:=∃ w,Q0 (ts k) v w
 j0:=0
 s0:=0
theorem kM.imp{E:Env}{x0:jB}{R R':YN->YM->Prop}(h:∀ v w,R v w->R' v w)(hC:kM E x0 R):kM E x0 R':=fun wl h1 h2=>by
 obtain⟨v,w',fr,k,k1,k2⟩:=hC wl h1 h2;exact⟨v,w',fr,k,h v w' k1,k2⟩
theorem zq1:ot (jf Go.Proofs.YtaablbmgagiajabGreatDoor.t0) X0 [] X0 Dx:=by
 have e:jf Go.Proofs.YtaablbmgagiajabGreatDoor.t0=[[99,111,110,102,108,105,99,116,115],[109,111,115,116],[115,104,111,119],[120]]:=kQ;have h1:nw X0 [99,111,110,102,108,105,99,116,115] X0 [52,32,52,32,51]=(X0=X0/\[52,32,52,32,51]=([52,32,52,32,51]:List UInt8)):=kQ;have h2:nw X0 [109,111,115,116] X0 [50]=(X0=X0/\[50]=([50]:List UInt8)):=kQ;have h3:nw X0 [115,104,111,119] X0 [48,32,48,32,102,97,108,115,101]=(X0=X0/\[48,32,48,32,102,97,108,115,101]=([48,32,48,32,102,97,108,115,101]:List UInt8)):=kQ;have h4:nw X0 [120] X0 [101,114,114,111,114,32,51]=(X0=X0/\[101,114,114,111,114,32,51]=([101,114,114,111,114,32,51]:List UInt8)):=kQ;rw[e];exact⟨_,_,h1.mpr ⟨rfl,rfl⟩,_,_,h2.mpr ⟨rfl,rfl⟩,_,_,h3.mpr ⟨rfl,rfl⟩,_,_,h4.mpr ⟨rfl,rfl⟩,rfl,rfl⟩
theorem zq2(l:List UInt8):(txt l).size=l.length:=rfl
theorem zq3{R O:Nat->Prop}{B:Nat}{W0:YM}(rd:KH R O B W0.os W0)(hE:fC W0)(Ll:R 0)(hB:B<=W0.1.size){m:Nat}{ts:Nat->List UInt8}{ta:Option YQ}(tx:KR (pW Classical.propDecidable R O B W0.os W0 m ts) ta W0):xC (pW Classical.propDecidable R O B W0.os W0 m ts) ta W0 where
 rd:=rd
 B:=hB
 os:=rfl
 h0:=rfl
 tx:=tx
 zbh:=(zb1 rd.low rd.num hE rd.B rd.pow rd.AB rd.AD Ll Go.Proofs.YtaablbmgagiajabGreatDoor.t0 dQ).imp fun v w ⟨X,l,h1,_,e⟩=>by rw[e,(ot.qq h1 zq1).2]
 cont i _ hz:=zb1 rd.low rd.num hE rd.B rd.pow rd.AB rd.AD Ll (ts i) (by
  have hz:(txt (ts i)).size<=1000:=hz;rw[zq2]at hz;omega)
 val i v w _ h:=⟨w,h⟩
 dP i v h:=by
  obtain⟨w,X,l,_,_,e⟩:=h;exact⟨_,e⟩
 one i v v' h h':=by
  obtain⟨w,X,l,h1,_,e⟩:=h;obtain⟨w',X',l',wN,_,e'⟩:=h';rw[e,e',(ot.qq h1 wN).2]
end Go.Proofs.YtaablbmgagiajabGreatDoor.Ren
namespace Go.Proofs.YtaablbmgagiajabGreatDoor
open Go.Proofs.Tryz
open Go.RowKit Go.Conc
theorem zq4{R O:Nat->Prop}{B:Nat}{W:YM}(rd:Ren.KH R O B W.os W)(hE:fC W)(Ll:R 0)(hB:B<=W.1.size){m tc:Nat}{ts:Nat->List UInt8}{ta:Option YQ}(tx:∀ k,k<m->∃ a,ta=some a/\W.cell? (a.add k)=some (.string (txt (ts k)))/\a.block<W.1.size)(a b:Int):Ren.jN π (fun v w=>v=.bool true/\Ren.fK W w) (solo (G (Y8 π 7 #[.slice ta m tc,iQ a,iQ b] .normal) []) W) #[]:=Ren.zo3 (tc:=tc) (Ren.zq3 rd hE Ll hB (m:=m) (ts:=ts) (ta:=ta) tx) a b none
end Go.Proofs.YtaablbmgagiajabGreatDoor
