import Derived.Conc.Beside
import Derived.Test.YtaablbmgagiajabGreatDoorZAA
open Go renaming Addr->YQ,Event->YX,choose->zwT,frozen->zyo,getObj->zt9,load->zwU,setObj->zwV,store->ztI,IntKind->zty,Obj->Y0,Program->Y2,TypeDesc->zwg,TypeId->YT,Unsupported->zzy,Value->YN,World->YM,askRoom->zwo,behindNumber->ztX,cellsIn->zuV,loadCellsFrom->zzQ,mayBeOne->zwq,movedNumber->zzT,movedPointer->zzU,noView->zuY,numberAt->zuZ,panicString->zzY,runtimePanic->zs5,seenCells->zxE,storeCells->zwx,strVal->Z1,stringish->zu3,typeHandle->zs6,typeInfo->zup,viewAt->zu4
open Array renaming all_eq_true'->zvC,append_assoc->zAg,ext_getElem?->zt4,foldl_toList->zu8,forIn_toList->zwB,getD_eq_getD_getElem?->zvD,getElem?_modify->zte,getElem?_push_lt->ztt,getElem?_push_size->zwC,map_congr_left->ztD,map_push->zAk,map_setIfInBounds->zxP,mem_iff_getElem->zxQ,mem_map->ztu,mem_of_getElem?->zt5,mem_or_eq_of_mem_setIfInBounds->zxR,mem_push->zwD,push_eq_append->zu9,range->zsH,size_map->zt6,size_setIfInBounds->ztv,toList_map->zsV,toList_zipIdx->zxT
open Go.Builtin renaming unsafeAdd_->zus
open Except renaming bind->ztg,map->zvK,pure->ztH
open Except.ok renaming injEq->zyk
open ForInStep renaming done->zwQ,yield->zwR
open Go.Conc renaming mem_of_getElem?->zym,getElem?_append_cases->zs1,getElem?_append_old->zCq,lt_size_of_getElem?->zzR,noRace_append->zws,seen_app->zxF,touch_of->zxH
open Go.Instr renaming alloc->zys,box->zyt,build->zyu,buildSlice->zyv,checkKey->zvg,extract->zyy,field->zyz,fieldAt->zyA,fill->zth,findAsking->zyB,findKey->ztJ,findNow->ztK,index->ztb,indexAt->zvQ,keyThatStays->zyD,loadAt->zwW,lookup->zuu,makeInterface->zyE,makeMap->zwX,makeSlice->zwY,mapUpdate->ZI,next->zyF,panic->zyG,range->zyH,sameBits->zti,sameNow->zvR,slice->zvS,sliceAt->zyI,sliceBound->zvT,sliceBounds->zyJ,storeAt->zyK,sureAddr->zyL,typeAssert->zuv
open List renaming foldlM_cons->zw2,foldl_cons->zw3,forIn_cons->zw4,getD_eq_getElem?_getD->zw5,map_congr_left->zuA
open Go.MemAct renaming touch?->Zv
open MonadExcept renaming throw->Z5
open MonadExceptOf renaming throw->ztP
open Nat renaming le_of_not_lt->zBr
open Go.Obj.cells renaming injEq->zBG
open Go.Op renaming addrCmp->zzf,addrMod->zv3,addrSub->zzg,eqGuardIn->zv4,equalIn->zsQ,intArith->zv6,intBits->zxh,intCmp->zxi,intDiv->zv7,stringOp->zzj,twoPlaces->zzk
open Option renaming isSome_map->zv9,isSome_none->zxk
open Pure renaming pure->YZ
open Go.Sem renaming runT->ztz
open Std.Legacy.Range renaming forIn_eq_forIn_range'->zBZ
open Go.Trace renaming g?->zuQ
open Go.Value renaming bytes?->zzz,ofBytes->zzA
open Go.World renaming cell?->Z9,farLoad->zvv,farStore->zvw,freeze->zxr,frozen?->zwj,noCell->zwk,seen->zxt,shape?->zuk,viewLoad->zB9,viewStore->zxv
namespace Go.Proofs.YtaablbmgagiajabGreatDoor.Ren
open Go Go.Conc
open Go.ConcN (RelBy fork_knows)
variable{a at' at_ k':YQ}{atomic:Bool}{b:Int}{c c' cs zs:Array YN}{d:Deferred}{e:YT}{es:Array YX}{fn:Fn}{h hc hl:Array Y0}{i k len r:Nat}{ix v x y:YN}{l:List Nat}{o o2:Y0}{op:BinOp}{ps:Array (Nat×YN)}{s:String}{tl:List YQ}{vR:Option YN}{w w':YM}{z z':Nat×Nat}
structure H6(Sh Shun Rd:Loc->Prop)(Own:Nat->Loc->Prop):Prop where
 zD:∀ l,Sh l->¬Rd l
 Eg:∀ l k,Sh l->¬Own k l
 Eh:∀ l k,Rd l->¬Own k l
 Lq:∀ l,Rd l->¬Shun l
 own:∀ l k k',Own k l->Own k' l->k=k'
def zE(s0 j0 i:Nat)(op:MemOp):Prop:=i<s0\/op.g<j0
structure Tr(Sh Shun Rd:Loc->Prop)(Own:Nat->Loc->Prop)(s0 j0 N B:Nat)(t:Trace):Prop where
 clean:∀ said,¬Race said t
 old:∀(i:Nat)(op:MemOp)(a:Touch),t[i]?=some op->op.act.touch?=some a->a.loc.isMemory=true->zE s0 j0 i op->(Knows t 0 i\/(Shun a.loc/\a.kind=.atomic))/\(Sh a.loc->a.kind≠.plain/\(a.kind=.said->op.g=0))/\(∀ k,¬Own k a.loc)/\(Rd a.loc->a.write=true->∀ k,j0<=k->k<N->Knows t k i)
 new:∀(i:Nat)(op:MemOp)(a:Touch),t[i]?=some op->op.act.touch?=some a->a.loc.isMemory=true->¬zE s0 j0 i op->(Sh a.loc/\a.kind=.atomic)\/(Own op.g a.loc/\a.kind=.plain)\/(Rd a.loc/\a.write=false/\a.kind=.plain)
 gs:∀(i:Nat)(op:MemOp),s0<=i->t[i]?=some op->op.g<N
 seen:∀ op∈t,op.act.low B
 over:∀(i g:Nat),t.g? i=some g->g≠0->(i<s0\/g<j0)->t.counts i->∃ j,t.g? j=some 0/\HappensBefore t i j
 size:s0<=t.size
 pos:0<j0
section
variable {Sh Shun Rd:Loc->Prop}{Own:Nat->Loc->Prop}{s0 j0 N B:Nat}{t u:Trace}
theorem H8(h:∀(i g:Nat),t.g? i=some g->g≠0->(i<s0\/g<j0)->t.counts i->∃ j,t.g? j=some 0/\HappensBefore t i j)(hs:s0<=t.size)(hu:∀ op∈u,op.g=0\/j0<=op.g\/op.act.touch?=none):
  ∀(i g:Nat),(t++u).g? i=some g->g≠0->(i<s0\/g<j0)->(t++u).counts i->∃ j,(t++u).g? j=some 0/\HappensBefore (t++u) i j:=by
 intro i g hg aW he hc;obtain⟨x,hx,gW⟩:=hc;obtain⟨op,hop,Rl⟩:=zxH hx;rcases zs1 hop with ⟨hi,zrj⟩|⟨hi,zce⟩
 ·obtain⟨j,hj,hb⟩:=h i g (by simpa[zuQ,zCq hi]using hg) aW he ((counts_old hi).1 ⟨x,hx,gW⟩);have Ei:j<t.size:=by
   unfold zuQ at hj;obtain⟨z,hz,_⟩:=Yx.1 hj;exact zzR hz
  exact⟨j,by simpa[zuQ,zCq Ei]using hj,hb_app u hb⟩
 ·have bO:op.g=g:=by simpa[zuQ,hop]using hg
  rcases hu op zce with h0|h0|h0
  ·exact absurd (bO.symm.trans h0) aW
  ·rcases he with he|he<;>omega
  ·rw[h0]at Rl;cases Rl
theorem Tr.appW(A:H6 Sh Shun Rd Own)(h:Tr Sh Shun Rd Own s0 j0 N B t)(hk:j0<=k)(ny:k<N)(hg:∀ op∈u,op.g=k)(hl:∀ op∈u,op.act.low B)
  (hu:∀ op∈u,∀ a,op.act.touch?=some a->a.loc.isMemory=true->(Sh a.loc/\a.kind=.atomic)\/(Own k a.loc/\a.kind=.plain)\/(Rd a.loc/\a.write=false/\a.kind=.plain)):Tr Sh Shun Rd Own s0 j0 N B (t++u):=by
 have bm:=h.size;refine⟨fun said=>zws (h.clean said) hg fun i a ha op hop b hb hc=>?_,fun i op a hi ha hm he=>?_,fun i op a hi ha hm he=>?_,fun i op hs hi=>?_,zxF h.seen hl,H8 h.over bm fun op hop=>.inr (.inl (by rw[hg op hop];exact hk)),tQ,h.pos⟩
 ·obtain⟨x,hx,Ej⟩:=zxH ha;obtain⟨e1,e2,e3,e4⟩:=hc;have zF:b.loc.isMemory=true:=by rw[<-e1];exact e2
  by_cases hE:zE s0 j0 i x
  ·obtain⟨o1,o2,o3,o4⟩:=h.old i x a hx Ej e2 hE;rcases hu op hop b hb zF with ⟨q1,q2⟩|⟨q1,q2⟩|⟨q1,q2,q3⟩
   ·have:=(o2 (e1▸q1)).1;rw[q2]at e4;rcases e4 with e|e|⟨_,_,e⟩
    ·exact absurd e this
    ·cases e
    ·cases e
   ·exact absurd (e1▸q1) (o3 k)
   ·exact o4 (e1▸q1) (e3.resolve_right (by simp[q2])) k hk ny
  ·rcases h.new i x a hx Ej e2 hE with ⟨p1,p2⟩|⟨p1,p2⟩|⟨p1,p2,p3⟩<;>rcases hu op hop b hb zF with ⟨q1,q2⟩|⟨q1,q2⟩|⟨q1,q2,q3⟩
   ·rw[p2,q2]at e4;rcases e4 with e|e|⟨_,e,_⟩<;>cases e
   ·exact absurd q1 (A.Eg _ k (e1▸p1))
   ·exact absurd q1 (A.zD _ (e1▸p1))
   ·exact absurd p1 (A.Eg _ _ (e1▸q1))
   ·have:=A.own _ _ _ (e1▸p1) q1;have hk:=knows_own hx;rwa [this]at hk
   ·exact absurd (e1▸p1) (A.Eh _ _ q1)
   ·exact absurd (e1▸p1) (A.zD _ q1)
   ·exact absurd q1 (A.Eh _ _ (e1▸p1))
   ·rw[p2,q2]at e3;rcases e3 with e|e<;>cases e
 ·rcases zs1 hi with ⟨_,aN⟩|⟨Ek,ir⟩
  ·obtain⟨o1,o2,o3,o4⟩:=h.old i op a aN ha hm he;exact⟨o1.imp (·.app u) id,o2,o3,fun q1 q2 k' q3 q4=>(o4 q1 q2 k' q3 q4).app u⟩
  ·rcases he with he|he
   ·omega
   ·rw[hg op ir]at he;omega
 ·rcases zs1 hi with ⟨_,aN⟩|⟨_,ir⟩
  ·exact h.new i op a aN ha hm he
  ·rw[hg op ir];exact hu op ir a ha hm
 ·rcases zs1 hi with ⟨_,aN⟩|⟨_,ir⟩
  ·exact h.gs i op hs aN
  ·rw[hg op ir];exact ny
theorem Tr.app0(A:H6 Sh Shun Rd Own)(h:Tr Sh Shun Rd Own s0 j0 N B t)(hN:0<N)(hg:∀ op∈u,op.g=0)(hl:∀ op∈u,op.act.low B)
  (hu:∀ op∈u,∀ a,op.act.touch?=some a->a.loc.isMemory=true->(Sh a.loc/\a.kind≠.plain)\/(Rd a.loc/\a.write=false)\/(¬Sh a.loc/\¬Rd a.loc/\(∀ k,¬Own k a.loc)/\(Shun a.loc->a.kind≠.plain))):Tr Sh Shun Rd Own s0 j0 N B (t++u):=by
 have bm:=h.size;have hj:=h.pos;refine⟨fun said=>zws (h.clean said) hg fun i a ha op hop b hb hc=>?_,fun i op a hi ha hm he=>?_,fun i op a hi ha hm he=>?_,fun i op hs hi=>?_,zxF h.seen hl,H8 h.over bm fun op hop=>.inl (hg op hop),tQ,hj⟩
 ·obtain⟨x,hx,Ej⟩:=zxH ha;obtain⟨e1,e2,e3,e4⟩:=hc;have zF:b.loc.isMemory=true:=by rw[<-e1];exact e2
  by_cases hE:zE s0 j0 i x
  ·obtain⟨o1,o2,o3,o4⟩:=h.old i x a hx Ej e2 hE;rcases o1 with o1|⟨o1,Rm⟩
   ·exact o1
   ·rcases hu op hop b hb zF with ⟨q1,q2⟩|⟨q1,q2⟩|⟨q1,q2,q3,q4⟩
    ·rw[Rm]at e4;rcases e4 with e|e|⟨_,e,_⟩
     ·cases e
     ·exact absurd e q2
     ·cases e
    ·exact absurd (e1▸o1) (A.Lq _ q1)
    ·rw[Rm]at e4;rcases e4 with e|e|⟨_,e,_⟩
     ·cases e
     ·exact absurd e (q4 (e1▸o1))
     ·cases e
  ·rcases h.new i x a hx Ej e2 hE with ⟨p1,p2⟩|⟨p1,p2⟩|⟨p1,p2,p3⟩<;>rcases hu op hop b hb zF with ⟨q1,q2⟩|⟨q1,q2⟩|⟨q1,q2,q3,q4⟩
   ·rw[p2]at e4;rcases e4 with e|e|⟨_,e,_⟩
    ·cases e
    ·exact absurd e q2
    ·cases e
   ·exact absurd q1 (A.zD _ (e1▸p1))
   ·exact absurd (e1▸p1) q1
   ·exact absurd p1 (A.Eg _ _ (e1▸q1))
   ·exact absurd p1 (A.Eh _ _ (e1▸q1))
   ·exact absurd (e1▸p1) (q3 _)
   ·exact absurd (e1▸p1) (A.zD _ q1)
   ·rw[p2,q2]at e3;rcases e3 with e|e<;>cases e
   ·exact absurd (e1▸p1) q2
 ·rcases zs1 hi with ⟨_,aN⟩|⟨Ek,ir⟩
  ·obtain⟨o1,o2,o3,o4⟩:=h.old i op a aN ha hm he;exact⟨o1.imp (·.app u) id,o2,o3,fun q1 q2 k' q3 q4=>(o4 q1 q2 k' q3 q4).app u⟩
  ·have jz:=knows_own hi;rw[hg op ir]at jz;rcases hu op ir a ha hm with ⟨q1,q2⟩|⟨q1,q2⟩|⟨q1,q2,q3,q4⟩
   ·exact⟨.inl jz,fun _=>⟨q2,fun _=>hg op ir⟩,fun k=>A.Eg _ k q1,fun r=>absurd r (A.zD _ q1)⟩
   ·exact⟨.inl jz,fun s=>absurd q1 (A.zD _ s),fun k=>A.Eh _ k q1,fun _ hw=>by rw[q2]at hw;cases hw⟩
   ·exact⟨.inl jz,fun s=>absurd s q1,q3,fun r=>absurd r q2⟩
 ·rcases zs1 hi with ⟨_,aN⟩|⟨_,ir⟩
  ·exact h.new i op a aN ha hm he
  ·exact absurd (.inr (by rw[hg op ir];exact hj)) he
 ·rcases zs1 hi with ⟨_,aN⟩|⟨_,ir⟩
  ·exact h.gs i op hs aN
  ·rw[hg op ir];exact hN
theorem Tr.zcf(h:Tr Sh Shun Rd Own s0 j0 N B t){y:MemOp}(hg:y.g<N)(hl:y.act.low B)(hn:y.act.touch?=none):Tr Sh Shun Rd Own s0 j0 N B (t++#[y]):=by
 have bm:=h.size;have cX:∀ op∈#[y],op.act.touch?=none/\op.g<N/\op.act.low B:=fun op hop=>by
  simp only[Yn,Yl,Yo,YL]at hop;subst hop;exact⟨hn,hg,hl⟩
 refine⟨fun said=>zws (g:=y.g) (h.clean said) (fun op hop=>by simp at hop;rw[hop]) fun i a ha op hop b hb hc=>(by rw[(cX op hop).1]at hb;cases hb),fun i op a hi ha hm he=>?_,fun i op a hi ha hm he=>?_,fun i op hs hi=>?_,zxF h.seen fun op hop=>(cX op hop).2.2,H8 h.over bm fun op hop=>.inr (.inr (cX op hop).1),tQ,h.pos⟩
 ·rcases zs1 hi with ⟨_,aN⟩|⟨Ek,ir⟩
  ·obtain⟨o1,o2,o3,o4⟩:=h.old i op a aN ha hm he;exact⟨o1.imp (·.app _) id,o2,o3,fun q1 q2 k' q3 q4=>(o4 q1 q2 k' q3 q4).app _⟩
  ·rw[(cX op ir).1]at ha;cases ha
 ·rcases zs1 hi with ⟨_,aN⟩|⟨_,ir⟩
  ·exact h.new i op a aN ha hm he
  ·rw[(cX op ir).1]at ha;cases ha
 ·rcases zs1 hi with ⟨_,aN⟩|⟨_,ir⟩
  ·exact h.gs i op hs aN
  ·exact(cX op ir).2.1
theorem Tr.H9:∀(l:List MemOp){t:Trace},Tr Sh Shun Rd Own s0 j0 N B t->(∀ y∈l,y.g<N/\y.act.low B/\y.act.touch?=none)->Tr Sh Shun Rd Own s0 j0 N B (t++l.toArray)
 |[],t,h,_=>by simpa using h
 |y::l,t,h,hl=>by
  have e:t++(y::l).toArray=(t++#[y])++l.toArray:=sQ;rw[e];obtain⟨h1,h2,h3⟩:=hl y sQ;exact Tr.H9 l (h.zcf h1 h2 h3) fun z hz=>hl z (by simp[hz])
theorem Tr.give{Lr:Nat->Loc->Prop}(h:Tr Sh Shun Rd Own s0 j0 N B t)(hs:∀ k l,Own k l->Lr k l)(hn:∀ k l,Lr k l->Own k l\/∀ op∈t,∀ a,op.act.touch?=some a->a.loc≠l):Tr Sh Shun Rd Lr s0 j0 N B t where
 clean:=h.clean
 old i op a hi ha hm he:=by
  obtain⟨o1,o2,o3,o4⟩:=h.old i op a hi ha hm he;refine⟨o1,o2,fun k hk=>?_,o4⟩;rcases hn k _ hk with q|q
  ·exact o3 k q
  ·exact q op (zym hi) a ha rfl
 new i op a hi ha hm he:=by
  rcases h.new i op a hi ha hm he with q|⟨q,q'⟩|q
  ·exact .inl q
  ·exact .inr (.inl ⟨hs _ _ q,q'⟩)
  ·exact .inr (.inr q)
 gs:=h.gs
 seen:=h.seen
 over:=h.over
 size:=h.size
 pos:=h.pos
theorem Tr.more{B':Nat}(h:Tr Sh Shun Rd Own s0 j0 N B t)(hB:B<=B'):Tr Sh Shun Rd Own s0 j0 N B' t where
 clean:=h.clean
 old:=h.old
 new:=h.new
 gs:=h.gs
 seen op hop:=MemAct.low_mono hB (h.seen op hop)
 over:=h.over
 size:=h.size
 pos:=h.pos
theorem Lt(h:∀ op∈t,op.act.low B){l:Loc}(hl:¬l.low B):∀ op∈t,∀ a,op.act.touch?=some a->a.loc≠l:=by
 intro op hop a ha e;subst e;have hx:=h op hop;generalize op.act=x at ha hx;cases x with
 |access e=>
  simp only[Zv,YA]at ha;subst ha;exact hl hx
 |mark m=>
  cases m<;>simp only[Zv,YA,reduceCtorEq]at ha
  all_goals subst ha;exact hl hx
 |_=>simp[Zv]at ha
theorem Tr.fork(A:H6 Sh Shun Rd Own)(h:Tr Sh Shun Rd Own s0 j0 N B t){x y:MemOp}(hjN:j0<=N)(hx:x.g=0/\x.act=.go N)(hy:y.g=N/\y.act=.start)(h0:Deaf t 0=0)(hN:Deaf t N=0):Tr Sh Shun Rd Own s0 j0 (N+1) B (t++#[x,y]):=by
 have bm:=h.size;have hj:=h.pos;have cX:∀ op∈#[x,y],op.act.touch?=none/\op.g<N+1/\op.act.low B:=fun op hop=>by
  simp only[Yn,Yl,Yo,YL]at hop;rcases hop with rfl|rfl
  ·rw[hx.1,hx.2];exact⟨rfl,oQ,trivial⟩
  ·rw[hy.1,hy.2];exact⟨rfl,oQ,trivial⟩
 have e:t++#[x,y]=(t++#[x])++#[y]:=by apply Array.ext';simp
 refine⟨fun said=>?_,fun i op a hi ha hm he=>?_,fun i op a hi ha hm he=>?_,fun i op hs hi=>?_,zxF h.seen fun op hop=>(cX op hop).2.2,H8 h.over bm fun op hop=>.inr (.inr (cX op hop).1),tQ,h.pos⟩
 ·rw[e];exact zws (g:=N) (zws (g:=0) (h.clean said) (fun op hop=>by simp at hop;rw[hop];exact hx.1) (fun i a _ op hop b hb _=>by rw[(cX op (by simp at hop⊢;exact .inl hop)).1]at hb;cases hb))
   (fun op hop=>by simp at hop;rw[hop];exact hy.1) (fun i a _ op hop b hb _=>by rw[(cX op (by simp at hop⊢;exact .inr hop)).1]at hb;cases hb)
 ·rcases zs1 hi with ⟨_,aN⟩|⟨Ek,ir⟩
  ·obtain⟨o1,o2,o3,o4⟩:=h.old i op a aN ha hm he;refine⟨o1.imp (·.app _) id,o2,o3,fun q1 q2 k' q3 q4=>?_⟩;rcases Ys k' N with hk|hk
   ·exact(o4 q1 q2 k' q3 hk).app _
   ·obtain rfl:k'=N:=oQ;rcases o1 with o1|⟨o1,_⟩
    ·exact fork_knows hx hy h0 hN o1
    ·exact absurd o1 (A.Lq _ q1)
  ·rw[(cX op ir).1]at ha;cases ha
 ·rcases zs1 hi with ⟨_,aN⟩|⟨_,ir⟩
  ·exact h.new i op a aN ha hm he
  ·rw[(cX op ir).1]at ha;cases ha
 ·rcases zs1 hi with ⟨_,aN⟩|⟨_,ir⟩
  ·exact Nat.lt_succ_of_lt (h.gs i op hs aN)
  ·exact(cX op ir).2.1
theorem Tr.zcg(h:Past Shun B t)(hj:0<j0)(Ia:∀ l,Sh l->¬l.low B):Tr Sh Shun Rd (fun _ _=>False) t.size j0 j0 B t where
 clean:=h.clean
 old i op a hi ha hm he:=by
  refine⟨h.known i a (by rw[touchAt_of hi];exact ha) hm,fun hs=>absurd rfl (Lt h.seen (Ia _ hs) op (zym hi) a ha),fun _ q=>q,fun _ _ k q1 q2=>oQ⟩
 new i op a hi ha hm he:=absurd (.inl (zzR hi)) he
 gs i op hs hi:=by
  have:=zzR hi;omega
 seen:=h.seen
 over i g h1 h2 _ h4:=h.over i g h1 h2 h4
 size:=Yp _
 pos:=hj
theorem Tr.past(h:Tr Sh Shun Rd Own s0 j0 N B t){ad:YQ}{q:Nat}(all:∀ k,j0<=k->k<N->∃ r,RelBy ad t k r/\r<q)(hn:NoRelease ad t)
  (hq:t.act? q=some (.mark (.acquire ad))) (hg:t.g? q=some 0) (hh:t.heard q) (hd:Deaf t 0=0):Past (fun l=>Shun l\/Sh l) B t:=by
 obtain⟨z,hz,Rn⟩:=Yx.1 hg;have key:∀(i:Nat)(op:MemOp),t[i]?=some op->¬zE s0 j0 i op->t.counts i->HappensBefore t i q:=fun i op hi he hc=>by
  have hk:j0<=op.g:=by
   rcases Ys op.g j0 with h1|h1
   ·exact absurd (.inr h1) he
   ·exact h1
  have hs:s0<=i:=by
   rcases Ys i s0 with h1|h1
   ·exact absurd (.inl h1) he
   ·exact h1
  obtain⟨r,hr,hrq⟩:=all op.g hk (h.gs i op hs hi);have ug:t.g? i=some op.g:=by simp[zuQ,hi]
  have Ro:HappensBefore t r q:=.single (.inr ⟨.marked hrq (.inr hr.act) hq (fun k _ _=>hn k),hr.heard,hh⟩);have bn:i<=r:=zBr fun aj=>hr.after i aj ug hc
  rcases Ys i r with aj|dX
  ·exact .trans (.single (.inl ⟨aj,op.g,ug,hr.g⟩)) Ro
  ·obtain rfl:i=r:=oQ;exact Ro
 refine⟨h.clean,fun i a ha hm=>?_,fun i g ug aW hc=>?_,hd,h.seen⟩
 ·obtain⟨op,hi,hop⟩:=zxH ha;by_cases he:zE s0 j0 i op
  ·exact(h.old i op a hi hop hm he).1.imp id fun x=>⟨.inl x.1,x.2⟩
  ·rcases h.new i op a hi hop hm he with ⟨q1,q2⟩|⟨_,q2⟩|⟨_,_,q2⟩
   ·exact .inr ⟨.inr q1,q2⟩
   ·exact .inl ⟨q,z,hz,Rn,.inr (key i op hi he ⟨a,ha,hm,.inl (by rw[q2];simp)⟩)⟩
   ·exact .inl ⟨q,z,hz,Rn,.inr (key i op hi he ⟨a,ha,hm,.inl (by rw[q2];simp)⟩)⟩
 ·obtain⟨op,hi,hog⟩:=Yx.1 ug;by_cases he:zE s0 j0 i op
  ·exact h.over i g ug aW (by rw[<-hog];exact he) hc
  ·exact⟨q,hg,key i op hi he hc⟩
end
structure Env where
 P:Y2
 T:FuncId->Bool
 K:YT->Bool
 C:Code->Bool
 B:Nat
 R:Nat->Prop
 O:Nat->Prop
 os:Os
 V:YT->Bool
def Env.I(E:Env)(n k:Nat):Prop:=E.B<=k/\k<n
def Env.A(E:Env)(n k:Nat):Prop:=E.I n k\/E.R k\/E.O k
def rA(f:Nat->Nat)(a:YQ):YQ:={a with block:=f a.block}
def BM(f:Nat->Nat):Fn->Fn
 |.yield l=>.yield (f l)
 |x=>x
def rV(f:Nat->Nat):YN->YN
 |.pointer a=>.pointer (a.map (rA f))
 |.slice a n c=>.slice (a.map (rA f)) n c
 |.map r=>.map (r.map f)
 |.chan r=>.chan (r.map f)
 |.func fn first cap=>.func (BM f fn) (first.map (rV f)) (cap.map (rV f))
 |.iface t v=>.iface t (rV f v)
 |.agg cs=>.agg (cs.map (rV f))
 |.tuple vs=>.tuple (vs.map (rV f))
 |.bool b=>.bool b
 |.int k n=>.int k n
 |.float k n=>.float k n
 |.complex k a b=>.complex k a b
 |.string s=>.string s
 |.nilFunc=>.nilFunc
 |.nilIface=>.nilIface
section
variable (E:Env)(n:Nat)
def ow:Option YQ->Prop
 |none=>True
 |some a=>E.A n a.block
def El:Fn->Prop
 |.func g=>E.T g=true
 |.yield l=>E.I n l
 |_=>False
def ah:YN->Prop
 |.func fn a b=>El E n fn/\(∀ x,x∈a->ah x)/\(∀ x,x∈b->ah x)
 |.iface t v=>E.K t=true/\ah v
 |.agg cs=>∀ x,x∈cs->ah x
 |.tuple cs=>∀ x,x∈cs->ah x
 |.pointer a=>ow E n a
 |.slice a _ _=>ow E n a
 |.map r=>∀ k,r=some k->E.I n k
 |.chan r=>r=none
 |.float _ _=>False
 |.complex _ _ _=>False
 |_=>True
end
def jA:YN->Bool
 |.bool _|.int _ _|.string _|.pointer none|.slice none _ _|.map none|.chan none|.nilFunc|.nilIface=>true
 |_=>false
def qA:YN->Bool
 |.agg cs=>cs.all jA
 |.tuple cs=>cs.all jA
 |v=>jA v
def Ib:YN->Prop
 |.int .u8 _=>False
 |_=>True
def rE(f:Nat->Nat)(e:MapEntry):MapEntry:={key:=rV f e.key,val:=rV f e.val,born:=e.born}
def rT(f:Nat->Nat):Target->Target
 |.fn fn c=>.fn (BM f fn) (c.map (rV f))
 |.collected r=>.collected (f r)
 |.coroexit c=>.coroexit (f c)
 |t=>t
def rD(f:Nat->Nat)(d:Deferred):Deferred:={target:=rT f d.target,args:=d.args.map (rV f)}
def rL(f:Nat->Nat)(l:Loop):Loop:={l with tmps:=l.tmps.map (rV f),defers:=f l.defers}
def rO(f:Nat->Nat):Y0->Y0
 |.cells c t z=>.cells (c.map (rV f)) t z
 |.map es k=>.map (es.map (rE f)) k
 |.mapIter m s seen st=>.mapIter (m.map f) s seen st
 |.loop l=>.loop (rL f l)
 |.deferred ds=>.deferred (ds.map (List.map (rD f)))
 |.view a t=>.view (rA f a) t
 |.number a l=>.number (rA f a) l
 |o=>o
section
variable (E:Env)(n:Nat)
def bj(cs:Array YN):Prop:=∀ x,x∈cs->ah E n x
def Ic:Target->Prop
 |.fn fn c=>El E n fn/\bj E n c
 |.nil=>True
 |.builtin b _ _ _=>b=.recover\/b=.len
 |.collected r=>E.I n r
 |.coroexit _=>False
def pD(d:Deferred):Prop:=Ic E n d.target/\bj E n d.args
def Em(l:Loop):Prop:=E.T l.fn=true/\bj E n l.tmps/\E.C l.assign=true/\E.C l.body=true/\E.I n l.defers/\∀ c,l.pending=some c->E.C c=true
def qB:Y0->Prop
 |.cells c _ _=>bj E n c
 |.map es _=>∀ e,e∈es->ah E n e.key/\ah E n e.val
 |.mapIter m _ _ _=>∀ k,m=some k->E.I n k
 |.stringIter _ _=>True
 |.loop l=>Em E n l
 |.deferred ds=>∀ l,ds=some l->∀ d∈l,pD E n d
 |.view a u=>E.A n a.block/\E.V u=true
 |.number a _=>E.A n a.block
 |_=>False
end
theorem zG{f:Nat->Nat}(h:jA v=true):rV f v=v:=by
 unfold jA at h;split at h<;>simp_all[rV]
theorem zH{f:Nat->Nat}(h:∀ x∈cs,rV f x=x):cs.map (rV f)=cs:=by
 apply Array.ext';rw[zsV];exact(zuA (fun x hx=>h x (by simpa using hx))).trans (List.map_id _)
theorem En{f:Nat->Nat}(h:qA v=true):rV f v=v:=by
 unfold qA at h;split at h
 ·rw[rV,zH];intro x hx;exact zG (zvC.1 h x hx)
 ·rw[rV,zH];intro x hx;exact zG (zvC.1 h x hx)
 ·exact zG h
theorem uh{E:Env}{n:Nat}(h:jA v=true):ah E n v:=by
 unfold jA at h;split at h<;>simp_all[ah,ow]
theorem Eo{E:Env}{n:Nat}(h:qA v=true):ah E n v:=by
 unfold qA at h;split at h
 ·rw[ah];intro x hx;exact uh (zvC.1 h x hx)
 ·rw[ah];intro x hx;exact uh (zvC.1 h x hx)
 ·exact uh h
theorem Ep(f:Nat->Nat)(v:YN):(rV f v).cells=v.cells.map (rV f):=by
 cases v<;>simp[rV,Value.cells]
theorem Rp(f:Nat->Nat)(v:YN):(rV f v).cells.size=v.cells.size:=by rw[Ep,zt6]
theorem Ie{E:Env}{n:Nat}(h:ah E n v):bj E n v.cells:=by
 intro x hx;cases v<;>simp_all[Value.cells,ah]
theorem ui(f:Nat->Nat)(a:YQ)(k:Nat):(rA f a).add k=rA f (a.add k):=by
 unfold Addr.add;split<;>rfl
theorem block_add(a:YQ)(n:Nat):(a.add n).block=a.block:=by
 unfold Addr.add;split<;>rfl
theorem zch{f:Nat->Nat}(hf:∀ a b,f a=f b->a=b){b:YQ}(h:rA f a=rA f b):a=b:=by
 obtain⟨x,y,z⟩:=a;obtain⟨x',y',z'⟩:=b;simp only[rA,Addr.mk.injEq]at h;obtain⟨h1,h2,h3⟩:=h;rw[hf _ _ h1,h2,h3]
theorem Lu(f:Nat->Nat)(v:YN):(rV f v).bytes?=v.bytes?:=by
 cases v<;>simp[rV,zzz]
def vV:YN->Bool
 |.float _ _=>false
 |.complex _ _ _=>false
 |_=>true
theorem zci{E:Env}{n:Nat}(h:ah E n v):vV v=true:=by
 cases v<;>first |rfl|(rw[ah]at h;exact h.elim)
theorem zcj(h:jA v=true):vV v=true:=by
 cases v<;>first |rfl|cases h
theorem zck{E:Env}{n:Nat}(h:bj E n cs)(hv:ah E n v):bj E n (cs.push v):=by
 intro x hx;rcases zwD.1 hx with h1|rfl
 ·exact h x h1
 ·exact hv
theorem zI{E:Env}{n:Nat}{ds:Array YN}(h:bj E n cs)(hd:bj E n ds):bj E n (cs++ds):=by
 intro x hx;rcases zr3.1 hx with h1|h1
 ·exact h x h1
 ·exact hd x h1
theorem Ig{E:Env}{n:Nat}(h:bj E n cs)(hv:ah E n v)(i:Nat):bj E n (cs.setIfInBounds i v):=by
 intro x hx;rcases zxR hx with h1|rfl
 ·exact h x h1
 ·exact hv
theorem qC{E:Env}{n:Nat}(h:bj E n cs)(hv:cs[i]?=some v):ah E n v:=h v (zt5 hv)
theorem Er(f:Nat->Nat):rV f (.tuple #[])=.tuple #[]:=by simp[rV]
theorem zJ(E:Env)(n:Nat):ah E n (.tuple #[]):=by simp[ah]
theorem Es{E:Env}{n:Nat}(h:bj E n cs)(i:Nat):ah E n (cs.getD i (.tuple #[])):=by
 rw[zvD];cases hv:cs[i]? with
 |none=>exact zJ E n
 |some v=>exact qC h hv
theorem Et(f:Nat->Nat)(cs:Array YN)(i:Nat):(cs.map (rV f)).getD i (.tuple #[])=rV f (cs.getD i (.tuple #[])):=by
 rw[zvD,zvD,XZ];cases cs[i]? with
 |none=>exact(Er f).symm
 |some v=>rfl
section
variable {E:Env}{n m:Nat}
theorem Env.I.mono(h:E.I n k)(hm:n<=m):E.I m k:=⟨h.1,Yr h.2 hm⟩
theorem Env.A.mono(h:E.A n k)(hm:n<=m):E.A m k:=h.imp (·.mono hm) id
theorem zK{a:Option YQ}(h:ow E n a)(hm:n<=m):ow E m a:=by
 cases a with
 |none=>trivial
 |some a=>exact Env.A.mono h hm
theorem Ih(h:El E n fn)(hm:n<=m):El E m fn:=by
 cases fn<;>first |exact h|exact Env.I.mono h hm
theorem aY(hm:n<=m):∀ v:YN,ah E n v->ah E m v
 |.func fn a b,h=>by
  rw[ah]at h⊢;exact⟨Ih h.1 hm,fun x hx=>aY hm x (h.2.1 x hx),fun x hx=>aY hm x (h.2.2 x hx)⟩
 |.iface t v,h=>by
  rw[ah]at h⊢;exact⟨h.1,aY hm v h.2⟩
 |.agg cs,h=>by
  rw[ah]at h⊢;exact fun x hx=>aY hm x (h x hx)
 |.tuple cs,h=>by
  rw[ah]at h⊢;exact fun x hx=>aY hm x (h x hx)
 |.pointer a,h=>by
  rw[ah]at h⊢;exact zK h hm
 |.slice a _ _,h=>by
  rw[ah]at h⊢;exact zK h hm
 |.map r,h=>by
  rw[ah]at h⊢;exact fun k hk=>(h k hk).mono hm
 |.chan r,h=>by
  rw[ah]at h⊢;exact h
 |.float _ _,h|.complex _ _ _,h=>by rw[ah]at h;exact h.elim
 |.bool _,_|.int _ _,_|.string _,_|.nilFunc,_|.nilIface,_=>by rw[ah]<;>simp
theorem eF(h:bj E n cs)(hm:n<=m):bj E m cs:=fun x hx=>aY hm x (h x hx)
theorem zcl{t:Target}(h:Ic E n t)(hm:n<=m):Ic E m t:=by
 cases t with
 |fn fn c=>exact⟨Ih h.1 hm,eF h.2 hm⟩
 |collected r=>exact Env.I.mono h hm
 |_=>exact h
theorem Eu(h:pD E n d)(hm:n<=m):pD E m d:=⟨zcl h.1 hm,eF h.2 hm⟩
theorem Ev(h:qB E n o)(hm:n<=m):qB E m o:=by
 cases o with
 |cells c t z=>exact eF h hm
 |map es k=>exact fun e he=>⟨aY hm _ (h e he).1,aY hm _ (h e he).2⟩
 |mapIter a _ _ _=>exact fun k hk=>(h k hk).mono hm
 |stringIter _ _=>trivial
 |loop l=>exact⟨h.1,eF h.2.1 hm,h.2.2.1,h.2.2.2.1,h.2.2.2.2.1.mono hm,h.2.2.2.2.2⟩
 |deferred ds=>exact fun l hl d hd=>Eu (h l hl d hd) hm
 |view a _=>exact⟨Env.A.mono h.1 hm,h.2⟩
 |number a _=>exact Env.A.mono h hm
 |_=>exact h
end
structure Ag(E:Env)(n:Nat)(f g:Nat->Nat):Prop where
 R:∀ k,E.R k->f k=g k
 O:∀ k,E.O k->f k=g k
 I:∀ k,E.I n k->f k=g k
section
variable {E:Env}{n:Nat}{f g:Nat->Nat}
theorem eqA(H:Ag E n f g)(h:E.A n k):f k=g k:=by
 rcases h with h|h|h
 ·exact H.I k h
 ·exact H.R k h
 ·exact H.O k h
theorem Lv(H:Ag E n f g)(h:E.A n a.block):rA f a=rA g a:=by
 unfold rA;rw[eqA H h]
theorem Rq(H:Ag E n f g){a:Option YQ}(h:ow E n a):a.map (rA f)=a.map (rA g):=by
 cases a with
 |none=>rfl
 |some a=>exact YC some (Lv H h)
theorem Rs(H:Ag E n f g)(h:El E n fn):BM f fn=BM g fn:=by
 cases fn<;>first |rfl|exact h.elim|exact YC Fn.yield (H.I _ h)
theorem rY(H:Ag E n f g):∀ v:YN,ah E n v->rV f v=rV g v
 |.func fn a b,h=>by
  rw[ah]at h;rw[rV,rV,Rs H h.1,ztD (fun x hx=>rY H x (h.2.1 x hx)),ztD (fun x hx=>rY H x (h.2.2 x hx))]
 |.iface t v,h=>by
  rw[ah]at h;rw[rV,rV,rY H v h.2]
 |.agg cs,h=>by
  rw[ah]at h;rw[rV,rV,ztD (fun x hx=>rY H x (h x hx))]
 |.tuple cs,h=>by
  rw[ah]at h;rw[rV,rV,ztD (fun x hx=>rY H x (h x hx))]
 |.pointer a,h=>by
  rw[ah]at h;rw[rV,rV,Rq H h]
 |.slice a _ _,h=>by
  rw[ah]at h;rw[rV,rV,Rq H h]
 |.map r,h=>by
  rw[ah]at h;rw[rV,rV];cases r with
  |none=>rfl
  |some k=>exact YC (fun x=>Value.map (some x)) (H.I k (h k rfl))
 |.chan r,h=>by
  rw[ah]at h;subst h;rw[rV,rV];rfl
 |.bool _,_|.int _ _,_|.float _ _,_|.complex _ _ _,_|.string _,_|.nilFunc,_|.nilIface,_=>by rw[rV,rV]
theorem Ew(H:Ag E n f g)(h:bj E n cs):cs.map (rV f)=cs.map (rV g):=ztD (fun x hx=>rY H x (h x hx))
theorem zcm(H:Ag E n f g){t:Target}(h:Ic E n t):rT f t=rT g t:=by
 cases t with
 |fn fn c=>simp only[rT];rw[Rs H h.1,Ew H h.2]
 |collected r=>exact YC Target.collected (H.I _ h)
 |coroexit c=>exact h.elim
 |_=>rfl
theorem Rt(H:Ag E n f g)(h:pD E n d):rD f d=rD g d:=by
 unfold rD;rw[zcm H h.1,Ew H h.2]
theorem zcn(H:Ag E n f g)(h:qB E n o):rO f o=rO g o:=by
 cases o with
 |cells c t z=>simp only[rO];rw[Ew H h]
 |map es k=>
  simp only[rO];rw[ztD (fun e he=>?_)];unfold rE;rw[rY H _ (h e he).1,rY H _ (h e he).2]
 |mapIter a _ _ _=>
  cases a with
  |none=>rfl
  |some k=>simp only[rO,Yy];rw[H.I k (h k rfl)]
 |loop l=>simp only[rO,rL];rw[Ew H h.2.1,H.I _ h.2.2.2.2.1]
 |deferred ds=>
  cases ds with
  |none=>rfl
  |some l=>
   simp only[rO,Yy];rw[zuA (fun d hd=>Rt H (h l rfl d hd))]
 |view a _=>simp only[rO];rw[Lv H h.1]
 |number a _=>simp only[rO];rw[Lv H h]
 |_=>first |rfl|exact h.elim
end
structure Fit(E:Env)(f:Nat->Nat):Prop where
 inj:∀ a b,f a=f b->a=b
 low:∀ k,k<E.B->f k=k
 ro:∀ k,E.R k->k<E.B
 op:∀ k,E.O k->k<E.B
 no:∀ k,E.R k->¬E.O k
 pt:∀ u,E.V u=true->∀ off l,plainCell E.P E.P.depth u off=some l->vV l=true
theorem Fit.ge{E:Env}{f:Nat->Nat}(h:Fit E f)(hk:E.B<=k):E.B<=f k:=by
 rcases Ys (f k) E.B with aj|dX
 ·have:=h.inj (f k) k (h.low _ aj);omega
 ·exact dX
structure fp(E:Env)(f:Nat->Nat)(hl hc:Array Y0):Prop where
 own:∀ k o,E.B<=k->hl[k]?=some o->qB E hl.size o/\hc[f k]?=some (rO f o)
 ro:∀ k,E.R k->∃ c t,hl[k]?=some (.cells c t (0,c.size))/\hc[k]?=some (.cells c t (0,0))/\∀ v,v∈c->ah E hl.size v/\Ib v/\rV f v=v
 op:∀ k,E.O k->∃ c e c',hl[k]?=some (.pending c e)/\hc[k]?=some (.cells c' e (0,0))/\c'.size=c.size/\0<c.size
 base:E.B<=hl.size
 new:∀ j,hl.size<=j->f j+hl.size=hc.size+j
def Listed(E:Env)(l:List Nat)(w:YM):Prop:=w.os=E.os/\∀ i q,i<l.length->w.tape (w.drawn+i) q=l.getD i 0
theorem Listed.left{E:Env}{m:List Nat}(h:Listed E (l++m) w):Listed E l w:=⟨h.1,fun i q hi=>by
 rw[h.2 i q tQ];simp[zw5,List.getElem?_append_left hi]⟩
theorem Listed.right{E:Env}{m:List Nat}(h:Listed E (l++m) w)(ht:w'.tape=w.tape)(hd:w'.drawn=w.drawn+l.length)(ho:w'.os=w.os):Listed E m w':=⟨ho.trans h.1,fun i q hi=>by
 rw[ht,hd,zsq,h.2 (l.length+i) q tQ];simp[zw5,List.getElem?_append_right]⟩
def BN(E:Env):Halt->Prop
 |.stuck _=>True
 |.unsupported (.initOrder k)=>E.O k
 |.unsupported _=>True
 |_=>False
def zco{α:Type}(E:Env)(w:YM):Option (Except YN α)->Result α->Prop
 |some (.ok a),x=>x=.ok a w
 |some (.error v),x=>x=.halt (.panic v) w
 |none,x=>∃ h w',BN E h/\x=.halt h w'
def xP{α:Type}(E:Env)(f:Nat->Nat)(n:Nat)(Q:Nat->α->α->Prop)(w:YM):Option (Except YN α)->Result α->Prop
 |some (.ok a),x=>∃ a',Q n a a'/\x=.ok a' w
 |some (.error v),x=>ah E n v/\x=.halt (.panic (rV f v)) w
 |none,_=>True
def Alone{α:Type}(E:Env)(t:Sem α)(hl:Array Y0)(l:List Nat)(r:Option (Except YN α))(hl':Array Y0):Prop:=
 ∀(w:YM)(es:Array YX),w.1=hl->Listed E l w->∃ x cD,t.runT E.P w es=(x,cD)/\zco E {w with heap:=hl',drawn:=w.drawn+l.length} r x
def Ru:Mark->Prop
 |.extern _|.noRoom=>True
 |_=>False
def pE(E:Env)(f:Nat->Nat)(n:Nat)(e:YX):Prop:=
 (∃ m,e=⟨.mark m,false,true⟩/\Ru m)\/(∃ k,E.I n k/\e.sync=false/\(e.loc=.obj (f k)\/∃ a,a.block=f k/\e.loc=.cell a))\/(∃ a,E.R a.block/\e=⟨.cell a,false,false⟩)\/e.loc=.output
theorem pE.mono{E:Env}{f:Nat->Nat}{n m:Nat}{e:YX}(h:pE E f n e)(hn:n<=m):pE E f m e:=by
 rcases h with h|⟨k,h1,h3⟩|h|h
 ·exact .inl h
 ·exact .inr (.inl ⟨k,h1.mono hn,h3⟩)
 ·exact .inr (.inr (.inl h))
 ·exact .inr (.inr (.inr h))
structure Left(E:Env)(f:Nat->Nat)(hl hl':Array Y0)(w w':YM)(es:Array YX):Prop where
 rel:fp E f hl' w'.1
 size:w'.1.size+hl.size=w.1.size+hl'.size
 stay:∀ b,b<w.1.size->(∀ k,E.I hl.size k->f k≠b)->w'.1[b]?=w.1[b]?
 tape:w'.tape=w.tape
 os:w'.os=w.os
 out:w'.output=w.output
 evs:∀ e,e∈es->pE E f hl'.size e
def aa{α:Type}(E:Env)(f:Nat->Nat)(n:Nat)(Q:Nat->α->α->Prop)(t t':Sem α):Prop:=
 ∀(hl:Array Y0)(w:YM),fp E f hl w.1->n<=hl.size->w.os=E.os->∃(l:List Nat)(r:Option (Except YN α))(hl':Array Y0),Alone E t hl l r hl'/\hl.size<=hl'.size/\
  (r≠none->∃(w':YM)(cD:Array YX),Left E f hl hl' w w' cD/\∀ es,∃ x,t'.runT E.P w es=(x,es++cD)/\xP E f hl'.size Q w' r x)
def VQ(E:Env)(f:Nat->Nat)(n:Nat)(v v':YN):Prop:=v'=rV f v/\ah E n v
def EQ{α:Type}(_:Nat)(a a':α):Prop:=a'=a
section
variable {E:Env}{f:Nat->Nat}{n:Nat}
theorem Left.refl(h:fp E f hl w.1):Left E f hl hl w w #[]:=⟨h,rfl,fun _ _ _=>rfl,rfl,rfl,rfl,fun e he=>by simp at he⟩
theorem Left.trans{h0 h1 h2:Array Y0}{w0 w1 w2:YM}{cD:Array YX}(hr:fp E f h0 w0.1)(a:Left E f h0 h1 w0 w1 es)(b:Left E f h1 h2 w1 w2 cD)(hs:h0.size<=h1.size)(gC:h1.size<=h2.size):Left E f h0 h2 w0 w2 (es++cD):=by
 have:=a.size;refine⟨b.rel,by have:=b.size;omega,fun x hx hk=>?_,b.tape.trans a.tape,b.os.trans a.os,b.out.trans a.out,fun e he=>?_⟩
 ·refine(b.stay x oQ fun k zL=>?_).trans (a.stay x hx hk);rcases Ys k h0.size with aj|dX
  ·exact hk k ⟨zL.1,aj⟩
  ·have:=hr.new k dX;omega
 ·rcases zr3.1 he with he|he
  ·exact(a.evs e he).mono gC
  ·exact b.evs e he
theorem aa.mono{α:Type}{m:Nat}{Q Q':Nat->α->α->Prop}{t t':Sem α}(h:aa E f n Q t t')(hm:n<=m)(hq:∀ k a a',m<=k->Q k a a'->Q' k a a'):aa E f m Q' t t':=by
 intro hl w hr hn bG;obtain⟨l,r,dY,ha,hs,hc⟩:=h hl w hr (Yq hm hn) bG;refine⟨l,r,dY,ha,hs,fun aW=>?_⟩;obtain⟨w1,ox,hL,hx⟩:=hc aW;refine⟨w1,ox,hL,fun es=>?_⟩;obtain⟨x,hx,dW⟩:=hx es;refine⟨x,hx,?_⟩;match r,dW with
 |some (.ok a),⟨a',hQ,e⟩=>exact⟨a',hq _ _ _ (Yq hn hs) hQ,e⟩
 |some (.error v),h=>exact h
 |none,h=>exact h
theorem aa.pure{α:Type}{Q:Nat->α->α->Prop}{a a':α}(h:∀ m,n<=m->Q m a a'):aa E f n Q (YZ a) (YZ a'):=by
 intro hl w hr hn bG;exact⟨[],some (.ok a),hl,fun w es hw _=>⟨_,_,rfl,by subst hw;rfl⟩,Yp _,fun _=>⟨w,#[],.refl hr,fun es=>⟨_,by rw[XV];rfl,a',h _ hn,rfl⟩⟩⟩
theorem aa.halt{α:Type}{Q:Nat->α->α->Prop}{h:Halt}(hb:BN E h){t:Sem α}:aa E f n Q (.halt h) t:=by
 intro hl w hr _ _;exact⟨[],none,hl,fun w es hw _=>⟨_,_,rfl,h,w,hb,rfl⟩,Yp _,fun h=>absurd rfl h⟩
theorem aa.stuck{α:Type}{Q:Nat->α->α->Prop}{t:Sem α}:aa E f n Q (stuck s) t:=aa.halt (h:=.stuck s) trivial
theorem aa.unsupported{α:Type}{Q:Nat->α->α->Prop}{u:zzy}(hu:∀ k,u≠.initOrder k){t:Sem α}:aa E f n Q (unsupported u) t:=by
 refine aa.halt ?_;cases u<;>first |trivial|exact absurd rfl (hu _)
theorem aa.goPanic{α:Type}{Q:Nat->α->α->Prop}(h:ah E n v):aa E f n Q (goPanic v:Sem α) (goPanic (rV f v)):=by
 intro hl w hr hn bG;exact⟨[],some (.error v),hl,fun w es hw _=>⟨_,_,rfl,by subst hw;rfl⟩,Yp _,fun _=>⟨w,#[],.refl hr,fun es=>⟨_,by rw[XV];rfl,aY hn _ h,rfl⟩⟩⟩
theorem ey{α β:Type}(P:Y2)(x:Sem α)(g:α->Sem β)(w:YM)(es:Array YX):
  (x >>= g).runT P w es=match x.runT P w es with
   |(.ok a w',cD)=>(g a).runT P w' cD
   |(.halt h w',cD)=>(.halt h w',cD):=Sem.runT_bind' P x g w es
theorem zcp{α:Type}(P:Y2)(x:Sem α)(w:YM)(es cD:Array YX):(x.runT P w es).1=(x.runT P w cD).1:=by rw[Sem.runT_fst,Sem.runT_fst]
theorem aa.bind{α β:Type}{Q:Nat->α->α->Prop}{Q':Nat->β->β->Prop}{t t':Sem α}{g g':α->Sem β}(h:aa E f n Q t t')(hg:∀ m a a',n<=m->Q m a a'->aa E f m Q' (g a) (g' a')):aa E f n Q' (t >>= g) (t' >>= g'):=by
 intro hl w hr hn bG;obtain⟨l,r,dY,ha,hs,hc⟩:=h hl w hr hn bG;match r,ha,hc with
 |none,ha,hc=>
  refine⟨l,none,dY,fun w es hw hl=>?_,hs,fun h=>absurd rfl h⟩;obtain⟨x,cD,hx,hh,w',hb,rfl⟩:=ha w es hw hl;exact⟨_,_,by rw[ey,hx],hh,w',hb,rfl⟩
 |some (.error v),ha,hc=>
  refine⟨l,some (.error v),dY,fun w es hw hl=>?_,hs,fun _=>?_⟩
  ·obtain⟨x,cD,hx,rfl⟩:=ha w es hw hl;exact⟨_,_,by rw[ey,hx],rfl⟩
  ·obtain⟨w1,ox,hL,hx⟩:=hc sQ;refine⟨w1,ox,hL,fun es=>?_⟩;obtain⟨x,hx,hv,rfl⟩:=hx es;exact⟨_,by rw[ey,hx],hv,rfl⟩
 |some (.ok a),ha,hc=>
  obtain⟨w1,ox,hL,hx⟩:=hc sQ;obtain⟨x0,lY,a',hQ,rfl⟩:=hx #[];obtain⟨l2,r2,zv,qu,gC,gX⟩:=hg dY.size a a' (Yq hn hs) hQ dY w1 hL.rel lQ (hL.os.trans bG);refine⟨l++l2,r2,zv,fun v es hv rZ=>?_,Yq hs gC,fun aW=>?_⟩
  ·obtain⟨x,cD,hx,rfl⟩:=ha v es hv rZ.left;obtain⟨y,zra,hy,dW⟩:=qu {v with heap:=dY,drawn:=v.drawn+l.length} cD rfl (rZ.right rfl rfl rfl);refine⟨y,zra,by rw[ey,hx];exact hy,?_⟩;simpa[Nat.add_assoc]using dW
  ·obtain⟨w2,bP,Q1,gW⟩:=gX aW;refine⟨w2,ox++bP,hL.trans hr Q1 hs gC,fun es=>?_⟩;obtain⟨x1,lp,a1,_,rfl⟩:=hx es;obtain⟨y,hy,dW⟩:=gW (es++ox);have e1:a1=a':=by
    have h4:=zcp E.P t' w es #[];rw[lp,lY]at h4;simpa using h4
   subst e1;exact⟨y,by rw[ey,lp];simpa[zAg]using hy,dW⟩
theorem aa.iu{α β:Type}{Q:Nat->β->β->Prop}{g:α->Sem β}{t:Sem β}:aa E f n Q (Go.stuck s >>= g) t:=aa.halt (h:=.stuck s) trivial
theorem aa.jR{α β:Type}{Q:Nat->β->β->Prop}{u:zzy}(hu:∀ k,u≠.initOrder k){g:α->Sem β}{t:Sem β}:aa E f n Q (Go.unsupported u >>= g) t:=aa.unsupported hu
theorem aa.program{α:Type}{Q:Nat->α->α->Prop}{g g':Y2->Sem α}(h:aa E f n Q (g E.P) (g' E.P)):aa E f n Q (Go.program >>= g) (Go.program >>= g'):=h
theorem aa.ite{α:Type}{Q:Nat->α->α->Prop}{c:Prop}[Decidable c]{a b a' b':Sem α}(h:c->aa E f n Q a a')(h':¬c->aa E f n Q b b'):aa E f n Q (if c then a else b) (if c then a' else b'):=by
 split
 ·exact h ‹_›
 ·exact h' ‹_›
end
section
variable {P:Y2}
def zM(c c':Array YN):Prop:=∀ i:Nat,(c'[i]?).map zzz=(c[i]?).map zzz
theorem zM.map(f:Nat->Nat)(c:Array YN):zM c (c.map (rV f)):=fun i=>by
 rw[XZ];cases c[i]?<;>simp[Lu]
theorem Rv(h:zM c c')(e:YT):∀ n x stop,zxE P c' e n x stop=zxE P c e n x stop
 | 0,_,_=>rfl
 |n+1,x,stop=>by
  unfold zxE;simp only;split
  ·rfl
  ·split
   ·rfl
   ·split
    ·rfl
    ·rename_i i s _;have hi:=h i;cases h1:c[i]? with
     |none=>
      rw[h1]at hi;have:c'[i]?=none:=by simpa using hi
      rw[this]
     |some v=>
      rw[h1]at hi;cases h2:c'[i]? with
      |none=>rw[h2]at hi;cases hi
      |some v'=>
       rw[h2]at hi;have hb:v'.bytes?=v.bytes?:=by simpa using hi
       simp only[hb];split
       ·rfl
       ·rfl
       ·rw[Rv h e n]
theorem Lx{u:YT}{k:YQ}(hc:w.1[at_.block]?=some (.cells c e z))(jO:w'.1[at'.block]?=some (.cells c' e z'))
  (hl:zM c c') (ho:at'.off=at_.off) (hs:at'.spot=at_.spot) (hk:k'.off=k.off) (jn:k'.spot=k.spot):
  w'.seen P at' u k' atomic=(w.seen P at_ u k atomic).map fun x=>(c',x.2.1,z',x.2.2.2.1,x.2.2.2.2.1,x.2.2.2.2.2):=by
 unfold zxt;simp only[hc,jO,ho,hs,hk,jn,Rv hl,bind,ztg,pure,ztH,throwThe,ztP,Z5];cases hb:(k.spot.isSome||at_.spot.isSome)with
 |true=>rfl
 |false=>
  simp only[X8,YF];cases h1:plainCell P P.depth u k.off with
  |none=>rfl
  |some xJ=>
   simp only;cases h2:xJ.bytes?.map (·.length)with
   |none=>rfl
   |some size=>
    simp only;cases h3:byteOfCell P P.depth u k.off with
    |none=>rfl
    |some β=>
     simp only;by_cases h4:P.cellsOf e=0
     ·simp only[h4,YI];rfl
     ·simp only[h4,YF];cases h5:byteOfCell P P.depth e (at_.off%P.cellsOf e)with
      |none=>rfl
      |some b0=>
       simp only;cases h6:zxE P c e (size+1) (at_.off/P.cellsOf e*P.bytesOf e+b0 + β) (at_.off/P.cellsOf e*P.bytesOf e+b0 + β+size)with
       |error x=>rfl
       |ok l=>
        simp only;cases atomic with
        |false=>rfl
        |true=>
         simp only[YI];match l with
         |[]=>rfl
         |[(i,s,bs)]=>
          simp only;split<;>rfl
         |x::y::r=>rfl
theorem Ii{u:YT}{k:YQ}{x:Array YN×YT×(Nat×Nat)×Nat×YN×List (Nat×Nat×List UInt8)}(h:w.seen P at_ u k atomic=.ok x):w.1[at_.block]?=some (.cells x.1 x.2.1 x.2.2.1):=by
 unfold zxt at h;simp only[bind,ztg,pure,ztH,throwThe,ztP,Z5]at h;split at h
 ·cases h
 ·split at h
  ·split at h
   ·split at h
    ·split at h
     ·rename_i c e z hc;split at h
      ·cases h
      ·split at h
       ·split at h
        ·cases h
        ·split at h
         ·split at h
          ·split at h
           ·cases h
           ·cases h;exact hc
          ·cases h
         ·cases h;exact hc
       ·cases h
     ·cases h
    ·cases h
   ·cases h
  ·cases h
theorem zcq{u:YT}{k:YQ}{x:YN×List YQ}(h:w.viewLoad P at_ u k atomic=.ok x):∃ c e z,w.1[at_.block]?=some (.cells c e z):=by
 unfold zB9 at h;simp only[bind,ztg]at h;cases h1:w.seen P at_ u k atomic with
 |error y=>rw[h1]at h;cases h
 |ok y=>exact⟨_,_,_,Ii h1⟩
theorem zcr{u:YT}{k:YQ}{x:YM×List YQ}(h:w.viewStore P at_ u k v atomic=.ok x):∃ c e z,w.1[at_.block]?=some (.cells c e z):=by
 unfold zxv at h;simp only[bind,ztg,throwThe,ztP,Z5]at h;split at h
 ·cases h
 ·cases h1:w.seen P at_ u k atomic with
  |error y=>rw[h1]at h;cases h
  |ok y=>exact⟨_,_,_,Ii h1⟩
theorem Rw{xJ:YN}{bs:List UInt8}(hn:vV xJ=true)(h:xJ.ofBytes bs=some v):jA v=true:=by
 unfold zzA at h
 repeat' split at h
 all_goals first |(cases hn;done)|(cases h;rfl)|(cases h;done)
theorem zcs{u:YT}{k:YQ}{x:Array YN×YT×(Nat×Nat)×Nat×YN×List (Nat×Nat×List UInt8)}(h:w.seen P at_ u k atomic=.ok x):plainCell P P.depth u k.off=some x.2.2.2.2.1:=by
 unfold zxt at h;simp only[bind,ztg,pure,ztH,throwThe,ztP,Z5]at h;split at h
 ·cases h
 ·split at h
  ·rename_i xJ hl;split at h
   ·split at h
    ·split at h
     ·split at h
      ·cases h
      ·split at h
       ·split at h
        ·cases h
        ·split at h
         ·split at h
          ·split at h
           ·cases h
           ·cases h;exact hl
          ·cases h
         ·cases h;exact hl
       ·cases h
     ·cases h
    ·cases h
   ·cases h
  ·cases h
def Pt(P:Y2)(u:YT):Prop:=∀ off l,plainCell P P.depth u off=some l->vV l=true
theorem zct(f:Nat->Nat)(v:YN)(bs:List UInt8):(rV f v).ofBytes bs=v.ofBytes bs:=by
 cases v<;>simp[rV,zzA]
theorem Rx{u:YT}{k:YQ}(hc:w.1[at_.block]?=some (.cells c e z))(jO:w'.1[at'.block]?=some (.cells c' e z'))
  (hV:Pt P u) (hl:zM c c') (ho:at'.off=at_.off) (hs:at'.spot=at_.spot) (hk:k'.off=k.off) (jn:k'.spot=k.spot)   (h:w.viewLoad P at_ u k atomic=.ok (v,tl)):
  jA v=true/\∃ mH,w'.viewLoad P at' u k' atomic=.ok (v,mH)/\∀ a∈mH,a.block=at'.block:=by
 unfold zB9 at h⊢;rw[Lx (P:=P) (u:=u) (atomic:=atomic) hc jO hl ho hs hk jn];simp only[bind,ztg,pure,ztH,throwThe,ztP,Z5]at h⊢;cases h1:w.seen P at_ u k atomic with
 |error x=>rw[h1]at h;cases h
 |ok x=>
  obtain⟨c0,e0,z0,first,xJ,cells⟩:=x;rw[h1]at h;simp only[zvK]at h⊢;split at h
  ·rename_i v0 hv;simp only[zyk,zsA]at h;obtain⟨rfl,rfl⟩:=h;refine⟨Rw (hV _ _ (zcs h1)) hv,_,rfl,?_⟩;intro a ha;simp only[Ym]at ha;obtain⟨x,_,rfl⟩:=ha;rfl
  ·cases h
theorem Ry{f:Nat->Nat}{z:Nat×Nat}{first:Nat}{bytes:List UInt8}:∀(cells:List (Nat×Nat×List UInt8))(c c2:Array YN),
  cells.foldlM (init:=c) (fun c ((i,s,bs):Nat×Nat×List UInt8)=>(do
   if s<first ||s+bs.length>first+bytes.length then Z5 "memory seen as another type: a part of a cell written"
   if z.1<=i&&i<z.2 then Z5 "a write to bytes that a string shares"
   let some old:=c[i]?|Z5 "memory seen as another type: no such cell"
   let some new:=old.ofBytes ((bytes.drop (s-first)).take bs.length)|Z5 "memory seen as another type: a bool from a byte other than 0 or 1"
   pure (c.setIfInBounds i new):Except String (Array YN)))=.ok c2->
  cells.foldlM (init:=c.map (rV f)) (fun c ((i,s,bs):Nat×Nat×List UInt8)=>(do
   if s<first ||s+bs.length>first+bytes.length then Z5 "memory seen as another type: a part of a cell written"
   if z.1<=i&&i<z.2 then Z5 "a write to bytes that a string shares"
   let some old:=c[i]?|Z5 "memory seen as another type: no such cell"
   let some new:=old.ofBytes ((bytes.drop (s-first)).take bs.length)|Z5 "memory seen as another type: a bool from a byte other than 0 or 1"
   pure (c.setIfInBounds i new):Except String (Array YN)))=.ok (c2.map (rV f))/\c2.size=c.size/\((∀ x∈c,vV x=true)->∀ x∈c2,x∈c\/jA x=true)
 |[],c,c2,h=>by
  cases h;exact⟨rfl,rfl,fun _ x hx=>.inl hx⟩
 |(i,s,bs)::r,c,c2,h=>by
  rw[zw2]at h⊢;simp only[bind,ztg,pure,ztH,throwThe,ztP,Z5]at h⊢;cases h1:(decide (s<first)||decide (s+bs.length>first+bytes.length))with
  |true=>simp only[h1,YI]at h;cases h
  |false=>
   simp only[h1,X8,YF]at h⊢;cases h2:(decide (z.1<=i)&&decide (i<z.2))with
   |true=>simp only[h2,YI]at h;cases h
   |false=>
    simp only[h2,X8,YF]at h⊢;cases h3:c[i]? with
    |none=>simp only[h3]at h;cases h
    |some old=>
     rw[XZ,h3];simp only[h3,Yy]at h⊢;rw[zct];cases h4:old.ofBytes ((bytes.drop (s-first)).take bs.length)with
     |none=>simp only[h4]at h;cases h
     |some new=>
      simp only[h4]at h⊢;have e1:(c.map (rV f)).setIfInBounds i new=(c.setIfInBounds i new).map (rV f):=by
       have hb:rV f new=new:=by
        unfold zzA at h4
        repeat' split at h4
        all_goals first |(cases h4;simp[rV])|cases h4
       rw[zxP,hb]
      rw[e1];obtain⟨k1,k2,k3⟩:=Ry r _ _ h;refine⟨k1,by rw[k2,ztv],fun hn x hx=>?_⟩;have hp:=Rw (hn old (zt5 h3)) h4;rcases k3 (fun y hy=>by
       rcases zxR hy with k|rfl
       ·exact hn y k
       ·exact zcj hp) x hx with k|k
      ·rcases zxR k with k|rfl
       ·exact .inl k
       ·exact .inr hp
      ·exact .inr k
theorem zcu{f:Nat->Nat}{u:YT}{k:YQ}(hc:w.1[at_.block]?=some (.cells c e z))(jO:w'.1[at'.block]?=some (.cells (c.map (rV f)) e z))
  (ho:at'.off=at_.off) (hs:at'.spot=at_.spot) (hk:k'.off=k.off) (jn:k'.spot=k.spot) {x:YM}  (h:w.viewStore P at_ u k v atomic=.ok (x,tl)):
  ∃ c2 mH,x ={w with heap:=w.1.setIfInBounds at_.block (.cells c2 e z)}/\c2.size=c.size/\((∀ y∈c,vV y=true)->∀ y∈c2,y∈c\/jA y=true)/\
   w'.viewStore P at' u k' (rV f v) atomic=.ok ({w' with heap:=w'.1.setIfInBounds at'.block (.cells (c2.map (rV f)) e z)},mH)/\∀ a∈mH,a.block=at'.block:=by
 unfold zxv at h⊢;rw[Lx (P:=P) (u:=u) (atomic:=atomic) hc jO (zM.map f c) ho hs hk jn];simp only[bind,ztg,pure,ztH,throwThe,ztP,Z5,Lu]at h⊢;cases h0:tight P P.depth u with
 |false=>rw[h0]at h;cases h
 |true=>
  simp only[h0,zr4,X8,YF]at h⊢;cases h1:w.seen P at_ u k atomic with
  |error x=>rw[h1]at h;cases h
  |ok y=>
   have hy:=Ii h1;obtain⟨c0,e0,z0,first,xJ,cells⟩:=y;rw[hc]at hy;simp only[YA,zBG]at hy;obtain⟨rfl,rfl,rfl⟩:=hy;rw[h1]at h;simp only[zvK]at h⊢;cases h2:v.bytes? with
   |none=>rw[h2]at h;cases h
   |some bytes=>
    rw[h2]at h;simp only at h⊢;split at h
    ·cases h
    ·rename_i h3;rw[YG h3];split at h
     ·cases h
     ·rename_i c2 h4;obtain⟨k1,k2,k3⟩:=Ry (f:=f) (z:=z) (first:=first) (bytes:=bytes) cells c c2 h4;simp only[zyk,zsA]at h;obtain⟨rfl,rfl⟩:=h;refine⟨c2,cells.map fun x=>{block:=at'.block,off:=x.1},rfl,k2,k3,?_,?_⟩
      ·exact YC (fun r:Except String (Array YN)=>r.bind fun v=>Except.ok (({w' with heap:=w'.1.setIfInBounds at'.block (Obj.cells v e z)}:YM),cells.map fun x=>({block:=at'.block,off:=x.1}:YQ))) k1
      intro a ha;simp only[Ym]at ha;obtain⟨x,_,rfl⟩:=ha;rfl
theorem zcv(h:w'.1=w.1)(at_:YQ)(u:YT)(k:YQ)(atomic:Bool):w'.seen P at_ u k atomic=w.seen P at_ u k atomic:=by
 unfold zxt;rw[h]
theorem Rz(h:w'.1=w.1)(at_:YQ)(u:YT)(k:YQ)(v:YN)(atomic:Bool):w'.viewStore P at_ u k v atomic=(w.viewStore P at_ u k v atomic).map fun x=>({w' with heap:=x.1.1},x.2):=by
 unfold zxv;simp only[zcv h,h,bind,ztg,pure,ztH,throwThe,ztP,Z5];cases tight P P.depth u with
 |false=>rfl
 |true=>
  simp only[zr4,X8,YF];cases w.seen P at_ u k atomic with
  |error x=>rfl
  |ok y=>
   obtain⟨c0,e0,z0,first,xJ,cells⟩:=y;simp only;cases v.bytes? with
   |none=>rfl
   |some bytes=>
    simp only;split
    ·rfl
    ·split<;>rfl
theorem zcw{u:YT}{k:YQ}{v':YN}(hk:k'.off=k.off)(jn:k'.spot=k.spot)(hv:v'.bytes?=v.bytes?)(hc:w.1[at_.block]?=some (.cells c e (0,c.size))){x:YM×List YQ}(h:w.viewStore P at_ u k v atomic=.ok x)(jO:w'.1[at_.block]?=some (.cells c e (0,0))):
  x=(w,[])/\w'.viewStore P at_ u k' v' atomic=.ok (w',[]):=by
 have same:∀{w:YM}{o:Y0},w.1[at_.block]?=some o->({w with heap:=w.1.setIfInBounds at_.block o}:YM)=w:=fun {w o} ho=>by
  have:w.1.setIfInBounds at_.block o=w.1:=by
   apply zt4;intro i;by_cases e:at_.block=i
   ·subst e;rw[X4 (XY.1 ho).1,ho]
   ·rw[X3 e]
  rw[this]
 unfold zxv at h⊢;rw[Lx (P:=P) (u:=u) (atomic:=atomic) (at':=at_) (k':=k') hc jO (fun _=>rfl) rfl rfl hk jn];simp only[bind,ztg,pure,ztH,throwThe,ztP,Z5,hv]at h⊢;cases h0:tight P P.depth u with
 |false=>rw[h0]at h;cases h
 |true=>
  simp only[h0,zr4,X8,YF]at h⊢;cases h1:w.seen P at_ u k atomic with
  |error x=>rw[h1]at h;cases h
  |ok y=>
   have hy:=Ii h1;obtain⟨c0,e0,z0,first,xJ,cells⟩:=y;rw[hc]at hy;simp only[YA,zBG]at hy;obtain⟨rfl,rfl,rfl⟩:=hy;rw[h1]at h;simp only[zvK]at h⊢;cases h2:v.bytes? with
   |none=>rw[h2]at h;cases h
   |some bytes=>
    rw[h2]at h;simp only at h⊢;split at h
    ·cases h
    ·rename_i h3;rw[YG h3];cases cells with
     |nil=>
      simp only[List.foldlM_nil,pure,ztH,zyk,Yj]at h⊢;rw[same hc]at h;exact⟨h.symm,by rw[same jO]⟩
     |cons y r=>
      exfalso;obtain⟨i,s,bs⟩:=y;rw[zw2]at h;simp only[bind,ztg]at h;cases h4:(decide (s<first)||decide (s+bs.length>first+bytes.length))with
      |true=>simp only[h4,YI]at h;cases h
      |false=>
       simp only[h4,X8,YF]at h;by_cases h5:i<c.size
       ·simp only[Yw,decide_true,h5,Bool.and_self,YI]at h;cases h
       ·simp only[Yw,decide_true,h5,decide_false,Bool.and_false,X8,YF,XX (zBr h5)]at h;cases h
end
section
variable {E:Env}{f:Nat->Nat}{n:Nat}(F:Fit E f)
theorem fp.lt(h:fp E f hl hc)(hk:E.I hl.size k):f k<hc.size:=by
 obtain⟨h1,h2⟩:=hk;have:=(h.own k hl[k] h1 (XW h2)).2;rcases Ys (f k) hc.size with aj|dX
 ·exact aj
 ·rw[XX dX]at this;cases this
def isRow:Y0->Bool
 |.cells _ _ _=>true
 |_=>false
theorem Ex(P:Y2)(q:Question)(w:YM)(es:Array YX):(zwT q).runT P w es=if q.forced then(.ok 0 w,es)else(.ok (q.cut (w.tape w.drawn q)) {w with drawn:=w.drawn+1},es):=by
 simp only[zwT,ztz]
theorem BO(P:Y2)(h:w.1[r]?=some o)(hc:isRow o=false)(es:Array YX):(zt9 r).runT P w es=(.ok o w,es.push ⟨.obj r,false,o.isChan⟩):=by
 cases o<;>first |(cases hc;done)|simp only[zt9,ztz,h]
theorem RA(P:Y2)(h:w.1[r]?=some o)(hc:isRow o=true)(es:Array YX):(zt9 r).runT P w es=(.halt (.stuck "getObj: a row of cells") w,es):=by
 cases o<;>first |(cases hc;done)|simp only[zt9,ztz,h]
theorem RB(P:Y2)(h:w.1[r]?=some o)(hc:isRow o=false)(es:Array YX):(zwV r o2).runT P w es=(.ok () {w with heap:=w.1.setIfInBounds r o2},es.push ⟨.obj r,true,o2.isChan⟩):=by
 cases o<;>first |(cases hc;done)|simp only[zwV,ztz,h]
theorem zcx(P:Y2)(h:w.1[r]?=some o)(hc:isRow o=true)(es:Array YX):(zwV r o2).runT P w es=(.halt (.stuck "setObj: a row of cells") w,es):=by
 cases o<;>first |(cases hc;done)|simp only[zwV,ztz,h]
theorem Ij(f:Nat->Nat)(o:Y0):isRow (rO f o)=isRow o:=by cases o<;>rfl
theorem aa.bad{α:Type}{Q:Nat->α->α->Prop}{t t':Sem α}(h:∀(v:YM)(es:Array YX),v.1=hl->∃ hh w' cD,BN E hh/\t.runT E.P v es=(.halt hh w',cD)):
  ∃(l:List Nat)(r:Option (Except YN α))(hl':Array Y0),Alone E t hl l r hl'/\hl.size<=hl'.size/\
   (r≠none->∃(w':YM)(cD:Array YX),Left E f hl hl' w w' cD/\∀ es,∃ x,t'.runT E.P w es=(x,es++cD)/\xP E f hl'.size Q w' r x):=by
 refine⟨[],none,hl,fun v es hv _=>?_,Yp _,fun h=>absurd rfl h⟩;obtain⟨hh,w',cD,hb,hx⟩:=h v es hv;exact⟨_,_,hx,hh,w',hb,rfl⟩
theorem aa.good{α:Type}{Q:Nat->α->α->Prop}{t t':Sem α}{hl':Array Y0}(l:List Nat){a a':α}(cD:Array YX)(hs:hl.size<=hl'.size)(hq:Q hl'.size a a')(hL:Left E f hl hl' w w' cD)
  (h:∀(v:YM)(es:Array YX),v.1=hl->Listed E l v->∃ bP,t.runT E.P v es=(.ok a {v with heap:=hl',drawn:=v.drawn+l.length},bP)) (h':∀ es,t'.runT E.P w es=(.ok a' w',es++cD)):
  ∃(l:List Nat)(r:Option (Except YN α))(hl':Array Y0),Alone E t hl l r hl'/\hl.size<=hl'.size/\
   (r≠none->∃(w':YM)(cD:Array YX),Left E f hl hl' w w' cD/\∀ es,∃ x,t'.runT E.P w es=(x,es++cD)/\xP E f hl'.size Q w' r x):=
 ⟨l,some (.ok a),hl',fun v es hv hl=>let⟨_,hx⟩:=h v es hv hl;⟨_,_,hx,rfl⟩,hs,fun _=>⟨w',cD,hL,fun es=>⟨_,h' es,a',hq,rfl⟩⟩⟩
theorem aa.choose(q:Question):aa E f n EQ (choose q) (choose q):=by
 intro hl w hr hn bG;cases hq:q.forced with
 |true=>
  refine aa.good [] (a:=0) (a':=0) #[] lQ rfl (.refl hr) (fun v es hv _=>⟨es,?_⟩) (fun es=>?_)
  ·subst hv;rw[Ex,hq];rfl
  ·rw[Ex,hq,XV];rfl
 |false=>
  refine aa.good [w.tape w.drawn q] (a:=q.cut (w.tape w.drawn q)) (w':={w with drawn:=w.drawn+1}) #[] lQ rfl ⟨hr,rfl,fun _ _ _=>rfl,rfl,rfl,rfl,fun e he=>by simp at he⟩ (fun v es hv hl=>⟨es,?_⟩) (fun es=>?_)
  ·subst hv;have:=hl.2 0 q sQ;simp only[Nat.add_zero,List.getD_cons_zero]at this;rw[Ex,hq,this];rfl
  ·rw[Ex,hq,XV];rfl
theorem aa.mark{m:Mark}(hm:Ru m):aa E f n EQ (mark m) (mark m):=by
 intro hl w hr hn bG;refine⟨[],some (.ok ()),hl,fun w es hw _=>⟨_,_,rfl,by subst hw;rfl⟩,Yp _,fun _=>⟨w,#[⟨.mark m,false,true⟩],⟨hr,rfl,fun _ _ _=>rfl,rfl,rfl,rfl,fun e he=>?_⟩,fun es=>⟨_,rQ,(),rfl,rfl⟩⟩⟩;simp only[Yn,Yl,Yo,YL]at he;exact .inl ⟨m,he,hm⟩
theorem fp.push(h:fp E f hl hc)(ho:qB E hl.size o):fp E f (hl.push o) (hc.push (rO f o)):=by
 have zcy:=h.new hl.size lQ;have hb:=h.base;refine⟨fun k o' hk he=>?_,fun k hk=>?_,fun k hk=>?_,tQ,fun j hj=>?_⟩
 ·rcases Ys k hl.size with aj|dX
  ·rw[ztt aj]at he;cases he;have h1:=h.own k _ hk (XW aj);refine⟨Ev h1.1 sQ,?_⟩;have:=h.lt ⟨hk,aj⟩;rw[ztt this,<-h1.2,XW this]
  ·obtain rfl:k=hl.size:=by
    have:=(XY.1 he).1;simp at this;omega
   rw[zwC]at he;cases he;refine⟨Ev ho sQ,?_⟩;rw[show f hl.size=hc.size by omega,zwC]
 ·obtain⟨c,t,h1,h2,h3⟩:=h.ro k hk;have l1:=(XY.1 h1).1;have l2:=(XY.1 h2).1;exact⟨c,t,by rw[ztt l1,<-h1,XW l1],by rw[ztt l2,<-h2,XW l2],fun v hv=>⟨aY sQ v (h3 v hv).1,(h3 v hv).2⟩⟩
 ·obtain⟨c,e,c',h1,h2,h3⟩:=h.op k hk;have l1:=(XY.1 h1).1;have l2:=(XY.1 h2).1;exact⟨c,e,c',by rw[ztt l1,<-h1,XW l1],by rw[ztt l2,<-h2,XW l2],h3⟩
 ·simp only[Array.size_push]at hj⊢;have:=h.new j oQ;omega
theorem aa.newObj(ho:qB E n o):aa E f n (fun m r r'=>r'=f r/\E.I m r) (newObj o) (newObj (rO f o)):=by
 intro hl w hr hn bG;have zcy:=hr.new hl.size lQ;refine⟨[],some (.ok hl.size),hl.push o,fun w es hw _=>⟨_,_,rfl,by subst hw;rfl⟩,sQ,fun _=>⟨{w with heap:=w.1.push (rO f o)},#[],⟨hr.push (Ev ho hn),tQ,fun b hb _=>?_,rfl,rfl,rfl,fun e he=>by simp at he⟩,fun es=>⟨_,by rw[XV];rfl,w.1.size,⟨oQ,hr.base,sQ⟩,rfl⟩⟩⟩;show(w.1.push _)[b]?=_;rw[ztt hb,XW hb]
theorem fp.set(F:Fit E f)(h:fp E f hl hc)(hk:E.I hl.size k)(ho:qB E hl.size o):fp E f (hl.setIfInBounds k o) (hc.setIfInBounds (f k) (rO f o)):=by
 have aj:=h.lt hk;refine⟨fun j o' hj he=>?_,fun j hj=>?_,fun j hj=>?_,by rw[ztv];exact h.base,fun j hj=>by rw[ztv]at hj⊢;rw[ztv];exact h.new j hj⟩
 ·rw[ztv];by_cases e:k=j
  ·subst e;rw[X4 hk.2]at he;cases he;exact⟨ho,X4 aj⟩
  ·rw[X3 e]at he;have:=h.own j o' hj he;exact⟨this.1,by rw[X3 (fun e'=>e (F.inj _ _ e'))];exact this.2⟩
 ·obtain⟨c,t,h1,h2,h3⟩:=h.ro j hj;have hjb:=F.ro j hj;have hkb:=hk.1;have hfk:=F.ge hk.1;rw[ztv];exact⟨c,t,by rw[X3 oQ];exact h1,by rw[X3 oQ];exact h2,h3⟩
 ·obtain⟨c,e,c',h1,h2,h3⟩:=h.op j hj;have hjb:=F.op j hj;have hkb:=hk.1;have hfk:=F.ge hk.1;exact⟨c,e,c',by rw[X3 oQ];exact h1,by rw[X3 oQ];exact h2,h3⟩
theorem Left.set(F:Fit E f)(h:fp E f hl w.1)(hk:E.I hl.size k)(ho:qB E hl.size o)(rW:∀ e,e∈es->pE E f hl.size e):
  Left E f hl (hl.setIfInBounds k o) w {w with heap:=w.1.setIfInBounds (f k) (rO f o)} es:=
 ⟨h.set F hk ho,sQ,fun b _ hb=>X3 (hb k hk),rfl,rfl,rfl,fun e he=>(rW e he).mono (by rw[ztv];exact Yp _)⟩
theorem RD(hk:E.I n k)(wr:Bool):∀ e,e∈(#[⟨.obj (f k),wr,false⟩]:Array YX)->pE E f n e:=fun e he=>by
 simp only[Yn,Yl,Yo,YL]at he;subst he;exact .inr (.inl ⟨k,hk,rfl,.inl rfl⟩)
theorem RF(h:qB E n o):o.isChan=false:=by cases o<;>first |rfl|exact h.elim
theorem RG(o:Y0):(rO f o).isChan=o.isChan:=by cases o<;>rfl
theorem aa.getObj{α:Type}{Q:Nat->α->α->Prop}{g g':Y0->Sem α}(hA:E.A n r)(hg:∀ m o,n<=m->E.I m r->qB E m o->aa E f m Q (g o) (g' (rO f o)))(hp:E.O r->∀ c e t,aa E f n Q (g (.pending c e)) t):
  aa E f n Q (zt9 r >>= g) (zt9 (f r) >>= g'):=by
 intro hl w hr hn bG;rcases hA with hA|hA|hA
 ·have hI:=hA.mono hn;have aj:=hI.2;obtain⟨h1,h2⟩:=hr.own r hl[r] hI.1 (XW aj);cases hc:isRow hl[r]with
  |true=>
   refine aa.bad fun v es hv=>?_
   subst hv;exact⟨.stuck "getObj: a row of cells",v,es,trivial,by rw[ey,RA E.P (XW aj) hc]⟩
  |false=>
   obtain⟨l2,r2,zv,qu,gC,gX⟩:=hg hl.size hl[r] hn hI h1 hl w hr lQ bG;refine⟨l2,r2,zv,fun v es hv rZ=>?_,gC,fun aW=>?_⟩
   ·obtain⟨x,cD,hx,dW⟩:=qu v (es.push ⟨.obj r,false,hl[r].isChan⟩) hv rZ;subst hv;exact⟨x,cD,by rw[ey,BO E.P (XW aj) hc];exact hx,dW⟩
   ·obtain⟨w1,ox,hL,hx⟩:=gX aW;refine⟨w1,#[⟨.obj (f r),false,false⟩]++ox,⟨hL.rel,hL.size,hL.stay,hL.tape,hL.os,hL.out,fun e he=>?_⟩,fun es=>?_⟩
    ·rcases zr3.1 he with he|he
     ·exact(RD hI false e he).mono gC
     ·exact hL.evs e he
    ·obtain⟨x,hx,dW⟩:=hx (es.push ⟨.obj (f r),false,false⟩);refine⟨x,?_,dW⟩;rw[ey,BO E.P h2 (by rw[Ij];exact hc),RG,RF h1];rw[<-zAg,<-zu9];exact hx
 ·obtain⟨c,t,h1,_⟩:=hr.ro r hA;refine aa.bad fun v es hv=>?_
  subst hv;exact⟨.stuck "getObj: a row of cells",v,es,trivial,by rw[ey,RA E.P h1 rfl]⟩
 ·obtain⟨c,e,c',h1,_⟩:=hr.op r hA;obtain⟨l2,r2,zv,qu,gC,gX⟩:=hp hA c e (zt9 (f r) >>= g') hl w hr hn bG;refine⟨l2,r2,zv,fun v es hv rZ=>?_,gC,gX⟩;obtain⟨x,cD,hx,dW⟩:=qu v (es.push ⟨.obj r,false,false⟩) hv rZ;refine⟨x,cD,?_,dW⟩;subst hv;rw[ey,BO E.P h1 rfl];exact hx
theorem aa.setObj(F:Fit E f)(hI:E.I n r)(ho:qB E n o):aa E f n EQ (setObj r o) (setObj (f r) (rO f o)):=by
 intro hl w hr hn bG;have gD:=hI.mono hn;have aj:=gD.2;obtain⟨h1,h2⟩:=hr.own r hl[r] gD.1 (XW aj);have dm:=RF ho;cases hc:isRow hl[r]with
 |true=>
  refine aa.bad fun v es hv=>?_
  subst hv;exact⟨.stuck "setObj: a row of cells",v,es,trivial,by rw[zcx E.P (XW aj) hc]⟩
 |false=>
  refine aa.good [] (a:=()) (a':=()) #[⟨.obj (f r),true,false⟩] sQ rfl (Left.set F hr gD (Ev ho hn) (RD gD true)) (fun v es hv _=>⟨es.push ⟨.obj r,true,o.isChan⟩,?_⟩) (fun es=>?_)
  ·subst hv;rw[RB E.P (XW aj) hc];rfl
  ·rw[RB E.P h2 (by rw[Ij];exact hc),RG,dm,zu9]
theorem oy(P:Y2)(a:YQ)(w:YM)(es:Array YX):(zwU a).runT P w es=match w.cell? a with
  |some v=>(.ok v w,es.push ⟨.cell a,false,false⟩)
  |none=>match w.farLoad P a false with
   |.ok (v,Lz)=>(.ok v w,es++Lz.toArray.map (⟨.cell ·,false,false⟩))
   |.error h=>(.halt h w,es):=by
 simp only[zwU,ztz];rfl
theorem RH(hk:E.I n k)(wr:Bool)(ha:a.block=f k):∀ e,e∈(#[⟨.cell a,wr,false⟩]:Array YX)->pE E f n e:=fun e he=>by
 simp only[Yn,Yl,Yo,YL]at he;subst he;exact .inr (.inl ⟨k,hk,rfl,.inr ⟨a,ha,rfl⟩⟩)
theorem kI{t:YT}(h:w.1[a.block]?=some (.cells c t z)):w.cell? a=if a.spot.isSome then none else c[a.off]?:=by
 simp only[Z9,h]
theorem qD(h:w.1[a.block]?=some o)(hc:isRow o=false):w.cell? a=none:=by
 cases o<;>first |(cases hc;done)|simp only[Z9,h]
theorem Ey(P:Y2)(h:w.1[a.block]?=some o)(h1:∀ x y,o≠.view x y)(h2:∀ x y,o≠.pending x y):w.farLoad P a false=.error (.stuck "load: no such cell"):=by
 cases o<;>first |exact absurd rfl (h1 _ _)|exact absurd rfl (h2 _ _)|simp only[zvv,zwk,h]
theorem fp.seen{v:YM}(F:Fit E f)(hr:fp E f hl w.1)(hv:v.1=hl){x:YQ}{y:YT}(hAV:E.A hl.size x.block/\E.V y=true){val:YN}(h:v.viewLoad E.P x y a false=.ok (val,tl)):
  jA val=true/\∃ mH,w.viewLoad E.P (rA f x) y (rA f a) false=.ok (val,mH)/\∀ e,e∈(mH.toArray.map (⟨.cell ·,false,false⟩:YQ->YX))->pE E f hl.size e:=by
 obtain⟨hA,hV⟩:=hAV;have BP:=F.pt y hV;obtain⟨c,e,z,hx⟩:=zcq h;subst hv;rcases hA with hA|hA|hA
 ·obtain⟨h1,h2⟩:=hr.own x.block _ hA.1 hx;obtain⟨p1,mH,p2,p3⟩:=Rx (P:=E.P) (w':=w) (at':=rA f x) (k':=rA f a) hx h2 BP (zM.map f c) rfl rfl rfl rfl h;refine⟨p1,mH,p2,fun ev he=>?_⟩;obtain⟨b,hb,rfl⟩:=ztu.1 he;exact .inr (.inl ⟨x.block,hA,rfl,.inr ⟨b,p3 b (by simpa using hb),rfl⟩⟩)
 ·obtain⟨c',t',h1,h2,_⟩:=hr.ro x.block hA;rw[hx]at h1;cases h1;have nz:(rA f x).block=x.block:=F.low _ (F.ro _ hA);obtain⟨p1,mH,p2,p3⟩:=Rx (P:=E.P) (w':=w) (at':=rA f x) (k':=rA f a) hx (by rw[nz];exact h2) BP (fun _=>rfl) rfl rfl rfl rfl h;refine⟨p1,mH,p2,fun ev he=>?_⟩;obtain⟨b,hb,rfl⟩:=ztu.1 he;exact .inr (.inr (.inl ⟨b,by rw[p3 b (by simpa using hb),nz];exact hA,rfl⟩))
 ·obtain⟨c',t',_,h1,_⟩:=hr.op x.block hA;rw[hx]at h1;cases h1
theorem aa.load(F:Fit E f)(hA:E.A n a.block):aa E f n (fun m v v'=>VQ E f m v v'/\(E.R a.block->Ib v)) (load a) (load (rA f a)):=by
 intro hl w hr hn bG;rcases hA with hA|hA|hA
 ·have hI:=hA.mono hn;have aj:=hI.2;have bn:=XW aj;obtain⟨h1,h2⟩:=hr.own a.block hl[a.block] hI.1 bn;have hR:¬E.R a.block:=fun h=>by have:=F.ro _ h;have:=hI.1;omega
  generalize ho:hl[a.block]=o at h1 h2 bn;have oz:isRow o=false->(∀ x y,o≠.view x y)->∃(l:List Nat)(r:Option (Except YN YN))(hl':Array Y0),Alone E (zwU a) hl l r hl'/\hl.size<=hl'.size/\
   (r≠none->∃(w':YM)(cD:Array YX),Left E f hl hl' w w' cD/\∀ es,∃ x,(zwU (rA f a)).runT E.P w es=(x,es++cD)/\xP E f hl'.size (fun m v v'=>VQ E f m v v'/\(E.R a.block->Ib v)) w' r x):=fun hc hv=>by
   refine aa.bad fun v es dM=>?_
   subst dM;exact⟨.stuck "load: no such cell",v,es,trivial,by rw[oy,qD bn hc,Ey E.P bn hv (fun x y e=>by rw[e]at h1;exact h1)]⟩
  cases o with
  |cells c t z=>
   cases hs:a.spot.isSome with
   |true=>
    refine aa.bad fun v es dM=>?_
    subst dM;exact⟨.stuck "load: no such cell",v,es,trivial,by rw[oy,kI bn,hs,Ey E.P bn (fun _ _ e=>by cases e) (fun _ _ e=>by cases e)];rfl⟩
   |false=>
    cases hx:c[a.off]? with
    |none=>
     refine aa.bad fun v es dM=>?_
     subst dM;exact⟨.stuck "load: no such cell",v,es,trivial,by rw[oy,kI bn,hs,hx,Ey E.P bn (fun _ _ e=>by cases e) (fun _ _ e=>by cases e)];rfl⟩
    |some x=>
     refine aa.good [] (a:=x) (a':=rV f x) #[⟨.cell (rA f a),false,false⟩] lQ ⟨⟨rfl,qC h1 hx⟩,fun h=>absurd h hR⟩ ⟨hr,rfl,fun _ _ _=>rfl,rfl,rfl,rfl,RH hI false rfl⟩ (fun v es dM _=>⟨es.push ⟨.cell a,false,false⟩,?_⟩) (fun es=>?_)
     ·subst dM;rw[oy,kI bn,hs,hx];rfl
     ·have tY:(rA f a).spot.isSome=false:=hs;have uj:(c.map (rV f))[(rA f a).off]?=some (rV f x):=by
       rw[XZ];show(c[a.off]?).map _=_;rw[hx];rfl
      rw[oy,kI (a:=rA f a) h2,tY,YG sQ,uj,zu9]
  |view x y=>
   cases pF:({w with heap:=hl}:YM).viewLoad E.P x y a false with
   |error Hu=>
    refine aa.bad fun v es dM=>?_
    subst dM;refine⟨.unsupported (.unsafePointer Hu),v,es,trivial,?_⟩;have:v.viewLoad E.P x y a false=.error Hu:=pF;rw[oy,qD bn rfl];simp only[zvv,bn,this]
   |ok p=>
    obtain⟨val,tl⟩:=p;obtain⟨p1,mH,p2,p3⟩:=hr.seen F (v:={w with heap:=hl}) rfl h1 pF;refine aa.good [] (a:=val) (a':=val) (mH.toArray.map (⟨.cell ·,false,false⟩)) lQ ⟨⟨(zG p1).symm,uh p1⟩,fun h=>absurd h hR⟩ ⟨hr,rfl,fun _ _ _=>rfl,rfl,rfl,rfl,p3⟩ (fun v es dM _=>⟨es++tl.toArray.map (⟨.cell ·,false,false⟩),?_⟩) (fun es=>?_)
    ·subst dM;have:v.viewLoad E.P x y a false=.ok (val,tl):=pF;rw[oy,qD bn rfl];simp only[zvv,bn,this];rfl
    ·rw[oy,qD (a:=rA f a) h2 rfl];have iH:w.1[(rA f a).block]?=some (.view (rA f x) y):=h2;simp only[zvv,iH,p2]
  |pending x y=>exact h1.elim
  |_=>exact oz rfl (fun _ _ e=>by cases e)
 ·obtain⟨c,t,h1,h2,h3⟩:=hr.ro a.block hA;have nz:(rA f a).block=a.block:=F.low _ (F.ro _ hA);cases hs:a.spot.isSome with
  |true=>
   refine aa.bad fun v es dM=>?_
   subst dM;exact⟨.stuck "load: no such cell",v,es,trivial,by rw[oy,kI h1,hs,Ey E.P h1 (fun _ _ e=>by cases e) (fun _ _ e=>by cases e)];rfl⟩
  |false=>
   cases hx:c[a.off]? with
   |none=>
    refine aa.bad fun v es dM=>?_
    subst dM;exact⟨.stuck "load: no such cell",v,es,trivial,by rw[oy,kI h1,hs,hx,Ey E.P h1 (fun _ _ e=>by cases e) (fun _ _ e=>by cases e)];rfl⟩
   |some x=>
    obtain⟨q1,q2,q3⟩:=h3 x (zt5 hx);refine aa.good [] (a:=x) (a':=x) #[⟨.cell (rA f a),false,false⟩] lQ ⟨⟨q3.symm,q1⟩,fun _=>q2⟩ ⟨hr,rfl,fun _ _ _=>rfl,rfl,rfl,rfl,fun e he=>?_⟩ (fun v es dM _=>⟨es.push ⟨.cell a,false,false⟩,?_⟩) (fun es=>?_)
    ·simp only[Yn,Yl,Yo,YL]at he;exact .inr (.inr (.inl ⟨rA f a,by rw[nz];exact hA,he⟩))
    ·subst dM;rw[oy,kI h1,hs,hx];rfl
    ·have tY:(rA f a).spot.isSome=false:=hs;have uj:c[(rA f a).off]?=some x:=hx;rw[oy,kI (a:=rA f a) (by rw[nz];exact h2),tY,YG sQ,uj,zu9]
 ·obtain⟨c,e,c',h1,_⟩:=hr.op a.block hA;refine aa.bad fun v es dM=>?_
  subst dM;refine⟨.unsupported (.initOrder a.block),v,es,hA,?_⟩;rw[oy,qD h1 rfl];simp only[zvv,zwk,h1]
def zN:YN->Bool
 |.agg _=>false
 |.tuple _=>false
 |_=>true
theorem zcz(f:Nat->Nat)(v:YN):zN (rV f v)=zN v:=by cases v<;>simp[rV,zN]
theorem qE(P:Y2)(a:YQ)(hv:zN v=true)(w:YM)(es:Array YX):(ztI a v).runT P w es=match w.cell? a with
  |some _=>if w.frozen? a then(.halt (.unsupported (.unsafePointer "a write to bytes that a string shares")) w,es)else(.ok () (w.setCell a v),es.push ⟨.cell a,true,false⟩)
  |none=>match w.farStore P a v false with
   |.ok (w,Lz)=>(.ok () w,es++Lz.toArray.map (⟨.cell ·,true,false⟩))
   |.error h=>(.halt h w,es):=by
 cases v<;>first |(cases hv;done)|(simp only[ztI,ztz];rfl)
theorem zcA(P:Y2)(a:YQ)(hv:zN v=false)(w:YM)(es:Array YX):(ztI a v).runT P w es=(.halt (.stuck "store: not the value of one cell") w,es):=by
 cases v<;>first |(cases hv;done)|(simp only[ztI,ztz])
theorem LA(P:Y2)(h:w.1[a.block]?=some o)(h1:∀ x y,o≠.view x y)(h2:∀ x y,o≠.pending x y):w.farStore P a v false=.error (.stuck "store: no such cell"):=by
 cases o<;>first |exact absurd rfl (h1 _ _)|exact absurd rfl (h2 _ _)|simp only[zvw,zwk,h]
theorem nB{t:YT}(h:w.1[a.block]?=some (.cells c t z)):w.frozen? a=(decide (z.1<=a.off)&&decide (a.off<z.2)):=by
 obtain⟨x,y⟩:=z;simp only[zwj,h]
theorem RI{t:YT}(h:w.1[a.block]?=some (.cells c t z))(hs:a.spot.isSome=false)(v:YN):w.setCell a v ={w with heap:=w.1.setIfInBounds a.block (.cells (c.setIfInBounds a.off v) t z)}:=by
 have aj:=(XY.1 h).1;unfold World.setCell;congr 1
 apply zt4;intro i;by_cases e:a.block=i
 ·subst e;rw[zte,X4 aj,YH rfl,h];simp[hs]
 ·rw[zte,YG e,X3 e]
theorem aa.store(F:Fit E f)(hA:E.A n a.block)(hv:ah E n v):aa E f n EQ (store a v) (store (rA f a) (rV f v)):=by
 intro hl w hr hn bG;cases se:zN v with
 |false=>
  refine aa.bad fun u es hu=>?_
  exact⟨.stuck "store: not the value of one cell",u,es,trivial,zcA E.P a se u es⟩
 |true=>
  have LB:zN (rV f v)=true:=by rw[zcz];exact se
  rcases hA with hA|hA|hA
  ·have hI:=hA.mono hn;have aj:=hI.2;have bn:=XW aj;obtain⟨h1,h2⟩:=hr.own a.block hl[a.block] hI.1 bn;generalize ho:hl[a.block]=o at h1 h2 bn;have oz:isRow o=false->(∀ x y,o≠.view x y)->∃(l:List Nat)(r:Option (Except YN Unit))(hl':Array Y0),Alone E (ztI a v) hl l r hl'/\hl.size<=hl'.size/\
    (r≠none->∃(w':YM)(cD:Array YX),Left E f hl hl' w w' cD/\∀ es,∃ x,(ztI (rA f a) (rV f v)).runT E.P w es=(x,es++cD)/\xP E f hl'.size EQ w' r x):=fun hc hv=>by
    refine aa.bad fun u es hu=>?_
    subst hu;exact⟨.stuck "store: no such cell",u,es,trivial,by rw[qE E.P a se,qD bn hc,LA E.P bn hv (fun x y e=>by rw[e]at h1;exact h1)]⟩
   cases o with
   |cells c t z=>
    have cX:a.spot.isSome=true\/c[a.off]?=none->∃(l:List Nat)(r:Option (Except YN Unit))(hl':Array Y0),Alone E (ztI a v) hl l r hl'/\hl.size<=hl'.size/\
     (r≠none->∃(w':YM)(cD:Array YX),Left E f hl hl' w w' cD/\∀ es,∃ x,(ztI (rA f a) (rV f v)).runT E.P w es=(x,es++cD)/\xP E f hl'.size EQ w' r x):=fun hc=>by
     refine aa.bad fun u es hu=>?_
     subst hu;have e1:u.cell? a=none:=by
      rw[kI bn];rcases hc with hc|hc
      ·rw[hc];rfl
      ·rw[hc];simp
     exact⟨.stuck "store: no such cell",u,es,trivial,by rw[qE E.P a se,e1,LA E.P bn (fun _ _ e=>by cases e) (fun _ _ e=>by cases e)]⟩
    cases hs:a.spot.isSome with
    |true=>exact cX (.inl hs)
    |false=>
     cases hx:c[a.off]? with
     |none=>exact cX (.inr hx)
     |some x=>
      have tY:(rA f a).spot.isSome=false:=hs;have uj:(c.map (rV f))[(rA f a).off]?=some (rV f x):=by
       rw[XZ];show(c[a.off]?).map _=_;rw[hx];rfl
      have iH:w.1[(rA f a).block]?=some (.cells (c.map (rV f)) t z):=h2;cases hz:(decide (z.1<=a.off)&&decide (a.off<z.2))with
      |true=>
       refine aa.bad fun u es hu=>?_
       subst hu;refine⟨.unsupported (.unsafePointer "a write to bytes that a string shares"),u,es,trivial,?_⟩;rw[qE E.P a se,kI bn,hs,hx,nB bn,hz];rfl
      |false=>
       have e3:Obj.cells ((c.map (rV f)).setIfInBounds a.off (rV f v)) t z=rO f (.cells (c.setIfInBounds a.off v) t z):=by
        simp only[rO];rw[zxP]
       refine aa.good [] (a:=()) (a':=()) (hl':=hl.setIfInBounds a.block (.cells (c.setIfInBounds a.off v) t z)) (w':={w with heap:=w.1.setIfInBounds (f a.block) (rO f (.cells (c.setIfInBounds a.off v) t z))}) #[⟨.cell (rA f a),true,false⟩] sQ rfl
        (Left.set F hr hI (o:=.cells (c.setIfInBounds a.off v) t z) (Ig h1 (aY hn v hv) _) (RH hI true rfl)) (fun u es hu _=>⟨es.push ⟨.cell a,true,false⟩,?_⟩) (fun es=>?_)
       ·subst hu;rw[qE E.P a se,kI bn,hs,hx,nB bn,hz,RI bn hs];rfl
       ·have Q2:(decide (z.1<=(rA f a).off)&&decide ((rA f a).off<z.2))=false:=hz;rw[qE E.P (rA f a) LB,kI iH,tY,YG sQ,uj,nB iH,Q2,RI iH tY,<-e3,zu9];rfl
   |view x y=>
    have iH:w.1[(rA f a).block]?=some (.view (rA f x) y):=h2;cases pF:({w with heap:=hl}:YM).viewStore E.P x y a v false with
    |error Hu=>
     refine aa.bad fun u es hu=>?_
     refine⟨.unsupported (.unsafePointer Hu),u,es,trivial,?_⟩;have:=Rz (P:=E.P) (w:={w with heap:=hl}) (w':=u) hu x y a v false;rw[pF]at this;subst hu;rw[qE E.P a se,qD bn rfl];simp only[zvw,bn,this,zvK]
    |ok p=>
     obtain⟨c,e,z,hx⟩:=zcr pF;have hA:E.A hl.size x.block:=h1.1;have RJ:∀(hl':Array Y0)(tl:List YQ),p=({w with heap:=hl'},tl)->∀(u:YM)(es:Array YX),u.1=hl->Listed E [] u->∃ bP,(ztI a v).runT E.P u es=(.ok () {u with heap:=hl',drawn:=u.drawn+([]:List Nat).length},bP):=fun hl' tl hp u es hu _=>by
      have:=Rz (P:=E.P) (w:={w with heap:=hl}) (w':=u) hu x y a v false;rw[pF,hp]at this;subst hu;refine⟨es++tl.toArray.map (⟨.cell ·,true,false⟩),?_⟩;rw[qE E.P a se,qD bn rfl];simp only[zvw,bn,this,zvK];rfl
     rcases hA with hA|hA|hA
     ·obtain⟨k1,k2⟩:=hr.own x.block _ hA.1 hx;obtain⟨x2,tl⟩:=p;obtain⟨c2,mH,q1,q2,q3,q4,q5⟩:=zcu (P:=E.P) (f:=f) (w':=w) (at':=rA f x) (k':=rA f a) hx k2 rfl rfl rfl rfl pF;refine aa.good [] (a:=()) (a':=()) (mH.toArray.map (⟨.cell ·,true,false⟩)) sQ rfl (Left.set F hr hA (o:=.cells c2 e z) (fun val pA=>?_) (fun ev he=>?_)) (RJ _ tl (by rw[q1])) (fun es=>?_)
      ·rcases q3 (fun y hy=>zci (k1 y hy)) val pA with k|k
       ·exact k1 val k
       ·exact uh k
      ·obtain⟨b,hb,rfl⟩:=ztu.1 he;exact .inr (.inl ⟨x.block,hA,rfl,.inr ⟨b,q5 b (by simpa using hb),rfl⟩⟩)
      ·rw[qE E.P (rA f a) LB,qD iH rfl];simp only[zvw,iH,q4];rfl
     ·obtain⟨c',t',k1,k2,_⟩:=hr.ro x.block hA;have nz:rA f x=x:=by
       unfold rA;rw[F.low _ (F.ro _ hA)]
      obtain⟨q1,q2⟩:=zcw (P:=E.P) (w':=w) (k':=rA f a) (v':=rV f v) rfl rfl (Lu f v) k1 pF k2;have hi:∀ e,e∈(#[]:Array YX)->pE E f hl.size e:=fun e he=>by simp at he
      refine aa.good [] (a:=()) (a':=()) (hl':=hl) (w':=w) #[] lQ rfl ⟨hr,rfl,fun _ _ _=>rfl,rfl,rfl,rfl,hi⟩ (RJ hl [] q1) (fun es=>?_);rw[qE E.P (rA f a) LB,qD iH rfl];simp only[zvw,iH,nz,q2,Yk,Yj]
     ·obtain⟨c',t',_,k1,_⟩:=hr.op x.block hA;rw[show({w with heap:=hl}:YM).1=hl from rfl]at hx;rw[hx]at k1;cases k1
   |pending x y=>exact h1.elim
   |_=>exact oz rfl (fun _ _ e=>by cases e)
  ·obtain⟨c,t,h1,h2,h3⟩:=hr.ro a.block hA;refine aa.bad fun u es hu=>?_
   subst hu;cases hs:u.cell? a with
   |none=>exact⟨.stuck "store: no such cell",u,es,trivial,by rw[qE E.P a se,hs,LA E.P h1 (fun _ _ e=>by cases e) (fun _ _ e=>by cases e)]⟩
   |some x=>
    refine⟨.unsupported (.unsafePointer "a write to bytes that a string shares"),u,es,trivial,?_⟩;have aj:a.off<c.size:=by
     rw[kI h1]at hs;split at hs
     ·cases hs
     ·exact(XY.1 hs).1
    rw[qE E.P a se,hs,nB h1];simp[aj]
  ·obtain⟨c,e,c',h1,_⟩:=hr.op a.block hA;refine aa.bad fun u es hu=>?_
   subst hu;refine⟨.unsupported (.initOrder a.block),u,es,hA,?_⟩;rw[qE E.P a se,qD h1 rfl];simp only[zvw,zwk,h1]
def LC(E:Env)(r:Nat)(_:Nat)(s s':Option (YT×Nat)):Prop:=s'=s\/(E.O r/\s=none/\∃ e k,0<k/\s'=some (e,k))
theorem zcB(f:Nat->Nat){h':Array Y0}{r':Nat}(w w':YM)(hw:w.1=h)(fH:w'.1=h')(h1:h[r]?=some o)(h2:h'[r']?=some (rO f o)):w'.shape? r'=w.shape? r:=by
 subst hw fH;simp only[zuk,h1,h2];cases o<;>simp[rO]
theorem sf(P:Y2)(r:Nat)(w:YM)(es:Array YX):(Go.shape r).runT P w es=(.ok (w.shape? r) w,es):=rfl
theorem aa.shape(F:Fit E f)(hA:E.A n r):aa E f n (LC E r) (shape r) (shape (f r)):=by
 intro hl w hr hn bG;have key:∀ s s',LC E r 0 s s'->(∀ v:YM,v.1=hl->v.shape? r=s)->w.shape? (f r)=s'->∃(l:List Nat)(x:Option (Except YN (Option (YT×Nat))))(hl':Array Y0),Alone E (Go.shape r) hl l x hl'/\hl.size<=hl'.size/\
   (x≠none->∃(w':YM)(cD:Array YX),Left E f hl hl' w w' cD/\∀ es,∃ y,(Go.shape (f r)).runT E.P w es=(y,es++cD)/\xP E f hl'.size (LC E r) w' x y):=fun s s' hq h1 h2=>by
  refine aa.good [] (a:=s) (a':=s') #[] lQ hq (.refl hr) (fun v es hv _=>⟨es,?_⟩) (fun es=>?_)
  ·rw[sf,h1 v hv];subst hv;rfl
  ·rw[sf,h2,XV]
 rcases hA with hA|hA|hA
 ·have hI:=hA.mono hn;have aj:=hI.2;obtain⟨h1,h2⟩:=hr.own r hl[r] hI.1 (XW aj);exact key _ _ (.inl rfl) (fun v hv=>(zcB f v w hv rfl (XW aj) h2).symm) rfl
 ·obtain⟨c,t,h1,h2,_⟩:=hr.ro r hA;refine key (some (t,c.size)) _ (.inl rfl) (fun v hv=>by subst hv;simp only[zuk,h1]) ?_;rw[F.low _ (F.ro _ hA)];simp only[zuk,h2]
 ·obtain⟨c,e,c',h1,h2,h3,h4⟩:=hr.op r hA;refine key none (some (e,c'.size)) (.inr ⟨hA,rfl,e,c'.size,oQ,rfl⟩) (fun v hv=>by subst hv;simp only[zuk,h1]) ?_;rw[F.low _ (F.op _ hA)];simp only[zuk,h2]
theorem BQ(P:Y2)(a:YQ)(k:Nat)(w:YM)(es:Array YX):(Go.freeze a k).runT P w es=(.ok () (w.freeze a k),es):=rfl
theorem RL{t:YT}(h:w.1[a.block]?=some (.cells c t z))(hk:k≠0):w.freeze a k ={w with heap:=w.1.setIfInBounds a.block (.cells c t (if z.1==z.2 then(a.off,a.off+k)else(min z.1 a.off,max z.2 (a.off+k))))}:=by
 have aj:=(XY.1 h).1;unfold zxr;rw[YG hk];congr 1
 apply zt4;intro i;by_cases e:a.block=i
 ·subst e;rw[zte,X4 aj,YH rfl,h];rfl
 ·rw[zte,YG e,X3 e]
theorem RM(h:w.1[a.block]?=some o)(hc:isRow o=false)(k:Nat):w.freeze a k=w:=by
 unfold zxr;split
 ·rfl
 ·have key:∀ h',h'=w.1->({w with heap:=h'}:YM)=w:=by rintro _ rfl;rfl
  apply key;apply zt4;intro i;by_cases e:a.block=i
  ·subst e;rw[zte,YH rfl,h];cases o<;>first |(cases hc;done)|rfl
  ·rw[zte,YG e]
theorem aa.freeze(F:Fit E f)(hA:E.I n a.block):aa E f n EQ (freeze a k) (freeze (rA f a) k):=by
 intro hl w hr hn bG;have hI:=hA.mono hn;have aj:=hI.2;have bn:=XW aj;obtain⟨h1,h2⟩:=hr.own a.block hl[a.block] hI.1 bn;have iH:w.1[(rA f a).block]?=some (rO f hl[a.block]):=h2;have hi:∀ e,e∈(#[]:Array YX)->pE E f hl.size e:=fun e he=>by simp at he
 by_cases hk:k=0
 ·refine aa.good [] (a:=()) (a':=()) #[] lQ rfl (.refl hr) (fun v es hv _=>⟨es,?_⟩) (fun es=>?_)
  ·subst hv;simp only[BQ,zxr,hk,YI];rfl
  ·rw[BQ,XV];simp only[zxr,hk,YI]
 ·cases hc:isRow hl[a.block]with
  |false=>
   refine aa.good [] (a:=()) (a':=()) #[] lQ rfl (.refl hr) (fun v es hv _=>⟨es,?_⟩) (fun es=>?_)
   ·subst hv;rw[BQ,RM bn hc];rfl
   ·rw[BQ,XV,RM iH (by rw[Ij];exact hc)]
  |true=>
   generalize ho:hl[a.block]=o at h1 h2 bn hc iH;cases o<;>first |(cases hc;done)|skip
   rename_i c t z;refine aa.good [] (a:=()) (a':=()) #[] sQ rfl (Left.set F hr hI (o:=.cells c t (if z.1==z.2 then(a.off,a.off+k)else(min z.1 a.off,max z.2 (a.off+k)))) h1 hi) (fun v es hv _=>⟨es,?_⟩) (fun es=>?_)
   ·subst hv;rw[BQ,RL bn hk];rfl
   ·rw[BQ,XV,RL iH hk];rfl
end
section
variable {E:Env}{f:Nat->Nat}{n:Nat}
def Calm{α:Type}(E:Env)(t:Sem α):Prop:=(∃ a,∀ w es,t.runT E.P w es=(.ok a w,es))\/(∃ h,BN E h/\∀ w es,t.runT E.P w es=(.halt h w,es))
theorem Calm.pure{α:Type}(a:α):Calm E (YZ a:Sem α):=.inl ⟨a,fun _ _=>rfl⟩
theorem Calm.stuck{α:Type}(s:String):Calm E (stuck s:Sem α):=.inr ⟨.stuck s,trivial,fun _ _=>rfl⟩
theorem Calm.unsupported{α:Type}{u:zzy}(hu:∀ k,u≠.initOrder k):Calm E (unsupported u:Sem α):=.inr ⟨.unsupported u,by cases u<;>first |trivial|exact absurd rfl (hu _),fun _ _=>rfl⟩
theorem Calm.bind{α β:Type}{t:Sem α}{g:α->Sem β}(h:Calm E t)(hg:∀ a,Calm E (g a)):Calm E (t >>= g):=by
 rcases h with ⟨a,ha⟩|⟨hh,hb,ha⟩
 ·rcases hg a with ⟨b,hb⟩|⟨hh,hb,hx⟩
  ·exact .inl ⟨b,fun w es=>by rw[ey,ha];exact hb w es⟩
  ·exact .inr ⟨hh,hb,fun w es=>by rw[ey,ha];exact hx w es⟩
 ·exact .inr ⟨hh,hb,fun w es=>by rw[ey,ha]⟩
theorem Calm.program{α:Type}{g:Y2->Sem α}(h:Calm E (g E.P)):Calm E (program >>= g):=h
theorem Calm.ite{α:Type}{c:Prop}[Decidable c]{a b:Sem α}(h:Calm E a)(h':Calm E b):Calm E (if c then a else b):=by
 split
 ·exact h
 ·exact h'
theorem Calm.LD{α:Type}{t:Sem α}(h:Calm E t):aa E f n EQ t t:=by
 intro hl w hr hn bG;rcases h with ⟨a,ha⟩|⟨hh,hb,ha⟩
 ·exact aa.good [] (a:=a) (a':=a) #[] lQ rfl (.refl hr) (fun v es hv _=>⟨es,by subst hv;rw[ha];rfl⟩) (fun es=>by rw[ha,XV])
 ·exact aa.bad fun v es _=>⟨hh,v,es,hb,ha v es⟩
theorem aa.same{α β:Type}{Q:Nat->β->β->Prop}{t:Sem α}{g g':α->Sem β}(h:Calm E t)(hg:∀ a,aa E f n Q (g a) (g' a)):aa E f n Q (t >>= g) (t >>= g'):=
 h.LD.bind fun m a a' hm hq=>by
  cases hq;exact(hg a).mono hm fun _ _ _ _ h=>h
theorem sg(t:YT):Calm E (zup t):=by
 unfold zup;refine .program ?_;cases E.P.info? t
 ·exact .stuck _
 ·exact .pure _
theorem Ik(t:YT):Calm E (underlying t):=by
 unfold underlying;refine .program ?_;cases E.P.underlying t
 ·exact .stuck _
 ·exact .pure _
theorem kJ(t:YT):Calm E (sizeOf t):=(sg t).bind fun _=>.pure _
theorem RN(t:YT):Calm E (isAgg t):=by
 refine(Ik t).bind fun d=>?_
 cases d<;>exact .pure _
theorem LF(t:YT):Calm E (elemOf t):=by
 refine(Ik t).bind fun d=>?_
 cases d<;>first |exact .pure _|exact .stuck _
theorem RO(t:YT):Calm E (typeStr t):=by
 refine(sg t).bind fun i=>?_
 simp only;split
 ·exact .unsupported sQ
 ·exact .pure _
theorem zcC(t:YT):Calm E (zeroValue t):=by
 refine(sg t).bind fun i=>?_
 cases i.zero
 ·exact .unsupported sQ
 ·exact .pure _
def oB(P:Y2)(t:YT):Bool:=match P.info? t with
 |some i=>match i.zero with
  |some z=>qA z
  |none=>true
 |none=>true
theorem run_typeInfo{t:YT}{i:TypeInfo}(h:E.P.info? t=some i)(w:YM)(es:Array YX):(zup t).runT E.P w es=(.ok i w,es):=by
 have:zup t=program >>= fun p=>match p.info? t with|some i=>pure i|none=>stuck "no such type" :=rfl
 rw[this,ey];show(match E.P.info? t with|some i=>pure i|none=>stuck "no such type" : Sem TypeInfo).runT E.P w es=_;rw[h];rfl
theorem BR{t:YT}(h:oB E.P t=true):aa E f n (fun _ v v'=>v'=v/\qA v=true) (zeroValue t) (zeroValue t):=by
 intro hl w hr hn bG;unfold oB at h;rcases zcC (E:=E) t with ⟨z,hz⟩|⟨hh,hb,hx⟩
 ·refine aa.good [] (a:=z) (a':=z) #[] lQ ⟨rfl,?_⟩ (.refl hr) (fun v es hv _=>⟨es,by subst hv;rw[hz];rfl⟩) (fun es=>by rw[hz,XV]);cases hi:E.P.info? t with
  |none=>
   exfalso;have h1:=hz default #[];have:zup t=program >>= fun p=>match p.info? t with|some i=>pure i|none=>stuck "no such type" :=rfl
   have h2:(zup t).runT E.P default #[]=(.halt (.stuck "no such type") default,#[]):=by
    rw[this,ey];show(match E.P.info? t with|some i=>pure i|none=>stuck "no such type" : Sem TypeInfo).runT E.P default #[]=_;rw[hi];rfl
   unfold zeroValue at h1;rw[ey,h2]at h1;cases h1
  |some i=>
   rw[hi]at h;have h1:=hz default #[];unfold zeroValue at h1;rw[ey,run_typeInfo hi]at h1;cases hz:i.zero with
   |none=>simp only[hz]at h1;cases h1
   |some v=>
    simp only[hz]at h1 h;cases h1;exact h
 ·exact aa.bad fun v es _=>⟨hh,v,es,hb,hx v es⟩
theorem dT{α:Type}{Q:Nat->α->α->Prop}{t:YT}{g g':zwg->Sem α}(h:∀ d,E.P.underlying t=some d->aa E f n Q (g d) (g' d)):aa E f n Q (underlying t >>= g) (underlying t >>= g'):=by
 show aa E f n Q ((match E.P.underlying t with|some d=>pure d|none=>stuck "no such type") >>= g) ((match E.P.underlying t with|some d=>pure d|none=>stuck "no such type") >>= g');cases hd:E.P.underlying t with
 |none=>exact aa.iu
 |some d=>exact h d hd
theorem Ez{α:Type}{Q:Nat->α->α->Prop}{t:YT}{g g':TypeInfo->Sem α}(h:∀ d,E.P.info? t=some d->aa E f n Q (g d) (g' d)):aa E f n Q (zup t >>= g) (zup t >>= g'):=by
 show aa E f n Q ((match E.P.info? t with|some d=>pure d|none=>stuck "no such type") >>= g) ((match E.P.info? t with|some d=>pure d|none=>stuck "no such type") >>= g');cases hd:E.P.info? t with
 |none=>exact aa.iu
 |some d=>exact h d hd
theorem zcD{α:Type}{Q:Nat->α->α->Prop}{t:YT}{g g':Nat->Sem α}(h:∀ d,E.P.info? t=some d->aa E f n Q (g d.size) (g' d.size)):aa E f n Q (sizeOf t >>= g) (sizeOf t >>= g'):=by
 show aa E f n Q (((match E.P.info? t with|some d=>pure d|none=>stuck "no such type") >>= fun i=>pure i.size) >>= g) (((match E.P.info? t with|some d=>pure d|none=>stuck "no such type") >>= fun i=>pure i.size) >>= g');cases hd:E.P.info? t with
 |none=>exact aa.iu
 |some d=>exact h d hd
theorem Il(F:Fit E f)(h:E.I n r\/E.R r):¬E.O r:=fun hO=>by
 rcases h with h|h
 ·have:=F.op _ hO;have:=h.1;omega
 ·exact F.no _ h hO
theorem EA(F:Fit E f)(h:E.I n r\/E.R r):aa E f n EQ (shape r) (shape (f r)):=by
 refine(aa.shape F (n:=n) (r:=r) ?_).mono lQ fun k a a' hk hq=>?_
 ·rcases h with h|h
  ·exact .inl h
  ·exact .inr (.inl h)
 ·rcases hq with hq|⟨hO,_⟩
  ·exact hq
  ·exact absurd hO (Il F h)
def RP(E:Env)(f:Nat->Nat)(m:Nat)(x x':Option (YQ×YT)):Prop:=x'=x.map (fun p=>(rA f p.1,p.2))/\∀ a t,x=some (a,t)->E.A m a.block
theorem BS(e:w.1=h):({w with heap:=h,drawn:=w.drawn+([]:List Nat).length}:YM)=w:=by subst e;rfl
theorem EC(h:w.1[r]?=some (.pending c e)):w.shape? r=none:=by simp only[zuk,h]
theorem BU(h:w.1[r]?=some (.cells c e z)):w.shape? r=some (e,c.size):=by simp only[zuk,h]
theorem Im(F:Fit E f)(hA:E.A n r):aa E f n (RP E f) (zu4 r) (zu4 (f r)):=by
 have xQ:E.I n r\/E.R r->aa E f n (RP E f) (zu4 r) (zu4 (f r)):=fun h=>by
  unfold zu4;refine(EA F h).bind fun m s s' hm hq=>?_
  cases hq;refine aa.ite (fun _=>aa.pure fun _ _=>⟨rfl,fun _ _ e=>by cases e⟩) fun _=>?_
  refine aa.getObj (hA.mono hm) (fun k o hk hI ho=>?_) (fun hO=>absurd hO (Il F h));cases o with
  |view a t=>
   refine aa.pure fun _ hk=>⟨rfl,fun _ _ e=>?_⟩
   cases e;exact Env.A.mono ho.1 hk
  |_=>exact aa.pure fun _ hk=>⟨rfl,fun _ _ e=>by cases e⟩
 rcases hA with hA|hA|hA
 ·exact xQ (.inl hA)
 ·exact xQ (.inr hA)
 ·intro hl w hr hn bG;obtain⟨c,e,c',h1,h2,h3,h4⟩:=hr.op r hA;refine aa.good [] (a:=none) (a':=none) #[] lQ ⟨rfl,fun _ _ e=>by cases e⟩ (.refl hr) (fun v es hv _=>⟨es.push ⟨.obj r,false,false⟩,?_⟩) (fun es=>?_)
  ·subst hv;rw[BS rfl];unfold zu4;rw[ey,sf,EC h1];simp only[zxk,X8,YF];rw[ey,BO E.P h1 rfl];rfl
  ·unfold zu4;rw[ey,sf,F.low _ (F.op _ hA),BU h2,XV];rfl
theorem LG(F:Fit E f)(hA:E.A n a.block):aa E f n EQ (zuY a) (zuY (rA f a)):=by
 unfold zuY;refine(Im F hA).bind fun m x x' hm hq=>?_
 obtain⟨rfl,_⟩:=hq;rw[zv9];refine aa.ite (fun _=>aa.unsupported sQ) fun _=>aa.pure fun _ _=>rfl
theorem zcE(F:Fit E f)(hA:E.A n r):aa E f n EQ (zuV r) (zuV (f r)):=by
 have xQ:E.I n r\/E.R r->aa E f n EQ (zuV r) (zuV (f r)):=fun h=>by
  unfold zuV;refine(EA F h).bind fun m s s' hm hq=>?_
  cases hq;cases s with
  |some p=>exact aa.pure fun _ _=>rfl
  |none=>
   refine aa.getObj (hA.mono hm) (fun k o hk hI ho=>?_) (fun hO=>absurd hO (Il F h));cases o<;>first |exact aa.pure fun _ _=>rfl|exact ho.elim
 rcases hA with hA|hA|hA
 ·exact xQ (.inl hA)
 ·exact xQ (.inr hA)
 ·intro hl w hr hn bG;obtain⟨c,e,c',h1,h2,h3,h4⟩:=hr.op r hA;refine aa.good [] (a:=some c.size) (a':=some c.size) #[] lQ rfl (.refl hr) (fun v es hv _=>⟨es.push ⟨.obj r,false,false⟩,?_⟩) (fun es=>?_)
  ·subst hv;rw[BS rfl];unfold zuV;rw[ey,sf,EC h1];show(zt9 r >>= _).runT E.P v es=_;rw[ey,BO E.P h1 rfl];rfl
  ·unfold zuV;rw[ey,sf,F.low _ (F.op _ hA),BU h2,XV,h3];rfl
def AQ(E:Env)(f:Nat->Nat)(m:Nat)(cs cs':Array YN):Prop:=cs'=cs.map (rV f)/\bj E m cs
theorem Io(F:Fit E f)(hA:E.A n a.block):aa E f n (VQ E f) (load a) (load (rA f a)):=(aa.load F hA).mono lQ fun _ _ _ _ h=>h.1
theorem RQ(F:Fit E f):∀(k i:Nat)(acc:Array YN)(n:Nat),E.A n a.block->bj E n acc->aa E f n (AQ E f) (zzQ a i k acc) (zzQ (rA f a) i k (acc.map (rV f)))
 | 0,i,acc,n,hA,zO=>aa.pure fun _ hm=>⟨rfl,eF zO hm⟩
 |k+1,i,acc,n,hA,zO=>by
  unfold zzQ;rw[ui];refine(Io F (a:=a.add i) (by rw[block_add];exact hA)).bind fun m v v' hm hq=>?_
  obtain⟨rfl,hv⟩:=hq;rw[<-zAk];exact RQ F k (i+1) (acc.push v) m (hA.mono hm) (zck (eF zO hm) hv)
theorem Ip(F:Fit E f)(hA:E.A n a.block)(k:Nat):aa E f n (AQ E f) (loadCells a k) (loadCells (rA f a) k):=by
 have:=RQ F (a:=a) k 0 #[] n hA (fun x hx=>by simp at hx);simpa[loadCells]using this
theorem ED(F:Fit E f):∀(vs:List YN)(i n:Nat),E.A n a.block->(∀ v∈vs,ah E n v)->aa E f n EQ (zwx a vs i) (zwx (rA f a) (vs.map (rV f)) i)
 |[],i,n,_,_=>by
  unfold zwx;exact aa.pure fun _ _=>rfl
 |v::vs,i,n,hA,hv=>by
  rw[Yi];unfold zwx;rw[ui];refine(aa.store F (a:=a.add i) (by rw[block_add];exact hA) (hv v sQ)).bind fun m _ _ hm _=>?_
  exact ED F vs (i+1) m (hA.mono hm) fun x hx=>aY hm x (hv x (by simp[hx]))
theorem EE(F:Fit E f)(hA:E.A n a.block)(t:YT):aa E f n (VQ E f) (loadVar t a) (loadVar t (rA f a)):=by
 unfold loadVar;refine aa.same (RN t) fun b=>?_
 refine aa.ite (fun _=>?_) fun _=>Io F hA
 refine aa.same (kJ t) fun k=>?_
 refine(Ip F hA k).bind fun m cs cs' hm hq=>?_
 obtain⟨rfl,eX⟩:=hq;exact aa.pure fun _ hk=>⟨by rw[rV],by rw[ah];exact eF eX hk⟩
theorem RU(F:Fit E f)(hA:E.A n a.block)(hv:ah E n v)(t:YT):aa E f n EQ (storeVar t a v) (storeVar t (rA f a) (rV f v)):=by
 unfold storeVar;refine aa.same (kJ t) fun k=>?_
 rw[Rp];dsimp only;refine aa.ite (fun _=>aa.iu) fun _=>?_
 have:=ED F (a:=a) v.cells.toList 0 n hA fun x hx=>Ie hv x (by simpa using hx)
 rw[Ep,zsV];exact this
def PQ(E:Env)(f:Nat->Nat)(m:Nat)(a a':YQ):Prop:=a'=rA f a/\E.A m a.block
theorem RV(h:bj E n cs)(t:YT):aa E f n (fun m a a'=>a'=rA f a/\E.I m a.block) (newRow t cs) (newRow t (cs.map (rV f))):=by
 unfold newRow;refine(aa.newObj (o:=.cells cs t) h).bind fun m r r' hm hq=>?_
 obtain⟨rfl,hI⟩:=hq;exact aa.pure fun _ hk=>⟨rfl,hI.mono hk⟩
theorem BV(h:ah E n v)(t:YT):aa E f n (fun m a a'=>a'=rA f a/\E.I m a.block) (newVar t v) (newVar t (rV f v)):=by
 unfold newVar;rw[Ep];exact RV (Ie h) t
theorem mem_extract{j:Nat}(h:x∈cs.extract i j):x∈cs:=by
 obtain⟨k,hk,rfl⟩:=zxQ.1 h;rw[Array.getElem_extract];exact zr2 _
theorem zP(h:bj E n cs)(t:YT)(k:Nat):aa E f n (VQ E f) (part t cs k) (part t (cs.map (rV f)) k):=by
 unfold part;refine aa.same (RN t) fun b=>?_
 refine aa.ite (fun _=>?_) fun _=>?_
 ·refine aa.same (kJ t) fun j=>?_
  refine aa.pure fun m hm=>⟨?_,?_⟩
  ·rw[rV,Array.map_extract]
  ·rw[ah];intro x hx;exact aY hm x (h x (mem_extract hx))
 ·rw[XZ];cases hx:cs[k]? with
  |none=>exact aa.stuck
  |some v=>exact aa.pure fun m hm=>⟨rfl,aY hm v (qC h hx)⟩
structure bD(E:Env):Prop where
 b:E.K E.P.rt.boundsError=true
 e:E.K E.P.rt.errorString=true
 p:E.K E.P.rt.plainError=true
 t:E.K E.P.rt.typeAssertionError=true
 n:E.K E.P.rt.panicNilError=true
 u:E.K E.P.rt.unhashableTypeError=true
 s:E.K E.P.rt.string=true
 g:E.R E.P.globals.size
theorem xR(F:Fit E f)(H:bD E)(t:YT)(m:Nat):VQ E f m (zs6 E.P t) (zs6 E.P t):=by
 refine⟨?_,?_⟩
 ·simp only[zs6,rV,Yy,rA];rw[F.low _ (F.ro _ H.g)]
 ·simp only[zs6,ah,ow];exact .inr (.inl H.g)
theorem Iq{α:Type}{Q:Nat->α->α->Prop}(H:bD E)(s:String):aa E f n Q (zzY s) (zzY s):=by
 unfold zzY;refine aa.program ?_;have:=aa.goPanic (E:=E) (f:=f) (n:=n) (Q:=Q) (v:=.iface E.P.rt.string (Z1 s)) (by simp only[ah,Z1];exact⟨H.s,trivial⟩);simpa only [rV,Z1]using this
theorem nC{α:Type}{Q:Nat->α->α->Prop}(F:Fit E f)(H:bD E)(e:RuntimeError):aa E f n Q (zs5 e) (zs5 e):=by
 have EF:∀{m:Nat}{v:YN},ah E m v->rV f v=v->aa E f m Q (goPanic v) (goPanic v):=fun {m v} h1 h2=>by
  have:=aa.goPanic (E:=E) (f:=f) (n:=m) (Q:=Q) h1;rwa [h2]at this
 unfold zs5;refine aa.program ?_;cases e with
 |bounds x y s c=>exact EF (by simp only[ah];exact⟨H.b,fun x hx=>by simp only[List.mem_toArray,List.mem_cons,List.not_mem_nil,or_false]at hx;rcases hx with rfl|rfl|rfl|rfl<;>simp[ah]⟩) (by simp[rV])
 |error m=>exact EF (by simp only[ah,Z1];exact⟨H.e,trivial⟩) (by simp[rV,Z1])
 |plain m=>exact EF (by simp only[ah,Z1];exact⟨H.p,trivial⟩) (by simp[rV,Z1])
 |nilDeref=>exact EF (by simp only[ah,Z1];exact⟨H.e,trivial⟩) (by simp[rV,Z1])
 |typeAssertion i c a s=>
  dsimp only;refine aa.same (LF _) fun t=>?_
  have key:∀ x y:YN,VQ E f n x x->VQ E f n y y->aa E f n (fun m a a'=>a'=rA f a/\E.I m a.block) (newVar t (.agg #[x,y,zs6 E.P a,Z1 s])) (newVar t (.agg #[x,y,zs6 E.P a,Z1 s])):=fun x y hx hy=>by
   have h3:=xR (f:=f) F H a n;have:=BV (E:=E) (f:=f) (n:=n) (v:=.agg #[x,y,zs6 E.P a,Z1 s]) (by
    rw[ah];intro z hz;simp only[Yn,Yl,Yo,YL]at hz;rcases hz with rfl|rfl|rfl|rfl
    ·exact hx.2
    ·exact hy.2
    ·exact h3.2
    ·simp[ah,Z1]) t
   rw[rV]at this;simp only[Yk,Yi,Yj,<-hx.1,<-hy.1]at this;have e3:rV f (zs6 E.P a)=zs6 E.P a:=h3.1.symm;have e4:rV f (Z1 s)=Z1 s:=by simp[rV,Z1]
   rw[e3,e4]at this;exact this
  have h0:VQ E f n (.pointer none) (.pointer none):=⟨by simp[rV],by simp[ah,ow]⟩;refine aa.bind (Q:=fun m a a'=>a'=rA f a/\E.I m a.block) ?_ fun m r r' hm hq=>?_
  ·cases i with
   |none=>
    cases c with
    |none=>exact key _ _ h0 h0
    |some c=>exact key _ _ h0 (xR F H c n)
   |some i=>
    cases c with
    |none=>exact key _ _ (xR F H i n) h0
    |some c=>exact key _ _ (xR F H i n) (xR F H c n)
  ·obtain⟨rfl,hI⟩:=hq;have:=aa.goPanic (E:=E) (f:=f) (n:=m) (Q:=Q) (v:=.iface E.P.rt.typeAssertionError (.pointer (some r))) (by simp only[ah,ow];exact⟨H.t,.inl hI⟩);simpa only [rV,Yy]using this
 |panicNil=>
  refine aa.same (LF _) fun t=>?_
  refine aa.bind (Q:=fun m a a'=>a'=rA f a/\E.I m a.block) ?_ fun m r r' hm hq=>?_
  ·have:=BV (E:=E) (f:=f) (n:=n) (v:=.agg #[]) (by rw[ah];intro x hx;simp at hx) t;simpa only [rV,Yk,Yj]using this
  ·obtain⟨rfl,hI⟩:=hq;have:=aa.goPanic (E:=E) (f:=f) (n:=m) (Q:=Q) (v:=.iface E.P.rt.panicNilError (.pointer (some r))) (by simp only[ah,ow];exact⟨H.n,.inl hI⟩);simpa only [rV,Yy]using this
 |unhashable t=>
  have h1:=xR (f:=f) F H t n;refine EF (by simp only[ah];exact⟨H.u,fun x hx=>by simp only[Yn,Yl,Yo,YL]at hx;subst hx;exact h1.2⟩) ?_;rw[rV,rV];simp only[Yk,Yi,Yj];rw[<-h1.1]
theorem EG{α:Type}{Q:Nat->α->α->Prop}(F:Fit E f)(H:bD E)(k:zty)(x y:Int)(c:BoundsCode):aa E f n Q (boundsPanic k x y c) (boundsPanic k x y c):=by
 unfold boundsPanic;dsimp only;split
 ·refine aa.bind (Q:=EQ) ?_ fun m a a' hm hq=>?_
  ·show aa E f n EQ (zwT _ >>= fun a=>YZ _) (zwT _ >>= fun a=>YZ _);refine(aa.choose _).bind fun m a a' hm hq=>?_
   cases hq;exact aa.pure fun _ _=>rfl
  ·cases hq;exact nC F H _
 ·exact aa.same (.pure _) fun _=>nC F H _
theorem Ir:aa E f n EQ (asIntOf v) (asIntOf (rV f v)):=by
 cases v with
 |int k x=>rw[rV];exact aa.pure fun _ _=>rfl
 |pointer a=>
  cases a with
  |none=>exact aa.stuck
  |some a=>exact aa.unsupported sQ
 |_=>exact aa.stuck
theorem BW:aa E f n EQ (asInt v) (asInt (rV f v)):=by
 unfold asInt;refine Ir.bind fun m a a' hm hq=>?_
 cases hq;exact aa.pure fun _ _=>rfl
theorem RX:aa E f n EQ (asBool v) (asBool (rV f v)):=by
 cases v with
 |bool b=>rw[rV];exact aa.pure fun _ _=>rfl
 |_=>exact aa.stuck
theorem zcF(h:ah E n v):aa E f n (AQ E f) (asAgg v) (asAgg (rV f v)):=by
 cases v with
 |agg cs=>
  rw[rV];rw[ah]at h;exact aa.pure fun _ hm=>⟨rfl,eF h hm⟩
 |_=>exact aa.stuck
theorem RY(F:Fit E f)(H:bD E)(h:ah E n v):aa E f n (PQ E f) (asAddr v) (asAddr (rV f v)):=by
 cases v with
 |pointer a=>
  rw[rV];rw[ah]at h;cases a with
  |none=>exact nC (Q:=PQ E f) F H .nilDeref
  |some a=>exact aa.pure fun _ hm=>⟨rfl,Env.A.mono h hm⟩
 |_=>exact aa.stuck
theorem EH(h:ah E n v):aa E f n (PQ E f) (zyL v) (zyL (rV f v)):=by
 cases v with
 |pointer a=>
  rw[rV];rw[ah]at h;cases a with
  |none=>exact aa.stuck
  |some a=>exact aa.pure fun _ hm=>⟨rfl,Env.A.mono h hm⟩
 |_=>exact aa.stuck
theorem LH(k:Nat):aa E f n EQ (zwo k) (zwo k):=by
 unfold zwo;exact aa.ite (fun _=>aa.mark trivial) fun _=>aa.pure fun _ _=>rfl
end
section
variable {E:Env}{f:Nat->Nat}{n:Nat}
theorem EI{z:YN}(h:qA z=true):z.cells.map (rV f)=z.cells/\bj E n z.cells:=by
 refine⟨?_,Ie (Eo h)⟩;rw[<-Ep,En h]
theorem LI{t:YT}(h:oB E.P t=true):aa E f n (VQ E f) (zeroValue t) (zeroValue t):=(BR h).mono lQ fun _ _ _ _ hq=>by
 obtain⟨rfl,hp⟩:=hq;exact⟨(En hp).symm,Eo hp⟩
theorem zcG{t:YT}(h:oB E.P t=true):aa E f n (VQ E f) (zys t true (.tuple #[])) (zys t true (.tuple #[])):=by
 unfold zys;refine(LI h).bind fun m v v' hm hq=>?_
 obtain⟨rfl,hv⟩:=hq;refine(BV hv t).bind fun k a a' hk hq=>?_
 obtain⟨rfl,hI⟩:=hq;exact aa.pure fun _ hj=>⟨by rw[rV];rfl,by rw[ah];exact .inl (hI.mono hj)⟩
theorem zcH{t:YT}(hv:ah E n v):aa E f n (VQ E f) (zyt t v) (zyt t (rV f v)):=by
 unfold zyt;refine(BV hv t).bind fun k a a' hk hq=>?_
 obtain⟨rfl,hI⟩:=hq;exact aa.pure fun _ hj=>⟨by rw[rV];rfl,by rw[ah];exact .inl (hI.mono hj)⟩
theorem RZ(f:Nat->Nat)(off:Nat):∀(l:List (YN×Nat))(cs:Array YN),(l.map fun p=>(rV f p.1,p.2)).foldl (fun cs p=>cs.setIfInBounds (off+p.2) p.1) (cs.map (rV f))=(l.foldl (fun cs p=>cs.setIfInBounds (off+p.2) p.1) cs).map (rV f)
 |[],cs=>rfl
 |p::l,cs=>by
  simp only[Yi,zw3];rw[<-zxP];exact RZ f off l _
theorem R4(off:Nat):∀(l:List (YN×Nat))(cs:Array YN),bj E n cs->(∀ p∈l,ah E n p.1)->bj E n (l.foldl (fun cs p=>cs.setIfInBounds (off+p.2) p.1) cs)/\(l.foldl (fun cs p=>cs.setIfInBounds (off+p.2) p.1) cs).size=cs.size
 |[],cs,h,_=>⟨h,rfl⟩
 |p::l,cs,h,hl=>by
  simp only[zw3];obtain⟨h1,h2⟩:=R4 off l (cs.setIfInBounds (off+p.2) p.1) (Ig h (hl p sQ) _) (fun q hq=>hl q (by simp[hq]));exact⟨h1,by rw[h2,ztv]⟩
theorem R5(f:Nat->Nat)(place:Nat->Option (Nat×Nat)):∀(l:List (Nat×YN))(cs:Array YN),zth place (cs.map (rV f)) (l.map fun p=>(p.1,rV f p.2))=(zth place cs l).map (Array.map (rV f))
 |[],cs=>rfl
 |(i,v)::l,cs=>by
  simp only[Yi,zth];cases place i with
  |none=>rfl
  |some p=>
   obtain⟨off,size⟩:=p;simp only[Rp,zt6];split
   ·rfl
   ·have e1:((rV f v).cells.zipIdx.foldl (fun cs p=>cs.setIfInBounds (off+p.2) p.1) (cs.map (rV f)))=(v.cells.zipIdx.foldl (fun cs p=>cs.setIfInBounds (off+p.2) p.1) cs).map (rV f):=by
     rw[Ep,<-zu8,<-zu8,zxT,zxT,zsV,<-RZ];congr 1
     rw[List.zipIdx_map];rfl
    have:=R5 f place l (v.cells.zipIdx.foldl (fun cs p=>cs.setIfInBounds (off+p.2) p.1) cs);rw[<-e1]at this;exact this
theorem R6(place:Nat->Option (Nat×Nat)):∀(l:List (Nat×YN))(cs ds:Array YN),bj E n cs->(∀ p∈l,ah E n p.2)->zth place cs l=some ds->bj E n ds
 |[],cs,ds,h,_,e=>by cases e;exact h
 |(i,v)::l,cs,ds,h,hl,e=>by
  unfold zth at e;split at e
  ·cases e
  ·rename_i off size _;split at e
   ·cases e
   ·refine R6 place l _ ds ?_ (fun p hp=>hl p (by simp[hp])) e;show bj E n (v.cells.zipIdx.foldl (fun cs p=>cs.setIfInBounds (off+p.2) p.1) cs);rw[<-zu8];refine(R4 off _ cs h fun p hp=>?_).1;rw[zxT]at hp;obtain⟨x,y⟩:=p;have:=List.fst_mem_of_mem_zipIdx hp;exact Ie (hl (i,v) sQ) x (by simpa using this)
def EJ(E:Env)(n:Nat)(ps:Array (Nat×YN)):Prop:=∀ p,p∈ps->ah E n p.2
theorem zcI{α β:Type}{g:α->Sem β}(h:∀ a,Calm E (g a))(l:Array α):Calm E (l.mapM g):=by
 have:∀ l:List α,Calm E (l.mapM g):=fun l=>by
  induction l with
  |nil=>exact .pure _
  |cons a l ih=>
   rw[List.mapM_cons];exact(h a).bind fun _=>ih.bind fun _=>.pure _
 rw[Array.mapM_eq_mapM_toList];exact(this l.toList).bind fun _=>.pure _
theorem LJ{place:Nat->Option (Nat×Nat)}(hc:bj E n cs)(hp:EJ E n ps){α:Type}{Q:Nat->α->α->Prop}{g g':Array YN->Sem α}(hg:∀ ds,bj E n ds->aa E f n Q (g ds) (g' (ds.map (rV f)))):
  aa E f n Q (match zth place cs ps.toList with|some ds=>g ds|_=>stuck s) (match zth place (cs.map (rV f)) (ps.map fun p=>(p.1,rV f p.2)).toList with|some ds=>g' ds|_=>stuck s):=by
 rw[zsV,R5];cases hf:zth place cs ps.toList with
 |none=>exact aa.stuck
 |some ds=>exact hg ds (R6 place _ cs ds hc (fun p nD=>hp p (by simpa using nD)) hf)
theorem zcJ{t:YT}(hz:oB E.P t=true)(hp:EJ E n ps):aa E f n (VQ E f) (zyu t ps) (zyu t (ps.map fun p=>(p.1,rV f p.2))):=by
 unfold zyu;refine(BR hz).bind fun m z z' hm hq=>?_
 obtain⟨rfl,bJ⟩:=hq;obtain⟨h1,h2⟩:=EI (E:=E) (f:=f) (n:=m) bJ;have nD:EJ E m ps:=fun p h=>aY hm _ (hp p h)
 refine aa.same (Ik t) fun d=>?_
 cases d with
 |struct Hv=>
  dsimp only;refine aa.same (zcI (fun a=>(kJ _).bind fun _=>.pure _) Hv) fun places=>?_
  have:=LJ (E:=E) (f:=f) (n:=m) (place:=(places[·]?)) (s:= "build: no such field, or a part of the wrong size") h2 nD (Q:=VQ E f) (g:=fun cells=>YZ (.agg cells)) (g':=fun cells=>YZ (.agg cells)) fun ds hd=>aa.pure fun k hk=>⟨by rw[rV],by rw[ah];exact eF hd hk⟩
  rw[h1]at this;exact this
 |array len elem=>
  dsimp only;refine aa.same (kJ elem) fun size=>?_
  have:=LJ (E:=E) (f:=f) (n:=m) (place:=fun i=>some (i*size,size)) (s:= "build: a part of the wrong size") h2 nD (Q:=VQ E f) (g:=fun cells=>YZ (.agg cells)) (g':=fun cells=>YZ (.agg cells)) fun ds hd=>aa.pure fun k hk=>⟨by rw[rV],by rw[ah];exact eF hd hk⟩
  rw[h1]at this;exact this
 |_=>exact aa.stuck
theorem R7(h1:zs.map (rV f)=zs)(h2:bj E n zs)(i:Nat):rV f zs[i]! = zs[i]!/\ah E n zs[i]!:=by
 rw[getElem!_def];cases hx:zs[i]? with
 |none=>
  show rV f (.bool false)=.bool false/\ah E n (.bool false);exact⟨by rw[rV],by simp[ah]⟩
 |some v=>
  refine⟨?_,qC h2 hx⟩;have:=YC (·[i]?) h1;simp only[XZ,hx,Yy,YA]at this;exact this
theorem LK(h1:zs.map (rV f)=zs)(h2:bj E n zs)(k:Nat)(g:Nat->Nat):((zsH k).map fun i=>zs[g i]!).map (rV f)=((zsH k).map fun i=>zs[g i]!)/\bj E n ((zsH k).map fun i=>zs[g i]!):=by
 constructor
 ·rw[Array.map_map];exact ztD fun i _=>(R7 (E:=E) (n:=n) h1 h2 (g i)).1
 ·intro x hx;obtain⟨i,_,rfl⟩:=ztu.1 hx;exact(R7 (f:=f) h1 h2 (g i)).2
theorem xS:bj E n #[]:=fun x hx=>by simp at hx
theorem Iu{t:YT}(h:bj E n cs){α:Type}{Q:Nat->α->α->Prop}{g g':YQ->Sem α}(hg:∀ m a,n<=m->E.I m a.block->aa E f m Q (g a) (g' (rA f a))):aa E f n Q (newRow t cs >>= g) (newRow t (cs.map (rV f)) >>= g'):=
 (RV h t).bind fun m a a' hm hq=>by
  obtain⟨rfl,hI⟩:=hq;exact hg m a hm hI
theorem zcK{t:YT}(hz:∀ e,E.P.underlying t=some (.slice e)->oB E.P e=true)(hp:EJ E n ps):aa E f n (VQ E f) (zyv t len ps) (zyv t len (ps.map fun p=>(p.1,rV f p.2))):=by
 unfold zyv;refine dT fun d hd=>?_
 cases d with
 |slice elem=>
  dsimp only;refine aa.same (kJ elem) fun size=>?_
  have fin:∀(m:Nat)(zero:Array YN),n<=m->zero.map (rV f)=zero->bj E m zero->aa E f m (VQ E f)
    (match zth (fun i=>some (i*size,size)) ((zsH (len*size)).map (fun x=>zero[x%zero.size]!)) ps.toList with|some cells=>newRow elem cells >>= fun a=>YZ (.slice (some a) len len)|_=>stuck "buildSlice: a part of the wrong size")
    (match zth (fun i=>some (i*size,size)) ((zsH (len*size)).map (fun x=>zero[x%zero.size]!)) (ps.map fun p=>(p.1,rV f p.2)).toList with|some cells=>newRow elem cells >>= fun a=>YZ (.slice (some a) len len)|_=>stuck "buildSlice: a part of the wrong size"):=fun m zero hm h1 h2=>by
   obtain⟨k1,k2⟩:=LK (E:=E) (f:=f) (n:=m) h1 h2 (len*size) (fun x=>x%zero.size);have:=LJ (E:=E) (f:=f) (n:=m) (place:=fun i=>some (i*size,size)) (s:= "buildSlice: a part of the wrong size") k2 (ps:=ps) (fun p h=>aY hm _ (hp p h)) (Q:=VQ E f) (g:=fun cells=>newRow elem cells >>= fun a=>YZ (.slice (some a) len len)) (g':=fun cells=>newRow elem cells >>= fun a=>YZ (.slice (some a) len len))
    fun ds hd=>Iu hd fun k a hk hI=>aa.pure fun j hj=>⟨by rw[rV];rfl,by rw[ah];exact .inl (hI.mono hj)⟩
   rw[k1]at this;exact this
  refine aa.ite (fun _=>aa.jR sQ) fun _=>?_
  refine aa.ite (fun _=>?_) fun _=>?_
  ·exact fin n #[] lQ sQ xS
  ·refine(BR (hz elem hd)).bind fun m z z' hm hq=>?_
   obtain⟨rfl,bJ⟩:=hq;obtain⟨h1,h2⟩:=EI (E:=E) (f:=f) (n:=m) bJ;exact fin m _ hm h1 h2
 |_=>exact aa.stuck
end
section
variable {E:Env}{f:Nat->Nat}{n:Nat}
theorem R8(w:YM):w.sys .env=(.strings w.os.env,w):=by
 unfold World.sys;rfl
theorem zcL{α:Type}{Q:Nat->α->α->Prop}{g g':SysRet->Sem α}(h:∀ x,aa E f n Q (g x) (g' x)):aa E f n Q (sys .env >>= g) (sys .env >>= g'):=by
 refine aa.bind (Q:=EQ) ?_ fun m a a' hm hq=>by
  cases hq;exact(h a).mono hm fun _ _ _ _ h=>h
 intro hl w hr hn bG;refine aa.good [] (a:=.strings E.os.env) (a':=.strings E.os.env) #[⟨.output,true,false⟩] lQ rfl ⟨hr,rfl,fun _ _ _=>rfl,rfl,rfl,rfl,fun e he=>?_⟩ (fun v es hv hl=>⟨es.push ⟨.output,true,false⟩,?_⟩) (fun es=>?_)
 ·simp only[Yn,Yl,Yo,YL]at he;subst he;exact .inr (.inr (.inr rfl))
 ·subst hv;have e:=hl.1;simp only[Go.sys,ztz,R8];rw[BS rfl,<-e]
 ·simp only[Go.sys,ztz,R8,bG,zu9]
theorem zcM(F:Fit E f)(H:bD E)(hv:ah E n v){Q:Nat->YN->YN->Prop}:aa E f n Q (zyG v) (zyG (rV f v)):=by
 cases v with
 |iface t x=>rw[rV];have:=aa.goPanic (E:=E) (f:=f) (n:=n) (Q:=Q) hv;rw[rV]at this;exact this
 |nilIface=>
  rw[rV];unfold zyG Instr.panicnil;dsimp only;refine aa.bind (Q:=EQ) ?_ fun m a a' hm hq=>?_
  ·refine zcL fun x=>?_
   cases x<;>first |exact aa.stuck|exact aa.program (aa.pure fun _ _=>rfl)
  ·cases hq;refine aa.ite (fun _=>?_) fun _=>nC F H _
   have:=aa.goPanic (E:=E) (f:=f) (n:=m) (Q:=Q) (v:=.nilIface) (by simp[ah]);rw[rV]at this;exact this
 |_=>exact aa.stuck
theorem zQ{α β:Type}(F:Fit E f)(H:bD E){e:RuntimeError}{Q:Nat->β->β->Prop}{g g':α->Sem β}:aa E f n Q (zs5 e >>= g) (zs5 e >>= g'):=(nC (Q:=fun _ _ _=>False) F H e).bind fun _ _ _ _ h=>h.elim
theorem zcN(F:Fit E f){t:YT}{a:YN}(ha:ah E n a):aa E f n (VQ E f) (zwW t a) (zwW t (rV f a)):=by
 unfold zwW;refine(EH ha).bind fun m p p' hm hq=>?_
 obtain⟨rfl,hA⟩:=hq;exact EE F hA t
theorem zcO(F:Fit E f){t:YT}{a:YN}(ha:ah E n a)(hv:ah E n v):aa E f n EQ (zyK t a v) (zyK t (rV f a) (rV f v)):=by
 unfold zyK;refine(EH ha).bind fun m p p' hm hq=>?_
 obtain⟨rfl,hA⟩:=hq;exact RU F hA (aY hm v hv) t
theorem qF{m:Nat}(h:E.A m a.block):VQ E f m (.pointer (some a)) (.pointer (some (rA f a))):=⟨by rw[rV];rfl,by rw[ah];exact h⟩
theorem cJ{m:Nat}(h:jA v=true):VQ E f m v v:=⟨(zG h).symm,uh h⟩
def LL(P:Y2)(s:YT)(k:Nat):Bool:=match P.underlying s with
 |some (.struct fs)=>match fs[k]? with
  |some fl=>match P.info? fl.type with
   |some i=>i.size != 0
   |none=>true
  |none=>true
 |_=>true
theorem zcP(_:Fit E f){s:YT}{a:YN}(ha:ah E n a)(hf:LL E.P s k=true):aa E f n (VQ E f) (zyA s a k) (zyA s (rV f a) k):=by
 unfold zyA;refine dT fun d hd=>?_
 cases d with
 |struct fs=>
  dsimp only;cases hk:fs[k]? with
  |none=>exact aa.stuck
  |some fl=>
   dsimp only;refine(EH ha).bind fun m p p' hm hq=>?_
   obtain⟨rfl,hA⟩:=hq;refine aa.bind (Q:=PQ E f) ?_ fun m p p' hm hq=>?_
   ·unfold fieldPlace;refine zcD fun i hi=>?_
    have aW:i.size≠0:=by
     unfold LL at hf;simp only[hd,hk,hi]at hf;simpa using hf
    rw[YG aW,YG aW];exact aa.pure fun _ hk=>⟨ui f p _,by rw[block_add];exact hA.mono hk⟩
   ·obtain⟨rfl,hA⟩:=hq;exact aa.pure fun _ hk=>qF (hA.mono hk)
 |_=>exact aa.stuck
theorem Iw(F:Fit E f)(H:bD E){y:Nat}{c:BoundsCode}:aa E f n EQ (zvT v y c) (zvT (rV f v) y c):=by
 unfold zvT;refine Ir.bind fun m p p' hm hq=>?_
 cases hq;obtain⟨k,i⟩:=p;exact aa.ite (fun _=>aa.pure fun _ _=>rfl) fun _=>EG F H _ _ _ _
theorem Iy(F:Fit E f)(H:bD E){b:Bool}{cap:Nat}{low max:Option YN}:aa E f n EQ (zyJ b len cap low vR max) (zyJ b len cap (low.map (rV f)) (vR.map (rV f)) (max.map (rV f))):=by
 have Q3:(max.map (rV f)).isSome=max.isSome:=zv9;have K3:∀(k m h:Nat),aa E f k EQ
   (match low with|some v=>(zvT v h (if max.isSome then .slice3C else .sliceB) >>= fun l=>YZ (l,h,m))|none=>(YZ 0 >>= fun l=>YZ (l,h,m)):Sem (Nat×Nat×Nat))
   (match low.map (rV f)with|some v=>(zvT v h (if(max.map (rV f)).isSome then .slice3C else .sliceB) >>= fun l=>YZ (l,h,m))|none=>(YZ 0 >>= fun l=>YZ (l,h,m)):Sem (Nat×Nat×Nat)):=fun k m h=>by
  rw[Q3];cases low with
  |none=>exact aa.pure fun _ _=>rfl
  |some v=>
   refine(Iw F H).bind fun _ _ _ _ hq=>?_
   cases hq;exact aa.pure fun _ _=>rfl
 unfold zyJ;dsimp only;cases max with
 |none=>
  cases vR with
  |none=>exact K3 n cap len
  |some v=>
   refine(Iw (c:=if b then .sliceAcap else .sliceAlen) F H).bind fun k _ _ _ hq=>?_
   cases hq;exact K3 k cap _
 |some x=>
  refine(Iw F H).bind fun k m _ _ hq=>?_
  cases hq;cases vR with
  |none=>exact aa.iu
  |some v=>
   refine(Iw F H).bind fun j _ _ _ hq=>?_
   cases hq;exact K3 j m _
theorem zR{m:Nat}{a:Option YQ}{l c:Nat}(h:ow E m a):VQ E f m (.slice a l c) (.slice (a.map (rA f)) l c):=⟨by rw[rV],by rw[ah];exact h⟩
theorem zcQ(F:Fit E f)(H:bD E){t:YT}{low max:Option YN}(hx:ah E n x):aa E f n (VQ E f) (zvS t x low vR max) (zvS t (rV f x) (low.map (rV f)) (vR.map (rV f)) (max.map (rV f))):=by
 unfold zvS;have Q3:(max.map (rV f)).isSome=max.isSome:=zv9;refine dT fun d hd=>?_
 cases d with
 |string=>
  cases x with
  |string s=>
   rw[rV];dsimp only;rw[Q3];refine aa.ite (fun _=>aa.iu) fun _=>?_
   refine(Iy (max:=none) F H).bind fun k p _ _ hq=>?_
   cases hq;obtain⟨l,h,m⟩:=p;exact aa.pure fun _ _=>cJ rfl
  |_=>exact aa.stuck
 |slice elem=>
  cases x with
  |slice a len cap=>
   rw[rV];rw[ah]at hx;dsimp only;refine(Iy F H).bind fun k p _ hk hq=>?_
   cases hq;obtain⟨l,h,m⟩:=p;dsimp only;refine aa.same (kJ elem) fun size=>?_
   have e:(if m=l then a.map (rA f)else(a.map (rA f)).map (·.add (l*size)))=(if m=l then a else a.map (·.add (l*size))).map (rA f):=by
    split
    ·rfl
    ·cases a with
     |none=>rfl
     |some a=>exact YC some (ui f a _)
   rw[e];refine aa.pure fun j hj=>zR ?_
   split
   ·exact zK hx (Yq hk hj)
   ·cases a with
    |none=>trivial
    |some a=>exact zK (a:=some (a.add (l*size))) (by show E.A _ _;rw[block_add];exact hx) (Yq hk hj)
  |_=>exact aa.stuck
 |pointer arr=>
  dsimp only;refine(RY F H hx).bind fun k a a' hk hq=>?_
  obtain⟨rfl,hA⟩:=hq;refine dT fun d2 R9=>?_
  cases d2 with
  |array len elem=>
   dsimp only;refine(Iy F H).bind fun j p _ hj hq=>?_
   cases hq;obtain⟨l,h,m⟩:=p;dsimp only;refine aa.same (kJ elem) fun size=>?_
   have e:(if m=l then rA f a else(rA f a).add (l*size))=rA f (if m=l then a else a.add (l*size)):=by
    split
    ·rfl
    ·exact ui f a _
   rw[e];refine aa.pure fun i hi=>zR (a:=some _) ?_
   show E.A i _;split
   ·exact hA.mono (Yq hj hi)
   ·rw[block_add];exact hA.mono (Yq hj hi)
  |_=>exact aa.stuck
 |_=>exact aa.stuck
theorem zcR(F:Fit E f)(H:bD E){t:YT}{low max:Option YN}(hx:ah E n x):aa E f n (VQ E f) (zyI t x low vR max) (zyI t (rV f x) (low.map (rV f)) (vR.map (rV f)) (max.map (rV f))):=by
 unfold zyI;refine dT fun d hd=>?_
 cases d with
 |array len elem=>
  dsimp only;refine(EH hx).bind fun k a a' hk hq=>?_
  obtain⟨rfl,hA⟩:=hq;refine(Iy F H).bind fun j p _ hj hq=>?_
  cases hq;obtain⟨l,h,m⟩:=p;dsimp only;refine aa.same (kJ elem) fun size=>?_
  have e:(if m=l then rA f a else(rA f a).add (l*size))=rA f (if m=l then a else a.add (l*size)):=by
   split
   ·rfl
   ·exact ui f a _
  rw[e];refine aa.pure fun i hi=>zR (a:=some _) ?_
  show E.A i _;split
  ·exact hA.mono (Yq hj hi)
  ·rw[block_add];exact hA.mono (Yq hj hi)
 |_=>exact zcQ F H hx
theorem zcS(F:Fit E f)(H:bD E){t:YT}(hx:ah E n x):aa E f n (VQ E f) (zvQ t x ix) (zvQ t (rV f x) (rV f ix)):=by
 unfold zvQ;refine Ir.bind fun k p _ hk hq=>?_
 cases hq;obtain⟨kd,i⟩:=p;dsimp only;have fin:∀(m:Nat)(base:Option YQ)(len:Nat)(elem:YT),n<=m->ow E m base->aa E f m (VQ E f)
   (underlying t >>= fun d=>(match base with
    |some a=>if 0<=i/\i<len then(sizeOf elem >>= fun z=>YZ (.pointer (some (a.add (i.toNat*z)))))else if(decide (len<=1)&&(match d with|.array ..=>true|_=>false))=true then unsupported (.noEntry "op/indexAddr.an index out of range at an array of length 0 or 1 (ledger 616)")else boundsPanic kd i len .index
    |none=>boundsPanic kd i 0 .index))
   (underlying t >>= fun d=>(match base.map (rA f)with
    |some a=>if 0<=i/\i<len then(sizeOf elem >>= fun z=>YZ (.pointer (some (a.add (i.toNat*z)))))else if(decide (len<=1)&&(match d with|.array ..=>true|_=>false))=true then unsupported (.noEntry "op/indexAddr.an index out of range at an array of length 0 or 1 (ledger 616)")else boundsPanic kd i len .index
    |none=>boundsPanic kd i 0 .index)):=fun m base len elem hm hb=>by
  refine aa.same (Ik t) fun d=>?_
  cases base with
  |none=>exact EG F H _ _ _ _
  |some a=>
   dsimp only[Option.map_some];refine aa.ite (fun _=>?_) fun _=>aa.ite (fun _=>aa.unsupported sQ) fun _=>EG F H _ _ _ _
   refine aa.same (kJ elem) fun z=>?_
   rw[ui];exact aa.pure fun j hj=>qF (by rw[block_add];exact Env.A.mono hb hj)
 refine dT fun d hd=>?_
 cases d with
 |array len elem=>
  dsimp only;refine(EH (aY hk x hx)).bind fun m a a' hm hq=>?_
  obtain⟨rfl,hA⟩:=hq;exact fin m (some a) len elem (Yq hk hm) hA
 |slice elem=>
  cases x with
  |slice base len cap=>
   rw[rV];rw[ah]at hx;exact fin k base len elem hk (zK hx hk)
  |_=>exact aa.iu
 |_=>exact aa.iu
theorem zcT(F:Fit E f)(H:bD E){t:YT}(hx:ah E n x):aa E f n (VQ E f) (ztb t x ix) (ztb t (rV f x) (rV f ix)):=by
 unfold ztb;refine Ir.bind fun k p _ hk hq=>?_
 cases hq;obtain⟨kd,i⟩:=p;dsimp only;refine dT fun d hd=>?_
 cases d with
 |array len elem=>
  cases x with
  |agg cs=>
   rw[rV];rw[ah]at hx;dsimp only;refine aa.ite (fun _=>?_) fun _=>EG F H _ _ _ _
   refine aa.same (kJ elem) fun z=>?_
   exact zP (eF hx hk) elem _
  |_=>exact aa.stuck
 |string=>
  cases x with
  |string s=>
   rw[rV];dsimp only;split
   ·exact aa.pure fun _ _=>cJ rfl
   ·exact EG F H _ _ _ _
  |_=>exact aa.stuck
 |_=>exact aa.stuck
theorem zcU{t:YT}(hx:ah E n x):aa E f n (VQ E f) (zyz t x k) (zyz t (rV f x) k):=by
 unfold zyz;refine dT fun d hd=>?_
 cases d with
 |struct fs=>
  dsimp only;cases fs[k]? with
  |none=>exact aa.stuck
  |some fl=>
   dsimp only;refine(zcF hx).bind fun m cs cs' hm hq=>?_
   obtain⟨rfl,eX⟩:=hq;exact zP eX _ _
 |_=>exact aa.stuck
theorem zcV(hx:ah E n x):aa E f n (VQ E f) (zyy x k) (zyy (rV f x) k):=by
 cases x with
 |tuple vs=>
  rw[rV];rw[ah]at hx;unfold zyy;dsimp only;rw[XZ];cases hk:vs[k]? with
  |none=>exact aa.stuck
  |some v=>exact aa.pure fun _ hm=>⟨rfl,aY hm v (qC hx hk)⟩
 |_=>exact aa.stuck
theorem zcW{t:YT}(hx:ah E n x)(hk:E.K t=true):aa E f n (VQ E f) (zyE t x) (zyE t (rV f x)):=by
 unfold zyE;refine dT fun d hd=>?_
 have:aa E f n (VQ E f) (YZ (.iface t x)) (YZ (.iface t (rV f x))):=aa.pure fun _ hm=>⟨by rw[rV],by rw[ah];exact⟨hk,aY hm x hx⟩⟩
 cases d<;>first |exact this|exact aa.stuck
theorem zcX{t:YT}{r:Option YN}:aa E f n (VQ E f) (zwX t r) (zwX t (r.map (rV f))):=by
 have fin:∀ m,aa E f m (VQ E f) (newObj (.map #[] 0) >>= fun r=>YZ (.map (some r))) (newObj (.map #[] 0) >>= fun r=>YZ (.map (some r))):=fun m=>by
  have:=aa.newObj (E:=E) (f:=f) (n:=m) (o:=.map #[] 0) (fun e he=>by simp at he);have e0:rO f (.map #[] 0)=.map #[] 0:=by simp[rO]
  rw[e0]at this;refine this.bind fun k r r' hk hq=>?_
  obtain⟨rfl,hI⟩:=hq;exact aa.pure fun j hj=>⟨by rw[rV];rfl,by rw[ah];intro k hk;cases hk;exact hI.mono hj⟩
 unfold zwX;cases r with
 |none=>exact fin n
 |some v=>
  dsimp only[Option.map_some];refine dT fun d hd=>?_
  cases d with
  |map _ _=>
   dsimp only;refine BW.bind fun k _ _ _ _=>fin k
  |_=>exact aa.iu
theorem zcY(F:Fit E f)(H:bD E){t:YT}{l c:YN}(hz:∀ e,E.P.underlying t=some (.slice e)->oB E.P e=true):aa E f n (VQ E f) (zwY t l c) (zwY t (rV f l) (rV f c)):=by
 unfold zwY;refine dT fun d hd=>?_
 cases d with
 |slice elem=>
  dsimp only;refine BW.bind fun k len _ _ hq=>?_
  cases hq;refine BW.bind fun k2 cap _ _ hq=>?_
  cases hq;refine aa.same (sg elem) fun zw=>?_
  have fin:∀ m,aa E f m (VQ E f)
    (zwo ((IntKind.i64.wrap cap).toNat*zw.bytes) >>= fun _=>sizeOf elem >>= fun z=>if(IntKind.i64.wrap cap).toNat*z=0 then(YZ #[] >>= fun zero:Array YN=>newRow elem ((zsH ((IntKind.i64.wrap cap).toNat*z)).map (fun x=>zero[x%zero.size]!)) >>= fun a=>YZ (.slice (some a) (IntKind.i64.wrap len).toNat (IntKind.i64.wrap cap).toNat))else(zeroValue elem >>= fun v=>YZ v.cells >>= fun zero:Array YN=>newRow elem ((zsH ((IntKind.i64.wrap cap).toNat*z)).map (fun x=>zero[x%zero.size]!)) >>= fun a=>YZ (.slice (some a) (IntKind.i64.wrap len).toNat (IntKind.i64.wrap cap).toNat)))
    (zwo ((IntKind.i64.wrap cap).toNat*zw.bytes) >>= fun _=>sizeOf elem >>= fun z=>if(IntKind.i64.wrap cap).toNat*z=0 then(YZ #[] >>= fun zero:Array YN=>newRow elem ((zsH ((IntKind.i64.wrap cap).toNat*z)).map (fun x=>zero[x%zero.size]!)) >>= fun a=>YZ (.slice (some a) (IntKind.i64.wrap len).toNat (IntKind.i64.wrap cap).toNat))else(zeroValue elem >>= fun v=>YZ v.cells >>= fun zero:Array YN=>newRow elem ((zsH ((IntKind.i64.wrap cap).toNat*z)).map (fun x=>zero[x%zero.size]!)) >>= fun a=>YZ (.slice (some a) (IntKind.i64.wrap len).toNat (IntKind.i64.wrap cap).toNat))):=fun m=>by
   refine(LH _).bind fun m2 _ _ _ _=>?_
   refine aa.same (kJ elem) fun z=>?_
   have lq:∀(j:Nat)(zero:Array YN),zero.map (rV f)=zero->bj E j zero->aa E f j (VQ E f) (newRow elem ((zsH ((IntKind.i64.wrap cap).toNat*z)).map (fun x=>zero[x%zero.size]!)) >>= fun a=>YZ (.slice (some a) (IntKind.i64.wrap len).toNat (IntKind.i64.wrap cap).toNat)) (newRow elem ((zsH ((IntKind.i64.wrap cap).toNat*z)).map (fun x=>zero[x%zero.size]!)) >>= fun a=>YZ (.slice (some a) (IntKind.i64.wrap len).toNat (IntKind.i64.wrap cap).toNat)):=fun j zero h1 h2=>by
    obtain⟨k1,k2⟩:=LK (E:=E) (f:=f) (n:=j) h1 h2 ((IntKind.i64.wrap cap).toNat*z) (fun x=>x%zero.size);have:=Iu (E:=E) (f:=f) (n:=j) (t:=elem) k2 (Q:=VQ E f) (g:=fun a=>YZ (.slice (some a) (IntKind.i64.wrap len).toNat (IntKind.i64.wrap cap).toNat)) (g':=fun a=>YZ (.slice (some a) (IntKind.i64.wrap len).toNat (IntKind.i64.wrap cap).toNat)) fun k a hk hI=>aa.pure fun i hi=>zR (a:=some a) (.inl (hI.mono hi))
    rw[k1]at this;exact this
   refine aa.ite (fun _=>lq m2 #[] sQ xS) fun _=>?_
   refine(BR (hz elem hd)).bind fun j v v' hj hq=>?_
   obtain⟨rfl,bJ⟩:=hq;obtain⟨h1,h2⟩:=EI (E:=E) (f:=f) (n:=j) bJ;exact lq j _ h1 h2
  refine aa.ite (fun _=>aa.ite (fun _=>zQ F H) fun _=>aa.ite (fun _=>zQ F H) fun _=>?_) fun _=>fin k2
  refine(aa.choose _).bind fun m x _ _ hq=>?_
  cases hq;exact zQ F H
 |_=>exact aa.stuck
theorem zcZ(F:Fit E f)(H:bD E){xt as:YT}{ok:Bool}(hx:ah E n x)(hz:oB E.P as=true):aa E f n (VQ E f) (zuv x xt as ok) (zuv (rV f x) xt as ok):=by
 unfold zuv;have holds:∀ v,ah E n v->aa E f n (VQ E f) (YZ (if ok then .tuple #[v,.bool true]else v)) (YZ (if ok then .tuple #[rV f v,.bool true]else rV f v)):=fun v hv=>by
  refine aa.pure fun m hm=>?_
  cases ok with
  |false=>exact⟨rfl,aY hm v hv⟩
  |true=>
   refine⟨by simp[rV],?_⟩;simp only[YI,ah];intro y hy;simp only[Yn,Yl,Yo,YL]at hy;rcases hy with rfl|rfl
   ·exact aY hm _ hv
   ·simp[ah]
 have Q4:∀(a b:Option YT)(s:String),aa E f n (VQ E f) (if ok then(zeroValue as >>= fun z=>YZ (.tuple #[z,.bool false]))else zs5 (.typeAssertion a b as s)) (if ok then(zeroValue as >>= fun z=>YZ (.tuple #[z,.bool false]))else zs5 (.typeAssertion a b as s)):=fun a b s=>by
  refine aa.ite (fun _=>?_) fun _=>nC F H _
  refine(LI hz).bind fun m z z' hm hq=>?_
  obtain⟨e,hz⟩:=hq;refine aa.pure fun k hk=>⟨by simp[rV,e],?_⟩
  rw[ah];intro y hy;simp only[Yn,Yl,Yo,YL]at hy;rcases hy with rfl|rfl
  ·exact aY hk _ hz
  ·simp[ah]
 refine dT fun d hd=>?_
 cases x with
 |nilIface=>
  rw[rV];cases d<;>exact Q4 _ _ _
 |iface t v=>
  have uj:=hx;rw[ah]at uj;have h1:=holds _ hx;rw[rV]at h1⊢;cases d with
  |interface zb3=>
   dsimp only;refine Ez fun i hi=>?_
   cases Instr.missingMethod zb3 i.methods with
   |none=>exact h1
   |some m=>exact Q4 _ _ _
  |_=>exact aa.ite (fun _=>holds v uj.2) fun _=>Q4 _ _ _
 |_=>cases d<;>exact aa.stuck
theorem zc0{t:YT}(hx:ah E n x):aa E f n (VQ E f) (zyH t x) (zyH t (rV f x)):=by
 unfold zyH;have fin:∀ m o,qB E m o->aa E f m (VQ E f) (newObj o >>= fun r=>YZ (pQ r)) (newObj (rO f o) >>= fun r=>YZ (pQ r)):=fun m o ho=>by
  refine(aa.newObj ho).bind fun k r r' hk hq=>?_
  obtain⟨rfl,hI⟩:=hq;exact aa.pure fun j hj=>qF (a:=(aQ r 0)) (.inl (hI.mono hj))
 refine dT fun d hd=>?_
 cases d with
 |string=>
  cases x with
  |string s=>rw[rV];exact fin n (.stringIter s 0) trivial
  |_=>exact aa.iu
 |map k e=>
  cases x with
  |map r=>
   rw[rV];rw[ah]at hx;cases r with
   |none=>exact fin n (.mapIter none 0 #[] 0) (fun k hk=>by cases hk)
   |some m=>
    dsimp only[Option.map_some];refine aa.getObj (.inl (hx m rfl)) (fun j o hj hI ho=>?_) (fun hO c e t=>aa.iu);cases o with
    |map es BG=>exact fin j (.mapIter (some m) BG #[] BG) (fun k hk=>by cases hk;exact hI)
    |_=>first |exact aa.iu|exact ho.elim
  |_=>exact aa.iu
 |_=>exact aa.iu
theorem zc1(F:Fit E f){t:YT}(hx:ah E n x):aa E f n (VQ E f) (zyF x true t) (zyF (rV f x) true t):=by
 unfold zyF;cases x with
 |pointer a=>
  rw[rV];rw[ah]at hx;cases a with
  |none=>exact aa.stuck
  |some a=>
   obtain⟨r,off,spot⟩:=a;cases off with
   |succ k=>exact aa.stuck
   |zero=>
    dsimp only[Option.map_some,rA];refine aa.getObj hx (fun j o hj hI ho=>?_) (fun hO c e t=>aa.stuck);cases o with
    |stringIter s pos=>
     dsimp only[rO];refine aa.ite (fun _=>?_) fun _=>aa.pure fun _ _=>⟨by simp[rV],by simp[ah]⟩
     refine(aa.setObj F (o:=.stringIter s (pos+(Utf8.decode s pos).2)) hI trivial).bind fun _ _ _ _ _=>?_
     exact aa.pure fun _ _=>⟨by simp[rV,goInt],by simp[ah,goInt]⟩
    |mapIter m _ _ _=>cases m<;>exact aa.stuck
    |_=>first |exact aa.stuck|exact ho.elim
 |_=>exact aa.stuck
end
section
variable {E:Env}{f:Nat->Nat}{n:Nat}
def Sa(E:Env)(f:Nat->Nat)(m:Nat)(x x':Option (YQ×Bool)):Prop:=x'=x.map (fun p=>(rA f p.1,p.2))/\∀ a t,x=some (a,t)->E.A m a.block
theorem Sb(F:Fit E f)(hA:E.A n r):aa E f n (Sa E f) (zuZ r) (zuZ (f r)):=by
 have xQ:E.I n r\/E.R r->aa E f n (Sa E f) (zuZ r) (zuZ (f r)):=fun h=>by
  unfold zuZ;refine(EA F h).bind fun m s s' hm hq=>?_
  cases hq;refine aa.ite (fun _=>aa.pure fun _ _=>⟨rfl,fun _ _ e=>by cases e⟩) fun _=>?_
  refine aa.getObj (hA.mono hm) (fun k o hk hI ho=>?_) (fun hO=>absurd hO (Il F h));cases o with
  |number a t=>
   refine aa.pure fun _ hk=>⟨rfl,fun _ _ e=>?_⟩
   cases e;exact Env.A.mono ho hk
  |_=>exact aa.pure fun _ hk=>⟨rfl,fun _ _ e=>by cases e⟩
 rcases hA with hA|hA|hA
 ·exact xQ (.inl hA)
 ·exact xQ (.inr hA)
 ·intro hl w hr hn bG;obtain⟨c,e,c',h1,h2,h3,h4⟩:=hr.op r hA;refine aa.good [] (a:=none) (a':=none) #[] lQ ⟨rfl,fun _ _ e=>by cases e⟩ (.refl hr) (fun v es hv _=>⟨es.push ⟨.obj r,false,false⟩,?_⟩) (fun es=>?_)
  ·subst hv;rw[BS rfl];unfold zuZ;rw[ey,sf,EC h1];simp only[zxk,X8,YF];rw[ey,BO E.P h1 rfl];rfl
  ·unfold zuZ;rw[ey,sf,F.low _ (F.op _ hA),BU h2,XV];rfl
theorem BX(F:Fit E f)(hA:E.A n a.block):aa E f n (fun m x x'=>x'=(rA f x.1,x.2)/\E.A m x.1.block) (ztX a) (ztX (rA f a)):=by
 unfold ztX;refine(Sb F hA).bind fun m x x' hm hq=>?_
 obtain⟨rfl,hx⟩:=hq;refine aa.pure fun k hk=>?_
 cases x with
 |none=>exact⟨rfl,hA.mono (Yq hm hk)⟩
 |some p=>exact⟨rfl,(hx p.1 p.2 rfl).mono hk⟩
theorem EK(F:Fit E f)(hA:E.A n a.block):aa E f n EQ (byteOf a) (byteOf (rA f a)):=by
 unfold byteOf;show aa E f n EQ (match a.spot with|some s=>_|_=>_) (match a.spot with|some s=>_|_=>_);cases a.spot with
 |some s=>exact aa.pure fun _ _=>rfl
 |none=>
  dsimp only;refine aa.program ?_;refine(LG F hA).bind fun m _ _ hm _=>?_
  refine(aa.shape F (hA.mono hm)).bind fun k s s' hk hq=>?_
  rcases hq with rfl|⟨_,rfl,_⟩
  ·cases s' with
   |none=>exact aa.stuck
   |some p=>
    obtain⟨e,c⟩:=p;dsimp only;refine aa.ite (fun _=>aa.pure fun _ _=>rfl) fun _=>?_
    show aa E f k EQ (match byteOfCell E.P E.P.depth e (a.off%E.P.cellsOf e)with|some b=>_|_=>_) (match byteOfCell E.P E.P.depth e (a.off%E.P.cellsOf e)with|some b=>_|_=>_);cases byteOfCell E.P E.P.depth e (a.off%E.P.cellsOf e)with
    |none=>exact aa.stuck
    |some b=>exact aa.pure fun _ _=>rfl
  ·exact aa.stuck
theorem Iz(P:Y2)(a:YQ)(w:YM)(es:Array YX):(zyo a).runT P w es=(.ok (w.frozen? a) w,es):=rfl
theorem IA(h:w.1[a.block]?=some o)(hc:isRow o=false):w.frozen? a=false:=by
 cases o<;>first |(cases hc;done)|simp only[zwj,h]
def LM(E:Env)(r:Nat)(_:Nat)(b b':Bool):Prop:=b'=b\/(E.R r/\b'=false)
theorem LN(F:Fit E f)(hA:E.A n a.block):aa E f n (LM E a.block) (frozen a) (frozen (rA f a)):=by
 intro hl w hr hn bG;have key:∀ b b',LM E a.block 0 b b'->(∀ v:YM,v.1=hl->v.frozen? a=b)->w.frozen? (rA f a)=b'->∃(l:List Nat)(x:Option (Except YN Bool))(hl':Array Y0),Alone E (zyo a) hl l x hl'/\hl.size<=hl'.size/\
   (x≠none->∃(w':YM)(cD:Array YX),Left E f hl hl' w w' cD/\∀ es,∃ y,(zyo (rA f a)).runT E.P w es=(y,es++cD)/\xP E f hl'.size (LM E a.block) w' x y):=fun s s' hq h1 h2=>by
  refine aa.good [] (a:=s) (a':=s') #[] lQ hq (.refl hr) (fun v es hv _=>⟨es,?_⟩) (fun es=>?_)
  ·rw[Iz,h1 v hv];subst hv;rfl
  ·rw[Iz,h2,XV]
 rcases hA with hA|hA|hA
 ·have hI:=hA.mono hn;have aj:=hI.2;have bn:=XW aj;obtain⟨h1,h2⟩:=hr.own a.block hl[a.block] hI.1 bn;generalize ho:hl[a.block]=o at h1 h2 bn;have iH:w.1[(rA f a).block]?=some (rO f o):=h2;cases hc:isRow o with
  |false=>exact key false false (.inl rfl) (fun v hv=>by subst hv;exact IA bn hc) (IA iH (by rw[Ij];exact hc))
  |true=>
   cases o<;>first |(cases hc;done)|skip
   rename_i c t z;exact key _ _ (.inl rfl) (fun v hv=>by subst hv;exact nB bn) (nB (a:=rA f a) iH)
 ·obtain⟨c,t,h1,h2,_⟩:=hr.ro a.block hA;have nz:(rA f a).block=a.block:=F.low _ (F.ro _ hA);exact key _ false (.inr ⟨hA,rfl⟩) (fun v hv=>by subst hv;exact nB h1) (by rw[nB (a:=rA f a) (by rw[nz];exact h2)];simp)
 ·obtain⟨c,e,c',h1,h2,_⟩:=hr.op a.block hA;have nz:(rA f a).block=a.block:=F.low _ (F.op _ hA);exact key false false (.inl rfl) (fun v hv=>by subst hv;exact IA h1 rfl) (by rw[nB (a:=rA f a) (by rw[nz];exact h2)];simp)
theorem zc2{α:Type}{Q:Nat->α->α->Prop}{t:Sem α}{g:Nat->Sem α}(h:aa E f n Q (g 0) t):aa E f n Q (choose (.extern s 2) >>= g) t:=by
 intro hl w hr hn bG;obtain⟨l,r,hl',ha,hs,hc⟩:=h hl w hr hn bG;refine⟨0::l,r,hl',fun v es hv rZ=>?_,hs,hc⟩;have h1:Listed E ([0]++l) v:=rZ;have ht:v.tape v.drawn (.extern s 2)=0:=by
  have:=rZ.2 0 (.extern s 2) sQ;simpa using this
 obtain⟨x,cD,hx,dW⟩:=ha {v with drawn:=v.drawn+1} es hv (h1.right rfl rfl rfl);refine⟨x,cD,?_,?_⟩
 ·rw[ey,Ex];have hfc:(Question.extern s 2).forced=false:=rfl;rw[hfc,ht];exact hx
 ·have e:({v with heap:=hl',drawn:=v.drawn+(0::l).length}:YM) ={({v with drawn:=v.drawn+1}:YM)with heap:=hl',drawn:=v.drawn+1+l.length}:=by
   simp only[Yg];congr 1
   omega
  rw[e];exact dW
theorem Env.I.noR(F:Fit E f)(h:E.I n r):¬E.R r:=fun hR=>by
 have:=F.ro _ hR;have:=h.1;omega
def LO(_:Nat)(b b':Bool):Prop:=b'=true->b=true
theorem Sd(F:Fit E f)(hA:E.I n a.block):aa E f n EQ (frozen a) (frozen (rA f a)):=(LN F (.inl hA)).mono lQ fun _ _ _ _ hq=>by
 rcases hq with hq|⟨hR,_⟩
 ·exact hq
 ·exact absurd hR (hA.noR F)
theorem zc3(F:Fit E f)(hA:E.I n a.block):aa E f n EQ (zu3 a) (zu3 (rA f a)):=by
 unfold zu3;refine(Sd F hA).bind fun m b b' hm hq=>?_
 cases hq;refine aa.ite (fun _=>aa.pure fun _ _=>rfl) fun _=>?_
 refine(EA F (r:=a.block) (.inl (hA.mono hm))).bind fun k s s' hk hq=>?_
 cases hq;cases s with
 |none=>exact aa.pure fun _ _=>rfl
 |some p=>exact Sd F (a:={block:=a.block,off:=p.2}) (hA.mono (Yq hm hk))
theorem IB(P:Y2)(a:YQ)(w:YM)(es:Array YX):(zu3 a).runT P w es=(.ok (if w.frozen? a then true else match w.shape? a.block with|some (_,k)=>w.frozen? {block:=a.block,off:=k}|none=>false) w,es):=by
 unfold zu3;rw[ey,Iz];dsimp only;cases w.frozen? a with
 |true=>rfl
 |false=>
  simp only[X8,YF];rw[ey,sf];dsimp only;cases w.shape? a.block with
  |none=>rfl
  |some p=>rfl
theorem Si(F:Fit E f)(hA:E.A n a.block):aa E f n LO (zu3 a) (zu3 (rA f a)):=by
 rcases hA with hA|hA|hA
 ·exact(zc3 F hA).mono lQ fun _ _ _ _ hq=>by cases hq;exact fun h=>h
 ·intro hl w hr hn bG;obtain⟨c,t,h1,h2,_⟩:=hr.ro a.block hA;have nz:(rA f a).block=a.block:=F.low _ (F.ro _ hA);have iH:w.1[(rA f a).block]?=some (.cells c t (0,0)):=by rw[nz];exact h2
  refine aa.good [] (a:=if(decide (0<=a.off)&&decide (a.off<c.size))then true else(decide (0<=c.size)&&decide (c.size<c.size))) (a':=false) #[] lQ (fun h=>by cases h) (.refl hr) (fun v es hv _=>⟨es,?_⟩) (fun es=>?_)
  ·subst hv;rw[BS rfl,IB,nB h1,BU h1];simp only[nB (a:={block:=a.block,off:=c.size}) h1]
  ·rw[IB,nB iH,BU iH];simp only[nB (a:={block:=(rA f a).block,off:=c.size}) iH,XV];simp
 ·intro hl w hr hn bG;obtain⟨c,e,c',h1,h2,_⟩:=hr.op a.block hA;have nz:(rA f a).block=a.block:=F.low _ (F.op _ hA);have iH:w.1[(rA f a).block]?=some (.cells c' e (0,0)):=by rw[nz];exact h2
  refine aa.good [] (a:=false) (a':=false) #[] lQ (fun h=>h) (.refl hr) (fun v es hv _=>⟨es,?_⟩) (fun es=>?_)
  ·subst hv;rw[BS rfl,IB,IA h1 rfl,EC h1];rfl
  ·rw[IB,nB iH,BU iH];simp only[nB (a:={block:=(rA f a).block,off:=c'.size}) iH,XV];simp
theorem Sj(F:Fit E f)(hA:E.A n a.block):aa E f n EQ (do pure ((<-shape a.block) matches some (_,0)):Sem Bool) (do pure ((<-shape (rA f a).block) matches some (_,0)):Sem Bool):=by
 refine(aa.shape F hA).bind fun m s s' hm hq=>?_
 refine aa.pure fun _ _=>?_
 rcases hq with rfl|⟨_,rfl,e,k,hk,rfl⟩
 ·rfl
 ·cases k with
  |zero=>omega
  |succ k=>rfl
theorem zc4(F:Fit E f){b:YQ}(ha:E.A n a.block)(hb:E.A n b.block):aa E f n LO (zwq a b) (zwq (rA f a) (rA f b)):=by
 unfold zwq;refine(Si F ha).bind fun m sa sa' hm h1=>?_
 refine(Si F (hb.mono hm)).bind fun k sb sb' hk h2=>?_
 dsimp only;refine(Sj F (ha.mono (Yq hm hk))).bind fun j x x' hj hq=>?_
 cases hq;refine(Sj F (hb.mono (Yq (Yq hm hk) hj))).bind fun i y y' hi hq=>?_
 cases hq;refine aa.pure fun _ _ h=>?_
 unfold LO at h1 h2;cases sa<;>cases sa'<;>cases sb<;>cases sb'<;>simp_all
theorem IC(F:Fit E f)(a b:YQ):(rA f a==rA f b)=(a==b):=by
 cases h:(a==b)with
 |true=>rw[eq_of_beq h];simp
 |false=>
  cases h':(rA f a==rA f b)with
  |false=>rfl
  |true=>
   have:=zch F.inj (eq_of_beq h');rw[this]at h;simp at h
theorem LP(F:Fit E f)(a b:YQ):((rA f a).block==(rA f b).block)=(a.block==b.block):=by
 cases h:(a.block==b.block)with
 |true=>exact YB.2 (YC f (eq_of_beq h))
 |false=>
  cases h':((rA f a).block==(rA f b).block)with
  |false=>rfl
  |true=>
   have:=F.inj _ _ (eq_of_beq h');rw[this]at h;simp at h
theorem Sk(F:Fit E f){b:YQ}(ha:E.A n a.block)(hb:E.A n b.block):aa E f n EQ (sameAddr a b) (sameAddr (rA f a) (rA f b)):=by
 unfold sameAddr;rw[LP F,IC F];dsimp only;refine aa.ite (fun _=>aa.pure fun _ _=>rfl) fun _=>?_
 refine(LN F ha).bind fun m x x' hm h1=>?_
 refine(LN F (hb.mono hm)).bind fun k y y' hk h2=>?_
 have qu:=ha.mono (Yq hm hk);have bo:=hb.mono (Yq hm hk);have fin:aa E f k EQ (zuY a >>= fun _=>zuY b >>= fun _=>zwq a b >>= fun x=>if x=true then(choose (.extern "sameAddr.stringBytes" 2) >>= fun x=>YZ (x==1))else YZ false)
   (zuY (rA f a) >>= fun _=>zuY (rA f b) >>= fun _=>zwq (rA f a) (rA f b) >>= fun x=>if x=true then(choose (.extern "sameAddr.stringBytes" 2) >>= fun x=>YZ (x==1))else YZ false):=by
  refine(LG F qu).bind fun j _ _ hj _=>?_
  refine(LG F (bo.mono hj)).bind fun i _ _ hi _=>?_
  refine(zc4 F (qu.mono (Yq hj hi)) (bo.mono (Yq hj hi))).bind fun l z z' hl hq=>?_
  cases z with
  |false=>
   cases z' with
   |false=>exact aa.pure fun _ _=>rfl
   |true=>exact absurd (hq rfl) sQ
  |true=>
   cases z' with
   |false=>
    simp only[YI,X8,YF];exact zc2 (aa.pure fun _ _=>rfl)
   |true=>
    simp only[YI];refine(aa.choose _).bind fun _ _ _ _ hq=>?_
    cases hq;exact aa.pure fun _ _=>rfl
 cases x with
 |false=>
  have e1:x'=false:=by
   rcases h1 with h1|⟨_,h1⟩<;>exact h1
  subst e1;exact fin
 |true=>
  cases y with
  |true=>exact aa.jR sQ
  |false=>
   have e2:y'=false:=by
    rcases h2 with h2|⟨_,h2⟩<;>exact h2
   subst e2;cases x'<;>exact fin
end
section
variable {E:Env}{f:Nat->Nat}{n:Nat}
theorem LR{α β:Type}{body oC:α->β->Sem (ForInStep β)}:∀(l:List α)(n:Nat)(s:β),(∀ m a s,n<=m->aa E f m EQ (body a s) (oC a s))->aa E f n EQ (forIn l s body) (forIn l s oC)
 |[],n,s,_=>aa.pure fun _ _=>rfl
 |a::l,n,s,h=>by
  rw[zw4,zw4];refine(h n a s lQ).bind fun m x x' hm hq=>?_
  cases hq;cases x with
  |done b=>exact aa.pure fun _ _=>rfl
  |yield b=>exact LR l m b fun k a s hk=>h k a s (Yq hm hk)
theorem Sl{α β:Type}{body oC:α->β->Sem (ForInStep β)}(l:Array α)(s:β)(h:∀ m a s,n<=m->aa E f m EQ (body a s) (oC a s)):aa E f n EQ (forIn l s body) (forIn l s oC):=by
 rw[<-zwB,<-zwB];exact LR l.toList n s h
theorem Sm{β:Type}{body oC:Nat->β->Sem (ForInStep β)}(len:Nat)(s:β)(h:∀ m a s,n<=m->aa E f m EQ (body a s) (oC a s)):aa E f n EQ (forIn [0:len] s body) (forIn [0:len] s oC):=by
 rw[zBZ,zBZ];exact LR _ n s h
theorem LU(F:Fit E f)(H:bD E):∀(d:Nat)(t:YT)(x y:YN)(n:Nat),ah E n x->ah E n y->aa E f n EQ (zsQ d t x y) (zsQ d t (rV f x) (rV f y))
 | 0,t,x,y,n,_,_=>aa.unsupported sQ
 |d+1,t,x,y,n,hx,hy=>by
  have ih:=LU F H d;have step:∀(m:Nat)(u:YT)(xs ys:Array YN)(k:Nat),bj E m xs->bj E m ys->aa E f m EQ
    (part u xs k >>= fun a=>part u ys k >>= fun b=>zsQ d u a b >>= fun r=>if(!r)=true then YZ (zwQ (some false,()))else YZ (zwR ((none:Option Bool),())))
    (part u (xs.map (rV f)) k >>= fun a=>part u (ys.map (rV f)) k >>= fun b=>zsQ d u a b >>= fun r=>if(!r)=true then YZ (zwQ (some false,()))else YZ (zwR ((none:Option Bool),()))):=fun m u xs ys k h1 h2=>by
   refine(zP h1 u k).bind fun m1 a a' cG hq=>?_
   obtain⟨rfl,ha⟩:=hq;refine(zP (eF h2 cG) u k).bind fun m2 b b' aK hq=>?_
   obtain⟨rfl,hb⟩:=hq;refine(ih u a b m2 (aY aK a ha) hb).bind fun m3 r r' gu hq=>?_
   cases hq;exact aa.ite (fun _=>aa.pure fun _ _=>rfl) fun _=>aa.pure fun _ _=>rfl
  unfold zsQ;refine dT fun D hD=>?_
  cases D with
  |struct Hv=>
   cases x with
   |agg xs=>
    cases y with
    |agg ys=>
     rw[rV,rV];rw[ah]at hx hy;dsimp only;refine aa.program ?_;refine aa.ite (fun _=>aa.jR sQ) fun _=>?_
     refine(Sl Hv _ fun m fl s hm=>?_).bind fun k s s' hk hq=>?_
     ·exact aa.ite (fun _=>step m _ xs ys _ (eF hx hm) (eF hy hm)) fun _=>aa.pure fun _ _=>rfl
     ·cases hq;obtain⟨s,_⟩:=s;cases s<;>exact aa.pure fun _ _=>rfl
    |_=>exact aa.stuck
   |_=>exact aa.stuck
  |array len elem=>
   cases x with
   |agg xs=>
    cases y with
    |agg ys=>
     rw[rV,rV];rw[ah]at hx hy;dsimp only;refine aa.same (kJ elem) fun z=>?_
     refine(Sm len _ fun m i s hm=>?_).bind fun k s s' hk hq=>?_
     ·exact step m _ xs ys _ (eF hx hm) (eF hy hm)
     ·cases hq;obtain⟨s,_⟩:=s;cases s<;>exact aa.pure fun _ _=>rfl
    |_=>exact aa.stuck
   |_=>exact aa.stuck
  |interface ms=>
   cases x with
   |nilIface=>
    cases y with
    |nilIface=>rw[rV];exact aa.pure fun _ _=>rfl
    |iface ty vy=>rw[rV,rV];exact aa.pure fun _ _=>rfl
    |_=>exact aa.stuck
   |iface tx vx=>
    cases y with
    |nilIface=>rw[rV,rV];exact aa.pure fun _ _=>rfl
    |iface ty vy=>
     rw[rV,rV];rw[ah]at hx hy;dsimp only;refine aa.ite (fun _=>aa.pure fun _ _=>rfl) fun _=>?_
     refine aa.same (sg tx) fun zw=>?_
     refine aa.ite (fun _=>?_) fun _=>ih tx vx vy n hx.2 hy.2
     refine aa.program (aa.program ?_);refine aa.ite (fun _=>aa.jR sQ) fun _=>?_
     refine aa.same (RO tx) fun s=>nC F H _
    |_=>exact aa.stuck
   |_=>exact aa.stuck
  |pointer elem=>
   cases x with
   |pointer a=>
    cases y with
    |pointer b=>
     rw[rV,rV];rw[ah]at hx hy;cases a with
     |none=>
      cases b<;>exact aa.pure fun _ _=>rfl
     |some a=>
      cases b with
      |none=>exact aa.pure fun _ _=>rfl
      |some b=>
       dsimp only[Option.map_some];refine aa.same (kJ elem) fun z=>?_
       refine aa.ite (fun _=>Sk F hx hy) fun _=>?_
       rw[IC F];refine aa.ite (fun _=>aa.pure fun _ _=>rfl) fun _=>?_
       refine(aa.choose _).bind fun _ _ _ _ hq=>?_
       cases hq;exact aa.pure fun _ _=>rfl
    |_=>cases a<;>exact aa.stuck
   |_=>exact aa.stuck
  |unsafePointer=>
   cases x with
   |pointer a=>
    cases y with
    |pointer b=>
     rw[rV,rV];rw[ah]at hx hy;cases a with
     |none=>cases b<;>exact aa.pure fun _ _=>rfl
     |some a=>
      cases b with
      |none=>exact aa.pure fun _ _=>rfl
      |some b=>exact Sk F hx hy
    |_=>exact aa.stuck
   |_=>exact aa.stuck
  |bool=>
   cases x with
   |bool a=>
    cases y with
    |bool b=>rw[rV,rV];exact aa.pure fun _ _=>rfl
    |_=>exact aa.stuck
   |_=>exact aa.stuck
  |string=>
   cases x with
   |string a=>
    cases y with
    |string b=>rw[rV,rV];exact aa.pure fun _ _=>rfl
    |_=>exact aa.stuck
   |_=>exact aa.stuck
  |float k=>
   cases x with
   |float k1 a=>
    cases y with
    |float k2 b=>rw[rV,rV];exact aa.ite (fun _=>aa.pure fun _ _=>rfl) fun _=>aa.stuck
    |_=>exact aa.stuck
   |_=>exact aa.stuck
  |complex k=>
   cases x with
   |complex k1 a b=>
    cases y with
    |complex k2 c d=>rw[rV,rV];exact aa.ite (fun _=>aa.pure fun _ _=>rfl) fun _=>aa.stuck
    |_=>exact aa.stuck
   |_=>exact aa.stuck
  |chan _ _=>
   cases x with
   |chan a=>
    cases y with
    |chan b=>
     rw[ah]at hx hy;subst hx hy;rw[rV];exact aa.pure fun _ _=>rfl
    |_=>exact aa.stuck
   |_=>exact aa.stuck
  |slice e=>
   cases x with
   |slice a l c=>
    cases y with
    |slice b l2 c2=>
     rw[rV,rV];cases a with
     |none=>cases b<;>exact aa.pure fun _ _=>rfl
     |some a=>
      cases b with
      |none=>exact aa.pure fun _ _=>rfl
      |some b=>exact aa.stuck
    |_=>cases a<;>exact aa.stuck
   |_=>exact aa.stuck
  |map _ _=>
   cases x with
   |map a=>
    cases y with
    |map b=>
     rw[rV,rV];cases a with
     |none=>cases b<;>exact aa.pure fun _ _=>rfl
     |some a=>
      cases b with
      |none=>exact aa.pure fun _ _=>rfl
      |some b=>exact aa.stuck
    |_=>cases a<;>exact aa.stuck
   |_=>exact aa.stuck
  |func _ _ _=>
   cases x with
   |nilFunc=>
    cases y with
    |nilFunc=>rw[rV];exact aa.pure fun _ _=>rfl
    |func _ _ _=>rw[rV,rV];exact aa.pure fun _ _=>rfl
    |_=>exact aa.stuck
   |func _ _ _=>
    cases y with
    |nilFunc=>rw[rV,rV];exact aa.pure fun _ _=>rfl
    |_=>exact aa.stuck
   |_=>exact aa.stuck
  |int k=>
   cases x with
   |int k1 a=>
    cases y with
    |int k2 b=>rw[rV,rV];exact aa.ite (fun _=>aa.pure fun _ _=>rfl) fun _=>aa.stuck
    |pointer b=>
     rw[rV,rV];cases b with
     |none=>rcases a with (_|_)|_<;>exact aa.unsupported sQ
     |some b=>
      rcases a with (_|_)|_
      ·exact aa.pure fun _ _=>rfl
      ·exact aa.unsupported sQ
      ·exact aa.unsupported sQ
    |_=>exact aa.stuck
   |pointer a=>
    cases a with
    |none=>cases y<;>exact aa.unsupported sQ
    |some a=>
     cases y with
     |int k2 b=>
      rw[rV,rV];rcases b with (_|_)|_
      ·exact aa.pure fun _ _=>rfl
      ·exact aa.unsupported sQ
      ·exact aa.unsupported sQ
     |pointer b=>
      cases b with
      |none=>exact aa.unsupported sQ
      |some b=>
       rw[rV,rV];rw[ah]at hx hy;have ha:E.A n a.block:=hx;have hb:E.A n b.block:=hy;dsimp only[Option.map_some];refine(BX F ha).bind fun m p p' hm hq=>?_
       obtain⟨rfl,ha⟩:=hq;refine(BX F (hb.mono hm)).bind fun m2 q p' aK hq=>?_
       obtain⟨rfl,hb⟩:=hq;obtain⟨a,la⟩:=p;obtain⟨b,lb⟩:=q;dsimp only at ha hb⊢;refine aa.program ?_;rw[LP F];have hG:=F.ro _ H.g;have e:decide ((rA f a).block<E.P.globals.size)=decide (a.block<E.P.globals.size):=by
        apply decide_eq_decide.2;show f a.block<_↔_;rcases Ys a.block E.B with h|h
        ·rw[F.low _ h]
        ·have:=F.ge h;omega
       rw[e];have qu:=ha.mono aK;have bo:=hb;refine aa.ite (fun _=>?_) fun _=>?_
       ·refine(EK F qu).bind fun m3 u u' gu hq=>?_
        cases hq;refine(EK F (bo.mono gu)).bind fun m4 v v' jS hq=>?_
        cases hq;exact aa.pure fun _ _=>rfl
       ·refine aa.same (sg t) fun zw=>?_
        rw[IC F];split
        ·exact aa.ite (fun _=>aa.pure fun _ _=>rfl) fun _=>aa.unsupported sQ
        ·exact aa.unsupported sQ
     |_=>exact aa.unsupported sQ
   |_=>
    cases y with
    |pointer b=>exact aa.unsupported sQ
    |_=>exact aa.stuck
  |_=>exact aa.stuck
theorem LV(F:Fit E f):∀(d:Nat)(t:YT)(x y:YN)(n:Nat),ah E n x->ah E n y->aa E f n EQ (zv4 d t x y) (zv4 d t (rV f x) (rV f y))
 | 0,t,x,y,n,_,_=>aa.unsupported sQ
 |d+1,t,x,y,n,hx,hy=>by
  have ih:=LV F d;have step:∀(m:Nat)(u:YT)(xs ys:Array YN)(k:Nat),bj E m xs->bj E m ys->aa E f m EQ
    (part u xs k >>= fun a=>part u ys k >>= fun b=>zv4 d u a b >>= fun r=>if r=true then YZ (zwQ (some true,()))else YZ (zwR ((none:Option Bool),())))
    (part u (xs.map (rV f)) k >>= fun a=>part u (ys.map (rV f)) k >>= fun b=>zv4 d u a b >>= fun r=>if r=true then YZ (zwQ (some true,()))else YZ (zwR ((none:Option Bool),()))):=fun m u xs ys k h1 h2=>by
   refine(zP h1 u k).bind fun m1 a a' cG hq=>?_
   obtain⟨rfl,ha⟩:=hq;refine(zP (eF h2 cG) u k).bind fun m2 b b' aK hq=>?_
   obtain⟨rfl,hb⟩:=hq;refine(ih u a b m2 (aY aK a ha) hb).bind fun m3 r r' gu hq=>?_
   cases hq;exact aa.ite (fun _=>aa.pure fun _ _=>rfl) fun _=>aa.pure fun _ _=>rfl
  unfold zv4;refine dT fun D hD=>?_
  cases D with
  |struct Hv=>
   cases x with
   |agg xs=>
    cases y with
    |agg ys=>
     rw[rV,rV];rw[ah]at hx hy;dsimp only;refine(Sl Hv _ fun m fl s hm=>?_).bind fun k s s' hk hq=>?_
     ·exact aa.ite (fun _=>step m _ xs ys _ (eF hx hm) (eF hy hm)) fun _=>aa.pure fun _ _=>rfl
     ·cases hq;obtain⟨s,_⟩:=s;cases s<;>exact aa.pure fun _ _=>rfl
    |_=>rw[rV,rV];exact aa.pure fun _ _=>rfl
   |_=>rw[rV];exact aa.pure fun _ _=>rfl
  |array len elem=>
   cases x with
   |agg xs=>
    cases y with
    |agg ys=>
     rw[rV,rV];rw[ah]at hx hy;dsimp only;refine aa.same (kJ elem) fun z=>?_
     refine(Sm len _ fun m i s hm=>?_).bind fun k s s' hk hq=>?_
     ·exact step m _ xs ys _ (eF hx hm) (eF hy hm)
     ·cases hq;obtain⟨s,_⟩:=s;cases s<;>exact aa.pure fun _ _=>rfl
    |_=>rw[rV,rV];exact aa.pure fun _ _=>rfl
   |_=>rw[rV];exact aa.pure fun _ _=>rfl
  |interface ms=>
   cases x with
   |nilIface=>
    cases y with
    |nilIface=>rw[rV];exact aa.pure fun _ _=>rfl
    |_=>rw[rV,rV];exact aa.pure fun _ _=>rfl
   |_=>rw[rV];exact aa.pure fun _ _=>rfl
  |_=>exact aa.pure fun _ _=>rfl
theorem zc5(F:Fit E f){t:YT}{x y:Operand}{a b:YN}(ha:ah E n a)(hb:ah E n b):aa E f n EQ (eqGuard op t x y a b) (eqGuard op t x y (rV f a) (rV f b)):=by
 unfold eqGuard;refine aa.ite (fun _=>aa.pure fun _ _=>rfl) fun _=>?_
 cases a with
 |nilIface=>
  cases b with
  |nilIface=>
   rw[rV];dsimp only;refine aa.ite (fun _=>aa.pure fun _ _=>rfl) fun _=>?_
   have:=LV F (E:=E) Op.maxDepth t .nilIface .nilIface n (by simp[ah]) (by simp[ah]);rw[rV]at this;refine this.bind fun m r r' hm hq=>?_
   cases hq;exact aa.ite (fun _=>aa.unsupported sQ) fun _=>aa.pure fun _ _=>rfl
  |_=>rw[rV,rV];exact aa.pure fun _ _=>rfl
 |agg xs=>
  cases b with
  |agg ys=>
   have:=LV F (E:=E) Op.maxDepth t (.agg xs) (.agg ys) n ha hb;rw[rV,rV]at this⊢;dsimp only;refine aa.program (aa.program ?_);refine aa.ite (fun _=>aa.pure fun _ _=>rfl) fun _=>?_
   refine this.bind fun m r r' hm hq=>?_
   cases hq;exact aa.ite (fun _=>aa.unsupported sQ) fun _=>aa.pure fun _ _=>rfl
  |_=>rw[rV,rV];exact aa.pure fun _ _=>rfl
 |_=>rw[rV];exact aa.pure fun _ _=>rfl
end
section
variable {E:Env}{f:Nat->Nat}{n:Nat}
def BZ(P:Y2)(t:YT):Bool:=match P.underlying t with
 |some (.map k e)=>(match P.underlying k with|some .string=>true|_=>false)&&oB P e
 |_=>true
theorem Sn{b:Bool}{t:YT}{x':YN}(h:E.P.underlying t=some .string):aa E f n EQ (zvg b (k+1) t x) (zvg b (k+1) t x'):=by
 unfold zvg;refine dT fun D hD=>?_
 rw[h]at hD;cases hD;exact aa.pure fun _ _=>rfl
theorem zc6(d:zwg)(x y:YN):zvR d (rV f x) (rV f y)=zvR d x y:=by
 cases x<;>cases y<;>cases d<;>simp[rV,zvR]
theorem Sp(d:zwg)(k:YN):∀(es:List MapEntry)(i:Nat),ztK d (rV f k) (es.map (rE f)) i=(ztK d k es i).map (Option.map fun p=>(p.1,rV f p.2))
 |[],i=>rfl
 |e::es,i=>by
  simp only[Yi,ztK];show(match zvR d (rV f k) (rV f e.key)with|some true=>_|some false=>_|none=>_)=_;rw[zc6];cases zvR d k e.key with
  |none=>rfl
  |some b=>
   cases b with
   |true=>rfl
   |false=>exact Sp d k es (i+1)
def FQ(E:Env)(f:Nat->Nat)(m:Nat)(r r':Option (Nat×YN)):Prop:=r'=r.map (fun p=>(p.1,rV f p.2))/\∀ i v,r=some (i,v)->ah E m v
def EL(E:Env)(n:Nat)(es:List MapEntry):Prop:=∀ e,e∈es->ah E n e.key/\ah E n e.val
theorem Sq(d:zwg)(k:YN):∀(es:List MapEntry)(i:Nat)(r:Option (Nat×YN)),EL E n es->ztK d k es i=some r->∀ j v,r=some (j,v)->ah E n v
 |[],i,r,_,h,j,v,e=>by
  cases h;cases e
 |x::es,i,r,ho,h,j,v,e=>by
  unfold ztK at h;split at h
  ·cases h;cases e;exact(ho x sQ).2
  ·exact Sq d k es (i+1) r (fun e he=>ho e (by simp[he])) h j v e
  ·cases h
theorem Sr(F:Fit E f)(H:bD E){t:YT}{k:YN}:∀(es:List MapEntry)(i n:Nat),ah E n k->EL E n es->aa E f n (FQ E f) (zyB t k es i) (zyB t (rV f k) (es.map (rE f)) i)
 |[],i,n,_,_=>aa.pure fun _ _=>⟨rfl,fun _ _ e=>by cases e⟩
 |x::es,i,n,hk,ho=>by
  rw[Yi];unfold zyB;refine(LU F H _ t k x.key n hk (ho x sQ).1).bind fun m b b' hm hq=>?_
  cases hq;refine aa.ite (fun _=>aa.pure fun j hj=>⟨rfl,fun _ _ e=>?_⟩) fun _=>?_
  ·cases e;exact aY (Yq hm hj) _ (ho x sQ).2
  ·exact Sr F H es (i+1) m (aY hm k hk) fun e he=>⟨aY hm _ (ho e (by simp[he])).1,aY hm _ (ho e (by simp[he])).2⟩
theorem Ss(F:Fit E f)(H:bD E){t:YT}{k:YN}{es:List MapEntry}(hk:ah E n k)(ho:EL E n es):aa E f n (FQ E f) (ztJ t k es) (ztJ t (rV f k) (es.map (rE f))):=by
 unfold ztJ;refine dT fun D hD=>?_
 rw[Sp];cases hf:ztK D k es 0 with
 |none=>exact Sr F H es 0 n hk ho
 |some r=>exact aa.pure fun m hm=>⟨rfl,fun i v e=>aY hm v (Sq D k es 0 r ho hf i v e)⟩
theorem zc7(F:Fit E f)(H:bD E){t:YT}{ok:Bool}(hx:ah E n x)(hi:ah E n ix)(hz:BZ E.P t=true):aa E f n (VQ E f) (zuu t x ix ok) (zuu t (rV f x) (rV f ix) ok):=by
 unfold zuu;refine dT fun D hD=>?_
 cases D with
 |map key elem=>
  unfold BZ at hz;simp only[hD,X6]at hz;obtain⟨bf,bK⟩:=hz;have LW:E.P.underlying key=some .string:=by
   cases hu:E.P.underlying key with
   |none=>rw[hu]at bf;cases bf
   |some d=>rw[hu]at bf;cases d<;>first |rfl|cases bf
  have lq:∀(m:Nat)(v:YN)(b:Bool),ah E m v->aa E f m (VQ E f) (YZ (if ok then .tuple #[v,.bool b]else v)) (YZ (if ok then .tuple #[rV f v,.bool b]else rV f v)):=fun m v b hv=>by
   refine aa.pure fun k hk=>?_
   cases ok with
   |false=>exact⟨rfl,aY hk v hv⟩
   |true=>
    refine⟨by simp[rV],?_⟩;simp only[YI,ah];intro y hy;simp only[Yn,Yl,Yo,YL]at hy;rcases hy with rfl|rfl
    ·exact aY hk _ hv
    ·simp[ah]
  have fin:∀(m:Nat)(es:Array MapEntry),n<=m->EL E m es.toList->aa E f m (VQ E f)
    (zvg es.isEmpty 10000 key ix >>= fun _=>ztJ key ix es.toList >>= fun r=>match r with|some (_,v)=>(YZ (v,true) >>= fun p:YN×Bool=>YZ (if ok then .tuple #[p.1,.bool p.2]else p.1))|none=>(zeroValue elem >>= fun v=>YZ (v,false) >>= fun p:YN×Bool=>YZ (if ok then .tuple #[p.1,.bool p.2]else p.1)))
    (zvg (es.map (rE f)).isEmpty 10000 key (rV f ix) >>= fun _=>ztJ key (rV f ix) (es.map (rE f)).toList >>= fun r=>match r with|some (_,v)=>(YZ (v,true) >>= fun p:YN×Bool=>YZ (if ok then .tuple #[p.1,.bool p.2]else p.1))|none=>(zeroValue elem >>= fun v=>YZ (v,false) >>= fun p:YN×Bool=>YZ (if ok then .tuple #[p.1,.bool p.2]else p.1))):=fun m es hm ho=>by
   have he:(es.map (rE f)).isEmpty=es.isEmpty:=by simp only[Array.isEmpty,zt6]
   rw[he,zsV];refine(Sn LW).bind fun m2 _ _ aK _=>?_
   refine(Ss F H (aY (Yq hm aK) _ hi) fun e he=>⟨aY aK _ (ho e he).1,aY aK _ (ho e he).2⟩).bind fun m3 r r' gu hq=>?_
   obtain⟨rfl,hr⟩:=hq;cases r with
   |none=>
    refine(LI bK).bind fun m4 z z' jS hq=>?_
    obtain⟨rfl,hz⟩:=hq;exact lq m4 z false hz
   |some p=>
    obtain⟨i,v⟩:=p;exact lq m3 v true (hr i v rfl)
  cases x with
  |map r=>
   rw[rV];rw[ah]at hx;cases r with
   |none=>
    have h0:=fin n #[] lQ fun e he=>by simp at he
    rw[Array.map_empty]at h0;exact h0
   |some r=>
    dsimp only[Option.map_some];refine aa.getObj (.inl (hx r rfl)) (fun j o hj hI ho=>?_) (fun hO c e t=>aa.iu);cases o with
    |map es BG=>exact fin j es hj fun e he=>ho e (by simpa using he)
    |_=>first |exact aa.iu|exact ho.elim
  |_=>exact aa.iu
 |_=>exact aa.stuck
theorem Su(F:Fit E f)(a b:Option YQ):(a.map (rA f)==b.map (rA f))=(a==b):=by
 cases a with
 |none=>cases b<;>rfl
 |some a=>
  cases b with
  |none=>rfl
  |some b=>exact IC F a b
theorem Sv(F:Fit E f)(a b:Option Nat):(a.map f==b.map f)=(a==b):=by
 cases a with
 |none=>cases b<;>rfl
 |some a=>
  cases b with
  |none=>rfl
  |some b=>
   show(f a==f b)=(a==b);cases h:(a==b)with
   |true=>exact YB.2 (YC f (eq_of_beq h))
   |false=>
    cases h':(f a==f b)with
    |false=>rfl
    |true=>
     have:=F.inj _ _ (eq_of_beq h');rw[this]at h;simp at h
theorem zc8(F:Fit E f):∀(k:Nat)(x y:YN),zti k (rV f x) (rV f y)=zti k x y:=by
 intro k;induction k with
 |zero=>
  intro x y;cases x with
  |pointer a=>cases y<;>simp[rV,zti,Su F]
  |chan a=>cases y<;>simp[rV,zti,Sv F]
  |_=>cases y<;>simp[rV,zti]
 |succ k ih=>
  intro x y;cases x with
  |pointer a=>cases y<;>simp[rV,zti,Su F]
  |chan a=>cases y<;>simp[rV,zti,Sv F]
  |iface t v=>cases y<;>simp[rV,zti,ih]
  |agg xs=>
   cases y with
   |agg ys=>
    simp only[rV,zti,zt6,zsV,List.zip_map,List.all_map];congr 2
    funext p
    exact ih p.1 p.2
   |_=>simp[rV,zti]
  |_=>cases y<;>simp[rV,zti]
theorem zc9(F:Fit E f){a b:YN}(ha:ah E n a)(hb:ah E n b):aa E f n (VQ E f) (zyD a b) (zyD (rV f a) (rV f b)):=by
 unfold zyD;rw[zc8 F];refine aa.ite (fun _=>aa.pure fun _ hm=>⟨rfl,aY hm b hb⟩) fun _=>?_
 refine(aa.choose _).bind fun m x x' hm hq=>?_
 cases hq;refine aa.pure fun k hk=>?_
 split
 ·exact⟨rfl,aY (Yq hm hk) b hb⟩
 ·exact⟨rfl,aY (Yq hm hk) a ha⟩
theorem Sw(F:Fit E f)(H:bD E){t:YT}{k:YN}(hx:ah E n x)(hk:ah E n k)(hv:ah E n v)(hz:BZ E.P t=true):aa E f n EQ (ZI t x k v) (ZI t (rV f x) (rV f k) (rV f v)):=by
 unfold ZI;refine dT fun D hD=>?_
 cases D with
 |map key elem=>
  unfold BZ at hz;simp only[hD,X6]at hz;obtain⟨bf,bK⟩:=hz;have LW:E.P.underlying key=some .string:=by
   cases hu:E.P.underlying key with
   |none=>rw[hu]at bf;cases bf
   |some d=>rw[hu]at bf;cases d<;>first |rfl|cases bf
  cases x with
  |map r=>
   rw[rV];rw[ah]at hx;cases r with
   |none=>exact nC F H _
   |some r=>
    dsimp only[Option.map_some];refine aa.getObj (.inl (hx r rfl)) (fun j o hj hI ho=>?_) (fun hO c e t=>aa.stuck);cases o with
    |map es BG=>
     dsimp only[rO];have rW:EL E j es.toList:=fun e he=>ho e (by simpa using he)
     refine(Sn LW).bind fun m2 _ _ aK _=>?_
     rw[zsV];refine(Ss F H (aY (Yq hj aK) _ hk) fun e he=>⟨aY aK _ (rW e he).1,aY aK _ (rW e he).2⟩).bind fun m3 p p' gu hq=>?_
     obtain⟨rfl,hr⟩:=hq;have xT:=Yq aK gu;have sj:=Yq hj xT;cases p with
     |none=>
      dsimp only[Option.map_none];have:=aa.setObj (E:=E) (f:=f) (n:=m3) F (r:=r) (o:=.map (es.push {key:=k,val:=v,born:=BG}) (BG+1)) (hI.mono xT) (fun e he=>by
       rcases zwD.1 he with h|rfl
       ·exact⟨aY xT _ (ho e h).1,aY xT _ (ho e h).2⟩
       ·exact⟨aY sj _ hk,aY sj _ hv⟩)
      simp only[rO,zAk,rE]at this;exact this
     |some p=>
      obtain⟨i,u⟩:=p;dsimp only[Option.map_some];have hold:ah E m3 (((es[i]?).map (·.key)).getD k):=by
       cases he:es[i]? with
       |none=>exact aY sj _ hk
       |some e=>exact aY xT _ (ho e (zt5 he)).1
      have zda:((((es.map (rE f))[i]?).map (·.key)).getD (rV f k))=rV f (((es[i]?).map (·.key)).getD k):=by
       rw[XZ];cases es[i]?<;>rfl
      rw[zda];refine(zc9 F hold (aY sj _ hk)).bind fun m4 q q' jS hq=>?_
      obtain⟨rfl,hq⟩:=hq;have LX:=Yq xT jS;have:=aa.setObj (E:=E) (f:=f) (n:=m4) F (r:=r) (o:=.map (es.modify i fun e=>{e with key:=q,val:=v}) BG) (hI.mono LX) (fun e he=>by
       obtain⟨l,hl,rfl⟩:=zxQ.1 he;rw[Array.getElem_modify];split
       ·exact⟨hq,aY (Yq sj jS) _ hv⟩
       ·have hl':l<es.size:=by simpa using hl
        exact⟨aY LX _ (ho es[l] (zr2 hl')).1,aY LX _ (ho es[l] (zr2 hl')).2⟩)
      have em:(es.modify i fun e=>{e with key:=q,val:=v}).map (rE f)=(es.map (rE f)).modify i fun e=>{e with key:=rV f q,val:=rV f v}:=by
       apply zt4;intro l;rw[XZ,zte,zte,XZ];split<;>cases es[l]?<;>rfl
      simp only[rO,em]at this;exact this
    |_=>first |exact aa.stuck|exact ho.elim
  |_=>exact aa.stuck
 |_=>exact aa.stuck
theorem Sx{x y:ByteArray}:aa E f n (VQ E f) (zzj op x y) (zzj op x y):=by
 unfold zzj;cases op with
 |add=>exact aa.ite (fun _=>aa.unsupported sQ) fun _=>aa.pure fun _ _=>cJ rfl
 |eql=>exact aa.pure fun _ _=>cJ rfl
 |neq=>exact aa.pure fun _ _=>cJ rfl
 |lss=>exact aa.pure fun _ _=>cJ rfl
 |leq=>exact aa.pure fun _ _=>cJ rfl
 |gtr=>exact aa.pure fun _ _=>cJ rfl
 |geq=>exact aa.pure fun _ _=>cJ rfl
 |_=>exact aa.stuck
theorem zdb(F:Fit E f)(H:bD E){k:zty}{a:Int}:aa E f n (VQ E f)
  (match op with|.add|.sub|.mul=>zv6 op k a b|.quo|.rem=>zv7 op k a b|.and|.or|.xor|.andNot=>zxh op k a b|_=>zxi op a b)
  (match op with|.add|.sub|.mul=>zv6 op k a b|.quo|.rem=>zv7 op k a b|.and|.or|.xor|.andNot=>zxh op k a b|_=>zxi op a b):=by
 cases op<;>first
  |exact aa.pure fun _ _=>cJ rfl
  |exact aa.stuck
  |(unfold zv7;exact aa.ite (fun _=>nC F H _) fun _=>aa.pure fun _ _=>cJ rfl)
theorem Sy(F:Fit E f)(H:bD E){k yk:zty}{a:Int}:aa E f n (VQ E f) (Op.shift op k a yk b) (Op.shift op k a yk b):=by
 unfold Op.shift;refine aa.ite (fun _=>nC F H _) fun _=>?_
 cases op<;>first |exact aa.pure fun _ _=>cJ rfl|exact aa.stuck
end
section
variable {E:Env}{f:Nat->Nat}{n:Nat}
theorem zdc(F:Fit E f)(H:bD E)(a:YQ):((rA f a).block<E.P.globals.size)↔(a.block<E.P.globals.size):=by
 have hG:=F.ro _ H.g;show f a.block<_↔_;rcases Ys a.block E.B with h|h
 ·rw[F.low _ h]
 ·have:=F.ge h;omega
theorem Sz{l:Bool}(ha:E.A n a.block):aa E f n (VQ E f) (asNumber a l) (asNumber (rA f a) l):=by
 unfold asNumber;refine(aa.newObj (o:=.number a l) ha).bind fun m r r' hm hq=>?_
 obtain⟨rfl,hI⟩:=hq;exact aa.pure fun k hk=>qF (a:=(aQ r 0)) (.inl (hI.mono hk))
theorem SA(F:Fit E f){ts:Array YT}{t:YT}(hx:ah E n x):aa E f n (VQ E f) (zus ts t #[x,y]) (zus ts t #[rV f x,rV f y]):=by
 unfold zus;cases x with
 |pointer a=>
  rw[rV];rw[ah]at hx;dsimp only;refine BW.bind fun m k k' hm hq=>?_
  cases hq;refine aa.ite (fun _=>?_) fun _=>?_
  ·cases a with
   |none=>exact aa.unsupported sQ
   |some a=>
    dsimp only[Option.map_some];refine(Im F (Env.A.mono hx hm)).bind fun m2 v v' aK hq=>?_
    obtain⟨rfl,_⟩:=hq;rw[zv9];exact aa.ite (fun _=>aa.jR sQ) fun _=>aa.pure fun j hj=>qF (Env.A.mono hx (Yq hm (Yq aK hj)))
  ·refine aa.ite (fun _=>aa.jR sQ) fun _=>?_
   cases a with
   |none=>exact aa.unsupported sQ
   |some a=>
    dsimp only[Option.map_some];refine(aa.shape F (Env.A.mono hx hm)).bind fun m2 s s' aK hq=>?_
    rcases hq with rfl|⟨_,rfl,_⟩
    ·cases s' with
     |none=>exact aa.unsupported sQ
     |some p=>
      obtain⟨e,c⟩:=p;dsimp only;refine aa.program ?_;show aa E f m2 (VQ E f) (match cellAtBytes E.P E.P.depth e (c/E.P.cellsOf e) a.off k with|some off=>_|none=>_) (match cellAtBytes E.P E.P.depth e (c/E.P.cellsOf e) a.off k with|some off=>_|none=>_);cases cellAtBytes E.P E.P.depth e (c/E.P.cellsOf e) a.off k with
      |none=>exact aa.unsupported sQ
      |some off=>exact aa.pure fun j hj=>qF (a:={a with off:=off}) (Env.A.mono hx (Yq hm (Yq aK hj)))
    ·exact aa.unsupported sQ
 |_=>exact aa.stuck
theorem LY(F:Fit E f){t:YT}(hx:ah E n x):aa E f n (VQ E f) (zzT t x y) (zzT t (rV f x) (rV f y)):=by
 have base:∀ m v,ah E m v->aa E f m (VQ E f) (zus #[] t #[v,y]) (zus #[] t #[rV f v,rV f y]):=fun m v hv=>SA F hv
 unfold zzT;refine dT fun d hd=>?_
 dsimp only;refine aa.ite (fun _=>aa.jR sQ) fun _=>?_
 cases x with
 |pointer a=>
  have b0:=base n (.pointer a) hx;rw[rV]at b0⊢;rw[ah]at hx;cases a with
  |none=>exact b0
  |some a=>
   dsimp only[Option.map_some];refine(BX F hx).bind fun m p p' hm hq=>?_
   obtain⟨rfl,hA⟩:=hq;obtain⟨b,l⟩:=p;dsimp only at hA⊢;have b1:=base m (.pointer (some b)) (by rw[ah];exact hA);rw[rV]at b1;refine b1.bind fun m2 v v' aK hq=>?_
   obtain⟨rfl,hv⟩:=hq;cases v with
   |pointer c=>
    rw[rV];rw[ah]at hv;cases c with
    |none=>exact aa.pure fun _ _=>cJ rfl
    |some c=>exact Sz hv
   |_=>rw[rV];exact aa.pure fun j hj=>⟨by rw[rV],aY hj _ hv⟩
 |_=>
  have b0:=base n _ hx;rw[rV]at b0⊢;exact b0
theorem zdd(F:Fit E f){t:YT}(hx:ah E n x):aa E f n (VQ E f) (zzU t x y) (zzU t (rV f x) (rV f y)):=by
 have base:∀ m,n<=m->aa E f m (VQ E f) (zus #[] t #[x,y]) (zus #[] t #[rV f x,rV f y]):=fun m hm=>SA F (aY hm x hx)
 unfold zzU;cases x with
 |pointer a=>
  cases a with
  |none=>
   have b0:=base n lQ;rw[rV]at b0⊢;exact b0
  |some a=>
   have hA:E.A n a.block:=by rw[ah]at hx;exact hx
   have b0:=base;rw[rV]at b0⊢;dsimp only[Option.map_some]at b0⊢;refine(Sb F hA).bind fun m p p' hm hq=>?_
   obtain⟨rfl,_⟩:=hq;rw[zv9];exact aa.ite (fun _=>aa.jR sQ) fun _=>b0 m hm
 |_=>
  have b0:=base n lQ;rw[rV]at b0⊢;exact b0
theorem SB(F:Fit E f)(H:bD E){b:YQ}(ha:E.A n a.block)(hb:E.A n b.block):aa E f n EQ (zzk a b) (zzk (rA f a) (rA f b)):=by
 unfold zzk;refine aa.program ?_;dsimp only;have e1:((rA f a).block !=(rA f b).block)=(a.block != b.block):=by
  show(!((rA f a).block==(rA f b).block))=!(a.block==b.block);rw[LP F]
 have e2:decide ((rA f a).block>=E.P.globals.size)=decide (a.block>=E.P.globals.size):=by
  apply decide_eq_decide.2;have:=zdc F H a;omega
 rw[e1,e2];refine aa.ite (fun _=>aa.jR sQ) fun _=>?_
 refine(EK F ha).bind fun m x x' hm hq=>?_
 cases hq;refine(EK F (hb.mono hm)).bind fun m2 y y' aK hq=>?_
 cases hq;exact aa.pure fun _ _=>rfl
theorem zde(F:Fit E f){k:zty}{z:Int}(ha:E.A n a.block):aa E f n (VQ E f) (zv3 k a z) (zv3 k (rA f a) z):=by
 unfold zv3;refine(aa.shape F ha).bind fun m s s' hm hq=>?_
 rcases hq with rfl|⟨_,rfl,_⟩
 ·cases s' with
  |none=>exact aa.unsupported sQ
  |some p=>
   obtain⟨e,c⟩:=p;dsimp only;refine aa.same (sg e) fun i=>?_
   refine aa.ite (fun _=>aa.jR sQ) fun _=>?_
   refine(EK F (ha.mono hm)).bind fun m2 x x' aK hq=>?_
   cases hq;exact aa.pure fun _ _=>cJ rfl
 ·exact aa.unsupported sQ
theorem zdf{op:UnOp}(hx:ah E n x):aa E f n (VQ E f) (Op.unary op x) (Op.unary op (rV f x)):=by
 cases x with
 |float _ _=>rw[ah]at hx;exact hx.elim
 |complex _ _ _=>rw[ah]at hx;exact hx.elim
 |int k a=>rw[rV];cases op<;>first |exact aa.pure fun _ _=>cJ rfl|exact aa.stuck
 |bool b=>rw[rV];cases op<;>first |exact aa.pure fun _ _=>cJ rfl|exact aa.stuck
 |pointer a=>cases a<;>cases op<;>first |exact aa.unsupported sQ|exact aa.stuck
 |_=>cases op<;>exact aa.stuck
theorem SD(F:Fit E f)(H:bD E){t:YT}(hx:ah E n x)(hy:ah E n y)(g:Bool->Bool):aa E f n (VQ E f) (Op.equal t x y >>= fun b=>YZ (.bool (g b))) (Op.equal t (rV f x) (rV f y) >>= fun b=>YZ (.bool (g b))):=by
 refine(LU F H _ t x y n hx hy).bind fun m b b' hm hq=>?_
 cases hq;exact aa.pure fun _ _=>cJ rfl
theorem nE{α:Type}{Q:Nat->α->α->Prop}{t:Sem α}:aa E f n Q (unsupported .addressObserved) t:=aa.unsupported sQ
theorem zdg(F:Fit E f)(H:bD E){t:YT}(hx:ah E n x)(hy:ah E n y):aa E f n (VQ E f) (binOp .eql t x y) (binOp .eql t (rV f x) (rV f y)):=by
 have lr:=SD F H (t:=t) hx hy id;cases x with
 |float _ _=>rw[ah]at hx;exact hx.elim
 |complex _ _ _=>rw[ah]at hx;exact hx.elim
 |int k a=>
  cases y with
  |int k2 b=>rw[rV,rV];exact aa.ite (fun _=>aa.stuck) fun _=>aa.pure fun _ _=>cJ rfl
  |_=>rw[rV,rV]at lr⊢;exact lr
 |string a=>
  cases y with
  |string b=>rw[rV,rV];exact aa.pure fun _ _=>cJ rfl
  |_=>rw[rV,rV]at lr⊢;exact lr
 |_=>rw[rV]at lr⊢;exact lr
theorem zdh(F:Fit E f)(H:bD E){t:YT}(hx:ah E n x)(hy:ah E n y):aa E f n (VQ E f) (binOp .neq t x y) (binOp .neq t (rV f x) (rV f y)):=by
 have lr:=SD F H (t:=t) hx hy (fun b=>!b);cases x with
 |float _ _=>rw[ah]at hx;exact hx.elim
 |complex _ _ _=>rw[ah]at hx;exact hx.elim
 |int k a=>
  cases y with
  |int k2 b=>rw[rV,rV];exact aa.ite (fun _=>aa.stuck) fun _=>aa.pure fun _ _=>cJ rfl
  |_=>rw[rV,rV]at lr⊢;exact lr
 |string a=>
  cases y with
  |string b=>rw[rV,rV];exact aa.pure fun _ _=>cJ rfl
  |_=>rw[rV,rV]at lr⊢;exact lr
 |_=>rw[rV]at lr⊢;exact lr
theorem LZ(F:Fit E f)(k:zty)(a:YQ)(z:Int)(ha:E.A n a.block):aa E f n (VQ E f) (ztX a >>= fun p=>zv3 k p.1 z) (ztX (rA f a) >>= fun p=>zv3 k p.1 z):=by
 refine(BX F ha).bind fun m p p' hm hq=>?_
 obtain⟨rfl,hA⟩:=hq;exact zde F hA
theorem EM(F:Fit E f)(a b:YQ)(g:YQ->YQ->Sem YN)(hg:∀ m a b,E.A m a.block->E.A m b.block->aa E f m (VQ E f) (g a b) (g (rA f a) (rA f b)))(ha:E.A n a.block)(hb:E.A n b.block):
  aa E f n (VQ E f) (ztX a >>= fun p=>ztX b >>= fun q=>g p.1 q.1) (ztX (rA f a) >>= fun p=>ztX (rA f b) >>= fun q=>g p.1 q.1):=by
 refine(BX F ha).bind fun m p p' hm hq=>?_
 obtain⟨rfl,hA⟩:=hq;refine(BX F (hb.mono hm)).bind fun m2 q q' aK hq=>?_
 obtain⟨rfl,hB⟩:=hq;exact hg m2 _ _ (hA.mono aK) hB
theorem ID(F:Fit E f)(H:bD E)(op:BinOp)(m:Nat)(a b:YQ)(ha:E.A m a.block)(hb:E.A m b.block):aa E f m (VQ E f) (zzf op a b) (zzf op (rA f a) (rA f b)):=by
 unfold zzf;refine(SB F H ha hb).bind fun m2 p p' aK hq=>?_
 cases hq;obtain⟨u,v⟩:=p;cases op<;>first |exact aa.pure fun _ _=>cJ rfl|exact nE
theorem zdi(F:Fit E f)(H:bD E)(m:Nat)(a b:YQ)(ha:E.A m a.block)(hb:E.A m b.block):aa E f m (VQ E f) (zzg .u64 a b) (zzg .u64 (rA f a) (rA f b)):=by
 unfold zzg;refine(SB F H ha hb).bind fun m2 p p' aK hq=>?_
 cases hq;exact aa.pure fun _ _=>cJ rfl
theorem zdj(F:Fit E f){t:YT}{a:Option YQ}{k:zty}(hx:ah E n (.pointer a)):aa E f n (VQ E f) (binOp .add t (.pointer a) (.int k b)) (binOp .add t (.pointer (a.map (rA f))) (.int k b)):=by
 have cG:=LY F (t:=t) (y:=.int k b) hx;have SE:=zdd F (t:=t) (y:=.int k b) hx;rw[rV,rV]at cG SE;show aa E f n (VQ E f) (underlying t >>= fun d=>_) (underlying t >>= fun d=>_);refine dT fun d hd=>?_
 exact aa.ite (fun _=>SE) fun _=>cG
theorem zdk(F:Fit E f)(h1:op≠.eql)(h2:op≠.neq){t:YT}{a:Option YQ}{k:zty}(hx:ah E n (.pointer a)):aa E f n (VQ E f) (binOp op t (.pointer a) (.int k b)) (binOp op t (.pointer (a.map (rA f))) (.int k b)):=by
 have aK:=LY F (t:=t) (y:=.int k (-b)) hx;rw[rV,rV]at aK;cases op with
 |eql=>exact absurd rfl h1
 |neq=>exact absurd rfl h2
 |add=>exact zdj F hx
 |sub=>exact aK
 |rem=>
  cases a with
  |none=>exact nE
  |some a=>rw[ah]at hx;exact LZ F k a b hx
 |and=>
  cases a with
  |none=>exact nE
  |some a=>rw[ah]at hx;exact LZ F k a (b+1) hx
 |_=>cases a<;>exact nE
theorem zdl(F:Fit E f)(h1:op≠.eql)(h2:op≠.neq){t:YT}{a:Option YQ}{k:zty}(hx:ah E n (.pointer a)):aa E f n (VQ E f) (binOp op t (.int k b) (.pointer a)) (binOp op t (.int k b) (.pointer (a.map (rA f)))):=by
 have aK:=LY F (t:=t) (y:=.int k b) hx;rw[rV,rV]at aK;cases op with
 |eql=>exact absurd rfl h1
 |neq=>exact absurd rfl h2
 |add=>exact aK
 |and=>
  cases a with
  |none=>exact nE
  |some a=>rw[ah]at hx;exact LZ F k a (b+1) hx
 |_=>cases a<;>exact nE
theorem zdm(F:Fit E f)(H:bD E)(h1:op≠.eql)(h2:op≠.neq){t:YT}{a b:Option YQ}(hx:ah E n (.pointer a))(hy:ah E n (.pointer b)):aa E f n (VQ E f) (binOp op t (.pointer a) (.pointer b)) (binOp op t (.pointer (a.map (rA f))) (.pointer (b.map (rA f)))):=by
 rw[ah]at hx hy;cases op with
 |eql=>exact absurd rfl h1
 |neq=>exact absurd rfl h2
 |sub=>cases a<;>cases b<;>first |exact nE|exact EM F _ _ _ (zdi F H) hx hy
 |lss=>cases a<;>cases b<;>first |exact nE|exact EM F _ _ _ (ID F H .lss) hx hy
 |leq=>cases a<;>cases b<;>first |exact nE|exact EM F _ _ _ (ID F H .leq) hx hy
 |gtr=>cases a<;>cases b<;>first |exact nE|exact EM F _ _ _ (ID F H .gtr) hx hy
 |geq=>cases a<;>cases b<;>first |exact nE|exact EM F _ _ _ (ID F H .geq) hx hy
 |_=>cases a<;>cases b<;>exact nE
theorem zdn(F:Fit E f)(H:bD E){t:YT}{k k2:zty}{a:Int}:aa E f n (VQ E f) (binOp op t (.int k a) (.int k2 b)) (binOp op t (.int k a) (.int k2 b)):=by
 have h1:aa E f n (VQ E f) (if k≠k2 then stuck "BinOp: operands of different kinds" else match op with|.add|.sub|.mul=>zv6 op k a b|.quo|.rem=>zv7 op k a b|.and|.or|.xor|.andNot=>zxh op k a b|_=>zxi op a b)
  (if k≠k2 then stuck "BinOp: operands of different kinds" else match op with|.add|.sub|.mul=>zv6 op k a b|.quo|.rem=>zv7 op k a b|.and|.or|.xor|.andNot=>zxh op k a b|_=>zxi op a b):=aa.ite (fun _=>aa.stuck) fun _=>zdb F H
 cases op with
 |shl=>exact Sy (op:=.shl) (k:=k) (yk:=k2) (a:=a) (b:=b) F H
 |shr=>exact Sy (op:=.shr) (k:=k) (yk:=k2) (a:=a) (b:=b) F H
 |_=>exact h1
theorem zdo(F:Fit E f)(H:bD E){t:YT}(hx:ah E n x)(hy:ah E n y):aa E f n (VQ E f) (binOp op t x y) (binOp op t (rV f x) (rV f y)):=by
 by_cases h1:op=.eql
 ·subst h1;exact zdg F H hx hy
 by_cases h2:op=.neq
 ·subst h2;exact zdh F H hx hy
 cases x with
 |float _ _=>rw[ah]at hx;exact hx.elim
 |complex _ _ _=>rw[ah]at hx;exact hx.elim
 |int k a=>
  cases y with
  |float _ _=>rw[ah]at hy;exact hy.elim
  |complex _ _ _=>rw[ah]at hy;exact hy.elim
  |int k2 b=>rw[rV,rV];exact zdn F H
  |pointer b=>rw[rV,rV];exact zdl F h1 h2 hy
  |_=>cases op<;>first |exact aa.stuck|exact absurd rfl h1|exact absurd rfl h2
 |string a=>
  cases y with
  |float _ _=>rw[ah]at hy;exact hy.elim
  |complex _ _ _=>rw[ah]at hy;exact hy.elim
  |string b=>
   rw[rV,rV];have hs:=Sx (E:=E) (f:=f) (n:=n) (op:=op) (x:=a) (y:=b);cases op<;>exact hs
  |pointer b=>cases op<;>first |exact nE|exact absurd rfl h1|exact absurd rfl h2
  |_=>cases op<;>first |exact aa.stuck|exact absurd rfl h1|exact absurd rfl h2
 |pointer a=>
  cases y with
  |float _ _=>rw[ah]at hy;exact hy.elim
  |complex _ _ _=>rw[ah]at hy;exact hy.elim
  |int k2 b=>rw[rV,rV];exact zdk F h1 h2 hx
  |pointer b=>rw[rV,rV];exact zdm F H h1 h2 hx hy
  |_=>cases a<;>cases op<;>first |exact nE|exact absurd rfl h1|exact absurd rfl h2
 |_=>
  cases y with
  |float _ _=>rw[ah]at hy;exact hy.elim
  |complex _ _ _=>rw[ah]at hy;exact hy.elim
  |pointer b=>cases op<;>first |exact nE|exact absurd rfl h1|exact absurd rfl h2
  |_=>cases op<;>first |exact aa.stuck|exact absurd rfl h1|exact absurd rfl h2
end
end Go.Proofs.YtaablbmgagiajabGreatDoor.Ren
