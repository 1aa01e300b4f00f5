import Derived.Test.YtaablbmgagiajabGreatDoorZGAL
import Derived.Conc.CrowdComm
import Derived.Conc.CrowdStepW
set_option maxHeartbeats 2000000
open Acc renaming intro->ztr
open Go renaming Addr->YQ,CallKind->zva,Event->YX,Frame->YU,FuncId->Zt,loadBytes->zyp,Goroutine->YP,Machine->ztj,Next->Y9,Obj->Y0,Operand->Zr,PanicEntry->zud,Program->Y2,Trace->Y6,TypeId->YT,Value->YN,World->YM,callDeferred->zsK,callFunc->Z0,doReturn->ZG,exitTo->zvy,loadVar->ZN,markStringish->zzS,mayWake->ztY,receiverAt->zxC,runtimePanic->zs5,stepG->YV,step_lone_ended->zww,step_lone_go->zxG,tryRecover->zt2,undef->YY,unwind->ZW,variablesAt->zAb
open Array renaming eq_of_mem_replicate->zxM,ext'->zu7,foldl_toList->zu8,forIn_toList->zwB,getElem?_push_lt->ztt,mapM_eq_mapM_toList->zxN,map_append->zur,map_congr_left->ztD,map_map->zxO,mem_map->ztu,size_map->zt6,toList_map->zsV,toList_setIfInBounds->zAm,toList_zip->zxS
open Bool renaming false_or->zwF
open Go.Builtin renaming append_->zwH,cap_->zx0,clear_->zvG,copy_->zx1,firstCells->zAy,holdsCells->zx2,lenOf->zAz,len_->zx3,max2->zvH,max_->zx4,mayShare->zAA,unsafeSliceData_->zx5,unsafeString_->zx6,zeroCells->zut
open Classical renaming byContradiction->zvI,choose->zvJ,choose_spec->zwN,em->zwO
open Go.Conv renaming bytesToString->zyd,runesFrom->zAD,runesToString->zye,seenAt->zyf,stringToBytes->zyg,stringToRunes->zyh,unsafePointer->zyi
open Go.Conc renaming Deaf_other->ZZ,mem_ofEvents->ZJ,served->ZK,woken->ZL,again_running->zwm,awake_of->ztW,mem_seen->zuX,offersAt->zwt,offersAt_of_not_blocked->zvA,runT_crowd_go->zu0,woken_quitsD->zuq
open Go.Deferred renaming ofValue->ztG
open Go.Frame renaming catches->zAL,enter->Y8,finish->zAN,oper?->zyl,round->zvd
open Go.ConcN.RelBy renaming appNot->zAS
open Go.Goroutine renaming again->zAX
open Go.Instr renaming beginRound->zvP,endLoop->zyw,endRound->zvh,enterLoop->zyx,getLoop->zyC,takeDeferred->zyM,yield->zyN
open List.cons renaming inj->zA5
open List renaming foldlM_cons->zw2,foldl_cons->zw3,forIn_cons->zw4,getD_eq_getElem?_getD->zw5,mapM_cons->zy1,map_congr_left->zuA
open Go.MemAct.mark renaming injEq->zy8
open Go.MemAct renaming ofEvent->Zi,touch?->Zv
open Go.MemOp renaming ofEvents->Zl
open Nat renaming strongRecOn->zBC
open Go.Conc.NoRelease renaming app->zvq
open Option renaming elim->zzn,map_none->zwa
open Pure renaming pure->YZ
open Go.Sem renaming runT_fst->ztT
open Go.Stepped renaming next->zB0
open Go.Stepped.next renaming inj->zwd
open Go.World renaming setChan->zuj
open Go.stepG renaming apply->ZA,exec->Zp,oper->zwv
namespace Go.Proofs.YtaablbmgagiajabGreatDoor.Ren
open Go
variable{Eb args tmps:Array YN}{L:List Nat}{a' g':YP}{b cap l r s:Nat}{bP es:Array YX}{cs:List YU}{dst:YT}{fn:Zt}{fr fr':YU}{hc hl':Array Y0}{i:Item}{jump:Option Code}{kt mN:Int}{name:String}{o:Y0}{tm:Bool}{ts:Array YT}{u:FrameMode}{v x:YN}
section
variable {E:Env}{f:Nat->Nat}{n:Nat}
theorem SG{β:Type}{body oC:YN->β->Sem (ForInStep β)}:∀(l:List YN)(n:Nat)(s:β),(∀ v∈l,ah E n v)->(∀ m a s,n<=m->ah E m a->aa E f m EQ (body a s) (oC (rV f a) s))->aa E f n EQ (forIn l s body) (forIn (l.map (rV f)) s oC)
 |[],n,s,_,_=>aa.pure fun _ _=>rfl
 |a::l,n,s,hl,h=>by
  rw[Yi,zw4,zw4];refine(h n a s lQ (hl a sQ)).bind fun m x x' hm hq=>?_
  cases hq;cases x with
  |done b=>exact aa.pure fun _ _=>rfl
  |yield b=>exact SG l m b (fun v hv=>aY hm v (hl v (by simp[hv]))) fun k a s hk=>h k a s (Nat.le_trans hm hk)
theorem SH{β:Type}{body oC:YN->β->Sem (ForInStep β)}{l:Array YN}{s:β}(hl:bj E n l)(h:∀ m a s,n<=m->ah E m a->aa E f m EQ (body a s) (oC (rV f a) s)):aa E f n EQ (forIn l s body) (forIn (l.map (rV f)) s oC):=by
 rw[<-zwB,<-zwB,zsV];exact SG l.toList n s (fun v hv=>hl v (by simpa using hv)) h
theorem zdp(F:Fit E f)(hx:ah E n x):aa E f n (VQ E f) (zyd x) (zyd (rV f x)):=by
 unfold zyd;cases x with
 |slice a len cap=>
  rw[rV];rw[ah]at hx;cases a with
  |none=>exact aa.pure fun _ _=>cJ rfl
  |some a=>
   dsimp only[Option.map_some];refine(Ip F hx len).bind fun m cs cs' hm hq=>?_
   obtain⟨rfl,eX⟩:=hq;refine(SH eX fun k v s hk hv=>?_).bind fun k s s' hk hq=>?_
   ·cases v with
    |int kd z=>rw[rV];cases kd<;>first |exact aa.stuck|exact aa.pure fun _ _=>rfl
    |_=>exact aa.stuck
   ·cases hq;exact aa.pure fun _ _=>cJ rfl
 |_=>exact aa.stuck
theorem zdq(F:Fit E f)(hx:ah E n x):aa E f n (VQ E f) (zye x) (zye (rV f x)):=by
 unfold zye;cases x with
 |slice a len cap=>
  rw[rV];rw[ah]at hx;cases a with
  |none=>exact aa.pure fun _ _=>cJ rfl
  |some a=>
   dsimp only[Option.map_some];refine(Ip F hx len).bind fun m cs cs' hm hq=>?_
   obtain⟨rfl,eX⟩:=hq;refine(SH eX fun k v s hk hv=>?_).bind fun k s s' hk hq=>?_
   ·cases v with
    |int kd z=>rw[rV];cases kd<;>first |exact aa.stuck|exact aa.pure fun _ _=>rfl
    |_=>exact aa.stuck
   ·cases hq;exact aa.pure fun _ _=>cJ rfl
 |_=>exact aa.stuck
theorem SI{cs:Array YN}(h:∀ x∈cs,jA x=true):cs.map (rV f)=cs/\bj E n cs:=⟨zH fun x hx=>zG (h x hx),fun x hx=>uh (h x hx)⟩
theorem L1{t:YT}{cs:Array YN}(h:∀ x∈cs,jA x=true){α:Type}{Q:Nat->α->α->Prop}{g g':YQ->Sem α}(hg:∀ m a,n<=m->E.I m a.block->aa E f m Q (g a) (g' (rA f a))):aa E f n Q (newRow t cs >>= g) (newRow t cs >>= g'):=by
 obtain⟨h1,h2⟩:=SI (E:=E) (f:=f) (n:=n) h;have:=Iu (E:=E) (f:=f) (t:=t) h2 hg;rwa [h1]at this
theorem zdr(F:Fit E f){a:YQ}(hI:E.I n a.block):aa E f n EQ (zzS a) (zzS (rA f a)):=by
 unfold zzS;refine(EA F (r:=a.block) (.inl hI)).bind fun m s s' hm hq=>?_
 cases hq;cases s with
 |none=>exact aa.pure fun _ _=>rfl
 |some p=>exact aa.freeze F (a:={block:=a.block,off:=p.2}) (hI.mono hm)
theorem zds(F:Fit E f){t:YT}{s:ByteArray}:aa E f n (VQ E f) (zyg t s) (zyg t s):=by
 unfold zyg;refine(aa.choose _).bind fun m cap _ hm hq=>?_
 cases hq;refine L1 (fun x hx=>?_) fun k a hk hI=>?_
 ·rcases zr3.1 hx with h|h
  ·obtain⟨b,_,rfl⟩:=ztu.1 h;rfl
  ·rw[zxM h];rfl
 ·refine(zdr F hI).bind fun j _ _ hj _=>?_
  exact aa.pure fun i hi=>zR (a:=some a) (.inl (hI.mono (Yq hj hi)))
theorem SJ(s:ByteArray):∀(b i:Nat)(acc:Array YN),(∀ x∈acc,jA x=true)->∀ x∈zAD s b i acc,jA x=true
 | 0,i,acc,h=>h
 |b+1,i,acc,h=>by
  unfold zAD;split
  ·exact SJ s b _ _ fun x hx=>by
    rcases Array.mem_push.1 hx with h1|rfl
    ·exact h x h1
    ·rfl
  ·exact h
theorem zdt{t:YT}{s:ByteArray}:aa E f n (VQ E f) (zyh t s) (zyh t s):=by
 unfold zyh;refine(aa.choose _).bind fun m cap _ hm hq=>?_
 cases hq;refine L1 (fun x hx=>?_) fun k a hk hI=>?_
 ·rcases zr3.1 hx with h|h
  ·exact SJ s _ _ _ (fun x hx=>by simp at hx) x h
  ·rw[zxM h];rfl
 ·exact aa.pure fun i hi=>zR (a:=some a) (.inl (hI.mono hi))
theorem SK(F:Fit E f){a:YQ}(ha:E.A n a.block):aa E f n (PQ E f) (zyf a) (zyf (rA f a)):=by
 unfold zyf;refine(Im F ha).bind fun m v v' hm hq=>?_
 obtain⟨rfl,hv⟩:=hq;cases v with
 |none=>exact aa.pure fun k hk=>⟨rfl,ha.mono (Yq hm hk)⟩
 |some p=>
  obtain⟨s,u⟩:=p;have hs:=hv s u rfl;dsimp only[Option.map_some];show aa E f m (PQ E f) (if(decide (a.off=0)&&a.spot.isNone)=true then _ else _) (if(decide (a.off=0)&&a.spot.isNone)=true then _ else _);refine aa.ite (fun _=>aa.pure fun k hk=>⟨rfl,hs.mono hk⟩) fun _=>?_
  show aa E f m (PQ E f) (if(a.spot.isSome||s.spot.isSome)=true then _ else _) (if(a.spot.isSome||s.spot.isSome)=true then _ else _);refine aa.ite (fun _=>aa.jR sQ) fun _=>?_
  refine aa.program ?_;show aa E f m (PQ E f) (match byteOfCell E.P E.P.depth u a.off with|some β=>_|_=>_) (match byteOfCell E.P E.P.depth u a.off with|some β=>_|_=>_);cases byteOfCell E.P E.P.depth u a.off with
  |none=>exact aa.unsupported sQ
  |some β=>
   dsimp only;refine(aa.shape F hs).bind fun k z z' hk hq=>?_
   rcases hq with rfl|⟨_,rfl,_⟩
   ·cases z' with
    |none=>exact aa.unsupported sQ
    |some q=>
     obtain⟨e,c⟩:=q;dsimp only;refine aa.ite (fun _=>aa.jR sQ) fun _=>?_
     show aa E f k (PQ E f) (match cellAtBytes E.P E.P.depth e (c/E.P.cellsOf e) s.off β with|some c=>_|_=>_) (match cellAtBytes E.P E.P.depth e (c/E.P.cellsOf e) s.off β with|some c=>_|_=>_);cases cellAtBytes E.P E.P.depth e (c/E.P.cellsOf e) s.off β with
     |none=>exact aa.unsupported sQ
     |some c=>exact aa.pure fun j hj=>⟨rfl,hs.mono (Yq hk hj)⟩
   ·exact aa.unsupported sQ
theorem IE{t:YT}{a:YQ}(ha:E.A n a.block)(hV:E.V t=true):aa E f n (VQ E f) (newObj (.view a t) >>= fun r=>YZ (pQ r)) (newObj (.view (rA f a) t) >>= fun r=>YZ (pQ r)):=by
 refine(aa.newObj (o:=.view a t) ⟨ha,hV⟩).bind fun k r r' hk hq=>?_
 obtain⟨rfl,hI⟩:=hq;exact aa.pure fun j hj=>qF (a:=(aQ r 0)) (.inl (hI.mono hj))
theorem zdu{α:Type}{Q:Nat->α->α->Prop}{t:Sem α}{g:Option (YT×Nat)->Sem α}(hO:E.O r)(h:∀ t,aa E f n Q (g none) t):aa E f n Q (shape r >>= g) t:=by
 intro hl w hr hn bG;obtain⟨c,e,c',h1,_⟩:=hr.op r hO;obtain⟨l,x,hl',ha,hs,hc⟩:=h t hl w hr hn bG;refine⟨l,x,hl',fun v es hv rZ=>?_,hs,hc⟩;obtain⟨y,cD,hy,dW⟩:=ha v es hv rZ;refine⟨y,cD,?_,dW⟩;subst hv;rw[ey,sf,EC h1];exact hy
theorem SL(F:Fit E f){a:YQ}(ha:E.A n a.block)(u:YT)(k:Nat):aa E f n (fun _ b b'=>b'=b\/(E.O a.block/\b=false)) (zAb a u k) (zAb (rA f a) u k):=by
 unfold zAb;refine aa.program ?_;refine(aa.shape F ha).bind fun m s s' hm hq=>?_
 rcases hq with rfl|⟨hO,rfl,e,j,_,rfl⟩
 ·cases s' with
  |none=>exact aa.pure fun _ _=>.inl rfl
  |some p=>exact aa.pure fun _ _=>.inl rfl
 ·exact aa.pure fun _ _=>.inr ⟨hO,rfl⟩
def B1(E:Env)(src dst:YT):Bool:=match E.P.underlying src,E.P.underlying dst with
 |some (.int _),some (.int _)=>true
 |some (.int _),some .string=>true
 |some .string,some .string=>true
 |some (.slice _),some .string=>true
 |some .string,some (.slice _)=>true
 |some (.pointer t),some .unsafePointer=>E.V t
 |some .unsafePointer,some (.pointer u)=>E.V u
 |_,_=>false
theorem zdv(F:Fit E f){src:YT}(hx:ah E n x)(hc:B1 E src dst=true):aa E f n (VQ E f) (zyi src dst x) (zyi src dst (rV f x)):=by
 unfold zyi;refine dT fun d1 h1=>dT fun d2 h2=>?_
 cases x with
 |pointer a=>
  rw[rV];rw[ah]at hx;cases d1 with
  |pointer t=>
   cases d2 with
   |unsafePointer=>
    have hV:E.V t=true:=by unfold B1 at hc;rw[h1,h2]at hc;exact hc
    cases a with
    |none=>exact aa.pure fun _ _=>cJ rfl
    |some a=>
     dsimp only[Option.map_some];refine(SK F hx).bind fun m s s' hm hq=>?_
     obtain⟨rfl,hs⟩:=hq;refine(zcE F hs).bind fun k c c' hk hq=>?_
     cases hq;refine aa.same (kJ t) fun z=>?_
     have hp:aa E f k (VQ E f) (YZ (.pointer (some s))) (YZ (.pointer (some (rA f s)))):=aa.pure fun j hj=>qF (hs.mono (Yq hk hj))
     cases c with
     |none=>exact aa.ite (fun _=>IE (hs.mono hk) hV) fun _=>hp
     |some c=>exact aa.ite (fun _=>IE (hs.mono hk) hV) fun _=>hp
   |_=>exact aa.stuck
  |unsafePointer=>
   cases d2 with
   |pointer u=>
    have hV:E.V u=true:=by unfold B1 at hc;rw[h1,h2]at hc;exact hc
    cases a with
    |none=>exact aa.pure fun _ _=>cJ rfl
    |some a=>
     dsimp only[Option.map_some];refine(SK F hx).bind fun m s s' hm hq=>?_
     obtain⟨rfl,hs⟩:=hq;refine aa.same (kJ u) fun z=>?_
     have hp:∀ k,m<=k->aa E f k (VQ E f) (YZ (.pointer (some s))) (YZ (.pointer (some (rA f s)))):=fun k hk=>aa.pure fun j hj=>qF (hs.mono (Yq hk hj))
     have hw:∀ k,m<=k->∀ y y':Option (YT×Nat),(y'=y\/y=none)->aa E f k (VQ E f)
       (match y with|some (e,_)=>(program >>= fun p=>program >>= fun q=>if p.holdsStoodIn q.depth e=true then(unsupported (.unsafePointer "memory that holds a struct of a package that the model stands in for, seen as another type") >>= fun _:Unit=>newObj (.view s u) >>= fun r=>YZ (pQ r))else newObj (.view s u) >>= fun r=>YZ (pQ r))|none=>(unsupported (.unsafePointer "memory that has no shape (a package-level variable that still waits for its initialiser), seen as another type") >>= fun _:Unit=>newObj (.view s u) >>= fun r=>YZ (pQ r)))
       (match y' with|some (e,_)=>(program >>= fun p=>program >>= fun q=>if p.holdsStoodIn q.depth e=true then(unsupported (.unsafePointer "memory that holds a struct of a package that the model stands in for, seen as another type") >>= fun _:Unit=>newObj (.view (rA f s) u) >>= fun r=>YZ (pQ r))else newObj (.view (rA f s) u) >>= fun r=>YZ (pQ r))|none=>(unsupported (.unsafePointer "memory that has no shape (a package-level variable that still waits for its initialiser), seen as another type") >>= fun _:Unit=>newObj (.view (rA f s) u) >>= fun r=>YZ (pQ r))):=fun k hk y y' hy=>by
      rcases hy with rfl|rfl
      ·cases y' with
       |none=>exact aa.jR sQ
       |some p=>
        refine aa.program (aa.program ?_);exact aa.ite (fun _=>aa.jR sQ) fun _=>IE (hs.mono hk) hV
      ·exact aa.jR sQ
     refine(SL F hs u 1).bind fun k b b' hk hq=>?_
     by_cases hz:z=0
     ·simp only[hz,decide_true,Bool.true_or,YI];exact hp k hk
     ·simp only[hz,decide_false,zwF];rcases hq with rfl|⟨hO,rfl⟩
      ·refine aa.ite (fun _=>hp k hk) fun _=>?_
       refine(aa.shape F (hs.mono hk)).bind fun j y y' hj hq=>?_
       refine hw j (Yq hk hj) y y' ?_;rcases hq with hq|⟨_,hq,_⟩
       ·exact .inl hq
       ·exact .inr hq
      ·simp only[X8,YF];exact zdu hO fun t=>aa.jR sQ
   |unsafePointer=>exact aa.pure fun _ hj=>⟨by rw[rV],by rw[ah];exact zK hx hj⟩
   |int k=>
    cases a with
    |none=>exact aa.pure fun _ _=>cJ rfl
    |some a=>exact Sz hx
   |_=>exact aa.stuck
  |int k=>cases d2<;>cases a<;>first |exact aa.stuck|exact aa.unsupported sQ
  |_=>exact aa.stuck
 |int k z=>
  cases d1<;>cases d2<;>first |exact aa.stuck|(rcases z with (_|_)|_<;>exact aa.unsupported sQ)
 |_=>cases d1<;>cases d2<;>exact aa.stuck
theorem zdw(F:Fit E f){src:YT}(hx:ah E n x)(hc:B1 E src dst=true):aa E f n (VQ E f) (convert src dst x) (convert src dst (rV f x)):=by
 have xU:=zdv F hx hc;unfold convert;refine dT fun d1 h1=>dT fun d2 h2=>?_
 unfold B1 at hc;rw[h1,h2]at hc;cases d1 with
 |int k1=>
  cases d2 with
  |int k=>
   cases x with
   |float _ _=>rw[ah]at hx;exact hx.elim
   |int kd z=>rw[rV];exact aa.pure fun _ _=>cJ rfl
   |pointer a=>cases a<;>exact aa.unsupported sQ
   |_=>exact aa.unsupported sQ
  |string=>
   cases x with
   |int kd z=>rw[rV];exact aa.pure fun _ _=>cJ rfl
   |string z=>rw[rV];exact aa.pure fun _ _=>cJ rfl
   |pointer a=>cases a<;>exact aa.unsupported sQ
   |_=>exact aa.unsupported sQ
  |_=>cases hc
 |string=>
  cases d2 with
  |string=>
   cases x with
   |int kd z=>rw[rV];exact aa.pure fun _ _=>cJ rfl
   |string z=>rw[rV];exact aa.pure fun _ _=>cJ rfl
   |_=>exact aa.unsupported sQ
  |slice e=>
   cases x with
   |string z=>
    rw[rV];dsimp only;refine dT fun d3 h3=>?_
    cases d3 with
    |int k=>cases k<;>first |exact aa.stuck|exact zds F|exact zdt
    |_=>exact aa.stuck
   |slice a l c=>cases a<;>exact aa.unsupported sQ
   |_=>exact aa.unsupported sQ
  |_=>cases hc
 |slice e=>
  cases d2 with
  |string=>
   cases x with
   |int kd z=>rw[rV];exact aa.pure fun _ _=>cJ rfl
   |string z=>rw[rV];exact aa.pure fun _ _=>cJ rfl
   |_=>
    have hb:=zdp F hx;have hr:=zdq F hx;rw[rV]at hb hr⊢;dsimp only;refine dT fun d3 h3=>?_
    cases d3 with
    |int k=>cases k<;>first |exact aa.stuck|exact hb|exact hr
    |_=>exact aa.stuck
  |_=>cases hc
 |pointer t=>
  cases d2 with
  |unsafePointer=>exact xU
  |_=>cases hc
 |unsafePointer=>
  cases d2 with
  |pointer u=>exact xU
  |_=>cases hc
 |_=>cases hc
end
section
variable {E:Env}{f:Nat->Nat}{n:Nat}
theorem SM(P:Y2)(a:YQ)(k:Nat)(w:YM)(es:Array YX):∃ b,(zx2 a k).runT P w es=(.ok b w,es):=by
 unfold zx2;rw[ey,sf];dsimp only;cases w.shape? a.block with
 |none=>exact⟨_,rfl⟩
 |some p=>exact⟨_,rfl⟩
theorem zdx(P:Y2)(size l k:Nat)(base:Option YQ)(x:YN)(w:YM)(es:Array YX):∃ b,(zAA size l k base x).runT P w es=(.ok b w,es):=by
 have tail:∃ b,(match x with|.slice (some b) _ _=>(zx2 b (k*size) >>= fun h=>YZ (!h||base.any (·.block==b.block)))|_=>YZ false:Sem Bool).runT P w es=(.ok b w,es):=by
  cases x with
  |slice a _ _=>
   cases a with
   |none=>exact⟨_,rfl⟩
   |some b=>
    obtain⟨h,hh⟩:=SM P b (k*size) w es;exact⟨_,by rw[ey,hh];rfl⟩
  |_=>exact⟨_,rfl⟩
 unfold zAA;cases base with
 |none=>exact tail
 |some a=>
  obtain⟨h,hh⟩:=SM P a (l*size) w es;dsimp only;rw[ey,hh];dsimp only;rw[ey,Iz];dsimp only;cases h with
  |false=>exact⟨true,rfl⟩
  |true=>
   cases w.frozen? (a.add (l/2*size))with
   |true=>exact⟨true,rfl⟩
   |false=>exact tail
theorem SN:aa E f n EQ (zAz x) (zAz (rV f x)):=by
 cases x with
 |slice a l c=>rw[rV];exact aa.pure fun _ _=>rfl
 |string s=>rw[rV];exact aa.pure fun _ _=>rfl
 |_=>exact aa.stuck
theorem IG(F:Fit E f){size k:Nat}(hx:ah E n x):aa E f n (AQ E f) (zAy size k x) (zAy size k (rV f x)):=by
 cases x with
 |slice a l c=>
  rw[rV];rw[ah]at hx;cases a with
  |none=>exact aa.pure fun _ _=>⟨sQ,xS⟩
  |some a=>exact Ip F hx _
 |string s=>
  rw[rV];refine aa.pure fun m _=>?_
  obtain⟨h1,h2⟩:=SI (E:=E) (f:=f) (n:=m) (cs:=(s.extract 0 k).data.map fun b=>.int .u8 b.toNat) fun x hx=>by
   obtain⟨b,_,rfl⟩:=ztu.1 hx;rfl
  exact⟨h1.symm,h2⟩
 |_=>exact aa.stuck
theorem SP{zs:Array YN}(h1:zs.map (rV f)=zs)(h2:bj E n zs)(k:Nat):(zut zs k).map (rV f)=zut zs k/\bj E n (zut zs k):=LK h1 h2 (k*zs.size) (fun i=>i%zs.size)
def zS(P:Y2)(t:YT):Bool:=match P.underlying t with
 |some (.slice e)=>oB P e
 |_=>true
theorem II{P:Y2}{t e:YT}(h:zS P t=true)(he:P.underlying t=some (.slice e)):oB P e=true:=by
 unfold zS at h;rw[he]at h;exact h
def L3(P:Y2)(ts:Array YT):Bool:=(match ts[0]? with|some s=>zS P s|none=>true)&&(match ts[1]? with
 |some t=>match P.underlying t with
  |some (.int _)=>false
  |_=>true
 |none=>true)
theorem zdy(F:Fit E f)(H:bD E){t:YT}(ha:bj E n args)(hz:L3 E.P ts=true):aa E f n (VQ E f) (zwH ts t args) (zwH ts t (args.map (rV f))):=by
 unfold zwH;rw[XZ,XZ];unfold L3 at hz;rw[X6]at hz;obtain⟨bf,bK⟩:=hz;cases h0:ts[0]? with
 |none=>exact aa.stuck
 |some sT=>
  rw[h0]at bf;cases h1:args[0]? with
  |none=>exact aa.stuck
  |some s=>
   cases h2:args[1]? with
   |none=>exact aa.stuck
   |some x=>
    have hs:=qC ha h1;have hx:=qC ha h2;dsimp only[Option.map_some];refine dT fun d hd=>?_
    cases d with
    |slice elem=>
     have hze:=II bf hd;cases s with
     |slice base L4 zrk=>
      rw[rV];dsimp only;refine aa.same (kJ elem) fun size=>?_
      have hb:ow E n base:=by rw[ah]at hs;exact hs
      have bo:∀{m},n<=m->ow E m base:=fun hm=>zK hb hm
      rcases h3:ts[1]? with _|xt;rotate_left
      rw[h3]at bK;dsimp only at bK⊢;refine dT fun d3 nG=>?_
      rw[nG]at bK;refine aa.bind (Q:=fun _ b b'=>b'=b/\b=false) (aa.pure fun _ _=>⟨rfl,by cases d3<;>first |rfl|cases bK⟩) fun m0 z z' vW hz=>?_
      rotate_left
      dsimp only;refine aa.bind (Q:=fun _ b b'=>b'=b/\b=false) (aa.pure fun _ _=>⟨rfl,rfl⟩) fun m0 z z' vW hz=>?_
      all_goals
       obtain⟨rfl,rfl⟩:=hz;simp only[X8,YF,Bool.not_false,YI,false_or];refine SN.bind fun m1 k k' cG hk=>?_
       obtain rfl:=hk;have lp:=aY (Yq vW cG) _ hx;refine aa.ite (fun _=>?_) fun _=>?_
       ·refine(IG F lp).bind fun m2 cs cs' aK eX=>?_
        obtain⟨rfl,eX⟩:=eX;cases base with
        |none=>exact aa.pure fun _ _=>⟨by simp[rV],by rw[ah];trivial⟩
        |some a=>
         dsimp only[Option.map_some];rw[zsV,ui];have hA:E.A m2 a.block:=Env.A.mono hb oQ;refine(ED F cs.toList 0 m2 (by rw[block_add];exact hA) fun v hv=>eX v (by simpa using hv)).bind fun m3 _ _ gu _=>?_
         exact aa.pure fun m4 jS=>⟨by rw[rV];rfl,by rw[ah];exact Env.A.mono hb oQ⟩
       ·refine Ez fun i hi=>?_
        refine aa.ite (fun _=>zQ F H) fun _=>?_
        refine Ez fun i2 qG=>?_
        refine aa.ite (fun _=>?_) fun _=>?_
        ·intro hl w _ _ _;refine aa.bad fun v es hv=>?_
         obtain⟨b,gl⟩:=zdx E.P size L4 k' base x v es;cases b with
         |false=>exact⟨.unsupported (.resourceLimit "append: a slice or a string whose bytes no memory bears"),v,_,trivial,by rw[bind_assoc,ey,gl];rfl⟩
         |true=>exact⟨.unsupported (.resourceLimit "append: a slice or a string whose bytes no memory bears"),v,_,trivial,by rw[bind_assoc,ey,gl];rfl⟩
        ·refine(aa.choose _).bind fun m2 c c' aK hc=>?_
         obtain rfl:=hc;refine Ez fun i3 hi3=>?_
         refine(LH _).bind fun m3 _ _ gu _=>?_
         have ho:=IG F (size:=size) (k:=L4) (aY (show n<=m3 by omega) _ hs);rw[rV]at ho;refine ho.bind fun m4 old zrl jS hold=>?_
         obtain⟨rfl,hold⟩:=hold;refine(IG F (aY oQ _ lp)).bind fun m5 cs cs' SQ eX=>?_
         obtain⟨rfl,eX⟩:=eX;refine(BR hze).bind fun m6 z z' qH hz=>?_
         obtain⟨rfl,hz⟩:=hz;obtain⟨Hw,L5⟩:=EI (E:=E) (f:=f) (n:=m6) hz;obtain⟨pG,kK⟩:=SP Hw L5 (c'-(L4+k'));have e:=YC (fun zz=>old.map (rV f)++cs.map (rV f)++zz) pG;rw[<-e,<-zur,<-zur];refine Iu (zI (zI (eF hold oQ) (eF eX oQ)) kK) fun m7 a hm7 ha=>?_
         exact aa.pure fun m8 IJ=>⟨by rw[rV];rfl,by rw[ah];exact .inl (ha.mono IJ)⟩
     |_=>exact aa.stuck
    |_=>exact aa.stuck
theorem pH(k:Nat)(m:Nat):VQ E f m (goInt k) (goInt k):=⟨by rw[goInt,rV],by rw[goInt,ah]<;>simp⟩
theorem zdz{t:YT}(ha:bj E n args):aa E f n (VQ E f) (zx0 ts t args) (zx0 ts t (args.map (rV f))):=by
 unfold zx0;rw[XZ];cases h0:ts[0]? with
 |none=>exact aa.stuck
 |some sT=>
  cases h1:args[0]? with
  |none=>exact aa.stuck
  |some x=>
   have hx:=qC ha h1;dsimp only[Option.map_some];refine dT fun d hd=>?_
   cases d with
   |array k e=>exact aa.pure fun _ _=>pH _ _
   |pointer a=>
    refine dT fun d2 R9=>?_
    cases d2 with
    |array k e=>exact aa.pure fun _ _=>pH _ _
    |_=>exact aa.stuck
   |slice e=>
    cases x with
    |slice a l c=>rw[rV];exact aa.pure fun _ _=>pH _ _
    |_=>exact aa.stuck
   |chan a b=>
    cases x with
    |chan r=>
     rw[ah]at hx;subst hx;rw[rV];exact aa.pure fun _ _=>pH _ _
    |_=>exact aa.stuck
   |_=>exact aa.stuck
theorem zdA{t:YT}(ha:bj E n args):aa E f n (VQ E f) (zx3 ts t args) (zx3 ts t (args.map (rV f))):=by
 unfold zx3;rw[XZ];cases h0:ts[0]? with
 |none=>exact aa.stuck
 |some sT=>
  cases h1:args[0]? with
  |none=>exact aa.stuck
  |some x=>
   have hx:=qC ha h1;dsimp only[Option.map_some];refine dT fun d hd=>?_
   cases d with
   |array k e=>exact aa.pure fun _ _=>pH _ _
   |pointer a=>
    refine dT fun d2 R9=>?_
    cases d2 with
    |array k e=>exact aa.pure fun _ _=>pH _ _
    |_=>exact aa.stuck
   |slice e=>
    cases x with
    |slice a l c=>rw[rV];exact aa.pure fun _ _=>pH _ _
    |_=>exact aa.stuck
   |string=>
    cases x with
    |string s=>rw[rV];exact aa.pure fun _ _=>pH _ _
    |_=>exact aa.stuck
   |map a b=>
    cases x with
    |map r=>
     rw[ah]at hx;rw[rV];cases r with
     |none=>exact aa.pure fun _ _=>pH _ _
     |some r=>
      refine aa.getObj (.inl (hx r rfl)) (fun m o _ _ ho=>?_) fun hO c e t=>aa.stuck
      cases o with
      |map es k=>
       show aa E f m (VQ E f) (YZ (goInt es.size)) (YZ (goInt (es.map (rE f)).size));rw[zt6];exact aa.pure fun _ _=>pH _ _
      |_=>exact aa.stuck
    |_=>exact aa.stuck
   |chan a b=>
    cases x with
    |chan r=>
     rw[ah]at hx;subst hx;rw[rV];exact aa.pure fun _ _=>pH _ _
    |_=>exact aa.stuck
   |_=>exact aa.stuck
theorem zdB(F:Fit E f){t:YT}(ha:bj E n args):aa E f n (VQ E f) (zx1 ts t args) (zx1 ts t (args.map (rV f))):=by
 unfold zx1;rw[XZ,XZ];cases h0:ts[0]? with
 |none=>exact aa.stuck
 |some sT=>
  cases h1:args[0]? with
  |none=>exact aa.stuck
  |some s=>
   cases h2:args[1]? with
   |none=>exact aa.stuck
   |some x=>
    have hs:=qC ha h1;have hx:=qC ha h2;dsimp only[Option.map_some];refine dT fun d hd=>?_
    cases d with
    |slice elem=>
     cases s with
     |slice base zrm zrn=>
      rw[rV];rw[ah]at hs;dsimp only;refine SN.bind fun m1 k k' cG hk=>?_
      obtain rfl:=hk;refine aa.same (kJ elem) fun size=>?_
      refine(IG F (aY cG _ hx)).bind fun m2 cs cs' aK eX=>?_
      obtain⟨rfl,eX⟩:=eX;cases base with
      |none=>exact aa.pure fun _ _=>pH _ _
      |some a=>
       dsimp only[Option.map_some];rw[zsV];refine(ED F cs.toList 0 m2 (Env.A.mono hs oQ) fun v hv=>eX v (by simpa using hv)).bind fun m3 _ _ gu _=>?_
       exact aa.pure fun _ _=>pH _ _
     |_=>exact aa.stuck
    |_=>exact aa.stuck
theorem B2(m:Nat):VQ E f m (.tuple #[]) (.tuple #[]):=⟨(Er f).symm,zJ E m⟩
theorem zdC(F:Fit E f){t:YT}(ha:bj E n args)(hz:∀ s,ts[0]?=some s->zS E.P s=true):aa E f n (VQ E f) (zvG ts t args) (zvG ts t (args.map (rV f))):=by
 unfold zvG;rw[XZ];cases h0:ts[0]? with
 |none=>exact aa.stuck
 |some sT=>
  have hz:=hz sT h0;cases h1:args[0]? with
  |none=>exact aa.stuck
  |some x=>
   have hx:=qC ha h1;dsimp only[Option.map_some];refine dT fun d hd=>?_
   cases x with
   |map r=>
    rw[ah]at hx;rw[rV];cases r with
    |none=>exact aa.pure fun _ _=>B2 _
    |some r=>
     refine aa.getObj (.inl (hx r rfl)) (fun m o hm hI ho=>?_) fun hO c e t=>aa.iu
     cases o with
     |map es k=>
      have h5:aa E f m EQ (setObj r (.map #[] k)) (setObj (f r) (.map #[] k)):=by
       have h6:=aa.setObj F hI (o:=.map #[] k) (fun e he=>by simp at he);rwa [show rO f (.map #[] k)=.map #[] k by simp[rO]]at h6
      exact h5.bind fun _ _ _ _ _=>aa.pure fun _ _=>B2 _
     |_=>exact aa.iu
   |slice a l c=>
    rw[ah]at hx;rw[rV];cases a with
    |none=>exact aa.pure fun _ _=>B2 _
    |some a=>
     cases l with
     |zero=>exact aa.pure fun _ _=>B2 _
     |succ l=>
      cases d with
      |slice elem=>
       refine(BR (II hz hd)).bind fun m6 z z' qH hz=>?_
       obtain⟨rfl,hz⟩:=hz;obtain⟨Hw,L5⟩:=EI (E:=E) (f:=f) (n:=m6) hz;obtain⟨pG,kK⟩:=SP Hw L5 (l+1);have e:(zut z'.cells (l+1)).toList=(zut z'.cells (l+1)).toList.map (rV f):=by
        conv=>lhs;rw[<-pG]
        rw[zsV]
       have h5:=ED (f:=f) F (a:=a) (zut z'.cells (l+1)).toList 0 m6 (Env.A.mono hx qH) fun v hv=>kK v (by simpa using hv)
       rw[<-e]at h5;exact h5.bind fun _ _ _ _ _=>aa.pure fun _ _=>B2 _
      |_=>exact aa.iu
   |_=>exact aa.iu
theorem zdD{a b:YN}(ha:ah E n a):aa E f n (VQ E f) (zvH a b) (zvH (rV f a) (rV f b)):=by
 cases a with
 |int k x=>
  rw[rV];cases b with
  |int k2 y=>rw[rV];exact aa.pure fun _ _=>⟨by rw[rV],by rw[ah]<;>simp⟩
  |pointer a=>cases a<;>first |exact aa.stuck|exact aa.unsupported sQ
  |_=>exact aa.stuck
 |float _ _=>rw[ah]at ha;exact ha.elim
 |string x=>
  rw[rV];cases b with
  |string y=>
   rw[rV];unfold zvH;refine(Sx (op:=.geq) (x:=x) (y:=y)).bind fun m v v' _ hv=>?_
   obtain⟨rfl,hv⟩:=hv;refine RX.bind fun m b b' _ hb=>?_
   obtain rfl:=hb;exact aa.pure fun _ _=>⟨by rw[rV],by rw[ah]<;>simp⟩
  |pointer a=>cases a<;>first |exact aa.stuck|exact aa.unsupported sQ
  |_=>exact aa.stuck
 |pointer a=>
  cases a with
  |none=>
   cases b with
   |pointer a=>cases a<;>first |exact aa.stuck|exact aa.unsupported sQ
   |_=>exact aa.stuck
  |some a=>cases b<;>exact aa.unsupported sQ
 |_=>
  cases b with
  |pointer a=>cases a<;>first |exact aa.stuck|exact aa.unsupported sQ
  |_=>exact aa.stuck
theorem SR:∀(l:List YN)(n:Nat)(a:YN),ah E n a->(∀ v∈l,ah E n v)->aa E f n (VQ E f) (l.foldlM zvH a) ((l.map (rV f)).foldlM zvH (rV f a))
 |[],n,a,ha,_=>aa.pure fun _ hm=>⟨rfl,aY hm _ ha⟩
 |b::l,n,a,ha,hl=>by
  rw[Yi,zw2,zw2];refine(zdD ha).bind fun m v v' hm hv=>?_
  obtain⟨rfl,hv⟩:=hv;exact SR l m v hv fun x hx=>aY hm _ (hl x (.tail _ hx))
theorem zdE{t:YT}(ha:bj E n args):aa E f n (VQ E f) (zx4 ts t args) (zx4 ts t (args.map (rV f))):=by
 unfold zx4;rw[zsV];have hl:∀ v∈args.toList,ah E n v:=fun v hv=>ha v (by simpa using hv)
 cases h:args.toList with
 |nil=>exact aa.stuck
 |cons x l=>
  rw[h]at hl;exact SR l n x (hl x (.head _)) fun v hv=>hl v (.tail _ hv)
theorem zdF{α:Type}{Q:Nat->α->α->Prop}{a:YQ}(hO:E.O a.block){g:YN->Sem α}{t:Sem α}:aa E f n Q (load a >>= g) t:=by
 intro hl w hr hn bG;obtain⟨c,e,c',h1,_⟩:=hr.op a.block hO;refine aa.bad fun v es dM=>?_
 subst dM;refine⟨.unsupported (.initOrder a.block),v,es,hO,?_⟩;rw[ey,oy,qD h1 rfl];simp only[World.farLoad,World.noCell,h1]
theorem SU(F:Fit E f):∀(k n:Nat)(a:YQ)(acc:ByteArray),E.A n a.block->aa E f n (fun m b b'=>b'=b/\(k≠0->E.I m a.block)) (zyp a acc k) (zyp (rA f a) acc k)
 | 0,n,a,acc,hA=>aa.pure fun _ _=>⟨rfl,fun h=>absurd rfl h⟩
 |k+1,n,a,acc,hA=>by
  unfold zyp;rcases zwO (E.O a.block)with hO|hO
  ·exact zdF hO
  refine(aa.load F hA).bind fun m v v' hm hv=>?_
  obtain⟨⟨rfl,hv⟩,iU⟩:=hv;cases v with
  |int kk b=>
   rw[rV];cases kk with
   |u8=>
    rw[ui];refine(SU F k m (a.add 1) _ (by rw[block_add];exact hA.mono hm)).mono lQ fun m2 _ _ aK hq=>⟨hq.1,fun _=>?_⟩
    rcases hA with h|h|h
    ·exact h.mono (Yq hm aK)
    ·exact(iU h).elim
    ·exact absurd h hO
   |_=>exact aa.stuck
  |_=>exact aa.stuck
theorem zdG(F:Fit E f)(H:bD E){t:YT}(ha:bj E n args):aa E f n (VQ E f) (zx6 ts t args) (zx6 ts t (args.map (rV f))):=by
 obtain⟨l⟩:=args;match l with
 |[]=>exact aa.stuck
 |[_]=>exact aa.stuck
 |_::_::_::_=>exact aa.stuck
 |[x,y]=>
  have hx:ah E n x:=ha x sQ;rw[Yk,Yi,Yi,Yj];cases x with
  |pointer a=>
   rw[ah]at hx;rw[rV];unfold zx6;dsimp only;refine BW.bind fun m k k' hm hk=>?_
   obtain rfl:=hk;cases ts[0]? with
   |none=>exact aa.stuck
   |some pt=>
    dsimp only;refine aa.ite (fun _=>zQ F H) fun _=>?_
    refine aa.ite (fun _=>aa.jR sQ) fun _=>?_
    cases a with
    |none=>
     refine aa.ite (fun _=>aa.pure fun _ _=>cJ rfl) fun _=>nC F H _
    |some a=>
     dsimp only[Option.map_some];refine aa.ite (fun _=>aa.pure fun _ _=>cJ rfl) fun hk=>?_
     refine aa.same (LF pt) fun e=>?_
     have hA:E.A m a.block:=Env.A.mono hx hm;refine(SL F hA e _).bind fun m2 b b' aK hb=>?_
     rcases hb with rfl|⟨_,rfl⟩
     ·cases b' with
      |false=>exact aa.unsupported sQ
      |true=>
       refine(SU F k'.toNat m2 a _ (hA.mono aK)).bind fun m3 s s' gu hs=>?_
       obtain⟨rfl,hs⟩:=hs;have hI:=hs oQ;refine(aa.freeze F hI).bind fun _ _ _ _ _=>aa.pure fun _ _=>cJ rfl
     ·exact aa.unsupported sQ
  |_=>exact aa.stuck
def L6(E:Env)(t:YT):Bool:=match E.P.underlying t with
 |some (.pointer e)=>E.V e
 |_=>true
theorem zdH(F:Fit E f){t:YT}(ha:bj E n args)(hV:L6 E t=true):aa E f n (VQ E f) (zx5 ts t args) (zx5 ts t (args.map (rV f))):=by
 obtain⟨l⟩:=args;match l with
 |[]=>exact aa.stuck
 |_::_::_=>exact aa.stuck
 |[x]=>
  have hx:ah E n x:=ha x sQ;rw[Yk,Yi,Yj];cases x with
  |slice a l c=>
   rw[ah]at hx;rw[rV];cases a with
   |none=>exact aa.pure fun _ _=>cJ rfl
   |some a=>
    dsimp only[Option.map_some];unfold zx5;refine aa.ite (fun _=>aa.pure fun _ hm=>qF (Env.A.mono hx hm)) fun _=>?_
    refine(Im F hx).bind fun m v v' hm hq=>?_
    obtain⟨rfl,hv⟩:=hq;cases v with
    |some p=>exact aa.pure fun _ aK=>qF (Env.A.mono hx (Yq hm aK))
    |none=>
     unfold elemOf;simp only[bind_assoc,zwa,Option.isSome_none,X8,YF];refine dT fun d hd=>?_
     unfold L6 at hV;rw[hd]at hV;cases d with
     |pointer e=>exact IE (Env.A.mono hx hm) hV
     |_=>exact aa.iu
  |_=>exact aa.stuck
end
def NQ(E:Env)(f:Nat->Nat)(m:Nat):Y9->Y9->Prop
 |.value v,x=>x=.value (rV f v)/\ah E m v
 |.skip,x=>x=.skip
 |.enter g args,x=>x=.enter g (args.map (rV f))/\E.T g=true/\bj E m args
 |.round l g tmps a b,x=>x=.round (f l) g (tmps.map (rV f)) a b/\E.I m l/\E.T g=true/\bj E m tmps/\E.C a=true/\E.C b=true
 |.defer d,x=>x=.defer (rD f d)/\pD E m d
 |.recover,x=>x=.recover
 |_,_=>False
section
variable {E:Env}{f:Nat->Nat}{n:Nat}
theorem fq{s s':Sem YN}(h:aa E f n (VQ E f) s s'):aa E f n (NQ E f) (s >>= fun x=>YZ (.value x)) (s' >>= fun x=>YZ (.value x)):=
 h.bind fun m v v' _ hq=>aa.pure fun k hk=>⟨by rw[hq.1],aY hk _ hq.2⟩
theorem IK{α:Type}{Q:Nat->α->α->Prop}{s s':Sem α}(h:aa E f n Q s s'):aa E f n (NQ E f) (s >>= fun _=>YZ .skip) (s' >>= fun _=>YZ .skip):=
 h.bind fun _ _ _ _ _=>aa.pure fun _ _=>rfl
def LQ(E:Env)(f:Nat->Nat)(m:Nat)(l l':Loop):Prop:=l'=rL f l/\Em E m l
theorem zdI{m:Nat}(hm:n<=m){l:Loop}(h:Em E n l):Em E m l:=Ev (o:=.loop l) h hm
theorem EN(hI:E.I n l):aa E f n (LQ E f) (zyC l) (zyC (f l)):=by
 unfold zyC;refine aa.getObj (.inl hI) (fun m o hm _ ho=>?_) fun _ _ _ _=>aa.stuck
 cases o with
 |loop l=>exact aa.pure fun k hk=>⟨rfl,zdI hk ho⟩
 |_=>exact aa.stuck
def SV(E:Env)(f:Nat->Nat)(m:Nat)(x x':Nat×List Deferred):Prop:=x'=(f x.1,x.2.map (rD f))/\E.I m x.1/\∀ d∈x.2,pD E m d
theorem zdJ{params:Array Tmp}{assign body:Code}{around:Option Nat}(hT:E.T fn=true)(ht:bj E n tmps)(hC:E.C assign=true)(hD:E.C body=true)(ha:∀ l,around=some l->E.I n l):
  aa E f n (SV E f) (zyx fn tmps params assign body around) (zyx fn (tmps.map (rV f)) params assign body (around.map f)):=by
 unfold zyx;have fin:∀ m d mk,n<=m->E.I m d->(∀ x∈mk,pD E m x)->aa E f m (SV E f) (newObj (.loop {state:=.ready,pending:=none,fn,tmps,params,assign,body,defers:=d}) >>= fun r=>YZ (r,mk)) (newObj (.loop {state:=.ready,pending:=none,fn,tmps:=tmps.map (rV f),params,assign,body,defers:=f d}) >>= fun r=>YZ (r,mk.map (rD f))):=fun m d mk hm hd hk=>by
  refine(aa.newObj (o:=.loop {state:=.ready,pending:=none,fn,tmps,params,assign,body,defers:=d}) ⟨hT,eF ht hm,hC,hD,hd,fun c hc=>by cases hc⟩).bind fun m2 r r' aK hr=>?_
  obtain⟨rfl,hI⟩:=hr;exact aa.pure fun k tZ=>⟨rfl,hI.mono tZ,fun x hx=>Eu (hk x hx) (Yq aK tZ)⟩
 cases around with
 |some l=>
  dsimp only[Option.map_some];refine(EN (ha l rfl)).bind fun m r r' hm hr=>?_
  obtain⟨rfl,hr⟩:=hr;exact fin m r.defers [] hm hr.2.2.2.2.1 fun x hx=>by cases hx
 |none=>
  dsimp only[zwa];refine(aa.newObj (o:=.deferred (some [])) fun l hl d hd=>by cases hl;cases hd).bind fun m r r' hm hr=>?_
  obtain⟨rfl,hI⟩:=hr;have h9:=fin m r [{target:=.collected r,args:=#[]}] hm hI fun x hx=>by
   cases hx with
   |head=>exact⟨hI,xS⟩
   |tail _ h=>cases h
  rw[show [({target:=.collected r,args:=#[]}:Deferred)].map (rD f)=[{target:=.collected (f r),args:=#[]}] by simp[rD,rT]]at h9;exact h9
theorem SX(f:Nat->Nat):∀(l:List (Tmp×YN))(cs:Array YN),(l.map fun p=>(p.1,rV f p.2)).foldl (fun cs p=>cs.setIfInBounds p.1 p.2) (cs.map (rV f))=(l.foldl (fun cs p=>cs.setIfInBounds p.1 p.2) cs).map (rV f)
 |[],_=>rfl
 |p::l,cs=>by
  rw[Yi,zw3,zw3,<-SX f l];congr 1
  apply zu7;simp[zAm]
theorem SZ:∀(l:List (Tmp×YN))(cs:Array YN),bj E n cs->(∀ p∈l,ah E n p.2)->bj E n (l.foldl (fun cs p=>cs.setIfInBounds p.1 p.2) cs)
 |[],_,h,_=>h
 |p::l,_,h,hl=>SZ l _ (Ig h (hl p (.head _)) _) fun q hq=>hl q (.tail _ hq)
theorem zdK(hI:E.I n l)(ha:bj E n args):aa E f n (NQ E f) (zyN l args) (zyN (f l) (args.map (rV f))):=by
 unfold zyN;refine(EN hI).bind fun m r r' hm hr=>?_
 obtain⟨rfl,hr⟩:=hr;rw[zt6];refine aa.ite (fun _=>aa.iu) fun _=>?_
 refine aa.pure fun k hk=>?_
 refine⟨?_,hI.mono (Yq hm hk),hr.1,?_,hr.2.2.1,hr.2.2.2.1⟩
 ·congr 1
  rw[<-zu8,<-zu8,zxS,zxS,zsV,List.zip_map_right];exact SX f _ _
 ·rw[<-zu8,zxS];refine SZ _ _ (eF hr.2.1 hk) fun p hp=>?_
  exact aY (Yq hm hk) _ (ha p.2 (by simpa using(List.of_mem_zip hp).2))
theorem L8(F:Fit E f){r:Loop}(hI:E.I n l)(hr:Em E n r):aa E f n EQ (setObj l (.loop r)) (setObj (f l) (.loop (rL f r))):=aa.setObj F hI (o:=.loop r) hr
theorem zdL(F:Fit E f)(H:bD E)(hI:E.I n l):aa E f n EQ (zvP l) (zvP (f l)):=by
 unfold zvP;refine(EN hI).bind fun m r r' hm hr=>?_
 obtain⟨rfl,hr⟩:=hr;refine(L8 F (r:={r with state:=.busy}) (hI.mono hm) hr).bind fun _ _ _ _ _=>?_
 show aa E f _ EQ (match r.state with|.ready=>_|.done=>_|.busy=>_|.exhausted=>_) (match r.state with|.ready=>_|.done=>_|.busy=>_|.exhausted=>_);cases r.state with
 |ready=>exact aa.pure fun _ _=>rfl
 |_=>exact nC F H _
theorem zdM(F:Fit E f)(hI:E.I n l)(hj:∀ c,jump=some c->E.C c=true):aa E f n (VQ E f) (zvh l jump) (zvh (f l) jump):=by
 unfold zvh;refine(EN hI).bind fun m r r' hm hr=>?_
 obtain⟨rfl,hr⟩:=hr;refine(L8 F (r:={r with state:=if jump.isNone then .ready else .done,pending:=jump}) (hI.mono hm) ⟨hr.1,hr.2.1,hr.2.2.1,hr.2.2.2.1,hr.2.2.2.2.1,hj⟩).bind fun _ _ _ _ _=>?_
 exact aa.pure fun _ _=>cJ rfl
theorem zdN(F:Fit E f)(H:bD E)(hI:E.I n l):aa E f n (fun _ x x'=>x'=x/\∀ c,x=some c->E.C c=true) (zyw l) (zyw (f l)):=by
 unfold zyw;refine(EN hI).bind fun m r r' hm hr=>?_
 obtain⟨rfl,hr⟩:=hr;show aa E f _ _ (if(r.state == .busy)=true then _ else _) (if(r.state == .busy)=true then _ else _);refine aa.ite (fun _=>zQ F H) fun _=>?_
 refine(L8 F (r:={r with state:=.exhausted}) (hI.mono hm) hr).bind fun _ _ _ _ _=>?_
 exact aa.pure fun _ _=>⟨rfl,hr.2.2.2.2.2⟩
theorem zdO(F:Fit E f)(hI:E.I n b):aa E f n (fun m x x'=>x'=x.map (rD f)/\∀ d∈x,pD E m d) (zyM b) (zyM (f b)):=by
 unfold zyM;refine aa.getObj (.inl hI) (fun m o hm hI ho=>?_) fun _ _ _ _=>aa.stuck
 cases o with
 |deferred ds=>
  cases ds with
  |none=>exact aa.stuck
  |some ds=>
   have h5:aa E f m EQ (setObj b (.deferred none)) (setObj (f b) (.deferred none)):=aa.setObj F hI (o:=.deferred none) fun l hl=>by cases hl
   refine h5.bind fun m2 _ _ aK _=>aa.pure fun k hk=>⟨rfl,fun d hd=>Eu (ho ds rfl d hd) (Yq aK hk)⟩
 |_=>exact aa.stuck
end
def xV(E:Env)(t:YT)(name:String):Bool:=match E.P.info? t with
 |some i=>match i.methods.find? (·.name==name)with
  |some m=>m.path.all (fun s=>!s.deref)&&(match m.func with
   |some (g,p)=>E.T g&&(p||(m.path.isEmpty&&(match E.P.underlying t with|some (.pointer _)=>false|_=>true)))
   |none=>false)
  |none=>true
 |none=>true
structure oD(E:Env)(M:String->Bool):Prop where
 body:∀ g fn,E.T g=true->E.P.funcs[g]?=some fn->fn.body.isNone=false->(fn.name == "runtime.NumGoroutine")=false
 ext:∀ g fn,E.T g=true->E.P.funcs[g]?=some fn->fn.body.isNone=true->∀(f:Nat->Nat)(n:Nat)(args:Array YN),Fit E f->bj E n args->aa E f n (NQ E f) (Z0 g args) (Z0 g (args.map (rV f)))
 S4:∀ t name,E.K t=true->M name=true->xV E t name=true
def okB(E:Env)(b:Builtin)(ts:Array YT)(t:YT):Bool:=match b with
 |.append=>L3 E.P ts
 |.clear=>(match ts[0]? with|some s=>zS E.P s|none=>true)
 |.unsafeSliceData=>L6 E t
 |.cap|.copy|.len|.max|.recover|.unsafeString=>true
 |_=>false
section
variable {E:Env}{f:Nat->Nat}{n:Nat}{M:String->Bool}
theorem S5(F:Fit E f)(H:bD E){b:Builtin}{t:YT}{cs:Array Bool}(hb:okB E b ts t=true)(ha:bj E n args):aa E f n (NQ E f) (builtin b ts t cs args) (builtin b ts t cs (args.map (rV f))):=by
 cases b with
 |append=>exact fq (zdy F H ha hb)
 |clear=>exact fq (zdC F ha fun s hs=>by
   unfold okB at hb;rw[hs]at hb;exact hb)
 |unsafeSliceData=>exact fq (zdH F ha hb)
 |cap=>exact fq (zdz ha)
 |copy=>exact fq (zdB F ha)
 |len=>exact fq (zdA ha)
 |max=>exact fq (zdE ha)
 |unsafeString=>exact fq (zdG F H ha)
 |recover=>exact aa.pure fun _ _=>rfl
 |_=>cases hb
theorem S7(F:Fit E f)(X:oD E M){g:Zt}(hT:E.T g=true)(ha:bj E n args):aa E f n (NQ E f) (Z0 g args) (Z0 g (args.map (rV f))):=by
 cases hf:E.P.funcs[g]? with
 |none=>
  unfold Z0;refine aa.program ?_;rw[hf];exact aa.stuck
 |some fn=>
  cases hb:fn.body.isNone with
  |true=>exact X.ext g fn hT hf hb f n args F ha
  |false=>
   unfold Z0;refine aa.program ?_;rw[hf];dsimp only;rw[X.body g fn hT hf hb,hb];exact aa.pure fun m hm=>⟨rfl,hT,eF ha hm⟩
def zdP(E:Env)(f:Nat->Nat)(m:Nat)(x x':YT×Place):Prop:=∃ t v,x=(t,.val v)/\x'=(t,.val (rV f v))/\ah E m v
theorem S8:∀(l:List FieldStep)(t:YT)(v:YN)(n:Nat),ah E n v->(l.all (fun s=>!s.deref))=true->aa E f n (zdP E f) (follow l t (.val v)) (follow l t (.val (rV f v)))
 |[],t,v,n,hv,_=>aa.pure fun m hm=>⟨t,v,rfl,rfl,aY hm _ hv⟩
 |s::l,t,v,n,hv,hl=>by
  rw[List.all_cons,X6]at hl;obtain⟨hs,hl⟩:=hl;have hs:s.deref=false:=by simpa using hs
  unfold follow;refine dT fun d hd=>?_
  cases d with
  |struct fs=>
   dsimp only;cases fs[s.index]? with
   |none=>exact aa.stuck
   |some fl=>
    dsimp only;rw[hs];simp only[X8,YF];cases v with
    |agg cs=>
     rw[rV];rw[ah]at hv;dsimp only;refine(zP (f:=f) hv fl.type fl.offset).bind fun m x x' hm hx=>?_
     obtain⟨rfl,hx⟩:=hx;exact S8 l fl.type x m hx hl
    |_=>exact aa.stuck
  |_=>exact aa.stuck
theorem zdQ(X:oD E M){k:Nat}{t:YT}(hK:E.K t=true)(hM:M name=true)(hv:ah E n v):aa E f n (fun m x x'=>x'=(x.1,rV f x.2)/\E.T x.1=true/\ah E m x.2) (method k t v name) (method k t (rV f v) name):=by
 cases k with
 |zero=>exact aa.unsupported sQ
 |succ k=>
  have hm:=X.S4 t name hK hM;unfold method;refine Ez fun i hi=>?_
  unfold xV at hm;rw[hi]at hm;dsimp only at hm;cases hfi:i.methods.find? (·.name==name)with
  |none=>exact aa.stuck
  |some m=>
   rw[hfi]at hm;dsimp only at hm⊢;rw[X6]at hm;obtain⟨h1,h2⟩:=hm;cases vS:m.func with
   |none=>rw[vS]at h2;cases h2
   |some gp=>
    obtain⟨g,p⟩:=gp;rw[vS]at h2;dsimp only at h2⊢;rw[X6]at h2;obtain⟨hT,h2⟩:=h2;cases p with
    |true=>
     refine(S8 m.path.toList t v n hv (by rw[<-h1];simp)).bind fun n2 x x' hn hx=>?_
     obtain⟨xt,y,rfl,rfl,hy⟩:=hx;dsimp only;unfold zxC;rw[bind_assoc,bind_assoc];refine dT fun d hd=>?_
     cases d with
     |pointer e=>exact aa.pure fun k hk=>⟨rfl,hT,aY hk _ hy⟩
     |_=>exact aa.iu
    |false=>
     rw[zwF,X6]at h2;obtain⟨h3,h4⟩:=h2;have h5:m.path.toList=[]:=by
      rw[Array.isEmpty_iff]at h3;rw[h3]
     rw[h5];show aa E f n _ (zxC t (.val v) false _ >>= _) (zxC t (.val (rV f v)) false _ >>= _);unfold zxC;rw[bind_assoc,bind_assoc];refine dT fun d hd=>?_
     rw[hd]at h4;cases d with
     |pointer e=>cases h4
     |_=>exact aa.pure fun k hk=>⟨rfl,hT,aY hk _ hv⟩
theorem zdR(F:Fit E f)(H:bD E)(X:oD E M){recv:YN}(hM:M name=true)(hr:ah E n recv)(ha:bj E n args):aa E f n (NQ E f) (callMethod recv name args) (callMethod (rV f recv) name (args.map (rV f))):=by
 cases recv with
 |iface t v=>
  rw[rV];rw[ah]at hr;unfold callMethod;refine aa.program ?_;refine(zdQ X hr.1 hM hr.2).bind fun m x x' hm hx=>?_
  obtain⟨rfl,h1,h2⟩:=hx;have:=S7 (n:=m) F X (args:=#[x.2]++args) h1 (zI (fun y hy=>by simp at hy;rw[hy];exact h2) (eF ha hm));rw[zur]at this;simpa using this
 |nilIface=>
  rw[rV];show aa E f n _ (zs5 .nilDeref) (zs5 .nilDeref);exact nC F H _
 |_=>exact aa.stuck
theorem L9(F:Fit E f)(H:bD E)(X:oD E M){d:Deferred}(hd:pD E n d):aa E f n (NQ E f) (invoke d.target d.args) (invoke (rD f d).target (rD f d).args):=by
 obtain⟨t,args⟩:=d;obtain⟨h1,h2⟩:=hd;dsimp only[rD]at *;cases t with
 |nil=>
  show aa E f n _ (zs5 .nilDeref) (zs5 .nilDeref);exact nC F H _
 |builtin b ts t cs=>exact S5 F H (by rcases h1 with rfl|rfl<;>rfl) h2
 |fn g c=>
  cases g with
  |func g=>
   have:=S7 (n:=n) F X (args:=args++c) h1.1 (zI h2 h1.2);rw[zur]at this;exact this
  |yield l=>exact zdK h1.1 h2
  |_=>exact h1.1.elim
 |collected r=>exact aa.stuck
 |coroexit c=>exact h1.elim
end
def gK(E:Env):Zr->Bool
 |.tmp _=>true
 |.const v=>qA v
 |.global g=>decide (g<E.P.globals.size)
 |.func g=>E.T g
def mJ(E:Env)(l:List Zr):Bool:=l.all (gK E)
def uk(E:Env)(M:String->Bool)(c:Call)(t:YT):Bool:=mJ E c.args.toList&&(match c.callee with
 |.value x=>gK E x
 |.invoke r name=>gK E r&&M name
 |.builtin b=>okB E b c.argTypes t)
def zT(E:Env)(M:String->Bool)(o:Oper):Bool:=match o.op with
 |.move x|.assign x|.box _ x|.load _ x|.nilCheck x|.unOp _ _ x|.field _ x _|.range _ x|.extract x _|.panic x=>gK E x
 |.pick c a b=>gK E c&&(gK E a&&gK E b)
 |.store _ a x|.binOp _ _ a x _|.indexAddr _ a x|.index _ a x=>gK E a&&gK E x
 |.slice _ x lo hi mx=>gK E x&&(mJ E lo.toList&&(mJ E hi.toList&&mJ E mx.toList))
 |.makeMap _ r=>mJ E r.toList
 |.alloc t=>oB E.P t
 |.build t ps=>oB E.P t&&mJ E (ps.toList.map (·.2))
 |.buildSlice t _ ps=>zS E.P t&&mJ E (ps.toList.map (·.2))
 |.convert s d x=>B1 E s d&&gK E x
 |.makeInterface t x=>E.K t&&gK E x
 |.makeFunc (.func g) first cap=>E.T g&&(mJ E first.toList&&mJ E cap.toList)
 |.makeSlice t l c=>zS E.P t&&(gK E l&&gK E c)
 |.fieldAddr s x k=>LL E.P s k&&gK E x
 |.lookup t x ix _=>BZ E.P t&&(gK E x&&gK E ix)
 |.mapUpdate t m k x|.insert t m k x=>BZ E.P t&&(gK E m&&(gK E k&&gK E x))
 |.next it b=>b&&gK E it
 |.typeAssert x _ a _=>oB E.P a&&gK E x
 |.call c=>uk E M c o.type
 |.defer c=>uk E M c o.type&&(match c.callee with|.value _=>true|_=>false)
 |_=>false
def um(E:Env)(f:Nat->Nat)(n:Nat)(ρ ρ':Zr->YN):Prop:=∀ x,gK E x=true->VQ E f n (ρ x) (ρ' x)
section
variable {E:Env}{f:Nat->Nat}{n:Nat}{M:String->Bool}{ρ ρ':Zr->YN}
theorem EO{l:List Zr}(h:mJ E l=true):∀ x∈l,gK E x=true:=X9.1 h
theorem um.map(hρ:um E f n ρ ρ'){l:Array Zr}(h:mJ E l.toList=true):l.map ρ'=(l.map ρ).map (rV f)/\bj E n (l.map ρ):=by
 refine⟨?_,fun x hx=>?_⟩
 ·rw[zxO];exact ztD fun x hx=>(hρ x (EO h x (by simpa using hx))).1
 ·obtain⟨y,hy,rfl⟩:=ztu.1 hx;exact(hρ y (EO h y (by simpa using hy))).2
theorem um.opt(hρ:um E f n ρ ρ'){l:Option Zr}(h:mJ E l.toList=true):l.map ρ'=(l.map ρ).map (rV f):=by
 cases l with
 |none=>rfl
 |some x=>exact YC some (hρ x (EO h x sQ)).1
theorem um.parts(hρ:um E f n ρ ρ'){l:Array (Nat×Zr)}(h:mJ E (l.toList.map (·.2))=true):(l.map fun p=>(p.1,ρ' p.2))=(l.map fun p=>(p.1,ρ p.2)).map (fun p=>(p.1,rV f p.2))/\EJ E n (l.map fun p=>(p.1,ρ p.2)):=by
 refine⟨?_,fun x hx=>?_⟩
 ·rw[zxO];refine ztD fun x hx=>?_
  show(x.1,ρ' x.2)=(x.1,rV f (ρ x.2));rw[(hρ x.2 (EO h x.2 (Ym.2 ⟨x,by simpa using hx,rfl⟩))).1]
 ·obtain⟨y,hy,rfl⟩:=ztu.1 hx;exact(hρ y.2 (EO h y.2 (Ym.2 ⟨y,by simpa using hy,rfl⟩))).2
theorem S9(a:YN)(l:Array YN):(#[a]++l)[0]?=some a:=by
 rw[Array.getElem?_append_left sQ];rfl
theorem Ta(a:YN)(l:Array YN):(#[a]++l).extract 1 (#[a]++l).size=l:=by
 apply zu7;simp
theorem zdS(hx:ah E n x)(a2:bj E n args):aa E f n (fun m d d'=>d'=rD f d/\pD E m d) (ztG x args) (ztG (rV f x) (args.map (rV f))):=by
 unfold ztG;cases x with
 |func fn first cap=>
  rw[ah]at hx;rw[rV];refine aa.pure fun m hm=>⟨?_,⟨Ih hx.1 hm,fun y hy=>aY hm _ (hx.2.2 y hy)⟩,eF (zI (fun y hy=>hx.2.1 y hy) a2) hm⟩
  simp only[rD,rT,zur]
 |nilFunc=>
  rw[rV];exact aa.pure fun m hm=>⟨rfl,trivial,eF a2 hm⟩
 |_=>exact aa.stuck
theorem Tb(hρ:um E f n ρ ρ'){c:Call}{t:YT}(hc:uk E M c t=true)(hv:(match c.callee with|.value _=>true|_=>false)=true):aa E f n (fun m d d'=>d'=rD f d/\pD E m d) (resolve ρ c t) (resolve ρ' c t):=by
 unfold uk at hc;rw[X6]at hc;obtain⟨h1,h2⟩:=hc;obtain⟨a1,a2⟩:=hρ.map h1;unfold resolve;dsimp only;rw[a1];cases il:c.callee with
 |value x=>
  rw[il]at h2;obtain⟨e,hx⟩:=hρ x h2;dsimp only;rw[e];unfold ztG;cases hy:ρ x with
  |func fn first cap=>
   rw[hy,ah]at hx;rw[rV];refine aa.pure fun m hm=>⟨?_,⟨Ih hx.1 hm,fun y hy=>aY hm _ (hx.2.2 y hy)⟩,eF (zI (fun y hy=>hx.2.1 y hy) a2) hm⟩
   simp only[rD,rT,zur]
  |nilFunc=>
   rw[rV];exact aa.pure fun m hm=>⟨rfl,trivial,eF a2 hm⟩
  |_=>exact aa.stuck
 |_=>rw[il]at hv;cases hv
theorem zdT(F:Fit E f)(H:bD E)(X:oD E M)(hρ:um E f n ρ ρ'){c:Call}{t:YT}(hc:uk E M c t=true):aa E f n (NQ E f) (resolve ρ c t >>= fun d=>invoke d.target d.args) (resolve ρ' c t >>= fun d=>invoke d.target d.args):=by
 cases il:c.callee with
 |value x=>
  refine(Tb hρ hc (by rw[il])).bind fun m d d' hm hd=>?_
  obtain⟨rfl,hd⟩:=hd;exact L9 F H X hd
 |invoke r name=>
  unfold uk at hc;rw[X6,il]at hc;obtain⟨h1,h2⟩:=hc;dsimp only at h2;rw[X6]at h2;obtain⟨a1,a2⟩:=hρ.map h1;obtain⟨e,hx⟩:=hρ r h2.1;unfold resolve;rw[il];dsimp only;rw[pure_bind,pure_bind,a1,e];dsimp only;unfold invoke;dsimp only;have e1:(#[ρ r]++c.args.map ρ)[0]?=some (ρ r):=S9 _ _;have e2:(#[rV f (ρ r)]++(c.args.map ρ).map (rV f))[0]?=some (rV f (ρ r)):=S9 _ _;have e3:(#[ρ r]++c.args.map ρ).extract 1 (#[ρ r]++c.args.map ρ).size=c.args.map ρ:=Ta _ _;have e4:(#[rV f (ρ r)]++(c.args.map ρ).map (rV f)).extract 1 (#[rV f (ρ r)]++(c.args.map ρ).map (rV f)).size=(c.args.map ρ).map (rV f):=Ta _ _;rw[e1,e2,e3,e4];exact zdR F H X h2.2 hx a2
 |builtin b=>
  unfold uk at hc;rw[X6,il]at hc;obtain⟨h1,h2⟩:=hc;obtain⟨a1,a2⟩:=hρ.map h1;unfold resolve;rw[il];dsimp only;rw[pure_bind,pure_bind,a1];exact S5 F H h2 a2
theorem zdU(F:Fit E f)(H:bD E)(X:oD E M)(hρ:um E f n ρ ρ'){o:Oper}(ho:zT E M o=true):aa E f n (NQ E f) (execOp ρ o) (execOp ρ' o):=by
 unfold zT at ho;unfold execOp;cases hop:o.op with
 |move x=>
  rw[hop]at ho;dsimp only at ho⊢;obtain⟨e,hx⟩:=hρ x ho;rw[e];exact aa.pure fun m hm=>⟨rfl,aY hm _ hx⟩
 |assign x=>
  rw[hop]at ho;dsimp only at ho⊢;obtain⟨e,hx⟩:=hρ x ho;rw[e];exact aa.pure fun m hm=>⟨rfl,aY hm _ hx⟩
 |pick c a b=>
  rw[hop]at ho;simp only[X6]at ho;obtain⟨e,_⟩:=hρ c ho.1;obtain⟨ea,ha⟩:=hρ a ho.2.1;obtain⟨eb,hb⟩:=hρ b ho.2.2;dsimp only;rw[e,ea,eb];refine RX.bind fun m k k' hm hk=>?_
  obtain rfl:=hk;cases k' with
  |true=>exact aa.pure fun j hj=>⟨rfl,aY (Yq hm hj) _ ha⟩
  |false=>exact aa.pure fun j hj=>⟨rfl,aY (Yq hm hj) _ hb⟩
 |alloc t=>rw[hop]at ho;exact fq (zcG ho)
 |box t x=>
  rw[hop]at ho;obtain⟨e,hx⟩:=hρ x ho;dsimp only;rw[e];exact fq (zcH hx)
 |build t ps=>
  rw[hop]at ho;simp only[X6]at ho;obtain⟨e,hp⟩:=hρ.parts ho.2;dsimp only;have:=fq (zcJ (f:=f) ho.1 hp);rw[<-e]at this;exact this
 |buildSlice t len ps=>
  rw[hop]at ho;simp only[X6]at ho;obtain⟨e,hp⟩:=hρ.parts ho.2;dsimp only;have:=fq (zcK (f:=f) (len:=len) (fun el he=>II ho.1 he) hp);rw[<-e]at this;exact this
 |load t x=>
  rw[hop]at ho;obtain⟨e,hx⟩:=hρ x ho;dsimp only;rw[e];exact fq (zcN F hx)
 |store t a x=>
  rw[hop]at ho;simp only[X6]at ho;obtain⟨ea,ha⟩:=hρ a ho.1;obtain⟨e,hx⟩:=hρ x ho.2;dsimp only;rw[ea,e];exact IK (zcO F ha hx)
 |nilCheck x=>
  rw[hop]at ho;obtain⟨e,hx⟩:=hρ x ho;dsimp only;rw[e];have hp:∀{m:Nat},aa E f m (NQ E f) (zs5 .nilDeref) (zs5 .nilDeref):=nC F H _;cases hy:ρ x with
  |pointer a=>
   rw[hy]at hx;rw[rV];cases a with
   |none=>exact hp
   |some a=>exact aa.pure fun j hj=>⟨by simp[rV],aY hj _ hx⟩
  |nilIface=>rw[rV];exact hp
  |nilFunc=>rw[rV];exact hp
  |func fn first cap=>
   rw[hy]at hx;have gW:=hx;rw[ah]at gW;rw[rV];cases fn with
   |func g=>exact aa.pure fun j hj=>⟨by rw[rV],aY hj _ hx⟩
   |yield l=>exact aa.pure fun j hj=>⟨by rw[rV],aY hj _ hx⟩
   |_=>exact gW.1.elim
  |_=>
   rw[hy]at hx;rw[rV];exact aa.pure fun j hj=>⟨by rw[rV],aY hj _ hx⟩
 |binOp op t x y yt=>
  rw[hop]at ho;simp only[X6]at ho;obtain⟨ea,ha⟩:=hρ x ho.1;obtain⟨e,hx⟩:=hρ y ho.2;dsimp only;rw[ea,e];refine fq ?_;exact(zc5 F ha hx).bind fun m _ _ hm _=>zdo F H (aY hm _ ha) (aY hm _ hx)
 |unOp op t x=>
  rw[hop]at ho;obtain⟨e,hx⟩:=hρ x ho;dsimp only;rw[e];exact fq (zdf hx)
 |convert s d x=>
  rw[hop]at ho;simp only[X6]at ho;obtain⟨e,hx⟩:=hρ x ho.2;dsimp only;rw[e];exact fq (zdw F hx ho.1)
 |makeInterface t x=>
  rw[hop]at ho;simp only[X6]at ho;obtain⟨e,hx⟩:=hρ x ho.2;dsimp only;rw[e];exact fq (zcW hx ho.1)
 |makeFunc fn first cap=>
  rw[hop]at ho;cases fn with
  |func g=>
   simp only[X6]at ho;obtain⟨e1,h1⟩:=hρ.map ho.2.1;obtain⟨e2,h2⟩:=hρ.map ho.2.2;dsimp only;rw[e1,e2];refine fq (aa.pure fun m hm=>⟨by rw[rV];rfl,?_⟩);rw[ah];exact⟨ho.1,eF h1 hm,eF h2 hm⟩
  |_=>cases ho
 |makeMap t r=>
  rw[hop]at ho;dsimp only;rw[hρ.opt ho];exact fq zcX
 |makeSlice t l c=>
  rw[hop]at ho;simp only[X6]at ho;obtain⟨ea,ha⟩:=hρ l ho.2.1;obtain⟨e,hx⟩:=hρ c ho.2.2;dsimp only;rw[ea,e];exact fq (zcY F H fun el he=>II ho.1 he)
 |slice t x lo hi mx=>
  rw[hop]at ho;simp only[X6]at ho;obtain⟨e,hx⟩:=hρ x ho.1;dsimp only;rw[e,hρ.opt ho.2.1,hρ.opt ho.2.2.1,hρ.opt ho.2.2.2];exact fq (zcR F H hx)
 |fieldAddr s x k=>
  rw[hop]at ho;simp only[X6]at ho;obtain⟨e,hx⟩:=hρ x ho.2;dsimp only;rw[e];exact fq (zcP F hx ho.1)
 |field t x k=>
  rw[hop]at ho;obtain⟨e,hx⟩:=hρ x ho;dsimp only;rw[e];exact fq (zcU hx)
 |indexAddr t x ix=>
  rw[hop]at ho;simp only[X6]at ho;obtain⟨ea,ha⟩:=hρ x ho.1;obtain⟨e,hx⟩:=hρ ix ho.2;dsimp only;rw[ea,e];exact fq (zcS F H ha)
 |index t x ix=>
  rw[hop]at ho;simp only[X6]at ho;obtain⟨ea,ha⟩:=hρ x ho.1;obtain⟨e,hx⟩:=hρ ix ho.2;dsimp only;rw[ea,e];exact fq (zcT F H ha)
 |lookup t x ix ok=>
  rw[hop]at ho;simp only[X6]at ho;obtain⟨ea,ha⟩:=hρ x ho.2.1;obtain⟨e,hx⟩:=hρ ix ho.2.2;dsimp only;rw[ea,e];exact fq (zc7 F H ha hx ho.1)
 |mapUpdate t m k x=>
  rw[hop]at ho;simp only[X6]at ho;obtain⟨ea,ha⟩:=hρ m ho.2.1;obtain⟨ek,hk⟩:=hρ k ho.2.2.1;obtain⟨e,hx⟩:=hρ x ho.2.2.2;dsimp only;rw[ea,ek,e];exact IK (Sw F H ha hk hx ho.1)
 |insert t m k x=>
  rw[hop]at ho;simp only[X6]at ho;obtain⟨ea,ha⟩:=hρ m ho.2.1;obtain⟨ek,hk⟩:=hρ k ho.2.2.1;obtain⟨e,hx⟩:=hρ x ho.2.2.2;dsimp only;rw[ea,ek,e];exact IK (Sw F H ha hk hx ho.1)
 |range t x=>
  rw[hop]at ho;obtain⟨e,hx⟩:=hρ x ho;dsimp only;rw[e];exact fq (zc0 hx)
 |next it b=>
  rw[hop]at ho;simp only[X6]at ho;obtain⟨e,hx⟩:=hρ it ho.2;dsimp only;rw[e,ho.1];exact fq (zc1 F hx)
 |typeAssert x xt a ok=>
  rw[hop]at ho;simp only[X6]at ho;obtain⟨e,hx⟩:=hρ x ho.2;dsimp only;rw[e];exact fq (zcZ F H hx ho.1)
 |extract x k=>
  rw[hop]at ho;obtain⟨e,hx⟩:=hρ x ho;dsimp only;rw[e];exact fq (zcV hx)
 |call c=>rw[hop]at ho;exact zdT F H X hρ ho
 |defer c=>
  rw[hop]at ho;simp only[X6]at ho;refine(Tb hρ ho.1 ho.2).bind fun m d d' hm hd=>?_
  obtain⟨rfl,hd⟩:=hd;exact aa.pure fun j hj=>⟨rfl,Eu hd hj⟩
 |panic x=>
  rw[hop]at ho;obtain⟨e,hx⟩:=hρ x ho;dsimp only;rw[e];exact fq (zcM F H hx)
 |_=>rw[hop]at ho;cases ho
end
def IL(o:Oper):Bool:=match o.op with
 |.defer _=>false
 |_=>true
def sk:Code->Bool
 |.region _ au _=>au.toList.all IL
 |.seq a b|.cond _ a b|.rangeFunc _ _ a b=>sk a&&sk b
 |.block _ c|.loop c|.scope c=>sk c
 |_=>true
def iv(E:Env)(M:String->Bool):Code->Bool
 |.skip|.exit _|.ret|.refuse _=>true
 |.region _ au _=>au.toList.all (zT E M)
 |.seq a b=>iv E M a&&iv E M b
 |.cond c a b=>gK E c&&(iv E M a&&iv E M b)
 |.block _ c|.loop c=>iv E M c
 |.rangeFunc x _ a b=>gK E x&&((iv E M a&&sk a)&&(iv E M b&&sk b))
 |_=>false
structure oF(E:Env)(M:String->Bool):Prop where
 loops:∀ c,E.C c=(iv E M c&&sk c)
 bodies:∀ g fn c,E.T g=true->E.P.funcs[g]?=some fn->fn.body=some c->iv E M c=true
 Tc:∀ g,g<E.P.globals.size->E.R g\/E.O g
 wait:∀ k,E.O k->E.P.stepOf k=none
 ahead:E.P.follows .staticDataAhead=true
 back:E.P.follows .rangeFuncRecover=true
def rI(f:Nat->Nat):Item->Item
 |.inRangeFunc l=>.inRangeFunc (f l)
 |.endRangeFunc l=>.endRangeFunc (f l)
 |x=>x
def rP(f:Nat->Nat)(e:zud):zud:={e with v:=rV f e.v}
def rM(f:Nat->Nat):FrameMode->FrameMode
 |.panicking ch=>.panicking (ch.map (rP f))
 |x=>x
def rF(f:Nat->Nat)(fr:YU):YU:={fr with tmps:=fr.tmps.map (rV f),todo:=fr.todo.map (rI f),defers:=fr.defers.map (rD f),mode:=rM f fr.mode,roundOf:=fr.roundOf.map f}
section
variable (E:Env)(M:String->Bool)(n:Nat)
def uo(r:Bool):Item->Prop
 |.code c|.inLoop c=>iv E M c=true/\(r=true->sk c=true)
 |.inRegion au _=>au.toList.all (zT E M)=true/\(r=true->au.toList.all IL=true)
 |.inRangeFunc l|.endRangeFunc l=>E.I n l
 |.inBlock _|.beginRound=>True
 |_=>False
def IM:FrameMode->Prop
 |.panicking ch=>∀ e∈ch,ah E n e.v/\e.goexit=false
 |_=>True
structure okF(fr:YU):Prop where
 fn:E.T fr.fn=true
 tmps:bj E n fr.tmps
 todo:∀ i∈fr.todo,uo E M n fr.roundOf.isSome i
 defers:∀ d∈fr.defers,pD E n d
 mode:IM E n fr.mode
 kind:fr.kind=.normal\/fr.kind=.deferred
 round:∀ l,fr.roundOf=some l->E.I n l
end
def xW:List YU->Prop
 |[]=>False
 |[fr]=>fr.kind=.normal/\fr.roundOf=none
 |_::r=>xW r
def ft(E:Env)(M:String->Bool)(n:Nat)(S:List YU):Prop:=(∀ fr∈S,okF E M n fr)/\xW S
section
variable {E:Env}{M:String->Bool}{n m:Nat}{f:Nat->Nat}
theorem zdV(hm:n<=m){r:Bool}(h:uo E M n r i):uo E M m r i:=by
 cases i<;>first |exact h|exact Env.I.mono h hm
theorem zdW(hm:n<=m)(h:IM E n u):IM E m u:=by
 cases u with
 |panicking ch=>exact fun e he=>⟨aY hm _ (h e he).1,(h e he).2⟩
 |_=>exact h
theorem oG(hm:n<=m)(h:okF E M n fr):okF E M m fr:=
 ⟨h.fn,eF h.tmps hm,fun i hi=>zdV hm (h.todo i hi),fun d hd=>Eu (h.defers d hd) hm,zdW hm h.mode,h.kind,fun l hl=>(h.round l hl).mono hm⟩
theorem IP(hm:n<=m){S:List YU}(h:ft E M n S):ft E M m S:=⟨fun fr az=>oG hm (h.1 fr az),h.2⟩
theorem Ma(F:Fit E f)(C:oF E M)(h:okF E M n fr):um E f n fr.eval (rF f fr).eval:=by
 intro x hx;cases x with
 |tmp t=>
  show VQ E f n (fr.tmps.getD t YY) ((fr.tmps.map (rV f)).getD t YY);exact⟨Et f fr.tmps t,Es h.tmps t⟩
 |const v=>exact⟨(En hx).symm,Eo hx⟩
 |global g=>
  have hg:=C.Tc g (YK hx);have hB:g<E.B:=hg.elim (F.ro g) (F.op g);have:=qF (E:=E) (f:=f) (m:=n) (a:=(aQ g 0)) (.inr hg);unfold rA at this;dsimp only at this;rw[F.low g hB]at this;exact this
 |func g=>
  refine⟨by simp[Frame.eval,rV,BM],?_⟩;show ah E n (.func (.func g) #[] #[]);rw[ah];exact⟨hx,xS,xS⟩
theorem map_set(f:Nat->Nat)(cs:Array YN)(i:Nat)(v:YN):(cs.setIfInBounds i v).map (rV f)=(cs.map (rV f)).setIfInBounds i (rV f v):=by
 apply zu7;simp[zAm]
theorem zU(f:Nat->Nat)(cX:∀ d a b c k,fr.todo≠.call d a b c::k)(zdX:∀ a b k,fr.todo≠.extern a b::k):rF f (fr.finish v)=(rF f fr).finish (rV f v):=by
 obtain⟨fn,tmps,todo,ds,mo,ki,ro⟩:=fr;cases todo with
 |nil=>rfl
 |cons i k=>
  cases i with
  |inRegion au l=>
   cases l with
   |nil=>rfl
   |cons j l=>
    simp only[zAN,rF,Yi,rI];congr 1
    cases(au[j]?).bind (·.dst)with
    |none=>rfl
    |some d=>exact map_set f tmps d v
  |call d a b c=>exact absurd rfl (cX d a b c k)
  |extern a b=>exact absurd rfl (zdX a b k)
  |_=>rfl
theorem okF.vX(h:okF E M n fr):(∀ d a b c k,fr.todo≠.call d a b c::k)/\(∀ a b k,fr.todo≠.extern a b::k):=
 ⟨fun d a b c k e=>h.todo (.call d a b c) (by rw[e];exact .head _),fun a b k e=>h.todo (.extern a b) (by rw[e];exact .head _)⟩
theorem okF.finish(h:okF E M n fr)(hv:ah E n v):okF E M n (fr.finish v):=by
 obtain⟨n1,n2⟩:=h.vX;obtain⟨fn,tmps,todo,ds,mo,ki,ro⟩:=fr;obtain⟨h1,h2,h3,h4,h5,h6,h7⟩:=h;cases todo with
 |nil=>exact⟨h1,h2,h3,h4,h5,h6,h7⟩
 |cons i k=>
  have hk:∀ i∈k,uo E M n ro.isSome i:=fun i hi=>h3 i (.tail _ hi)
  have hi:=h3 i (.head _);cases i with
  |inRegion au l=>
   cases l with
   |nil=>exact⟨h1,h2,h3,h4,h5,h6,h7⟩
   |cons j l=>
    refine⟨h1,?_,fun i qG=>?_,h4,h5,h6,h7⟩
    ·show bj E n (match (au[j]?).bind (·.dst)with|some d=>tmps.setIfInBounds d v|none=>tmps);cases(au[j]?).bind (·.dst)with
     |none=>exact h2
     |some d=>exact Ig h2 hv d
    ·cases qG with
     |head=>exact hi
     |tail _ h=>exact hk _ h
  |inRangeFunc l=>
   refine⟨h1,h2,fun i qG=>?_,h4,h5,h6,h7⟩;cases qG with
   |head=>exact hi
   |tail _ h=>exact hk _ h
  |beginRound=>exact⟨h1,h2,hk,h4,h5,h6,h7⟩
  |call d a b c=>exact absurd rfl (n1 d a b c k)
  |extern a b=>exact absurd rfl (n2 a b k)
  |_=>exact⟨h1,h2,h3,h4,h5,h6,h7⟩
theorem IQ(f:Nat->Nat)(fr:YU)(vs:List zud):rF f (fr.raise vs)=(rF f fr).raise (vs.map (rP f)):=by
 obtain⟨fn,tmps,todo,ds,mo,ki,ro⟩:=fr;cases mo with
 |panicking ch=>simp[Frame.raise,rF,rM]
 |_=>rfl
theorem okF.raise(h:okF E M n fr){vs:List zud}(hv:∀ e∈vs,ah E n e.v/\e.goexit=false):okF E M n (fr.raise vs):=by
 obtain⟨fn,tmps,todo,ds,mo,ki,ro⟩:=fr;obtain⟨h1,h2,h3,h4,h5,h6,h7⟩:=h;cases mo with
 |panicking ch=>
  refine⟨h1,h2,h3,h4,fun e he=>?_,h6,h7⟩;rcases zsl.1 he with h|h
  ·exact hv e h
  ·exact h5 e h
 |_=>exact⟨h1,h2,h3,h4,hv,h6,h7⟩
theorem Mb(f:Nat->Nat)(P:Y2)(g:Zt)(args:Array YN)(k:zva):rF f (Y8 P g args k)=Y8 P g (args.map (rV f)) k:=by
 unfold Y8 rF;simp only[zur,zt6,Yi,Yj,rI,rM,zwa];congr 2
 apply zu7;simp[YY,rV]
theorem okF.enter(C:oF E M){g:Zt}{k:zva}(hT:E.T g=true)(ha:bj E n args)(hk:k=.normal\/k=.deferred):okF E M n (Y8 E.P g args k):=by
 refine⟨hT,zI ha fun x hx=>?_,fun i hi=>?_,fun d hd=>(by cases hd),trivial,hk,fun l hl=>by cases hl⟩
 ·rw[zxM hx];exact zJ E n
 ·cases hi with
  |head=>
   refine⟨?_,fun h=>by cases h⟩;cases hf:E.P.funcs[g]? with
   |none=>rfl
   |some fn=>
    cases hb:fn.body with
    |none=>simp only[zsz,hb];rfl
    |some c=>simp only[zsz,hb];exact C.bodies g fn c hT hf hb
  |tail _ h=>cases h
theorem zdY(f:Nat->Nat)(l:Nat)(g:Zt)(tmps:Array YN)(a b:Code)(k:zva):rF f (zvd l g tmps a b k)=zvd (f l) g (tmps.map (rV f)) a b k:=rfl
theorem okF.Td(C:oF E M){g:Zt}{a b:Code}{k:zva}(hI:E.I n l)(hT:E.T g=true)(ht:bj E n tmps)(ha:E.C a=true)(hb:E.C b=true)(hk:k=.normal\/k=.deferred):okF E M n (zvd l g tmps a b k):=by
 rw[C.loops,X6]at ha hb;refine⟨hT,ht,fun i hi=>?_,fun d hd=>(by cases hd),trivial,hk,fun l' hl=>by cases hl;exact hI⟩;cases hi with
 |head=>exact⟨ha.1,fun _=>ha.2⟩
 |tail _ h=>
  cases h with
  |head=>trivial
  |tail _ h=>
   cases h with
   |head=>exact⟨hb.1,fun _=>hb.2⟩
   |tail _ h=>cases h
theorem Te(h:xW cs):xW (fr::cs):=by
 cases cs with
 |nil=>exact h.elim
 |cons c r=>exact h
theorem Mc(h:xW (fr::cs))(hk:cs≠[]):xW cs:=by
 cases cs with
 |nil=>exact absurd rfl hk
 |cons c r=>exact h
theorem Tf(h:xW (fr::cs))(hk:fr'.kind=fr.kind/\fr'.roundOf=fr.roundOf):xW (fr'::cs):=by
 cases cs with
 |nil=>exact⟨hk.1.trans h.1,hk.2.trans h.2⟩
 |cons c r=>exact h
theorem zV(fr:YU)(v:YN):(fr.finish v).kind=fr.kind/\(fr.finish v).roundOf=fr.roundOf:=by
 unfold zAN;split<;>exact⟨rfl,rfl⟩
theorem IU(fr:YU)(v:List zud):(fr.raise v).kind=fr.kind/\(fr.raise v).roundOf=fr.roundOf:=by
 unfold Frame.raise;split<;>exact⟨rfl,rfl⟩
theorem ft.swap(h:ft E M n (fr::cs))(hm:n<=m)(hf:okF E M m fr')(hk:fr'.kind=fr.kind/\fr'.roundOf=fr.roundOf):ft E M m (fr'::cs):=by
 refine⟨fun x hx=>?_,Tf h.2 hk⟩;cases hx with
 |head=>exact hf
 |tail _ hx=>exact oG hm (h.1 x (.tail _ hx))
theorem ft.push{S:List YU}(h:ft E M n S)(hm:n<=m)(hf:okF E M m fr):ft E M m (fr::S):=by
 refine⟨fun x hx=>?_,Te h.2⟩;cases hx with
 |head=>exact hf
 |tail _ hx=>exact oG hm (h.1 x hx)
theorem ft.head(h:ft E M n (fr::cs)):okF E M n fr:=h.1 fr (.head _)
theorem Tg(h:ft E M n (fr::cs))(Z Z':List YU):
  (zt2 fr (cs++Z)=none/\zt2 (rF f fr) (cs.map (rF f)++Z')=none)\/
  ∃ v cs',zt2 fr (cs++Z)=some (v,cs'++Z)/\zt2 (rF f fr) (cs.map (rF f)++Z')=some (rV f v,cs'.map (rF f)++Z')/\ah E n v/\ft E M n (fr::cs'):=by
 have hk:=h.head.kind;have Th:(rF f fr).kind=fr.kind:=rfl;rcases hk with hk|hk
 ·left;constructor
  ·unfold zt2;rw[hk]
  ·unfold zt2;rw[Th,hk]
 ·cases cs with
  |nil=>
   have:fr.kind=.normal:=h.2.1;rw[hk]at this;cases this
  |cons c r=>
   have hc:=h.1 c (.tail _ (.head _));rw[Yi,Ya,Ya];unfold zt2;rw[Th,hk];dsimp only;obtain⟨fn,tmps,todo,ds,mo,ki,ro⟩:=c;cases mo with
   |run=>exact .inl ⟨rfl,rfl⟩
   |returning=>exact .inl ⟨rfl,rfl⟩
   |panicking ch=>
    cases ch with
    |nil=>exact .inl ⟨rfl,rfl⟩
    |cons e Md=>
     obtain⟨v,rc,ge⟩:=e;obtain⟨hv,hg⟩:=hc.mode ⟨v,rc,ge⟩ (.head _);dsimp only at hg hv;subst hg;cases rc with
     |true=>exact .inl ⟨rfl,rfl⟩
     |false=>
      refine .inr ⟨v,_::r,rfl,rfl,hv,?_⟩;refine⟨fun x hx=>?_,?_⟩
      ·cases hx with
       |head=>exact h.head
       |tail _ hx=>
        cases hx with
        |head=>
         refine⟨hc.fn,hc.tmps,hc.todo,hc.defers,fun e he=>?_,hc.kind,hc.round⟩;cases he with
         |head=>exact⟨hv,rfl⟩
         |tail _ he=>exact hc.mode e (.tail _ he)
        |tail _ hx=>exact h.1 x (.tail _ (.tail _ hx))
      ·refine Te (Tf (Mc h.2 sQ) ⟨rfl,rfl⟩)
theorem Me(f:Nat->Nat)(id:Nat):∀ k:List Item,zvy id (k.map (rI f))=(zvy id k).map (List.map (rI f))
 |[]=>rfl
 |i::k=>by
  have ih:=Me f id k;cases i with
  |inBlock j=>
   simp only[Yi,rI,zvy];split
   ·rfl
   ·exact ih
  |_=>exact ih
theorem Ti(id:Nat):∀(k k':List Item),zvy id k=some k'->∀ i∈k',i∈k
 |[],_,h=>by cases h
 |i::k,k',h=>by
  have ih:=Ti id k k';cases i with
  |inBlock j=>
   simp only[zvy]at h;split at h
   ·cases h;exact fun i hi=>.tail _ hi
   ·exact fun i hi=>.tail _ (ih h i hi)
  |_=>exact fun i hi=>.tail _ (ih h i hi)
end
open Go.Conc
def eG(S Z:List YU):YP:=match S++Z with
 |fr::cs=>{frame:=fr,callers:=cs,status:=.running,dying:=none}
 |[]=>default
theorem zW(fr:YU)(cs Z:List YU):eG (fr::cs) Z ={frame:=fr,callers:=cs++Z,status:=.running,dying:=none}:=rfl
def dA(E:Env)(M:String->Bool)(f:Nat->Nat)(Zg Zc:List YU)(hl:Array Y0)(w:YM)(k k':YM->GStep):Prop:=
 ∃(l:List Nat)(r:Option (List YU))(hl':Array Y0),hl.size<=hl'.size/\
  (∀ wl:YM,wl.1=hl->Listed E l wl->match r with
   |none=>∃ o w' es,k wl=.ended o w' es
   |some S=>∃ es,k wl=.go (eG S Zg) {wl with heap:=hl',drawn:=wl.drawn+l.length} es)/\
  (∀ S,r=some S->ft E M hl'.size S/\∃ w' cD,Left E f hl hl' w w' cD/\k' w=.go (eG (S.map (rF f)) Zc) w' cD)
section
variable {E:Env}{M:String->Bool}{f:Nat->Nat}{Zg Zc:List YU}{hl:Array Y0}{w:YM}{k k':YM->GStep}
theorem dA.go{S:List YU}(hr:fp E f hl w.1)(hS:ft E M hl.size S)(h:∀ wl,∃ es,k wl=.go (eG S Zg) wl es)(h':k' w=.go (eG (S.map (rF f)) Zc) w #[]):dA E M f Zg Zc hl w k k':=by
 refine⟨[],some S,hl,Yp _,fun wl hw _=>?_,fun S' e=>?_⟩
 ·obtain⟨es,e⟩:=h wl;refine⟨es,e.trans ?_⟩;subst hw;rfl
 ·cases e;exact⟨hS,w,#[],.refl hr,h'⟩
theorem dA.ended(h:∀ wl,∃ o w' es,k wl=.ended o w' es):dA E M f Zg Zc hl w k k':=
 ⟨[],none,hl,Yp _,fun wl _ _=>h wl,fun S e=>by cases e⟩
theorem Left.sub{w':YM}(h:Left E f hl hl' w w' es)(hs:∀ e∈bP,e∈es):Left E f hl hl' w w' bP:=
 ⟨h.rel,h.size,h.stay,h.tape,h.os,h.out,fun e he=>h.evs e (hs e he)⟩
theorem EP{α:Type}{Q:Nat->α->α->Prop}{t t':Sem α}(hr:fp E f hl w.1)(bG:w.os=E.os)(h:aa E f hl.size Q t t')
  (iW:∀ wl hh w' es,BN E hh->t.runT E.P wl #[]=(.halt hh w',es)->∃ o w2 bP,k wl=.ended o w2 bP)
  (av:∀ m a a',hl.size<=m->Q m a a'->∃ S,ft E M m S/\(∀ wl w' es,t.runT E.P wl #[]=(.ok a w',es)->∃ bP,k wl=.go (eG S Zg) w' bP)/\
   (∀ w' es,t'.runT E.P w #[]=(.ok a' w',es)->∃ bP,(∀ e∈bP,e∈es)/\k' w=.go (eG (S.map (rF f)) Zc) w' bP))
  (zdZ:∀ m v,hl.size<=m->ah E m v->(∀ wl w' es,t.runT E.P wl #[]=(.halt (.panic v) w',es)->∃ o w2 bP,k wl=.ended o w2 bP)\/
   ∃ S,ft E M m S/\(∀ wl w' es,t.runT E.P wl #[]=(.halt (.panic v) w',es)->∃ bP,k wl=.go (eG S Zg) w' bP)/\
    (∀ w' es,t'.runT E.P w #[]=(.halt (.panic (rV f v)) w',es)->∃ bP,(∀ e∈bP,e∈es)/\k' w=.go (eG (S.map (rF f)) Zc) w' bP)):
  dA E M f Zg Zc hl w k k':=by
 obtain⟨l,r,dY,ha,hs,hc⟩:=h hl w hr lQ bG;match r,ha,hc with
 |none,ha,hc=>
  refine⟨l,none,dY,hs,fun wl hw hL=>?_,fun S e=>by cases e⟩;obtain⟨x,es,hx,hh,w',hb,rfl⟩:=ha wl #[] hw hL;exact iW wl hh w' es hb hx
 |some (.ok a),ha,hc=>
  obtain⟨w1,ox,vY,hx⟩:=hc sQ;obtain⟨x,hx,a',hQ,rfl⟩:=hx #[];obtain⟨S,hS,h1,h2⟩:=av dY.size a a' hs hQ;refine⟨l,some S,dY,hs,fun wl hw hL=>?_,fun S' e=>?_⟩
  ·obtain⟨x,es,hx,rfl⟩:=ha wl #[] hw hL;exact h1 wl _ es hx
  ·cases e;obtain⟨bP,ER,e⟩:=h2 w1 _ hx;refine⟨hS,w1,bP,vY.sub fun e he=>by simpa using ER e he,e⟩
 |some (.error v),ha,hc=>
  obtain⟨w1,ox,vY,hx⟩:=hc sQ;obtain⟨x,hx,hv,rfl⟩:=hx #[];rcases zdZ dY.size v hs hv with h1|⟨S,hS,h1,h2⟩
  ·refine⟨l,none,dY,hs,fun wl hw hL=>?_,fun S e=>by cases e⟩;obtain⟨x,es,hx,rfl⟩:=ha wl #[] hw hL;exact h1 wl _ es hx
  ·refine⟨l,some S,dY,hs,fun wl hw hL=>?_,fun S' e=>?_⟩
   ·obtain⟨x,es,hx,rfl⟩:=ha wl #[] hw hL;exact h1 wl _ es hx
   ·cases e;obtain⟨bP,ER,e⟩:=h2 w1 _ hx;refine⟨hS,w1,bP,vY.sub fun e he=>by simpa using ER e he,e⟩
theorem zd0(C:oF E M){dy:Option Dying}{g:Nat}(hO:E.O g)(w:YM):∃ o w2 bP,early E.P fr cs dy g w=.ended o w2 bP:=by
 unfold early;simp only[C.ahead,C.wait g hO,zr4,X8,YF];exact⟨_,_,_,rfl⟩
theorem Tj(es:Array YX)(s:GStep)(h:∃ o w2 bP,s=.ended o w2 bP):∃ o w2 bP,s.after es=.ended o w2 bP:=by
 obtain⟨o,w2,bP,rfl⟩:=h;exact⟨_,_,_,rfl⟩
theorem zd1(C:oF E M){s:Sem Y9}{w w':YM}{hh:Halt}(hb:BN E hh)(h:s.runT E.P w #[]=(.halt hh w',es)):∃ o w2 bP,ZA E.P true fr cs none s w=.ended o w2 bP:=by
 unfold ZA;simp only[YI,h];refine Tj _ _ ?_;cases hh with
 |stuck s=>exact⟨_,_,_,rfl⟩
 |unsupported u=>
  cases u with
  |initOrder k=>exact zd0 C hb w'
  |_=>exact⟨_,_,_,rfl⟩
 |_=>exact hb.elim
theorem xX{P:Y2}{b:Bool}:∀ e∈seen P fn (if b=true then#[]else es)++#[],e∈es:=fun e he=>by
 rw[XV]at he;have:=zuX he;cases b with
 |true=>simp at this
 |false=>simpa using this
theorem pI{P:Y2}:∀ e∈seen P fn es++#[],e∈es:=fun e he=>by
 rw[XV]at he;exact zuX he
theorem Mf(C:oF E M)(hr:fp E f hl w.1)(bG:w.os=E.os)(hS:ft E M hl.size (fr::cs)){s s':Sem Y9}(hs:aa E f hl.size (NQ E f) s s'):
  dA E M f Zg Zc hl w (fun wl=>ZA E.P true fr (cs++Zg) none s wl) (fun wc=>ZA E.P true (rF f fr) (cs.map (rF f)++Zc) none s' wc):=by
 have az:=hS.head;obtain⟨n1,n2⟩:=az.vX;have n3:∀ d a b c k,(rF f fr).todo≠.call d a b c::k:=fun d a b c k e=>by
   have e:fr.todo.map (rI f)=.call d a b c::k:=e;cases ht:fr.todo with
   |nil=>rw[ht]at e;cases e
   |cons i r=>
    rw[ht,Yi]at e;have e2:=(zA5 e).1;have hi:=az.todo i (by rw[ht];exact .head _);cases i<;>first |exact hi|cases e2
 refine EP hr bG hs (fun wl hh w' es hb h=>zd1 C hb h) (fun m a a' hm hq=>?_) (fun m v hm hv=>?_)
 ·cases a with
  |value v=>
   obtain⟨rfl,hv⟩:=hq;refine⟨fr.finish v::cs,hS.swap hm ((oG hm az).finish hv) (zV fr v),fun wl w' es h=>⟨seen E.P fr.fn (if(fr.kind == .early)=true then#[]else es)++#[],?_⟩,fun w' es h=>⟨seen E.P fr.fn (if(fr.kind == .early)=true then#[]else es)++#[],xX,?_⟩⟩
   ·unfold ZA;simp only[YI,h];rfl
   ·rw[Yi,zU f n1 n2];unfold ZA;simp only[YI,h];rfl
  |skip=>
   obtain rfl:=hq;refine⟨fr.finish YY::cs,hS.swap hm ((oG hm az).finish (zJ E m)) (zV fr _),fun wl w' es h=>⟨seen E.P fr.fn (if(fr.kind == .early)=true then#[]else es)++#[],?_⟩,fun w' es h=>⟨seen E.P fr.fn (if(fr.kind == .early)=true then#[]else es)++#[],xX,?_⟩⟩
   ·unfold ZA;simp only[YI,h];rfl
   ·rw[Yi,zU f n1 n2,show rV f YY=YY from Er f];unfold ZA;simp only[YI,h];rfl
  |enter g args=>
   obtain⟨rfl,hT,ha⟩:=hq;refine⟨Y8 E.P g args .normal::fr::cs,hS.push hm (.enter C hT ha (.inl rfl)),fun wl w' es h=>⟨seen E.P fr.fn (if(fr.kind == .early)=true then#[]else es)++#[],?_⟩,fun w' es h=>⟨seen E.P (rF f fr).fn (if((rF f fr).kind == .early)=true then#[]else es)++#[],xX,?_⟩⟩
   ·unfold ZA;simp only[YI,h];split
    all_goals
     split
     ·rename_i e;exact absurd e (n1 _ _ _ _ _)
     ·rfl
   ·rw[Yi,Mb,Yi];unfold ZA;simp only[YI,h];split
    all_goals
     split
     ·rename_i e;exact absurd e (n3 _ _ _ _ _)
     ·rfl
  |round l g tmps a b=>
   obtain⟨rfl,hI,hT,ht,h1,h2⟩:=hq;refine⟨zvd l g tmps a b .normal::fr::cs,hS.push hm (.Td C hI hT ht h1 h2 (.inl rfl)),fun wl w' es h=>⟨seen E.P fr.fn (if(fr.kind == .early)=true then#[]else es)++#[],?_⟩,fun w' es h=>⟨seen E.P fr.fn (if(fr.kind == .early)=true then#[]else es)++#[],xX,?_⟩⟩
   ·unfold ZA;simp only[YI,h];rfl
   ·rw[Yi,zdY,Yi];unfold ZA;simp only[YI,h];rfl
  |defer d=>
   obtain⟨rfl,hd⟩:=hq;have Mg:okF E M m {fr with defers:=d::fr.defers}:=by
    have:=oG hm az;refine⟨this.fn,this.tmps,this.todo,fun x hx=>?_,this.mode,this.kind,this.round⟩;cases hx with
    |head=>exact hd
    |tail _ hx=>exact this.defers x hx
   refine⟨({fr with defers:=d::fr.defers}:YU).finish YY::cs,hS.swap hm (Mg.finish (zJ E m)) (zV _ _),fun wl w' es h=>⟨seen E.P fr.fn (if(fr.kind == .early)=true then#[]else es)++#[],?_⟩,fun w' es h=>⟨seen E.P fr.fn (if(fr.kind == .early)=true then#[]else es)++#[],xX,?_⟩⟩
   ·unfold ZA;simp only[YI,h];rfl
   ·rw[Yi,zU f Mg.vX.1 Mg.vX.2,show rV f YY=YY from Er f];unfold ZA;simp only[YI,h];rfl
  |recover=>
   obtain rfl:=hq;rcases Tg (f:=f) (IP hm hS) Zg Zc with ⟨h1,h2⟩|⟨v,cs',h1,h2,hv,sq⟩
   ·refine⟨fr.finish .nilIface::cs,hS.swap hm ((oG hm az).finish (uh rfl)) (zV fr _),fun wl w' es h=>⟨seen E.P fr.fn (if(fr.kind == .early)=true then#[]else es)++#[],?_⟩,fun w' es h=>⟨seen E.P fr.fn (if(fr.kind == .early)=true then#[]else es)++#[],xX,?_⟩⟩
    ·cases iU:fr.roundOf with
     |none=>
      unfold ZA;simp only[YI,h,iU,h1];rfl
     |some l=>
      unfold ZA;simp only[YI,h,iU,C.back,h1];rfl
    ·rw[Yi,zU f n1 n2,show rV f .nilIface=.nilIface from zG rfl];cases iU:(rF f fr).roundOf with
     |none=>
      unfold ZA;simp only[YI,h,iU,h2];rfl
     |some l=>
      unfold ZA;simp only[YI,h,iU,C.back,h2];rfl
   ·refine⟨fr.finish v::cs',sq.swap lQ (sq.head.finish hv) (zV fr _),fun wl w' es h=>⟨seen E.P fr.fn (if(fr.kind == .early)=true then#[]else es)++#[],?_⟩,fun w' es h=>⟨seen E.P fr.fn (if(fr.kind == .early)=true then#[]else es)++#[],xX,?_⟩⟩
    ·cases iU:fr.roundOf with
     |none=>
      unfold ZA;simp only[YI,h,iU,h1];rfl
     |some l=>
      unfold ZA;simp only[YI,h,iU,C.back,h1];rfl
    ·rw[Yi,zU f n1 n2];cases iU:(rF f fr).roundOf with
     |none=>
      unfold ZA;simp only[YI,h,iU,h2];rfl
     |some l=>
      unfold ZA;simp only[YI,h,iU,C.back,h2];rfl
  |_=>exact hq.elim
 ·refine .inr ⟨fr.raise [{v,recovered:=false}]::cs,hS.swap hm ((oG hm az).raise fun e he=>?_) (IU fr _),fun wl w' es h=>⟨seen E.P fr.fn (if(fr.kind == .early)=true then#[]else es)++#[],?_⟩,fun w' es h=>⟨seen E.P fr.fn (if(fr.kind == .early)=true then#[]else es)++#[],xX,?_⟩⟩
  ·cases he with
   |head=>exact⟨hv,rfl⟩
   |tail _ h=>cases h
  ·unfold ZA;simp only[YI,h];rfl
  ·rw[Yi,IQ];unfold ZA;simp only[YI,h];rfl
end
section
variable {E:Env}{M:String->Bool}{f:Nat->Nat}{Zg Zc:List YU}{hl:Array Y0}{w:YM}{k k':YM->GStep}
theorem Tk{g:YP}{w:YM}:(GStep.go g w bP).after es=.go g w (es++bP):=rfl
theorem Mh{α:Type}{Q:Nat->α->α->Prop}{t t':Sem α}{k2 k2':α->YM->GStep}(hr:fp E f hl w.1)(bG:w.os=E.os)(h:aa E f hl.size Q t t')
  (iW:∀ wl hh w' es,t.runT E.P wl #[]=(.halt hh w',es)->∃ o w2 bP,k wl=.ended o w2 bP)
  (hk:∀ wl a w' es,t.runT E.P wl #[]=(.ok a w',es)->∃ bP,k wl=(k2 a w').after bP)
  (dB:∀ a' w' es,t'.runT E.P w #[]=(.ok a' w',es)->∃ bP,(∀ e∈bP,e∈es)/\k' w=(k2' a' w').after bP)
  (hg:∀ dY w1 a a',fp E f dY w1.1->w1.os=E.os->hl.size<=dY.size->Q dY.size a a'->dA E M f Zg Zc dY w1 (k2 a) (k2' a')):
  dA E M f Zg Zc hl w k k':=by
 obtain⟨l,r,dY,ha,hs,hc⟩:=h hl w hr lQ bG;match r,ha,hc with
 |none,ha,hc=>
  refine⟨l,none,dY,hs,fun wl hw hL=>?_,fun S e=>by cases e⟩;obtain⟨x,es,hx,hh,w',hb,rfl⟩:=ha wl #[] hw hL;exact iW wl hh w' es hx
 |some (.error v),ha,hc=>
  refine⟨l,none,dY,hs,fun wl hw hL=>?_,fun S e=>by cases e⟩;obtain⟨x,es,hx,rfl⟩:=ha wl #[] hw hL;exact iW wl _ _ es hx
 |some (.ok a),ha,hc=>
  obtain⟨w1,ox,vY,hx⟩:=hc sQ;obtain⟨x,hx,a',hQ,rfl⟩:=hx #[];obtain⟨l2,r2,zv,gC,h1,h2⟩:=hg dY w1 a a' vY.rel (vY.os.trans bG) hs hQ;refine⟨l++l2,r2,zv,Yq hs gC,fun wl hw hL=>?_,fun S e=>?_⟩
  ·obtain⟨x,es,hx,rfl⟩:=ha wl #[] hw hL.left;obtain⟨bP,e2⟩:=hk wl a _ es hx;have h3:=h1 {wl with heap:=dY,drawn:=wl.drawn+l.length} rfl (hL.right rfl rfl rfl);cases r2 with
   |none=>
    obtain⟨o,w',ES,e3⟩:=h3;exact⟨o,w',bP++ES,by rw[e2,e3];rfl⟩
   |some S=>
    obtain⟨ES,e3⟩:=h3;refine⟨bP++ES,?_⟩;rw[e2,e3,Tk];simp[Nat.add_assoc]
  ·obtain⟨hS,w2,bP,Q1,e2⟩:=h2 S e;obtain⟨ES,ER,e3⟩:=dB a' w1 _ hx;refine⟨hS,w2,ES++bP,(vY.sub fun e he=>by simpa using ER e he).trans hr Q1 hs gC,?_⟩;rw[e3,e2,Tk]
theorem Tl(f:Nat->Nat)(au:Array Oper)(tmps:Array YN):yielded au (tmps.map (rV f))=yielded au tmps:=by
 funext j
 unfold yielded;cases(au[j]?).bind (·.dst)with
 |none=>rfl
 |some d=>
  simp only[zsz,XZ];cases tmps[d]? with
  |none=>rfl
  |some v=>cases v<;>simp[rV]
theorem Tm{l:List zud}(h:∀ e∈l,e.goexit=false):l.dropWhile (fun e=>!e.goexit)=[]:=by
 induction l with
 |nil=>rfl
 |cons a l ih=>
  rw[List.dropWhile_cons,h a (.head _)];exact ih fun e he=>h e (.tail _ he)
theorem Mi(hr:fp E f hl w.1){c:YU}{main main':Bool}(hS:ft E M hl.size (fr::c::cs))(hv:ah E hl.size v):
  dA E M f Zg Zc hl w (fun wl=>ZG E.P main fr (c::cs++Zg) none v wl) (fun wc=>ZG E.P main' (rF f fr) ((c::cs).map (rF f)++Zc) none (rV f v) wc):=by
 have iX:ft E M hl.size (c::cs):=⟨fun x hx=>hS.1 x (.tail _ hx),Mc hS.2 sQ⟩;have hc:=iX.head;rcases hS.head.kind with hk|hk
 ·refine dA.go (S:=c.finish v::cs) hr (iX.swap lQ (hc.finish hv) (zV c v)) (fun wl=>⟨#[],?_⟩) ?_
  ·simp only[ZG,Ya,hk];rfl
  ·rw[Yi,Yi,zU f hc.vX.1 hc.vX.2];have:(rF f fr).kind=.normal:=hk;simp only[ZG,Ya,this];rfl
 ·have dB:(rF f fr).kind=.deferred:=hk;obtain⟨fn,tmps,todo,ds,mo,ki,ro⟩:=c;cases mo with
  |run=>
   refine dA.go hr iX (fun wl=>⟨#[],?_⟩) ?_
   ·simp only[ZG,Ya,hk];rfl
   ·simp only[ZG,Yi,Ya,dB];rfl
  |returning=>
   refine dA.go hr iX (fun wl=>⟨#[],?_⟩) ?_
   ·simp only[ZG,Ya,hk];rfl
   ·simp only[ZG,Yi,Ya,dB];rfl
  |panicking ch=>
   cases ch with
   |nil=>
    refine dA.go hr iX (fun wl=>⟨#[],?_⟩) ?_
    ·simp only[ZG,Ya,hk];rfl
    ·simp only[ZG,Yi,Ya,dB];rfl
   |cons e Md=>
    obtain⟨ev,rc,ge⟩:=e;cases rc with
    |false=>
     refine dA.go hr iX (fun wl=>⟨#[],?_⟩) ?_
     ·simp only[ZG,Ya,hk];rfl
     ·simp only[ZG,Yi,Ya,dB];rfl
    |true=>
     have hg:∀ e∈Md,e.goexit=false:=fun e he=>(hc.mode e (.tail _ he)).2
     have fI:∀ e∈Md.map (rP f),e.goexit=false:=fun e he=>by
      obtain⟨x,hx,rfl⟩:=Ym.1 he;exact hg x hx
     refine dA.go (S:=⟨fn,tmps,todo,ds,.returning,ki,ro⟩::cs) hr (iX.swap lQ ⟨hc.fn,hc.tmps,hc.todo,hc.defers,trivial,hc.kind,hc.round⟩ ⟨rfl,rfl⟩) (fun wl=>⟨#[],?_⟩) ?_
     ·simp only[ZG,Ya,hk,Tm hg];rfl
     ·simp only[ZG,Yi,Ya,hk,rF,rM,rP,Tm fI];rfl
end
section
variable {E:Env}{M:String->Bool}{f:Nat->Nat}{Zg Zc:List YU}{hl:Array Y0}{w:YM}{k k':YM->GStep}{main main':Bool}
theorem dA.vZ{k2 k2':YM->GStep}(h:dA E M f Zg Zc hl w k2 k2')(e:∀ wl,k wl=k2 wl)(e':k' w=k2' w):dA E M f Zg Zc hl w k k':=by
 obtain⟨l,r,hl',h1,h2,h3⟩:=h;refine⟨l,r,hl',h1,fun wl hw hL=>?_,fun S hS=>?_⟩
 ·rw[e wl];exact h2 wl hw hL
 ·rw[e'];exact h3 S hS
theorem Mj(F:Fit E f)(hr:fp E f hl w.1)(bG:w.os=E.os)(hS:ft E M hl.size (fr::cs))(hj:∀ c,jump=some c->E.C c=true)
  (h0:fr.roundOf=none->(∀ wl,∃ o w2 bP,k wl=.ended o w2 bP)\/((∀ wl,∃ es,k wl=.go (eG ({fr with mode:=.returning}::cs) Zg) wl es)/\k' w=.go (eG (({fr with mode:=.returning}::cs).map (rF f)) Zc) w #[]))
  (h1:∀ l,fr.roundOf=some l->∀ wl hh w' es,(zvh l jump).runT E.P wl #[]=(.halt hh w',es)->∃ o w2 bP,k wl=.ended o w2 bP)
  (h2:∀ l,fr.roundOf=some l->∀ wl v w' es,(zvh l jump).runT E.P wl #[]=(.ok v w',es)->∃ bP,k wl=(ZG E.P main fr (cs++Zg) none v w').after bP)
  (h3:∀ l,fr.roundOf=some l->∀ v w' es,(zvh (f l) jump).runT E.P w #[]=(.ok v w',es)->∃ bP,(∀ e∈bP,e∈es)/\k' w=(ZG E.P main' (rF f fr) (cs.map (rF f)++Zc) none v w').after bP):
  dA E M f Zg Zc hl w k k':=by
 have az:=hS.head;cases iU:fr.roundOf with
 |none=>
  rcases h0 iU with h|⟨h,h'⟩
  ·exact dA.ended h
  ·exact dA.go (S:={fr with mode:=.returning}::cs) hr (hS.swap lQ ⟨az.fn,az.tmps,az.todo,az.defers,trivial,az.kind,az.round⟩ ⟨rfl,rfl⟩) h h'
 |some l=>
  cases cs with
  |nil=>
   have:=hS.2.2;rw[iU]at this;cases this
  |cons c cs=>
   refine Mh (k2:=fun v w'=>ZG E.P main fr (c::cs++Zg) none v w') (k2':=fun v w'=>ZG E.P main' (rF f fr) ((c::cs).map (rF f)++Zc) none v w') hr bG (zdM F (az.round l iU) hj) (h1 l iU) (fun wl a w' es h=>h2 l iU wl a w' es h) (fun a' w' es h=>h3 l iU a' w' es h) fun dY w1 v v' lZ _ hs hq=>?_
   obtain⟨rfl,hv⟩:=hq;exact Mi lZ (IP hs hS) hv
theorem uq(hr:fp E f hl w.1)(hS:ft E M hl.size (fr::cs)){todo:List Item}(ht:∀ i∈todo,uo E M hl.size fr.roundOf.isSome i)
  (h:∀ wl,k wl=.go (eG ({fr with todo:=todo}::cs) Zg) wl #[]) (h':k' w=.go (eG ({rF f fr with todo:=todo.map (rI f)}::cs.map (rF f)) Zc) w #[]):dA E M f Zg Zc hl w k k':=by
 have az:=hS.head;refine dA.go (S:={fr with todo:=todo}::cs) hr (hS.swap lQ ⟨az.fn,az.tmps,ht,az.defers,az.mode,az.kind,az.round⟩ ⟨rfl,rfl⟩) (fun wl=>⟨#[],h wl⟩) ?_;rw[h',Yi];rfl
theorem qI{n:Nat}{r:Bool}{k:List Item}(hi:uo E M n r i)(hk:∀ i∈k,uo E M n r i):∀ j∈i::k,uo E M n r j:=fun j hj=>by
 cases hj with
 |head=>exact hi
 |tail _ h=>exact hk j h
theorem zd2(F:Fit E f)(H:bD E)(X:oD E M)(C:oF E M)(hr:fp E f hl w.1)(bG:w.os=E.os){au:Array Oper}{i:Nat}{l:List Nat}{kk:List Item}{ds:List Deferred}{mo:FrameMode}{ki:zva}{ro:Option Nat}
  (hS:ft E M hl.size (⟨fn,tmps,.inRegion au (i::l)::kk,ds,mo,ki,ro⟩::cs)):
  dA E M f Zg Zc hl w (fun wl=>zwv E.P true ⟨fn,tmps,.inRegion au (i::l)::kk,ds,mo,ki,ro⟩ (cs++Zg) none wl) (fun wc=>zwv E.P true (rF f ⟨fn,tmps,.inRegion au (i::l)::kk,ds,mo,ki,ro⟩) (cs.map (rF f)++Zc) none wc):=by
 have az:=hS.head;obtain⟨ho,jT⟩:=az.todo (.inRegion au (i::l)) (.head _);cases hop:au[i]? with
 |none=>
  refine dA.ended fun wl=>?_
  simp only[zwv,zyl,hop];exact⟨_,_,_,rfl⟩
 |some o=>
  have oH:o∈au.toList:=by simpa using Array.mem_of_getElem? hop
  have zX:=X9.1 ho o oH;have ET:=zdU F H X (Ma F C az) zX;refine dA.vZ (Mf (Zg:=Zg) (Zc:=Zc) C hr bG hS ET) (fun wl=>?_) ?_
  ·simp only[zwv,zyl,hop];split
   ·rename_i e1 e2;have:=X9.1 (jT rfl) o oH;unfold IL at this;rw[e2]at this;cases this
   ·rfl
  ·simp only[zwv,zyl,rF,Yi,rI,hop];split
   ·rename_i e1 e2;cases ro with
    |none=>cases e1
    |some x=>
     have:=X9.1 (jT rfl) o oH;unfold IL at this;rw[e2]at this;cases this
   ·rfl
theorem Tn(fr:YU)(x:Zr)(v:YN):resolve fr.eval {callee:=.value x,args:=#[.const v],argTypes:=#[]} 0=ztG (fr.eval x) #[v]:=by
 unfold resolve;simp[Frame.eval]
theorem Tp(fn:Zt)(tmps:Array YN)(t t':List Item)(d d':List Deferred)(mo:FrameMode)(ki:zva)(ro:Option Nat)(x:Zr):(⟨fn,tmps,t,d,mo,ki,ro⟩:YU).eval x=(⟨fn,tmps,t',d',mo,ki,ro⟩:YU).eval x:=by
 cases x<;>rfl
theorem zd3(F:Fit E f)(H:bD E)(X:oD E M)(C:oF E M)(hr:fp E f hl w.1)(bG:w.os=E.os)(hS:ft E M hl.size (fr::cs)):
  dA E M f Zg Zc hl w (fun wl=>Zp E.P main true fr (cs++Zg) none wl) (fun wc=>Zp E.P main' true (rF f fr) (cs.map (rF f)++Zc) none wc):=by
 have az:=hS.head;obtain⟨fn,tmps,todo,ds,mo,ki,ro⟩:=fr;cases todo with
 |nil=>
  refine Mj (main:=main) (main':=main') F hr bG hS (jump:=none) (fun c h=>by cases h) (fun h=>.inr ⟨fun wl=>⟨#[],?_⟩,?_⟩) (fun l hl' wl hh w' es h=>?_) (fun l hl' wl v w' es h=>⟨seen E.P fn es,?_⟩) (fun l hl' v w' es h=>⟨seen E.P fn es,fun e he=>zuX he,?_⟩)
  ·dsimp only at h;subst h;rfl
  ·dsimp only at h;subst h;rfl
  ·dsimp only at hl';subst hl';simp only[Zp,h];exact⟨_,_,_,rfl⟩
  ·dsimp only at hl';subst hl';simp only[Zp,h]
  ·dsimp only at hl';subst hl';simp only[Zp,rF,Yj,Yy,h]
 |cons i kk=>
  have iw:∀ i∈kk,uo E M hl.size ro.isSome i:=fun i hi=>az.todo i (.tail _ hi)
  have hi:=az.todo i (.head _);cases i with
  |code c=>
   obtain⟨hc,jT⟩:=hi;cases c with
   |skip=>exact uq hr hS iw (fun wl=>rfl) rfl
   |ret=>
    refine Mj (main:=main) (main':=main') F hr bG hS (jump:=some .ret) (fun c h=>by cases h;rw[C.loops];rfl) (fun h=>.inr ⟨fun wl=>⟨#[],?_⟩,?_⟩) (fun l hl' wl hh w' es h=>?_) (fun l hl' wl v w' es h=>⟨seen E.P fn es,?_⟩) (fun l hl' v w' es h=>⟨seen E.P fn es,fun e he=>zuX he,?_⟩)
    ·dsimp only at h;subst h;rfl
    ·dsimp only at h;subst h;rfl
    ·dsimp only at hl';subst hl';simp only[Zp,h];exact⟨_,_,_,rfl⟩
    ·dsimp only at hl';subst hl';simp only[Zp,h]
    ·dsimp only at hl';subst hl';simp only[Zp,rF,Yi,rI,Yy,h]
   |refuse Hu=>exact dA.ended fun wl=>⟨_,_,_,rfl⟩
   |seq a b=>
    simp only[iv,sk,X6]at hc jT;exact uq hr hS (todo:=.code a :: .code b::kk) (qI ⟨hc.1,fun h=>(jT h).1⟩ (qI ⟨hc.2,fun h=>(jT h).2⟩ iw)) (fun wl=>rfl) rfl
   |cond c a b=>
    simp only[iv,sk,X6]at hc jT;obtain⟨e,hx⟩:=Ma F C az c hc.1;cases hv:(⟨fn,tmps,.code (.cond c a b)::kk,ds,mo,ki,ro⟩:YU).eval c with
    |bool bb=>
     rw[hv,rV]at e;refine uq hr hS (todo:=.code (if bb then a else b)::kk) (qI ?_ iw) (fun wl=>?_) ?_
     ·cases bb with
      |true=>exact⟨hc.2.1,fun h=>(jT h).1⟩
      |false=>exact⟨hc.2.2,fun h=>(jT h).2⟩
     ·simp only[Zp,hv];rfl
     ·have e':(⟨fn,tmps.map (rV f),.code (.cond c a b)::kk.map (rI f),ds.map (rD f),rM f mo,ki,ro.map f⟩:YU).eval c=.bool bb:=e;simp only[Zp,rF,Yi,rI,e'];rfl
    |_=>
     refine dA.ended fun wl=>?_
     simp only[Zp,hv];exact⟨_,_,_,rfl⟩
   |block id c=>
    exact uq hr hS (todo:=.code c :: .inBlock id::kk) (qI ⟨hc,jT⟩ (qI trivial iw)) (fun wl=>rfl) rfl
   |loop c=>
    exact uq hr hS (todo:=.code c :: .inLoop c::kk) (qI ⟨hc,jT⟩ (qI ⟨hc,jT⟩ iw)) (fun wl=>rfl) rfl
   |exit id=>
    cases hx:zvy id kk with
    |some k2=>
     refine uq hr hS (todo:=k2) (fun i hi=>iw i (Ti id kk k2 hx i hi)) (fun wl=>?_) ?_
     ·simp only[Zp,hx];rfl
     ·simp only[Zp,rF,Yi,rI,Me,hx];rfl
    |none=>
     refine Mj (main:=main) (main':=main') F hr bG hS (jump:=some (.exit id)) (fun c h=>by cases h;rw[C.loops];rfl) (fun h=>.inl fun wl=>?_) (fun l hl' wl hh w' es h=>?_) (fun l hl' wl v w' es h=>⟨seen E.P fn es,?_⟩) (fun l hl' v w' es h=>⟨seen E.P fn es,fun e he=>zuX he,?_⟩)
     ·dsimp only at h;subst h;simp only[Zp,hx];exact⟨_,_,_,rfl⟩
     ·dsimp only at hl';subst hl';simp only[Zp,hx,zzn,h];exact⟨_,_,_,rfl⟩
     ·dsimp only at hl';subst hl';simp only[Zp,hx,zzn,h]
     ·dsimp only at hl';subst hl';simp only[Zp,rF,Yi,rI,Yy,Me,hx,zwa,zzn,h]
   |region id au Q5=>
    cases Q5 with
    |false=>exact uq hr hS (todo:=.inRegion au (List.range au.size)::kk) (qI ⟨hc,jT⟩ iw) (fun wl=>rfl) rfl
    |true=>
     refine EP hr bG (aa.choose (.order fn id)) (fun wl hh w' es hb h=>?_) (fun m t t' hm hq=>?_) (fun m v hm hv=>.inl fun wl w' es h=>?_)
     ·have h2:(choose (.order fn id)).run E.P wl=.halt hh w':=by rw[<-ztT E.P _ wl #[],h]
      simp only[Zp,h2];exact⟨_,_,_,rfl⟩
     ·obtain rfl:=hq;have cq:=oG hm az;refine⟨⟨fn,tmps,.inRegion au (Region.schedule (E.P.follows .mixedOrders) au t')::kk,ds,mo,ki,ro⟩::cs,hS.swap hm ⟨cq.fn,cq.tmps,qI ⟨hc,jT⟩ fun i hi=>cq.todo i (.tail _ hi),cq.defers,cq.mode,cq.kind,cq.round⟩ ⟨rfl,rfl⟩,fun wl w' es h=>⟨#[],?_⟩,fun w' es h=>⟨#[],fun e he=>by simp at he,?_⟩⟩
      ·have h2:(choose (.order fn id)).run E.P wl=.ok t' w':=by rw[<-ztT E.P _ wl #[],h]
       simp only[Zp,h2];rfl
      ·have h2:(choose (.order fn id)).run E.P w=.ok t' w':=by rw[<-ztT E.P _ w #[],h]
       simp only[Zp,rF,Yi,rI,h2];rfl
     ·have h2:(choose (.order fn id)).run E.P wl=.halt (.panic v) w':=by rw[<-ztT E.P _ wl #[],h]
      simp only[Zp,h2];exact⟨_,_,_,rfl⟩
   |rangeFunc x ps a b=>
    simp only[iv,X6]at hc;obtain⟨hx,⟨xK,qu⟩,aX,bo⟩:=hc;have hCa:E.C a=true:=by rw[C.loops,xK,qu];rfl
    have hCb:E.C b=true:=by rw[C.loops,aX,bo];rfl
    refine Mh (k2:=fun p w'=>ZA E.P true ⟨fn,tmps,.inRangeFunc p.1::kk,p.2++ds,mo,ki,ro⟩ (cs++Zg) none (ztG ((⟨fn,tmps,.code (.rangeFunc x ps a b)::kk,ds,mo,ki,ro⟩:YU).eval x) #[.func (.yield p.1) #[] #[]] >>= fun d=>invoke d.target d.args) w')
     (k2':=fun p w'=>ZA E.P true ⟨fn,tmps.map (rV f),.inRangeFunc p.1::kk.map (rI f),p.2++ds.map (rD f),rM f mo,ki,ro.map f⟩ (cs.map (rF f)++Zc) none (ztG ((rF f ⟨fn,tmps,.code (.rangeFunc x ps a b)::kk,ds,mo,ki,ro⟩).eval x) #[.func (.yield p.1) #[] #[]] >>= fun d=>invoke d.target d.args) w')
     hr bG (zdJ (fn:=fn) (tmps:=tmps) (params:=ps) (assign:=a) (body:=b) (around:=ro) az.fn az.tmps hCa hCb az.round) (fun wl hh w' es h=>?_) (fun wl p w' es h=>⟨seen E.P fn es,?_⟩) (fun p w' es h=>⟨seen E.P fn es,fun e he=>zuX he,?_⟩) fun dY w1 p p' lZ zd4 hs hq=>?_
    ·simp only[Zp,h];exact⟨_,_,_,rfl⟩
    ·obtain⟨l,mk⟩:=p;simp only[Zp,h,Tn];rw[Tp fn tmps (.inRangeFunc l::kk) (.code (.rangeFunc x ps a b)::kk) (mk++ds) ds mo ki ro x]
    ·obtain⟨l,mk⟩:=p;simp only[Zp,rF,Yi,rI,h,Tn];rw[Tp fn (tmps.map (rV f)) (.inRangeFunc l::kk.map (rI f)) (.code (.rangeFunc x ps a b)::kk.map (rI f)) (mk++ds.map (rD f)) (ds.map (rD f)) (rM f mo) ki (ro.map f) x]
    ·obtain⟨rfl,hI,wh⟩:=hq;obtain⟨l,mk⟩:=p;dsimp only at hI wh⊢;obtain⟨e,hv⟩:=Ma F C az x hx;have cq:=oG hs az;have hyl:bj E dY.size #[.func (.yield l) #[] #[]]:=fun y hy=>by
      simp only[Yn,Yl,Yo,YL]at hy;subst hy;rw[ah];exact⟨hI,xS,xS⟩
     have ET:aa E f dY.size (NQ E f) (ztG ((⟨fn,tmps,.code (.rangeFunc x ps a b)::kk,ds,mo,ki,ro⟩:YU).eval x) #[.func (.yield l) #[] #[]] >>= fun d=>invoke d.target d.args) (ztG ((rF f ⟨fn,tmps,.code (.rangeFunc x ps a b)::kk,ds,mo,ki,ro⟩).eval x) #[.func (.yield (f l)) #[] #[]] >>= fun d=>invoke d.target d.args):=by
      have h1:=zdS (f:=f) (aY hs _ hv) hyl;rw[<-e]at h1;rw[show(#[.func (.yield l) #[] #[]]:Array YN).map (rV f)=#[.func (.yield (f l)) #[] #[]] by simp[rV,BM]]at h1;refine h1.bind fun m d d' _ hd=>?_
      obtain⟨rfl,hd⟩:=hd;exact L9 F H X hd
     have cm:ft E M dY.size (⟨fn,tmps,.inRangeFunc l::kk,mk++ds,mo,ki,ro⟩::cs):=by
      refine hS.swap hs ⟨cq.fn,cq.tmps,qI hI fun i hi=>cq.todo i (.tail _ hi),fun d hd=>?_,cq.mode,cq.kind,cq.round⟩ ⟨rfl,rfl⟩;rcases zsl.1 hd with h|h
      ·exact wh d h
      ·exact cq.defers d h
     refine dA.vZ (Mf (Zg:=Zg) (Zc:=Zc) C lZ zd4 cm ET) (fun wl=>rfl) ?_;simp only[rF,Yi,rI,zsk]
   |_=>cases hc
  |inBlock id=>exact uq hr hS iw (fun wl=>rfl) rfl
  |inLoop c=>exact uq hr hS (todo:=.code c :: .inLoop c::kk) (qI hi (qI hi iw)) (fun wl=>rfl) rfl
  |inRegion au l=>
   cases l with
   |nil=>exact uq hr hS iw (fun wl=>rfl) rfl
   |cons i l=>
    cases hw:((au[i]?).map (Region.wanted · (yielded au tmps))).getD false with
    |true=>
     refine dA.vZ (zd2 (Zg:=Zg) (Zc:=Zc) F H X C hr bG hS) (fun wl=>?_) ?_
     ·simp only[Zp,hw];rfl
     ·simp only[Zp,rF,Yi,rI,Tl,hw];rfl
    |false=>
     refine dA.go (S:=(⟨fn,tmps,.inRegion au (i::l)::kk,ds,mo,ki,ro⟩:YU).finish YY::cs) hr (hS.swap lQ (az.finish (zJ E _)) (zV _ _)) (fun wl=>⟨#[],?_⟩) ?_
     ·simp only[Zp,hw];rfl
     ·rw[Yi,zU f az.vX.1 az.vX.2,show rV f YY=YY from Er f];simp only[Zp,rF,Yi,rI,Tl,hw];rfl
  |inRangeFunc l=>exact dA.ended fun wl=>⟨_,_,_,rfl⟩
  |endRangeFunc l=>
   refine EP hr bG (zdN F H hi) (fun wl hh w' es hb h=>?_) (fun m j j' hm hq=>?_) (fun m v hm hv=>.inr ?_)
   ·cases hh with
    |panic v=>exact hb.elim
    |_=>
     simp only[Zp,h];exact⟨_,_,_,rfl⟩
   ·obtain⟨rfl,hj⟩:=hq;have cq:=oG hm az;refine⟨⟨fn,tmps,(j'.map Item.code).toList++kk,ds,mo,ki,ro⟩::cs,hS.swap hm ⟨cq.fn,cq.tmps,fun i hi=>?_,cq.defers,cq.mode,cq.kind,cq.round⟩ ⟨rfl,rfl⟩,fun wl w' es h=>⟨seen E.P fn es++#[],?_⟩,fun w' es h=>⟨seen E.P fn es++#[],pI,?_⟩⟩
    ·rcases zsl.1 hi with h|h
     ·cases j' with
      |none=>cases h
      |some c=>
       have:=hj c rfl;rw[C.loops,X6]at this;cases h with
       |head=>exact⟨this.1,fun _=>this.2⟩
       |tail _ h=>cases h
     ·exact cq.todo i (.tail _ h)
    ·simp only[Zp,h];rfl
    ·simp only[Zp,rF,Yi,rI,h];cases j' with
     |none=>rfl
     |some c=>rfl
   ·have cq:=oG hm az;refine⟨(⟨fn,tmps,.endRangeFunc l::kk,ds,mo,ki,ro⟩:YU).raise [{v,recovered:=false}]::cs,hS.swap hm (cq.raise fun e he=>?_) (IU _ _),fun wl w' es h=>⟨seen E.P fn es++#[],?_⟩,fun w' es h=>⟨seen E.P fn es++#[],pI,?_⟩⟩
    ·cases he with
     |head=>exact⟨hv,rfl⟩
     |tail _ h=>cases h
    ·simp only[Zp,h];rfl
    ·rw[Yi,IQ];simp only[Zp,rF,Yi,rI,h];rfl
  |beginRound=>
   have ET:aa E f hl.size (NQ E f) (ro.elim (stuck "beginRound: no round") zvP >>= fun _=>YZ .skip) ((ro.map f).elim (stuck "beginRound: no round") zvP >>= fun _=>YZ .skip):=by
    cases iU:ro with
    |none=>exact aa.iu
    |some l=>exact IK (zdL F H (az.round l iU))
   exact dA.vZ (Mf (Zg:=Zg) (Zc:=Zc) C hr bG hS ET) (fun wl=>rfl) rfl
  |_=>exact hi.elim
end
section
variable {E:Env}{M:String->Bool}{f:Nat->Nat}{Zg Zc:List YU}{hl:Array Y0}{w:YM}{k k':YM->GStep}{main main':Bool}
theorem Tq(F:Fit E f)(H:bD E):∀(l:List ResultVar)(n:Nat),bj E n tmps->aa E f n (fun m vs Mk=>Mk=vs.map (rV f)/\∀ v∈vs,ah E m v)
  (l.mapM fun|.tmp t=>(pure (tmps.getD t YY):Sem YN)|.cell a t=>do ZN t (<-asAddr (tmps.getD a YY))) (l.mapM fun|.tmp t=>(pure ((tmps.map (rV f)).getD t YY):Sem YN)|.cell a t=>do ZN t (<-asAddr ((tmps.map (rV f)).getD a YY)))
 |[],n,_=>aa.pure fun m hm=>⟨rfl,fun v hv=>by cases hv⟩
 |r::l,n,ht=>by
  rw[zy1,zy1];have h1:aa E f n (VQ E f) (match r with|.tmp t=>(pure (tmps.getD t YY):Sem YN)|.cell a t=>do ZN t (<-asAddr (tmps.getD a YY))) (match r with|.tmp t=>(pure ((tmps.map (rV f)).getD t YY):Sem YN)|.cell a t=>do ZN t (<-asAddr ((tmps.map (rV f)).getD a YY))):=by
   cases r with
   |tmp t=>exact aa.pure fun m hm=>⟨Et f tmps t,aY hm _ (Es ht t)⟩
   |cell a t=>
    dsimp only;rw[show(tmps.map (rV f)).getD a YY=rV f (tmps.getD a YY)from Et f tmps a];refine(RY F H (Es ht a)).bind fun m x x' hm hx=>?_
    obtain⟨rfl,hA⟩:=hx;exact EE F hA t
  refine h1.bind fun m v v' hm hv=>?_
  obtain⟨rfl,hv⟩:=hv;refine(Tq F H l m (eF ht hm)).bind fun m2 vs Mk aK xY=>?_
  obtain⟨rfl,xY⟩:=xY;refine aa.pure fun m3 gu=>⟨rfl,fun x hx=>?_⟩
  cases hx with
  |head=>exact aY (Yq aK gu) _ hv
  |tail _ hx=>exact aY gu _ (xY x hx)
theorem Ts(F:Fit E f)(H:bD E){n:Nat}{fn:Func}(ht:bj E n tmps):aa E f n (VQ E f) (results fn tmps) (results fn (tmps.map (rV f))):=by
 unfold results;rw[zxN,zxN];simp only[map_eq_pure_bind,bind_assoc,pure_bind];refine(Tq F H fn.results.toList n ht).bind fun m vs Mk hm xY=>?_
 obtain⟨rfl,xY⟩:=xY;refine aa.pure fun m2 aK=>?_
 match vs with
 |[v]=>exact⟨rfl,aY aK _ (xY v (.head _))⟩
 |[]=>
  refine⟨by simp[rV],?_⟩;show ah E m2 (.tuple #[]);exact zJ E m2
 |v::u::vs=>
  refine⟨by simp[rV],?_⟩;show ah E m2 (.tuple (v::u::vs).toArray);rw[ah];exact fun x hx=>aY aK _ (xY x (by simpa using hx))
theorem kL{P:Y2}{d:Deferred}{w:YM}(hn:d.target≠.nil\/∀ ch,fr.mode≠.panicking ch){r:Result Y9}(h:(invoke d.target d.args).runT P w #[]=(r,es)):
  (∀ g args w',r=.ok (.enter g args) w'->zsK P fr cs none d w=.go {frame:=Y8 P g args .deferred,callers:=fr::cs,status:=.running,dying:=none} w' (seen P fr.fn es++#[]))/\
  (∀ l g tmps a b w',r=.ok (.round l g tmps a b) w'->zsK P fr cs none d w=.go {frame:=zvd l g tmps a b .deferred,callers:=fr::cs,status:=.running,dying:=none} w' (seen P fr.fn es++#[]))/\
  (∀ v w',r=.ok (.value v) w'->zsK P fr cs none d w=.go {frame:=fr,callers:=cs,status:=.running,dying:=none} w' (seen P fr.fn es++#[]))/\
  (∀ w',r=.ok .skip w'->zsK P fr cs none d w=.go {frame:=fr,callers:=cs,status:=.running,dying:=none} w' (seen P fr.fn es++#[]))/\
  (∀ x w',r=.ok (.defer x) w'->zsK P fr cs none d w=.go {frame:=fr,callers:=cs,status:=.running,dying:=none} w' (seen P fr.fn es++#[]))/\
  (∀ w',r=.ok .recover w'->(zt2 fr cs=none\/fr.mode≠.returning)->zsK P fr cs none d w=.go {frame:=fr,callers:=cs,status:=.running,dying:=none} w' (seen P fr.fn es++#[]))/\
  (∀ w' v cs',r=.ok .recover w'->zt2 fr cs=some (v,cs')->fr.mode=.returning->zsK P fr cs none d w=.go {frame:=fr,callers:=cs',status:=.running,dying:=none} w' (seen P fr.fn es++#[]))/\
  (∀ v w',r=.halt (.panic v) w'->zsK P fr cs none d w=.go {frame:=fr.raise [{v,recovered:=false}],callers:=cs,status:=.running,dying:=none} w' (seen P fr.fn es++#[]))/\
  (∀ s w',r=.halt (.stuck s) w'->∃ o w2 bP,zsK P fr cs none d w=.ended o w2 bP)/\
  (∀ u w',r=.halt (.unsupported u) w'->∃ o w2 bP,zsK P fr cs none d w=.ended o w2 bP):=by
 generalize sr:zsK P fr cs none d w=x;unfold zsK at sr;rw[YG]at sr
 ·simp only[h]at sr;subst sr;refine⟨?_,?_,?_,?_,?_,?_,?_,?_,?_,?_⟩
  ·rintro g args w' rfl;rfl
  ·rintro l g tmps a b w' rfl;rfl
  ·rintro v w' rfl;rfl
  ·rintro w' rfl;rfl
  ·rintro x w' rfl;rfl
  ·rintro w' rfl h1;rcases h1 with h1|h1
   ·simp only[h1];cases fr.mode<;>rfl
   ·cases hm:fr.mode with
    |returning=>exact absurd hm h1
    |_=>rfl
  ·rintro w' v cs' rfl h1 h2;simp only[h1,h2];rfl
  ·rintro v w' rfl;rfl
  ·rintro s w' rfl;exact⟨_,_,_,rfl⟩
  ·rintro u w' rfl;exact⟨_,_,_,rfl⟩
 ·intro hc;rw[X6]at hc;rcases hn with hn|hn
  ·have h1:=hc.1;cases ht:d.target with
   |nil=>exact hn ht
   |_=>rw[ht]at h1;cases h1
  ·have h1:=hc.2;cases ht:fr.mode with
   |panicking ch=>exact hn ch ht
   |_=>rw[ht]at h1;cases h1
theorem zd5(F:Fit E f)(H:bD E)(X:oD E M)(C:oF E M)(hr:fp E f hl w.1)(bG:w.os=E.os){d:Deferred}(hS:ft E M hl.size (fr::cs))(hd:pD E hl.size d):
  dA E M f Zg Zc hl w (fun wl=>zsK E.P fr (cs++Zg) none d wl) (fun wc=>zsK E.P (rF f fr) (cs.map (rF f)++Zc) none (rD f d) wc):=by
 have az:=hS.head;rcases zwO (d.target≠.nil\/∀ ch,fr.mode≠.panicking ch)with hn|hn
 ·have gv:(rD f d).target≠.nil\/∀ ch,(rF f fr).mode≠.panicking ch:=by
   rcases hn with hn|hn
   ·left;intro e;obtain⟨t,as⟩:=d;cases t with
    |nil=>exact hn rfl
    |_=>cases e
   ·right;intro ch e;obtain⟨fn,tmps,todo,ds,mo,ki,ro⟩:=fr;cases mo with
    |panicking c=>exact hn c rfl
    |_=>cases e
  refine EP hr bG (L9 F H X hd) (fun wl hh w' es hb h=>?_) (fun m a a' hm hq=>?_) (fun m v hm hv=>.inr ?_)
  ·obtain⟨_,_,_,_,_,_,_,_,c9,c10⟩:=kL (cs:=cs++Zg) hn h;cases hh with
   |stuck s=>exact c9 _ _ rfl
   |unsupported u=>exact c10 _ _ rfl
   |_=>exact hb.elim
  ·have sq:=IP hm hS;cases a with
   |value v=>
    obtain⟨rfl,hv⟩:=hq;exact⟨fr::cs,sq,fun wl w' es h=>⟨_,(kL hn h).2.2.1 _ _ rfl⟩,fun w' es h=>⟨seen E.P fr.fn es++#[],pI,(kL gv h).2.2.1 _ _ rfl⟩⟩
   |skip=>
    obtain rfl:=hq;exact⟨fr::cs,sq,fun wl w' es h=>⟨_,(kL hn h).2.2.2.1 _ rfl⟩,fun w' es h=>⟨seen E.P fr.fn es++#[],pI,(kL gv h).2.2.2.1 _ rfl⟩⟩
   |defer d2=>
    obtain⟨rfl,hv⟩:=hq;exact⟨fr::cs,sq,fun wl w' es h=>⟨_,(kL hn h).2.2.2.2.1 _ _ rfl⟩,fun w' es h=>⟨seen E.P fr.fn es++#[],pI,(kL gv h).2.2.2.2.1 _ _ rfl⟩⟩
   |enter g args=>
    obtain⟨rfl,hT,ha⟩:=hq;refine⟨Y8 E.P g args .deferred::fr::cs,hS.push hm (.enter C hT ha (.inr rfl)),fun wl w' es h=>⟨_,(kL hn h).1 _ _ _ rfl⟩,fun w' es h=>⟨seen E.P fr.fn es++#[],pI,?_⟩⟩;rw[Yi,Mb,Yi];exact(kL gv h).1 _ _ _ rfl
   |round l g tmps a b=>
    obtain⟨rfl,hI,hT,ht,h1,h2⟩:=hq;exact⟨zvd l g tmps a b .deferred::fr::cs,hS.push hm (.Td C hI hT ht h1 h2 (.inr rfl)),fun wl w' es h=>⟨_,(kL hn h).2.1 _ _ _ _ _ _ rfl⟩,fun w' es h=>⟨seen E.P fr.fn es++#[],pI,(kL gv h).2.1 _ _ _ _ _ _ rfl⟩⟩
   |recover=>
    obtain rfl:=hq;have hmr:fr.mode≠.returning->(rF f fr).mode≠.returning:=fun h e=>by
     obtain⟨fn,tmps,todo,ds,mo,ki,ro⟩:=fr;cases mo with
     |returning=>exact h rfl
     |_=>cases e
    rcases Tg (f:=f) sq Zg Zc with ⟨h1,h2⟩|⟨v,cs',h1,h2,hv,iX⟩
    ·exact⟨fr::cs,sq,fun wl w' es h=>⟨_,(kL hn h).2.2.2.2.2.1 _ rfl (.inl h1)⟩,fun w' es h=>⟨seen E.P fr.fn es++#[],pI,(kL gv h).2.2.2.2.2.1 _ rfl (.inl h2)⟩⟩
    ·rcases zwO (fr.mode=.returning)with gY|gY
     ·have wj:(rF f fr).mode=.returning:=by
       show rM f fr.mode=_;rw[gY];rfl
      exact⟨fr::cs',iX,fun wl w' es h=>⟨_,(kL hn h).2.2.2.2.2.2.1 _ _ _ rfl h1 gY⟩,fun w' es h=>⟨seen E.P fr.fn es++#[],pI,(kL gv h).2.2.2.2.2.2.1 _ _ _ rfl h2 wj⟩⟩
     ·exact⟨fr::cs,sq,fun wl w' es h=>⟨_,(kL hn h).2.2.2.2.2.1 _ rfl (.inr gY)⟩,fun w' es h=>⟨seen E.P fr.fn es++#[],pI,(kL gv h).2.2.2.2.2.1 _ rfl (.inr (hmr gY))⟩⟩
   |_=>exact hq.elim
  ·refine⟨fr.raise [{v,recovered:=false}]::cs,hS.swap hm ((oG hm az).raise fun e he=>?_) (IU fr _),fun wl w' es h=>⟨_,(kL hn h).2.2.2.2.2.2.2.1 _ _ rfl⟩,fun w' es h=>⟨seen E.P fr.fn es++#[],pI,?_⟩⟩
   ·cases he with
    |head=>exact⟨hv,rfl⟩
    |tail _ h=>cases h
   ·rw[Yi,IQ];exact(kL gv h).2.2.2.2.2.2.2.1 _ _ rfl
 ·refine dA.ended fun wl=>?_
  have h1:d.target=.nil:=zvI fun h=>hn (.inl h)
  have h2:∃ ch,fr.mode=.panicking ch:=zvI fun h=>hn (.inr fun ch e=>h ⟨ch,e⟩)
  obtain⟨ch,h2⟩:=h2;unfold zsK;rw[YH]
  ·exact⟨_,_,_,rfl⟩
  ·rw[h1,h2];rfl
def wm(S:List YU):Prop:=∃ fr,S=[fr]/\fr.mode≠.run/\fr.defers=[]
theorem Tt(F:Fit E f)(H:bD E)(X:oD E M)(C:oF E M)(hr:fp E f hl w.1)(bG:w.os=E.os)(hS:ft E M hl.size (fr::cs))(hm:fr.mode≠.run)(dY:¬wm (fr::cs)):
  dA E M f Zg Zc hl w (fun wl=>ZW E.P main fr (cs++Zg) none wl) (fun wc=>ZW E.P main' (rF f fr) (cs.map (rF f)++Zc) none wc):=by
 have az:=hS.head;obtain⟨fn,tmps,todo,ds,mo,ki,ro⟩:=fr;cases ds with
 |cons d ds=>
  have hd:=az.defers d (.head _);have iX:ft E M hl.size (⟨fn,tmps,todo,ds,mo,ki,ro⟩::cs):=hS.swap lQ ⟨az.fn,az.tmps,az.todo,fun x hx=>az.defers x (.tail _ hx),az.mode,az.kind,az.round⟩ ⟨rfl,rfl⟩;obtain⟨t,as⟩:=d;cases t with
  |collected b=>
   refine EP hr bG (zdO F hd.1) (fun wl hh w' es hb h=>?_) (fun m a a' hm hq=>?_) (fun m v hm hv=>.inl fun wl w' es h=>?_)
   ·simp only[ZW,h];exact⟨_,_,_,rfl⟩
   ·obtain⟨rfl,ha⟩:=hq;refine⟨⟨fn,tmps,todo,a++ds,mo,ki,ro⟩::cs,hS.swap hm ?_ ⟨rfl,rfl⟩,fun wl w' es h=>⟨seen E.P fn es++#[],?_⟩,fun w' es h=>⟨seen E.P fn es++#[],pI,?_⟩⟩
    ·have cq:=oG hm az;refine⟨cq.fn,cq.tmps,cq.todo,fun x hx=>?_,cq.mode,cq.kind,cq.round⟩;rcases zsl.1 hx with h|h
     ·exact ha x h
     ·exact cq.defers x (.tail _ h)
    ·simp only[ZW,h];rfl
    ·simp only[ZW,rF,Yi,rD,rT,h,zsk];rfl
   ·simp only[ZW,h];exact⟨_,_,_,rfl⟩
  |coroexit c=>exact hd.1.elim
  |_=>exact dA.vZ (zd5 (Zg:=Zg) (Zc:=Zc) F H X C hr bG iX hd) (fun wl=>rfl) rfl
 |nil=>
  cases cs with
  |nil=>exact absurd ⟨_,rfl,hm,rfl⟩ dY
  |cons c cs=>
   have iX:ft E M hl.size (c::cs):=⟨fun x hx=>hS.1 x (.tail _ hx),Mc hS.2 sQ⟩;cases mo with
   |run=>exact absurd rfl hm
   |panicking ch=>
    have zd6:(⟨fn,tmps,todo,[],.panicking ch,ki,ro⟩:YU).catches E.P=false:=by
     unfold zAL;split
     ·rename_i h;exact absurd h (az.vX.1 _ _ _ _ _)
     ·rfl
    have zd7:(⟨fn,tmps.map (rV f),todo.map (rI f),[],.panicking (ch.map (rP f)),ki,ro.map f⟩:YU).catches E.P=false:=by
     unfold zAL;split
     ·rename_i h;exfalso;cases todo with
      |nil=>cases h
      |cons i r=>
       have hi:=az.todo i (.head _);have e2:=(zA5 h).1;cases i<;>first |exact hi|cases e2
     ·rfl
    refine dA.go (S:=c.raise ch::cs) hr (iX.swap lQ (iX.head.raise az.mode) (IU c ch)) (fun wl=>⟨#[],?_⟩) ?_
    ·simp only[ZW,zd6,Ya];rfl
    ·rw[Yi,Yi,IQ];simp only[ZW,rF,Yj,rM,zd7,Ya];rfl
   |returning=>
    cases hf:E.P.funcs[fn]? with
    |none=>
     have h0:ah E hl.size (tmps.getD 0 YY):=Es az.tmps 0;refine dA.vZ (Mi (Zg:=Zg) (Zc:=Zc) (main:=main) (main':=main') hr hS h0) (fun wl=>?_) ?_
     ·simp only[ZW,hf]
     ·rw[show rV f (tmps.getD 0 YY)=(tmps.map (rV f)).getD 0 YY from(Et f tmps 0).symm];simp only[ZW,rF,Yj,rM,hf]
    |some Tu=>
     refine Mh (k2:=fun v w'=>ZG E.P main ⟨fn,tmps,todo,[],.returning,ki,ro⟩ (c::cs++Zg) none v w') (k2':=fun v w'=>ZG E.P main' (rF f ⟨fn,tmps,todo,[],.returning,ki,ro⟩) ((c::cs).map (rF f)++Zc) none v w') hr bG (Ts (fn:=Tu) F H az.tmps) (fun wl hh w' es h=>?_) (fun wl a w' es h=>⟨seen E.P fn es,?_⟩) (fun a' w' es h=>⟨seen E.P fn es,fun e he=>zuX he,?_⟩) fun dY w1 v v' lZ _ hs hq=>?_
     ·simp only[ZW,hf,h];refine Tj _ _ ?_;cases hh<;>exact⟨_,_,_,rfl⟩
     ·simp only[ZW,hf,h]
     ·simp only[ZW,rF,Yj,rM,hf,h]
     ·obtain⟨rfl,hv⟩:=hq;exact Mi lZ (IP hs hS) hv
theorem zd8(F:Fit E f)(H:bD E)(X:oD E M)(C:oF E M)(hr:fp E f hl w.1)(bG:w.os=E.os){S:List YU}(hS:ft E M hl.size S)(dY:¬wm S):
  dA E M f Zg Zc hl w (fun wl=>YV E.P main (eG S Zg) wl) (fun wc=>YV E.P main' (eG (S.map (rF f)) Zc) wc):=by
 cases S with
 |nil=>exact hS.2.elim
 |cons fr cs=>
  cases gY:fr.mode with
  |run=>
   have wj:(rF f fr).mode=.run:=by
    show rM f fr.mode=_;rw[gY];rfl
   refine dA.vZ (zd3 (Zg:=Zg) (Zc:=Zc) (main:=main) (main':=main') F H X C hr bG hS) (fun wl=>?_) ?_
   ·simp only[zW,YV,gY]
   ·simp only[Yi,zW,YV,wj]
  |returning=>
   have wj:(rF f fr).mode=.returning:=by
    show rM f fr.mode=_;rw[gY];rfl
   refine dA.vZ (Tt (Zg:=Zg) (Zc:=Zc) (main:=main) (main':=main') F H X C hr bG hS (by rw[gY];simp) dY) (fun wl=>?_) ?_
   ·simp only[zW,YV,gY]
   ·simp only[Yi,zW,YV,wj]
  |panicking ch=>
   have wj:(rF f fr).mode=.panicking (ch.map (rP f)):=by
    show rM f fr.mode=_;rw[gY];rfl
   refine dA.vZ (Tt (Zg:=Zg) (Zc:=Zc) (main:=main) (main':=main') F H X C hr bG hS (by rw[gY];simp) dY) (fun wl=>?_) ?_
   ·simp only[zW,YV,gY]
   ·simp only[Yi,zW,YV,wj]
end
def c0:YU:={fn:=0,tmps:=#[],todo:=[.code (.refuse "")],defers:=[{target:=.nil,args:=#[]}],mode:=.run,kind:=.normal}
def EU(S:List YU)(w:YM):ztj:=match S++[c0]with
 |fr::cs=>lone fr cs w
 |[]=>default
abbrev jB:=List YU×Array Y0
def LS(E:Env)(x:jB)(l:List Nat)(y:jB):Prop:=∀ wl:YM,wl.1=x.2->Listed E l wl->∃ es,YV E.P true (eG x.1 [c0]) wl=.go (eG y.1 [c0]) {wl with heap:=y.2,drawn:=wl.drawn+l.length} es
def Reach(E:Env)(x0:jB)(n:Nat)(L:List Nat)(y:jB):Prop:=∀ wl:YM,wl.1=x0.2->Listed E L wl->runN E.P n (EU x0.1 wl)=.next (EU y.1 {wl with heap:=y.2,drawn:=wl.drawn+L.length})
def kM(E:Env)(x0:jB)(R:YN->YM->Prop):Prop:=∀ wl:YM,wl.1=x0.2->wl.os=E.os->∃ v w' fr k,R v w'/\runN E.P k (EU x0.1 wl)=.next (lone fr [c0] w')/\fr.leaving E.P w' (.returned v)
theorem zY{P:Y2}:∀(n:Nat)(m m':ztj),runN P n m=.next m'->runN P (n+1) m=step P m'
 | 0,m,m',h=>by
  cases h;simp only[runN];cases step P m<;>rfl
 |n+1,m,m',h=>by
  unfold runN at h⊢;cases hs:step P m with
  |next m2=>
   rw[hs]at h;exact zY n m2 m' h
  |ended o w=>rw[hs]at h;cases h
theorem runN_ended{P:Y2}{o:Outcome}{w:YM}:∀(n k:Nat)(m:ztj),runN P n m=.ended o w->runN P (n+k) m=.ended o w
 | 0,k,m,h=>by cases h
 |n+1,k,m,h=>by
  rw[Nat.succ_add];unfold runN at h⊢;cases hs:step P m with
  |next m2=>
   rw[hs]at h;exact runN_ended n k m2 h
  |ended o w=>rw[hs]at h;exact h
theorem EW{cs':List YU}{w w':YM}(h:lone fr cs w=lone fr' cs' w'):fr=fr'/\cs=cs'/\w=w':=by
 unfold lone at h;simp only[Machine.mk.injEq]at h;obtain⟨h1,h2,_⟩:=h;have h3:=YC (fun a:Array YP=>a[0]?) h2;simp at h3;exact⟨h3.1,h3.2,h1⟩
theorem Ml(P:Y2)(v:YN)(w:YM):∃ o w',step P (lone (c0.finish v) [] w)=.ended o w':=⟨_,_,zww rfl⟩
section
variable {E:Env}{x0:jB}{R:YN->YM->Prop}
theorem Reach.zero:Reach E x0 0 [] x0:=fun wl hw _=>by
 show zB0 _=zB0 _;rw[<-hw];rfl
theorem Reach.step{n:Nat}{l:List Nat}{S S':List YU}{hl:Array Y0}(h:Reach E x0 n L (S,hl))(hS:S≠[])(sq:S'≠[])(hs:LS E (S,hl) l (S',hl')):Reach E x0 (n+1) (L++l) (S',hl'):=fun wl hw hL=>by
 have h1:=h wl hw hL.left;rw[zY n _ _ h1];obtain⟨es,h2⟩:=hs {wl with heap:=hl,drawn:=wl.drawn+L.length} rfl (hL.right rfl rfl rfl);cases S with
 |nil=>exact absurd rfl hS
 |cons fr cs=>
  cases S' with
  |nil=>exact absurd rfl sq
  |cons fr' cs'=>
   have h3:=zxG (P:=E.P) (fr:=fr) (cs:=cs++[c0]) (fr':=fr') (cs':=cs'++[c0]) (by
    have h4:=YC GStep.bare h2;exact h4)
   refine h3.trans ?_;simp[EU,Nat.add_assoc]
theorem meets{P:Y2}{m:ztj}{k n:Nat}{w' w2:YM}{S:List YU}(hk:runN P k m=.next (lone fr [c0] w'))(hl:fr.leaving P w' (.returned v))(hn:runN P n m=.next (EU S w2))(hS:S≠[]):n<=k:=by
 rcases Ys k n with aj|dX
 ·exfalso;have h1:=(zY k m _ hk).trans (step_leave_returned hl);obtain⟨o,w3,h2⟩:=Ml P v w';have h3:=(zY (k+1) m _ h1).trans h2;rcases Ys (k+1) n with ur|zd9
  ·have h4:=runN_ended (k+1+1) (n-(k+1+1)) m h3;rw[show k+1+1+(n-(k+1+1))=n by omega,hn]at h4;cases h4
  ·have:n=k+1:=oQ;subst this;rw[h1]at hn;cases S with
   |nil=>exact hS rfl
   |cons a cs=>
    have:=(EW (zwd hn)).2.1;cases cs<;>cases this
 ·exact dX
def pJ(E:Env)(x0:jB)(τ:Nat->Nat):YM:={(default:YM)with heap:=x0.2,tape:=fun i _=>τ i,drawn:=0,os:=E.os}
theorem IV(L:List Nat)(τ:Nat->Nat)(h:∀ i,i<L.length->τ i=L.getD i 0):Listed E L (pJ E x0 τ):=⟨rfl,fun i q hi=>by
 show τ (0+i)=_;rw[Yv];exact h i hi⟩
theorem Tv{P:Y2}{w:YM}(h:fr.leaving P w (.returned v)):wm [fr]:=⟨fr,rfl,by rw[h.1];simp,h.2.1⟩
theorem kM.goes(hC:kM E x0 R){n:Nat}{l:List Nat}{S:List YU}{hl:Array Y0}(h:Reach E x0 n L (S,hl))(hS:S≠[])(hn:¬wm S)(hb:∀ wl:YM,wl.1=hl->Listed E l wl->∃ o w' es,YV E.P true (eG S [c0]) wl=.ended o w' es):False:=by
 have hL:=IV (E:=E) (x0:=x0) (L++l) (fun i=>(L++l).getD i 0) fun _ _=>rfl
 obtain⟨v,w',fr,k,_,hk,l6⟩:=hC (pJ E x0 fun i=>(L++l).getD i 0) rfl rfl;have h1:=h (pJ E x0 fun i=>(L++l).getD i 0) rfl hL.left;have bn:=meets hk l6 h1 hS;rcases Ys n k with aj|dX
 ·obtain⟨o,w3,es,h2⟩:=hb {pJ E x0 (fun i=>(L++l).getD i 0)with heap:=hl,drawn:=(pJ E x0 fun i=>(L++l).getD i 0).drawn+L.length} rfl (hL.right rfl rfl rfl);cases S with
  |nil=>exact hS rfl
  |cons a cs=>
   have h3:=zww (P:=E.P) (fr:=a) (cs:=cs++[c0]) (by
    have h4:=YC GStep.bare h2;exact h4)
   have h4:=runN_ended (n+1) (k-(n+1)) _ ((zY n _ _ h1).trans h3);rw[show n+1+(k-(n+1))=k by omega,hk]at h4;cases h4
 ·have:n=k:=oQ;subst this;rw[hk]at h1;cases S with
  |nil=>exact hS rfl
  |cons a cs=>
   obtain⟨e1,e2,_⟩:=EW (zwd h1);subst e1;cases cs with
   |nil=>exact hn (Tv l6)
   |cons b cs=>cases cs<;>cases e2
theorem zea(P:Y2)(ch:List zud)(w:YM):∃ o w',step P (lone (c0.raise ch) [] w)=.ended o w':=⟨_,_,zww rfl⟩
theorem zeb{P:Y2}{w:YM}(hm:fr.mode≠.run)(hd:fr.defers=[])(hk:fr.kind=.normal):(∃ o w',step P (lone fr [c0] w)=.ended o w')\/∃ z w',step P (lone fr [c0] w)=.next (lone z [] w')/\∃ o w2,step P (lone z [] w')=.ended o w2:=by
 cases gY:fr.mode with
 |run=>exact absurd gY hm
 |panicking ch=>
  cases hc:fr.catches P with
  |true=>exact .inl ⟨_,_,zww (by simp only[YV,gY,ZW,hd,hc];rfl)⟩
  |false=>exact .inr ⟨_,w,zxG (by simp only[YV,gY,ZW,hd,hc];rfl),zea P ch w⟩
 |returning=>
  cases hf:P.funcs[fr.fn]? with
  |none=>exact .inr ⟨_,w,zxG (by simp only[YV,gY,ZW,hd,hf,ZG,hk];rfl),Ml P _ w⟩
  |some fn=>
   cases hr:(results fn fr.tmps).runT P w #[]with
   |mk r es=>
    cases r with
    |ok v w'=>exact .inr ⟨_,w',zxG (by simp only[YV,gY,ZW,hd,hf,hr,ZG,hk];rfl),Ml P _ w'⟩
    |halt hh w'=>
     refine .inl ?_;cases hh<;>exact⟨_,_,zww (by simp only[YV,gY,ZW,hd,hf,hr];rfl)⟩
theorem kM.value(hC:kM E x0 R){n:Nat}{hl:Array Y0}(h:Reach E x0 n L ([fr],hl))(hm:fr.mode≠.run)(hd:fr.defers=[])(hk:fr.kind=.normal)(wl:YM)(hw:wl.1=x0.2)(hL:Listed E L wl):
  ∃ v,R v {wl with heap:=hl,drawn:=wl.drawn+L.length}/\fr.leaving E.P {wl with heap:=hl,drawn:=wl.drawn+L.length} (.returned v):=by
 obtain⟨v,w',fr2,k,hR,iw,l6⟩:=hC wl hw hL.1;have h1:=h wl hw hL;have bn:=meets iw l6 h1 sQ;rcases Ys n k with aj|dX
 ·exfalso;have h2:=zY n _ _ h1;rcases zeb (P:=E.P) (w:={wl with heap:=hl,drawn:=wl.drawn+L.length}) hm hd hk with ⟨o,w3,h3⟩|⟨z,w3,h3,o,w4,h4⟩
  ·have h4:=runN_ended (n+1) (k-(n+1)) _ (h2.trans h3);rw[show n+1+(k-(n+1))=k by omega,iw]at h4;cases h4
  ·have h5:=h2.trans h3;rcases Ys (n+1) k with ur|zd9
   ·have h6:=runN_ended (n+1+1) (k-(n+1+1)) _ ((zY (n+1) _ _ h5).trans h4);rw[show n+1+1+(k-(n+1+1))=k by omega,iw]at h6;cases h6
   ·have:k=n+1:=oQ;subst this;rw[iw]at h5;have:=(EW (zwd h5)).2.1;cases this
 ·have:n=k:=oQ;subst this;rw[iw]at h1;obtain⟨e1,_,e3⟩:=EW (zwd h1);subst e1;rw[e3]at hR l6;exact⟨v,hR,l6⟩
def Nx(E:Env)(y x:jB):Prop:=x.1≠[]/\y.1≠[]/\¬wm x.1/\∃ l,LS E x l y
theorem Mm{α:Type}{r:α->α->Prop}{x:α}(h:¬Acc r x):∃ y,r y x/\¬Acc r y:=
 zvI fun hn=>h (ztr x fun y hy=>zvI fun ha=>hn ⟨y,hy,ha⟩)
theorem kM.acc(hC:kM E x0 R):Acc (Nx E) x0:=by
 apply zvI;intro h0;let bZ:{x:jB // ¬Acc (Nx E) x}->{x:jB // ¬Acc (Nx E) x}:=fun x=>⟨zvJ (Mm x.2),(zwN (Mm x.2)).2⟩
 have zec:∀ x,Nx E (bZ x).1 x.1:=fun x=>(zwN (Mm x.2)).1
 let seq:Nat->{x:jB // ¬Acc (Nx E) x}:=fun n=>Nat.rec ⟨x0,h0⟩ (fun _ x=>bZ x) n
 have Ea:∀ n,Nx E (seq (n+1)).1 (seq n).1:=fun n=>zec (seq n)
 let ls:Nat->List Nat:=fun n=>zvJ (Ea n).2.2.2
 have hls:∀ n,LS E (seq n).1 (ls n) (seq (n+1)).1:=fun n=>zwN (Ea n).2.2.2
 let Ls:Nat->List Nat:=fun n=>Nat.rec [] (fun i L=>L++ls i) n
 have hLs:∀ n,Ls (n+1)=Ls n++ls n:=fun _=>rfl
 have zed:∀ n,Reach E x0 n (Ls n) (seq n).1:=fun n=>by
  induction n with
  |zero=>exact Reach.zero
  |succ n ih=>exact Reach.step ih (Ea n).1 (Ea n).2.1 (hls n)
 have IW:∀ n m,n<=m->∃ t,Ls m=Ls n++t:=fun n m hm=>by
  induction m with
  |zero=>
   have:n=0:=oQ;subst this;exact⟨[],sQ⟩
  |succ m ih=>
   rcases Ys m n with h|h
   ·have:n=m+1:=oQ;subst this;exact⟨[],sQ⟩
   ·obtain⟨t,ht⟩:=ih h;exact⟨t++ls m,by rw[hLs,ht,zr8]⟩
 let τ:Nat->Nat:=fun i=>open Classical in if h:∃ n,i<(Ls n).length then(Ls (zvJ h)).getD i 0 else 0
 have hτ:∀ n i,i<(Ls n).length->τ i=(Ls n).getD i 0:=fun n i hi=>by
  have hex:∃ n,i<(Ls n).length:=⟨n,hi⟩;have e:τ i=(Ls (zvJ hex)).getD i 0:=dif_pos hex;rw[e];have hc:=zwN hex;generalize zvJ hex=c at hc;rcases Nat.le_total c n with h|h
  ·obtain⟨t,ht⟩:=IW c n h;rw[ht];simp[zw5,List.getElem?_append_left hc]
  ·obtain⟨t,ht⟩:=IW n c h;rw[ht];simp[zw5,List.getElem?_append_left hi]
 obtain⟨v,w',fr,k,_,hk,l6⟩:=hC (pJ E x0 τ) rfl rfl;have h1:=zed k (pJ E x0 τ) rfl (IV (Ls k) τ fun i hi=>hτ k i hi);rw[hk]at h1;have aW:=(Ea k).1;have xZ:=(Ea k).2.2.1;generalize(seq k).1=y at h1 aW xZ;obtain⟨S,hl⟩:=y;cases S with
 |nil=>exact aW rfl
 |cons a cs=>
  obtain⟨e1,e2,_⟩:=EW (zwd h1);subst e1;cases cs with
  |nil=>exact xZ (Tv l6)
  |cons b cs=>cases cs<;>cases e2
end
section
variable {E:Env}{M:String->Bool}{n:Nat}{f g:Nat->Nat}
theorem zee(H:Ag E n f g){r:Bool}(h:uo E M n r i):rI f i=rI g i:=by
 cases i with
 |inRangeFunc l=>exact YC Item.inRangeFunc (H.I l h)
 |endRangeFunc l=>exact YC Item.endRangeFunc (H.I l h)
 |_=>rfl
theorem zef(H:Ag E n f g)(h:IM E n u):rM f u=rM g u:=by
 cases u with
 |panicking ch=>
  simp only[rM];rw[zuA fun e he=>?_];unfold rP;rw[rY H _ (h e he).1]
 |_=>rfl
theorem zeg(H:Ag E n f g)(h:okF E M n fr):rF f fr=rF g fr:=by
 unfold rF;rw[Ew H h.tmps,zuA fun i hi=>zee H (h.todo i hi),zuA fun d hd=>Rt H (h.defers d hd),zef H h.mode];cases hr:fr.roundOf with
 |none=>rfl
 |some l=>simp only[Yy];rw[H.I l (h.round l hr)]
theorem zeh(H:Ag E n f g){S:List YU}(h:ft E M n S):S.map (rF f)=S.map (rF g):=zuA fun fr az=>zeg H (h.1 fr az)
def B3(f:Nat->Nat)(n size:Nat)(j:Nat):Nat:=if j<n then f j else size+(j-n)
theorem EX(F:Fit E f){hl:Array Y0}(hr:fp E f hl hc){a:Nat}(ha:a<hl.size):f a<hc.size:=by
 rcases Ys (f a) hc.size with h|h
 ·exact h
 ·exfalso;have:=hr.new (hl.size+(f a-hc.size)) oQ;have e:f (hl.size+(f a-hc.size))=f a:=oQ;have:=F.inj _ _ e;omega
theorem zei(F:Fit E f){hl jO:Array Y0}(hr:fp E f hl hc)(bm:hc.size<=jO.size)(bC:∀ k,E.I hl.size k->jO[f k]?=hc[f k]?)(wq:∀ k,E.R k\/E.O k->jO[k]?=hc[k]?):
  Fit E (B3 f hl.size jO.size)/\fp E (B3 f hl.size jO.size) hl jO/\Ag E hl.size f (B3 f hl.size jO.size):=by
 have aj:∀ k,k<hl.size->B3 f hl.size jO.size k=f k:=fun k hk=>YH hk
 have dX:∀ k,hl.size<=k->B3 f hl.size jO.size k=jO.size+(k-hl.size):=fun k hk=>YG oQ
 have hB:=hr.base;have zZ:Ag E hl.size f (B3 f hl.size jO.size):=⟨fun k hk=>(aj k (by have:=F.ro k hk;omega)).symm,fun k hk=>(aj k (by have:=F.op k hk;omega)).symm,fun k hk=>(aj k hk.2).symm⟩;refine⟨⟨fun a b e=>?_,fun k hk=>?_,F.ro,F.op,F.no,F.pt⟩,⟨fun k o hk ho=>?_,fun k hk=>?_,fun k hk=>?_,hB,fun j hj=>?_⟩,zZ⟩
 ·rcases Ys a hl.size with ha|ha
  ·rcases Ys b hl.size with hb|hb
   ·rw[aj a ha,aj b hb]at e;exact F.inj a b e
   ·rw[aj a ha,dX b hb]at e;have:=EX F hr ha;omega
  ·rcases Ys b hl.size with hb|hb
   ·rw[dX a ha,aj b hb]at e;have:=EX F hr hb;omega
   ·rw[dX a ha,dX b hb]at e;omega
 ·rw[aj k oQ];exact F.low k hk
 ·obtain⟨h1,h2⟩:=hr.own k o hk ho;have jn:k<hl.size:=by
   rcases Ys k hl.size with h|h
   ·exact h
   ·rw[XX h]at ho;cases ho
  refine⟨h1,?_⟩;rw[aj k jn,bC k ⟨hk,jn⟩,h2,zcn zZ h1]
 ·obtain⟨c,t,h1,h2,h3⟩:=hr.ro k hk;refine⟨c,t,h1,by rw[wq k (.inl hk)];exact h2,fun v hv=>?_⟩;obtain⟨q1,q2,q3⟩:=h3 v hv;exact⟨q1,q2,by rw[<-rY zZ v q1];exact q3⟩
 ·obtain⟨c,e,c',h1,h2,h3⟩:=hr.op k hk;exact⟨c,e,c',h1,by rw[wq k (.inr hk)];exact h2,h3⟩
 ·rw[dX j hj];omega
end
structure mL(E:Env)(M:String->Bool)(x0:jB)(f:Nat->Nat)(y:jB)(w:YM):Prop where
 fit:Fit E f
 rel:fp E f y.2 w.1
 os:w.os=E.os
 ok:ft E M y.2.size y.1
 reach:∃ n L,Reach E x0 n L y
section
variable {E:Env}{M:String->Bool}{x0 y:jB}{f:Nat->Nat}{w:YM}{R:YN->YM->Prop}{main:Bool}{Z:List YU}
theorem Mn{n:Nat}{S:List YU}(h:ft E M n S):S≠[]:=fun e=>by
 rw[e]at h;exact h.2
theorem mL.step(H:bD E)(X:oD E M)(C:oF E M)(hC:kM E x0 R)(h:mL E M x0 f y w)(hn:¬wm y.1)(main:Bool)(Z:List YU):
  ∃ y' w' es,YV E.P main (eG (y.1.map (rF f)) Z) w=.go (eG (y'.1.map (rF f)) Z) w' es/\Left E f y.2 y'.2 w w' es/\y.2.size<=y'.2.size/\mL E M x0 f y' w'/\Nx E y' y:=by
 obtain⟨S,hl⟩:=y;obtain⟨n,L,hR⟩:=h.reach;have hS:=Mn h.ok;obtain⟨l,r,hl',hs,h1,h2⟩:=zd8 (Zg:=[c0]) (Zc:=Z) (main:=true) (main':=main) h.fit H X C h.rel h.os h.ok hn;cases r with
 |none=>exact(hC.goes hR hS hn h1).elim
 |some S'=>
  obtain⟨av,w',es,hL,e⟩:=h2 S' rfl;have Tw:LS E (S,hl) l (S',hl'):=h1;exact⟨(S',hl'),w',es,e,hL,hs,⟨h.fit,hL.rel,hL.os.trans h.os,av,n+1,L++l,hR.step hS (Mn av) Tw⟩,hS,Mn av,hn,l,Tw⟩
theorem mL.leave(H:bD E)(hC:kM E x0 R)(h:mL E M x0 f y w)(hn:wm y.1)(main:Bool)(z:YU)(zs:List YU):
  ∃ v wl w' es,wl.1=y.2/\R v wl/\ah E y.2.size v/\YV E.P main (eG (y.1.map (rF f)) (z::zs)) w=.go {frame:=z.finish (rV f v),callers:=zs,status:=.running,dying:=none} w' es/\Left E f y.2 y.2 w w' es:=by
 obtain⟨S,hl⟩:=y;obtain⟨fr,e,hm,hd⟩:=hn;dsimp only at e;subst e;obtain⟨n,L,hR⟩:=h.reach;have az:=h.ok.head;have hk:fr.kind=.normal:=h.ok.2.1;have key:∀ fn,E.P.funcs[fr.fn]?=some fn->∃ v wl w' es,wl.1=hl/\R v wl/\ah E hl.size v/\YV E.P main (eG ([fr].map (rF f)) (z::zs)) w=.go {frame:=z.finish (rV f v),callers:=zs,status:=.running,dying:=none} w' es/\Left E f hl hl w w' es:=fun fn hf=>by
  obtain⟨l,r,dY,ha,hs,hc⟩:=Ts (fn:=fn) h.fit H az.tmps hl w h.rel lQ h.os;have Tx:=IV (E:=E) (x0:=x0) (L++l) (fun i=>(L++l).getD i 0) fun _ _=>rfl
  obtain⟨v,hv,l6⟩:=hC.value hR hm hd hk (pJ E x0 fun i=>(L++l).getD i 0) rfl Tx.left;obtain⟨gY,_,_,Tu,rX,hr⟩:=l6;rw[hf]at rX;cases rX;have Ty:=Tx.right (w':={pJ E x0 (fun i=>(L++l).getD i 0)with heap:=hl,drawn:=(pJ E x0 fun i=>(L++l).getD i 0).drawn+L.length}) rfl rfl rfl;generalize hW:({pJ E x0 (fun i=>(L++l).getD i 0)with heap:=hl,drawn:=(pJ E x0 fun i=>(L++l).getD i 0).drawn+L.length}:YM)=W at hv hr Ty;have Mo:W.1=hl:=by rw[<-hW]
  obtain⟨x,es0,hx,dW⟩:=ha W #[] Mo Ty;have lp:x=.ok v W:=by
   have:=ztT E.P (results fn fr.tmps) W #[];rw[hx,hr]at this;exact this
  subst lp;match r,dW,hc with
  |none,⟨_,_,_,e⟩,_=>cases e
  |some (.error _),e,_=>cases e
  |some (.ok a),e,hc=>
   have e:Result.ok v W=.ok a {W with heap:=dY,drawn:=W.drawn+l.length}:=e;simp only[Result.ok.injEq]at e;obtain⟨rfl,e2⟩:=e;have e3:dY=hl:=by
    have:=YC World.heap e2;rw[Mo]at this;exact this.symm
   subst e3;obtain⟨w1,ox,vY,hy⟩:=hc sQ;obtain⟨y,hy,a',⟨rfl,hq⟩,rfl⟩:=hy #[];refine⟨v,W,w1,seen E.P fr.fn (#[]++ox)++#[],Mo,hv,hq,?_,vY.sub fun e he=>by simpa using pI e he⟩;have wj:(rF f fr).mode=.returning:=by
    show rM f fr.mode=_;rw[gY];rfl
   have Mp:(rF f fr).defers=[]:=by
    show fr.defers.map (rD f)=[];rw[hd];rfl
   have dB:(rF f fr).kind=.normal:=hk;have Q6:E.P.funcs[(rF f fr).fn]?=some fn:=hf;have xL:(results fn (rF f fr).tmps).runT E.P w #[]=(.ok (rV f v) w1,#[]++ox):=hy;simp only[Yi,Yj,zW,YV,wj,ZW,Mp,Q6,xL,ZG,dB,zsn];rfl
 obtain⟨v,hv,l6⟩:=hC.value hR hm hd hk (pJ E x0 fun i=>L.getD i 0) rfl (IV L _ fun _ _=>rfl);obtain⟨_,_,_,fn,hf,_⟩:=l6;exact key fn hf
theorem mL.other(h:mL E M x0 f y w){w':YM}(bm:w.1.size<=w'.1.size)(bC:∀ k,E.I y.2.size k->w'.1[f k]?=w.1[f k]?)(wq:∀ k,E.R k\/E.O k->w'.1[k]?=w.1[k]?)(bG:w'.os=w.os):
  ∃ f',mL E M x0 f' y w'/\y.1.map (rF f')=y.1.map (rF f)/\∀ k,k<y.2.size->f' k=f k:=by
 obtain⟨F,hr,zZ⟩:=zei h.fit h.rel bm bC wq;exact⟨_,⟨F,hr,bG.trans h.os,h.ok,h.reach⟩,(zeh zZ h.ok).symm,fun k hk=>YH hk⟩
end
def IX{α:Type}(r:α->α->Prop)(n:Nat)(y x:Nat->α):Prop:=∃ i,i<n/\r (y i) (x i)/\∀ j,j≠i->y j=x j
theorem Tz{α:Type}{r:α->α->Prop}:∀(n:Nat)(x:Nat->α),(∀ i,i<n->Acc r (x i))->Acc (IX r n) x
 | 0,x,_=>ztr x fun y hy=>by
  obtain⟨i,hi,_⟩:=hy;omega
 |n+1,x,hx=>by
  have IH:=Tz (r:=r) n;have key:∀ a,Acc r a->∀ x:Nat->α,x n=a->(∀ i,i<n->Acc r (x i))->Acc (IX r (n+1)) x:=by
   intro a ha;induction ha with
   |intro a _ z6=>
    intro x TA IY;have hA:=IH x IY;induction hA with
    |intro x _ ihx=>
     refine ztr x fun y hy=>?_
     obtain⟨i,hi,hr,hs⟩:=hy;rcases Ys i n with aj|dX
     ·refine ihx y ⟨i,aj,hr,hs⟩ ((hs n oQ).trans TA) fun j hj=>?_
      rcases Nat.decEq j i with h|h
      ·rw[hs j h];exact IY j hj
      ·subst h;exact(IY j hj).inv hr
     ·have:i=n:=oQ;subst this;rw[TA]at hr;refine z6 (y i) hr y rfl fun j hj=>?_
      rw[hs j oQ];exact IY j hj
  exact key (x n) (hx n oQ) x rfl fun i hi=>hx i oQ
def Less{α:Type}(r:α->α->Prop)(n:Nat)(y x:Nat×(Nat->α)×Nat):Prop:=y.1<x.1\/y.1=x.1/\(IX r n y.2.1 x.2.1\/y.2.1=x.2.1/\y.2.2<x.2.2)
theorem zej{α:Type}{r:α->α->Prop}{n:Nat}(G:Nat×(Nat->α)×Nat->Prop)(hG:∀ x,G x->∀ i,i<n->Acc r (x.2.1 i)):∀ x,G x->Acc (fun y x=>G y/\Less r n y x) x:=by
 have key:∀(k:Nat)(x:Nat×(Nat->α)×Nat),x.1=k->G x->Acc (fun y x=>G y/\Less r n y x) x:=by
  intro k;induction k using zBC with
  |ind k ihk=>
   have k2:∀(c:Nat->α),Acc (IX r n) c->∀(m:Nat)(x:Nat×(Nat->α)×Nat),x.1=k->x.2.1=c->x.2.2=m->G x->Acc (fun y x=>G y/\Less r n y x) x:=by
    intro c hc;induction hc with
    |intro c _ ihc=>
     intro m;induction m using zBC with
     |ind m ihm=>
      intro x h1 h2 h3 hx;refine ztr x fun y hy=>?_
      obtain⟨Mq,hL⟩:=hy;rcases hL with h|⟨e,h|⟨e2,h⟩⟩
      ·exact ihk y.1 oQ y rfl Mq
      ·rw[h2]at h;exact ihc y.2.1 h y.2.2 y (e.trans h1) rfl rfl Mq
      ·exact ihm y.2.2 oQ y (e.trans h1) (e2.trans h2) rfl Mq
   intro x hx TB;exact k2 x.2.1 (Tz n x.2.1 (hG x TB)) x.2.2 x hx rfl rfl TB
 exact fun x hx=>key x.1 x rfl hx
theorem zek{α:Type}{r:α->α->Prop}{n:Nat}(G:Nat×(Nat->α)×Nat->Prop)(hG:∀ x,G x->∀ i,i<n->Acc r (x.2.1 i)):WellFounded (fun y x:{x:Nat×(Nat->α)×Nat // G x}=>Less r n y.1 x.1):=by
 refine⟨fun x=>?_⟩;have key:∀ x,Acc (fun y x=>G y/\Less r n y x) x->∀ hx:G x,Acc (fun y x:{x:Nat×(Nat->α)×Nat // G x}=>Less r n y.1 x.1) ⟨x,hx⟩:=by
  intro x h;induction h with
  |intro x _ ih=>exact fun hx=>ztr _ fun y hy=>ih y.1 ⟨y.2,hy⟩ y.2
 exact key x.1 (zej G hG x.1 x.2) x.2
open Go.ConcR (KK WgAt stA smA rd wr mk)
open Go.ConcN (RelBy sumTo upd)
def Wk(P:Y2)(main:Bool)(K:YM->Prop)(Ok:YX->Prop)(Stop:YP->Prop):Nat->YP->Prop
 | 0,g=>Stop g
 |n+1,g=>Stop g\/(g.status=.running/\∃ g' es,(∀ w,K w->YV P main g w=.go g' w es)/\(∀ e∈es,Ok e)/\Wk P main K Ok Stop n g')
section
variable {P:Y2}{main:Bool}{K:YM->Prop}{Ok:YX->Prop}{Stop:YP->Prop}
theorem Wk.stop{n:Nat}{g:YP}(h:Stop g):Wk P main K Ok Stop n g:=by
 cases n with
 |zero=>exact h
 |succ n=>exact .inl h
theorem Wk.step{n:Nat}{g:YP}(hs:g.status=.running)(h:∀ w,K w->YV P main g w=.go g' w es)(he:∀ e∈es,Ok e)(hn:Wk P main K Ok Stop n g'):Wk P main K Ok Stop (n+1) g:=.inr ⟨hs,g',es,h,he,hn⟩
theorem Wk.running(hS:∀ g,Stop g->g.status=.running):∀{n:Nat}{g:YP},Wk P main K Ok Stop n g->g.status=.running
 | 0,g,h=>hS g h
 |_+1,g,h=>h.elim (hS g) (·.1)
end
structure Sc where
 E:Env
 M:String->Bool
 w0:YM
 ty:YT
 B4:YT
 Wg:Nat
 Cn:Nat
 An:Nat
 Shun:Loc->Prop
 n:Nat
 m:Nat
 z:YN
 zs:YN
 tv:Nat->YN
 uu:Y0
 box:Nat->Y0
 x0:Nat->jB
 R:Nat->YN->YM->Prop
 dP:Nat->YN->Prop
 j0:Nat
 s0:Nat
 AR:YP->Prop
 AW:YP->Prop
 Out:YP->Prop
structure KW(S:Sc)(w:YM):Prop where
 low:∀ b,b<S.w0.1.size->b≠S.Wg->b≠S.Cn->b≠S.An->w.1[b]?=S.w0.1[b]?
 eN:∃ st sm,WgAt S.ty S.Wg w st sm
 pay:∃ cs,w.1[S.An]?=some (.cells cs S.B4)/\cs.size=S.m
 ly:∃ c s r,w.1[S.Cn]?=some (.chan 0 #[] c s r false)
 os:w.os=S.w0.os
 out:w.output=S.w0.output
 tape:w.tape=S.w0.tape
 size:S.w0.1.size<=w.1.size
structure Ch(T:Nat->Prop)(w w':YM):Prop where
 size:w.1.size<=w'.1.size
 stay:∀ b,b<w.1.size->¬T b->w'.1[b]?=w.1[b]?
 os:w'.os=w.os
 out:w'.output=w.output
 tape:w'.tape=w.tape
theorem Ch.refl(T:Nat->Prop)(w:YM):Ch T w w:=⟨Yp _,fun _ _ _=>rfl,rfl,rfl,rfl⟩
theorem Ch.at(T:Nat->Prop)(w:YM)(d:Nat):Ch T w (w.at d):=⟨Yp _,fun _ _ _=>rfl,rfl,rfl,rfl⟩
theorem pK{w:YM}(h:w.1[b]?=some o):b<w.1.size:=by
 rcases Ys b w.1.size with h1|h1
 ·exact h1
 ·rw[XX h1]at h;cases h
theorem Ch.same{T:Nat->Prop}{w w':YM}(h:Ch T w w')(hb:w.1[b]?=some o)(hn:¬T b):w'.1[b]?=some o:=(h.stay b (pK hb) hn).trans hb
theorem Ch.setCell{w:YM}{a:YQ}:Ch (· = a.block) w (w.setCell a v):=
 ⟨by rw[World.size_setCell];exact Yp _,fun b _ hn=>heap_setCell_other w a b v hn,rfl,rfl,rfl⟩
theorem KW.ch{S:Sc}{T:Nat->Prop}{w w':YM}(h:KW S w)(hc:Ch T w w')(hT:∀ b,T b->S.w0.1.size<=b)(hW:S.Wg<S.w0.1.size)(hC:S.Cn<S.w0.1.size)(hA:S.An<S.w0.1.size):KW S w':=by
 have hn:∀ b,b<S.w0.1.size->¬T b:=fun b hb ht=>by
  have:=hT b ht;omega
 have hs:=h.size;obtain⟨st,sm,h2⟩:=h.eN;obtain⟨cs,h3,h4⟩:=h.pay;obtain⟨c,s,r,h5⟩:=h.ly;exact⟨fun b hb n1 n2 n3=>(hc.stay b oQ (hn b hb)).trans (h.low b hb n1 n2 n3),⟨st,sm,hc.same h2 (hn _ hW)⟩,⟨cs,hc.same h3 (hn _ hA),h4⟩,⟨c,s,r,hc.same h5 (hn _ hC)⟩,hc.os.trans h.os,hc.out.trans h.out,hc.tape.trans h.tape,Yq hs hc.size⟩
theorem KW.at{S:Sc}{w:YM}(h:KW S w)(d:Nat):KW S (w.at d):=⟨h.low,h.eN,h.pay,h.ly,h.os,h.out,h.tape,h.size⟩
def Sc.Sh(S:Sc)(l:Loc):Prop:=∃ a,l=.cell a/\a.block=S.Wg
def Sc.Rd(S:Sc)(l:Loc):Prop:=∃ a,l=.cell a/\a.block<S.w0.1.size/\a.block≠S.Wg/\a.block≠S.An/\¬S.Shun l
def Sc.Own(S:Sc)(ob oc:Nat->Nat)(k:Nat)(l:Loc):Prop:=k≠0/\((∃ a,l=.cell a/\((a.block≠S.An/\ob a.block=k)\/(a.block=S.An/\oc a.off=k)))\/∃ b,l=.obj b/\ob b=k)
theorem Sc.Mr{S:Sc}{ob oc:Nat->Nat}(hW:S.Wg<S.w0.1.size)(aW:S.Wg≠S.An)(mM:∀ b,ob b≠0->S.w0.1.size<=b):H6 S.Sh S.Shun S.Rd (S.Own ob oc) where
 zD:=by
  rintro l ⟨a,rfl,h⟩ ⟨a',h1,_,h2,_⟩;cases h1;exact h2 h
 Eg:=by
  rintro l k ⟨a,rfl,h⟩ ⟨hk,⟨a',h1,⟨_,h3⟩|⟨h2,_⟩⟩|⟨b,h1,_⟩⟩
  ·cases h1;have:=mM a.block (by rw[h3];exact hk);omega
  ·cases h1;exact aW (h.symm.trans h2)
  ·cases h1
 Eh:=by
  rintro l k ⟨a,rfl,h,_,h5,_⟩ ⟨hk,⟨a',h1,⟨_,h3⟩|⟨h2,_⟩⟩|⟨b,h1,_⟩⟩
  ·cases h1;have:=mM a.block (by rw[h3];exact hk);omega
  ·cases h1;exact h5 h2
  ·cases h1
 Lq:=by
  rintro l ⟨a,rfl,_,_,_,h⟩;exact h
 own:=by
  rintro l k k' ⟨hk,⟨a,rfl,h⟩|⟨b,rfl,h⟩⟩ ⟨dB,⟨a',h1,h'⟩|⟨b',h1,h'⟩⟩
  ·cases h1;rcases h with ⟨x,y⟩|⟨x,y⟩<;>rcases h' with ⟨x',y'⟩|⟨x',y'⟩
   ·exact y.symm.trans y'
   ·exact absurd x' x
   ·exact absurd x x'
   ·exact y.symm.trans y'
  ·cases h1
  ·cases h1
  ·cases h1;exact h.symm.trans h'
def uv(S:Sc)(e:YX):Prop:=∃ a,S.Rd (.cell a)/\e=⟨.cell a,false,false⟩
def EY(S:Sc)(q:Nat)(e:YX):Prop:=uv S e\/∃ a:YQ,a.block=q/\e=⟨.cell a,false,false⟩
def wu(S:Sc)(e:YX):Prop:=uv S e\/∃ a:YQ,a.block=S.Wg/\(e=mk (.read a)\/e=mk (.write a))
def KQ(S:Sc)(i q:Nat)(w:YM):Prop:=KW S w/\w.1[q]?=some (S.box i)
section
variable (S:Sc)
abbrev pL(Stop:YP->Prop):Nat->YP->Prop:=Wk S.E.P false (KW S) (uv S) Stop
abbrev nH(Stop:YP->Prop):Nat->YP->Prop:=Wk S.E.P false (KW S) (fun _=>False) Stop
def AtD4(g:YP):Prop:=g.status=.running/\ztY S.E.P g=true/\∃ g',(∀ w,KW S w->WgAt S.ty S.Wg w 0 0->YV S.E.P false g w=.go g' (w.setCell (smA S.Wg) (.int .u32 1)) (semEvents (smA S.Wg)))/\∃ q,QuitsD S.E.P q 1 g'
def AtD3(g:YP):Prop:=g.status=.running/\∃ g',(∀ w,KW S w->WgAt S.ty S.Wg w 1 0->YV S.E.P false g w=.go g' (w.setCell (stA S.Wg) (.int .u64 0)) #[wr (stA S.Wg)])/\∃ n,nH S (AtD4 S) n g'
def AtD2(g:YP):Prop:=g.status=.running/\∃ g',(∀ w,KW S w->WgAt S.ty S.Wg w 1 0->YV S.E.P false g w=.go g' w #[rd (stA S.Wg)])/\∃ n,nH S (AtD3 S) n g'
def AtD1(g:YP):Prop:=g.status=.running/\∀ v wt:Nat,wt<=1->v<S.n->∃ g',(∀ w,KW S w->WgAt S.ty S.Wg w ((v+1)*KK+wt) 0->YV S.E.P false g w=.go g' (w.setCell (stA S.Wg) (.int .u64 (v*KK+wt))) #[rd (stA S.Wg),wr (stA S.Wg)])/\
  ((v = 0 ∧ wt = 1) → ∃ n, nH S (AtD2 S) n g') ∧ (¬ (v = 0 ∧ wt = 1) → ∃ q, QuitsD S.E.P q 1 g')
def AtK1(g:YP):Prop:=g.status=.running/\∃ g',(∀ w,KW S w->YV S.E.P false g w=.go g' w #[mk .disable])/\∃ n,nH S (AtD1 S) n g'
def AtR0(g:YP):Prop:=g.status=.running/\∃ g',(∀ w,KW S w->YV S.E.P false g w=.go g' w #[mk (.releaseMerge (stA S.Wg))])/\∃ n,nH S (AtK1 S) n g'
def Ms(i q:Nat)(v:YN)(g:YP):Prop:=g.status=.running/\∃ g',(∀ w,KQ S i q w->YV S.E.P false g w=.go g' (w.setCell (aQ S.An i) v) #[⟨.cell (aQ S.An i),true,false⟩])/\∃ n,pL S S.AR n g'
abbrev ya(i q:Nat)(Stop:YP->Prop):Nat->YP->Prop:=Wk S.E.P false (KQ S i q) (EY S q) Stop
def TC(i q:Nat)(z:YU)(zs:List YU):Prop:=∀ v,S.dP i v->∃ n,ya S i q (Ms S i q v) n {frame:=z.finish v,callers:=zs,status:=.running,dying:=none}
def AtCall(i q:Nat)(g:YP):Prop:=g.status=.running/\∃ z zs,(∀ w,KQ S i q w->YV S.E.P false g w=.go (eG (S.x0 i).1 (z::zs)) w #[])/\TC S i q z zs
def Mt(i q:Nat)(g:YP):Prop:=g.status=.running/\∀ w,KQ S i q w->∃ g' d,YV S.E.P false g w=.go g' (w.at d) #[]/\∃ n,ya S i q (AtCall S i q) n g'
def Mu(i q:Nat)(g:YP):Prop:=g.status=.running/\∃ g',(∀ w,KW S w->w.1[q]?=some S.uu->∃ w' es,YV S.E.P false g w=.go g' w' es/\Ch (· = q) w w'/\w'.1.size=w.1.size/\w'.1[q]?=some (S.box i)/\∀ e∈es,∃ a:YQ,a.block=q/\e=⟨.cell a,true,false⟩)/\∃ n,ya S i q (Mt S i q) n g'
def Mv(i:Nat)(g:YP):Prop:=g.status=.running/\∀ w,KW S w->∃ g' w',YV S.E.P false g w=.go g' w' #[]/\Ch (fun _=>False) w w'/\w'.1.size=w.1.size+1/\w'.1[w.1.size]?=some S.uu/\∃ n,pL S (Mu S i w.1.size) n g'
abbrev cL(Stop:YP->Prop):Nat->YP->Prop:=Wk S.E.P true (KW S) (wu S) Stop
def AtAcq(g:YP):Prop:=g.status=.running/\∃ g',(∀ w,KW S w->YV S.E.P true g w=.go g' w #[mk (.acquire (stA S.Wg))])/\S.Out g'
def AtKe(g:YP):Prop:=g.status=.running/\∃ g',(∀ w,KW S w->YV S.E.P true g w=.go g' w #[mk .enable])/\∃ n,cL S (AtAcq S) n g'
def AtW4(g:YP):Prop:=g.status=.running/\∃ g',(∀ w,KW S w->WgAt S.ty S.Wg w 0 0->YV S.E.P true g w=.go g' w #[rd (stA S.Wg)])/\∃ n,cL S (AtKe S) n g'
def AtW3(g:YP):Prop:=g.status=.running/\g.offers=none/\(∀ w,KW S w->∀ st,WgAt S.ty S.Wg w st 0->YV S.E.P true g w=.go {g with status:=.blocked} w #[])/\
 ∃ g',(∀ w,KW S w->WgAt S.ty S.Wg w 0 1->YV S.E.P true g w=.go g' (w.setCell (smA S.Wg) (.int .u32 0)) (semEvents (smA S.Wg)))/\∃ n,cL S (AtW4 S) n g'
def AtW2(vs:Nat)(g:YP):Prop:=g.status=.running/\∀ v:Nat,v<=S.n->
 (v=vs->∃ g',(∀ w,KW S w->WgAt S.ty S.Wg w (v*KK) 0->YV S.E.P true g w=.go g' (w.setCell (stA S.Wg) (.int .u64 (v*KK+1))) #[rd (stA S.Wg),wr (stA S.Wg)])/\∃ n,cL S (AtW3 S) n g')/\
 (v≠vs->∃ g',(∀ w,KW S w->WgAt S.ty S.Wg w (v*KK) 0->YV S.E.P true g w=.go g' w #[rd (stA S.Wg)])/\∃ n,cL S S.AW n g')
def AtW1(g:YP):Prop:=g.status=.running/\∀ v:Nat,v<=S.n->∃ g',(∀ w,KW S w->WgAt S.ty S.Wg w (v*KK) 0->YV S.E.P true g w=.go g' w #[rd (stA S.Wg)])/\
 (v=0->∃ n,cL S (AtKe S) n g')/\(v≠0->∃ n,cL S (AtW2 S v) n g')
def AtKd(g:YP):Prop:=g.status=.running/\∃ g',(∀ w,KW S w->YV S.E.P true g w=.go g' w #[mk .disable])/\∃ n,cL S S.AW n g'
def B5(g:YP):Prop:=g.status=.running/\ztY S.E.P g=true/\∃ g',g'.status=.running/\(∀ w s r,KW S w->w.1[S.Cn]?=some (.chan 0 #[] false s r false)->YV S.E.P true g w=.go g' (w.setChan S.Cn 0 #[] true s r false) #[⟨.obj S.Cn,false,true⟩,⟨.obj S.Cn,true,true⟩])/\∃ n,cL S (AtKd S) n g'
def AtSend(j:Nat)(Y9:YP->Prop)(g:YP):Prop:=g.status=.running/\(∀ w,KW S w->YV S.E.P true g w=.comm g #[scase S.Cn (S.tv j) S.zs] true .send w #[])/\Y9 (ZK g YY)
def kN:Nat->YP->Prop
 | 0,g=>∃ n,cL S (B5 S) n g
 |l+1,g=>∃ n,cL S (AtSend S (S.m-(l+1)) (kN l)) n g
def AtGo(Y9:YP->Prop)(g:YP):Prop:=g.status=.running/\∃ g' c,(∀ w,KW S w->YV S.E.P true g w=.spawn g' c w #[])/\c.status=.running/\(∃ n,pL S S.AR n c)/\Y9 g'
def AtKeS(Y9:YP->Prop)(g:YP):Prop:=g.status=.running/\∃ g',(∀ w,KW S w->YV S.E.P true g w=.go g' w #[mk .enable])/\∃ n,cL S (AtGo S Y9) n g'
def AtA1(Y9:YP->Prop)(g:YP):Prop:=g.status=.running/\∀ v:Nat,v<S.n->∃ g',(∀ w,KW S w->WgAt S.ty S.Wg w (v*KK) 0->YV S.E.P true g w=.go g' (w.setCell (stA S.Wg) (.int .u64 ((v+1)*KK))) #[rd (stA S.Wg),wr (stA S.Wg)])/\∃ n,cL S (AtKeS S Y9) n g'
def AtKdS(Y9:YP->Prop)(g:YP):Prop:=g.status=.running/\∃ g',(∀ w,KW S w->YV S.E.P true g w=.go g' w #[mk .disable])/\∃ n,cL S (AtA1 S Y9) n g'
def nI:Nat->YP->Prop
 | 0,g=>kN S S.m g
 |r+1,g=>∃ n,cL S (AtKdS S (nI r)) n g
structure dR:Prop where
 hW:S.Wg<S.w0.1.size
 hC:S.Cn<S.w0.1.size
 hA:S.An<S.w0.1.size
 wa:S.Wg≠S.An
 wc:S.Wg≠S.Cn
 ca:S.Cn≠S.An
 hn:1<=S.n
 zel:S.n<=16
 j0:1<=S.j0
 aw:∀ g,S.AW g->g.status=.running/\∃ n,cL S (AtW1 S) n g
 ar:∀ g,S.AR g->g.status=.running/\g.offers=none/\(∀ w,KW S w->YV S.E.P false g w=.comm g #[rcase S.Cn S.z] true (.recv true) w #[])/\(∀ i,i<S.m->∃ n,pL S (Mv S i) n (ZK g (recvd true (S.tv i) true)))/\∃ n,pL S (AtR0 S) n (ZK g (recvd true S.z false))
 rt:bD S.E
 call:oD S.E S.M
 code:oF S.E S.M
 cont:∀ i,i<S.m->kM S.E (S.x0 i) (S.R i)
 val:∀ i v w,i<S.m->S.R i v w->S.dP i v
 plain:∀ i v f,S.dP i v->rV f v=v
 TD:∀ i w,i<S.m->KW S w->∃ f,mL S.E S.M (S.x0 i) f (S.x0 i) w/\(S.x0 i).1.map (rF f)=(S.x0 i).1/\(S.x0 i).2.size=S.E.B/\∀ b,S.E.B<=b->S.w0.1.size<=f b
 EB:S.E.B<=S.w0.1.size
 IZ:∀ b,S.E.R b\/S.E.O b->b<S.w0.1.size/\b≠S.Wg/\b≠S.Cn/\b≠S.An
 EZ:∀ a:YQ,S.E.R a.block->¬S.Shun (.cell a)
end
structure WD where
 stage:Nat
 fuel:Nat
 deaf:Nat
 place:Nat
 y:jB
structure MD where
 kind:Nat
 r:Nat
 fuel:Nat
def WSit(S:Sc)(k:Nat)(d:WD)(ob:Nat->Nat)(cl:Bool)(g:YP)(w:YM):Prop:=
 (d.stage=24/\d.deaf=0/\pL S (Mv S d.place) d.fuel g)\/
 (d.stage=23/\d.deaf=0/\∃ q,ob q=k/\w.1[q]?=some S.uu/\pL S (Mu S d.place q) d.fuel g)\/
 (d.stage=22/\d.deaf=0/\∃ q,ob q=k/\w.1[q]?=some (S.box d.place)/\ya S d.place q (Mt S d.place q) d.fuel g)\/
 (d.stage=21/\d.deaf=0/\∃ q,ob q=k/\w.1[q]?=some (S.box d.place)/\ya S d.place q (AtCall S d.place q) d.fuel g)\/
 (d.stage=20/\d.deaf=0/\∃ q z zs f,ob q=k/\w.1[q]?=some (S.box d.place)/\TC S d.place q z zs/\mL S.E S.M (S.x0 d.place) f d.y w/\(∀ b,S.E.I d.y.2.size b->ob (f b)=k/\f b≠q)/\g=eG (d.y.1.map (rF f)) (z::zs))\/
 (d.stage=19/\d.deaf=0/\∃ q v,ob q=k/\w.1[q]?=some (S.box d.place)/\S.dP d.place v/\ya S d.place q (Ms S d.place q v) d.fuel g)\/
 (d.stage=17/\d.deaf=0/\((∃ f,d.fuel=f+1/\pL S S.AR f g)\/(∃ g0 o,d.fuel=1/\S.AR g0/\g ={g0 with offers:=o})\/(∃ g0,d.fuel=0/\cl=false/\S.AR g0/\g=parked g0 #[rcase S.Cn S.z] (.recv true))))\/
 (d.stage=16/\d.deaf=0/\pL S (AtR0 S) d.fuel g)\/
 (d.stage=6/\d.deaf=0/\nH S (AtK1 S) d.fuel g)\/
 (d.stage=5/\d.deaf=1/\nH S (AtD1 S) d.fuel g)\/
 (d.stage=4/\d.deaf=1/\nH S (AtD2 S) d.fuel g)\/
 (d.stage=3/\d.deaf=1/\nH S (AtD3 S) d.fuel g)\/
 (d.stage=2/\d.deaf=1/\nH S (AtD4 S) d.fuel g)\/
 (d.stage=1/\QuitsD S.E.P d.fuel d.deaf g)
def lz(S:Sc)(M:MD)(c:Nat)(a:YP):Prop:=
 (M.kind=16/\M.r<S.n/\c=S.n-(M.r+1)/\cL S (AtKdS S (nI S M.r)) M.fuel a)\/
 (M.kind=15/\M.r<S.n/\c=S.n-(M.r+1)/\cL S (AtA1 S (nI S M.r)) M.fuel a)\/
 (M.kind=14/\M.r<S.n/\c=S.n-(M.r+1)/\cL S (AtKeS S (nI S M.r)) M.fuel a)\/
 (M.kind=13/\M.r<S.n/\c=S.n-(M.r+1)/\cL S (AtGo S (nI S M.r)) M.fuel a)\/
 (M.kind=12/\c=S.n/\M.r<S.m/\∃ f,M.fuel=f+1/\cL S (AtSend S (S.m-(M.r+1)) (kN S M.r)) f a)\/
 (M.kind=11/\c=S.n/\M.r<S.m/\∃ g,M.fuel=0/\AtSend S (S.m-(M.r+1)) (kN S M.r) g/\a=parked g #[scase S.Cn (S.tv (S.m-(M.r+1))) S.zs] .send)\/
 (M.kind=10/\c=S.n/\cL S (B5 S) M.fuel a)\/
 (M.kind=9/\c=S.n/\cL S (AtKd S) M.fuel a)\/
 (M.kind=8/\c=S.n/\cL S S.AW M.fuel a)\/
 (M.kind=7/\c=S.n/\cL S (AtW1 S) M.fuel a)\/
 (M.kind=6/\c=S.n/\cL S (AtW2 S M.r) M.fuel a)\/
 (M.kind=5/\c=S.n/\∃ f,M.fuel=f+1/\cL S (AtW3 S) f a)\/
 (M.kind=4/\c=S.n/\∃ g,M.fuel=0/\AtW3 S g/\a ={g with status:=.blocked})\/
 (M.kind=3/\c=S.n/\cL S (AtW4 S) M.fuel a)\/
 (M.kind=2/\c=S.n/\cL S (AtKe S) M.fuel a)\/
 (M.kind=1/\c=S.n/\cL S (AtAcq S) M.fuel a)
def pM(kd:Nat):Nat:=if kd=15\/kd=14\/(2<=kd/\kd<=8)then 1 else 0
def pend(kd:Nat):Nat:=if kd=14\/kd=13 then 1 else 0
def cn(S:Sc)(M:MD):Nat:=if 13<=M.kind then 0 else if 11<=M.kind then S.m-(M.r+1)else S.m
def dr(d:WD):Nat:=if 5<=d.stage then 1 else 0
def Vc(c:Nat)(D:Nat->WD):Nat:=sumTo c fun i=>dr (D i)
def Ssum(c:Nat)(D:Nat->WD):Nat:=sumTo c fun i=>(D i).stage
def Fsum(c:Nat)(D:Nat->WD):Nat:=sumTo c fun i=>(D i).fuel
def Mw(c:Nat)(D:Nat->WD):Prop:=∀ i,i<c->(D i).stage=1
def wE(c:Nat)(D:Nat->WD):Prop:=∀ i,i<c->5<=(D i).stage\/(D i).stage=1
def Mode(c:Nat)(D:Nat->WD)(kd r:Nat)(st sm:Int):Prop:=
  (6 ≤ kd ∧ wE c D ∧ st = ((Vc c D + pend kd : Nat) : Int) * KK ∧ sm = 0 ∧ (kd = 6 → Vc c D ≤ r ∧ 1 ≤ r)) ∨
  ((kd = 5 ∨ kd = 4) ∧ wE c D ∧ 1 ≤ Vc c D ∧ st = ((Vc c D : Nat) : Int) * KK + 1 ∧ sm = 0) ∨
  ((kd = 5 ∨ kd = 4) ∧ sm = 0 ∧ ∃ L, L < c ∧ (∀ i, i < c → i ≠ L → (D i).stage = 1) ∧ (((D L).stage = 4 ∨ (D L).stage = 3) ∧ st = 1 ∨ (D L).stage = 2 ∧ st = 0)) ∨
  (kd = 5 ∧ Mw c D ∧ st = 0 ∧ sm = 1) ∨
  (kd ≤ 3 ∧ Mw c D ∧ st = 0 ∧ sm = 0)
def phi(S:Sc)(v:Nat)(M:MD):Nat:=
 if 13<=M.kind then 8*S.n+12+2*S.m+30*M.r+20+(M.kind-12)
 else if 11<=M.kind then 8*S.n+8+2*(M.r+1)
 else if M.kind=10 then 8*S.n+8
 else if M.kind=9 then 8*S.n+7
 else if M.kind=8 then 8*v+6
 else if M.kind=7 then 8*v+5
 else if M.kind=6 then 8*M.r+4
 else if M.kind=5\/M.kind=4 then 4
 else M.kind
def meas(S:Sc)(c:Nat)(D:Nat->WD)(M:MD)(q:Nat->Nat):Nat×(Nat->jB)×Nat:=
 (phi S (Vc c D) M+Ssum c D+10*(S.m-cn S M),fun i=>(D i).y,M.fuel+2*(Fsum c D+sumTo S.j0 q))
structure Inv(S:Sc)(c:Nat)(D:Nat->WD)(M:MD)(ob oc q:Nat->Nat)(cl:Bool)(st sm:Int)(gs:Array YP)(w:YM)(t:Y6):Prop where
 size:gs.size=S.j0+c
 main:∃ a,gs[0]?=some a/\lz S M c a
 old:∀ k,0<k->k<S.j0->∃ g,gs[k]?=some g/\QuitsD S.E.P (q k) (Deaf t k) g
 wk:∀ i,i<c->∃ g,gs[S.j0+i]?=some g/\WSit S (S.j0+i) (D i) ob cl g w
 deaf0:Deaf t 0=pM M.kind
 deafW:∀ i,i<c->Deaf t (S.j0+i)=(D i).deaf
 pN:∀ k,S.j0+c<=k->Deaf t k=0
 kw:KW S w
 tr:Tr S.Sh S.Shun S.Rd (S.Own ob oc) S.s0 S.j0 (S.j0+c) w.1.size t
 jU:∀ b,ob b≠0->S.w0.1.size<=b/\b<w.1.size
 qJ:∀ p,cn S M<=p->oc p=0
 sw:∀ op∈t,∀ a,op.act.touch?=some a->∀ p,cn S M<=p->∀ ad:YQ,ad.block=S.An->ad.off=p->a.loc≠.cell ad
 rel:∀ i,i<c->(D i).stage<=6->∃ r,RelBy (stA S.Wg) t (S.j0+i) r
 nor:NoRelease (stA S.Wg) t
 eN:WgAt S.ty S.Wg w st sm
 mode:Mode c D M.kind M.r st sm
 ly:∃ s r,w.1[S.Cn]?=some (.chan 0 #[] cl s r false)
 l8:cl=true↔M.kind<=9
 opn:cl=false->∀ i,i<c->17<=(D i).stage
 pay:∃ cs,w.1[S.An]?=some (.cells cs S.B4)/\cs.size=S.m/\∀ p,p<cn S M->(∃ v,cs[p]?=some v/\S.dP p v)\/∃ i,i<c/\(D i).place=p/\19<=(D i).stage
 oI:∀ i,i<c->19<=(D i).stage->(D i).place<cn S M/\oc (D i).place=S.j0+i
 B6:M.kind=11->∀ i,i<c->¬((D i).stage=17/\(D i).fuel=0)
 acc:∀ i,Acc (Nx S.E) (D i).y
section
variable {S:Sc}{k:Nat}{d:WD}{ob ob':Nat->Nat}{cl:Bool}{g:YP}{w w':YM}
theorem WSit.other(h:WSit S k d ob cl g w){T:Nat->Prop}(hc:Ch T w w')(hT:∀ b,T b->ob b≠k)(hR:∀ b,S.E.R b\/S.E.O b->¬T b)(mM:∀ b,b<w.1.size->ob b=k->ob' b=k):WSit S k d ob' cl g w':=by
 have hq:∀{q:Nat}{o:Y0},ob q=k->w.1[q]?=some o->ob' q=k/\w'.1[q]?=some o:=fun {q o} h1 h2=>⟨mM q (pK h2) h1,hc.same h2 fun t=>hT q t h1⟩
 rcases h with h|⟨h1,h2,q,h3,h4,h5⟩|⟨h1,h2,q,h3,h4,h5⟩|⟨h1,h2,q,h3,h4,h5⟩|⟨h1,h2,q,z,zs,f,h3,h4,h5,h6,h7,h8⟩|⟨h1,h2,q,v,h3,h4,h5⟩|h
 ·exact .inl h
 ·exact .inr (.inl ⟨h1,h2,q,(hq h3 h4).1,(hq h3 h4).2,h5⟩)
 ·exact .inr (.inr (.inl ⟨h1,h2,q,(hq h3 h4).1,(hq h3 h4).2,h5⟩))
 ·exact eO (.inl ⟨h1,h2,q,(hq h3 h4).1,(hq h3 h4).2,h5⟩)
 ·have aj:∀ b,S.E.I d.y.2.size b->f b<w.1.size:=fun b hb=>EX h6.fit h6.rel hb.2
  obtain⟨f',k1,k2,k3⟩:=h6.other hc.size (fun b hb=>hc.stay (f b) (aj b hb) fun t=>hT _ t (h7 b hb).1) (fun b hb=>by
   refine hc.stay b ?_ (hR b hb);rcases hb with hb|hb
   ·obtain⟨c,t,_,h9,_⟩:=h6.rel.ro b hb;exact pK h9
   ·obtain⟨c,e,c',_,h9,_⟩:=h6.rel.op b hb;exact pK h9) hc.os
  exact wF (.inl ⟨h1,h2,q,z,zs,f',(hq h3 h4).1,(hq h3 h4).2,h5,k1,fun b hb=>by rw[k3 b hb.2];exact⟨mM _ (aj b hb) (h7 b hb).1,(h7 b hb).2⟩,by rw[k2];exact h8⟩)
 ·exact z7 (.inl ⟨h1,h2,q,v,(hq h3 h4).1,(hq h3 h4).2,h5⟩)
 ·exact z7 (.inr h)
theorem TE{Z:List YU}{Y:List YU}(h:Y++Z≠[]):(eG Y Z).status=.running:=by
 unfold eG;cases hx:Y++Z with
 |nil=>exact absurd hx h
 |cons a l=>rfl
theorem WSit.status(X:dR S)(h:WSit S k d ob cl g w):g.status=.running\/(g.status=.finished/\d.stage=1)\/(d.stage=17/\d.fuel=0/\cl=false/\∃ g0,S.AR g0/\g=parked g0 #[rcase S.Cn S.z] (.recv true)):=by
 rcases h with ⟨_,_,h⟩|⟨_,_,q,_,_,h⟩|⟨_,_,q,_,_,h⟩|⟨_,_,q,_,_,h⟩|⟨_,_,q,z,zs,f,_,_,_,_,_,h⟩|⟨_,_,q,v,_,_,_,h⟩|⟨h0,_,h⟩|⟨_,_,h⟩|⟨_,_,h⟩|⟨_,_,h⟩|⟨_,_,h⟩|⟨_,_,h⟩|⟨_,_,h⟩|⟨h0,h⟩
 ·exact .inl (h.running fun _ x=>x.1)
 ·exact .inl (h.running fun _ x=>x.1)
 ·exact .inl (h.running fun _ x=>x.1)
 ·exact .inl (h.running fun _ x=>x.1)
 ·exact .inl (by rw[h];exact TE sQ)
 ·exact .inl (h.running fun _ x=>x.1)
 ·rcases h with ⟨f,_,h⟩|⟨g0,o,_,h1,rfl⟩|⟨g0,h1,h2,h3,h4⟩
  ·exact .inl (h.running fun g x=>(X.ar g x).1)
  ·exact .inl (X.ar g0 h1).1
  ·exact .inr (.inr ⟨h0,h1,h2,g0,h3,h4⟩)
 ·exact .inl (h.running fun _ x=>x.1)
 ·exact .inl (h.running fun _ x=>x.1)
 ·exact .inl (h.running fun _ x=>x.1)
 ·exact .inl (h.running fun _ x=>x.1)
 ·exact .inl (h.running fun _ x=>x.1)
 ·exact .inl (h.running fun _ x=>x.1)
 ·rcases h.status with h|h
  ·exact .inl h
  ·exact .inr (.inl ⟨h,h0⟩)
theorem TF{g0:YP}{c:CommCase}{cs:CommShape}{n:Nat}(hc:c.chan=.chan (some n))(h:w'.1[n]?=some (.chan 0 #[] false s r false)):(parked g0 #[c] cs).again w'=parked g0 #[c] cs:=by
 simp[zAX,parked,hc,h]
theorem WSit.woken(X:dR S)(h:WSit S k d ob cl g w)(a a':YP)(hc:w'.1[S.Cn]?=some (.chan 0 #[] cl s r false)):woken S.E.P a a' w' g=g:=by
 unfold ZL;split
 ·rcases h.status X with h|⟨h,_⟩|⟨_,_,cB,g0,_,rfl⟩
  ·exact zwm _ (.inl h)
  ·exact zwm _ (.inr h)
  ·rw[cB]at hc;exact TF rfl hc
 ·rfl
end
section
variable {S:Sc}{M:MD}{c:Nat}{a:YP}
theorem lz.status(X:dR S)(h:lz S M c a):a.status=.running\/(M.kind=11/\∃ g,AtSend S (S.m-(M.r+1)) (kN S M.r) g/\a=parked g #[scase S.Cn (S.tv (S.m-(M.r+1))) S.zs] .send)\/(M.kind=4/\∃ g,AtW3 S g/\a ={g with status:=.blocked}):=by
 rcases h with ⟨_,_,_,h⟩|⟨_,_,_,h⟩|⟨_,_,_,h⟩|⟨_,_,_,h⟩|⟨_,_,_,f,_,h⟩|⟨h0,_,_,g,_,h⟩|⟨_,_,h⟩|⟨_,_,h⟩|⟨_,_,h⟩|⟨_,_,h⟩|⟨_,_,h⟩|⟨_,_,f,_,h⟩|⟨h0,_,g,_,h⟩|⟨_,_,h⟩|⟨_,_,h⟩|⟨_,_,h⟩
 ·exact .inl (h.running fun _ x=>x.1)
 ·exact .inl (h.running fun _ x=>x.1)
 ·exact .inl (h.running fun _ x=>x.1)
 ·exact .inl (h.running fun _ x=>x.1)
 ·exact .inl (h.running fun _ x=>x.1)
 ·exact .inr (.inl ⟨h0,g,h⟩)
 ·exact .inl (h.running fun _ x=>x.1)
 ·exact .inl (h.running fun _ x=>x.1)
 ·exact .inl (h.running fun g x=>(X.aw g x).1)
 ·exact .inl (h.running fun _ x=>x.1)
 ·exact .inl (h.running fun _ x=>x.1)
 ·exact .inl (h.running fun _ x=>x.1)
 ·exact .inr (.inr ⟨h0,g,h⟩)
 ·exact .inl (h.running fun _ x=>x.1)
 ·exact .inl (h.running fun _ x=>x.1)
 ·exact .inl (h.running fun _ x=>x.1)
theorem lz.range(h:lz S M c a):1<=M.kind/\M.kind<=16/\c<=S.n/\(M.kind<=12->c=S.n)/\(11<=M.kind->M.kind<=12->M.r<S.m)/\(13<=M.kind->M.r<S.n/\c=S.n-(M.r+1)):=by
 rcases h with h|h|h|h|h|h|h|h|h|h|h|h|h|h|h|h
 ·exact⟨oQ,oQ,oQ,fun _=>oQ,fun _ _=>oQ,fun _=>⟨h.2.1,h.2.2.1⟩⟩
 ·exact⟨oQ,oQ,oQ,fun _=>oQ,fun _ _=>oQ,fun _=>⟨h.2.1,h.2.2.1⟩⟩
 ·exact⟨oQ,oQ,oQ,fun _=>oQ,fun _ _=>oQ,fun _=>⟨h.2.1,h.2.2.1⟩⟩
 ·exact⟨oQ,oQ,oQ,fun _=>oQ,fun _ _=>oQ,fun _=>⟨h.2.1,h.2.2.1⟩⟩
 ·exact⟨oQ,oQ,oQ,fun _=>h.2.1,fun _ _=>h.2.2.1,fun _=>oQ⟩
 ·exact⟨oQ,oQ,oQ,fun _=>h.2.1,fun _ _=>h.2.2.1,fun _=>oQ⟩
 all_goals exact⟨oQ,oQ,oQ,fun _=>h.2.1,fun _ _=>oQ,fun _=>oQ⟩
theorem lz.woken(X:dR S)(h:lz S M c a)(g g':YP){w':YM}{cl:Bool}(hc:w'.1[S.Cn]?=some (.chan 0 #[] cl s r false))(cB:cl=true↔M.kind<=9):
  ∃ M',lz S M' c (woken S.E.P g g' w' a)/\(M'=M\/(M.kind=4/\M.fuel=0/\M'=⟨5,M.r,1⟩))/\(ztY S.E.P g=true->g'.status≠.blocked->g'.status≠.waiting->M'.kind≠4):=by
 rcases h.status X with hs|⟨hk,g0,hg,rfl⟩|⟨hk,g0,hg,rfl⟩
 ·have e:ZL S.E.P g g' w' a=a:=by
   unfold ZL;split
   ·exact zwm _ (.inl hs)
   ·rfl
  rw[e];refine⟨M,h,.inl rfl,fun _ _ _ hk=>?_⟩;rcases h with h|h|h|h|h|h|h|h|h|h|h|h|h|h|h|h
  all_goals first |omega|skip
  obtain⟨_,_,g0,_,_,rfl⟩:=h;cases hs
 ·have e:ZL S.E.P g g' w' (parked g0 #[scase S.Cn (S.tv (S.m-(M.r+1))) S.zs] .send)=parked g0 #[scase S.Cn (S.tv (S.m-(M.r+1))) S.zs] .send:=by
   unfold ZL;split
   ·have:cl=false:=by
     cases cl with
     |false=>rfl
     |true=>have:=cB.1 rfl;omega
    subst this;exact TF rfl hc
   ·rfl
  rw[e];exact⟨M,h,.inl rfl,fun _ _ _=>oQ⟩
 ·unfold ZL;have fc:=h.range.2.2.2.1 oQ;have h0:M.fuel=0:=by
   rcases h with h|h|h|h|h|h|h|h|h|h|h|h|h|h|h|h
   all_goals first |omega|exact h.2.2.choose_spec.1
  by_cases hw:(ztY S.E.P g&&g'.status != .blocked&&g'.status != .waiting)=true
  ·rw[YH hw];have e:({g0 with status:=.blocked}:YP).again w'=g0:=by
    obtain⟨fr,cs,st,dy,of⟩:=g0;obtain⟨bh,TG,_⟩:=hg;simp only at bh TG;subst bh;subst TG;rfl
   rw[e];exact⟨⟨5,M.r,1⟩,E0 (.inl ⟨rfl,fc,0,rfl,hg⟩),.inr ⟨hk,h0,rfl⟩,fun _ _ _=>sQ⟩
  ·rw[YG hw];refine⟨M,h,.inl rfl,fun h1 h2 h3=>?_⟩;exfalso;apply hw;simp[h1,h2,h3]
end
theorem Inv.awake{S:Sc}(X:dR S){c:Nat}{D:Nat->WD}{M:MD}{ob oc q:Nat->Nat}{cl:Bool}{st sm:Int}{gs:Array YP}{w:YM}{t:Y6}(h:Inv S c D M ob oc q cl st sm gs w t):(∀ g∈gs,awake g)/\∃(i:Nat)(g:YP),gs[i]?=some g/\g.status=.running:=by
 have hw:∀ i,i<c->∃ g,gs[S.j0+i]?=some g/\(g.status=.running\/g.status=.finished/\(D i).stage=1\/g.status=.blocked/\(D i).stage=17/\(D i).fuel=0/\cl=false):=fun i hi=>by
  obtain⟨g,hg,hs⟩:=h.wk i hi;refine⟨g,hg,?_⟩;rcases hs.status X with h1|h1|⟨h1,h2,h3,g0,_,rfl⟩
  ·exact .inl h1
  ·exact .inr (.inl h1)
  ·exact .inr (.inr ⟨rfl,h1,h2,h3⟩)
 obtain⟨a,ha,hm⟩:=h.main;have hj:=X.j0;refine⟨fun g hg=>?_,?_⟩
 ·obtain⟨i,hi⟩:=Array.mem_iff_getElem?.1 hg;have aj:=(XY.1 hi).1;rw[h.size]at aj;rcases zst i with rfl|nJ
  ·rw[ha]at hi;cases hi;rcases hm.status X with hs|⟨_,g0,_,rfl⟩|⟨_,g0,_,rfl⟩
   ·exact ztW (.inl hs)
   ·exact ztW (.inr (.inl rfl))
   ·exact ztW (.inr (.inl rfl))
  ·rcases Ys i S.j0 with hl|hl
   ·obtain⟨g',fI,hq⟩:=h.old i nJ hl;rw[hi]at fI;cases fI;exact ztW (hq.status.elim .inl fun x=>.inr (.inr x))
   ·obtain⟨g',fI,hs⟩:=hw (i-S.j0) oQ;rw[show S.j0+(i-S.j0)=i by omega,hi]at fI;cases fI;rcases hs with hs|⟨hs,_⟩|⟨hs,_⟩
    ·exact ztW (.inl hs)
    ·exact ztW (.inr (.inr hs))
    ·exact ztW (.inr (.inl hs))
 ·have hn:=X.hn;rcases hm.status X with hs|⟨hk,_⟩|⟨hk,_⟩
  ·exact⟨0,a,ha,hs⟩
  ·have fc:=hm.range.2.2.2.1 oQ;have cB:cl=false:=by
    cases cl with
    |false=>rfl
    |true=>have:=h.l8.1 rfl;omega
   obtain⟨g,hg,hs⟩:=hw 0 oQ;have sA:=h.opn cB 0 oQ;rcases hs with hs|⟨_,hs⟩|⟨_,hs,gC,_⟩
   ·exact⟨_,g,hg,hs⟩
   ·omega
   ·exact absurd ⟨hs,gC⟩ (h.B6 hk 0 oQ)
  ·have cB:cl=true:=h.l8.2 oQ;have key:∀ i,i<c->(D i).stage≠1->∃(i:Nat)(g:YP),gs[i]?=some g/\g.status=.running:=fun i hi aW=>by
    obtain⟨g,hg,hs⟩:=hw i hi;rcases hs with hs|⟨_,hs⟩|⟨_,_,_,hs⟩
    ·exact⟨_,g,hg,hs⟩
    ·exact absurd hs aW
    ·rw[cB]at hs;cases hs
   have zem:∀ c,1<=Vc c D->∃ i,i<c/\5<=(D i).stage:=fun c=>by
    induction c with
    |zero=>intro h;simp[Vc,sumTo]at h
    |succ c ih=>
     intro h;by_cases hc:5<=(D c).stage
     ·exact⟨c,oQ,hc⟩
     ·have:1<=Vc c D:=by simp only[Vc,sumTo,dr,YG hc]at h⊢;simpa using h
      obtain⟨i,hi,h5⟩:=ih this;exact⟨i,oQ,h5⟩
   rcases h.mode with ⟨h1,_⟩|⟨_,_,h1,_⟩|⟨_,_,L,h1,_,h2⟩|⟨h1,_⟩|⟨h1,_⟩
   ·omega
   ·obtain⟨i,hi,h5⟩:=zem c h1;exact key i hi oQ
   ·exact key L h1 oQ
   ·omega
   ·omega
open Go.ConcN (RelBy sumTo upd upd_same upd_ne sumTo_upd sumTo_congr get_map_set get_map_set_same)
def gL(S:Sc)(μ:Nat×(Nat->jB)×Nat)(m:ztj)(t:Y6):Prop:=
 ∃ c D M ob oc q cl st sm gs w sl,m=crowd gs w sl/\Inv S c D M ob oc q cl st sm gs w t/\μ=meas S c D M q
def l9(ob:Nat->Nat)(lo hi k b:Nat):Nat:=if lo<=b/\b<hi then k else ob b
def oJ(S:Sc)(ob oc:Nat->Nat)(k B:Nat)(e:YX):Prop:=
 (∀ a,(Zi e).touch?=some a->a.loc.isMemory=true->(S.Sh a.loc/\a.kind=.atomic)\/(S.Own ob oc k a.loc/\a.kind=.plain)\/(S.Rd a.loc/\a.write=false/\a.kind=.plain))/\(Zi e).low B/\e.loc≠.mark (.release (stA S.Wg))
theorem TH(S:Sc){M M':MD}(h:M'=M\/(M.kind=4/\M.fuel=0/\M'=⟨5,M.r,1⟩)):cn S M'=cn S M:=by
 rcases h with rfl|⟨h,_,rfl⟩
 ·rfl
 ·simp[cn,h]
theorem TI(S:Sc)(v:Nat){M M':MD}(h:M'=M\/(M.kind=4/\M.fuel=0/\M'=⟨5,M.r,1⟩)):phi S v M'=phi S v M:=by
 rcases h with rfl|⟨h,_,rfl⟩
 ·rfl
 ·simp[phi,h]
theorem phi_mono(S:Sc){v v':Nat}(h:v'<=v)(M:MD):phi S v' M<=phi S v M:=by
 unfold phi
 repeat(first |omega|split)
theorem zen{d d':WD}(h:d'.stage<=d.stage):dr d'<=dr d:=by
 unfold dr;split<;>split<;>omega
section
variable {S:Sc}{c:Nat}{D:Nat->WD}{M:MD}{ob oc q:Nat->Nat}{cl:Bool}{st sm:Int}{gs:Array YP}{w:YM}{t:Y6}
theorem Inv.z8(h:Inv S c D M ob oc q cl st sm gs w t)(hb:b<S.w0.1.size):ob b=0:=by
 rcases zst (ob b)with h1|h1
 ·exact h1
 ·have:=(h.jU b oQ).1;omega
theorem E3{ob:Nat->Nat}{lo hi k:Nat}(hb:b<lo):l9 ob lo hi k b=ob b:=YG oQ
theorem Inv.stepW(X:dR S)(h:Inv S c D M ob oc q cl st sm gs w t){i:Nat}(hi:i<c){g:YP}{w':YM}(sl:Option (Nat×Nat))(hg:gs[S.j0+i]?=some g)(bO:YV S.E.P false g w=.go g' w' es)
  {d':WD} {T:Nat->Prop}  (dm:Ch T w w') (hT:∀ b,T b->ob b=S.j0+i\/b=S.Wg\/b=S.An) (uw:KW S w')
  (Aa:WSit S (S.j0+i) d' (l9 ob w.1.size w'.1.size (S.j0+i)) cl g' w') (dG:∀ e∈es,oJ S (l9 ob w.1.size w'.1.size (S.j0+i)) oc (S.j0+i) w'.1.size e)
  (E4:deafBehind (D i).deaf es=d'.deaf) (hrel:d'.stage<=6->∃ r,RelBy (stA S.Wg) (t++Zl (S.j0+i) g.frame.fn g.frame.place es) (S.j0+i) r)
  (wG:WgAt S.ty S.Wg w' kt mN) (jV:∀ kO,(kO=M.kind\/(M.kind=4/\kO=5))->(ztY S.E.P g=true->g'.status≠.blocked->g'.status≠.waiting->kO≠4)->Mode c (upd D i d') kO M.r kt mN)
  (zeo:∃ cs,w'.1[S.An]?=some (.cells cs S.B4)/\cs.size=S.m/\∀ p,p<cn S M->(∃ v,cs[p]?=some v/\S.dP p v)\/∃ i',i'<c/\(upd D i d' i').place=p/\19<=(upd D i d' i').stage)
  (zep:19<=d'.stage->d'.place<cn S M/\oc d'.place=S.j0+i) (E5:cl=false->17<=d'.stage) (E6:M.kind=11->¬(d'.stage=17/\d'.fuel=0)) (zO:Acc (Nx S.E) d'.y)
  (aj:d'.stage<(D i).stage\/(d'.stage=(D i).stage/\Nx S.E d'.y (D i).y)\/(d'.stage=(D i).stage/\d'.y=(D i).y/\d'.fuel<(D i).fuel)):
  ∃ m' au ν,runT S.E.P (crowd gs w sl) (S.j0+i)=(.next m',au)/\Less (Nx S.E) S.n ν (meas S c D M q)/\gL S ν m' (t++au):=by
 have hj:=X.j0;have hC:=X.hC;have zro:S.j0+i≠0:=oQ;have bW:(S.j0+i==0)=false:=tQ;have bm:=h.kw.size;have Mx:¬T S.Cn:=fun ht=>by
  rcases hT _ ht with h1|h1|h1
  ·rw[h.z8 hC]at h1;omega
  ·exact X.wc h1.symm
  ·exact X.ca h1
 obtain⟨s,r,fc⟩:=h.ly;have sB:=dm.same fc Mx;obtain⟨a,ha,hm⟩:=h.main;obtain⟨M',cq,qK,My⟩:=hm.woken X g g' sB h.l8;have cO:=zu0 (P:=S.E.P) (sl:=sl) (i:=S.j0+i) hg (by rw[bW];exact bO);have iI:∀ op∈Zl (S.j0+i) g.frame.fn g.frame.place es,op.g=S.j0+i:=fun op hop=>by
  obtain⟨e,_,rfl⟩:=ZJ hop;rfl
 have ku:cn S M'=cn S M:=TH S qK;have jW:M'.kind=M.kind\/(M.kind=4/\M'.kind=5):=by
  rcases qK with rfl|⟨h1,_,rfl⟩
  ·exact .inl rfl
  ·exact .inr ⟨h1,rfl⟩
 have B7:M'.r=M.r:=by
  rcases qK with rfl|⟨_,_,rfl⟩<;>rfl
 have Q6:M'.fuel<=M.fuel+1:=by
  rcases qK with rfl|⟨_,_,rfl⟩
  ·omega
  ·simp
 have aW:∀ k,k≠S.j0+i->∀ x,gs[k]?=some x->((gs.map (ZL S.E.P g g' w')).setIfInBounds (S.j0+i) g')[k]?=some (ZL S.E.P g g' w' x):=fun k hk x hx=>by
  rw[get_map_set _ _ _ _ (fun e=>hk e.symm),hx];rfl
 have Mz:∀ k l,S.Own ob oc k l->S.Own (l9 ob w.1.size w'.1.size (S.j0+i)) oc k l:=by
  rintro k l ⟨hk,⟨a,rfl,⟨h1,h2⟩|⟨h1,h2⟩⟩|⟨b,rfl,h2⟩⟩
  ·exact⟨hk,.inl ⟨a,rfl,.inl ⟨h1,by rw[E3 (h.jU _ (by rw[h2];exact hk)).2];exact h2⟩⟩⟩
  ·exact⟨hk,.inl ⟨a,rfl,.inr ⟨h1,h2⟩⟩⟩
  ·exact⟨hk,.inr ⟨b,rfl,by rw[E3 (h.jU _ (by rw[h2];exact hk)).2];exact h2⟩⟩
 have TJ:∀ b,l9 ob w.1.size w'.1.size (S.j0+i) b≠0->S.w0.1.size<=b/\b<w'.1.size:=fun b hb=>by
  have:=dm.size;unfold l9 at hb;split at hb
  ·omega
  ·have:=h.jU b hb;omega
 have zeq:=Sc.Mr (S:=S) (ob:=l9 ob w.1.size w'.1.size (S.j0+i)) (oc:=oc) X.hW X.wa fun b hb=>(TJ b hb).1
 have yb:Tr S.Sh S.Shun S.Rd (S.Own (l9 ob w.1.size w'.1.size (S.j0+i)) oc) S.s0 S.j0 (S.j0+c) w'.1.size (t++Zl (S.j0+i) g.frame.fn g.frame.place es):=by
  have h1:Tr S.Sh S.Shun S.Rd (S.Own (l9 ob w.1.size w'.1.size (S.j0+i)) oc) S.s0 S.j0 (S.j0+c) w'.1.size t:=by
   refine(h.tr.give Mz fun k l hl=>?_).more dm.size;obtain⟨hk,⟨a,rfl,⟨h1,h2⟩|⟨h1,h2⟩⟩|⟨b,rfl,h2⟩⟩:=hl
   ·by_cases hb:w.1.size<=a.block/\a.block<w'.1.size
    ·exact .inr (Lt h.tr.seen (by show ¬a.block<w.1.size;omega))
    ·rw[l9,YG hb]at h2;exact .inl ⟨hk,.inl ⟨a,rfl,.inl ⟨h1,h2⟩⟩⟩
   ·exact .inl ⟨hk,.inl ⟨a,rfl,.inr ⟨h1,h2⟩⟩⟩
   ·by_cases hb:w.1.size<=b/\b<w'.1.size
    ·exact .inr (Lt h.tr.seen (by show ¬b<w.1.size;omega))
    ·rw[l9,YG hb]at h2;exact .inl ⟨hk,.inr ⟨b,rfl,h2⟩⟩
  refine h1.appW zeq (k:=S.j0+i) oQ oQ iI (fun op hop=>?_) fun op hop a ha MA=>?_
  ·obtain⟨e,he,rfl⟩:=ZJ hop;exact(dG e he).2.1
  ·obtain⟨e,he,rfl⟩:=ZJ hop;exact(dG e he).1 a ha MA
 refine⟨_,_,meas S c (upd D i d') M' q,cO,?_,c,upd D i d',M',l9 ob w.1.size w'.1.size (S.j0+i),oc,q,cl,kt,mN,_,w',sl,rfl,⟨?_,?_,?_,?_,?_,?_,?_,uw,yb,TJ,?_,?_,?_,?_,wG,?_,⟨s,r,sB⟩,?_,?_,?_,?_,?_,?_⟩,rfl⟩
 ·
  have e1:=sumTo_upd D d' dr hi;have e2:=sumTo_upd D d' WD.stage hi;have e3:=sumTo_upd D d' WD.fuel hi;have fc:=hm.range.2.2.1;have E7:∀ v,phi S v M'=phi S v M:=fun v=>TI S v qK
  unfold Less meas;simp only[E7,ku,Vc,Ssum,Fsum];rcases aj with hl|⟨hl,hy⟩|⟨hl,hy,hf⟩
  ·left;have gG:=zen (Nat.le_of_lt hl);have:=phi_mono S (v':=sumTo c fun a=>dr (upd D i d' a)) (v:=sumTo c fun a=>dr (D a)) oQ M;omega
  ·have gG:dr d'=dr (D i):=by simp only[dr,hl]
   right;have ev:(sumTo c fun a=>dr (upd D i d' a))=sumTo c fun a=>dr (D a):=oQ
   refine⟨by rw[ev];omega,.inl ⟨i,oQ,by show Nx S.E (upd D i d' i).y (D i).y;rw[upd_same];exact hy,fun j hj=>by show(upd D i d' j).y=(D j).y;rw[upd_ne D d' hj]⟩⟩
  ·have gG:dr d'=dr (D i):=by simp only[dr,hl]
   right;have ev:(sumTo c fun a=>dr (upd D i d' a))=sumTo c fun a=>dr (D a):=oQ
   refine⟨by rw[ev];omega,.inr ⟨?_,oQ⟩⟩;funext j
   show(upd D i d' j).y=(D j).y;by_cases mO:j=i
   ·subst mO;rw[upd_same];exact hy
   ·rw[upd_ne D d' mO]
 ·simp[h.size]
 ·exact⟨_,aW 0 oQ a ha,cq⟩
 ·intro k bW hk;obtain⟨x,hx,hq⟩:=h.old k bW hk;refine⟨_,aW k oQ x hx,?_⟩;rw[zuq hq,ZZ t (g':=S.j0+i) oQ _ iI];exact hq
 ·intro i' aN;by_cases aT:i'=i
  ·subst aT;rw[upd_same];exact⟨g',get_map_set_same _ _ _ (by rw[h.size];omega),Aa⟩
  ·obtain⟨x,hx,hs⟩:=h.wk i' aN;rw[upd_ne D d' aT];refine⟨_,aW _ oQ x hx,?_⟩;rw[hs.woken X g g' sB];refine hs.other dm (fun b hb he=>?_) (fun b hb ht=>?_) fun b hb he=>by rw[E3 hb];exact he
   ·rcases hT b hb with h1|h1|h1
    ·omega
    ·rw[h1,h.z8 X.hW]at he;omega
    ·rw[h1,h.z8 X.hA]at he;omega
   ·obtain⟨h2,h3,_,h4⟩:=X.IZ b hb;rcases hT b ht with h1|h1|h1
    ·rw[h.z8 h2]at h1;omega
    ·exact h3 h1
    ·exact h4 h1
 ·rw[ZZ t (g':=S.j0+i) oQ _ iI,h.deaf0];rcases jW with h1|⟨h1,h2⟩
  ·rw[h1]
  ·rw[h1,h2];rfl
 ·intro i' aN;by_cases aT:i'=i
  ·subst aT;rw[upd_same,Deaf_own,h.deafW i' aN];exact E4
  ·rw[upd_ne D d' aT,ZZ t (g':=S.j0+i) oQ _ iI];exact h.deafW i' aN
 ·intro k hk;rw[ZZ t (g':=S.j0+i) oQ _ iI];exact h.pN k hk
 ·intro p hp;exact h.qJ p (by rw[<-ku];exact hp)
 ·intro op hop b hb p hp ad lu I0;rcases zr3.1 hop with hop|hop
  ·exact h.sw op hop b hb p (by rw[<-ku];exact hp) ad lu I0
  ·intro e;obtain⟨ev,he,rfl⟩:=ZJ hop;rcases(dG ev he).1 b hb (by rw[e];rfl)with ⟨⟨a1,h1,h2⟩,_⟩|⟨⟨hk,⟨a1,h1,⟨h2,_⟩|⟨_,h2⟩⟩|⟨b1,h1,_⟩⟩,_⟩|⟨⟨a1,h1,_,_,h2,_⟩,_⟩
   ·rw[e]at h1;cases h1;exact X.wa (h2.symm.trans lu)
   ·rw[e]at h1;cases h1;exact h2 lu
   ·rw[e]at h1;cases h1;rw[I0,h.qJ p (by rw[<-ku];exact hp)]at h2;omega
   ·rw[e]at h1;cases h1
   ·rw[e]at h1;cases h1;exact h2 lu
 ·intro i' aN hs;by_cases aT:i'=i
  ·subst aT;rw[upd_same]at hs;exact hrel hs
  ·rw[upd_ne D d' aT]at hs;obtain⟨r,hr⟩:=h.rel i' aN hs;exact⟨r,RelBy.appOther hr iI oQ⟩
 ·refine zvq h.nor fun op hop hm=>?_
  obtain⟨e,he,rfl⟩:=ZJ hop;have h2:=(dG e he).2.2;obtain⟨loc,wr,sy⟩:=e;cases loc with
  |mark m=>
   simp only[Zi,zy8]at hm;exact h2 (by rw[hm])
  |obj c=>cases wr<;>cases sy<;>simp[Zi]at hm
  |_=>simp[Zi]at hm
 ·rw[B7];exact jV M'.kind jW My
 ·rw[h.l8];rcases jW with h1|⟨h1,h2⟩<;>omega
 ·intro cB i' aN;by_cases aT:i'=i
  ·subst aT;rw[upd_same];exact E5 cB
  ·rw[upd_ne D d' aT];exact h.opn cB i' aN
 ·rw[ku];exact zeo
 ·intro i' aN;rw[ku];by_cases aT:i'=i
  ·subst aT;rw[upd_same];exact zep
  ·rw[upd_ne D d' aT];exact h.oI i' aN
 ·intro hk i' aN;have hk:M.kind=11:=oQ;by_cases aT:i'=i
  ·subst aT;rw[upd_same];exact E6 hk
  ·rw[upd_ne D d' aT];exact h.B6 hk i' aN
 ·intro i';by_cases aT:i'=i
  ·subst aT;rw[upd_same];exact zO
  ·rw[upd_ne D d' aT];exact h.acc i'
end
def mP(S:Sc)(B:Nat)(e:YX):Prop:=
 (∀ a,(Zi e).touch?=some a->a.loc.isMemory=true->(S.Sh a.loc/\a.kind≠.plain)\/(S.Rd a.loc/\a.write=false)\/(a.loc=.obj S.Cn/\a.kind≠.plain))/\(Zi e).low B/\e.loc≠.mark (.release (stA S.Wg))
section
variable {S:Sc}{c:Nat}{D:Nat->WD}{M:MD}{ob oc q:Nat->Nat}{cl:Bool}{st sm:Int}{gs:Array YP}{w:YM}{t:Y6}
theorem MB(h:NoRelease (stA S.Wg) t){g:Nat}{pos:String}(he:∀ e∈es,e.loc≠.mark (.release (stA S.Wg))):NoRelease (stA S.Wg) (t++Zl g fn pos es):=by
 refine zvq h fun op hop hm=>?_
 obtain⟨e,he',rfl⟩:=ZJ hop;have h2:=he e he';obtain⟨loc,wr,sy⟩:=e;cases loc with
 |mark m=>
  simp only[Zi,zy8]at hm;exact h2 (by rw[hm])
 |obj c=>cases wr<;>cases sy<;>simp[Zi]at hm
 |_=>simp[Zi]at hm
theorem TK(X:dR S){n:Nat}(h:∀ op∈t,∀ a,op.act.touch?=some a->∀ p,n<=p->∀ ad:YQ,ad.block=S.An->ad.off=p->a.loc≠.cell ad){g B:Nat}{pos:String}(dG:∀ e∈es,mP S B e):
  ∀ op∈t++Zl g fn pos es,∀ a,op.act.touch?=some a->∀ p,n<=p->∀ ad:YQ,ad.block=S.An->ad.off=p->a.loc≠.cell ad:=by
 intro op hop b hb p hp ad lu I0;rcases zr3.1 hop with hop|hop
 ·exact h op hop b hb p hp ad lu I0
 ·intro e;obtain⟨ev,he,rfl⟩:=ZJ hop;rcases(dG ev he).1 b hb (by rw[e];rfl)with ⟨⟨a1,h1,h2⟩,_⟩|⟨⟨a1,h1,_,_,h2,_⟩,_⟩|⟨h1,_⟩
  ·rw[e]at h1;cases h1;exact X.wa (h2.symm.trans lu)
  ·rw[e]at h1;cases h1;exact h2 lu
  ·rw[e]at h1;cases h1
theorem MC(X:dR S)(h:Inv S c D M ob oc q cl st sm gs w t){w':YM}(bm:w'.1.size=w.1.size){pos:String}(dG:∀ e∈es,mP S w'.1.size e):
  Tr S.Sh S.Shun S.Rd (S.Own ob oc) S.s0 S.j0 (S.j0+c) w'.1.size (t++Zl 0 fn pos es):=by
 have hj:=X.j0;rw[bm]at dG⊢;refine h.tr.app0 (Sc.Mr X.hW X.wa fun b hb=>(h.jU b hb).1) oQ (fun op hop=>?_) (fun op hop=>?_) fun op hop a ha MA=>?_
 ·obtain⟨e,_,rfl⟩:=ZJ hop;rfl
 ·obtain⟨e,he,rfl⟩:=ZJ hop;exact(dG e he).2.1
 ·obtain⟨e,he,rfl⟩:=ZJ hop;rcases(dG e he).1 a ha MA with h1|h1|⟨h1,h2⟩
  ·exact .inl h1
  ·exact .inr (.inl h1)
  ·rw[h1];refine .inr (.inr ⟨?_,?_,fun k=>?_,fun _=>h2⟩)
   ·rintro⟨ad,h3,_⟩;cases h3
   ·rintro⟨ad,h3,_⟩;cases h3
   ·rintro⟨hk,⟨ad,h3,_⟩|⟨b,h3,h4⟩⟩
    ·cases h3
    ·cases h3;rw[h.z8 X.hC]at h4;exact hk h4.symm
theorem ME(X:dR S)(h:Inv S c D M ob oc q cl st sm gs w t){T:Nat->Prop}{w':YM}(dm:Ch T w w')(hT:∀ b,T b->b=S.Wg\/b=S.Cn){i:Nat}{g:YP}(hs:WSit S (S.j0+i) (D i) ob cl g w):WSit S (S.j0+i) (D i) ob cl g w':=by
 have hj:=X.j0;refine hs.other dm (fun b hb he=>?_) (fun b hb ht=>?_) fun b _ he=>he
 ·rcases hT b hb with h1|h1
  ·rw[h1,h.z8 X.hW]at he;omega
  ·rw[h1,h.z8 X.hC]at he;omega
 ·obtain⟨h2,h3,h4,_⟩:=X.IZ b hb;rcases hT b ht with h1|h1
  ·exact h3 h1
  ·exact h4 h1
theorem Inv.step0(X:dR S)(h:Inv S c D M ob oc q cl st sm gs w t){a:YP}{w':YM}(sl:Option (Nat×Nat))(ha:gs[0]?=some a)(bO:YV S.E.P true a w=.go a' w' es)
  {M':MD} {T:Nat->Prop}  (dm:Ch T w w') (hT:∀ b,T b->b=S.Wg) (bm:w'.1.size=w.1.size) (uw:KW S w') (cq:lz S M' c a')
  (dG:∀ e∈es,mP S w'.1.size e) (E4:deafBehind (pM M.kind) es=pM M'.kind) (wG:WgAt S.ty S.Wg w' kt mN) (jV:Mode c D M'.kind M'.r kt mN) (eH:cn S M'=cn S M) (kP:cl=true↔M'.kind<=9) (pB:M'.kind≠11)
  (aj:phi S (Vc c D) M'<phi S (Vc c D) M\/(phi S (Vc c D) M'=phi S (Vc c D) M/\M'.fuel<M.fuel)):
  ∃ m' au ν,runT S.E.P (crowd gs w sl) 0=(.next m',au)/\Less (Nx S.E) S.n ν (meas S c D M q)/\gL S ν m' (t++au):=by
 have hj:=X.j0;have Mx:¬T S.Cn:=fun ht=>X.wc (hT _ ht).symm
 have hTA:¬T S.An:=fun ht=>X.wa (hT _ ht).symm
 obtain⟨s,r,fc⟩:=h.ly;have sB:=dm.same fc Mx;have cO:=zu0 (P:=S.E.P) (sl:=sl) (i:=0) ha (show YV S.E.P (0==0) a w=_ from bO);have iI:∀ op∈Zl 0 a.frame.fn a.frame.place es,op.g=0:=fun op hop=>by
  obtain⟨e,_,rfl⟩:=ZJ hop;rfl
 have aW:∀ k,k≠0->∀ x,gs[k]?=some x->((gs.map (ZL S.E.P a a' w')).setIfInBounds 0 a')[k]?=some (ZL S.E.P a a' w' x):=fun k hk x hx=>by
  rw[get_map_set _ _ _ _ (fun e=>hk e.symm),hx];rfl
 refine⟨_,_,meas S c D M' q,cO,?_,c,D,M',ob,oc,q,cl,kt,mN,_,w',sl,rfl,⟨?_,?_,?_,?_,?_,?_,?_,uw,MC X h bm dG,?_,?_,?_,?_,?_,wG,jV,⟨s,r,sB⟩,kP,h.opn,?_,?_,fun e=>absurd e pB,h.acc⟩,rfl⟩
 ·unfold Less meas;simp only[eH];rcases aj with hl|⟨hl,hf⟩
  ·left;omega
  ·right;exact⟨oQ,.inr ⟨by first |rfl|trivial,oQ⟩⟩
 ·simp[h.size]
 ·exact⟨a',get_map_set_same _ _ _ (by rw[h.size];omega),cq⟩
 ·intro k bW hk;obtain⟨x,hx,hq⟩:=h.old k bW hk;refine⟨_,aW k oQ x hx,?_⟩;rw[zuq hq,ZZ t (g':=0) oQ _ iI];exact hq
 ·intro i' aN;obtain⟨x,hx,hs⟩:=h.wk i' aN;refine⟨_,aW _ oQ x hx,?_⟩;rw[hs.woken X a a' sB];exact ME X h dm (fun b hb=>.inl (hT b hb)) hs
 ·rw[Deaf_own,h.deaf0];exact E4
 ·intro i' aN;rw[ZZ t (g':=0) oQ _ iI];exact h.deafW i' aN
 ·intro k hk;rw[ZZ t (g':=0) oQ _ iI];exact h.pN k hk
 ·rw[bm];exact h.jU
 ·rw[eH];exact h.qJ
 ·rw[eH];exact TK X h.sw dG
 ·intro i' aN hs;obtain⟨r,hr⟩:=h.rel i' aN hs;exact⟨r,RelBy.appOther hr iI oQ⟩
 ·exact MB h.nor fun e he=>(dG e he).2.2
 ·rw[eH];obtain⟨cs,h1,h2⟩:=h.pay;exact⟨cs,dm.same h1 hTA,h2⟩
 ·rw[eH];exact h.oI
theorem WSit.closed{k:Nat}{d:WD}{g:YP}(h:WSit S k d ob cl g w)(hn:¬(d.stage=17/\d.fuel=0))(B8:Bool):WSit S k d ob B8 g w:=by
 rcases h with h|h|h|h|h|h|⟨h1,h2,h|h|⟨g0,h3,_⟩⟩|h
 ·exact .inl h
 ·exact .inr (.inl h)
 ·exact .inr (.inr (.inl h))
 ·exact eO (.inl h)
 ·exact wF (.inl h)
 ·exact z7 (.inl h)
 ·exact ux (.inl ⟨h1,h2,.inl h⟩)
 ·exact ux (.inl ⟨h1,h2,.inr (.inl h)⟩)
 ·exact absurd ⟨h1,h3⟩ hn
 ·exact ux (.inr h)
theorem WSit.MF{k:Nat}{d:WD}{g:YP}(h:WSit S k d ob cl g w)(hs:d.stage=17)(hf:d.fuel=0):d.deaf=0/\cl=false/\∃ g0,S.AR g0/\g=parked g0 #[rcase S.Cn S.z] (.recv true):=by
 rcases h with h|h|h|h|h|h|⟨h1,h2,⟨f,h3,_⟩|⟨g0,o,h3,_⟩|⟨g0,h3,h4,h5⟩⟩|h|h|h|h|h|h|h
 all_goals first |(have:=h.1;omega)|omega|exact⟨h2,h4,g0,h5⟩
def oK(d:WD):WD:=if d.stage=17/\d.fuel=0 then {d with fuel:=1}else d
theorem B9(d:WD):(oK d).stage=d.stage:=by unfold oK;split<;>rfl
theorem zer(d:WD):(oK d).deaf=d.deaf:=by unfold oK;split<;>rfl
theorem TL(d:WD):(oK d).place=d.place:=by unfold oK;split<;>rfl
theorem zes(d:WD):(oK d).y=d.y:=by unfold oK;split<;>rfl
theorem MG{w:YM}{c:Nat}{cl:Bool}(h:b≠c):(w.setChan c cap Eb cl s r tm).1[b]?=w.1[b]?:=by
 simp only[zuj];exact X3 fun e=>h e.symm
theorem MH{w:YM}{c:Nat}{cl:Bool}(h:c<w.1.size):(w.setChan c cap Eb cl s r tm).1[c]?=some (.chan cap Eb cl s r tm):=by
 simp[zuj,h]
theorem Ch.setChan{w:YM}{c:Nat}{cl:Bool}:Ch (· = c) w (w.setChan c cap Eb cl s r tm):=
 ⟨by simp[zuj],fun b _ hn=>MG hn,rfl,rfl,rfl⟩
theorem KW.setChan(X:dR S)(h:KW S w)(d s r:Nat)(B8:Bool):KW S ((w.at d).setChan S.Cn 0 #[] B8 s r false):=by
 have hs:=h.size;have hC:=X.hC;obtain⟨st,sm,h2⟩:=h.eN;obtain⟨cs,h3,h4⟩:=h.pay;have e:∀ b,b≠S.Cn->((w.at d).setChan S.Cn 0 #[] B8 s r false).1[b]?=w.1[b]?:=fun b hb=>MG hb
 exact⟨fun b hb n1 n2 n3=>(e b n2).trans (h.low b hb n1 n2 n3),⟨st,sm,(e _ X.wc).trans h2⟩,⟨cs,(e _ fun x=>X.ca x.symm).trans h3,h4⟩,⟨B8,s,r,MH (by show S.Cn<w.1.size;omega)⟩,h.os,h.out,h.tape,by
  show _<=((w.at d).setChan S.Cn 0 #[] B8 s r false).1.size;simp only[zuj,Array.size_setIfInBounds];exact hs⟩
theorem Inv.close(X:dR S)(h:Inv S c D M ob oc q cl st sm gs w t){a:YP}(sl:Option (Nat×Nat))(ha:gs[0]?=some a)(hk:M.kind=10)(hmw:ztY S.E.P a=true)(bh:a'.status=.running)
  (fc:w.1[S.Cn]?=some (.chan 0 #[] false s r false)) (bO:YV S.E.P true a w=.go a' (w.setChan S.Cn 0 #[] true s r false) #[⟨.obj S.Cn,false,true⟩,⟨.obj S.Cn,true,true⟩]) {n:Nat} (hn:cL S (AtKd S) n a'):
  ∃ m' au ν,runT S.E.P (crowd gs w sl) 0=(.next m',au)/\Less (Nx S.E) S.n ν (meas S c D M q)/\gL S ν m' (t++au):=by
 have hj:=X.j0;have bm:(w.setChan S.Cn 0 #[] true s r false).1.size=w.1.size:=by simp[zuj]
 obtain⟨a1,xK,hm⟩:=h.main;rw[ha]at xK;cases xK;have MI:=hm.range.2.2.2.1 oQ;have cB:cl=false:=by
  cases cl with
  |false=>rfl
  |true=>have:=h.l8.1 rfl;omega
 have cO:=zu0 (P:=S.E.P) (sl:=sl) (i:=0) ha (show YV S.E.P (0==0) a w=_ from bO);generalize fH:w.setChan S.Cn 0 #[] true s r false=w' at *;have dm:Ch (· = S.Cn) w w':=by rw[<-fH];exact Ch.setChan
 have sB:w'.1[S.Cn]?=some (.chan 0 #[] true s r false):=by rw[<-fH];exact MH (pK fc)
 have uw:KW S w':=by rw[<-fH];exact KW.setChan (d:=w.drawn) X h.kw ..
 have dG:∀ e∈(#[⟨.obj S.Cn,false,true⟩,⟨.obj S.Cn,true,true⟩]:Array YX),mP S w'.1.size e:=fun e he=>by
  simp only[Yn,Yl,Yo,YL]at he;rcases he with rfl|rfl
  ·refine⟨fun a ha _=>?_,by show S.Cn<w'.1.size;have:=pK fc;omega,sQ⟩;simp only[Zi,Zv,YA]at ha;subst ha;exact .inr (.inr ⟨rfl,sQ⟩)
  ·exact⟨fun a ha=>by simp[Zi,Zv]at ha,by show S.Cn<w'.1.size;have:=pK fc;omega,sQ⟩
 have iI:∀ op∈Zl 0 a.frame.fn a.frame.place #[⟨.obj S.Cn,false,true⟩,⟨.obj S.Cn,true,true⟩],op.g=0:=fun op hop=>by
  obtain⟨e,_,rfl⟩:=ZJ hop;rfl
 have aW:∀ k,k≠0->∀ x,gs[k]?=some x->((gs.map (ZL S.E.P a a' w')).setIfInBounds 0 a')[k]?=some (ZL S.E.P a a' w' x):=fun k hk x hx=>by
  rw[get_map_set _ _ _ _ (fun e=>hk e.symm),hx];rfl
 have eH:cn S ⟨9,0,n⟩=cn S M:=by simp[cn,hk]
 have ma:Vc c (fun i=>oK (D i))=Vc c D:=by
  refine sumTo_congr fun i _=>?_
  simp only[dr,B9]
 refine⟨_,_,meas S c (fun i=>oK (D i)) ⟨9,0,n⟩ q,cO,?_,c,fun i=>oK (D i),⟨9,0,n⟩,ob,oc,q,true,st,sm,_,w',sl,rfl,⟨?_,?_,?_,?_,?_,?_,?_,uw,MC X h bm dG,?_,?_,?_,?_,?_,?_,?_,⟨s,r,sB⟩,⟨fun _=>sQ,fun _=>rfl⟩,fun e=>(by cases e),?_,?_,fun e=>(by cases e),fun i=>(by rw[zes];exact h.acc i)⟩,rfl⟩
 ·unfold Less meas;left;simp only[eH,ma];have:Ssum c (fun i=>oK (D i))=Ssum c D:=sumTo_congr fun i _=>by rw[B9]
  rw[this];simp[phi,hk]
 ·simp[h.size]
 ·exact⟨a',get_map_set_same _ _ _ (by rw[h.size];omega),I1 (.inl ⟨rfl,MI,hn⟩)⟩
 ·intro k bW hk;obtain⟨x,hx,hq⟩:=h.old k bW hk;refine⟨_,aW k oQ x hx,?_⟩;rw[zuq hq,ZZ t (g':=0) oQ _ iI];exact hq
 ·intro i' aN;obtain⟨x,hx,hs⟩:=h.wk i' aN;refine⟨_,aW _ oQ x hx,?_⟩;have tY:=ME X h dm (fun b hb=>.inr hb) hs;by_cases hp:(D i').stage=17/\(D i').fuel=0
  ·obtain⟨h1,_,g0,h3,rfl⟩:=hs.MF hp.1 hp.2;have e:ZL S.E.P a a' w' (parked g0 #[rcase S.Cn S.z] (.recv true)) ={g0 with offers:=some (#[rcase S.Cn S.z],.recv true)}:=by
    have TM:=(X.ar g0 h3).1;unfold ZL;rw[if_pos (by simp[hmw,bh])];obtain⟨fr,cs,st,dy,of⟩:=g0;simp only at TM;subst TM;simp[zAX,parked,rcase,sB]
   rw[e];have hu:oK (D i') ={D i' with fuel:=1}:=YH hp;rw[hu];exact ux (.inl ⟨hp.1,h1,.inr (.inl ⟨g0,_,rfl,h3,rfl⟩)⟩)
  ·have hu:oK (D i')=D i':=YG hp;have e:ZL S.E.P a a' w' x=x:=by
    unfold ZL;split
    ·rcases hs.status X with h1|⟨h1,_⟩|⟨h1,h2,_⟩
     ·exact zwm _ (.inl h1)
     ·exact zwm _ (.inr h1)
     ·exact absurd ⟨h1,h2⟩ hp
    ·rfl
   rw[hu,e];exact tY.closed hp true
 ·rw[Deaf_own,h.deaf0,hk];rfl
 ·intro i' aN;rw[ZZ t (g':=0) oQ _ iI,zer];exact h.deafW i' aN
 ·intro k hk;rw[ZZ t (g':=0) oQ _ iI];exact h.pN k hk
 ·rw[bm];exact h.jU
 ·rw[eH];exact h.qJ
 ·rw[eH];exact TK X h.sw dG
 ·intro i' aN hs;rw[B9]at hs;obtain⟨r,hr⟩:=h.rel i' aN hs;exact⟨r,RelBy.appOther hr iI oQ⟩
 ·exact MB h.nor fun e he=>(dG e he).2.2
 ·exact dm.same h.eN X.wc
 ·rcases h.mode with ⟨_,h2,h3,h4,_⟩|⟨h1,_⟩|⟨h1,_⟩|⟨h1,_⟩|⟨h1,_⟩
  ·refine .inl ⟨sQ,fun i hi=>by rw[B9];exact h2 i hi,?_,h4,fun e=>by cases e⟩;rw[ma,h3,hk];rfl
  all_goals omega
 ·rw[eH];obtain⟨cs,h1,h2,h3⟩:=h.pay;refine⟨cs,dm.same h1 fun e=>X.ca e.symm,h2,fun p hp=>?_⟩;rcases h3 p hp with h4|⟨i,h4,h5,h6⟩
  ·exact .inl h4
  ·exact .inr ⟨i,h4,by rw[TL];exact h5,by rw[B9];exact h6⟩
 ·rw[eH];intro i hi hs;rw[B9]at hs;rw[TL];exact h.oI i hi hs
end
open Go.ConcN (RelBy sumTo upd upd_same upd_ne sumTo_upd sumTo_congr sumTo_upd_out)
section
variable {S:Sc}{c:Nat}{D:Nat->WD}{M:MD}{ob oc q:Nat->Nat}{cl:Bool}{st sm:Int}{gs:Array YP}{w:YM}{t:Y6}
theorem TN{a:YP}(h:kN S l a)(hl:l<=S.m):∃ M',lz S M' S.n a/\cn S M'=S.m-l/\(∀ v,phi S v M'=8*S.n+8+2*l)/\(M'.kind=10\/M'.kind=12):=by
 cases l with
 |zero=>
  obtain⟨n,hn⟩:=h;exact⟨⟨10,0,n⟩,ux (.inl ⟨rfl,rfl,hn⟩),by simp[cn],fun v=>by simp[phi],.inl rfl⟩
 |succ l=>
  obtain⟨n,hn⟩:=h;exact⟨⟨12,l,n+1⟩,wF (.inl ⟨rfl,rfl,tQ,n,rfl,hn⟩),by simp[cn],fun v=>by simp[phi],.inr rfl⟩
theorem TP{a:YP}(h:nI S r a)(hr:r<=S.n):∃ M',lz S M' (S.n-r) a/\cn S M'=0/\(∀ v,phi S v M'+17<8*S.n+12+2*S.m+30*r+21)/\(M'.kind=10\/M'.kind=12\/M'.kind=16):=by
 cases r with
 |zero=>
  obtain⟨M',h1,h2,h3,h4⟩:=TN h lQ;exact⟨M',h1,oQ,fun v=>by rw[h3];omega,oQ⟩
 |succ r=>
  obtain⟨n,hn⟩:=h;exact⟨⟨16,r,n⟩,.inl ⟨rfl,tQ,rfl,hn⟩,by simp[cn],fun v=>by simp[phi];omega,.inr (.inr rfl)⟩
theorem Inv.spawn(X:dR S)(h:Inv S c D M ob oc q cl st sm gs w t){a x:YP}(sl:Option (Nat×Nat))(ha:gs[0]?=some a)(hk:M.kind=13)(hm:lz S M c a)(bO:YV S.E.P true a w=.spawn a' x w #[]){n:Nat}(hx:pL S S.AR n x)(mQ:nI S M.r a'):
  ∃ m' au ν,runT S.E.P (crowd gs w sl) 0=(.next m',au)/\Less (Nx S.E) S.n ν (meas S c D M q)/\gL S ν m' (t++au):=by
 have hj:=X.j0;obtain⟨_,_,gG,_,_,gX⟩:=hm.range;obtain⟨hrn,ku⟩:=gX oQ;obtain⟨M',cq,Ca,MJ,jW⟩:=TP mQ (Nat.le_of_lt hrn);rw[show S.n-M.r=c+1 by omega]at cq;have cO:=runT_crowd_spawn (P:=S.E.P) (sl:=sl) (i:=0) ha (show YV S.E.P (0==0) a w=_ from bO);have aj:0<gs.size:=by rw[h.size];omega
 have eH:cn S M=0:=by simp[cn,hk]
 have zet:((Zl 0 a.frame.fn a.frame.place #[]).push {g:=0,fn:=a.frame.fn,pos:=a.frame.place,act:=.go gs.size}).push {g:=gs.size,fn:=x.frame.fn,pos:=a.frame.place,act:=.start}=#[{g:=0,fn:=a.frame.fn,pos:=a.frame.place,act:=.go gs.size},{g:=gs.size,fn:=x.frame.fn,pos:=a.frame.place,act:=.start}]:=rfl;rw[zet]at cO;have oL:∀ k,Deaf (t++#[({g:=0,fn:=a.frame.fn,pos:=a.frame.place,act:=.go gs.size}:MemOp),{g:=gs.size,fn:=x.frame.fn,pos:=a.frame.place,act:=.start}]) k=Deaf t k:=fun k=>Go.ConcN.Deaf_still t k _ fun op hop=>by
  simp only[Yn,Yl,Yo,YL]at hop;rcases hop with rfl|rfl<;>simp
 have wH:∀ k,k≠0->k<gs.size->((gs.setIfInBounds 0 a').push x)[k]?=gs[k]?:=fun k hk hl=>by
  rw[ztt (by simpa using hl)];rw[Array.getElem_setIfInBounds (by simpa using hl),YG oQ,XW hl]
 have Cb:∀ i,i<c+1->i=c\/i<c:=fun i hi=>oQ
 refine⟨_,_,meas S (c+1) (upd D c ⟨17,n+1,0,0,([],#[])⟩) M' q,cO,?_,c+1,upd D c ⟨17,n+1,0,0,([],#[])⟩,M',ob,oc,q,cl,st,sm,_,w,sl,rfl,⟨?_,?_,?_,?_,?_,?_,?_,h.kw,?_,h.jU,?_,?_,?_,?_,h.eN,?_,h.ly,?_,?_,?_,?_,?_,?_⟩,rfl⟩
 ·unfold Less meas;left;have e2:Ssum (c+1) (upd D c ⟨17,n+1,0,0,([],#[])⟩)=Ssum c D+17:=by
   unfold Ssum;rw[sumTo,upd_same,sumTo_upd_out D _ WD.stage (Yp c)]
  simp only[eH,Ca,e2];have:=MJ (Vc (c+1) (upd D c ⟨17,n+1,0,0,([],#[])⟩));have e3:phi S (Vc c D) M=8*S.n+12+2*S.m+30*M.r+21:=by simp[phi,hk]
  omega
 ·simp[h.size];omega
 ·refine⟨a',?_,cq⟩;rw[ztt (by simpa using aj)];simp
 ·intro k bW vT;obtain⟨y,hy,hq⟩:=h.old k bW vT;refine⟨y,by rw[wH k oQ (by rw[h.size];omega)];exact hy,?_⟩;rw[oL];exact hq
 ·intro i hi;rcases Cb i hi with rfl|hi
  ·rw[upd_same];refine⟨x,?_,ux (.inl ⟨rfl,rfl,.inl ⟨n,rfl,hx⟩⟩)⟩;rw[<-h.size];have:(gs.setIfInBounds 0 a').size=gs.size:=sQ;rw[<-this,Array.getElem?_push_size]
  ·obtain⟨y,hy,hs⟩:=h.wk i hi;rw[upd_ne D _ oQ];exact⟨y,by rw[wH _ oQ (by rw[h.size];omega)];exact hy,hs⟩
 ·rw[oL,h.deaf0,hk];rcases jW with e|e|e<;>rw[e]<;>rfl
 ·intro i hi;rw[oL];rcases Cb i hi with rfl|hi
  ·rw[upd_same];exact h.pN _ lQ
  ·rw[upd_ne D _ oQ];exact h.deafW i hi
 ·intro k hk;rw[oL];exact h.pN k oQ
 ·have:=h.tr.fork (Sc.Mr X.hW X.wa fun b hb=>(h.jU b hb).1) (x:={g:=0,fn:=a.frame.fn,pos:=a.frame.place,act:=.go gs.size}) (y:={g:=gs.size,fn:=x.frame.fn,pos:=a.frame.place,act:=.start}) oQ ⟨rfl,by rw[h.size]⟩ ⟨h.size,rfl⟩ (by rw[h.deaf0,hk];rfl) (h.pN _ lQ);exact this
 ·rw[Ca];intro p _;exact h.qJ p (by rw[eH];omega)
 ·rw[Ca];intro op hop b hb p _ ad h1 h2;rcases zr3.1 hop with hop|hop
  ·exact h.sw op hop b hb p (by rw[eH];omega) ad h1 h2
  ·simp only[Yn,Yl,Yo,YL]at hop;rcases hop with rfl|rfl<;>simp[Zv]at hb
 ·intro i hi hs;rcases Cb i hi with rfl|hi
  ·rw[upd_same]at hs;simp at hs
  ·rw[upd_ne D _ oQ]at hs;obtain⟨r,hr⟩:=h.rel i hi hs;refine⟨r,zAS hr fun op hop=>?_⟩;simp only[Yn,Yl,Yo,YL]at hop;rcases hop with rfl|rfl
   ·show 0≠_;omega
   ·show gs.size≠_;rw[h.size];omega
 ·refine zvq h.nor fun op hop hm=>?_
  simp only[Yn,Yl,Yo,YL]at hop;rcases hop with rfl|rfl<;>cases hm
 ·have e1:Vc (c+1) (upd D c ⟨17,n+1,0,0,([],#[])⟩)=Vc c D+1:=by
   unfold Vc;rw[sumTo,upd_same,sumTo_upd_out D _ dr (Yp c)];rfl
  rcases h.mode with ⟨_,h2,h3,h4,_⟩|⟨h1,_⟩|⟨h1,_⟩|⟨h1,_⟩|⟨h1,_⟩
  ·refine .inl ⟨oQ,fun i hi=>?_,?_,h4,fun e=>oQ⟩
   ·rcases Cb i hi with rfl|hi
    ·rw[upd_same];exact .inl sQ
    ·rw[upd_ne D _ oQ];exact h2 i hi
   ·have hp:pend M'.kind=0:=by rcases jW with e|e|e<;>rw[e]<;>rfl
    rw[e1,hp,h3,hk];rfl
  all_goals omega
 ·rw[h.l8,hk];rcases jW with e|e|e<;>rw[e]<;>simp
 ·intro cB i hi;rcases Cb i hi with rfl|hi
  ·rw[upd_same];simp
  ·rw[upd_ne D _ oQ];exact h.opn cB i hi
 ·rw[Ca];obtain⟨cs,h1,h2,_⟩:=h.pay;exact⟨cs,h1,h2,fun p hp=>oQ⟩
 ·intro i hi hs;rcases Cb i hi with rfl|hi
  ·rw[upd_same]at hs;simp at hs
  ·rw[upd_ne D _ oQ]at hs⊢;have:=(h.oI i hi hs).1;omega
 ·intro e;omega
 ·intro i;by_cases hi:i=c
  ·subst hi;rw[upd_same];exact ztr _ fun y hy=>absurd rfl hy.1
  ·rw[upd_ne D _ hi];exact h.acc i
theorem MK{P:Y2}{n d:Nat}{g:YP}(h:QuitsD P n d g)(r:Nat)(s:Bool):zwt g r s=[]:=zvA (by rcases h.status with e|e<;>rw[e]<;>simp) r s
theorem TQ(X:dR S){k:Nat}{d:WD}{g:YP}(h:WSit S k d ob cl g w)(r:Nat):zwt g r true=[]:=by
 rcases h.status X with h1|⟨h1,_⟩|⟨_,_,_,g0,_,rfl⟩
 ·exact zvA (by rw[h1];simp) r true
 ·exact zvA (by rw[h1];simp) r true
 ·exact offersAt_parked_recv' ..
theorem zeu(X:dR S){k:Nat}{d:WD}{g:YP}(h:WSit S k d ob cl g w)(hn:¬(d.stage=17/\d.fuel=0))(r:Nat):zwt g r false=[]:=by
 rcases h.status X with h1|⟨h1,_⟩|⟨h1,h2,_⟩
 ·exact zvA (by rw[h1];simp) r false
 ·exact zvA (by rw[h1];simp) r false
 ·exact absurd ⟨h1,h2⟩ hn
theorem zev{a:YP}(X:dR S)(h:lz S M c a)(hn:M.kind≠11)(r:Nat)(s:Bool):zwt a r s=[]:=by
 rcases h.status X with h1|⟨h1,_⟩|⟨_,g,h1,rfl⟩
 ·exact zvA (by rw[h1];simp) r s
 ·exact absurd h1 hn
 ·have:g.offers=none:=h1.2.1;simp[zwt,this]
theorem Inv.who(h:Inv S c D M ob oc q cl st sm gs w t){k:Nat}{x:YP}(hx:gs[k]?=some x):(k=0/\lz S M c x)\/(0<k/\k<S.j0/\QuitsD S.E.P (q k) (Deaf t k) x)\/∃ i,i<c/\k=S.j0+i/\WSit S (S.j0+i) (D i) ob cl x w:=by
 have aj:=(XY.1 hx).1;rw[h.size]at aj;rcases zst k with rfl|nJ
 ·obtain⟨a,ha,hm⟩:=h.main;rw[hx]at ha;cases ha;exact .inl ⟨rfl,hm⟩
 ·rcases Ys k S.j0 with hl|hl
  ·obtain⟨g,hg,hq⟩:=h.old k nJ hl;rw[hx]at hg;cases hg;exact .inr (.inl ⟨nJ,hl,hq⟩)
  ·obtain⟨g,hg,hs⟩:=h.wk (k-S.j0) oQ;have e:S.j0+(k-S.j0)=k:=oQ;rw[e,hx]at hg;cases hg;exact .inr (.inr ⟨k-S.j0,oQ,e.symm,hs⟩)
theorem TR{g:YP}{cs cs':Array CommCase}{sh TU:CommShape}(h:parked g cs sh=parked g' cs' TU):g.frame=g'.frame/\g.callers=g'.callers/\g.dying=g'.dying/\cs=cs'/\sh=TU:=by
 simp only[parked,Goroutine.mk.injEq,YA,zsA]at h;exact⟨h.1,h.2.1,h.2.2.2.1,h.2.2.2.2.1,h.2.2.2.2.2⟩
end
end Go.Proofs.YtaablbmgagiajabGreatDoor.Ren
