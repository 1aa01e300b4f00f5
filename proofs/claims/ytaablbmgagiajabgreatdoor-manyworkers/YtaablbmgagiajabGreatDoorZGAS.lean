import Derived.Test.YtaablbmgagiajabGreatDoorZGAR
import Derived.Test.YtaablbmgagiajabGreatDoorZGAK
open Go renaming World->YM
open Go.World renaming cell?->Z9
namespace Go.Proofs.YtaablbmgagiajabGreatDoor
open Go.Proofs.Tryz
open Go.RowKit Go.Deep Go.Shelf Go.Extern.Stop Go.Stop Go.Extern
variable{B:Nat}
attribute [local go_sem] run_store_func run_store_nilFunc
theorem OE{P:Program}{fn:Func}{t t':Array Value}{R:Ending->YM->Prop}(h:results fn t=results fn t'):∀(ds:List Deferred)(u:FrameMode)(w:YM),Leaves P fn t R ds u w->Leaves P fn t' R ds u w
 |[],.returning,_,⟨v,h1,h2⟩=>⟨v,by rw[<-h];exact h1,h2⟩
 |[],.panicking _,_,k=>k
 |[],.run,_,k=>k.elim
 |_::ds,_,_,⟨hu,fv,cap,f,args,h1,h2,h3⟩=>⟨hu,fv,cap,f,args,h1,h2,h3.mono (by
   intro e u' w' hh
   cases e with
   |returned v=>exact OE h ds _ _ hh
   |panicked c=>exact OE h ds _ _ hh
   |outgrown=>exact hh)⟩
theorem zkd(t:Array Value)(k:Nat)(v:Value)(hk:k≠4):results Tryz.f61 (t.setIfInBounds k v)=results Tryz.f61 t:=by
 have e:(t.setIfInBounds k v)[4]?=t[4]?:=X3 hk;simp[results,results61,e]
theorem yz{R:Ending->YM->Prop}{k:Nat}{v:Value}(hk:k≠4)(c:List PanicEntry)(a:Act)(w:YM)(h:bodyPostD prog Tryz.f61 R (.panic c) (a.put (some k) v) w):bodyPostD prog Tryz.f61 R (.panic c) a w:=
 OE (zkd a.tmps k v hk) _ _ _ h
theorem aL.others{w w':YM}{N win:Nat}{D:SC}{L:RC}{S:SY}(h:aL w N D L win S){T:Nat->Prop}(hm:Mod w w' T)(hT:∀ k,Wr D k\/rC D k->¬T k)
  (hby:∀ i,i<S.aq.length->jL w' (D.us[i]?.getD undef) (gU S.aq i).b):aL w' N D L win S:=by
 have bh:∀ k,rC D k->¬T k:=fun k hk=>hT k (.inr hk)
 have pC:∀ k,Wr D k->¬T k:=fun k hk=>hT k (.inl hk)
 refine⟨(hm.block _ h.lt (pC _ (.inl rfl))).trans h.blk,fun k hk=>(World.cell?_of_block (w:=w) (hm.block _ h.xw (bh _ (.inl rfl)))).trans (h.row k hk),Yr h.xw hm.size,h.zb,fun k hk=>(h.rp k hk).zaJ hm (pC _ (.inr (.inr (.inl ⟨k,hk,rfl⟩)))) fun j hj=>bh j (.inr ⟨k,hk,hj⟩),h.ln,h.ne,h.vt.move hm fun k hk=>pC k (.inr (.inr (.inr hk))),⟨⟨h.aq.row.1,?_⟩,h.aq.len,hby⟩,h.sep,h.base,h.vF⟩;rcases h.aq.row.2 with h2|⟨g,cap,bA,hg,h3,h4,h5⟩
 ·exact .inl h2
 ·exact .inr ⟨g,cap,bA,hg,h3,(hm.block g (bp h4) (pC g (.inr (.inl (by rw[hg];rfl))))).trans h4,h5⟩
theorem P7{w w':YM}{n:String}{g:Nat}(hg:prog.globalNamed n=some g){cs:Array Value}(h:w.var? prog n=some cs)(hB:Below B w w')(aj:g<B):w'.var? prog n=some cs:=by
 unfold World.var? at h⊢;rw[hg]at h⊢;simp only[zsz]at h⊢;rw[hB.block g aj];exact h
theorem kg.lo{w w':YM}(h:kg w)(hB:Below B w w')(h7:7<=B):kg w':=by
 obtain⟨t,p,h1⟩:=h.AB;obtain⟨t2,p2,h2⟩:=h.AD;exact⟨P7 CG h.pow hB (Yr dQ h7),⟨t,p,P7 CL h1 hB (Yr dQ h7)⟩,⟨t2,p2,P7 CM h2 hB (Yr dQ h7)⟩⟩
structure kp where
 d:Nat
 m:Nat
 g:Nat
 o:Nat
 cp:Nat
structure jM(w:YM)(N:Nat)(c:kp)(D:SC)(L:RC)(win:Nat)(S:SY):Prop where
 blk:w.1[c.d]?=some (.cells #[iQ (L.s:Int),.slice (some (aQ c.g c.o)) L.n c.cp,iQ (L.d:Int),pQ D.p,.map (some c.m)] 167 (0,0))
 row:Row w c.g c.o L.zs
 room:L.n<=c.cp
 Dv:c.d<N
 mlt:c.m<N
 eV:c.g<N
 low:7<=N
 le:N<=w.1.size
 map:kX w c.m (pZ c.d)
 num:kg w
 sys:aL w N D L win S
section
variable {w w':YM}{N win:Nat}{c:kp}{D:SC}{L:RC}{S:SY}
theorem jM.c3(h:jM w N c D L win S):w.cell? (aQ c.d 3)=some (pQ D.p):=by simp[Z9,h.blk]
theorem jM.c4(h:jM w N c D L win S):w.cell? (aQ c.d 4)=some (.map (some c.m)):=by simp[Z9,h.blk]
theorem jM.c0(h:jM w N c D L win S):w.cell? (aQ c.d 0)=some (iQ (L.s:Int))/\w.cell? (aQ c.d 1)=some (.slice (some (aQ c.g c.o)) L.n c.cp)/\w.cell? (aQ c.d 2)=some (iQ (L.d:Int)):=by
 refine⟨?_,?_,?_⟩<;>simp[Z9,h.blk]
theorem jM.lo(h:jM w N c D L win S)(hB:Below N w w'){D':SC}{S':SY}(hp:D'.p=D.p)(hs:aL w' N D' L win S'):jM w' N c D' L win S':=
 ⟨by rw[hB.block _ h.Dv,hp];exact h.blk,h.row.below h.eV hB,h.room,h.Dv,h.mlt,h.eV,h.low,Yq h.le hB.size,h.map.same (hB.block _ h.mlt),h.num.lo hB h.low,hs⟩
theorem jM.below(h:jM w N c D L win S)(hB:Below w.1.size w w'):jM w' N c D L win S:=h.lo (hB.mono h.le) rfl (h.sys.below hB)
theorem jM.KG(h:jM w N c D L win S):uO w c.d c.m:=⟨Yr h.Dv h.le,h.c4,h.map,h.num⟩
end
def L0:RC:=⟨4,2,3,[3,12,6],0,0,0,0,0,0⟩
theorem P8:eA L0:=⟨dQ,rfl⟩
end Go.Proofs.YtaablbmgagiajabGreatDoor
