/- Proved: for every input triumvirkeep.ManyWorkers returns true and leaves its arguments as they were, the package variables that its card ties (math/bits' tables, internal/strconv.uint64pow10, errors.errorType, strconv.ErrRange, strconv.ErrSyntax) being as the program's text lays them. No other condition beyond the form's own. -/
import Derived.Test.YtaablbmgagiajabGreatDoorZGAW
open Go.Proofs.Tryz renaming prog->π
open Go.RowKit.Below renaming trod->zxV
open Go.DataW renaming trod_lt->zyj
open Go renaming Value->YN,laidMetH->ztB,trodAll_cons_mk->zAa
open Go.Value renaming okWide->zxq
open Go.World renaming holding->zui
open Go.ChangeShapes renaming trodAll_cons->zz9
namespace Go.Proofs.YtaablbmgagiajabGreatDoor
open Go.Proofs.Tryz
open Go.ChangeShapes Go.WideShapes Go.ChangeAt Go.RowKit Go.Joins
set_option maxRecDepth 100000 in
theorem zq5{H:Type}{enc:TypeId×YN->H}{W:World}{b0:Nat}{r:Reach}{v:YN}{d:DataW H}{p:List MemPlace}(hv:zxq π W r b0 70 v)
  (h:DataW.Trod enc π W 0 (fun _=>true) true 70 v d p):∃(ta:Option Addr)(m tc:Nat)(ts:Nat->List UInt8),v=.slice ta m tc/\∀ k,k<m->∃ a,ta=some a/\W.cell? (a.add k)=some (.string (txt (ts k)))/\a.block<W.1.size:=by
 obtain⟨a0,len,cap,rfl⟩:=okWide_slice underlying70 hv;obtain⟨fuel,hf⟩:=h;rcases open_strings underlying70 underlying9 kQ hf with ⟨eX,_⟩|⟨a,zri,eu,ss,eX,_,hl,_,hz,_,iV,_⟩
 ·have e:a0=none/\len=0/\cap=0:=by simpa[Value.cells]using eX
  obtain⟨rfl,rfl,rfl⟩:=e;exact⟨none,0,0,fun _=>[],rfl,fun k hk=>absurd hk (Nat.not_lt_zero k)⟩
 ·have e:a0=some a/\len=zri/\cap=eu:=by simpa[Value.cells]using eX
  obtain⟨rfl,rfl,rfl⟩:=e;refine⟨some a,len,cap,fun k=>(ss.getD k ByteArray.empty).data.toList,rfl,fun k hk=>⟨a,rfl,?_,?_⟩⟩
  ·have:=iV k (by rw[hz];simp;omega);rw[this]
  ·have:=iV k (by rw[hz];simp;omega);rcases Ys a.block W.1.size with h1|h1
   ·exact h1
   ·unfold World.cell? at this;rw[XX (by rw[Ren.tS];exact h1)]at this;cases this
def D9:DataW Unit->Array YN
 |.agg l=>(l.map fun|.lit (.int k z)=>Value.int k z|_=>undef).toArray
 |_=>#[]
def rU(cs:Array YN):Obj->Obj
 |.cells _ t frozen=>.cells cs t frozen
 |o=>o
theorem zq6(os:Os)(args:Array YN):ztB π Rows.manyWorkersRow.laid (({zui π os ⟨#[],#[],[]⟩with heap:=(((((((((zui π os ⟨#[],#[],[]⟩).1.modify 1 (rU (D9 Rows.laid_math_bits_deBruijn32tab))).modify 6 (rU (D9 Rows.laid_math_bits_deBruijn64tab))).modify 3 (rU (D9 Rows.laid_internal_strconv_uint64pow10))).modify 0 (rU #[.iface 237 (.agg #[.pointer (some (aQ 7 54))])])).modify 5 (rU #[.iface 306 (.pointer (some ⟨(zui π os ⟨#[],#[],[]⟩).1.size,0,none⟩))])).modify 4 (rU #[.iface 306 (.pointer (some ⟨(zui π os ⟨#[],#[],[]⟩).1.size+1,0,none⟩))])).push (.cells #[.string ⟨#[118,97,108,117,101,32,111,117,116,32,111,102,32,114,97,110,103,101]⟩] 308 (0,0))).push (.cells #[.string ⟨#[105,110,118,97,108,105,100,32,115,121,110,116,97,120]⟩] 308 (0,0)))}:World).forCall (fun _ _=>0) ⟨#[],args,[]⟩).memory:=
 laidMetH_of_parts (laidMet_of_run' 8 kQ kQ) kQ
set_option maxRecDepth 100000 in
theorem zq7(os:Os)(Hz:os.Started)(H:Type)(enc:TypeId×YN->H):
  ReturnsInLeavingWide {} Tryz.checked os 7 .any (fun w args=>(Rows.manyWorkersSpec.pre enc π Tryz.f7 [] false w args/\ztB π Rows.manyWorkersRow.laid w)/\sizedMet enc π Tryz.f7 (OpenSpec.ofChange Rows.manyWorkersSpec) false w args)
   (Rows.manyWorkersSpec.post enc π Tryz.f7 false true false false):=by
 refine zo5 (C:=Tryz.checked) (X:=fun w _=>ztB π Rows.manyWorkersRow.laid w) (fun _ _ _ hh h=>h.of_heap hh) own Hz func7
  (ChangeSpec.witness_at (enc:=enc) (C:=Tryz.checked) (os:=os) (X:=fun w _=>ztB π Rows.manyWorkersRow.laid w) false ({zui π os ⟨#[],#[],[]⟩with heap:=(((((((((zui π os ⟨#[],#[],[]⟩).1.modify 1 (rU (D9 Rows.laid_math_bits_deBruijn32tab))).modify 6 (rU (D9 Rows.laid_math_bits_deBruijn64tab))).modify 3 (rU (D9 Rows.laid_internal_strconv_uint64pow10))).modify 0 (rU #[.iface 237 (.agg #[.pointer (some (aQ 7 54))])])).modify 5 (rU #[.iface 306 (.pointer (some ⟨(zui π os ⟨#[],#[],[]⟩).1.size,0,none⟩))])).modify 4 (rU #[.iface 306 (.pointer (some ⟨(zui π os ⟨#[],#[],[]⟩).1.size+1,0,none⟩))])).push (.cells #[.string ⟨#[118,97,108,117,101,32,111,117,116,32,111,102,32,114,97,110,103,101]⟩] 308 (0,0))).push (.cells #[.string ⟨#[105,110,118,97,108,105,100,32,115,121,110,116,97,120]⟩] 308 (0,0)))}:World) #[.slice none 0 0,iQ 0,iQ 0] 8 rfl kQ kQ kQ kQ kQ (zq6 os _)) ?_
 intro W base args ds gs Lp FD zb2 hW hL;have pA:∀(j:Nat) t v,Tryz.f7.params[j]?=some t->args[j]?=some v->zxq π W .any base t v:=zb2;have hW':=hW;obtain⟨p,q,hA0,hV,rfl,JJ,jT⟩:=hW;have hA:DataW.TrodAll enc π W 0 (fun _=>true) true Tryz.f7.params.toList args.toList ds p:=hA0;rw[params7]at hA pA;obtain⟨v0,yw,d0,ds0,p0,q0,zr0,rfl,rfl,h0,r0⟩:=zz9 hA;obtain⟨v1,vs1,d1,ds1,p1,q1,rfl,rfl,rfl,h1,r1⟩:=zz9 r0;obtain⟨v2,vs2,d2,ds2,p2,q2,rfl,rfl,rfl,h2,r2⟩:=zz9 r1;obtain⟨rfl,rfl,rfl⟩:=trodAll_nil r2;obtain rfl:args=#[v0,v1,v2]:=by cases args;simp_all
 obtain⟨rfl,rfl⟩:=trodVars_none hV;have k0:=h0;have xw:∀ x∈p0,x.block<W.1.size:=by obtain⟨m,hm⟩:=k0;exact zyj m _ _ _ hm
 have k1:=h1;have lt1:∀ x∈p1,x.block<W.1.size:=by obtain⟨m,hm⟩:=k1;exact zyj m _ _ _ hm
 have k2:=h2;have nV:∀ x∈p2,x.block<W.1.size:=by obtain⟨m,hm⟩:=k2;exact zyj m _ _ _ hm
 obtain⟨x1,rfl⟩:=okWide_int underlying3 (pA 1 3 v1 rfl rfl);obtain⟨x2,rfl⟩:=okWide_int underlying3 (pA 2 3 v2 rfl rfl);obtain⟨a0,len,cap,ts,rfl,tx⟩:=zq5 (pA 0 70 v0 rfl rfl) h0;have hL':ztB π Rows.manyLimitsRow.laid W:=hL;obtain⟨O,rd⟩:=zpq FD hL';clear hA0 zb2;refine(zq4 rd (zbl hL') (.inl rfl) lQ tx x1 x2).imp fun e W' ⟨he,hg⟩=>?_
 subst he;have Lm:=zo7 hg;exact⟨_,_,_,[],_,[],hW',trodAll_mk1 (shut_bool underlying4 _),(zAa (zxV laidOut kQ (YK kQ) k0 Lm xw) (zAa (zxV laidOut kQ (YK kQ) k1 Lm lt1) (zAa (zxV laidOut kQ (YK kQ) k2 Lm nV) trodAll_mk0))),rfl,Lm.frame _,fun h=>by cases h⟩
theorem zq8:Rows.ManyWorkersSaid:=
 OpenClaim.holds_of_wide_leaving 7 Tryz.f7 rfl rfl rfl rfl rfl rfl rfl ⟨rfl,rfl,rfl,rfl,rfl⟩ rfl rfl rfl rfl rfl kQ func7 kQ
  (YK kQ) (by unfold Func.isWrapper;rw[YG (zsF kQ)];exact⟨rfl,rfl⟩)
  (fun os Hz H enc _=>zq7 os Hz H enc)
theorem zq9(f:FuncId)(fn:Func)(hf:Tryz.pinned.checked.prog.funcNamed "triumvir/triumvirkeep.ManyWorkers" = some f)(vS:Tryz.pinned.checked.prog.funcs[f]?=some fn):
  true=Tryz.pinned.checked.prog.looks []/\∀(j:Nat) t,fn.params[j]?=some t->Tryz.pinned.checked.prog.wantsStandIn t=false:=by
 obtain rfl:f=7:=Yz ((show π.funcNamed "triumvir/triumvirkeep.ManyWorkers" = some 7 by kernel_rfl).symm.trans hf)|>.symm;obtain rfl:fn=Tryz.f7:=(Yz (func7.symm.trans vS)).symm;refine⟨kQ,fun j t ht=>?_⟩;rw[params7]at ht;rcases j with _|_|_|j
 ·obtain rfl:70=t:=by simpa using ht
  exact(show π.wantsStandIn 70=false by kernel_rfl)
 ·obtain rfl:3=t:=by simpa using ht
  exact(show π.wantsStandIn 3=false by kernel_rfl)
 ·obtain rfl:3=t:=by simpa using ht
  exact(show π.wantsStandIn 3=false by kernel_rfl)
 ·simp at ht
theorem manyWorkers_holds:Rows.ManyWorkersCardSaid:=
 ⟨Claim7.tied_new_at .later [.data] true (Claim7.new_of_sixth zq8 Rows.manyWorkersCard.stood.harness true rfl ⟨rfl,rfl⟩ kQ kQ zq9) kQ,fun _ hD=>(by cases hD),manyWorkers_row_tie,fun h=>(by cases h),kQ⟩
#print axioms manyWorkers_holds
end Go.Proofs.YtaablbmgagiajabGreatDoor
