import Derived.Test.YtaablbmgagiajabGreatDoorZGAD
set_option maxHeartbeats 4000000
set_option maxRecDepth 20000
open Array renaming size_extract->zwE
open Go.RowKit renaming Below->YO
open Go.RowKit.Below renaming heap_setCell->Zb,refl->YS
open Go renaming Calls->YR,Oper->Y3,Operand->Zr,World->YM,bodyPost_ret->Zm,run_underlying->Z7,wpAnyH_done->Y7,wpList->Zn,wpList_load_mid->zsU,wpList_store_mid->zwy,wp_region_held_drew->Zh,wp_store_mid->zAd
open Go.Instr renaming index->ztb
open Int renaming natCast_mul->zyP
open List renaming getElem_cons_succ->Z4,getElem_cons_zero->ZP,getElem_toArray->ZQ,range->ZE
open Nat renaming and_le_left->zuE
open Go.Program renaming elem->zBN
open Go.Region renaming wanted->zuO
open UInt8 renaming ofNat->zzx
open Go.Value renaming oneCell'->zuR
open Go.World renaming cell?_of_block->Ze,cell?_setCells_out->zB6
namespace Go.Proofs.YtaablbmgagiajabGreatDoor
open Go.Proofs.Tryz
open Go.RowKit Go.Deep
variable{T:Nat->Int}{b cap k len m off p:Nat}{l:List Nat}
def Gx(l:List Nat):ByteArray:=strOfNums (l.map fun(c:Nat)=>(c:Int))
theorem Xu(l:List Nat):(Gx l).toList=l.map zzx:=by
 unfold Gx;rw[ByteArray.toList_eq,strOfNums_data,List.map_map];apply List.map_congr_left;intro c _;simp
theorem Xv:∀(l m:List Nat),(∀ c∈l,c<256)->(∀ c∈m,c<256)->l.map zzx=m.map zzx->l=m
 |[],[],_,_,_=>rfl
 |[],_::_,_,_,h=>by simp at h
 |_::_,[],_,_,h=>by simp at h
 |a::l,b::m,hl,hm,h=>by
  simp only[Yi,zr9]at h;have e:a=b:=by
   have h1:=YC UInt8.toNat h.1;have ha:=hl a sQ;have hb:=hm b sQ;simp only[UInt8.toNat_ofNat']at h1;omega
  rw[e,Xv l m (fun c hc=>hl c (by simp[hc])) (fun c hc=>hm c (by simp[hc])) h.2]
theorem zlf(l m:List Nat)(hl:∀ c∈l,c<256)(hm:∀ c∈m,c<256):((Gx l).toList==(Gx m).toList)=decide (l=m):=by
 rw[Xu,Xu,X7,YB,decide_eq_true_iff];exact⟨Xv l m hl hm,fun h=>by rw[h]⟩
theorem Xw{w:YM}{a:Option Addr}(h:jE w a len cap l):(convert 37 9 (.slice a len cap)).run prog w=.ok (.string (Gx l)) w:=by
 obtain⟨h1,h2,h3,h4⟩:=h;rcases h4 with h4|⟨b,off,rfl,hb,hr⟩
 ·subst h4;have h0:len=0:=by simpa using h1.symm
  subst h0;cases a with
  |none=>exact run_convert_bytes_nil w 37 5 underlying37 underlying5 _ _ 9 underlying9
  |some a=>
   rw[run_convert_bytes_string w 37 9 5 _ 0 cap underlying37 underlying5 underlying9];rw[run_bytesToString w a 0 cap [] (by simpa using run_loadCells_list (P:=prog) w a [] sQ)];rfl
 ·refine run_convert_bytes_arg w 37 5 underlying37 underlying5 b off len cap _ (by simpa using h1) (fun i hi=>?_) 9 underlying9;rw[hr i oQ];simp[List.getD,show i<l.length by omega]
theorem Xx(a1 a2:Option Addr)(n1 n2 c1 c2:Nat)(l m:List Nat)(w:YM)(h1:jE w a1 n1 c1 l)(h2:jE w a2 n2 c2 m):
  YR prog 130 #[.slice a1 n1 c1,.slice a2 n2 c2] w fun e w'=>e=.returned (.bool (decide (l=m)))/\w'=w:=by
 have q1:=Xw h1;have q2:=Xw h2;have HE:=ae (zlf l m h1.2.2.1 h2.2.2.1);clear h1 h2;go_enter func130,ntmps130;go_wp2
 go_ret;exact⟨dU (by rw[HE.o]),rfl⟩
def Gy(l:List Nat)(i:Nat):Nat:=l[3*i]?.getD 0*65536+l[3*i+1]?.getD 0*256+l[3*i+2]?.getD 0
def ri(l:List Nat)(k:Nat):List Int:=(ZE k).map fun i=>((Gy l i:Nat):Int)
theorem zlg(l:List Nat)(k:Nat):ri l (k+1)=ri l k++[((Gy l k:Nat):Int)]:=by simp[ri,List.range_succ]
theorem JS(l:List Nat)(k:Nat):(ri l k).length=k:=by simp[ri]
def lO(l:List Nat):List Int:=ri l (l.length/3)
theorem Xy(a b i:Nat)(h:b<2^i):a*2^i|||b=a*2^i+b:=by
 have:=Nat.shiftLeft_add_eq_or_of_lt h a;rw[Nat.shiftLeft_eq]at this;exact this.symm
theorem or3(a b c:Nat)(ha:a<256)(hb:b<256)(hc:c<256):bits .or .i64 (bits .or .i64 ((a:Int)*65536) ((b:Int)*256)) (c:Int)=((a*65536+b*256+c:Nat):Int):=by
 have e1:(a:Int)*65536=((a*65536:Nat):Int):=oQ;have e2:(b:Int)*256=((b*256:Nat):Int):=oQ;have Xz:(2:Nat)^16=65536:=dQ;have p8:(2:Nat)^8=256:=dQ;have o1:=Xy a (b*256) 16 (by rw[Xz];omega);have o2:=Xy (a*256+b) c 8 (by rw[p8];omega);rw[Xz]at o1;rw[p8,show(a*256+b)*256=a*65536+b*256 by omega]at o2;rw[e1,e2,wO (a*65536) (b*256) oQ oQ,o1,wO (a*65536+b*256) c oQ oQ,o2]
structure Gz(w wr:YM)(v:Value)(l:List Int):Prop where
 old:YO w.1.size w wr
 own:wr.ownsRow w.1.size 3 1 v l.length (ints l)
theorem Gz.put{w wr w3:YM}{v v':Value}{l ms:List Int}{p:Obj}(h:Gz w wr v l)(hm:ms.length=m)
  (bC:w3.ownsRow w.1.size 3 1 v' (l.length+m) (ints l++ints ms)) (hg:(wr.alloc p).grownBy w3 v.ownBlock):Gz w w3 v' (l++ms):=by
 have bo:YO wr.1.size wr (wr.alloc p):=(YS _ _).alloc lQ _;have hs:=h.old.size;refine⟨(h.old.trans (bo.mono hs)).grown hg tQ (fun k hk=>by have:=(h.own.lt k hk).1;omega),?_⟩;rw[Yf,hm];simpa[ints]using bC
theorem zlh(b off len cap:Nat)(l:List Nat)(w:YM)(h3:3<=len)(hl:len<=100)(fw:len+4<=cap)(h:jE w (some (aQ b off)) len cap l):
    YR prog 132 #[.slice (some (aQ b off)) len cap] w fun e w' => (∃ v, e = .returned v ∧ xa w w' (lO l) v) ∧ YO w.1.size w w' := by
  have HX := ae h
  have cP := h.1
  have A0 : b < w.1.size := by
    obtain ⟨b', o', _, e', gH, _⟩ := h.at (k := 0) oQ
    have : b = b' := by simp at e'; exact e'.1
    omega
  clear h
  obtain ⟨i0, hi, cQ, bf, bK⟩ := info_parts Ay
  have HI := ae hi
  have fN := ae cQ
  have gP := ae bf
  have gQ := ae bK
  clear hi cQ bf bK
  go_enter func132, ntmps132
  go_wp2
  go_loopw [0, 3] (fun s v wr => ∃ k : Nat, 3 * k ≤ len ∧ s = .slice (some (aQ b (off + 3 * k))) (len - 3 * k) (cap - 3 * k) ∧ Gz w wr v (ri l k)) (fun s _ _ => match s with | .slice _ n _ => n | _ => 0)
  case atStart => exact ⟨0, oQ, rfl, YS _ _, World.ownsRow_nil _ _ _ _⟩
  case round =>
    obtain ⟨k, hk, rfl, hI⟩ := hrel
    obtain ⟨o, ho⟩ : ∃ o, Hid (off + 3 * k = o) := eQ
    obtain ⟨n, hn⟩ : ∃ n, Hid (len - 3 * k = n) := eQ
    obtain ⟨c, hc⟩ : ∃ c, Hid (cap - 3 * k = c) := eQ
    have Oq : n + 4 ≤ c := by have := hn.o; have := hc.o; omega
    have kR : n ≤ 100 := by have := hn.o; omega
    rw [ho.o, hn.o, hc.o]
    by_cases h3n : 3 ≤ n
    · obtain ⟨_, _, x0, e0, qy, lY, zli, fV⟩ := (HX.o.below (w := w) (wx := wr) hI.old).at (k := 3 * k) (by have := hn.o; omega)
      obtain ⟨_, _, x1, e1, aX, lp, zlj, gG⟩ := (HX.o.below (w := w) (wx := wr) hI.old).at (k := 3 * k + 1) (by have := hn.o; omega)
      obtain ⟨_, _, x2, e2, bo, gW, zlk, gX⟩ := (HX.o.below (w := w) (wx := wr) hI.old).at (k := 3 * k + 2) (by have := hn.o; omega)
      obtain ⟨rfl, rfl⟩ : b = _ ∧ off = _ := by simpa using e0
      obtain ⟨rfl, rfl⟩ : b = _ ∧ off = _ := by simpa using e1
      obtain ⟨rfl, rfl⟩ : b = _ ∧ off = _ := by simpa using e2
      rw [← zsq, ho.o] at gG gX
      rw [ho.o] at fV
      clear e0 e1 e2 aX bo
      have XA := or3 x0 x1 x2 lY lp gW
      obtain ⟨y, hy⟩ : ∃ y, Hid (x0 * 65536 + x1 * 256 + x2 = y) := eQ
      rw [hy.o] at XA
      have d0 : (0 : Int) < (n : Int) := oQ
      have d1 : (1 : Int) < (n : Int) := oQ
      have d2 : (2 : Int) < (n : Int) := oQ
      have r0 : IntKind.i64.wrap (x0 : Int) = x0 := wrap_small x0 oQ
      have r1 : IntKind.i64.wrap (x1 : Int) = x1 := wrap_small x1 oQ
      have r2 : IntKind.i64.wrap (x2 : Int) = x2 := wrap_small x2 oQ
      have r3 : IntKind.i64.wrap ((x0 : Int) * 65536) = (x0 : Int) * 65536 := by have := wrap_small (x0 * 65536) oQ; rwa [zyP] at this
      have r4 : IntKind.i64.wrap ((x1 : Int) * 256) = (x1 : Int) * 256 := by have := wrap_small (x1 * 256) oQ; rwa [zyP] at this
      have d00 : 0 < n := oQ
      have yH := hI.own
      rw [JS] at yH
      have th := ae yH
      have aW : some b ≠ u3.ownBlock := fun e => by have := (yH.lt b e.symm).1; omega
      have xc : Hid (k + 1 ≤ maxLen) := by rw [Hid]; unfold maxLen; omega
      have xd : Hid ((k + 1) * 8 ≤ 140737488355328) := by rw [Hid]; omega
      have jQ := hI.old.size
      have A1 : Hid (w.1.size ≤ (wr.alloc (.cells #[iQ (y : Int)] 3)).drew.1.size) := by rw [Hid]; simp; omega
      clear yH
      go_wp2_with fail
      go_region_held3 (fun w' => w'.cell? (aQ b o) = some (.int .u8 (x0 : Int)) ∧ w'.cell? (aQ b (o + 1)) = some (.int .u8 (x1 : Int)) ∧ w'.cell? (aQ b (o + 2)) = some (.int .u8 (x2 : Int)))
        (first
          | go_keep
          | (go_split_ands
             refine ⟨?_, ?_, ?_⟩
             · (rw [bL.cell_far _ tQ aW]; assumption)
             · (rw [bL.cell_far _ tQ aW]; assumption)
             · (rw [bL.cell_far _ tQ aW]; assumption)))
        ((refine step_append_lies _ rQ _ _ _ rQ w.1.size 3 i0 _ 1 8 underlying22 HI.o fN.o gP.o gQ.o rfl oQ u3 k (ints (ri l k)) rQ ((th.o.alloc _).drew)
            (aQ wr.1.size 0) 1 1 (ints [(y : Int)]) rQ rQ (World.news_of_block (cs := #[iQ (y : Int)]) (t := 3) (fr := (0, 0)) (heap_alloc_new wr _)) (AX _)
            oQ xc.o xd.o A1.o (wr.1.size + 1) sQ ?_; intro gg eu w1 zb8 bL eM aj))
      have R := Gz.put hI (ms := [(y : Int)]) rfl (by rw [JS]; exact zb8) (show (wr.alloc (.cells #[iQ (y : Int)] 3)).grownBy w1 u3.ownBlock from ⟨bL.os, bL.tape, bL.output, bL.size, bL.block⟩)
      have qW : Gy l k = y := by unfold Gy; rw [zli.o, zlj.o, zlk.o, hy.o]
      have HR := ae R
      have xb := ae qW
      clear R qW bL zb8 eM aj fV gG gX XA r0 r1 r2 r3 r4 th xc xd A1
      have BK : ¬ c = 3 := oQ
      go_wp2
      go_roundw
      case rel =>
        refine ⟨k + 1, by have := hn.o; omega, ?_, by rw [zlg, xb.o]; exact HR.o⟩
        have := hn.o
        have := hc.o
        have := ho.o
        rw [show off + 3 * (k + 1) = o + 3 by omega, show len - 3 * (k + 1) = n - 3 by omega, show cap - 3 * (k + 1) = c - 3 by omega]
      case measure => show n - 3 < n; omega
    · have iw : k = l.length / 3 := by have := hn.o; omega
      have HD := ae hI
      clear hI
      have aW : ri l k ≠ [] := by
        intro e
        have := YC List.length e
        rw [JS] at this
        simp at this
        omega
      have HF : Hid (lO l = ri l k) := by rw [Hid, lO, ← iw]
      have tj : Hid (xa w wr (ri l k) u3) := by
        have ho := HD.o.own
        obtain ⟨_, zX⟩ := HD.o.own
        rcases zX with ⟨_, h0⟩ | ⟨g, cp, bA, rfl, hg, hh, il, hm, bm, ht⟩
        · exact absurd (zsh.1 h0) aW
        · refine ⟨g, cp, rfl, hg, bp hh, il, fun k hk => ?_⟩
          rw [Yv, ho.cellAt k oQ]
          simp [ints, hk]
      clear aW iw
      go_wp2
      go_ret
      exact ⟨⟨_, rfl, by rw [HF.o]; exact tj.o⟩, HD.o.old⟩
def fD(l:List Nat):List Nat:=l.take (l.length-4)
def p9(l:List Nat):List Nat:=l.drop (l.length-4)
def aP(l:List Nat):Nat×FR:=
 if l.length<7\/80<l.length then(3,aD)
 else if b4 (jZ (fD l)).toNat=p9 l then
  (if gy (dZ (lO (fD l)))=true/\gT (dZ (lO (fD l)))=l then(0,dZ (lO (fD l)))else(3,aD))
 else(15,aD)
def rj(e:Nat):Value:=if e=0 then .nilIface else .iface 74 (iQ (e:Int))
theorem JU(h:l.length<7\/80<l.length):aP l=(3,aD):=by unfold aP;rw[YH h]
theorem XB(h1:7<=l.length)(h2:l.length<=80)(h:¬b4 (jZ (fD l)).toNat=p9 l):aP l=(15,aD):=by unfold aP;rw[YG oQ,YG h]
theorem OX(h1:7<=l.length)(h2:l.length<=80)(h:b4 (jZ (fD l)).toNat=p9 l)(hn:¬(gy (dZ (lO (fD l)))=true/\gT (dZ (lO (fD l)))=l)):aP l=(3,aD):=by unfold aP;rw[YG oQ,YH h,YG hn]
theorem OY(h1:7<=l.length)(h2:l.length<=80)(h:b4 (jZ (fD l)).toNat=p9 l)(hn:gy (dZ (lO (fD l)))=true/\gT (dZ (lO (fD l)))=l):aP l=(0,dZ (lO (fD l))):=by unfold aP;rw[YG oQ,YH h,YH hn]
theorem jE.row{w:YM}{a:Option Addr}(h:jE w a len cap l)(h0:0<len):∃ b off,a=some (aQ b off)/\b<w.1.size/\FZ w b off l:=by
 obtain⟨h1,_,_,h4⟩:=h;rcases h4 with h4|h4
 ·subst h4;simp at h1;omega
 ·exact h4
theorem XC{w:YM}(h:jE w (some (aQ b off)) len cap l)(h0:4<=len)(hm:m+4=len):jE w (some (aQ b off)) m cap (fD l):=by
 obtain⟨b',OZ,e,hb,hr⟩:=h.row oQ;obtain⟨rfl,rfl⟩:b=b'/\off=OZ:=by simpa using e
 obtain⟨h1,h2,h3,_⟩:=h;refine⟨by unfold fD;rw[zsj];omega,oQ,fun c hc=>h3 c (List.mem_of_mem_take hc),.inr ⟨b,off,rfl,hb,fun k hk=>?_⟩⟩;unfold fD at hk⊢;rw[zsj]at hk;rw[hr k oQ,zse,YH oQ]
theorem zll{w:YM}(h:jE w (some (aQ b off)) len cap l)(h0:4<=len)(hm:m+4=len):jE w (some (aQ b (off+m))) 4 (cap-m) (p9 l):=by
 obtain⟨b',OZ,e,hb,hr⟩:=h.row oQ;obtain⟨rfl,rfl⟩:b=b'/\off=OZ:=by simpa using e
 obtain⟨h1,h2,h3,_⟩:=h;refine⟨by unfold p9;rw[zsg];omega,oQ,fun c hc=>h3 c (List.mem_of_mem_drop hc),.inr ⟨b,off+m,rfl,hb,fun k hk=>?_⟩⟩;unfold p9 at hk⊢;rw[zsg]at hk;rw[zsq,hr (m+k) oQ,List.getElem?_drop,show l.length-4+k=m+k by omega]
theorem zlm(b off len cap m:Nat)(hm:m<=len)(hc:m<cap)(wx:YM):(Instr.slice 37 (.slice (some (aQ b off)) len cap) (some (iQ (m:Int))) none none).run prog wx=.ok (.slice (some (aQ b (off+m))) (len-m) (cap-m)) wx:=by
 have ht:prog.underlying 37=some (.slice (prog.elem 37)):=by simp[zBN,underlying37]
 have he:prog.elem 37=5:=by simp[zBN,underlying37]
 have hz:(Go.sizeOf 5).run prog wx=.ok 1 wx:=kQ;rw[run_slice_l wx _ _ _ _ ht .i64 _ oQ oQ,he,hz];have aW:¬cap=m:=oQ;have ha:((aQ b off):Addr).add m=(aQ b (off+m)):=by unfold Addr.add;split<;>simp_all
 simp[Result.andThen,sliced,aW,ha]
theorem zln(w:YM)(l:List Nat)(hl:l.length=4)(hb:∀ c∈l,c<256):jE (w.alloc (.cells (jH l).toArray 5)) (some (aQ w.1.size 0)) 4 4 l:=by
 refine⟨hl,oQ,hb,.inr ⟨w.1.size,0,rfl,sQ,fun k hk=>?_⟩⟩;rw[Yv,ay (aU _ _)];simp[jH,hk]
theorem zlo(a:Option Addr)(len cap:Nat)(l:List Nat)(w:YM)(cP:l.length=len)(hl:len<=1000)(h:len<7\/80<len):
  YR prog 79 #[.slice a len cap] w (bQ (.tuple #[.agg (ak (aP l).2),rj (aP l).1]) w):=by
 have HD:=ae (JU (l:=l) oQ);rw[HD.o];have dW:aM (w.alloc (.cells (ak aD) 36)) w.1.size 36 aD:=aU _ _;have HB:=ae ((YS w.1.size w).alloc lQ (.cells (ak aD) 36));have lM:=ae dW;clear dW cP;by_cases h1:len<7
 ·clear h;go_enter func79,ntmps79;go_wp2_with (refine jb rfl _ _ rfl w.1.size aD rfl rfl aD lM.o ?_)
  intro w9 dD;go_wp2
  refine Zm (v:=.tuple #[.agg (ak aD),rj 3]) ?_ rfl ⟨rfl,HB.o.trans (dD.o.2.2 _ lQ)⟩;exact C2 results79 rfl (iB dD.o.1)
 ·have h2:80<len:=oQ;clear h;go_enter func79,ntmps79;go_wp2_with (refine jb rfl _ _ rfl w.1.size aD rfl rfl aD lM.o ?_)
  intro w9 dD;go_wp2
  refine Zm (v:=.tuple #[.agg (ak aD),rj 3]) ?_ rfl ⟨rfl,HB.o.trans (dD.o.2.2 _ lQ)⟩;exact C2 results79 rfl (iB dD.o.1)
theorem zlp(b off len cap:Nat)(l:List Nat)(w:YM)(h:jE w (some (aQ b off)) len cap l)(h7:7<=len)(h80:len<=80):
  YR prog 79 #[.slice (some (aQ b off)) len cap] w (bQ (.tuple #[.agg (ak (aP l).2),rj (aP l).1]) w):=by
 obtain⟨m,hm⟩:∃ m,m+4=len:=⟨len-4,oQ⟩;have cP:=h.1;have cB:=h.2.1;have aC:YO w.1.size w (w.alloc (.cells (ak aD) 36)):=(YS w.1.size w).alloc lQ _;have dW:aM (w.alloc (.cells (ak aD) 36)) w.1.size 36 aD:=aU _ _;have HX:=ae h;obtain⟨wA,XD⟩:∃ wA,Hid (w.alloc (.cells (ak aD) 36)=wA):=eQ;rw[XD.o]at aC dW;have XE:=h.below aC;have hN:w.1.size<wA.1.size:=dW.lt;have iE:=ae aC;have lM:=ae dW;have JV:=ae XE;clear h aC dW XE;have t1:wrap64 ((len:Int)-4)=(m:Int):=by rw[IntWalk.wrap64_in _ ⟨oQ,oQ⟩];omega
 go_enter func79,ntmps79;go_wp2_with fail
 rw[show w.alloc (.cells #[iQ 0,iQ 0,iQ 0,iQ 0,iQ 0,iQ 0,iQ 0,iQ 0,iQ 0,iQ 0,iQ 0,iQ 0,iQ 0,iQ 0,iQ 0,iQ 0,iQ 0,iQ 0,iQ 0,iQ 0,iQ 0,iQ 0,iQ 0] 36)=wA from XD.o,show len-4=m by omega];have eW:∀ wx:YM,(Instr.slice 37 (.slice (some (aQ b off)) len cap) (some (iQ (m:Int))) none none).run prog wx=.ok (.slice (some (aQ b (off+m))) 4 (cap-m)) wx:=by
  intro wx;have:=zlm b off len cap m oQ oQ wx;rwa [show len-m=4 by omega]at this
 have XF:∀ wx,YO wA.1.size wA wx->YR prog 83 #[.slice (some (aQ b off)) m cap] wx fun e w'=>e=.returned (.slice (some (aQ wx.1.size 0)) 4 4)/\Hid (w'=wx.alloc (.cells (jH (b4 (jZ (fD l)).toNat)).toArray 5)):=
  fun wx hx=>Xr _ m cap (fD l) wx oQ (XC (JV.o.below hx) oQ hm)
 have lr:∀ wx,YO wA.1.size wA wx->YR prog 130 #[.slice (some (aQ wx.1.size 0)) 4 4,.slice (some (aQ b (off+m))) 4 (cap-m)] (wx.alloc (.cells (jH (b4 (jZ (fD l)).toNat)).toArray 5)) fun e w'=>e=.returned (.bool (decide (b4 (jZ (fD l)).toNat=p9 l)))/\Hid (w'=wx.alloc (.cells (jH (b4 (jZ (fD l)).toNat)).toArray 5)):=
  fun wx hx=>Xx _ _ _ _ _ _ _ _ _ (zln wx _ rfl (Xo _)) (zll (JV.o.below (hx.alloc hx.size _)) oQ hm)
 have C5:=ae XF;have oZ:=ae lr;clear XF lr;refine Zh (S:=fun w'=>YO wA.1.size wA w') kQ (YS _ _).drew (fun af=>?_);refine ai 0 (.slice (some (aQ b off)) m cap) af ?_;refine ai 2 (.slice (some (aQ b off)) len cap) af ?_;refine ai 3 (.slice (some (aQ b off)) m cap) af ?_;refine ai 4 (iQ (m:Int)) af ?_;refine ai 5 (.slice (some (aQ b (off+m))) 4 (cap-m)) af ?_;refine aR 1 fun K hK=>?_
 go_simp;go_at_call 83;refine(bE C5 _ (YS _ _).drew).mono ?_;rintro e w5 ⟨rfl,A2⟩;dsimp only;have eK:YO wA.1.size wA w5:=by rw[A2.o];exact(YS wA.1.size wA).drew.alloc lQ _
 refine hK.o _ _ eK (fun af=>?_);clear hK K;refine aR 6 fun K hK=>?_
 go_simp;go_at_call 130;have O0:=bE oZ _ ((YS _ _).drew);rw[<-A2.o]at O0;refine O0.mono ?_;rintro e w6 ⟨rfl,tq⟩;dsimp only;clear O0;have hw6:w6=w5:=tq.o;subst hw6;refine hK.o _ _ eK (fun af=>?_);clear hK K tq;obtain⟨r,hr⟩:∃ r,Hid (decide (b4 (jZ (fD l)).toNat=p9 l)=r):=eQ;rw[hr.o];refine ai 7 (.bool (!r)) af ?_;refine Y7 kQ ?_ _;have O1:=ae (JV.o.below eK);have qa:=ae (lM.o.below hN eK);have yI:=ae (iE.o.trans (eK.mono oQ));have Gp:=eK.size;clear af eK A2 C5 oZ eW lM JV HX;cases r
 ·have HD:=ae (XB (l:=l) oQ oQ (zsF hr.o));go_wp2_with (refine jb rfl _ _ rfl w.1.size aD rfl rfl aD qa.o ?_)
  intro w9 dD;go_wp2
  refine Zm (v:=.tuple #[.agg (ak aD),rj 15]) ?_ rfl ⟨by rw[HD.o],yI.o.trans (dD.o.2.2 _ lQ)⟩;exact C2 results79 rfl (iB dD.o.1)
 ·have Jj:=YK hr.o;have XG:=ae (zlh b off m cap (fD l) w6 oQ oQ oQ (XC O1.o oQ hm));go_wp2_with (go_at_call 132;refine XG.o.mono ?_)
  rintro e w7 ⟨⟨v7,rfl,g7,cp7,rfl,zlq,XH,zrK,XI⟩,na⟩;have dJ:=ae (Xg g7 0 _ cp7 (lO (fD l)) w7 rfl XH XI);have C6:=ae (O1.o.below na);have XJ:=ae (qa.o.below oQ na);have XK:=ae (yI.o.trans (na.mono oQ));have hs7:=na.size;clear na XG XI O1 qa yI zlq XH;obtain⟨G,hG⟩:∃ G,Hid (dZ (lO (fD l))=G):=eQ;rw[hG.o]at dJ;go_wp2_with (go_at_call 131;refine dJ.o.mono ?_)
  rintro e w8 ⟨rfl,o7⟩;have XL:=ae (C6.o.below o7);have XM:=ae (XJ.o.below oQ o7);have XN:=ae (XK.o.trans (o7.mono oQ));have hs8:=o7.size;clear o7 dJ C6 XJ XK;go_wp2_with (refine jb rfl _ _ rfl w8.1.size G rfl rfl aD (aU _ _) ?_)
  intro wB nX;have JW:YO w8.1.size w8 wB:=((YS _ _).alloc lQ _).trans (nX.o.2.2 _ lQ);have A3:=ae nX.o.1;have O2:=ae (XL.o.below JW);have JX:=ae (XM.o.below oQ JW);have JY:=ae (XN.o.trans (JW.mono oQ));have XO:=A3.o.lt;clear JW nX XL XM XN;generalize w8.1.size=Q at A3 XO hs8⊢;cases rh:gy G
  ·have GA:=ae (Xs G wB rh);have HD:=ae (OX (l:=l) oQ oQ Jj (by rw[hG.o,rh];simp));go_wp2_with (first
    |(refine fM rfl _ rfl Q rfl G A3.out ?_)
    |(go_at_call 39;refine GA.out.mono ?_))
   rintro e wC ⟨rfl,uX⟩;have qa:=ae (JX.o.below oQ uX);have yI:=ae (JY.o.trans (uX.mono oQ));clear uX GA JX JY O2 A3;go_wp2_with (refine jb rfl _ _ rfl w.1.size aD rfl rfl aD qa.o ?_)
   intro w9 dD;go_wp2
   refine Zm (v:=.tuple #[.agg (ak aD),rj 3]) ?_ rfl ⟨by rw[HD.o],yI.o.trans (dD.o.2.2 _ lQ)⟩;exact C2 results79 rfl (iB dD.o.1)
  ·have GA:=ae (Xt G wB rh);go_wp2_with (first
    |(refine fM rfl _ rfl Q rfl G A3.out ?_)
    |(go_at_call 39;refine GA.out.mono ?_))
   rintro e wC ⟨⟨v,rfl,bC⟩,uX⟩;obtain⟨gE,cE,rfl,_,_,XP⟩:=td.sM (⟨uX,bC⟩:td wB wC v (gT G)) (fun e=>by have:=Xp G;rw[e]at this;simp at this) (zla G);have oZ:=ae (Xx _ _ _ _ _ _ _ _ _ XP (O2.o.below uX));have qa:=ae (JX.o.below oQ uX);have yI:=ae (JY.o.trans (uX.mono oQ));have zlr:=ae (A3.o.below XO uX);clear uX GA JX JY O2 A3 bC XP;cases JZ:decide (gT G=l)
   ·rw[JZ]at oZ;have HD:=ae (OX (l:=l) oQ oQ Jj (by rw[hG.o];exact fun h=>zsF JZ h.2));go_wp2_with (first
     |(go_at_call 130;refine oZ.out.mono ?_;rintro e wD ⟨rfl,rfl⟩)
     |(refine jb rfl _ _ rfl w.heap.size aD rfl rfl aD qa.out ?_))
    intro w9 dD;go_wp2
    refine Zm (v:=.tuple #[.agg (ak aD),rj 3]) ?_ rfl ⟨by rw[HD.o],yI.o.trans (dD.o.2.2 _ lQ)⟩;exact C2 results79 rfl (iB dD.o.1)
   ·rw[JZ]at oZ;have HD:=ae (OY (l:=l) oQ oQ Jj (by rw[hG.o];exact⟨rh,YK JZ⟩));go_wp2_with (first
     |(go_at_call 130;refine oZ.out.mono ?_;rintro e wD ⟨rfl,rfl⟩)
     |(refine fM rfl _ rfl Q rfl G zlr.out ?_)
     |(refine jb rfl _ _ rfl w.heap.size G rfl rfl aD qa.out ?_))
    intro w9 dD;go_wp2
    refine Zm (v:=.tuple #[.agg (ak G),rj 0]) ?_ rfl ⟨by rw[HD.o,hG.o],yI.o.trans (dD.o.2.2 _ lQ)⟩;exact C2 results79 rfl (iB dD.o.1)
theorem zls(a:Option Addr)(len cap:Nat)(l:List Nat)(w:YM)(hl:len<=1000)(h:jE w a len cap l):
  YR prog 79 #[.slice a len cap] w (bQ (.tuple #[.agg (ak (aP l).2),rj (aP l).1]) w):=by
 by_cases hf:len<7\/80<len
 ·exact zlo a len cap l w h.1 hl hf
 ·obtain⟨b,off,rfl,_,_⟩:=h.row oQ;exact zlp b off len cap l w h oQ oQ
theorem zlt(p:Nat)(C:RC)(R:RS)(w:YM)(h:aF w p C R):
  YR prog 53 #[pQ p] w fun e w'=>e=.returned (iQ R.cycle)/\w'=w:=by
 have hc:=h.c5;clear h;go_enter func53,ntmps53;go_wp2
 go_ret;exact⟨rfl,rfl⟩
section
variable {au:Array Y3}{rest:List Y3}{op:Y3}{a:Act}{w:YM}{Q:Exit->Act->YM->Prop}
theorem XQ(gq:op.guard=none)(x y:Zr)(ho:op.op=.store 34 x y)(b:Nat)(S X:St)(hx:a.eval x=pQ b)(hy:a.eval y=.agg (aB X))(hS:ck w b S)
  (h:∀ w',Hid (ck w' b X/\(∀ k,k≠b->w'.1[k]?=w.1[k]?)/\(∀ B,B<=b->YO B w w'))->Zn prog au Q rest (a.put op.dst undef) w'):Zn prog au Q (op::rest) a w:=
 wpList_plain gq fun _ hK=>wp_store_row _ x y ho b _ hx hy _ _ hS (by rw[iM];rfl) rfl (sV X) (hK _ _ (h _ ⟨sW hS X,fun _ hk=>yB _ _ _ _ hk,fun _ hB=>sX (YS _ _) hB _⟩))
end
theorem O3{w:YM}{q:Nat}{S:St}(h:ck w q S):(loadVar 34 (aQ q 0)).run prog w=.ok (.agg (aB S)) w:=
 run_loadVar_row (P:=prog) _ _ _ 34 _ _ _ h underlying34 rfl (by rw[iM];rfl)
theorem zlu(p:Nat)(C:RC)(R:RS)(w:YM)(h:aF w p C R):
  YR prog 54 #[pQ p] w (bQ (.agg (aB R.st)) w):=by
 have hB:YO w.1.size w (w.alloc (.cells (aB dK) 34)):=(YS _ _).alloc lQ _;have hS:ck (w.alloc (.cells (aB dK) 34)) w.1.size dK:=aU _ _;have hr:=(h.below hB).state;have HR:=ae hr;have HS:=ae hS;have HB:=ae hB;have bJ:=h.lt;clear h hr hS hB;go_enter func54,ntmps54;go_wp2_with (first
  |(refine zsU rfl 34 _ rfl p 8 rfl (aB R.st).toList _ HR.out underlying34 rfl (by rw[iM];rfl) ?_)
  |(refine XQ rfl _ _ rfl w.heap.size dK R.st rfl rfl HS.out ?_))
 intro w9 dD;go_wp2
 refine Zm (v:=.agg (aB R.st)) ?_ rfl ⟨rfl,HB.o.trans (dD.o.2.2 _ lQ)⟩;exact uS results54 rfl (O3 dD.o.1)
def GC(x y:Int)(R:RS):RS:={R with sx:=x,sy:=y}
theorem zlv(p:Nat)(C:RC)(R:RS)(x y:Int)(w:YM)(h:aF w p C R):
  YR prog 50 #[pQ p,.agg #[iQ x,iQ y]] w fun e w'=>e=.returned (.tuple #[])/\aF w' p C (GC x y R)/\Mod w w' (· = p):=by
 have h1:=h.put (R':={R with sx:=x}) (k:=25) dQ (iQ x) (fun j _=>by
  unfold upd bX;by_cases e:j=25
  ·subst e;rfl
  ·simp[e])
 have h2:=h1.put (R':=GC x y R) (k:=26) dQ (iQ y) (fun j _=>by
  unfold upd bX GC;by_cases e:j=26
  ·subst e;rfl
  ·simp[e])
 have hB:=(YS ((w.setCell (aQ p 25) (iQ x)).setCell (aQ p 26) (iQ y)).1.size ((w.setCell (aQ p 25) (iQ x)).setCell (aQ p 26) (iQ y))).alloc lQ (.cells #[iQ x,iQ y] 31);have h3:=h2.below hB;have hm:=(((Mod.refl w (· = p)).set (aQ p 25) (iQ x) (fun _=>rfl)).set (aQ p 26) (iQ y) (fun _=>rfl)).below hB;have AP:=h.AP;have AU:=h.AU;have f25:=h.blk.free 25;have f26:=h.blk.free 26;have bJ:=h.lt;have H2:=ae h3;have HM:=ae hm;clear h h1 h2 h3 hm hB;go_enter func50,ntmps50;go_wp2
 go_end0
 exact⟨rfl,H2.o,HM.o⟩
def cV(x:Int):Bool:=decide (0<=x)&&decide (x<3)
theorem qb(x:Int)(w:YM):
  YR prog 134 #[iQ x] w fun e w'=>e=.returned (.bool (cV x))/\w'=w:=by
 by_cases h1:0<=x
 ·by_cases h2:x<3
  ·have he:cV x=true:=by simp[cV,h1,h2]
   rw[he];clear he;go_enter func134,ntmps134;go_wp2
   go_ret;exact⟨rfl,rfl⟩
  ·have he:cV x=false:=by simp[cV,h2]
   rw[he];clear he;go_enter func134,ntmps134;go_wp2
   go_ret;exact⟨rfl,rfl⟩
 ·have he:cV x=false:=by simp[cV,h1]
  rw[he];clear he;go_enter func134,ntmps134;go_wp2
  go_ret;exact⟨rfl,rfl⟩
def uY(a b c:Nat):Nat:=a&&&b|||b&&&c|||c&&&a
theorem XR{a c:Nat}(ha:a<2^m)(hb:b<2^m):uY a b c<2^m:=
 zsv (zsv (zsu zuE ha) (zsu zuE hb)) (zsu zsr ha)
theorem zlw(a b c:Nat)(w:YM)(ha:a<4096)(hb:b<4096)(hc:c<4096):
  YR prog 199 #[iQ (a:Int),iQ (b:Int),iQ (c:Int)] w fun e w'=>e=.returned (iQ ((uY a b c:Nat):Int))/\w'=w:=by
 have h1:a&&&b<4096:=zsu zuE ha;have h2:b&&&c<4096:=zsu zuE hb;have h3:c&&&a<4096:=zsu zuE hc;have h4:a&&&b|||b&&&c<4096:=zsv (n:=12) h1 h2;have e1:=wP a b oQ oQ;have e2:=wP b c oQ oQ;have e3:=wP c a oQ oQ;have e4:=wO (a&&&b) (b&&&c) oQ oQ;have e5:=wO (a&&&b|||b&&&c) (c&&&a) oQ oQ;have he:uY a b c=a&&&b|||b&&&c|||c&&&a:=rfl;have HE:=ae he;clear he;go_enter func199,ntmps199;go_wp2
 go_ret;rw[HE.o];exact⟨rfl,rfl⟩
theorem XS:(prog.info? 154).map (·.size)=some 4:=kQ
theorem XT(x:mv):(jF x).toArray.all (·.oneCell')=true:=by simp[jF,zuR]
def uZ(k c v:Nat)(R:RS):RS:={R with aI:=upd R.aI k ⟨true,R.aO,c,v⟩}
structure zlx(w wz:YM)(N p:Nat)(C:RC)(R:RS)(c v:Nat):Prop where
 old:YO N w wz
 rp:aF wz p C R
 bx:wz.1[N]?=some (.cells #[iQ (c:Int),iQ (v:Int)] 31 (0,0))
theorem XU(p:Nat)(C:RC)(R:RS)(k:Nat)(x0 x1:Int)(w:YM)(h:aF w p C R)(hk:k<3):
  YR prog 138 #[pQ p,iQ (k:Int),.agg #[iQ x0,iQ x1]] w fun e w'=>
   e=.returned (.tuple #[])/\aF w' p C (uZ k (cW C.s x0) (cW C.n x1) R)/\Mod w w' (· = p):=by
 obtain⟨W,hW⟩:∃ W,Hid (w.alloc (.cells #[iQ x0,iQ x1] 31)=W):=eQ;have aC:YO w.1.size w W:=by rw[<-hW.o];exact(YS _ _).alloc lQ _
 have F9:W.1.size=w.1.size+1:=by rw[<-hW.o];simp
 have b0:W.1[w.1.size]?=some (.cells #[iQ x0,iQ x1] 31 (0,0)):=by rw[<-hW.o];exact aU _ _
 have h0:=h.below aC;have bJ:=h.lt;obtain⟨c,hc⟩:∃ c,Hid (cW C.s x0=c):=eQ;obtain⟨v,hv⟩:∃ v,Hid (cW C.n x1=v):=eQ;rw[hc.o,hv.o];have wZ:∀ wx,YO W.1.size W wx->YR prog 19 #[.agg #[iQ (C.s:Int),.slice (some (aQ C.g2 0)) C.n C.c2,iQ (C.d:Int)],.agg #[iQ x0,iQ x1]] wx fun e w'=>
   e=.returned (.tuple #[.agg #[iQ (c:Int),iQ (v:Int)],.nilIface])/\(w'.cell? (aQ w.1.size 0)=some (iQ x0)/\w'.cell? (aQ w.1.size 1)=some (iQ x1)/\w'.frozen? (aQ w.1.size 0)=false/\w'.frozen? (aQ w.1.size 1)=false)/\
    Hid (zlx w ((w'.setCell (aQ w.1.size 0) (iQ (c:Int))).setCell (aQ w.1.size 1) (iQ (v:Int))) w.1.size p C R c v):=by
  intro wx hx;refine(WV C.s C.d x0 x1 C.g2 C.n C.c2 C.zs wx h0.core.len h0.core.ok (Yr h0.nV hx.size) (h0.row.below h0.nV hx) h0.JN).mono ?_;rw[hc.o,hv.o];rintro e w' ⟨he,hB⟩;have cN:=hx.trans (hB.mono hx.size);have aX:w'.1[w.1.size]?=some (.cells #[iQ x0,iQ x1] 31 (0,0)):=(cN.block _ oQ).trans b0;have iz:YO w.1.size w ((w'.setCell (aQ w.1.size 0) (iQ (c:Int))).setCell (aQ w.1.size 1) (iQ (v:Int))):=((aC.trans (cN.mono oQ)).setCell (Yp _) _).setCell (Yp _) _;exact⟨he,⟨by rw[ay aX];rfl,by rw[ay aX];rfl,fL aX 0,fL aX 1⟩,iz,h.below iz,(fZ (fZ aX _ _) _ _).trans rfl⟩
 have Gn:=ae wZ;have k0:=h0.c1;have k1:=h0.c2;have k2:=h0.c3;have y0:W.cell? (aQ w.1.size 0)=some (iQ x0):=by rw[ay b0];rfl
 have y1:W.cell? (aQ w.1.size 1)=some (iQ x1):=by rw[ay b0];rfl
 clear wZ h h0 aC b0 hc hv;go_enter func138,ntmps138;go_wp2_with fail
 rw[show w.alloc (.cells #[iQ x0,iQ x1] 31)=W from hW.o];clear hW;go_region_with ((go_at_call 19;refine(bE Gn _ (by first |exact YS _ _|exact(YS _ _).drew|exact below_drewN (YS _ _) _)).mono ?_;rintro e w1 ⟨rfl,⟨z0,z1,z2,z3⟩,HM⟩))
 all_goals
  clear k0 k1 k2 y0 y1 z0 z1 z2 z3 Gn;generalize((w1.setCell (aQ w.1.size 0) (iQ (c:Int))).setCell (aQ w.1.size 1) (iQ (v:Int)))=w2 at HM⊢;have hN:p≠w.1.size:=oQ;have iq:(k:Int)<3:=oQ;have jG:w2.cell? (aQ p 6)=some (iQ R.aO)/\w2.cell? (aQ w.1.size 0)=some (iQ (c:Int))/\w2.cell? (aQ w.1.size 1)=some (iQ (v:Int)):=⟨HM.o.rp.c6,(ay HM.o.bx 0).trans rfl,(ay HM.o.bx 1).trans rfl⟩;have hth:w2.there p (27+k*4) 4:=HM.o.rp.blk.there oQ;have gC:(w2.drew.setCells p (27+k*4) (jF ⟨true,R.aO,c,v⟩)).cell? (aQ p 6)=some (iQ R.aO)/\(w2.drew.setCells p (27+k*4) (jF ⟨true,R.aO,c,v⟩)).cell? (aQ w.1.size 0)=some (iQ (c:Int))/\(w2.drew.setCells p (27+k*4) (jF ⟨true,R.aO,c,v⟩)).cell? (aQ w.1.size 1)=some (iQ (v:Int)):=
   ⟨(HM.o.rp.drew.OO hk ⟨true,R.aO,c,v⟩).c6,(zB6 p _ _ _ _ (fun e=>absurd e.symm hN)).trans jG.2.1,(zB6 p _ _ _ _ (fun e=>absurd e.symm hN)).trans jG.2.2⟩
  have cA:=ae jG;have nY:=ae hth;have vd:=ae gC;clear jG hth gC;go_wp2_with fail
  refine Zh (S:=fun w'=>w'.cell? (aQ p 6)=some (iQ R.aO)/\w'.cell? (aQ w.1.size 0)=some (iQ (c:Int))/\w'.cell? (aQ w.1.size 1)=some (iQ (v:Int))) kQ cA.o (fun af=>?_);refine ai 0 (pQ p) af ?_;refine ai 1 (iQ (k:Int)) af ?_;refine ai 2 (pQ p) af ?_;refine ai 3 (pQ p) af ?_;refine ai 4 (.pointer (some (aQ p 6))) af ?_;refine ai 5 (iQ R.aO) af ?_;refine ai 6 (.agg #[iQ (c:Int),iQ (v:Int)]) af ?_;refine ai 7 (.agg #[.bool true,iQ R.aO,iQ (c:Int),iQ (v:Int)]) af ?_;refine ai 8 (pQ p) af ?_;refine ai 9 (.pointer (some (aQ p 27))) af ?_;refine ai 10 (.pointer (some (aQ p (27+k*4)))) af ?_;refine aR 11 fun K hK=>?_
  refine zAd _ _ _ rfl p (27+k*4) (jF ⟨true,R.aO,c,v⟩).toArray rfl rfl nY.o (by rw[XS];rfl) (XT _) ?_;refine hK.o _ _ vd.o (fun af=>?_);clear hK K;refine Y7 kQ ?_ _;simp only[Act.put,ZQ,Z4,ZP];clear af;go_wp2
  go_end0
  exact⟨rfl,HM.o.rp.drew.OO hk ⟨true,R.aO,c,v⟩,((Mod.fB HM.o.old _).drewN 1).mr p _ _ rfl⟩
theorem O4:(prog.info? 155).map (·.size)=some 12:=kQ
theorem zaa(w:YM)(f:Nat->mv)(k:Nat)(hk:k<3):
  (ztb 155 (.agg (oY f).toArray) (iQ (k:Int))).run prog w=.ok (.agg #[.bool (f k).there,iQ (f k).came,iQ ((f k).c:Int),iQ ((f k).v:Int)]) w:=by
 rcases(by omega:k=0\/k=1\/k=2)with rfl|rfl|rfl<;>
  simp[ztb,Z7 underlying155,Z7 underlying154,asIntOf,part,isAgg,oY,jF]
def rk(f:Nat->mv):Nat->Nat
 | 0=>0
 |k+1=>if(f k).there then rk f k+1 else rk f k
theorem zab(f:Nat->mv)(k:Nat):rk f k<=k:=by
 induction k with
 |zero=>exact Yp _
 |succ k ih=>unfold rk;split<;>omega
theorem zly(p:Nat)(C:RC)(R:RS)(w:YM)(h:aF w p C R):
  YR prog 139 #[pQ p] w (bQ (iQ ((rk R.aI 3:Nat):Int)) w):=by
 have lv:=h.samples;have C7:=ae lv;have bJ:=h.lt;clear h lv;go_enter func139,ntmps139;go_wp2_with (refine zsU rfl 155 _ rfl p 27 rfl (oY R.aI) _ C7.o underlying155 rfl (by rw[O4];rfl) ?_)
 go_loopw [3,10] (fun l j wr=>YO w.1.size w wr/\∃ k:Nat,k<=3/\j=iQ k/\∃ a:Nat,a<=3/\l=iQ a/\Hid (rk R.aI k=a)) (fun _ j _=>3-(intOf j).toNat)
 case atStart=>exact⟨YS _ _,0,oQ,rfl,0,oQ,rfl,rfl⟩
 case round=>
  obtain⟨hB,k,hk,rfl,a,ha,rfl,HS⟩:=hrel;have HB:=ae hB;clear hB;by_cases iq:k<3
  ·have dB:(k:Int)<3:=oQ;have s9:=fun wx=>zaa wx R.aI k iq
   cases hb:(R.aI k).there
   ·have HN:Hid (rk R.aI (k+1)=a):=ae (by show(if(R.aI k).there then _ else _)=_;rw[hb];exact HS.o);rw[hb]at s9;go_wp2
    go_roundw
    case rel=>exact⟨HB.o.alloc (HB.o.size) _,k+1,oQ,by go_num,a,ha,rfl,HN⟩
    case measure=>simp[intOf];omega
   ·have HN:Hid (rk R.aI (k+1)=a+1):=ae (by show(if(R.aI k).there then _ else _)=_;rw[hb];show rk R.aI k+1=a+1;rw[HS.o]);have xK:a+1<=3:=by have:=zab R.aI (k+1);rw[HN.o]at this;omega
    rw[hb]at s9;go_wp2
    go_roundw
    case rel=>exact⟨HB.o.alloc (HB.o.size) _,k+1,oQ,by go_num,a+1,xK,by go_num,HN⟩
    case measure=>simp[intOf];omega
  ·have e3:k=3:=oQ;subst e3;go_wp2
   go_ret;exact⟨by rw[HS.o];rfl,HB.o⟩
theorem aF.drewN{w:YM}{C:RC}{R:RS}(h:aF w p C R)(n:Nat):aF (w.drewN n) p C R:=h.below (below_drewN (YS _ _) n)
def tu(t:Int)(x:mv):mv:=if 3<=t-x.came then js else x
def jg(t:Int)(f:Nat->mv):Nat->Nat->mv
 | 0=>f
 |k+1=>upd (jg t f k) k (tu t (f k))
theorem O5(t:Int)(f:Nat->mv)(k j:Nat):jg t f k j=if j<k then tu t (f j)else f j:=by
 induction k with
 |zero=>rfl
 |succ k ih=>
  unfold jg;by_cases e:j=k
  ·subst e;rw[upd_same,YH oQ]
  ·rw[cR _ _ e,ih];by_cases h:j<k
   ·rw[YH h,YH oQ]
   ·rw[YG h,YG oQ]
def J0(R:RS):RS:={R with aI:=jg R.aO R.aI 3}
theorem zlz{α:Type}(f:Nat->α)(k:Nat)(v:α)(h:f k=v):upd f k v=f:=by
 funext j
 unfold upd;split
 ·rename_i e;rw[e,h]
 ·rfl
theorem zlA{au:Array Y3}{rest:List Y3}{op:Y3}{a:Act}{w:YM}{Q:Exit->Act->YM->Prop}(gq:op.guard=none)(x y:Zr)(ho:op.op=.store 154 x y)(p k:Nat)(hx:a.eval x=.pointer (some (aQ p (27+k*4))))(hy:a.eval y=.agg (jF js).toArray)(ht:w.there p (27+k*4) 4)
  (h:∀ w',Hid (w'=w.setCells p (27+k*4) (jF js))->Zn prog au Q rest (a.put op.dst undef) w'):Zn prog au Q (op::rest) a w:=
 zwy gq 154 x y ho p (27+k*4) (jF js).toArray hx hy ht (by rw[XS];rfl) (XT _) (h _ rfl)
theorem zlB(p:Nat)(C:RC)(R:RS)(w:YM)(h:aF w p C R)(ht:0<=R.aO/\R.aO<10000000)(hc:∀ k,k<3->0<=(R.aI k).came/\(R.aI k).came<10000000):
  YR prog 137 #[pQ p] w fun e w'=>e=.returned (.tuple #[])/\aF w' p C (J0 R)/\Mod w w' (· = p):=by
 have lv:=h.samples;have C7:=ae lv;have H0:=ae h;have bJ:=h.lt;clear h lv;go_enter func137,ntmps137;go_wp2_with (refine zsU rfl 155 _ rfl p 27 rfl (oY R.aI) _ C7.o underlying155 rfl (by rw[O4];rfl) ?_)
 go_loopw [8] (fun j wr=>(aF wr p C {R with aI:=jg R.aO R.aI ((intOf j).toNat)}/\Mod w wr (· = p))/\∃ k:Nat,k<=3/\j=iQ k) (fun j _=>3-(intOf j).toNat)
 case atStart=>exact⟨⟨H0.o,Mod.refl _ _⟩,0,oQ,rfl⟩
 case round=>
  obtain⟨⟨hR,hM⟩,k,hk,rfl⟩:=hrel;have yJ:aF wr p C {R with aI:=jg R.aO R.aI k}:=by simpa[intOf]using hR
  clear hR;have HM:=ae hM;have HR:=ae yJ;have OM:=yJ.lt;have c6:wr.cell? (aQ p 6)=some (iQ R.aO):=yJ.c6;clear hM yJ;by_cases iq:k<3
  ·have dB:(k:Int)<3:=oQ;have s9:=fun wx=>zaa wx R.aI k iq
   obtain⟨c1,c2⟩:=hc k iq;have xe:Hid (jg R.aO R.aI (k+1)=upd (jg R.aO R.aI k) k (tu R.aO (R.aI k))):=ae rfl;have GD:Hid (jg R.aO R.aI k k=R.aI k):=ae (by rw[O5,YG oQ]);obtain⟨⟨tb,tc,sc,sv⟩,hx⟩:∃ x,Hid (R.aI k=x):=eQ;rw[hx.o]at s9 xe GD c1 c2;dsimp only at s9 c1 c2;obtain⟨tk,GF⟩:∃ t,Hid (R.aO=t):=eQ;rw[GF.o]at c6 ht;obtain⟨m,hm⟩:∃ m,Hid (tk-tc=m):=eQ;have ew:IntKind.i64.wrap (tk-tc)=m:=(IntWalk.i64_in _ oQ).trans hm.o;have A4:=ae ((YS wr.1.size wr).alloc lQ (.cells #[.bool tb,iQ tc,iQ (sc:Int),iQ (sv:Int)] 154));by_cases h3:3<=m
   ·have xf:tu R.aO ⟨tb,tc,sc,sv⟩=js:=by rw[GF.o];exact YH (by show 3<=tk-tc;rw[hm.o];exact h3)
    rw[xf]at xe;have kC:Hid (∀ n,aF ((wr.alloc (.cells #[.bool tb,iQ tc,iQ (sc:Int),iQ (sv:Int)] 154)).drewN n) p C {R with aI:=jg R.aO R.aI k}):=ae fun n=>(HR.o.below A4.o).drewN n
    have oW:Hid (∀ n,Mod w ((wr.alloc (.cells #[.bool tb,iQ tc,iQ (sc:Int),iQ (sv:Int)] 154)).drewN n) (· = p)):=ae fun n=>(HM.o.below A4.o).drewN n
    clear xf;go_wp2_with fail
    go_quiet (fail)
    go_wp2_with (refine zlA rfl _ _ rfl p k rfl rfl ((kC.o _).blk.there oQ) ?_)
    intro w3 O6;have HR3:Hid (aF w3 p C {R with aI:=jg R.aO R.aI (k+1)}):=ae (by rw[O6.o,xe.o];exact(kC.o _).OO iq js);have kB:Hid (Mod w w3 (· = p)):=ae (by rw[O6.o];exact(oW.o _).mr p _ _ rfl);clear O6 kC oW xe GD;go_wp2
    go_roundw
    case rel=>
     have e:(intOf (iQ ((k:Int)+1))).toNat=k+1:=by simp[intOf]
     refine⟨⟨?_,kB.o⟩,k+1,oQ,by go_num⟩;rw[e];exact HR3.o
    case measure=>simp[intOf];omega
   ·have xf:tu R.aO ⟨tb,tc,sc,sv⟩=⟨tb,tc,sc,sv⟩:=by rw[GF.o];exact YG (by show ¬ 3<=tk-tc;rw[hm.o];exact h3)
    rw[xf,zlz _ _ _ GD.o]at xe;have kC:Hid (∀ n,aF ((wr.alloc (.cells #[.bool tb,iQ tc,iQ (sc:Int),iQ (sv:Int)] 154)).drewN n) p C {R with aI:=jg R.aO R.aI (k+1)}):=ae fun n=>by rw[xe.o];exact(HR.o.below A4.o).drewN n
    have oW:Hid (∀ n,Mod w ((wr.alloc (.cells #[.bool tb,iQ tc,iQ (sc:Int),iQ (sv:Int)] 154)).drewN n) (· = p)):=ae fun n=>(HM.o.below A4.o).drewN n
    clear xf;go_wp2_with fail
    go_quiet (fail)
    go_wp2
    go_roundw
    case rel=>
     have e:(intOf (iQ ((k:Int)+1))).toNat=k+1:=by simp[intOf]
     refine⟨⟨?_,oW.o _⟩,k+1,oQ,by go_num⟩;rw[e];exact kC.o _
    case measure=>simp[intOf];omega
  ·have e3:k=3:=oQ;subst e3;go_wp2
   go_end0
   exact⟨rfl,HR.o,HM.o⟩
theorem zac:(prog.info? 158).map (·.size)=some 54:=kQ
theorem zlC(f:Nat->mv):(oY f).toArray.all (·.oneCell')=true:=by simp[oY,jF,zuR]
theorem zlD(f:Nat->Nat->Int):(p7 f).toArray.all (·.oneCell')=true:=by simp[p7,di,zuR]
section
variable {au:Array Y3}{rest:List Y3}{op:Y3}{a:Act}{w:YM}{Q:Exit->Act->YM->Prop}
theorem zlE(gq:op.guard=none)(x y:Zr)(ho:op.op=.store 155 x y)(p:Nat)(hx:a.eval x=.pointer (some (aQ p 27)))(hy:a.eval y=.agg (oY fun _=>js).toArray)(ht:w.there p 27 12)
  (h:∀ w',Hid (w'=w.setCells p 27 (oY fun _=>js))->Zn prog au Q rest (a.put op.dst undef) w'):Zn prog au Q (op::rest) a w:=
 zwy gq 155 x y ho p 27 (oY fun _=>js).toArray hx hy ht (by rw[O4];rfl) (zlC _) (h _ rfl)
theorem zlF(gq:op.guard=none)(x y:Zr)(ho:op.op=.store 158 x y)(p:Nat)(hx:a.eval x=.pointer (some (aQ p 39)))(hy:a.eval y=.agg (p7 fun _ _=>0).toArray)(ht:w.there p 39 54)
  (h:∀ w',Hid (w'=w.setCells p 39 (p7 fun _ _=>0))->Zn prog au Q rest (a.put op.dst undef) w'):Zn prog au Q (op::rest) a w:=
 zwy gq 158 x y ho p 39 (p7 fun _ _=>0).toArray hx hy ht (by rw[zac];rfl) (zlD _) (h _ rfl)
end
def A5(c:Int)(X:St)(R:RS):RS:={R with cycle:=c,st:=X,aO:=0,aI:=fun _=>js,told:=fun _ _=>0}
theorem zad(p:Nat)(C:RC)(R:RS)(c:Int)(X:St)(w:YM)(h:aF w p C R):
  YR prog 196 #[pQ p,iQ c,.agg (aB X)] w fun e w'=>e=.returned (.tuple #[])/\aF w' p C (A5 c X R)/\Mod w w' (· = p):=by
 obtain⟨W,hW⟩:∃ W,Hid (w.alloc (.cells (aB X) 34)=W):=eQ;have aC:YO w.1.size w W:=by rw[<-hW.o];exact(YS _ _).alloc lQ _
 have b0:ck W w.1.size X:=by rw[<-hW.o];exact aU _ _
 have bJ:=h.lt;have hN:p≠w.1.size:=oQ;have h0:=h.below aC;have h1:=(h0.lL c).drew;have h2:=h1.zkR X;have h3:=h2.tick 0;have cG:Mod w (W.setCell (aQ p 5) (iQ c)).drew (· = p):=((Mod.fB aC (· = p)).set (aQ p 5) (iQ c) (fun _=>rfl)).drewN 1;have hm:=(cG.mr p 8 (aB X).toList rfl).set (aQ p 6) (iQ 0) (fun _=>rfl);have s0:W.drew.rangeAt w.1.size 0 (aB X).toList:=fun j u hj=>by rw[Yv];exact(ay b0 j).trans (by simpa using hj)
 have s1:(W.setCell (aQ p 5) (iQ c)).drew.rangeAt w.1.size 0 (aB X).toList:=fun j u hj=>(Ze (w:=W) (Zb _ _ _ _ (fun e=>hN e.symm))).trans (s0 j u hj)
 have s2:=World.rangeAt_setCells_apart s1 p 8 (aB X).toList (.inl (fun e=>hN e.symm));have s3:(((W.setCell (aQ p 5) (iQ c)).drew.setCells p 8 (aB X).toList).setCell (aQ p 6) (iQ 0)).rangeAt w.1.size 0 (aB X).toList:=fun j u hj=>(Ze (w:=(W.setCell (aQ p 5) (iQ c)).drew.setCells p 8 (aB X).toList) (Zb _ _ _ _ (fun e=>hN e.symm))).trans (s2 j u hj)
 have k5:W.cell? (aQ p 5)=some (iQ R.cycle):=h0.c5;have f5:W.frozen? (aQ p 5)=false:=h0.blk.free 5;have k6:=h2.c6;have f6:=h2.blk.free 6;have nY:=ae (h1.blk.there (o:=8) (m:=17) oQ);have H3:=ae h3;have HM:=ae hm;have S0:=ae s0;have S1:=ae s1;have S2:=ae s2;have S3:=ae s3;clear h h0 h1 h2 h3 hm cG s0 s1 s2 s3 aC b0;go_enter func196,ntmps196;go_wp2_with fail
 rw[show w.alloc (.cells (aB X) 34)=W from hW.o];clear hW;refine Zh (S:=fun w'=>w'.rangeAt w.1.size 0 (aB X).toList) kQ S0.out (fun af=>?_);refine ai 0 (pQ p) af ?_;refine ai 1 (pQ p) af ?_;refine ai 2 (pQ p) af ?_;refine ai 3 (iQ c) af ?_;refine ai 4 _ af ?_ (hy:=yieldsIf_load_mid rQ 34 _ rfl w.1.size 0 rfl (aB X).toList _ (fun w h=>h) underlying34 rfl (by rw[iM];rfl));refine ai 5 (pQ p) af ?_;refine ai 6 (.pointer (some (aQ p 5))) af ?_;refine aR 7 fun K hK=>?_
 go_simp;refine hK.o _ _ S1.out (fun af=>?_);clear hK K;refine ai 8 (pQ p) af ?_;refine ai 9 (.pointer (some (aQ p 8))) af ?_;refine aR 10 fun K hK=>?_
 refine zAd _ _ _ rfl p 8 (aB X) rfl rfl nY.o (by rw[iM];rfl) (sV X) ?_;refine hK.o _ _ S2.out (fun af=>?_);clear hK K;generalize(W.setCell (aQ p 5) (iQ c)).drew.setCells p 8 (aB X).toList=w2 at S2 k6 f6 S3 H3 HM af⊢;refine ai 11 (pQ p) af ?_;refine ai 12 (.pointer (some (aQ p 6))) af ?_;refine aR 13 fun K hK=>?_
 go_simp;refine hK.o _ _ S3.out (fun af=>?_);clear hK K;refine Y7 kQ ?_ _;clear af k5 f5 k6 f6 S0 S1 S2 S3 nY;generalize w2.setCell (aQ p 6) (iQ 0)=w3 at H3 HM⊢;go_wp2_with (refine zlE rfl _ _ rfl p rfl rfl (H3.o.blk.there oQ) ?_)
 intro w4 kD;have H4:Hid (aF w4 p C {R with cycle:=c,st:=X,aO:=0,aI:=fun _=>js}):=ae (by rw[kD.o];exact H3.o.zkS);have dx:Hid (Mod w w4 (· = p)):=ae (by rw[kD.o];exact HM.o.mr p _ _ rfl);clear kD H3 HM;go_wp2_with (refine zlF rfl _ _ rfl p rfl rfl (H4.o.blk.there oQ) ?_)
 intro w5 A2;have H5:Hid (aF w5 p C (A5 c X R)):=ae (by rw[A2.o];exact H4.o.zkT);have HM5:Hid (Mod w w5 (· = p)):=ae (by rw[A2.o];exact dx.o.mr p _ _ rfl);clear A2 H4 dx;go_wp2
 go_end0
 exact⟨rfl,H5.o,HM5.o⟩
def lR(w:YM)(b:Nat)(T:Nat->Int):Prop:=w.1[b]?=some (.cells (di T) 157 (0,0))
theorem J1(T:Nat->Int):(di T).size=18:=rfl
theorem zae(T:Nat->Int):(di T).all (·.oneCell')=true:=by simp[di,zuR]
theorem J4:(prog.info? 157).map (·.size)=some 18:=kQ
theorem lR.at{w:YM}(h:lR w b T)(hk:k<18):w.cell? (aQ b k)=some (iQ (T k)):=(ay h k).trans (AL T k hk)
theorem lR.lt{w:YM}(h:lR w b T):b<w.1.size:=bp h
theorem lR.range{w:YM}(h:lR w b T):w.rangeAt b 0 (di T).toList:=fun j u hj=>by rw[Yv];exact(ay h j).trans (by simpa using hj)
theorem lR.state{w:YM}{X:St}(h:lR w b T)(hX:∀ j,j<17->(aB X)[j]?=some (iQ (T (1+j)))):w.rangeAt b 1 (aB X).toList:=fun j u hj=>by
 have kq:j<17:=(Ye.1 hj).1;have:=hX j kq;rw[h.at oQ,<-this];simpa using hj
theorem lR.row{w:YM}(h:lR w b T)(U:Nat->Int):lR (w.setRow b (di U)) b U:=setRow_heap w b _ _ _ _ h
section
variable {au:Array Y3}{rest:List Y3}{op:Y3}{a:Act}{w:YM}{Q:Exit->Act->YM->Prop}
theorem zlG(gq:op.guard=none)(x y:Zr)(ho:op.op=.store 157 x y)(b:Nat)(U:Nat->Int)(hx:a.eval x=pQ b)(hy:a.eval y=.agg (di U))(T:Nat->Int)(hS:lR w b T)
  (h:∀ w',Hid (lR w' b U/\(∀ k,k≠b->w'.1[k]?=w.1[k]?)/\(∀ B,B<=b->YO B w w'))->Zn prog au Q rest (a.put op.dst undef) w'):Zn prog au Q (op::rest) a w:=
 wpList_plain gq fun _ hK=>wp_store_row _ x y ho b _ hx hy _ _ hS (by rw[J4];rfl) rfl (zae U) (hK _ _ (h _ ⟨hS.row U,fun _ hk=>yB _ _ _ _ hk,fun _ hB=>sX (YS _ _) hB _⟩))
theorem J5(hw:zuO op (yielded au a.tmps)=true)(x:Zr)(ho:op.op=.load 157 x)(b:Nat)(hx:a.eval x=pQ b)(T:Nat->Int)(hS:lR w b T)
  (h:Zn prog au Q rest (a.put op.dst (.agg (di T))) w):Zn prog au Q (op::rest) a w:=by
 unfold Zn;rw[YH hw];exact .inl (wp_load_row _ x ho b hx _ _ _ _ hS underlying157 rfl (by rw[J4];rfl) h)
end
def ve(T U:Nat->Int):Bool:=T 0==U 0&&(T 1==U 1&&(((ZE 8).all fun i=>T (1+(1+i))==U (1+(1+i)))&&((ZE 8).all fun i=>T (1+(9+i))==U (1+(9+i)))))
theorem zlH(T U:Nat->Int):ve T U=true↔∀ k,k<18->T k=U k:=by
 unfold ve;simp only[X6,YB,X9,List.mem_range];constructor
 ·rintro⟨h0,h1,h2,h3⟩ k hk;rcases(by omega:k=0\/k=1\/(2<=k/\k<10)\/10<=k)with rfl|rfl|h|h
  ·exact h0
  ·exact h1
  ·have:=h2 (k-2) oQ;rwa [show 1+(1+(k-2))=k by omega]at this
  ·have:=h3 (k-10) oQ;rwa [show 1+(9+(k-10))=k by omega]at this
 ·intro h;exact⟨h 0 oQ,h 1 oQ,fun i hi=>h _ oQ,fun i hi=>h _ oQ⟩
theorem zlI:(prog.fieldsOf 157).toList.map (fun f=>(f.type,f.offset,f.name != "_"))=[(3,0,true),(34,1,true)]:=kQ
theorem zlJ(w:YM)(d:Nat)(T U:Nat->Int)(fs:List Field)(hf:fs.map (fun f=>(f.type,f.offset,f.name != "_"))=[(3,0,true),(34,1,true)]):
  (Op.eqFields (d+1+1+1) (di T) (di U) fs).run prog w=.ok (ve T U) w:=by
 obtain⟨f0,f1,rfl⟩:∃ a b,fs=[a,b]:=two (by simpa using YC List.length hf);simp only[Yi,Yj,zr9,zsA,zsB]at hf;obtain⟨⟨a1,a2,a3⟩,g1,g2,g3⟩:=hf;have n0:f0.name≠ "_" :=by simpa using a3
 have n1:f1.name≠ "_" :=by simpa using g3
 have q5:=VL w d ((di T).extract 1 (1+17)) ((di U).extract 1 (1+17)) (fun i=>T (1+i)) (fun i=>U (1+i)) (by rw[zwE,J1];decide) (by rw[zwE,J1];decide) (fun i hi=>
  ⟨uL _ _ _ _ _ (by rw[J1];omega) hi (AL T _ oQ),uL _ _ _ _ _ (by rw[J1];omega) hi (AL U _ oQ)⟩)
 unfold ve;refine yv w _ _ _ f0 _ n0 (v:=iQ (T 0)) (u:=iQ (U 0)) (by rw[a1,a2];exact lF w _ 0 _ (AL T 0 oQ)) (by rw[a1,a2];exact lF w _ 0 _ (AL U 0 oQ)) (by rw[a1];exact wT w _ _ _) ?_;have:=yv w _ (di T) (di U) f1 [] n1 (by rw[g1,g2];exact JA w _ 1) (by rw[g1,g2];exact JA w _ 1) (by rw[g1];exact q5) (c:=true) (by simp[Op.eqFields]);rw[Bool.and_true]at this;exact this
theorem zlK(w:YM)(T U:Nat->Int):(binOp .eql 157 (.agg (di T)) (.agg (di U))).run prog w=.ok (.bool (ve T U)) w:=by
 have h:(Op.equalIn (9996+1+1+1+1) 157 (.agg (di T)) (.agg (di U))).run prog w=.ok (ve T U) w:=by
  rw[run_equalIn_struct w _ _ _ _ kQ kQ,zlJ w 9996 T U _ zlI]
 simp only[binOp];simp[Op.equal,Op.maxDepth,h]
theorem zaf{au:Array Y3}{rest:List Y3}{op:Y3}{a:Act}{w:YM}{Q:Exit->Act->YM->Prop}(hw:zuO op (yielded au a.tmps)=true)(x y:Zr)(ho:op.op=.binOp .eql 157 x y 157)(T U:Nat->Int)(hx:a.eval x=.agg (di T))(hy:a.eval y=.agg (di U))
  (h:Zn prog au Q rest (a.put op.dst (.bool (ve T U))) w):Zn prog au Q (op::rest) a w:=by
 unfold Zn;rw[YH hw];refine .inl ?_;have h1:=zlK w T U;have hq:(eqGuard BinOp.eql 157 x y (.agg (di T)) (.agg (di U))).run prog w=.ok () w:=run_eqGuard_agg w _ _ _ _ _ _ kQ;unfold Oper.wp execOp;simp only[ho,hx,hy,Sem.run_bind,hq,h1,Result.andThen_ok,Sem.run_pure];exact h
theorem zlL(w:YM)(f:Nat->Nat->Int)(k:Nat)(hk:k<3):
  (ztb 158 (.agg (p7 f).toArray) (iQ (k:Int))).run prog w=.ok (.agg (di (f k))) w:=by
 rcases(by omega:k=0\/k=1\/k=2)with rfl|rfl|rfl<;>
  simp[ztb,Z7 underlying158,Z7 underlying157,asIntOf,part,isAgg,p7,di]
def o8(f:Nat->Nat->Int)(k:Nat)(T:Nat->Int):Nat->Bool
 | 0=>false
 |j+1=>o8 f k T j||(!(j==k)&&ve (f j) T)
def C8(k:Nat)(T:Nat->Int)(R:RS):RS:={R with told:=upd R.told k T}
def tz(k:Nat)(T:Nat->Int)(X:St)(R:RS):RS:=if o8 (C8 k T R).told k T 3 then A5 (T 0) X (C8 k T R)else C8 k T R
theorem zlM{f:Nat->Nat->Int}{j n:Nat}(h:o8 f k T j=true)(hn:j<=n):o8 f k T n=true:=by
 induction n with
 |zero=>rw[show j=0 by omega]at h;exact h
 |succ n ih=>
  by_cases e:j=n+1
  ·rw[<-e];exact h
  ·unfold o8;rw[ih oQ];rfl
structure C9(w wz:YM)(N p:Nat)(C:RC)(R:RS)(T:Nat->Int):Prop where
 old:Mod w wz (· = p)
 kn:lR wz N T
 rp:aF wz p C R
theorem C9.below{w wz wx:YM}{N:Nat}{C:RC}{R:RS}(h:C9 w wz N p C R T)(hB:YO wz.1.size wz wx):C9 w wx N p C R T:=
 ⟨h.old.below hB,(hB.block _ h.kn.lt).trans h.kn,h.rp.below hB⟩
theorem zlN(p:Nat)(C:RC)(R:RS)(k:Nat)(T:Nat->Int)(X:St)(w:YM)(h:aF w p C R)(hk:k<3)(hX:∀ j,j<17->(aB X)[j]?=some (iQ (T (1+j)))):
  YR prog 176 #[pQ p,iQ (k:Int),.agg (di T)] w fun e w'=>e=.returned (.tuple #[])/\aF w' p C (tz k T X R)/\Mod w w' (· = p):=by
 obtain⟨W,hW⟩:∃ W,Hid (w.alloc (.cells (di T) 157)=W):=eQ;have aC:YO w.1.size w W:=by rw[<-hW.o];exact(YS _ _).alloc lQ _
 have b0:lR W w.1.size T:=by rw[<-hW.o];exact aU _ _
 have bJ:=h.lt;have hN:p≠w.1.size:=oQ;have iq:(k:Int)<3:=oQ;have h0:=(h.below aC).drew;have h1:aF (W.drew.setCells p (39+k*18) (di T).toList) p C (C8 k T R):=h0.zkQ hk T;have hm:Mod w (W.drew.setCells p (39+k*18) (di T).toList) (· = p):=(((Mod.fB aC (· = p)).drewN 1).mr p _ _ rfl);have jz:lR (W.drew.setCells p (39+k*18) (di T).toList) w.1.size T:=(World.heap_setCells_other W.drew p _ _ (bp (w:=W.drew) b0) (fun e=>hN e.symm)).trans b0;have nY:=ae (h0.blk.there (o:=39+k*18) (m:=18) oQ);have HL:=ae (C9.mk hm jz h1);have S0:=ae b0.range;clear h h0 h1 hm jz aC b0;obtain⟨R1,ig⟩:∃ R1,Hid (C8 k T R=R1):=eQ;rw[ig.o]at HL;obtain⟨RR,vo⟩:∃ RR,Hid (tz k T X R=RR):=eQ;rw[vo.o];have HE1:Hid (o8 R1.told k T 3=true->RR=A5 (T 0) X R1):=ae (by intro e;rw[<-vo.o];unfold tz;rw[ig.o,YH e]);have CP:Hid (o8 R1.told k T 3=false->RR=R1):=ae (by intro e;rw[<-vo.o];unfold tz;rw[ig.o,e];rfl);clear vo;go_enter func176,ntmps176;go_wp2_with fail
 rw[show w.alloc (.cells (di T) 157)=W from hW.o];clear hW;refine Zh (S:=fun w'=>w'.rangeAt w.1.size 0 (di T).toList) kQ S0.out (fun af=>?_);refine ai 0 (pQ p) af ?_;refine ai 1 (iQ (k:Int)) af ?_;refine ai 2 _ af ?_ (hy:=yieldsIf_load_mid rQ 157 _ rfl w.1.size 0 rfl (di T).toList _ (fun w h=>h) underlying157 rfl (by rw[J4];rfl));refine ai 3 (pQ p) af ?_;refine ai 4 (.pointer (some (aQ p 39))) af ?_;refine ai 5 (.pointer (some (aQ p (39+k*18)))) af ?_;refine aR 6 fun K hK=>?_
 refine zAd _ _ _ rfl p (39+k*18) (di T) rfl rfl nY.o (by rw[J4];rfl) (zae T) ?_;refine hK.o _ _ HL.o.kn.range (fun af=>?_);clear hK K;refine Y7 kQ ?_ _;simp only[Act.put,ZQ,Z4,ZP];clear af S0 nY;generalize W.drew.setCells p (39+k*18) (di T).toList=w1 at HL⊢;go_wp2_with (refine zsU rfl 158 _ rfl p 39 rfl (p7 R1.told) _ HL.o.rp.zkH underlying158 rfl (by rw[zac];rfl) ?_)
 go_loopw [18] (fun u wr=>C9 w wr w.1.size p C R1 T/\∃ j:Nat,j<=3/\u=iQ j/\Hid (o8 R1.told k T j=false)) (fun u _=>3-(intOf u).toNat)
 case atStart=>exact⟨HL.o,0,oQ,rfl,rfl⟩
 case round=>
  obtain⟨hL,j,hj,rfl,HS⟩:=hrel;have J6:=ae hL;clear hL;by_cases xT:j<3
  ·have kq:(j:Int)<3:=oQ;have s9:=fun wx=>zlL wx R1.told j xT
   obtain⟨U,hU⟩:∃ U,Hid (R1.told j=U):=eQ;rw[hU.o]at s9;have fN:Hid (lR (wr.alloc (.cells (di fun _=>0) 157)) wr.1.size (fun _=>0)):=ae (aU _ _);obtain⟨bk,Au⟩:∃ b,((j:Int)==(k:Int))=b:=⟨_,rfl⟩;have zag:(j==k)=bk:=by rw[<-Au,X7,YB,YB];omega
   have J7:((j:Int) !=(k:Int))=!bk:=by rw[<-Au];rfl
   have cZ:Hid (o8 R1.told k T (j+1)=(!bk&&ve U T)):=ae (by unfold o8;rw[HS.o,zag,hU.o,Bool.false_or]);obtain⟨be,Da⟩:∃ b,Hid (ve U T=b):=eQ;rw[Da.o]at cZ;clear zag;go_wp2_with (refine zlG rfl _ _ rfl wr.1.size U rfl rfl (fun _=>0) fN.o ?_)
   intro w3 lN;have hL3:C9 w w3 w.1.size p C R1 T:=J6.o.below (((YS wr.1.size wr).alloc lQ _).trans (lN.o.2.2 _ lQ));have yK:=ae hL3;have HU3:=ae lN.o.1;clear lN hL3 J6 fN s9;cases bk
   ·cases be
    ·rw[Bool.and_false]at cZ;go_wp2_with (first
      |(refine J5 rQ _ rfl wr.heap.size rfl U HU3.out ?_)
      |(refine J5 rQ _ rfl w.heap.size rfl T yK.out.kn ?_)
      |(refine zaf rQ _ _ rfl U T rfl rfl ?_;rw[Da.out]))
     go_roundw
     case rel=>exact⟨yK.o,j+1,oQ,by go_num,cZ⟩
     case measure=>simp[intOf];omega
    ·rw[Bool.not_false,Bool.and_self]at cZ;have HT3:Hid (o8 R1.told k T 3=true):=ae (zlM cZ.o oQ);have bO:=zad p C R1 (T 0) X w3 yK.o.rp;have tB:=ae bO;have t0:w3.cell? (aQ w.1.size 0)=some (iQ (T 0)):=yK.o.kn.at oQ;clear bO;go_wp2_with (first
      |(refine J5 rQ _ rfl wr.heap.size rfl U HU3.out ?_)
      |(refine J5 rQ _ rfl w.heap.size rfl T yK.out.kn ?_)
      |(refine zaf rQ _ _ rfl U T rfl rfl ?_;rw[Da.out])
      |(refine zsU rfl 34 _ rfl w.heap.size 1 rfl (aB X).toList _ (yK.out.kn.state hX) underlying34 rfl (by rw[iM];rfl) ?_)
      |(go_at_call 196;refine tB.out.mono ?_;rintro e w4 ⟨rfl,BI,jS⟩))
     refine Zm (results_none rfl _ _ _) rfl ?_;exact⟨rfl,by rw[HE1.o HT3.o];exact BI,yK.o.old.then jS (fun _ _ e=>e)⟩
   ·rw[zr4,Bool.false_and]at cZ;go_wp2
    go_roundw
    case rel=>exact⟨yK.o,j+1,oQ,by go_num,cZ⟩
    case measure=>simp[intOf];omega
  ·have e3:j=3:=oQ;subst e3;go_wp2
   go_end0
   exact⟨rfl,by rw[CP.o HS.o];exact J6.o.rp,J6.o.old⟩
end Go.Proofs.YtaablbmgagiajabGreatDoor
