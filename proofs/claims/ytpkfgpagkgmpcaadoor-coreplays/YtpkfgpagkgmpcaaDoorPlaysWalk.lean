/- The walk of triumvirlaw.CorePlays at a layout that may be: it says yes. -/
import Derived.Test.YtpkfgpagkgmpcaaDoorPlaysMath
import Derived.Test.YtpkfgpagkgmpcaaDoorPlaysBad
import Derived.Test.YtpkfgpagkgmpcaaDoorPlaysEq
import Derived.Test.YtpkfgpagkgmpcaaDoorPlayLay
import Derived.Test.YtpkfgpagkgmpcaaDoorRefStep
import Derived.Deep.DeepCutAuto
namespace Go.Proofs.YtpkfgpagkgmpcaaDoor
open Go.RowKit Go.Deep

/-- What is seen, one input after another, in memory. -/
def InAt (w : World) (a : Option Addr) (len : Nat) : Prop := ∀ i, i < len → ∃ b off x y, a = some ⟨b, off, none⟩ ∧ b < w.heap.size ∧ w.cell? ⟨b, off + i * 2, none⟩ = some (.int .i64 x) ∧ w.cell? ⟨b, off + i * 2 + 1, none⟩ = some (.int .i64 y) ∧ (-9223372036854775808 ≤ x ∧ x < 9223372036854775808) ∧ (-9223372036854775808 ≤ y ∧ y < 9223372036854775808)

/-- What holds from input to input: what lay there ahead of the reference's core is as it was; the state, and what the reference knows. -/
structure QInv (wb wr : World) (bs pr sn d n b off cp gr cr : Nat) (bm : Nat → Nat) (X Y : St) : Prop where
  old : Below wb.heap.size wb wr
  st : StIs wr bs X
  ref : RefIs wr pr (sn : Int) (d : Int) n b off cp gr cr bm Y
  lg : wb.heap.size ≤ gr
  lm : ∀ i, i < n → wb.heap.size ≤ bm i
  lb : wb.heap.size ≤ bs

theorem QInv.far {wb wr : World} {bs pr sn d n b off cp gr cr : Nat} {bm : Nat → Nat} {X Y : St} (h : QInv wb wr bs pr sn d n b off cp gr cr bm X Y) (hb : b < wb.heap.size) : Far wr.heap.size gr n b bm :=
  ⟨Nat.lt_of_lt_of_le hb h.old.size, h.ref.glt, by have := h.lg; omega, fun i hi => by have := h.lm i hi; omega, fun i hi => (h.ref.maps i hi).lt⟩
theorem QInv.below {wb wr wx : World} {bs pr sn d n b off cp gr cr : Nat} {bm : Nat → Nat} {X Y : St} (h : QInv wb wr bs pr sn d n b off cp gr cr bm X Y) (hB : Below wr.heap.size wr wx) : QInv wb wx bs pr sn d n b off cp gr cr bm X Y :=
  ⟨h.old.trans (hB.mono h.old.size), (hB.block _ h.st.lt).trans h.st, h.ref.below hB, h.lg, h.lm, h.lb⟩
theorem QInv.drewN {wb wr : World} {bs pr sn d n b off cp gr cr : Nat} {bm : Nat → Nat} {X Y : St} (h : QInv wb wr bs pr sn d n b off cp gr cr bm X Y) (k : Nat) : QInv wb (wr.drewN k) bs pr sn d n b off cp gr cr bm X Y :=
  ⟨below_drewN h.old k, h.st, h.ref.same fun _ _ => rfl, h.lg, h.lm, h.lb⟩
theorem QInv.turn {wb wr wx : World} {bs pr sn d n b off cp gr cr : Nat} {bm bm' : Nat → Nat} {X Y Y' : St} (h : QInv wb wr bs pr sn d n b off cp gr cr bm X Y) (ht : Turns wr wx gr n bm) (hr : RefIs wx pr (sn : Int) (d : Int) n b off cp gr cr bm' Y') (ho : ∀ i, i < n → (∃ j, j < n ∧ bm' i = bm j) ∨ wr.heap.size ≤ bm' i) :
    QInv wb wx bs pr sn d n b off cp gr cr bm' X Y' := by
  obtain ⟨cs, h0, _⟩ := h.ref.row
  have hbg : bs ≠ gr := fun e => by have := h.st; unfold StIs at this; rw [e, h0] at this; injection this with e1; injection e1 with _ e2; exact absurd e2 (by decide)
  refine ⟨⟨ht.os.trans h.old.os, ht.tape.trans h.old.tape, ht.output.trans h.old.output, Nat.le_trans h.old.size ht.size, fun k hk => (ht.block k (Nat.lt_of_lt_of_le hk h.old.size) (by have := h.lg; omega) (fun i hi => by have := h.lm i hi; omega)).trans (h.old.block k hk)⟩, ?_, hr, h.lg, fun i hi => ?_, h.lb⟩
  · exact (ht.block bs h.st.lt hbg (fun i hi e => by have := h.ref.maps i hi; rw [e] at this; exact this.notCells h.st)).trans h.st
  · rcases ho i hi with ⟨j, hj, e⟩ | e
    · rw [e]; exact h.lm j hj
    · have := h.old.size; omega
theorem QInv.loose {wb wr wx : World} {bs pr sn d n b off cp gr cr : Nat} {bm : Nat → Nat} {X Y : St} (h : QInv wb wr bs pr sn d n b off cp gr cr bm X Y) (ht : Turns wr wx gr n bm) : Below wb.heap.size wb wx ∧ StIs wx bs X := by
  obtain ⟨cs, h0, _⟩ := h.ref.row
  have hbg : bs ≠ gr := fun e => by have := h.st; unfold StIs at this; rw [e, h0] at this; injection this with e1; injection e1 with _ e2; exact absurd e2 (by decide)
  exact ⟨⟨ht.os.trans h.old.os, ht.tape.trans h.old.tape, ht.output.trans h.old.output, Nat.le_trans h.old.size ht.size, fun k hk => (ht.block k (Nat.lt_of_lt_of_le hk h.old.size) (by have := h.lg; omega) (fun i hi => by have := h.lm i hi; omega)).trans (h.old.block k hk)⟩,
    (ht.block bs h.st.lt hbg (fun i hi e => by have := h.ref.maps i hi; rw [e] at this; exact this.notCells h.st)).trans h.st⟩
/-- The state alone is written. -/
theorem QInv.put {wb wr : World} {bs pr sn d n b off cp gr cr : Nat} {bm : Nat → Nat} {X Y : St} (h : QInv wb wr bs pr sn d n b off cp gr cr bm X Y) (Z : St) : QInv wb (wr.setRow bs (stCells Z)) bs pr sn d n b off cp gr cr bm Z Y := by
  obtain ⟨cs, h0, _⟩ := h.ref.row
  have hbg : gr ≠ bs := fun e => by have := h.st; unfold StIs at this; rw [← e, h0] at this; injection this with e1; injection e1 with _ e2; exact absurd e2 (by decide)
  have hbp : pr ≠ bs := fun e => by have := h.st; unfold StIs at this; rw [← e, h.ref.blk] at this; injection this with e1; injection e1 with _ e2; exact absurd e2 (by decide)
  refine ⟨below_row h.old h.lb _, row_same h.st Z, ⟨(row_other _ _ _ _ hbp).trans h.ref.blk, ?_, h.ref.cap, fun i hi => (h.ref.maps i hi).same (row_other _ _ _ _ (fun e => by have := h.ref.maps i hi; rw [e] at this; exact this.notCells h.st)), h.ref.inj⟩, h.lg, h.lm, h.lb⟩
  obtain ⟨cs, h0, h1⟩ := h.ref.row
  exact ⟨cs, (row_other _ _ _ _ hbg).trans h0, h1⟩

/-- Another state is written. -/
theorem QInv.row {wb wr : World} {bs pr sn d n b off cp gr cr : Nat} {bm : Nat → Nat} {X Y Z : St} (h : QInv wb wr bs pr sn d n b off cp gr cr bm X Y) {N' : Nat} (hz : StIs wr N' Z) (hne : N' ≠ bs) (hge : wb.heap.size ≤ N') (W : St) : QInv wb (wr.setRow N' (stCells W)) bs pr sn d n b off cp gr cr bm X Y := by
  obtain ⟨cs, h0, h1⟩ := h.ref.row
  have hbg : gr ≠ N' := fun e => by have := hz; unfold StIs at this; rw [← e, h0] at this; injection this with e1; injection e1 with _ e2; exact absurd e2 (by decide)
  have hbp : pr ≠ N' := fun e => by have := hz; unfold StIs at this; rw [← e, h.ref.blk] at this; injection this with e1; injection e1 with _ e2; exact absurd e2 (by decide)
  exact ⟨below_row h.old hge _, (row_other _ _ _ _ (fun e => hne e.symm)).trans h.st, ⟨(row_other _ _ _ _ hbp).trans h.ref.blk, ⟨cs, (row_other _ _ _ _ hbg).trans h0, h1⟩, h.ref.cap, fun i hi => (h.ref.maps i hi).same (row_other _ _ _ _ (fun e => by have := h.ref.maps i hi; rw [e] at this; exact this.notCells hz)), h.ref.inj⟩, h.lg, h.lm, h.lb⟩
/-- A whole state that is read, in a region that draws its order. -/
theorem yields_st {ops : Array Oper} {S' : World → Prop} {op : Oper} {a : Act} (hw : Region.wanted op (yielded ops a.tmps) = true) (x : Operand) (ho : op.op = .load 49 x)
    (b : Nat) (hx : a.eval x = .pointer (some ⟨b, 0, none⟩)) (S : St) (hS : ∀ w, S' w → StIs w b S) : YieldsIf Tryd.prog ops S' op (.agg (stCells S)) a :=
  .inl ⟨hw, fun w h => by
    unfold execOp
    simp only [ho, hx, Instr.loadAt, Instr.sureAddr, Sem.run_bind, Sem.run_pure, Result.andThen_ok, run_loadVar_row (P := Tryd.prog) w b _ 49 _ _ _ (hS w h) Tryd.underlying49 rfl (by rw [stateInfo]; rfl)]⟩

theorem yields_neq {ops : Array Oper} {S' : World → Prop} {op : Oper} {a : Act} (hw : Region.wanted op (yielded ops a.tmps) = true) (x y : Operand) (ho : op.op = .binOp .neq 49 x y 49)
    (S : St) (hx : a.eval x = .agg (stCells S)) (hy : a.eval y = .agg (stCells S)) : YieldsIf Tryd.prog ops S' op (.bool false) a :=
  .inl ⟨hw, fun w _ => by
    have h := neqState w (stG S)
    rw [stG_cells] at h
    unfold execOp
    simp only [ho, hx, hy]
    have hq : (eqGuard BinOp.neq 49 x y (.agg (stCells S)) (.agg (stCells S))).run Tryd.prog w = .ok () w := by first | kernel_rfl | (simp [eqGuard]; done) | (unfold eqGuard; split <;> first | rfl | simp_all)
    (simp only [Sem.run_bind, hq, h, Result.andThen_ok, Sem.run_pure])⟩

theorem wpList_store_g {ops : Array Oper} {rest : List Oper} {op : Oper} {a : Act} {w : World} {Q : Exit → Act → World → Prop} (hgd : op.guard = none) (x y : Operand) (ho : op.op = .store 49 x y)
    (b : Nat) (G : GS) (hx : a.eval x = .pointer (some ⟨b, 0, none⟩)) (hy : a.eval y = .agg (gCells G)) (S : St) (hS : StIs w b S)
    (h : wpList Tryd.prog ops Q rest (a.put op.dst undef) (w.setRow b (gCells G))) : wpList Tryd.prog ops Q (op :: rest) a w :=
  wpList_plain hgd fun _ hK => wp_store_row _ x y ho b _ hx hy _ _ hS (by rw [stateInfo]; rfl) rfl (gOne G) (hK _ _ h)

theorem fit_set (n : Nat) (x : Int) : setTo (fun i => (u64 x).testBit i) n = fitN n x := by
  apply Nat.eq_of_testBit_eq
  intro k
  rw [setTo_bit, fitN_bit]

set_option maxHeartbeats 8000000 in
set_option maxRecDepth 30000 in
theorem plays_ok (sn d b off n cp : Nat) (zs : List Int) (ai : Option Addr) (li ci : Nat) (G : GS) (w : World) (hok : checkF (sn : Int) zs (d : Int) = (0, -1)) (hn : zs.length = n) (hcp : n ≤ cp) (hb : b < w.heap.size) (hrow : Row w b off zs) (hin : InAt w ai li) (hli : li ≤ 100) (hg : GIn G) (h8 : ∀ k, 8 ≤ k → G.used k = 0 ∧ G.idle k = 0) :
    Calls Tryd.prog 4 #[.agg #[.int .i64 (sn : Int), .slice (some ⟨b, off, none⟩) n cp, .int .i64 (d : Int)], .slice ai li ci, .agg (gCells G)] w fun e w' => e = .returned (.bool true) ∧ Below w.heap.size w w' := by
  have hr0 := range_pos hok
  unfold rangeB at hr0
  simp only [Bool.and_eq_true, inB_iff] at hr0
  obtain ⟨⟨⟨bs1, bs2⟩, b21, b22⟩, bd1, bd2⟩ := hr0
  have hn8 : n ≤ 8 := by omega
  have hn1 : 1 ≤ n := by omega
  have hsn : sn ≤ 12 := by omega
  clear b21 b22 bs1 bs2 bd1
  have hB0 : Below w.heap.size w ((w.alloc (.cells #[.int .i64 (sn : Int), .slice (some ⟨b, off, none⟩) n cp, .int .i64 (d : Int)] 24)).alloc (.cells (gCells G) 49)) := ((Below.refl _ _).alloc (Nat.le_refl _) _).alloc (by simp) _
  have hnew := new_ok (sn : Int) (d : Int) b off n cp zs _ hn hok (Nat.lt_of_lt_of_le hb hB0.size) (hrow.below hb hB0) hcp
  have hck := fun (wx : World) (hB : Below w.heap.size w wx) => refCheck_any (sn : Int) (d : Int) (some ⟨b, off, none⟩) n cp zs wx (IsSl.below ⟨hn, hcp, .inr ⟨b, off, rfl, hb, hrow⟩⟩ hB)
  rw [hok] at hck
  have HNEW := hide hnew
  have HCK := hide hck
  have HB0 := hide hB0
  have HROW := hide hrow
  have HIN := hide hin
  have HOK := hide hok
  have HG := hide hg
  have H8 := hide h8
  clear hnew hck hB0 hrow hin hok hg h8
  go_enter Tryd.func4, Tryd.ntmps4
  go_wp2_with fail
  refine HNEW.out.mono ?_
  rintro e w1 ⟨⟨p, g, cg, M, hp, hgg, hM, rfl, hK⟩, hB1⟩
  have hq : w1.heap[w.heap.size]? = some (.cells #[.int .i64 (sn : Int), .slice (some ⟨b, off, none⟩) n cp, .int .i64 (d : Int)] 24 (0, 0)) := (hB1.block _ (by simp; omega)).trans ((Below.heap_alloc _ _ _ (by simp)).trans (blk_new _ _))
  have hq2 : GIs w1 (w.heap.size + 1) G := by
    refine (hB1.block _ (by simp)).trans ?_
    have := blk_new (w.alloc (.cells #[.int .i64 (sn : Int), .slice (some ⟨b, off, none⟩) n cp, .int .i64 (d : Int)] 24)) (.cells (gCells G) 49)
    simpa using this
  have hB1' : Below w.heap.size w w1 := HB0.out.trans (hB1.mono (by simp; omega))
  have l0 : w1.cell? ⟨w.heap.size, 0, none⟩ = some (.int .i64 (sn : Int)) := (blk_cell hq 0).trans rfl
  have l1 : w1.cell? ⟨w.heap.size, 1, none⟩ = some (.slice (some ⟨b, off, none⟩) n cp) := (blk_cell hq 1).trans rfl
  have l2 : w1.cell? ⟨w.heap.size, 2, none⟩ = some (.int .i64 (d : Int)) := (blk_cell hq 2).trans rfl
  have HQ := hide hq
  have HQ2 := hide hq2
  have HB1 := hide hB1'
  have HK1 := hide hK
  clear hq hq2 hB1 hB1' hK HNEW HB0 hp hgg hM
  go_wp2_with fail
  refine (unhide HCK _ HB1.out).mono ?_
  rintro e w2 ⟨rfl, hB2⟩
  have hB3 : Below w1.heap.size w1 (w2.alloc (.cells #[.int .i64 0, .int .i64 (-1)] 29)) := hB2.alloc hB2.size _
  obtain ⟨wb, hwb⟩ : ∃ wb, Hid (w2.alloc (.cells #[.int .i64 0, .int .i64 (-1)] 29) = wb) := ⟨_, hide rfl⟩
  rw [hwb.out] at hB3
  have hKb := HK1.out.below HK1.out.plt HK1.out.glt HK1.out.mlt hB3
  have hBb : Below w.heap.size w wb := HB1.out.trans (hB3.mono HB1.out.size)
  have hQb : wb.heap[w.heap.size]? = some (.cells #[.int .i64 (sn : Int), .slice (some ⟨b, off, none⟩) n cp, .int .i64 (d : Int)] 24 (0, 0)) := (hB3.block _ (blk_lt HQ.out)).trans HQ.out
  have hQ2b : GIs wb (w.heap.size + 1) G := HQ2.out.below HQ2.out.lt hB3
  have hNb : w.heap.size + 1 < wb.heap.size := blk_lt hQ2b
  have m0 : w2.cell? ⟨w.heap.size, 0, none⟩ = some (.int .i64 (sn : Int)) := (hB2.cell (p := ⟨w.heap.size, 0, none⟩) (blk_lt HQ.out)).trans l0
  have m1 : w2.cell? ⟨w.heap.size, 1, none⟩ = some (.slice (some ⟨b, off, none⟩) n cp) := (hB2.cell (p := ⟨w.heap.size, 1, none⟩) (blk_lt HQ.out)).trans l1
  have m2 : w2.cell? ⟨w.heap.size, 2, none⟩ = some (.int .i64 (d : Int)) := (hB2.cell (p := ⟨w.heap.size, 2, none⟩) (blk_lt HQ.out)).trans l2
  have hN2 : w.heap.size < w2.heap.size := Nat.lt_of_lt_of_le (blk_lt HQ.out) hB2.size
  have HKB := hide hKb
  have HBB := hide hBb
  have HQB := hide hQb
  have HQ2B := hide hQ2b
  clear hKb hBb hQb hQ2b hB2 hB3 l0 l1 l2 HQ HQ2 HB1 HK1 HCK
  go_wp2_with fail
  rw [hwb.out]
  refine (newCore_any (sn : Int) (d : Int) n b off cp wb hn1 hn8).mono ?_
  rintro e wn ⟨⟨pr, gr, cr, bm0, hpr, hgr, hbm, rfl, hR⟩, hBn⟩
  clear m0 m1 m2 hwb
  have hbw : b < wb.heap.size := Nat.lt_of_lt_of_le hb HBB.out.size
  have hQ0 : QInv wb (wn.alloc (.cells (stCells st0) 49)) wn.heap.size pr sn d n b off cp gr cr bm0 st0 st0 := by
    have hBa : Below wn.heap.size wn (wn.alloc (.cells (stCells st0) 49)) := (Below.refl _ _).alloc (Nat.le_refl _) _
    exact ⟨hBn.trans (hBa.mono hBn.size), blk_new _ _, hR.below hBa, hgr, hbm, hBn.size⟩
  have hcon : ∀ wx, Below wb.heap.size wb wx → GIs wx (w.heap.size + 1) G ∧ Row wx b off zs ∧ CoreIs wx p (sn : Int) (d : Int) n zs g cg M ∧ wx.heap[w.heap.size]? = some (.cells #[.int .i64 (sn : Int), .slice (some ⟨b, off, none⟩) n cp, .int .i64 (d : Int)] 24 (0, 0)) := fun wx hx =>
    ⟨HQ2B.out.below HQ2B.out.lt hx, (HROW.out.below hb HBB.out).below hbw hx, HKB.out.below HKB.out.plt HKB.out.glt HKB.out.mlt hx, (hx.block _ (blk_lt HQB.out)).trans HQB.out⟩
  have HCON := hide hcon
  have hld := load_any pr sn d n b off cp gr cr bm0 zs G _ hQ0.ref (hcon _ hQ0.old).2.1 (hQ0.far hbw) hn hcp HOK.out HG.out
  have hg1 := (hcon _ hQ0.old).1
  have HLD := hide hld
  have HG1 := hide hg1
  have HQ0 := hide hQ0
  have hbs : wb.heap.size ≤ wn.heap.size := hBn.size
  clear hld hg1 hQ0 hcon hR hBn hpr hgr hbm HQ2B HQB HKB
  cases hRB : rightB zs d G
  · rw [hRB] at HLD
    go_wp2_with (first | (refine wpList_load_g rfl _ rfl (w.heap.size + 1) rfl G HG1.out ?_))
    refine HLD.out.mono ?_
    rintro e w4 ⟨rfl, ht4, _⟩
    obtain ⟨ho4, hs4⟩ := HQ0.out.loose ht4
    have HO4 := hide ho4
    have HS4 := hide hs4
    clear ht4 ho4 hs4 HLD HG1 HQ0
    have hri := right_any p (sn : Int) d n zs g cg M G w4 (HCON.out _ HO4.out).2.2.1
    rw [hRB] at hri
    have HRI := hide hri
    clear hri
    go_wp2_with (first | (refine wpList_load_g rfl _ rfl (w.heap.size + 1) rfl G (HCON.out _ HO4.out).1 ?_))
    refine HRI.out.mono ?_
    rintro e w5 ⟨rfl, hB5⟩
    have ho5 := HO4.out.trans (hB5.mono HO4.out.size)
    have hs5 : StIs w5 wn.heap.size st0 := (hB5.block _ HS4.out.lt).trans HS4.out
    have le := (HCON.out _ ho5).2.2.2
    have m0 : w5.cell? ⟨w.heap.size, 0, none⟩ = some (.int .i64 (sn : Int)) := (blk_cell le 0).trans rfl
    have m1 : w5.cell? ⟨w.heap.size, 1, none⟩ = some (.slice (some ⟨b, off, none⟩) n cp) := (blk_cell le 1).trans rfl
    have m2 : w5.cell? ⟨w.heap.size, 2, none⟩ = some (.int .i64 (d : Int)) := (blk_cell le 2).trans rfl
    have HO5 := hide ho5
    have HS5 := hide hs5
    clear ho5 hs5 le hB5 HRI HO4 HS4
    go_wp2_with fail
    refine (newCore_any (sn : Int) (d : Int) n b off cp w5 hn1 hn8).mono ?_
    rintro e w6 ⟨⟨pr2, gr2, cr2, bm2, hpr2, hgr2, hbm2, rfl, hR2⟩, hB6⟩
    have HQ6 : Hid (QInv wb w6 wn.heap.size pr2 sn d n b off cp gr2 cr2 bm2 st0 st0) := ⟨HO5.out.trans (hB6.mono HO5.out.size), (hB6.block _ HS5.out.lt).trans HS5.out, hR2, Nat.le_trans HO5.out.size hgr2, fun i hi => Nat.le_trans HO5.out.size (hbm2 i hi), hbs⟩
    have HGD : Hid (Good (rt zs) n (1000 + ((0 : Nat) : Int)) st0) := ⟨(good0 (rt zs) n).set, (good0 (rt zs) n).apart, (good0 (rt zs) n).used, (good0 (rt zs) n).rest, fun k => ⟨Int.le_refl _, by show (0 : Int) ≤ _; omega⟩⟩
    clear hR2 hB6 hpr2 hgr2 hbm2 HO5 HS5 m0 m1 m2
    go_wp2
    go_loopw [13] (fun i wr => ∃ k : Nat, k ≤ li ∧ i = .int .i64 k ∧ ∃ bm S, QInv wb wr wn.heap.size pr2 sn d n b off cp gr2 cr2 bm S S ∧ Good (rt zs) n (1000 + (k : Int)) S) (fun i _ => li - (intOf i).toNat)
    case atStart => exact ⟨0, Nat.zero_le _, rfl, _, _, HQ6.out, HGD.out⟩
    case round =>
      clear HQ6 HGD
      obtain ⟨k, hk, rfl, bm, S, hQ, hGd⟩ := hrel
      by_cases hlt : k < li
      · obtain ⟨bi, oi, x, y, rfl, hbi, hx, hy, ⟨hx1, hx2⟩, hy1, hy2⟩ := unhide HIN k hlt
        have hs20 : ∀ wx, Below wb.heap.size wb wx → wx.cell? ⟨w.heap.size, 0, none⟩ = some (.int .i64 (sn : Int)) ∧ wx.cell? ⟨w.heap.size, 1, none⟩ = some (.slice (some ⟨b, off, none⟩) n cp) ∧ wx.cell? ⟨w.heap.size, 2, none⟩ = some (.int .i64 (d : Int)) ∧ wx.cell? ⟨bi, oi + k * 2, none⟩ = some (.int .i64 x) ∧ wx.cell? ⟨bi, oi + k * 2 + 1, none⟩ = some (.int .i64 y) := fun wx hwx => by
          have hl := (HCON.out wx hwx).2.2.2
          have hw := HBB.out.trans (hwx.mono HBB.out.size)
          exact ⟨(blk_cell hl 0).trans rfl, (blk_cell hl 1).trans rfl, (blk_cell hl 2).trans rfl, (hw.cell (p := ⟨bi, oi + k * 2, none⟩) hbi).trans hx, (hw.cell (p := ⟨bi, oi + k * 2 + 1, none⟩) hbi).trans hy⟩
        obtain ⟨c, hc⟩ : ∃ c, Hid (fitN sn x = c) := ⟨_, hide rfl⟩
        obtain ⟨v, hv⟩ : ∃ v, Hid (fitN n y = v) := ⟨_, hide rfl⟩
        have hc4 : c < 4096 := by rw [← hc.out]; exact Nat.lt_of_lt_of_le (fitN_lt _ _) (Nat.pow_le_pow_right (n := 2) (by decide) hsn)
        have hv8 : v < 256 := by rw [← hv.out]; exact Nat.lt_of_lt_of_le (fitN_lt _ _) (Nat.pow_le_pow_right (n := 2) (by decide) hn8)
        obtain ⟨NX, hNX⟩ : ∃ NX, Hid (nextF (rt zs) (conf zs) n d c v S = NX) := ⟨_, hide rfl⟩
        obtain ⟨out, hout⟩ : ∃ out, Hid (outF (rt zs) (conf zs) n d c v S = out) := ⟨_, hide rfl⟩
        have hfit : ∀ wx, Hid (QInv wb wx wn.heap.size pr2 sn d n b off cp gr2 cr2 bm S S) → Calls Tryd.prog 14 #[.agg #[.int .i64 (sn : Int), .slice (some ⟨b, off, none⟩) n cp, .int .i64 (d : Int)], .agg #[.int .i64 x, .int .i64 y]] wx fun e w' => e = .returned (.agg #[.int .i64 (c : Int), .int .i64 (v : Int)]) ∧ (w'.cell? ⟨w.heap.size, 0, none⟩ = some (.int .i64 (sn : Int)) ∧ w'.cell? ⟨w.heap.size, 1, none⟩ = some (.slice (some ⟨b, off, none⟩) n cp) ∧ w'.cell? ⟨w.heap.size, 2, none⟩ = some (.int .i64 (d : Int)) ∧ w'.cell? ⟨bi, oi + k * 2, none⟩ = some (.int .i64 x) ∧ w'.cell? ⟨bi, oi + k * 2 + 1, none⟩ = some (.int .i64 y)) ∧ Hid (QInv wb w' wn.heap.size pr2 sn d n b off cp gr2 cr2 bm S S) := by
          intro wx hq
          have := refFit_any sn (d : Int) x y (some ⟨b, off, none⟩) n cp wx hsn hn8 hx1 hx2 hy1 hy2
          rw [fit_set, fit_set, hc.out, hv.out] at this
          refine this.mono ?_
          rintro e w' ⟨he, hB⟩
          exact ⟨he, hs20 _ (hq.out.below hB).old, hq.out.below hB⟩
        have hstp : ∀ wx, Hid (QInv wb wx wn.heap.size pr2 sn d n b off cp gr2 cr2 bm S S) → Calls Tryd.prog 19 #[.pointer (some ⟨pr2, 0, none⟩), .agg #[.int .i64 (c : Int), .int .i64 (v : Int)]] wx fun e w' => e = .returned (.int .i64 (out : Int)) ∧ (w'.cell? ⟨w.heap.size, 0, none⟩ = some (.int .i64 (sn : Int)) ∧ w'.cell? ⟨w.heap.size, 1, none⟩ = some (.slice (some ⟨b, off, none⟩) n cp) ∧ w'.cell? ⟨w.heap.size, 2, none⟩ = some (.int .i64 (d : Int)) ∧ w'.cell? ⟨bi, oi + k * 2, none⟩ = some (.int .i64 x) ∧ w'.cell? ⟨bi, oi + k * 2 + 1, none⟩ = some (.int .i64 y)) ∧ Hid (∃ bm', QInv wb w' wn.heap.size pr2 sn d n b off cp gr2 cr2 bm' S NX) := by
          intro wx hq
          have := refStep_any pr2 sn d n b off cp gr2 cr2 bm zs c v S (1000 + (k : Int)) wx hq.out.ref (HCON.out _ hq.out.old).2.1 (hq.out.far hbw) hGd (by omega) hn hcp HOK.out hc4 hv8
          rw [hNX.out, hout.out] at this
          refine this.mono ?_
          rintro e w' ⟨he, ht, bm', hr, ho⟩
          have hq2 := hq.out.turn ht hr ho
          exact ⟨he, hs20 _ hq2.old, bm', hq2⟩
        have hcs : ∀ wx, Below wb.heap.size wb wx → Calls Tryd.prog 20 #[.pointer (some ⟨p, 0, none⟩), .agg (stCells S), .agg #[.int .i64 x, .int .i64 y]] wx fun e w' => e = .returned (.tuple #[.agg (stCells NX), .int .i64 (out : Int)]) ∧ Hid (Below wx.heap.size wx w') := by
          intro wx hwx
          have := step_any p sn d n zs g cg M x y S wx (HCON.out _ hwx).2.2.1 (good_ok HOK.out (by rw [hn]; exact hGd) (by omega))
          rw [hc.out, hv.out, hNX.out, hout.out] at this
          refine this.mono ?_
          rintro e w' ⟨he, hB⟩
          exact ⟨he, hB⟩
        have hGN : Good (rt zs) n (1000 + (k : Int) + 1) NX := by rw [← hNX.out]; exact next_good (by rw [← hn]; exact conf_conf HOK.out) hGd
        have hRN : (∀ j, j < n → NX.idle j < 1000) → rightB zs d (stG NX) = true := fun hi => by rw [← hNX.out]; exact next_right HOK.out hn hGd (by rw [hNX.out]; exact hi)
        have hUN : ∀ i, i < n → NX.used i < 2 ^ sn := fun i hi => by
          have h1 := wo_zero.1 (hGN.used i hi)
          have h2 := (rt_in HOK.out (show i < zs.length by omega)).2.1
          rw [Int.toNat_natCast] at h2
          have e : NX.used i &&& rt zs i = NX.used i := by
            apply Nat.eq_of_testBit_eq
            intro j
            rw [Nat.testBit_and]
            cases hj : (NX.used i).testBit j
            · rfl
            · rw [h1 j hj]; rfl
          rw [← e]
          exact Nat.lt_of_le_of_lt Nat.and_le_right h2
        have HFIT := hide hfit
        have HSTP := hide hstp
        have HCS := hide hcs
        have HS20 := hide hs20
        have HGN := hide hGN
        have HRN := hide hRN
        have HUN := hide hUN
        have HQ := hide hQ
        have hs := hs20 _ hQ.old
        obtain ⟨a0, a1, a2, a3, a4⟩ := hs
        clear hfit hstp hcs hs20 hGN hRN hUN hQ hGd hx hy hc hv
        have hk1 : (0 : Int) ≤ (k : Int) := by omega
        have hk2 : (k : Int) < (li : Int) := by omega
        go_wp2_with fail
        go_region_held3 (fun w' => w'.cell? ⟨w.heap.size, 0, none⟩ = some (.int .i64 (sn : Int)) ∧ w'.cell? ⟨w.heap.size, 1, none⟩ = some (.slice (some ⟨b, off, none⟩) n cp) ∧ w'.cell? ⟨w.heap.size, 2, none⟩ = some (.int .i64 (d : Int)) ∧ w'.cell? ⟨bi, oi + k * 2, none⟩ = some (.int .i64 x) ∧ w'.cell? ⟨bi, oi + k * 2 + 1, none⟩ = some (.int .i64 y)) (first | assumption | go_keep) (first | (go_at_call 14; refine (unhide HFIT _ (by first | assumption | exact HQ.out.drewN 1)).mono ?_; rintro e w6 ⟨rfl, hs6, HQ6⟩) | (go_at_call 19; refine (unhide HSTP _ (by assumption)).mono ?_; rintro e w7 ⟨rfl, hs7, HQ7⟩))
        obtain ⟨bm2, hQ7⟩ := HQ7.out
        have HQ8 := hide hQ7
        clear hQ7 HQ7 HQ6 HQ a0 a1 a2 a3 a4 hs6 hs7 HFIT HSTP
        go_wp2_with fail
        go_cut [15, 16] from 65 to 114 (fun q o wc => ∃ N', q = .pointer (some ⟨N', 0, none⟩) ∧ o = .int .i64 (out : Int) ∧ StIs wc N' NX ∧ ∃ bm', QInv wb wc wn.heap.size pr2 sn d n b off cp gr2 cr2 bm' S NX)
        case first =>
          have hss : ∀ wx, QInv wb wx wn.heap.size pr2 sn d n b off cp gr2 cr2 bm2 S NX → StIs wx wn.heap.size S ∧ wx.cell? ⟨bi, oi + k * 2, none⟩ = some (.int .i64 x) ∧ wx.cell? ⟨bi, oi + k * 2 + 1, none⟩ = some (.int .i64 y) := fun wx h => ⟨h.st, (HS20.out wx h.old).2.2.2.1, (HS20.out wx h.old).2.2.2.2⟩
          refine wp_region_held_drew (S := fun w' => StIs w' wn.heap.size S ∧ w'.cell? ⟨bi, oi + k * 2, none⟩ = some (.int .i64 x) ∧ w'.cell? ⟨bi, oi + k * 2 + 1, none⟩ = some (.int .i64 y)) (by kernel_rfl) (hss _ (HQ8.out.drewN 1)) (fun hHeld => ?_)
          refine wpAnyH_take (i := 0) (oi := _) (v := .pointer (some ⟨p, 0, none⟩)) rfl (by kernel_rfl) (by kernel_rfl) (by kernel_rfl) (fun _ _ _ h => h) (Or.inl ⟨by rfl, fun w _ => by go_simp⟩) hHeld ?_
          refine wpAnyH_take (i := 1) (oi := _) (v := .agg (stCells S)) rfl (by kernel_rfl) (by kernel_rfl) (by kernel_rfl) (fun _ _ _ h => h) (yields_st (by rfl) _ rfl _ rfl _ (fun w h => h.1)) hHeld ?_
          refine wpAnyH_take (i := 2) (oi := _) (v := .slice (some ⟨bi, oi, none⟩) li ci) rfl (by kernel_rfl) (by kernel_rfl) (by kernel_rfl) (fun _ _ _ h => h) (Or.inl ⟨by rfl, fun w _ => by go_simp⟩) hHeld ?_
          refine wpAnyH_take (i := 3) (oi := _) (v := .int .i64 (k : Int)) rfl (by kernel_rfl) (by kernel_rfl) (by kernel_rfl) (fun _ _ _ h => h) (Or.inl ⟨by rfl, fun w _ => by go_simp⟩) hHeld ?_
          refine wpAnyH_take (i := 4) (oi := _) (v := .pointer (some ⟨bi, oi + k * 2, none⟩)) rfl (by kernel_rfl) (by kernel_rfl) (by kernel_rfl) (fun _ _ _ h => h) (Or.inl ⟨by rfl, fun w _ => by go_simp⟩) hHeld ?_
          refine wpAnyH_take (i := 5) (oi := _) (v := .agg #[.int .i64 x, .int .i64 y]) rfl (by kernel_rfl) (by kernel_rfl) (by kernel_rfl) (fun _ _ _ h => h) (Or.inl ⟨by rfl, fun w h => by obtain ⟨_, h1, h2⟩ := h; go_simp⟩) hHeld ?_
          refine wpAnyH_ready (rs := [6, 10]) (by kernel_rfl) (by simp) ?_
          refine AllReadyH.cons (o := _) rfl (fun K hK => ?_) (AllReadyH.cons (o := _) rfl (fun K hK => ?_) AllReadyH.nil)
          · rw [if_pos (by rfl)]
            go_simp
            go_at_call 20
            refine (unhide HCS _ (HQ8.out.drewN 1).old).mono ?_
            rintro e w5 ⟨rfl, HB5⟩
            dsimp only
            have hV5 := (HQ8.out.drewN 1).below HB5.out
            refine hK.out _ _ (hss _ hV5) (fun hHeld => ?_)
            clear hK K
            refine wpAnyH_take (i := 7) (oi := _) (v := .tuple #[.agg (stCells NX), .int .i64 (out : Int)]) rfl (by kernel_rfl) (by kernel_rfl) (by kernel_rfl) (fun _ _ _ h => h) (Or.inl ⟨by rfl, fun w _ => by go_simp⟩) hHeld ?_
            refine wpAnyH_take (i := 8) (oi := _) (v := .agg (stCells NX)) rfl (by kernel_rfl) (by kernel_rfl) (by kernel_rfl) (fun _ _ _ h => h) (Or.inl ⟨by rfl, fun w _ => by go_simp⟩) hHeld ?_
            refine wpAnyH_take (i := 9) (oi := _) (v := .int .i64 (out : Int)) rfl (by kernel_rfl) (by kernel_rfl) (by kernel_rfl) (fun _ _ _ h => h) (Or.inl ⟨by rfl, fun w _ => by go_simp⟩) hHeld ?_
            refine wpAnyH_ready (rs := [10]) (by kernel_rfl) (by simp) ?_
            refine AllReadyH.cons (o := _) rfl (fun K hK => ?_) AllReadyH.nil
            rw [if_pos (by rfl)]
            go_simp
            have hV6 := hV5.below (show Below w5.heap.size w5 (w5.alloc (.cells (stCells st0) 49)) from (Below.refl _ _).alloc (Nat.le_refl _) _)
            have hz6 : StIs (w5.alloc (.cells (stCells st0) 49)) w5.heap.size st0 := blk_new _ _
            have hN6 : w5.heap.size ≠ wn.heap.size := by have := hV5.st.lt; omega
            have hN7 : wb.heap.size ≤ w5.heap.size := hV5.old.size
            refine hK.out _ _ (hss _ hV6) (fun hHeld => ?_)
            clear hK K
            refine wpAnyH_ready (rs := [11]) (by kernel_rfl) (by simp) ?_
            refine AllReadyH.cons (o := _) rfl (fun K hK => ?_) AllReadyH.nil
            rw [if_pos (by rfl)]
            refine wp_store_row _ _ _ rfl _ (stCells NX) rfl rfl _ _ hz6 (by rw [stateInfo]; rfl) rfl (oneCells NX) ?_
            have hV7 := hV6.row hz6 hN6 hN7 NX
            have hz7 := row_same hz6 NX
            refine hK.out _ _ (hss _ hV7) (fun hHeld => ?_)
            clear hK K
            refine wpAnyH_take (i := 12) (oi := _) (v := .int .i64 (out : Int)) rfl (by kernel_rfl) (by kernel_rfl) (by kernel_rfl) (fun _ _ _ h => h) (Or.inl ⟨by rfl, fun w _ => by go_simp⟩) hHeld ?_
            refine wpAnyH_done (by kernel_rfl) ?_ _
            go_wp2_with fail
            go_meet
            exact ⟨_, rfl, rfl, hz7, bm2, hV7⟩
          · rw [if_pos (by rfl)]
            go_simp
            have hN6 : w7.heap.size ≠ wn.heap.size := by have := HQ8.out.st.lt; omega
            have hN7 : wb.heap.size ≤ w7.heap.size := HQ8.out.old.size
            have hV5 := (HQ8.out.below (show Below w7.heap.size w7 (w7.alloc (.cells (stCells st0) 49)) from (Below.refl _ _).alloc (Nat.le_refl _) _)).drewN 1
            have hz5 : StIs ((w7.alloc (.cells (stCells st0) 49)).drewN 1) w7.heap.size st0 := blk_new _ _
            refine hK.out _ _ (hss _ hV5) (fun hHeld => ?_)
            clear hK K
            refine wpAnyH_ready (rs := [6]) (by kernel_rfl) (by simp) ?_
            refine AllReadyH.cons (o := _) rfl (fun K hK => ?_) AllReadyH.nil
            rw [if_pos (by rfl)]
            go_simp
            go_at_call 20
            refine (unhide HCS _ hV5.old).mono ?_
            rintro e w6 ⟨rfl, HB6⟩
            dsimp only
            have hV6 := hV5.below HB6.out
            have hz6 : StIs w6 w7.heap.size st0 := (HB6.out.block _ hz5.lt).trans hz5
            refine hK.out _ _ (hss _ hV6) (fun hHeld => ?_)
            clear hK K
            refine wpAnyH_take (i := 7) (oi := _) (v := .tuple #[.agg (stCells NX), .int .i64 (out : Int)]) rfl (by kernel_rfl) (by kernel_rfl) (by kernel_rfl) (fun _ _ _ h => h) (Or.inl ⟨by rfl, fun w _ => by go_simp⟩) hHeld ?_
            refine wpAnyH_take (i := 8) (oi := _) (v := .agg (stCells NX)) rfl (by kernel_rfl) (by kernel_rfl) (by kernel_rfl) (fun _ _ _ h => h) (Or.inl ⟨by rfl, fun w _ => by go_simp⟩) hHeld ?_
            refine wpAnyH_take (i := 9) (oi := _) (v := .int .i64 (out : Int)) rfl (by kernel_rfl) (by kernel_rfl) (by kernel_rfl) (fun _ _ _ h => h) (Or.inl ⟨by rfl, fun w _ => by go_simp⟩) hHeld ?_
            refine wpAnyH_ready (rs := [11]) (by kernel_rfl) (by simp) ?_
            refine AllReadyH.cons (o := _) rfl (fun K hK => ?_) AllReadyH.nil
            rw [if_pos (by rfl)]
            refine wp_store_row _ _ _ rfl _ (stCells NX) rfl rfl _ _ hz6 (by rw [stateInfo]; rfl) rfl (oneCells NX) ?_
            have hV7 := hV6.row hz6 hN6 hN7 NX
            have hz7 := row_same hz6 NX
            refine hK.out _ _ (hss _ hV7) (fun hHeld => ?_)
            clear hK K
            refine wpAnyH_take (i := 12) (oi := _) (v := .int .i64 (out : Int)) rfl (by kernel_rfl) (by kernel_rfl) (by kernel_rfl) (fun _ _ _ h => h) (Or.inl ⟨by rfl, fun w _ => by go_simp⟩) hHeld ?_
            refine wpAnyH_done (by kernel_rfl) ?_ _
            go_wp2_with fail
            go_meet
            exact ⟨_, rfl, rfl, hz7, bm2, hV7⟩
        case rest =>
          obtain ⟨N', rfl, rfl, hz, bm3, hQ9⟩ := hcut
          clear HQ8 HCS
          have HQ9 := hide hQ9
          have HZ := hide hz
          have HQA := hide (hQ9.put NX)
          clear hQ9 hz
          go_wp2_with (first | (refine wpList_load_st rfl _ rfl N' rfl NX HZ.out ?_) | (refine wpList_store_st rfl _ _ rfl wn.heap.size NX rfl rfl _ HQ9.out.st ?_))
          generalize wc.setRow wn.heap.size (stCells NX) = w9 at HQA ⊢
          clear HZ HQ9
          have hsta : ∀ wx, QInv wb wx wn.heap.size pr2 sn d n b off cp gr2 cr2 bm3 NX NX → Calls Tryd.prog 21 #[.pointer (some ⟨pr2, 0, none⟩)] wx fun e w' => e = .returned (.agg (stCells NX)) ∧ Hid (QInv wb w' wn.heap.size pr2 sn d n b off cp gr2 cr2 bm3 NX NX) := by
            intro wx hq
            refine (state_any pr2 sn (d : Int) n b off cp gr2 cr2 bm3 NX (rt zs) _ wx hq.ref HGN.out hn8 hsn HUN.out).mono ?_
            rintro e w' ⟨he, hB⟩
            exact ⟨he, hq.below hB⟩
          have HSTA := hide hsta
          clear hsta
          refine wp_region_held_drew (S := fun w' => StIs w' wn.heap.size NX) (by kernel_rfl) (HQA.out.drewN 1).st (fun hHeld => ?_)
          refine wpAnyH_take (i := 0) (oi := _) (v := .int .i64 (out : Int)) rfl (by kernel_rfl) (by kernel_rfl) (by kernel_rfl) (fun _ _ _ h => h) (Or.inl ⟨by rfl, fun w _ => by go_simp⟩) hHeld ?_
          refine wpAnyH_take (i := 1) (oi := _) (v := .int .i64 (out : Int)) rfl (by kernel_rfl) (by kernel_rfl) (by kernel_rfl) (fun _ _ _ h => h) (Or.inl ⟨by rfl, fun w _ => by go_simp⟩) hHeld ?_
          refine wpAnyH_take (i := 2) (oi := _) (v := .bool false) rfl (by kernel_rfl) (by kernel_rfl) (by kernel_rfl) (fun _ _ _ h => h) (Or.inl ⟨by rfl, fun w _ => by go_simp⟩) hHeld ?_
          refine wpAnyH_take (i := 3) (oi := _) (v := .bool false) rfl (by kernel_rfl) (by kernel_rfl) (by kernel_rfl) (fun _ _ _ h => h) (Or.inl ⟨by rfl, fun w _ => by go_simp⟩) hHeld ?_
          refine wpAnyH_take (i := 4) (oi := _) (v := .agg (stCells NX)) rfl (by kernel_rfl) (by kernel_rfl) (by kernel_rfl) (fun _ _ _ h => h) (yields_st (by kernel_rfl) _ rfl _ rfl _ (fun w h => h)) hHeld ?_
          refine wpAnyH_take (i := 5) (oi := _) (v := .pointer (some ⟨pr2, 0, none⟩)) rfl (by kernel_rfl) (by kernel_rfl) (by kernel_rfl) (fun _ _ _ h => h) (Or.inl ⟨by kernel_rfl, fun w _ => by go_simp⟩) hHeld ?_
          refine wpAnyH_ready (rs := [6]) (by kernel_rfl) (by simp) ?_
          refine AllReadyH.cons (o := _) rfl (fun K hK => ?_) AllReadyH.nil
          rw [if_pos (by kernel_rfl)]
          go_simp
          go_at_call 21
          refine (unhide HSTA _ (HQA.out.drewN 1)).mono ?_
          rintro e wa ⟨rfl, HQB2⟩
          dsimp only
          refine hK.out _ _ HQB2.out.st (fun hHeld => ?_)
          clear hK K
          refine wpAnyH_take (i := 7) (oi := _) (v := .bool false) rfl (by kernel_rfl) (by kernel_rfl) (by kernel_rfl) (fun _ _ _ h => h) (yields_neq (by kernel_rfl) _ _ rfl NX rfl rfl) hHeld ?_
          refine wpAnyH_take (i := 8) (oi := _) (v := .bool false) rfl (by kernel_rfl) (by kernel_rfl) (by kernel_rfl) (fun _ _ _ h => h) (Or.inl ⟨by kernel_rfl, fun w _ => by go_simp⟩) hHeld ?_
          refine wpAnyH_done (by kernel_rfl) ?_ _
          clear hHeld HQA HSTA
          go_wp2_with fail
          go_loop [17] (fun j => ∃ q : Nat, q ≤ n ∧ j = .int .i64 q ∧ Hid (∀ t, t < q → NX.idle t < 1000)) (fun j => n - (intOf j).toNat)
          case atStart => exact ⟨0, Nat.zero_le _, rfl, fun t ht => by omega⟩
          case round =>
            obtain ⟨q, hq, rfl, Hi⟩ := hrel
            have ll := (HCON.out _ HQB2.out.old).2.2.2
            have l1 : wa.cell? ⟨w.heap.size, 1, none⟩ = some (.slice (some ⟨b, off, none⟩) n cp) := (blk_cell ll 1).trans rfl
            by_cases hlq : q < n
            · have ci := HQB2.out.st.idle (show q < 8 by omega)
              obtain ⟨t, ht⟩ : ∃ t, Hid (NX.idle q = t) := ⟨_, hide rfl⟩
              rw [ht.out] at ci
              clear ll
              by_cases hbig : 1000 ≤ t
              · have hb1 : decide (1000 ≤ t) = true := by simpa using hbig
                go_wp2
                go_ret
                exact ⟨rfl, HBB.out.trans (HQB2.out.old.mono HBB.out.size)⟩
              · have hb1 : decide (1000 ≤ t) = false := by simpa using hbig
                go_wp2
                go_round
                case rel => exact ⟨q + 1, by omega, by go_num, fun t' ht' => by
                  by_cases e : t' = q
                  · subst e; rw [ht.out]; omega
                  · exact Hi.out t' (by omega)⟩
                case measure => simp [intOf]; omega
            · have hqn : q = n := by omega
              subst hqn
              have hri := right_any p (sn : Int) d q zs g cg M (stG NX) wa (HCON.out _ HQB2.out.old).2.2.1
              rw [HRN.out Hi.out] at hri
              have HRI := hide hri
              clear hri ll
              go_wp2_with (first | (refine wpList_load_st rfl _ rfl wn.heap.size rfl NX HQB2.out.st ?_))
              refine HRI.out.mono ?_
              rintro e wz ⟨rfl, hBz⟩
              have HQZ := hide (HQB2.out.below hBz)
              clear hBz
              go_wp2
              go_roundw
              case rel => exact ⟨k + 1, by omega, by go_num, bm3, NX, HQZ.out, by have := HGN.out; rw [show (1000 + ((k + 1 : Nat) : Int)) = 1000 + (k : Int) + 1 by omega]; exact this⟩
              case measure => simp [intOf]; omega
      · have ll := (HCON.out _ hQ.old).2.2.2
        have hkp := (HCON.out _ hQ.old).2.2.1
        have l0 : wr.cell? ⟨w.heap.size, 0, none⟩ = some (.int .i64 (sn : Int)) := (blk_cell ll 0).trans rfl
        have l1 : wr.cell? ⟨w.heap.size, 1, none⟩ = some (.slice (some ⟨b, off, none⟩) n cp) := (blk_cell ll 1).trans rfl
        have l2 : wr.cell? ⟨w.heap.size, 2, none⟩ = some (.int .i64 (d : Int)) := (blk_cell ll 2).trans rfl
        have hly := layout_any p (sn : Int) (d : Int) n zs g cg M wr hkp
        have HLY := hide hly
        have HQ := hide hQ
        clear hly hQ hGd ll hkp
        go_wp2_with fail
        refine HLY.out.mono ?_
        rintro e we ⟨⟨g2, c2, h1, h2, rfl, h3, hrw⟩, hBe⟩
        have hQe := HQ.out.below hBe
        have le := (HCON.out _ hQe.old).2.2.2
        have m0 : we.cell? ⟨w.heap.size, 0, none⟩ = some (.int .i64 (sn : Int)) := (blk_cell le 0).trans rfl
        have m1 : we.cell? ⟨w.heap.size, 1, none⟩ = some (.slice (some ⟨b, off, none⟩) n cp) := (blk_cell le 1).trans rfl
        have m2 : we.cell? ⟨w.heap.size, 2, none⟩ = some (.int .i64 (d : Int)) := (blk_cell le 2).trans rfl
        have hNe : w.heap.size < we.heap.size := blk_lt le
        have hRe := (HCON.out _ hQe.old).2.1
        have hBf : Below we.heap.size we (we.alloc (.cells #[.int .i64 (sn : Int), .slice (some ⟨g2, 0, none⟩) n c2, .int .i64 (d : Int)] 24)) := (Below.refl _ _).alloc (Nat.le_refl _) _
        have hsm := same_rows g2 0 b off c2 cp n zs _ hn hn8 (hrw.below h3 hBf) (hRe.below (Nat.lt_of_lt_of_le hbw hQe.old.size) hBf)
        have HSM := hide hsm
        have HFE := hide (HBB.out.trans ((hQe.old.trans (hBf.mono hQe.old.size)).mono HBB.out.size))
        clear hsm hBf hRe le hQe hBe hrw l0 l1 l2 HLY
        go_wp2_with (go_at_call 11; refine HSM.out.mono ?_; rintro e wf ⟨rfl, hBg⟩)
        go_ret
        exact ⟨rfl, HFE.out.trans (hBg.mono (by have := HFE.out.size; omega))⟩
  · rw [hRB] at HLD
    go_wp2_with (first | (refine wpList_load_g rfl _ rfl (w.heap.size + 1) rfl G HG1.out ?_))
    refine HLD.out.mono ?_
    rintro e w4 ⟨rfl, ht4, hr4⟩
    obtain ⟨bm1, hr5, ho5⟩ := hr4 (by trivial)
    have hQ4 := HQ0.out.turn ht4 hr5 ho5
    have HQ4 := hide hQ4
    clear ht4 hr4 hr5 ho5 hQ4 HLD HG1 HQ0
    have hri := right_any p (sn : Int) d n zs g cg M G w4 (HCON.out _ HQ4.out.old).2.2.1
    rw [hRB] at hri
    have HRI := hide hri
    clear hri
    go_wp2_with (first | (refine wpList_load_g rfl _ rfl (w.heap.size + 1) rfl G (HCON.out _ HQ4.out.old).1 ?_))
    refine HRI.out.mono ?_
    rintro e w5 ⟨rfl, hB5⟩
    have hQ5 := HQ4.out.below hB5
    have HQ5 := hide hQ5
    clear hQ5 hB5 HRI HQ4
    obtain ⟨hcells, hgood⟩ := right_state HOK.out hn HG.out H8.out hRB
    have HCELLS := hide hcells
    have HGD : Hid (Good (rt zs) n (1000 + ((0 : Nat) : Int)) (gSt G)) := hgood
    clear hcells hgood
    go_wp2_with (first | (refine wpList_load_g rfl _ rfl (w.heap.size + 1) rfl G (HCON.out _ HQ5.out.old).1 ?_) | (refine wpList_store_g rfl _ _ rfl wn.heap.size G rfl rfl _ HQ5.out.st ?_))
    have HQ6 : Hid (QInv wb (w5.setRow wn.heap.size (gCells G)) wn.heap.size pr sn d n b off cp gr cr bm1 (gSt G) (gSt G)) := by rw [HCELLS.out]; exact HQ5.out.put (gSt G)
    clear HQ5 HCELLS
    go_loopw [13] (fun i wr => ∃ k : Nat, k ≤ li ∧ i = .int .i64 k ∧ ∃ bm S, QInv wb wr wn.heap.size pr sn d n b off cp gr cr bm S S ∧ Good (rt zs) n (1000 + (k : Int)) S) (fun i _ => li - (intOf i).toNat)
    case atStart => exact ⟨0, Nat.zero_le _, rfl, _, _, HQ6.out, HGD.out⟩
    case round =>
      clear HQ6 HGD
      obtain ⟨k, hk, rfl, bm, S, hQ, hGd⟩ := hrel
      by_cases hlt : k < li
      · obtain ⟨bi, oi, x, y, rfl, hbi, hx, hy, ⟨hx1, hx2⟩, hy1, hy2⟩ := unhide HIN k hlt
        have hs20 : ∀ wx, Below wb.heap.size wb wx → wx.cell? ⟨w.heap.size, 0, none⟩ = some (.int .i64 (sn : Int)) ∧ wx.cell? ⟨w.heap.size, 1, none⟩ = some (.slice (some ⟨b, off, none⟩) n cp) ∧ wx.cell? ⟨w.heap.size, 2, none⟩ = some (.int .i64 (d : Int)) ∧ wx.cell? ⟨bi, oi + k * 2, none⟩ = some (.int .i64 x) ∧ wx.cell? ⟨bi, oi + k * 2 + 1, none⟩ = some (.int .i64 y) := fun wx hwx => by
          have hl := (HCON.out wx hwx).2.2.2
          have hw := HBB.out.trans (hwx.mono HBB.out.size)
          exact ⟨(blk_cell hl 0).trans rfl, (blk_cell hl 1).trans rfl, (blk_cell hl 2).trans rfl, (hw.cell (p := ⟨bi, oi + k * 2, none⟩) hbi).trans hx, (hw.cell (p := ⟨bi, oi + k * 2 + 1, none⟩) hbi).trans hy⟩
        obtain ⟨c, hc⟩ : ∃ c, Hid (fitN sn x = c) := ⟨_, hide rfl⟩
        obtain ⟨v, hv⟩ : ∃ v, Hid (fitN n y = v) := ⟨_, hide rfl⟩
        have hc4 : c < 4096 := by rw [← hc.out]; exact Nat.lt_of_lt_of_le (fitN_lt _ _) (Nat.pow_le_pow_right (n := 2) (by decide) hsn)
        have hv8 : v < 256 := by rw [← hv.out]; exact Nat.lt_of_lt_of_le (fitN_lt _ _) (Nat.pow_le_pow_right (n := 2) (by decide) hn8)
        obtain ⟨NX, hNX⟩ : ∃ NX, Hid (nextF (rt zs) (conf zs) n d c v S = NX) := ⟨_, hide rfl⟩
        obtain ⟨out, hout⟩ : ∃ out, Hid (outF (rt zs) (conf zs) n d c v S = out) := ⟨_, hide rfl⟩
        have hfit : ∀ wx, Hid (QInv wb wx wn.heap.size pr sn d n b off cp gr cr bm S S) → Calls Tryd.prog 14 #[.agg #[.int .i64 (sn : Int), .slice (some ⟨b, off, none⟩) n cp, .int .i64 (d : Int)], .agg #[.int .i64 x, .int .i64 y]] wx fun e w' => e = .returned (.agg #[.int .i64 (c : Int), .int .i64 (v : Int)]) ∧ (w'.cell? ⟨w.heap.size, 0, none⟩ = some (.int .i64 (sn : Int)) ∧ w'.cell? ⟨w.heap.size, 1, none⟩ = some (.slice (some ⟨b, off, none⟩) n cp) ∧ w'.cell? ⟨w.heap.size, 2, none⟩ = some (.int .i64 (d : Int)) ∧ w'.cell? ⟨bi, oi + k * 2, none⟩ = some (.int .i64 x) ∧ w'.cell? ⟨bi, oi + k * 2 + 1, none⟩ = some (.int .i64 y)) ∧ Hid (QInv wb w' wn.heap.size pr sn d n b off cp gr cr bm S S) := by
          intro wx hq
          have := refFit_any sn (d : Int) x y (some ⟨b, off, none⟩) n cp wx hsn hn8 hx1 hx2 hy1 hy2
          rw [fit_set, fit_set, hc.out, hv.out] at this
          refine this.mono ?_
          rintro e w' ⟨he, hB⟩
          exact ⟨he, hs20 _ (hq.out.below hB).old, hq.out.below hB⟩
        have hstp : ∀ wx, Hid (QInv wb wx wn.heap.size pr sn d n b off cp gr cr bm S S) → Calls Tryd.prog 19 #[.pointer (some ⟨pr, 0, none⟩), .agg #[.int .i64 (c : Int), .int .i64 (v : Int)]] wx fun e w' => e = .returned (.int .i64 (out : Int)) ∧ (w'.cell? ⟨w.heap.size, 0, none⟩ = some (.int .i64 (sn : Int)) ∧ w'.cell? ⟨w.heap.size, 1, none⟩ = some (.slice (some ⟨b, off, none⟩) n cp) ∧ w'.cell? ⟨w.heap.size, 2, none⟩ = some (.int .i64 (d : Int)) ∧ w'.cell? ⟨bi, oi + k * 2, none⟩ = some (.int .i64 x) ∧ w'.cell? ⟨bi, oi + k * 2 + 1, none⟩ = some (.int .i64 y)) ∧ Hid (∃ bm', QInv wb w' wn.heap.size pr sn d n b off cp gr cr bm' S NX) := by
          intro wx hq
          have := refStep_any pr sn d n b off cp gr cr bm zs c v S (1000 + (k : Int)) wx hq.out.ref (HCON.out _ hq.out.old).2.1 (hq.out.far hbw) hGd (by omega) hn hcp HOK.out hc4 hv8
          rw [hNX.out, hout.out] at this
          refine this.mono ?_
          rintro e w' ⟨he, ht, bm', hr, ho⟩
          have hq2 := hq.out.turn ht hr ho
          exact ⟨he, hs20 _ hq2.old, bm', hq2⟩
        have hcs : ∀ wx, Below wb.heap.size wb wx → Calls Tryd.prog 20 #[.pointer (some ⟨p, 0, none⟩), .agg (stCells S), .agg #[.int .i64 x, .int .i64 y]] wx fun e w' => e = .returned (.tuple #[.agg (stCells NX), .int .i64 (out : Int)]) ∧ Hid (Below wx.heap.size wx w') := by
          intro wx hwx
          have := step_any p sn d n zs g cg M x y S wx (HCON.out _ hwx).2.2.1 (good_ok HOK.out (by rw [hn]; exact hGd) (by omega))
          rw [hc.out, hv.out, hNX.out, hout.out] at this
          refine this.mono ?_
          rintro e w' ⟨he, hB⟩
          exact ⟨he, hB⟩
        have hGN : Good (rt zs) n (1000 + (k : Int) + 1) NX := by rw [← hNX.out]; exact next_good (by rw [← hn]; exact conf_conf HOK.out) hGd
        have hRN : (∀ j, j < n → NX.idle j < 1000) → rightB zs d (stG NX) = true := fun hi => by rw [← hNX.out]; exact next_right HOK.out hn hGd (by rw [hNX.out]; exact hi)
        have hUN : ∀ i, i < n → NX.used i < 2 ^ sn := fun i hi => by
          have h1 := wo_zero.1 (hGN.used i hi)
          have h2 := (rt_in HOK.out (show i < zs.length by omega)).2.1
          rw [Int.toNat_natCast] at h2
          have e : NX.used i &&& rt zs i = NX.used i := by
            apply Nat.eq_of_testBit_eq
            intro j
            rw [Nat.testBit_and]
            cases hj : (NX.used i).testBit j
            · rfl
            · rw [h1 j hj]; rfl
          rw [← e]
          exact Nat.lt_of_le_of_lt Nat.and_le_right h2
        have HFIT := hide hfit
        have HSTP := hide hstp
        have HCS := hide hcs
        have HS20 := hide hs20
        have HGN := hide hGN
        have HRN := hide hRN
        have HUN := hide hUN
        have HQ := hide hQ
        have hs := hs20 _ hQ.old
        obtain ⟨a0, a1, a2, a3, a4⟩ := hs
        clear hfit hstp hcs hs20 hGN hRN hUN hQ hGd hx hy hc hv
        have hk1 : (0 : Int) ≤ (k : Int) := by omega
        have hk2 : (k : Int) < (li : Int) := by omega
        go_wp2_with fail
        go_region_held3 (fun w' => w'.cell? ⟨w.heap.size, 0, none⟩ = some (.int .i64 (sn : Int)) ∧ w'.cell? ⟨w.heap.size, 1, none⟩ = some (.slice (some ⟨b, off, none⟩) n cp) ∧ w'.cell? ⟨w.heap.size, 2, none⟩ = some (.int .i64 (d : Int)) ∧ w'.cell? ⟨bi, oi + k * 2, none⟩ = some (.int .i64 x) ∧ w'.cell? ⟨bi, oi + k * 2 + 1, none⟩ = some (.int .i64 y)) (first | assumption | go_keep) (first | (go_at_call 14; refine (unhide HFIT _ (by first | assumption | exact HQ.out.drewN 1)).mono ?_; rintro e w6 ⟨rfl, hs6, HQ6⟩) | (go_at_call 19; refine (unhide HSTP _ (by assumption)).mono ?_; rintro e w7 ⟨rfl, hs7, HQ7⟩))
        obtain ⟨bm2, hQ7⟩ := HQ7.out
        have HQ8 := hide hQ7
        clear hQ7 HQ7 HQ6 HQ a0 a1 a2 a3 a4 hs6 hs7 HFIT HSTP
        go_wp2_with fail
        go_cut [15, 16] from 65 to 114 (fun q o wc => ∃ N', q = .pointer (some ⟨N', 0, none⟩) ∧ o = .int .i64 (out : Int) ∧ StIs wc N' NX ∧ ∃ bm', QInv wb wc wn.heap.size pr sn d n b off cp gr cr bm' S NX)
        case first =>
          have hss : ∀ wx, QInv wb wx wn.heap.size pr sn d n b off cp gr cr bm2 S NX → StIs wx wn.heap.size S ∧ wx.cell? ⟨bi, oi + k * 2, none⟩ = some (.int .i64 x) ∧ wx.cell? ⟨bi, oi + k * 2 + 1, none⟩ = some (.int .i64 y) := fun wx h => ⟨h.st, (HS20.out wx h.old).2.2.2.1, (HS20.out wx h.old).2.2.2.2⟩
          refine wp_region_held_drew (S := fun w' => StIs w' wn.heap.size S ∧ w'.cell? ⟨bi, oi + k * 2, none⟩ = some (.int .i64 x) ∧ w'.cell? ⟨bi, oi + k * 2 + 1, none⟩ = some (.int .i64 y)) (by kernel_rfl) (hss _ (HQ8.out.drewN 1)) (fun hHeld => ?_)
          refine wpAnyH_take (i := 0) (oi := _) (v := .pointer (some ⟨p, 0, none⟩)) rfl (by kernel_rfl) (by kernel_rfl) (by kernel_rfl) (fun _ _ _ h => h) (Or.inl ⟨by rfl, fun w _ => by go_simp⟩) hHeld ?_
          refine wpAnyH_take (i := 1) (oi := _) (v := .agg (stCells S)) rfl (by kernel_rfl) (by kernel_rfl) (by kernel_rfl) (fun _ _ _ h => h) (yields_st (by rfl) _ rfl _ rfl _ (fun w h => h.1)) hHeld ?_
          refine wpAnyH_take (i := 2) (oi := _) (v := .slice (some ⟨bi, oi, none⟩) li ci) rfl (by kernel_rfl) (by kernel_rfl) (by kernel_rfl) (fun _ _ _ h => h) (Or.inl ⟨by rfl, fun w _ => by go_simp⟩) hHeld ?_
          refine wpAnyH_take (i := 3) (oi := _) (v := .int .i64 (k : Int)) rfl (by kernel_rfl) (by kernel_rfl) (by kernel_rfl) (fun _ _ _ h => h) (Or.inl ⟨by rfl, fun w _ => by go_simp⟩) hHeld ?_
          refine wpAnyH_take (i := 4) (oi := _) (v := .pointer (some ⟨bi, oi + k * 2, none⟩)) rfl (by kernel_rfl) (by kernel_rfl) (by kernel_rfl) (fun _ _ _ h => h) (Or.inl ⟨by rfl, fun w _ => by go_simp⟩) hHeld ?_
          refine wpAnyH_take (i := 5) (oi := _) (v := .agg #[.int .i64 x, .int .i64 y]) rfl (by kernel_rfl) (by kernel_rfl) (by kernel_rfl) (fun _ _ _ h => h) (Or.inl ⟨by rfl, fun w h => by obtain ⟨_, h1, h2⟩ := h; go_simp⟩) hHeld ?_
          refine wpAnyH_ready (rs := [6, 10]) (by kernel_rfl) (by simp) ?_
          refine AllReadyH.cons (o := _) rfl (fun K hK => ?_) (AllReadyH.cons (o := _) rfl (fun K hK => ?_) AllReadyH.nil)
          · rw [if_pos (by rfl)]
            go_simp
            go_at_call 20
            refine (unhide HCS _ (HQ8.out.drewN 1).old).mono ?_
            rintro e w5 ⟨rfl, HB5⟩
            dsimp only
            have hV5 := (HQ8.out.drewN 1).below HB5.out
            refine hK.out _ _ (hss _ hV5) (fun hHeld => ?_)
            clear hK K
            refine wpAnyH_take (i := 7) (oi := _) (v := .tuple #[.agg (stCells NX), .int .i64 (out : Int)]) rfl (by kernel_rfl) (by kernel_rfl) (by kernel_rfl) (fun _ _ _ h => h) (Or.inl ⟨by rfl, fun w _ => by go_simp⟩) hHeld ?_
            refine wpAnyH_take (i := 8) (oi := _) (v := .agg (stCells NX)) rfl (by kernel_rfl) (by kernel_rfl) (by kernel_rfl) (fun _ _ _ h => h) (Or.inl ⟨by rfl, fun w _ => by go_simp⟩) hHeld ?_
            refine wpAnyH_take (i := 9) (oi := _) (v := .int .i64 (out : Int)) rfl (by kernel_rfl) (by kernel_rfl) (by kernel_rfl) (fun _ _ _ h => h) (Or.inl ⟨by rfl, fun w _ => by go_simp⟩) hHeld ?_
            refine wpAnyH_ready (rs := [10]) (by kernel_rfl) (by simp) ?_
            refine AllReadyH.cons (o := _) rfl (fun K hK => ?_) AllReadyH.nil
            rw [if_pos (by rfl)]
            go_simp
            have hV6 := hV5.below (show Below w5.heap.size w5 (w5.alloc (.cells (stCells st0) 49)) from (Below.refl _ _).alloc (Nat.le_refl _) _)
            have hz6 : StIs (w5.alloc (.cells (stCells st0) 49)) w5.heap.size st0 := blk_new _ _
            have hN6 : w5.heap.size ≠ wn.heap.size := by have := hV5.st.lt; omega
            have hN7 : wb.heap.size ≤ w5.heap.size := hV5.old.size
            refine hK.out _ _ (hss _ hV6) (fun hHeld => ?_)
            clear hK K
            refine wpAnyH_ready (rs := [11]) (by kernel_rfl) (by simp) ?_
            refine AllReadyH.cons (o := _) rfl (fun K hK => ?_) AllReadyH.nil
            rw [if_pos (by rfl)]
            refine wp_store_row _ _ _ rfl _ (stCells NX) rfl rfl _ _ hz6 (by rw [stateInfo]; rfl) rfl (oneCells NX) ?_
            have hV7 := hV6.row hz6 hN6 hN7 NX
            have hz7 := row_same hz6 NX
            refine hK.out _ _ (hss _ hV7) (fun hHeld => ?_)
            clear hK K
            refine wpAnyH_take (i := 12) (oi := _) (v := .int .i64 (out : Int)) rfl (by kernel_rfl) (by kernel_rfl) (by kernel_rfl) (fun _ _ _ h => h) (Or.inl ⟨by rfl, fun w _ => by go_simp⟩) hHeld ?_
            refine wpAnyH_done (by kernel_rfl) ?_ _
            go_wp2_with fail
            go_meet
            exact ⟨_, rfl, rfl, hz7, bm2, hV7⟩
          · rw [if_pos (by rfl)]
            go_simp
            have hN6 : w7.heap.size ≠ wn.heap.size := by have := HQ8.out.st.lt; omega
            have hN7 : wb.heap.size ≤ w7.heap.size := HQ8.out.old.size
            have hV5 := (HQ8.out.below (show Below w7.heap.size w7 (w7.alloc (.cells (stCells st0) 49)) from (Below.refl _ _).alloc (Nat.le_refl _) _)).drewN 1
            have hz5 : StIs ((w7.alloc (.cells (stCells st0) 49)).drewN 1) w7.heap.size st0 := blk_new _ _
            refine hK.out _ _ (hss _ hV5) (fun hHeld => ?_)
            clear hK K
            refine wpAnyH_ready (rs := [6]) (by kernel_rfl) (by simp) ?_
            refine AllReadyH.cons (o := _) rfl (fun K hK => ?_) AllReadyH.nil
            rw [if_pos (by rfl)]
            go_simp
            go_at_call 20
            refine (unhide HCS _ hV5.old).mono ?_
            rintro e w6 ⟨rfl, HB6⟩
            dsimp only
            have hV6 := hV5.below HB6.out
            have hz6 : StIs w6 w7.heap.size st0 := (HB6.out.block _ hz5.lt).trans hz5
            refine hK.out _ _ (hss _ hV6) (fun hHeld => ?_)
            clear hK K
            refine wpAnyH_take (i := 7) (oi := _) (v := .tuple #[.agg (stCells NX), .int .i64 (out : Int)]) rfl (by kernel_rfl) (by kernel_rfl) (by kernel_rfl) (fun _ _ _ h => h) (Or.inl ⟨by rfl, fun w _ => by go_simp⟩) hHeld ?_
            refine wpAnyH_take (i := 8) (oi := _) (v := .agg (stCells NX)) rfl (by kernel_rfl) (by kernel_rfl) (by kernel_rfl) (fun _ _ _ h => h) (Or.inl ⟨by rfl, fun w _ => by go_simp⟩) hHeld ?_
            refine wpAnyH_take (i := 9) (oi := _) (v := .int .i64 (out : Int)) rfl (by kernel_rfl) (by kernel_rfl) (by kernel_rfl) (fun _ _ _ h => h) (Or.inl ⟨by rfl, fun w _ => by go_simp⟩) hHeld ?_
            refine wpAnyH_ready (rs := [11]) (by kernel_rfl) (by simp) ?_
            refine AllReadyH.cons (o := _) rfl (fun K hK => ?_) AllReadyH.nil
            rw [if_pos (by rfl)]
            refine wp_store_row _ _ _ rfl _ (stCells NX) rfl rfl _ _ hz6 (by rw [stateInfo]; rfl) rfl (oneCells NX) ?_
            have hV7 := hV6.row hz6 hN6 hN7 NX
            have hz7 := row_same hz6 NX
            refine hK.out _ _ (hss _ hV7) (fun hHeld => ?_)
            clear hK K
            refine wpAnyH_take (i := 12) (oi := _) (v := .int .i64 (out : Int)) rfl (by kernel_rfl) (by kernel_rfl) (by kernel_rfl) (fun _ _ _ h => h) (Or.inl ⟨by rfl, fun w _ => by go_simp⟩) hHeld ?_
            refine wpAnyH_done (by kernel_rfl) ?_ _
            go_wp2_with fail
            go_meet
            exact ⟨_, rfl, rfl, hz7, bm2, hV7⟩
        case rest =>
          obtain ⟨N', rfl, rfl, hz, bm3, hQ9⟩ := hcut
          clear HQ8 HCS
          have HQ9 := hide hQ9
          have HZ := hide hz
          have HQA := hide (hQ9.put NX)
          clear hQ9 hz
          go_wp2_with (first | (refine wpList_load_st rfl _ rfl N' rfl NX HZ.out ?_) | (refine wpList_store_st rfl _ _ rfl wn.heap.size NX rfl rfl _ HQ9.out.st ?_))
          generalize wc.setRow wn.heap.size (stCells NX) = w9 at HQA ⊢
          clear HZ HQ9
          have hsta : ∀ wx, QInv wb wx wn.heap.size pr sn d n b off cp gr cr bm3 NX NX → Calls Tryd.prog 21 #[.pointer (some ⟨pr, 0, none⟩)] wx fun e w' => e = .returned (.agg (stCells NX)) ∧ Hid (QInv wb w' wn.heap.size pr sn d n b off cp gr cr bm3 NX NX) := by
            intro wx hq
            refine (state_any pr sn (d : Int) n b off cp gr cr bm3 NX (rt zs) _ wx hq.ref HGN.out hn8 hsn HUN.out).mono ?_
            rintro e w' ⟨he, hB⟩
            exact ⟨he, hq.below hB⟩
          have HSTA := hide hsta
          clear hsta
          refine wp_region_held_drew (S := fun w' => StIs w' wn.heap.size NX) (by kernel_rfl) (HQA.out.drewN 1).st (fun hHeld => ?_)
          refine wpAnyH_take (i := 0) (oi := _) (v := .int .i64 (out : Int)) rfl (by kernel_rfl) (by kernel_rfl) (by kernel_rfl) (fun _ _ _ h => h) (Or.inl ⟨by rfl, fun w _ => by go_simp⟩) hHeld ?_
          refine wpAnyH_take (i := 1) (oi := _) (v := .int .i64 (out : Int)) rfl (by kernel_rfl) (by kernel_rfl) (by kernel_rfl) (fun _ _ _ h => h) (Or.inl ⟨by rfl, fun w _ => by go_simp⟩) hHeld ?_
          refine wpAnyH_take (i := 2) (oi := _) (v := .bool false) rfl (by kernel_rfl) (by kernel_rfl) (by kernel_rfl) (fun _ _ _ h => h) (Or.inl ⟨by rfl, fun w _ => by go_simp⟩) hHeld ?_
          refine wpAnyH_take (i := 3) (oi := _) (v := .bool false) rfl (by kernel_rfl) (by kernel_rfl) (by kernel_rfl) (fun _ _ _ h => h) (Or.inl ⟨by rfl, fun w _ => by go_simp⟩) hHeld ?_
          refine wpAnyH_take (i := 4) (oi := _) (v := .agg (stCells NX)) rfl (by kernel_rfl) (by kernel_rfl) (by kernel_rfl) (fun _ _ _ h => h) (yields_st (by kernel_rfl) _ rfl _ rfl _ (fun w h => h)) hHeld ?_
          refine wpAnyH_take (i := 5) (oi := _) (v := .pointer (some ⟨pr, 0, none⟩)) rfl (by kernel_rfl) (by kernel_rfl) (by kernel_rfl) (fun _ _ _ h => h) (Or.inl ⟨by kernel_rfl, fun w _ => by go_simp⟩) hHeld ?_
          refine wpAnyH_ready (rs := [6]) (by kernel_rfl) (by simp) ?_
          refine AllReadyH.cons (o := _) rfl (fun K hK => ?_) AllReadyH.nil
          rw [if_pos (by kernel_rfl)]
          go_simp
          go_at_call 21
          refine (unhide HSTA _ (HQA.out.drewN 1)).mono ?_
          rintro e wa ⟨rfl, HQB2⟩
          dsimp only
          refine hK.out _ _ HQB2.out.st (fun hHeld => ?_)
          clear hK K
          refine wpAnyH_take (i := 7) (oi := _) (v := .bool false) rfl (by kernel_rfl) (by kernel_rfl) (by kernel_rfl) (fun _ _ _ h => h) (yields_neq (by kernel_rfl) _ _ rfl NX rfl rfl) hHeld ?_
          refine wpAnyH_take (i := 8) (oi := _) (v := .bool false) rfl (by kernel_rfl) (by kernel_rfl) (by kernel_rfl) (fun _ _ _ h => h) (Or.inl ⟨by kernel_rfl, fun w _ => by go_simp⟩) hHeld ?_
          refine wpAnyH_done (by kernel_rfl) ?_ _
          clear hHeld HQA HSTA
          go_wp2_with fail
          go_loop [17] (fun j => ∃ q : Nat, q ≤ n ∧ j = .int .i64 q ∧ Hid (∀ t, t < q → NX.idle t < 1000)) (fun j => n - (intOf j).toNat)
          case atStart => exact ⟨0, Nat.zero_le _, rfl, fun t ht => by omega⟩
          case round =>
            obtain ⟨q, hq, rfl, Hi⟩ := hrel
            have ll := (HCON.out _ HQB2.out.old).2.2.2
            have l1 : wa.cell? ⟨w.heap.size, 1, none⟩ = some (.slice (some ⟨b, off, none⟩) n cp) := (blk_cell ll 1).trans rfl
            by_cases hlq : q < n
            · have ci := HQB2.out.st.idle (show q < 8 by omega)
              obtain ⟨t, ht⟩ : ∃ t, Hid (NX.idle q = t) := ⟨_, hide rfl⟩
              rw [ht.out] at ci
              clear ll
              by_cases hbig : 1000 ≤ t
              · have hb1 : decide (1000 ≤ t) = true := by simpa using hbig
                go_wp2
                go_ret
                exact ⟨rfl, HBB.out.trans (HQB2.out.old.mono HBB.out.size)⟩
              · have hb1 : decide (1000 ≤ t) = false := by simpa using hbig
                go_wp2
                go_round
                case rel => exact ⟨q + 1, by omega, by go_num, fun t' ht' => by
                  by_cases e : t' = q
                  · subst e; rw [ht.out]; omega
                  · exact Hi.out t' (by omega)⟩
                case measure => simp [intOf]; omega
            · have hqn : q = n := by omega
              subst hqn
              have hri := right_any p (sn : Int) d q zs g cg M (stG NX) wa (HCON.out _ HQB2.out.old).2.2.1
              rw [HRN.out Hi.out] at hri
              have HRI := hide hri
              clear hri ll
              go_wp2_with (first | (refine wpList_load_st rfl _ rfl wn.heap.size rfl NX HQB2.out.st ?_))
              refine HRI.out.mono ?_
              rintro e wz ⟨rfl, hBz⟩
              have HQZ := hide (HQB2.out.below hBz)
              clear hBz
              go_wp2
              go_roundw
              case rel => exact ⟨k + 1, by omega, by go_num, bm3, NX, HQZ.out, by have := HGN.out; rw [show (1000 + ((k + 1 : Nat) : Int)) = 1000 + (k : Int) + 1 by omega]; exact this⟩
              case measure => simp [intOf]; omega
      · have ll := (HCON.out _ hQ.old).2.2.2
        have hkp := (HCON.out _ hQ.old).2.2.1
        have l0 : wr.cell? ⟨w.heap.size, 0, none⟩ = some (.int .i64 (sn : Int)) := (blk_cell ll 0).trans rfl
        have l1 : wr.cell? ⟨w.heap.size, 1, none⟩ = some (.slice (some ⟨b, off, none⟩) n cp) := (blk_cell ll 1).trans rfl
        have l2 : wr.cell? ⟨w.heap.size, 2, none⟩ = some (.int .i64 (d : Int)) := (blk_cell ll 2).trans rfl
        have hly := layout_any p (sn : Int) (d : Int) n zs g cg M wr hkp
        have HLY := hide hly
        have HQ := hide hQ
        clear hly hQ hGd ll hkp
        go_wp2_with fail
        refine HLY.out.mono ?_
        rintro e we ⟨⟨g2, c2, h1, h2, rfl, h3, hrw⟩, hBe⟩
        have hQe := HQ.out.below hBe
        have le := (HCON.out _ hQe.old).2.2.2
        have m0 : we.cell? ⟨w.heap.size, 0, none⟩ = some (.int .i64 (sn : Int)) := (blk_cell le 0).trans rfl
        have m1 : we.cell? ⟨w.heap.size, 1, none⟩ = some (.slice (some ⟨b, off, none⟩) n cp) := (blk_cell le 1).trans rfl
        have m2 : we.cell? ⟨w.heap.size, 2, none⟩ = some (.int .i64 (d : Int)) := (blk_cell le 2).trans rfl
        have hNe : w.heap.size < we.heap.size := blk_lt le
        have hRe := (HCON.out _ hQe.old).2.1
        have hBf : Below we.heap.size we (we.alloc (.cells #[.int .i64 (sn : Int), .slice (some ⟨g2, 0, none⟩) n c2, .int .i64 (d : Int)] 24)) := (Below.refl _ _).alloc (Nat.le_refl _) _
        have hsm := same_rows g2 0 b off c2 cp n zs _ hn hn8 (hrw.below h3 hBf) (hRe.below (Nat.lt_of_lt_of_le hbw hQe.old.size) hBf)
        have HSM := hide hsm
        have HFE := hide (HBB.out.trans ((hQe.old.trans (hBf.mono hQe.old.size)).mono HBB.out.size))
        clear hsm hBf hRe le hQe hBe hrw l0 l1 l2 HLY
        go_wp2_with (go_at_call 11; refine HSM.out.mono ?_; rintro e wf ⟨rfl, hBg⟩)
        go_ret
        exact ⟨rfl, HFE.out.trans (hBg.mono (by have := HFE.out.size; omega))⟩

end Go.Proofs.YtpkfgpagkgmpcaaDoor
