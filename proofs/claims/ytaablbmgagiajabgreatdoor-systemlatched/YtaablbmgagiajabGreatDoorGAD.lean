import Derived.Test.YtaablbmgagiajabGreatDoorGAA
import Derived.Test.YtaablbmgagiajabGreatDoorGAC
import Derived.Test.YtaablbmgagiajabGreatDoorGAB
import Derived.Deep.CutRange
/- The contracts of a replica's frame and Asks. -/
namespace Go.Proofs.YtaablbmgagiajabGreatDoor
open Go.RowKit Go.Deep

set_option maxHeartbeats 1000000 in
set_option maxRecDepth 20000 in
theorem rframe_any (p : Nat) (C : RC) (R : RS) (kind : Int) (w : World) (h : RpIs w p C R) :
    Calls Tryz.prog 125 #[.pointer (some ⟨p, 0, none⟩), .int .i64 kind] w fun e w' => e = .returned (.agg (fCells (startF kind (R.id : Int) R.cycle))) ∧ Below w.heap.size w w' := by
  obtain ⟨W, hW⟩ : ∃ W, Hid (w.alloc (.cells (fCells fr0) 36) = W) := ⟨_, hide rfl⟩
  have hB0 : Below w.heap.size w W := by rw [← hW.out]; exact (Below.refl _ _).alloc (Nat.le_refl _) _
  have hres : FIs W w.heap.size 36 fr0 := by rw [← hW.out]; exact blk_new _ _
  have hss : ∀ w', Below w.heap.size w w' → w'.cell? ⟨p, 0, none⟩ = some (.int .i64 (R.id : Int)) ∧ w'.cell? ⟨p, 5, none⟩ = some (.int .i64 R.cycle) := fun w' hx => ⟨(hx.cell (p := ⟨p, 0, none⟩) h.lt).trans h.c0, (hx.cell (p := ⟨p, 5, none⟩) h.lt).trans h.c5⟩
  have HSS := hide hss
  have HB0 := hide hB0
  have HRES := hide hres
  have hN : fCells (startF kind (R.id : Int) R.cycle) = #[.int .i64 kind, .int .i64 (R.id : Int), .int .i64 R.cycle, .int .i64 0, .int .i64 0, .int .i64 0, .int .i64 0, .int .i64 0, .int .i64 0, .int .i64 0, .int .i64 0, .int .i64 0, .int .i64 0, .int .i64 0, .int .i64 0, .int .i64 0, .int .i64 0, .int .i64 0, .int .i64 0, .int .i64 0, .int .i64 0, .int .i64 0, .int .i64 0] := by simp [fCells, startF]
  have HN := hide hN
  clear h hB0 hres hss hN
  go_enter Tryz.func125, Tryz.ntmps125
  go_wp2_with fail
  rw [show w.alloc (.cells #[.int .i64 0, .int .i64 0, .int .i64 0, .int .i64 0, .int .i64 0, .int .i64 0, .int .i64 0, .int .i64 0, .int .i64 0, .int .i64 0, .int .i64 0, .int .i64 0, .int .i64 0, .int .i64 0, .int .i64 0, .int .i64 0, .int .i64 0, .int .i64 0, .int .i64 0, .int .i64 0, .int .i64 0, .int .i64 0, .int .i64 0] 36) = W from hW.out]
  refine wp_region_held_drew (S := fun w' => w'.cell? ⟨p, 0, none⟩ = some (.int .i64 (R.id : Int)) ∧ w'.cell? ⟨p, 5, none⟩ = some (.int .i64 R.cycle)) (by kernel_rfl) (unhide HSS _ HB0.out.drew) (fun hHeld => ?_)
  refine wpAnyH_take (i := 0) (oi := _) (v := .int .i64 kind) rfl (by kernel_rfl) (by kernel_rfl) (by kernel_rfl) (fun _ _ _ h => h) (Or.inl ⟨by rfl, fun w _ => by go_simp⟩) hHeld ?_
  simp only [Act.put, List.getElem_toArray, List.getElem_cons_zero, List.setIfInBounds_toArray, List.set_cons_succ, List.set_cons_zero]
  refine wpAnyH_take (i := 1) (oi := _) (v := .pointer (some ⟨p, 0, none⟩)) rfl (by kernel_rfl) (by kernel_rfl) (by kernel_rfl) (fun _ _ _ h => h) (Or.inl ⟨by rfl, fun w _ => by go_simp⟩) hHeld ?_
  simp only [Act.put, List.getElem_toArray, List.getElem_cons_succ, List.getElem_cons_zero, List.setIfInBounds_toArray, List.set_cons_succ, List.set_cons_zero]
  refine wpAnyH_take (i := 2) (oi := _) (v := .pointer (some ⟨p, 0, none⟩)) rfl (by kernel_rfl) (by kernel_rfl) (by kernel_rfl) (fun _ _ _ h => h) (Or.inl ⟨by rfl, fun w _ => by go_simp⟩) hHeld ?_
  simp only [Act.put, List.getElem_toArray, List.getElem_cons_succ, List.getElem_cons_zero, List.setIfInBounds_toArray, List.set_cons_succ, List.set_cons_zero]
  refine wpAnyH_take (i := 3) (oi := _) (v := .pointer (some ⟨p, 0, none⟩)) rfl (by kernel_rfl) (by kernel_rfl) (by kernel_rfl) (fun _ _ _ h => h) (Or.inl ⟨by rfl, fun w _ => by go_simp⟩) hHeld ?_
  simp only [Act.put, List.getElem_toArray, List.getElem_cons_succ, List.getElem_cons_zero, List.setIfInBounds_toArray, List.set_cons_succ, List.set_cons_zero]
  refine wpAnyH_take (i := 4) (oi := _) (v := .int .i64 (R.id : Int)) rfl (by kernel_rfl) (by kernel_rfl) (by kernel_rfl) (fun _ _ _ h => h) (Or.inl ⟨by rfl, fun w h => by obtain ⟨h1, h2⟩ := h; go_simp⟩) hHeld ?_
  simp only [Act.put, List.getElem_toArray, List.getElem_cons_succ, List.getElem_cons_zero, List.setIfInBounds_toArray, List.set_cons_succ, List.set_cons_zero]
  refine wpAnyH_take (i := 5) (oi := _) (v := .pointer (some ⟨p, 0, none⟩)) rfl (by kernel_rfl) (by kernel_rfl) (by kernel_rfl) (fun _ _ _ h => h) (Or.inl ⟨by rfl, fun w _ => by go_simp⟩) hHeld ?_
  simp only [Act.put, List.getElem_toArray, List.getElem_cons_succ, List.getElem_cons_zero, List.setIfInBounds_toArray, List.set_cons_succ, List.set_cons_zero]
  refine wpAnyH_take (i := 6) (oi := _) (v := .pointer (some ⟨p, 0, none⟩)) rfl (by kernel_rfl) (by kernel_rfl) (by kernel_rfl) (fun _ _ _ h => h) (Or.inl ⟨by rfl, fun w _ => by go_simp⟩) hHeld ?_
  simp only [Act.put, List.getElem_toArray, List.getElem_cons_succ, List.getElem_cons_zero, List.setIfInBounds_toArray, List.set_cons_succ, List.set_cons_zero]
  refine wpAnyH_take (i := 7) (oi := _) (v := .pointer (some ⟨p, 5, none⟩)) rfl (by kernel_rfl) (by kernel_rfl) (by kernel_rfl) (fun _ _ _ h => h) (Or.inl ⟨by rfl, fun w _ => by go_simp⟩) hHeld ?_
  simp only [Act.put, List.getElem_toArray, List.getElem_cons_succ, List.getElem_cons_zero, List.setIfInBounds_toArray, List.set_cons_succ, List.set_cons_zero]
  refine wpAnyH_take (i := 8) (oi := _) (v := .int .i64 R.cycle) rfl (by kernel_rfl) (by kernel_rfl) (by kernel_rfl) (fun _ _ _ h => h) (Or.inl ⟨by rfl, fun w h => by obtain ⟨h1, h2⟩ := h; go_simp⟩) hHeld ?_
  simp only [Act.put, List.getElem_toArray, List.getElem_cons_succ, List.getElem_cons_zero, List.setIfInBounds_toArray, List.set_cons_succ, List.set_cons_zero]
  refine wpAnyH_take (i := 9) (oi := _) (v := .agg #[.int .i64 kind, .int .i64 (R.id : Int), .int .i64 R.cycle, .int .i64 0, .int .i64 0, .int .i64 0, .int .i64 0, .int .i64 0, .int .i64 0, .int .i64 0, .int .i64 0, .int .i64 0, .int .i64 0, .int .i64 0, .int .i64 0, .int .i64 0, .int .i64 0, .int .i64 0, .int .i64 0, .int .i64 0, .int .i64 0, .int .i64 0, .int .i64 0]) rfl (by kernel_rfl) (by kernel_rfl) (by kernel_rfl) (fun _ _ _ h => h) (Or.inl ⟨by rfl, fun w _ => by go_simp⟩) hHeld ?_
  simp only [Act.put, List.getElem_toArray, List.getElem_cons_succ, List.getElem_cons_zero, List.setIfInBounds_toArray, List.set_cons_succ, List.set_cons_zero]
  refine wpAnyH_ready (rs := [10]) (by kernel_rfl) (by simp) ?_
  refine AllReadyH.cons (o := _) rfl (fun K hK => ?_) AllReadyH.nil
  rw [if_pos (by rfl)]
  have hz5 : FIs W.drew w.heap.size 36 fr0 := HRES.out
  refine wp_store_row _ _ _ rfl _ (fCells (startF kind (R.id : Int) R.cycle)) rfl (by rw [HN.out]; rfl) _ _ hz5 (by rw [infoFrame]; rfl) rfl (fOne _) ?_
  have hB6 : Below w.heap.size w (W.drew.setRow w.heap.size (fCells (startF kind (R.id : Int) R.cycle))) := below_row HB0.out.drew (Nat.le_refl _) _
  have hz6 := hz5.row (startF kind (R.id : Int) R.cycle)
  refine hK.out _ _ (unhide HSS _ hB6) (fun hHeld => ?_)
  clear hK K
  obtain ⟨w3, hw3⟩ : ∃ w3, Hid (W.drew.setRow w.heap.size (fCells (startF kind (R.id : Int) R.cycle)) = w3) := ⟨_, hide rfl⟩
  rw [hw3.out] at hB6 hz6
  refine wpAnyH_done (by kernel_rfl) ?_ _
  simp only [Act.put, List.getElem_toArray, List.getElem_cons_succ, List.getElem_cons_zero]
  rw [hw3.out]
  have HB6 := hide hB6
  have HZ6 := hide hz6
  clear hB6 hz6 hz5 hHeld hw3
  go_wp2
  refine bodyPost_ret (v := .agg (fCells (startF kind (R.id : Int) R.cycle))) ?_ rfl ⟨rfl, HB6.out⟩
  exact results_cell1 Tryz.results125 rfl (load_f HZ6.out)

set_option maxHeartbeats 1000000 in
set_option maxRecDepth 20000 in
theorem asks_any (p : Nat) (C : RC) (R : RS) (w : World) (h : RpIs w p C R) :
    Calls Tryz.prog 73 #[.pointer (some ⟨p, 0, none⟩)] w fun e w' => e = .returned (.agg (fCells (startF 4 (R.id : Int) R.cycle))) ∧ Below w.heap.size w w' := by
  have hB0 : Below w.heap.size w (w.alloc (.cells (fCells fr0) 36)) := (Below.refl _ _).alloc (Nat.le_refl _) _
  have hres : FIs (w.alloc (.cells (fCells fr0) 36)) w.heap.size 36 fr0 := blk_new _ _
  have hfr := rframe_any p C R 4 _ (h.below hB0)
  have HFR := hide hfr
  have HB0 := hide hB0
  have HRES := hide hres
  clear h hB0 hres hfr
  go_enter Tryz.func73, Tryz.ntmps73
  go_wp2_with fail
  refine HFR.out.mono ?_
  rintro e w1 ⟨rfl, hB1⟩
  have hr1 : FIs w1 w.heap.size 36 fr0 := HRES.out.below (by simp) hB1
  have HR1 := hide hr1
  have HB1 := hide (HB0.out.trans (hB1.mono (by simp)))
  clear hr1 hB1 HRES HB0 HFR
  go_wp2_with (refine wpList_store_fl rfl _ _ rfl w.heap.size (startF 4 (R.id : Int) R.cycle) rfl rfl fr0 HR1.out ?_)
  intro w9 HF9
  go_wp2
  refine bodyPost_ret (v := .agg (fCells (startF 4 (R.id : Int) R.cycle))) ?_ rfl ⟨rfl, HB1.out.trans (HF9.out.2.2 _ (Nat.le_refl _))⟩
  exact results_cell1 Tryz.results73 rfl (load_f HF9.out.1)
end Go.Proofs.YtaablbmgagiajabGreatDoor

/- The contract of a replica's vote. -/
namespace Go.Proofs.YtaablbmgagiajabGreatDoor
open Go.RowKit Go.Deep

def outR (C : RC) (R : RS) (c v : Nat) : Nat := outF (rt C.zs) (conf C.zs) C.n C.d (fitN C.s (c : Int)) (fitN C.n (v : Int)) R.st
def nextR (C : RC) (R : RS) (x y : Int) : St := nextF (rt C.zs) (conf C.zs) C.n C.d (fitN C.s x) (fitN C.n y) R.st
def voteR (C : RC) (R : RS) : FR := votF 2 (R.id : Int) R.cycle ((fuseC R : Nat) : Int) ((fuseV R : Nat) : Int) ((outR C R (fuseC R) (fuseV R) : Nat) : Int)
structure VMid (w wz : World) (N q p : Nat) (C : RC) (R : RS) (F : FR) : Prop where
  old : Below N w wz
  res : FIs wz N 36 fr0
  frm : FIs wz q 36 F
  rp : RpIs wz p C R
section
variable {w wz wx : World} {N q p : Nat} {C : RC} {R : RS} {F : FR}
theorem VMid.below (h : VMid w wz N q p C R F) (hN : N ≤ w.heap.size) (hB : Below wz.heap.size wz wx) : VMid w wx N q p C R F :=
  ⟨h.old.trans (hB.mono (Nat.le_trans hN h.old.size)), h.res.below h.res.lt hB, h.frm.below h.frm.lt hB, h.rp.below hB⟩
theorem VMid.put (h : VMid w wz N q p C R F) (hq : N < q) (_ : p < N) (hN : N = w.heap.size) (hg : p ≠ q ∧ C.pc < N ∧ C.g < N ∧ C.M < N ∧ C.g2 < N) {k : Nat} (hk : k < 23) (x : Int) : VMid w (wz.setCell ⟨q, k, none⟩ (.int .i64 x)) N q p C R (upd F k x) := by
  have hm : Mod wz (wz.setCell ⟨q, k, none⟩ (.int .i64 x)) (· = q) := (Mod.refl _ _).set ⟨q, k, none⟩ _ (fun _ => rfl)
  obtain ⟨g0, g1, g2, g3, g4⟩ := hg
  exact ⟨h.old.setCell (by show N ≤ q; omega) _, (Below.heap_setCell _ _ _ _ (by show N ≠ q; omega)).trans h.res, h.frm.put hk x, h.rp.other hm ⟨fun e => g0 e.symm, by omega, by omega, by omega, by omega⟩⟩
end

set_option maxHeartbeats 2000000 in
set_option maxRecDepth 20000 in
theorem vote_any (p : Nat) (C : RC) (R : RS) (w : World) (h : RpIs w p C R) (hok : SmpOk R) (hst : StOk R.st) :
    Calls Tryz.prog 140 #[.pointer (some ⟨p, 0, none⟩)] w fun e w' => e = .returned (.agg (fCells (voteR C R))) ∧ Below w.heap.size w w' := by
  have hB0 : Below w.heap.size w (w.alloc (.cells (fCells fr0) 36)) := (Below.refl _ _).alloc (Nat.le_refl _) _
  have hres : FIs (w.alloc (.cells (fCells fr0) 36)) w.heap.size 36 fr0 := blk_new _ _
  have hfr := rframe_any p C R 2 _ (h.below hB0)
  have hpl := h.lt
  have hg : C.pc < w.heap.size ∧ C.g < w.heap.size ∧ C.M < w.heap.size ∧ C.g2 < w.heap.size := ⟨h.core.plt, h.core.glt, h.core.mlt, h.lt2⟩
  have HG := hide hg
  have HFR := hide hfr
  have HB0 := hide hB0
  have HRES := hide hres
  have H := hide h
  have HOK := hide hok
  have HST := hide hst
  clear h hB0 hres hfr hok hst hg
  go_enter Tryz.func140, Tryz.ntmps140
  go_wp2_with fail
  refine HFR.out.mono ?_
  rintro e w1 ⟨rfl, hB1⟩
  have hr1 : FIs w1 w.heap.size 36 fr0 := HRES.out.below (by simp) hB1
  have hBw1 : Below w.heap.size w w1 := HB0.out.trans (hB1.mono (by simp))
  have hs1 : w.heap.size < w1.heap.size := hr1.lt
  have hq0 : FIs (w1.alloc (.cells (fCells fr0) 36)) w1.heap.size 36 fr0 := blk_new _ _
  have HQ0 := hide hq0
  have HR1 := hide hr1
  have HB1 := hide hBw1
  clear hr1 hB1 hBw1 hq0 HRES HB0 HFR
  go_wp2_with (refine wpList_store_fl rfl _ _ rfl w1.heap.size (startF 2 (R.id : Int) R.cycle) rfl rfl fr0 HQ0.out ?_)
  intro w2 HF2
  have hM2 : VMid w w2 w.heap.size w1.heap.size p C R (startF 2 (R.id : Int) R.cycle) := by
    obtain ⟨a1, a2, a3⟩ := HF2.out
    have hb : Below w1.heap.size w1 w2 := ((Below.refl w1.heap.size w1).alloc (Nat.le_refl _) _).trans (a3 _ (Nat.le_refl _))
    exact ⟨HB1.out.trans (hb.mono (by omega)), HR1.out.below (by omega) hb, a1, H.out.below (HB1.out.trans (hb.mono (by omega)))⟩
  have hfu := fused_any p C R w2 hM2.rp HOK.out
  have HFU := hide hfu
  have HM2 := hide hM2
  obtain ⟨q, hq⟩ : ∃ q, q = w1.heap.size := ⟨_, rfl⟩
  rw [← hq] at HM2 hs1 ⊢
  clear hfu hM2 HF2 HQ0 HR1 HB1 hq
  go_wp2_with fail
  refine HFU.out.mono ?_
  rintro e w3 ⟨rfl, hB3⟩
  have hM3 := HM2.out.below (Nat.le_refl _) hB3
  obtain ⟨c, hc⟩ : ∃ c, Hid (fuseC R = c) := ⟨_, hide rfl⟩
  obtain ⟨v, hv⟩ : ∃ v, Hid (fuseV R = v) := ⟨_, hide rfl⟩
  rw [hc.out, hv.out]
  have k3 := hM3.frm.at (k := 3) (by omega)
  have k4 := hM3.frm.at (k := 4) (by omega)
  have f3 := hM3.frm.free 3
  have f4 := hM3.frm.free 4
  have hM4 := (hM3.put hs1 hpl rfl ⟨by omega, HG.out⟩ (k := 3) (by omega) (c : Int)).put hs1 hpl rfl ⟨by omega, HG.out⟩ (k := 4) (by omega) (v : Int)
  have HM4 := hide hM4
  clear hM3 hM4 hB3 HM2 HFU
  go_wp2_with fail
  clear k3 k4 f3 f4
  generalize (w3.setCell ⟨q, 3, none⟩ (.int .i64 (c : Int))).setCell ⟨q, 4, none⟩ (.int .i64 (v : Int)) = w4 at HM4 ⊢
  obtain ⟨G, hG⟩ : ∃ G, Hid (G = upd (upd (startF 2 (R.id : Int) R.cycle) 3 (c : Int)) 4 (v : Int)) := ⟨_, hide rfl⟩
  rw [← hG.out] at HM4
  have g3 : G 3 = (c : Int) := by rw [hG.out]; rfl
  have g4 : G 4 = (v : Int) := by rw [hG.out]; rfl
  have hss : ∀ w', Below w4.heap.size w4 w' → w'.cell? ⟨p, 4, none⟩ = some (.pointer (some ⟨C.pc, 0, none⟩)) ∧ w'.rangeAt p 8 (stCells R.st).toList ∧ w'.cell? ⟨q, 3, none⟩ = some (.int .i64 (c : Int)) ∧ w'.cell? ⟨q, 4, none⟩ = some (.int .i64 (v : Int)) := by
    intro w' hx
    have hM := HM4.out.below (Nat.le_refl _) hx
    exact ⟨hM.rp.c4, hM.rp.state, (hM.frm.at (by omega)).trans (by rw [g3]), (hM.frm.at (by omega)).trans (by rw [g4])⟩
  have hstep : ∀ wx, Below w4.heap.size w4 wx → Calls Tryz.prog 180 #[.pointer (some ⟨C.pc, 0, none⟩), .agg (stCells R.st), .agg #[.int .i64 (c : Int), .int .i64 (v : Int)]] wx fun e w' =>
      e = .returned (.tuple #[.agg (stCells (nextR C R c v)), .int .i64 ((outR C R c v : Nat) : Int)]) ∧ Hid (Below w4.heap.size w4 w') := by
    intro wx hx
    refine (step_any C.pc C.s C.d C.n C.zs C.g C.cg C.M (c : Int) (v : Int) R.st wx (HM4.out.below (Nat.le_refl _) hx).rp.core HST.out).mono ?_
    rintro e w' ⟨he, hB⟩
    exact ⟨he, hx.trans (hB.mono hx.size)⟩
  have HSS := hide hss
  have HSTEP := hide hstep
  clear hss hstep g3 g4
  generalize nextR C R c v = X at HSTEP
  obtain ⟨o, ho⟩ : ∃ o, Hid (outR C R c v = o) := ⟨_, hide rfl⟩
  rw [ho.out] at HSTEP
  go_wp2_with fail
  refine wp_region_held_drew (S := fun w' => w'.cell? ⟨p, 4, none⟩ = some (.pointer (some ⟨C.pc, 0, none⟩)) ∧ w'.rangeAt p 8 (stCells R.st).toList ∧ w'.cell? ⟨q, 3, none⟩ = some (.int .i64 (c : Int)) ∧ w'.cell? ⟨q, 4, none⟩ = some (.int .i64 (v : Int))) (by kernel_rfl) (unhide HSS _ (Below.refl _ _).drew) (fun hHeld => ?_)
  refine wpAnyH_take (i := 0) (oi := _) (v := .pointer (some ⟨p, 0, none⟩)) rfl (by kernel_rfl) (by kernel_rfl) (by kernel_rfl) (fun _ _ _ h => h) (Or.inl ⟨by rfl, fun w _ => by go_simp⟩) hHeld ?_
  simp only [Act.put, List.getElem_toArray, List.getElem_cons_zero, List.setIfInBounds_toArray, List.set_cons_succ, List.set_cons_zero]
  refine wpAnyH_take (i := 1) (oi := _) (v := .pointer (some ⟨p, 0, none⟩)) rfl (by kernel_rfl) (by kernel_rfl) (by kernel_rfl) (fun _ _ _ h => h) (Or.inl ⟨by rfl, fun w _ => by go_simp⟩) hHeld ?_
  simp only [Act.put, List.getElem_toArray, List.getElem_cons_succ, List.getElem_cons_zero, List.setIfInBounds_toArray, List.set_cons_succ, List.set_cons_zero]
  refine wpAnyH_take (i := 2) (oi := _) (v := .pointer (some ⟨p, 4, none⟩)) rfl (by kernel_rfl) (by kernel_rfl) (by kernel_rfl) (fun _ _ _ h => h) (Or.inl ⟨by rfl, fun w _ => by go_simp⟩) hHeld ?_
  simp only [Act.put, List.getElem_toArray, List.getElem_cons_succ, List.getElem_cons_zero, List.setIfInBounds_toArray, List.set_cons_succ, List.set_cons_zero]
  refine wpAnyH_take (i := 3) (oi := _) (v := .pointer (some ⟨C.pc, 0, none⟩)) rfl (by kernel_rfl) (by kernel_rfl) (by kernel_rfl) (fun _ _ _ h => h) (Or.inl ⟨by rfl, fun w h => by obtain ⟨h1, h2, h3, h4⟩ := h; go_simp⟩) hHeld ?_
  simp only [Act.put, List.getElem_toArray, List.getElem_cons_succ, List.getElem_cons_zero, List.setIfInBounds_toArray, List.set_cons_succ, List.set_cons_zero]
  refine wpAnyH_take (i := 4) (oi := _) (v := .pointer (some ⟨p, 0, none⟩)) rfl (by kernel_rfl) (by kernel_rfl) (by kernel_rfl) (fun _ _ _ h => h) (Or.inl ⟨by rfl, fun w _ => by go_simp⟩) hHeld ?_
  simp only [Act.put, List.getElem_toArray, List.getElem_cons_succ, List.getElem_cons_zero, List.setIfInBounds_toArray, List.set_cons_succ, List.set_cons_zero]
  refine wpAnyH_take (i := 5) (oi := _) (v := .pointer (some ⟨p, 0, none⟩)) rfl (by kernel_rfl) (by kernel_rfl) (by kernel_rfl) (fun _ _ _ h => h) (Or.inl ⟨by rfl, fun w _ => by go_simp⟩) hHeld ?_
  simp only [Act.put, List.getElem_toArray, List.getElem_cons_succ, List.getElem_cons_zero, List.setIfInBounds_toArray, List.set_cons_succ, List.set_cons_zero]
  refine wpAnyH_take (i := 6) (oi := _) (v := .pointer (some ⟨p, 8, none⟩)) rfl (by kernel_rfl) (by kernel_rfl) (by kernel_rfl) (fun _ _ _ h => h) (Or.inl ⟨by rfl, fun w _ => by go_simp⟩) hHeld ?_
  simp only [Act.put, List.getElem_toArray, List.getElem_cons_succ, List.getElem_cons_zero, List.setIfInBounds_toArray, List.set_cons_succ, List.set_cons_zero]
  refine wpAnyH_take (i := 7) (oi := _) (v := _) rfl (by kernel_rfl) (by kernel_rfl) (by kernel_rfl) (fun _ _ _ h => h) (yieldsIf_load_mid (by rfl) 34 _ rfl p 8 rfl (stCells R.st).toList _ (fun w h => h.2.1) Tryz.underlying34 rfl (by rw [stateInfo]; rfl)) hHeld ?_
  simp only [Act.put, List.getElem_toArray, List.getElem_cons_succ, List.getElem_cons_zero, List.setIfInBounds_toArray, List.set_cons_succ, List.set_cons_zero]
  refine wpAnyH_take (i := 8) (oi := _) (v := .pointer (some ⟨q, 3, none⟩)) rfl (by kernel_rfl) (by kernel_rfl) (by kernel_rfl) (fun _ _ _ h => h) (Or.inl ⟨by rfl, fun w _ => by go_simp⟩) hHeld ?_
  simp only [Act.put, List.getElem_toArray, List.getElem_cons_succ, List.getElem_cons_zero, List.setIfInBounds_toArray, List.set_cons_succ, List.set_cons_zero]
  refine wpAnyH_take (i := 9) (oi := _) (v := .agg #[.int .i64 (c : Int), .int .i64 (v : Int)]) rfl (by kernel_rfl) (by kernel_rfl) (by kernel_rfl) (fun _ _ _ h => h) (Or.inl ⟨by rfl, fun w h => by obtain ⟨h1, h2, h3, h4⟩ := h; go_simp⟩) hHeld ?_
  simp only [Act.put, List.getElem_toArray, List.getElem_cons_succ, List.getElem_cons_zero, List.setIfInBounds_toArray, List.set_cons_succ, List.set_cons_zero]
  refine wpAnyH_ready (rs := [10]) (by kernel_rfl) (by simp) ?_
  refine AllReadyH.cons (o := _) rfl (fun K hK => ?_) AllReadyH.nil
  rw [if_pos (by rfl)]
  go_simp
  go_at_call 180
  refine (unhide HSTEP _ (Below.refl _ _).drew).mono ?_
  rintro e w5 ⟨rfl, HB5⟩
  dsimp only
  refine hK.out _ _ (unhide HSS _ HB5.out) (fun hHeld => ?_)
  clear hK K
  refine wpAnyH_take (i := 11) (oi := _) (v := .tuple #[.agg (stCells X), .int .i64 (o : Int)]) rfl (by kernel_rfl) (by kernel_rfl) (by kernel_rfl) (fun _ _ _ h => h) (Or.inl ⟨by rfl, fun w _ => by go_simp⟩) hHeld ?_
  simp only [Act.put, List.getElem_toArray, List.getElem_cons_succ, List.getElem_cons_zero, List.setIfInBounds_toArray, List.set_cons_succ, List.set_cons_zero]
  refine wpAnyH_take (i := 12) (oi := _) (v := .agg (stCells X)) rfl (by kernel_rfl) (by kernel_rfl) (by kernel_rfl) (fun _ _ _ h => h) (Or.inl ⟨by rfl, fun w _ => by go_simp⟩) hHeld ?_
  simp only [Act.put, List.getElem_toArray, List.getElem_cons_succ, List.getElem_cons_zero, List.setIfInBounds_toArray, List.set_cons_succ, List.set_cons_zero]
  refine wpAnyH_take (i := 13) (oi := _) (v := .int .i64 (o : Int)) rfl (by kernel_rfl) (by kernel_rfl) (by kernel_rfl) (fun _ _ _ h => h) (Or.inl ⟨by rfl, fun w _ => by go_simp⟩) hHeld ?_
  simp only [Act.put, List.getElem_toArray, List.getElem_cons_succ, List.getElem_cons_zero, List.setIfInBounds_toArray, List.set_cons_succ, List.set_cons_zero]
  refine wpAnyH_take (i := 14) (oi := _) (v := .pointer (some ⟨q, 5, none⟩)) rfl (by kernel_rfl) (by kernel_rfl) (by kernel_rfl) (fun _ _ _ h => h) (Or.inl ⟨by rfl, fun w _ => by go_simp⟩) hHeld ?_
  simp only [Act.put, List.getElem_toArray, List.getElem_cons_succ, List.getElem_cons_zero, List.setIfInBounds_toArray, List.set_cons_succ, List.set_cons_zero]
  have hM5 := HM4.out.below (Nat.le_refl _) HB5.out
  have k5 := hM5.frm.at (k := 5) (by omega)
  have f5 := hM5.frm.free 5
  have hM6 := hM5.put hs1 hpl rfl ⟨by omega, HG.out⟩ (k := 5) (by omega) (o : Int)
  have s6 : (w5.setCell ⟨q, 5, none⟩ (.int .i64 (o : Int))).cell? ⟨p, 4, none⟩ = some (.pointer (some ⟨C.pc, 0, none⟩)) ∧ (w5.setCell ⟨q, 5, none⟩ (.int .i64 (o : Int))).rangeAt p 8 (stCells R.st).toList ∧ (w5.setCell ⟨q, 5, none⟩ (.int .i64 (o : Int))).cell? ⟨q, 3, none⟩ = some (.int .i64 (c : Int)) ∧ (w5.setCell ⟨q, 5, none⟩ (.int .i64 (o : Int))).cell? ⟨q, 4, none⟩ = some (.int .i64 (v : Int)) :=
    ⟨hM6.rp.c4, hM6.rp.state, (hM6.frm.at (by omega)).trans (by rw [hG.out]; rfl), (hM6.frm.at (by omega)).trans (by rw [hG.out]; rfl)⟩
  have HM6 := hide hM6
  have S6 := hide s6
  clear hM5 hM6 s6
  refine wpAnyH_ready (rs := [15]) (by kernel_rfl) (by simp) ?_
  refine AllReadyH.cons (o := _) rfl (fun K hK => ?_) AllReadyH.nil
  rw [if_pos (by rfl)]
  go_simp
  refine hK.out _ _ S6.out (fun hHeld => ?_)
  clear hK K
  refine wpAnyH_done (by kernel_rfl) ?_ _
  clear hHeld k5 f5 S6 HSS HSTEP HB5 HM4
  generalize w5.setCell ⟨q, 5, none⟩ (.int .i64 (o : Int)) = w6 at HM6 ⊢
  have HE : Hid (fCells (upd G 5 (o : Int)) = fCells (voteR C R)) := hide (fCells_congr fun k _ => by
    unfold voteR
    rw [hc.out, hv.out, ho.out, hG.out]
    unfold upd startF votF
    (repeat' split) <;> first | rfl | omega)
  go_wp2_with (first
    | (refine wpList_load_f rfl _ rfl q rfl (upd G 5 (o : Int)) HM6.out.frm ?_)
    | (refine wpList_store_fl rfl _ _ rfl w.heap.size (upd G 5 (o : Int)) rfl rfl fr0 HM6.out.res ?_))
  intro w9 HF9
  go_wp2
  refine bodyPost_ret (v := .agg (fCells (upd G 5 (o : Int)))) ?_ rfl ⟨by rw [HE.out], HM6.out.old.trans (HF9.out.2.2 _ (Nat.le_refl _))⟩
  exact results_cell1 Tryz.results140 rfl (load_f HF9.out.1)
end Go.Proofs.YtaablbmgagiajabGreatDoor

/- The contract of a replica's takeDone. -/
namespace Go.Proofs.YtaablbmgagiajabGreatDoor
open Go.RowKit Go.Deep

def aheadR (x : Int) (R : RS) : RS := { R with ahead := if R.ahead < x then x else R.ahead }
def doneR (C : RC) (F : FR) (R : RS) : RS :=
  if F 2 < R.cycle then R else if F 2 = R.cycle then goR (R.cycle + 1) (nextR C R (F 3) (F 4)) (aheadR (F 2) R) else aheadR (F 2) R
def asksR (R : RS) : FR := startF 4 (R.id : Int) R.cycle
def doneT (C : RC) (F : FR) (R : RS) : List FR := if F 2 < R.cycle then [] else if (doneR C F R).cycle ≤ (doneR C F R).ahead then [asksR (doneR C F R)] else []
structure DMid (w wz : World) (N p : Nat) (C : RC) (R : RS) (F : FR) : Prop where
  old : Mod w wz (· = p)
  frm : FIs wz N 36 F
  rp : RpIs wz p C R
section
variable {w wz wx : World} {N p : Nat} {C : RC} {R R' : RS} {F : FR}
theorem DMid.below (h : DMid w wz N p C R F) (hB : Below wz.heap.size wz wx) : DMid w wx N p C R F := ⟨h.old.below hB, h.frm.below h.frm.lt hB, h.rp.below hB⟩
theorem DMid.mod (h : DMid w wz N p C R F) (hp : p < N) (hm : Mod wz wx (· = p)) (hr : RpIs wx p C R') : DMid w wx N p C R' F :=
  ⟨h.old.then hm (fun _ _ e => e), (hm.block _ h.frm.lt (by omega)).trans h.frm, hr⟩
theorem DMid.drew (h : DMid w wz N p C R F) : DMid w wz.drew N p C R F := h.below (Below.refl _ _).drew
theorem DMid.drewN (h : DMid w wz N p C R F) (n : Nat) : DMid w (wz.drewN n) N p C R F := h.below (below_drewN (Below.refl _ _) n)
theorem DMid.aheads (h : DMid w wz N p C R F) (hp : p < N) (c : Int) : DMid w (wz.setCell ⟨p, 7, none⟩ (.int .i64 c)) N p C { R with ahead := c } F :=
  h.mod hp ((Mod.refl wz (· = p)).set ⟨p, 7, none⟩ _ (fun _ => rfl)) (h.rp.aheads c)
end

set_option maxHeartbeats 4000000 in
set_option maxRecDepth 20000 in
theorem takeDone_any (p : Nat) (C : RC) (R : RS) (F : FR) (w : World) (h : RpIs w p C R) (hst : StOk R.st) (hcy : 0 ≤ R.cycle ∧ R.cycle < 1000000000) :
    Calls Tryz.prog 174 #[.pointer (some ⟨p, 0, none⟩), .agg (fCells F)] w fun e w' =>
      (∃ v, e = .returned v ∧ FRow w' 36 v (doneT C F R)) ∧ RpIs w' p C (doneR C F R) ∧ Mod w w' (· = p) := by
  have hpl := h.lt
  have hD0 : DMid w (w.alloc (.cells (fCells F) 36)) w.heap.size p C R F := by
    have hb : Below w.heap.size w (w.alloc (.cells (fCells F) 36)) := (Below.refl _ _).alloc (Nat.le_refl _) _
    exact ⟨Mod.ofBelow hb _, blk_new _ _, h.below hb⟩
  obtain ⟨W, hW⟩ : ∃ W, Hid (w.alloc (.cells (fCells F) 36) = W) := ⟨_, hide rfl⟩
  rw [hW.out] at hD0
  have HST := hide hst
  obtain ⟨hc1, hc2⟩ := hcy
  have n2 := hD0.frm.at (k := 2) (by omega)
  have k5 := hD0.rp.c5
  have k7 := hD0.rp.c7
  have f7 := hD0.rp.blk.free 7
  have HD0 := hide hD0
  clear h hD0 hst
  obtain ⟨bl, hbl⟩ : ∃ b, decide (F 2 < R.cycle) = b := ⟨_, rfl⟩
  cases bl
  · have hnl : ¬ F 2 < R.cycle := of_decide_eq_false hbl
    obtain ⟨m, hm⟩ : ∃ m, Hid ((if R.ahead < F 2 then F 2 else R.ahead) = m) := ⟨_, hide rfl⟩
    have HNL := hide hnl
    obtain ⟨RR, hRR⟩ : ∃ RR, Hid (doneR C F R = RR) := ⟨_, hide rfl⟩
    obtain ⟨TT, hTT⟩ : ∃ TT, Hid (doneT C F R = TT) := ⟨_, hide rfl⟩
    rw [hRR.out, hTT.out]
    obtain ⟨R1, hR1⟩ : ∃ R1, Hid ({ R with ahead := m } = R1) := ⟨_, hide rfl⟩
    have HA1 : Hid (aheadR (F 2) R = R1) := hide (by rw [← hR1.out, ← hm.out]; rfl)
    have HI1 : Hid (R1.cycle = R.cycle ∧ R1.ahead = m) := hide (by rw [← hR1.out]; exact ⟨rfl, rfl⟩)
    have HS1 : Hid (R1.st = R.st) := hide (by rw [← hR1.out])
    clear hnl
    go_enter Tryz.func174, Tryz.ntmps174
    go_wp2_with fail
    rw [show w.alloc (.cells (fCells F) 36) = W from hW.out]
    clear hW
    go_quiet (fail)
    go_wp2_with fail
    go_region
    rw [hm.out]
    have hD3 := (HD0.out.drewN (nq + 1)).aheads hpl m
    rw [hR1.out] at hD3
    have HD3 := hide hD3
    clear hD3 n2 k5 k7 f7 HD0
    generalize (W.drewN (nq + 1)).setCell ⟨p, 7, none⟩ (.int .i64 m) = w3 at HD3 ⊢
    have n2 := HD3.out.frm.at (k := 2) (by omega)
    have k5 : w3.cell? ⟨p, 5, none⟩ = some (.int .i64 R.cycle) := by rw [HD3.out.rp.c5, HI1.out.1]
    obtain ⟨be, hbe⟩ : ∃ b, (F 2 == R.cycle) = b := ⟨_, rfl⟩
    cases be
    · have HRR : Hid (RR = R1) := hide (by rw [← hRR.out]; unfold doneR; rw [if_neg (of_decide_eq_false hbl), if_neg (by simpa using hbe), HA1.out])
      go_wp2_with fail
      go_quiet (fail)
      have HD4 := hide (HD3.out.drewN nq)
      clear n2 k5 HD3
      generalize w3.drewN nq = w4 at HD4 ⊢
      have c5 : w4.cell? ⟨p, 5, none⟩ = some (.int .i64 (R.cycle)) := by rw [HD4.out.rp.c5, HI1.out.1]
      have c7 : w4.cell? ⟨p, 7, none⟩ = some (.int .i64 m) := by rw [HD4.out.rp.c7, HI1.out.2]
      have HTT : Hid (TT = if R.cycle ≤ m then [asksR R1] else []) := hide (by rw [← hTT.out]; unfold doneT; rw [if_neg (of_decide_eq_false hbl), hRR.out, HRR.out, HI1.out.1, HI1.out.2])
      obtain ⟨bq, hbq⟩ : ∃ b, decide (R.cycle ≤ m) = b := ⟨_, rfl⟩
      cases bq
      · have HT0 : Hid (TT = []) := hide (by rw [HTT.out, if_neg (of_decide_eq_false hbq)])
        clear HTT
        go_wp2_with fail
        go_quiet (fail)
        go_wp2
        go_ret
        exact ⟨⟨_, rfl, .inl ⟨HT0.out, rfl⟩⟩, by rw [HRR.out]; exact (HD4.out.drewN _).rp, (HD4.out.drewN _).old⟩
      · have HT0 : Hid (TT = [asksR R1]) := hide (by rw [HTT.out, if_pos (of_decide_eq_true hbq)])
        clear HTT
        go_wp2_with fail
        go_quiet (fail)
        go_wp2_with fail
        refine (asks_any p C R1 _ (HD4.out.drewN _).rp).mono ?_
        rintro e w9 ⟨rfl, hB9⟩
        have HD9 := hide ((HD4.out.drewN _).below hB9)
        clear hB9
        go_wp2_with (refine wpList_one_f rfl _ rfl (asksR R1) rfl w9.heap.size rfl ?_)
        intro w10 H10
        go_wp2
        go_ret
        exact ⟨⟨_, rfl, by rw [HT0.out]; exact FRow.one H10.out.1⟩, by rw [HRR.out]; exact (HD9.out.below H10.out.2.2).rp, (HD9.out.below H10.out.2.2).old⟩
    · obtain ⟨X, hX⟩ : ∃ X, Hid (nextR C R (F 3) (F 4) = X) := ⟨_, hide rfl⟩
      obtain ⟨R2, hR2⟩ : ∃ R2, Hid (goR (R.cycle + 1) X R1 = R2) := ⟨_, hide rfl⟩
      have HRR : Hid (RR = R2) := hide (by rw [← hRR.out]; unfold doneR; rw [if_neg (of_decide_eq_false hbl), if_pos (by simpa using hbe), HA1.out, hX.out, hR2.out])
      have HI2 : Hid (R2.cycle = R.cycle + 1 ∧ R2.ahead = m) := hide (by rw [← hR2.out]; exact ⟨rfl, HI1.out.2⟩)
      go_wp2_with fail
      go_quiet (fail)
      have HD4 := hide (HD3.out.drewN nq)
      clear n2 k5 HD3
      generalize w3.drewN nq = w4 at HD4 ⊢
      have hss : ∀ w', Below w4.heap.size w4 w' → w'.cell? ⟨p, 4, none⟩ = some (.pointer (some ⟨C.pc, 0, none⟩)) ∧ w'.rangeAt p 8 (stCells R.st).toList ∧ w'.cell? ⟨w.heap.size, 3, none⟩ = some (.int .i64 (F 3)) ∧ w'.cell? ⟨w.heap.size, 4, none⟩ = some (.int .i64 (F 4)) := by
        intro w' hx
        have hM := HD4.out.below hx
        exact ⟨hM.rp.c4, by rw [← HS1.out]; exact hM.rp.state, hM.frm.at (by omega), hM.frm.at (by omega)⟩
      have hstep : ∀ wx, Below w4.heap.size w4 wx → Calls Tryz.prog 180 #[.pointer (some ⟨C.pc, 0, none⟩), .agg (stCells R.st), .agg #[.int .i64 (F 3), .int .i64 (F 4)]] wx fun e w' =>
          ∃ o : Nat, e = .returned (.tuple #[.agg (stCells X), .int .i64 (o : Int)]) ∧ Hid (Below wx.heap.size wx w') := by
        intro wx hx
        refine (step_any C.pc C.s C.d C.n C.zs C.g C.cg C.M (F 3) (F 4) R.st wx (HD4.out.below hx).rp.core HST.out).mono ?_
        rintro e w' ⟨he, hB⟩
        exact ⟨_, by rw [he, ← hX.out]; rfl, hB⟩
      have HSS := hide hss
      have HSTEP := hide hstep
      clear hss hstep
      go_wp2_with fail
      go_cut [5, 6] from 31 to 44 (fun s5 s6 wc => ∃ b, s5 = .pointer (some ⟨b, 0, none⟩) ∧ StIs wc b X ∧ DMid w wc w.heap.size p C R1 F)
      case first =>
        refine wp_region_held_drew (S := fun w' => w'.cell? ⟨p, 4, none⟩ = some (.pointer (some ⟨C.pc, 0, none⟩)) ∧ w'.rangeAt p 8 (stCells R.st).toList ∧ w'.cell? ⟨w.heap.size, 3, none⟩ = some (.int .i64 (F 3)) ∧ w'.cell? ⟨w.heap.size, 4, none⟩ = some (.int .i64 (F 4))) (by kernel_rfl) (unhide HSS _ (Below.refl _ _).drew) (fun hHeld => ?_)
        refine wpAnyH_take (i := 0) (oi := _) (v := .pointer (some ⟨p, 0, none⟩)) rfl (by kernel_rfl) (by kernel_rfl) (by kernel_rfl) (fun _ _ _ h => h) (Or.inl ⟨by rfl, fun w _ => by go_simp⟩) hHeld ?_
        simp only [Act.put, List.getElem_toArray, List.getElem_cons_zero, List.setIfInBounds_toArray, List.set_cons_succ, List.set_cons_zero]
        refine wpAnyH_take (i := 1) (oi := _) (v := .pointer (some ⟨p, 0, none⟩)) rfl (by kernel_rfl) (by kernel_rfl) (by kernel_rfl) (fun _ _ _ h => h) (Or.inl ⟨by rfl, fun w _ => by go_simp⟩) hHeld ?_
        simp only [Act.put, List.getElem_toArray, List.getElem_cons_succ, List.getElem_cons_zero, List.setIfInBounds_toArray, List.set_cons_succ, List.set_cons_zero]
        refine wpAnyH_take (i := 2) (oi := _) (v := .pointer (some ⟨p, 4, none⟩)) rfl (by kernel_rfl) (by kernel_rfl) (by kernel_rfl) (fun _ _ _ h => h) (Or.inl ⟨by rfl, fun w _ => by go_simp⟩) hHeld ?_
        simp only [Act.put, List.getElem_toArray, List.getElem_cons_succ, List.getElem_cons_zero, List.setIfInBounds_toArray, List.set_cons_succ, List.set_cons_zero]
        refine wpAnyH_take (i := 3) (oi := _) (v := .pointer (some ⟨C.pc, 0, none⟩)) rfl (by kernel_rfl) (by kernel_rfl) (by kernel_rfl) (fun _ _ _ h => h) (Or.inl ⟨by rfl, fun w h => by obtain ⟨h1, h2, h3, h4⟩ := h; go_simp⟩) hHeld ?_
        simp only [Act.put, List.getElem_toArray, List.getElem_cons_succ, List.getElem_cons_zero, List.setIfInBounds_toArray, List.set_cons_succ, List.set_cons_zero]
        refine wpAnyH_take (i := 4) (oi := _) (v := .pointer (some ⟨p, 0, none⟩)) rfl (by kernel_rfl) (by kernel_rfl) (by kernel_rfl) (fun _ _ _ h => h) (Or.inl ⟨by rfl, fun w _ => by go_simp⟩) hHeld ?_
        simp only [Act.put, List.getElem_toArray, List.getElem_cons_succ, List.getElem_cons_zero, List.setIfInBounds_toArray, List.set_cons_succ, List.set_cons_zero]
        refine wpAnyH_take (i := 5) (oi := _) (v := .pointer (some ⟨p, 0, none⟩)) rfl (by kernel_rfl) (by kernel_rfl) (by kernel_rfl) (fun _ _ _ h => h) (Or.inl ⟨by rfl, fun w _ => by go_simp⟩) hHeld ?_
        simp only [Act.put, List.getElem_toArray, List.getElem_cons_succ, List.getElem_cons_zero, List.setIfInBounds_toArray, List.set_cons_succ, List.set_cons_zero]
        refine wpAnyH_take (i := 6) (oi := _) (v := .pointer (some ⟨p, 8, none⟩)) rfl (by kernel_rfl) (by kernel_rfl) (by kernel_rfl) (fun _ _ _ h => h) (Or.inl ⟨by rfl, fun w _ => by go_simp⟩) hHeld ?_
        simp only [Act.put, List.getElem_toArray, List.getElem_cons_succ, List.getElem_cons_zero, List.setIfInBounds_toArray, List.set_cons_succ, List.set_cons_zero]
        refine wpAnyH_take (i := 7) (oi := _) (v := _) rfl (by kernel_rfl) (by kernel_rfl) (by kernel_rfl) (fun _ _ _ h => h) (yieldsIf_load_mid (by rfl) 34 _ rfl p 8 rfl (stCells R.st).toList _ (fun w h => h.2.1) Tryz.underlying34 rfl (by rw [stateInfo]; rfl)) hHeld ?_
        simp only [Act.put, List.getElem_toArray, List.getElem_cons_succ, List.getElem_cons_zero, List.setIfInBounds_toArray, List.set_cons_succ, List.set_cons_zero]
        refine wpAnyH_take (i := 8) (oi := _) (v := .pointer (some ⟨w.heap.size, 3, none⟩)) rfl (by kernel_rfl) (by kernel_rfl) (by kernel_rfl) (fun _ _ _ h => h) (Or.inl ⟨by rfl, fun w _ => by go_simp⟩) hHeld ?_
        simp only [Act.put, List.getElem_toArray, List.getElem_cons_succ, List.getElem_cons_zero, List.setIfInBounds_toArray, List.set_cons_succ, List.set_cons_zero]
        refine wpAnyH_take (i := 9) (oi := _) (v := .agg #[.int .i64 (F 3), .int .i64 (F 4)]) rfl (by kernel_rfl) (by kernel_rfl) (by kernel_rfl) (fun _ _ _ h => h) (Or.inl ⟨by rfl, fun w h => by obtain ⟨h1, h2, h3, h4⟩ := h; go_simp⟩) hHeld ?_
        simp only [Act.put, List.getElem_toArray, List.getElem_cons_succ, List.getElem_cons_zero, List.setIfInBounds_toArray, List.set_cons_succ, List.set_cons_zero]
        refine wpAnyH_ready (rs := [10, 14]) (by kernel_rfl) (by simp) ?_
        refine AllReadyH.cons (o := _) rfl (fun K hK => ?_) (AllReadyH.cons (o := _) rfl (fun K hK => ?_) AllReadyH.nil)
        · rw [if_pos (by rfl)]
          go_simp
          go_at_call 180
          refine (unhide HSTEP _ (Below.refl _ _).drew).mono ?_
          rintro e w5 ⟨o, rfl, HB5⟩
          dsimp only
          have hB5 : Below w4.heap.size w4 w5 := (Below.refl w4.heap.size w4).drew.trans HB5.out
          have hB6 : Below w4.heap.size w4 (w5.alloc (.cells (stCells st0) 34)) := hB5.alloc hB5.size _
          have hb6 : StIs (w5.alloc (.cells (stCells st0) 34)) w5.heap.size st0 := blk_new _ _
          refine hK.out _ _ (unhide HSS _ hB5) (fun hHeld => ?_)
          clear hK K
          refine wpAnyH_take (i := 11) (oi := _) (v := .tuple #[.agg (stCells X), .int .i64 (o : Int)]) rfl (by kernel_rfl) (by kernel_rfl) (by kernel_rfl) (fun _ _ _ h => h) (Or.inl ⟨by rfl, fun w _ => by go_simp⟩) hHeld ?_
          simp only [Act.put, List.getElem_toArray, List.getElem_cons_succ, List.getElem_cons_zero, List.setIfInBounds_toArray, List.set_cons_succ, List.set_cons_zero]
          refine wpAnyH_take (i := 12) (oi := _) (v := .agg (stCells X)) rfl (by kernel_rfl) (by kernel_rfl) (by kernel_rfl) (fun _ _ _ h => h) (Or.inl ⟨by rfl, fun w _ => by go_simp⟩) hHeld ?_
          simp only [Act.put, List.getElem_toArray, List.getElem_cons_succ, List.getElem_cons_zero, List.setIfInBounds_toArray, List.set_cons_succ, List.set_cons_zero]
          refine wpAnyH_take (i := 13) (oi := _) (v := .int .i64 (o : Int)) rfl (by kernel_rfl) (by kernel_rfl) (by kernel_rfl) (fun _ _ _ h => h) (Or.inl ⟨by rfl, fun w _ => by go_simp⟩) hHeld ?_
          simp only [Act.put, List.getElem_toArray, List.getElem_cons_succ, List.getElem_cons_zero, List.setIfInBounds_toArray, List.set_cons_succ, List.set_cons_zero]
          refine wpAnyH_ready (rs := [14]) (by kernel_rfl) (by simp) ?_
          refine AllReadyH.cons (o := _) rfl (fun K hK => ?_) AllReadyH.nil
          rw [if_pos (by rfl)]
          go_simp
          refine hK.out _ _ (unhide HSS _ hB6) (fun hHeld => ?_)
          clear hK K
          refine wpAnyH_ready (rs := [15]) (by kernel_rfl) (by simp) ?_
          refine AllReadyH.cons (o := _) rfl (fun K hK => ?_) AllReadyH.nil
          rw [if_pos (by rfl)]
          refine wp_store_row _ _ _ rfl _ (stCells X) rfl rfl _ _ hb6 (by rw [stateInfo]; rfl) rfl (oneCells X) ?_
          have hB7 := below_row hB6 hB5.size (stCells X)
          have hx7 := row_same hb6 X
          refine hK.out _ _ (unhide HSS _ hB7) (fun hHeld => ?_)
          clear hK K
          refine wpAnyH_take (i := 16) (oi := _) (v := .int .i64 (o : Int)) rfl (by kernel_rfl) (by kernel_rfl) (by kernel_rfl) (fun _ _ _ h => h) (Or.inl ⟨by rfl, fun w _ => by go_simp⟩) hHeld ?_
          simp only [Act.put, List.getElem_toArray, List.getElem_cons_succ, List.getElem_cons_zero, List.setIfInBounds_toArray, List.set_cons_succ, List.set_cons_zero]
          refine wpAnyH_done (by kernel_rfl) ?_ _
          have HX7 := hide hx7
          have HD7 := hide (HD4.out.below hB7)
          clear hHeld hx7 hB7
          go_wp2_with fail
          go_meet
          exact ⟨_, rfl, HX7.out, HD7.out⟩
        · rw [if_pos (by rfl)]
          go_simp
          have hB5 : Below w4.heap.size w4 (w4.alloc (.cells (stCells st0) 34)).drew := ((Below.refl w4.heap.size w4).alloc (Nat.le_refl _) _).drew
          have hb5 : StIs (w4.alloc (.cells (stCells st0) 34)).drew w4.heap.size st0 := blk_new _ _
          refine hK.out _ _ (unhide HSS _ hB5) (fun hHeld => ?_)
          clear hK K
          refine wpAnyH_ready (rs := [10]) (by kernel_rfl) (by simp) ?_
          refine AllReadyH.cons (o := _) rfl (fun K hK => ?_) AllReadyH.nil
          rw [if_pos (by rfl)]
          go_simp
          go_at_call 180
          refine (unhide HSTEP _ hB5).mono ?_
          rintro e w6 ⟨o, rfl, HB6⟩
          dsimp only
          have hB6 : Below w4.heap.size w4 w6 := hB5.trans (HB6.out.mono hB5.size)
          have hb6 : StIs w6 w4.heap.size st0 := (HB6.out.block _ (blk_lt hb5)).trans hb5
          refine hK.out _ _ (unhide HSS _ hB6) (fun hHeld => ?_)
          clear hK K
          refine wpAnyH_take (i := 11) (oi := _) (v := .tuple #[.agg (stCells X), .int .i64 (o : Int)]) rfl (by kernel_rfl) (by kernel_rfl) (by kernel_rfl) (fun _ _ _ h => h) (Or.inl ⟨by rfl, fun w _ => by go_simp⟩) hHeld ?_
          simp only [Act.put, List.getElem_toArray, List.getElem_cons_succ, List.getElem_cons_zero, List.setIfInBounds_toArray, List.set_cons_succ, List.set_cons_zero]
          refine wpAnyH_take (i := 12) (oi := _) (v := .agg (stCells X)) rfl (by kernel_rfl) (by kernel_rfl) (by kernel_rfl) (fun _ _ _ h => h) (Or.inl ⟨by rfl, fun w _ => by go_simp⟩) hHeld ?_
          simp only [Act.put, List.getElem_toArray, List.getElem_cons_succ, List.getElem_cons_zero, List.setIfInBounds_toArray, List.set_cons_succ, List.set_cons_zero]
          refine wpAnyH_take (i := 13) (oi := _) (v := .int .i64 (o : Int)) rfl (by kernel_rfl) (by kernel_rfl) (by kernel_rfl) (fun _ _ _ h => h) (Or.inl ⟨by rfl, fun w _ => by go_simp⟩) hHeld ?_
          simp only [Act.put, List.getElem_toArray, List.getElem_cons_succ, List.getElem_cons_zero, List.setIfInBounds_toArray, List.set_cons_succ, List.set_cons_zero]
          refine wpAnyH_ready (rs := [15]) (by kernel_rfl) (by simp) ?_
          refine AllReadyH.cons (o := _) rfl (fun K hK => ?_) AllReadyH.nil
          rw [if_pos (by rfl)]
          refine wp_store_row _ _ _ rfl _ (stCells X) rfl rfl _ _ hb6 (by rw [stateInfo]; rfl) rfl (oneCells X) ?_
          have hB7 := below_row hB6 (Nat.le_refl _) (stCells X)
          have hx7 := row_same hb6 X
          refine hK.out _ _ (unhide HSS _ hB7) (fun hHeld => ?_)
          clear hK K
          refine wpAnyH_take (i := 16) (oi := _) (v := .int .i64 (o : Int)) rfl (by kernel_rfl) (by kernel_rfl) (by kernel_rfl) (fun _ _ _ h => h) (Or.inl ⟨by rfl, fun w _ => by go_simp⟩) hHeld ?_
          simp only [Act.put, List.getElem_toArray, List.getElem_cons_succ, List.getElem_cons_zero, List.setIfInBounds_toArray, List.set_cons_succ, List.set_cons_zero]
          refine wpAnyH_done (by kernel_rfl) ?_ _
          have HX7 := hide hx7
          have HD7 := hide (HD4.out.below hB7)
          clear hHeld hx7 hB7
          go_wp2_with fail
          go_meet
          exact ⟨_, rfl, HX7.out, HD7.out⟩
      case rest =>
        obtain ⟨b, rfl, hb, hD⟩ := hcut
        have HB := hide hb
        have HD := hide hD
        have hgo := goTo_any p C R1 (R.cycle + 1) X wc.drew hD.rp.drew
        rw [hR2.out] at hgo
        have HGO := hide hgo
        have c5 : wc.cell? ⟨p, 5, none⟩ = some (.int .i64 R.cycle) := by rw [hD.rp.c5, HI1.out.1]
        have hwr : IntKind.i64.wrap (R.cycle + 1) = R.cycle + 1 := IntWalk.i64_in _ (by omega)
        have RNG : Hid (wc.drew.rangeAt b 0 (stCells X).toList) := hide (fun j u hj => by rw [Nat.zero_add]; exact (blk_cell hb j).trans (by simpa using hj))
        clear hb hD hgo HSS HSTEP HD4
        go_wp2_with fail
        go_cut [] from 45 to 52 (fun wc => DMid w wc w.heap.size p C R2 F)
        case first =>
          refine wp_region_held_drew (S := fun _ => True) (by kernel_rfl) trivial (fun hHeld => ?_)
          refine wpAnyH_take (i := 0) (oi := _) (v := .pointer (some ⟨p, 0, none⟩)) rfl (by kernel_rfl) (by kernel_rfl) (by kernel_rfl) (fun _ _ _ h => h) (Or.inl ⟨by rfl, fun w _ => by go_simp⟩) hHeld ?_
          simp only [Act.put, List.getElem_toArray, List.getElem_cons_zero, List.setIfInBounds_toArray, List.set_cons_succ, List.set_cons_zero]
          refine wpAnyH_take (i := 1) (oi := _) (v := .pointer (some ⟨p, 0, none⟩)) rfl (by kernel_rfl) (by kernel_rfl) (by kernel_rfl) (fun _ _ _ h => h) (Or.inl ⟨by rfl, fun w _ => by go_simp⟩) hHeld ?_
          simp only [Act.put, List.getElem_toArray, List.getElem_cons_succ, List.getElem_cons_zero, List.setIfInBounds_toArray, List.set_cons_succ, List.set_cons_zero]
          refine wpAnyH_take (i := 2) (oi := _) (v := .pointer (some ⟨p, 0, none⟩)) rfl (by kernel_rfl) (by kernel_rfl) (by kernel_rfl) (fun _ _ _ h => h) (Or.inl ⟨by rfl, fun w _ => by go_simp⟩) hHeld ?_
          simp only [Act.put, List.getElem_toArray, List.getElem_cons_succ, List.getElem_cons_zero, List.setIfInBounds_toArray, List.set_cons_succ, List.set_cons_zero]
          refine wpAnyH_take (i := 3) (oi := _) (v := .pointer (some ⟨p, 5, none⟩)) rfl (by kernel_rfl) (by kernel_rfl) (by kernel_rfl) (fun _ _ _ h => h) (Or.inl ⟨by rfl, fun w _ => by go_simp⟩) hHeld ?_
          simp only [Act.put, List.getElem_toArray, List.getElem_cons_succ, List.getElem_cons_zero, List.setIfInBounds_toArray, List.set_cons_succ, List.set_cons_zero]
          refine wpAnyH_ready (rs := [4, 6]) (by kernel_rfl) (by simp) ?_
          refine AllReadyH.cons (o := _) rfl (fun K hK => ?_) (AllReadyH.cons (o := _) rfl (fun K hK => ?_) AllReadyH.nil)
          · rw [if_pos (by rfl)]
            go_simp
            refine hK.out _ _ trivial (fun hHeld => ?_)
            clear hK K
            refine wpAnyH_take (i := 5) (oi := _) (v := .int .i64 (R.cycle + 1)) rfl (by kernel_rfl) (by kernel_rfl) (by kernel_rfl) (fun _ _ _ h => h) (Or.inl ⟨by rfl, fun w _ => by go_simp⟩) hHeld ?_
            simp only [Act.put, List.getElem_toArray, List.getElem_cons_succ, List.getElem_cons_zero, List.setIfInBounds_toArray, List.set_cons_succ, List.set_cons_zero]
            refine wpAnyH_ready (rs := [6]) (by kernel_rfl) (by simp) ?_
            refine AllReadyH.cons (o := _) rfl (fun K hK => ?_) AllReadyH.nil
            rw [if_pos (by rfl)]
            refine wp_load_mid 34 _ rfl b 0 rfl (stCells X).toList _ RNG.out Tryz.underlying34 rfl (by rw [stateInfo]; rfl) ?_
            refine hK.out _ _ trivial (fun hHeld => ?_)
            clear hK K
            refine wpAnyH_ready (rs := [7]) (by kernel_rfl) (by simp) ?_
            refine AllReadyH.cons (o := _) rfl (fun K hK => ?_) AllReadyH.nil
            rw [if_pos (by rfl)]
            go_simp
            go_at_call 196
            refine HGO.out.mono ?_
            rintro e w6 ⟨rfl, hr6, hm6⟩
            dsimp only
            refine hK.out _ _ trivial (fun hHeld => ?_)
            clear hK K
            refine wpAnyH_done (by kernel_rfl) ?_ _
            have HD6 := hide (HD.out.drew.mod hpl hm6 hr6)
            clear hHeld
            go_wp2_with fail
            go_meet
            exact HD6.out
          · rw [if_pos (by rfl)]
            refine wp_load_mid 34 _ rfl b 0 rfl (stCells X).toList _ RNG.out Tryz.underlying34 rfl (by rw [stateInfo]; rfl) ?_
            refine hK.out _ _ trivial (fun hHeld => ?_)
            clear hK K
            refine wpAnyH_ready (rs := [4]) (by kernel_rfl) (by simp) ?_
            refine AllReadyH.cons (o := _) rfl (fun K hK => ?_) AllReadyH.nil
            rw [if_pos (by rfl)]
            go_simp
            refine hK.out _ _ trivial (fun hHeld => ?_)
            clear hK K
            refine wpAnyH_take (i := 5) (oi := _) (v := .int .i64 (R.cycle + 1)) rfl (by kernel_rfl) (by kernel_rfl) (by kernel_rfl) (fun _ _ _ h => h) (Or.inl ⟨by rfl, fun w _ => by go_simp⟩) hHeld ?_
            simp only [Act.put, List.getElem_toArray, List.getElem_cons_succ, List.getElem_cons_zero, List.setIfInBounds_toArray, List.set_cons_succ, List.set_cons_zero]
            refine wpAnyH_ready (rs := [7]) (by kernel_rfl) (by simp) ?_
            refine AllReadyH.cons (o := _) rfl (fun K hK => ?_) AllReadyH.nil
            rw [if_pos (by rfl)]
            go_simp
            go_at_call 196
            refine HGO.out.mono ?_
            rintro e w6 ⟨rfl, hr6, hm6⟩
            dsimp only
            refine hK.out _ _ trivial (fun hHeld => ?_)
            clear hK K
            refine wpAnyH_done (by kernel_rfl) ?_ _
            have HD6 := hide (HD.out.drew.mod hpl hm6 hr6)
            clear hHeld
            go_wp2_with fail
            go_meet
            exact HD6.out
        case rest =>
          have HD6 := hide hcut
          rename World => w6
          clear hcut HD HB HGO RNG c5 hwr
          have c5 : w6.cell? ⟨p, 5, none⟩ = some (.int .i64 (R.cycle + 1)) := by rw [HD6.out.rp.c5, HI2.out.1]
          have c7 : w6.cell? ⟨p, 7, none⟩ = some (.int .i64 m) := by rw [HD6.out.rp.c7, HI2.out.2]
          have HTT : Hid (TT = if R.cycle + 1 ≤ m then [asksR R2] else []) := hide (by rw [← hTT.out]; unfold doneT; rw [if_neg (of_decide_eq_false hbl), hRR.out, HRR.out, HI2.out.1, HI2.out.2])
          obtain ⟨bq, hbq⟩ : ∃ b, decide (R.cycle + 1 ≤ m) = b := ⟨_, rfl⟩
          cases bq
          · have HT0 : Hid (TT = []) := hide (by rw [HTT.out, if_neg (of_decide_eq_false hbq)])
            clear HTT
            go_wp2_with fail
            go_quiet (fail)
            go_wp2
            go_ret
            exact ⟨⟨_, rfl, .inl ⟨HT0.out, rfl⟩⟩, by rw [HRR.out]; exact (HD6.out.drewN _).rp, (HD6.out.drewN _).old⟩
          · have HT0 : Hid (TT = [asksR R2]) := hide (by rw [HTT.out, if_pos (of_decide_eq_true hbq)])
            clear HTT
            go_wp2_with fail
            go_quiet (fail)
            go_wp2_with fail
            refine (asks_any p C R2 _ (HD6.out.drewN _).rp).mono ?_
            rintro e w9 ⟨rfl, hB9⟩
            have HD9 := hide ((HD6.out.drewN _).below hB9)
            clear hB9
            go_wp2_with (refine wpList_one_f rfl _ rfl (asksR R2) rfl w9.heap.size rfl ?_)
            intro w10 H10
            go_wp2
            go_ret
            exact ⟨⟨_, rfl, by rw [HT0.out]; exact FRow.one H10.out.1⟩, by rw [HRR.out]; exact (HD9.out.below H10.out.2.2).rp, (HD9.out.below H10.out.2.2).old⟩
  · have hlt : F 2 < R.cycle := of_decide_eq_true hbl
    have e1 : doneR C F R = R := if_pos hlt
    have e2 : doneT C F R = [] := if_pos hlt
    rw [e1, e2]
    clear e1 e2 k7 f7
    go_enter Tryz.func174, Tryz.ntmps174
    go_wp2_with fail
    rw [show w.alloc (.cells (fCells F) 36) = W from hW.out]
    clear hW
    go_quiet (fail)
    go_wp2
    go_ret
    exact ⟨⟨_, rfl, .inl ⟨rfl, rfl⟩⟩, (HD0.out.drewN _).rp, (HD0.out.drewN _).old⟩
end Go.Proofs.YtaablbmgagiajabGreatDoor
