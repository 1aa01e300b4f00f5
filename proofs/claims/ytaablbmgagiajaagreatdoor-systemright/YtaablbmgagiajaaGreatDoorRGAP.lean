import Derived.Test.YtaablbmgagiajaaGreatDoorRGAO
import Derived.Test.YtaablbmgagiajaaGreatDoorRGAN
namespace Go.Proofs.YtaablbmgagiajaaGreatDoor
open Go.RowKit Go.Deep
set_option maxHeartbeats 1000000 in
set_option maxRecDepth 20000 in
theorem rframe_any (p : Nat) (C : RC) (R : RS) (kind : Int) (w : World) (h : RpIs w p C R) :
    Calls Tryz.prog 74 #[.pointer (some ⟨p, 0, none⟩), .int .i64 kind] w fun e w' => e = .returned (.agg (fCells (startF kind (R.id : Int) R.cycle))) ∧ Below w.heap.size w w' := by
  obtain ⟨W, hW⟩ : ∃ W, Hid (w.alloc (.cells (fCells fr0) 35) = W) := ⟨_, hide rfl⟩
  have hB0 : Below w.heap.size w W := by rw [← hW.out]; exact (Below.refl _ _).alloc (Nat.le_refl _) _
  have hres : FIs W w.heap.size 35 fr0 := by rw [← hW.out]; exact blk_new _ _
  have hss : ∀ w', Below w.heap.size w w' → w'.cell? ⟨p, 0, none⟩ = some (.int .i64 (R.id : Int)) ∧ w'.cell? ⟨p, 5, none⟩ = some (.int .i64 R.cycle) := fun w' hx => ⟨(hx.cell (p := ⟨p, 0, none⟩) h.lt).trans h.c0, (hx.cell (p := ⟨p, 5, none⟩) h.lt).trans h.c5⟩
  have HSS := hide hss
  have HB0 := hide hB0
  have HRES := hide hres
  have hN : fCells (startF kind (R.id : Int) R.cycle) = #[.int .i64 kind, .int .i64 (R.id : Int), .int .i64 R.cycle, .int .i64 0, .int .i64 0, .int .i64 0, .int .i64 0, .int .i64 0, .int .i64 0, .int .i64 0, .int .i64 0, .int .i64 0, .int .i64 0, .int .i64 0, .int .i64 0, .int .i64 0, .int .i64 0, .int .i64 0, .int .i64 0, .int .i64 0, .int .i64 0, .int .i64 0, .int .i64 0] := by simp [fCells, startF]
  have HN := hide hN
  clear h hB0 hres hss hN
  go_enter Tryz.func74, Tryz.ntmps74
  go_wp2_with fail
  rw [show w.alloc (.cells #[.int .i64 0, .int .i64 0, .int .i64 0, .int .i64 0, .int .i64 0, .int .i64 0, .int .i64 0, .int .i64 0, .int .i64 0, .int .i64 0, .int .i64 0, .int .i64 0, .int .i64 0, .int .i64 0, .int .i64 0, .int .i64 0, .int .i64 0, .int .i64 0, .int .i64 0, .int .i64 0, .int .i64 0, .int .i64 0, .int .i64 0] 35) = W from hW.out]
  refine wp_region_held_drew (S := fun w' => w'.cell? ⟨p, 0, none⟩ = some (.int .i64 (R.id : Int)) ∧ w'.cell? ⟨p, 5, none⟩ = some (.int .i64 R.cycle)) (by kernel_rfl) (unhide HSS _ HB0.out.drew) (fun hHeld => ?_)
  refine wpAnyH_take (i := 0) (oi := _) (v := .int .i64 kind) rfl (by kernel_rfl) (by kernel_rfl) (by kernel_rfl) (fun _ _ _ h => h) (Or.inl ⟨by rfl, fun w _ => by go_simp⟩) hHeld ?_
  simp only [Act.put, List.getElem_toArray, List.getElem_cons_zero, List.setIfInBounds_toArray, List.set_cons_succ, List.set_cons_zero]
  refine wpAnyH_take (i := 1) (oi := _) (v := .pointer (some ⟨p, 0, none⟩)) rfl (by kernel_rfl) (by kernel_rfl) (by kernel_rfl) (fun _ _ _ h => h) (Or.inl ⟨by rfl, fun w _ => by go_simp⟩) hHeld ?_
  simp only [Act.put, List.getElem_toArray, List.getElem_cons_succ, List.getElem_cons_zero, List.setIfInBounds_toArray, List.set_cons_succ, List.set_cons_zero]
  refine wpAnyH_take (i := 2) (oi := _) (v := .pointer (some ⟨p, 0, none⟩)) rfl (by kernel_rfl) (by kernel_rfl) (by kernel_rfl) (fun _ _ _ h => h) (Or.inl ⟨by rfl, fun w _ => by go_simp⟩) hHeld ?_
  simp only [Act.put, List.getElem_toArray, List.getElem_cons_succ, List.getElem_cons_zero, List.setIfInBounds_toArray, List.set_cons_succ, List.set_cons_zero]
  refine wpAnyH_take (i := 3) (oi := _) (v := .pointer (some ⟨p, 0, none⟩)) rfl (by kernel_rfl) (by kernel_rfl) (by kernel_rfl) (fun _ _ _ h => h) (Or.inl ⟨by rfl, fun w _ => by go_simp⟩) hHeld ?_
  simp only [Act.put, List.getElem_toArray, List.getElem_cons_succ, List.getElem_cons_zero, List.setIfInBounds_toArray, List.set_cons_succ, List.set_cons_zero]
  refine wpAnyH_take (i := 4) (oi := _) (v := .int .i64 (R.id : Int)) rfl (by kernel_rfl) (by kernel_rfl) (by kernel_rfl) (fun _ _ _ h => h) (Or.inl ⟨by rfl, fun w h => by obtain ⟨h1, h2⟩ := h; go_simp⟩) hHeld ?_
  simp only [Act.put, List.getElem_toArray, List.getElem_cons_succ, List.getElem_cons_zero, List.setIfInBounds_toArray, List.set_cons_succ, List.set_cons_zero]
  refine wpAnyH_take (i := 5) (oi := _) (v := .pointer (some ⟨p, 0, none⟩)) rfl (by kernel_rfl) (by kernel_rfl) (by kernel_rfl) (fun _ _ _ h => h) (Or.inl ⟨by rfl, fun w _ => by go_simp⟩) hHeld ?_
  simp only [Act.put, List.getElem_toArray, List.getElem_cons_succ, List.getElem_cons_zero, List.setIfInBounds_toArray, List.set_cons_succ, List.set_cons_zero]
  refine wpAnyH_take (i := 6) (oi := _) (v := .pointer (some ⟨p, 0, none⟩)) rfl (by kernel_rfl) (by kernel_rfl) (by kernel_rfl) (fun _ _ _ h => h) (Or.inl ⟨by rfl, fun w _ => by go_simp⟩) hHeld ?_
  simp only [Act.put, List.getElem_toArray, List.getElem_cons_succ, List.getElem_cons_zero, List.setIfInBounds_toArray, List.set_cons_succ, List.set_cons_zero]
  refine wpAnyH_take (i := 7) (oi := _) (v := .pointer (some ⟨p, 5, none⟩)) rfl (by kernel_rfl) (by kernel_rfl) (by kernel_rfl) (fun _ _ _ h => h) (Or.inl ⟨by rfl, fun w _ => by go_simp⟩) hHeld ?_
  simp only [Act.put, List.getElem_toArray, List.getElem_cons_succ, List.getElem_cons_zero, List.setIfInBounds_toArray, List.set_cons_succ, List.set_cons_zero]
  refine wpAnyH_take (i := 8) (oi := _) (v := .int .i64 R.cycle) rfl (by kernel_rfl) (by kernel_rfl) (by kernel_rfl) (fun _ _ _ h => h) (Or.inl ⟨by rfl, fun w h => by obtain ⟨h1, h2⟩ := h; go_simp⟩) hHeld ?_
  simp only [Act.put, List.getElem_toArray, List.getElem_cons_succ, List.getElem_cons_zero, List.setIfInBounds_toArray, List.set_cons_succ, List.set_cons_zero]
  refine wpAnyH_take (i := 9) (oi := _) (v := .agg #[.int .i64 kind, .int .i64 (R.id : Int), .int .i64 R.cycle, .int .i64 0, .int .i64 0, .int .i64 0, .int .i64 0, .int .i64 0, .int .i64 0, .int .i64 0, .int .i64 0, .int .i64 0, .int .i64 0, .int .i64 0, .int .i64 0, .int .i64 0, .int .i64 0, .int .i64 0, .int .i64 0, .int .i64 0, .int .i64 0, .int .i64 0, .int .i64 0]) rfl (by kernel_rfl) (by kernel_rfl) (by kernel_rfl) (fun _ _ _ h => h) (Or.inl ⟨by rfl, fun w _ => by go_simp⟩) hHeld ?_
  simp only [Act.put, List.getElem_toArray, List.getElem_cons_succ, List.getElem_cons_zero, List.setIfInBounds_toArray, List.set_cons_succ, List.set_cons_zero]
  refine wpAnyH_ready (rs := [10]) (by kernel_rfl) (by simp) ?_
  refine AllReadyH.cons (o := _) rfl (fun K hK => ?_) AllReadyH.nil
  rw [if_pos (by rfl)]
  have hz5 : FIs W.drew w.heap.size 35 fr0 := HRES.out
  refine wp_store_row _ _ _ rfl _ (fCells (startF kind (R.id : Int) R.cycle)) rfl (by rw [HN.out]; rfl) _ _ hz5 (by rw [infoFrame]; rfl) rfl (fOne _) ?_
  have hB6 : Below w.heap.size w (W.drew.setRow w.heap.size (fCells (startF kind (R.id : Int) R.cycle))) := below_row HB0.out.drew (Nat.le_refl _) _
  have hz6 := hz5.row (startF kind (R.id : Int) R.cycle)
  refine hK.out _ _ (unhide HSS _ hB6) (fun hHeld => ?_)
  clear hK K
  obtain ⟨w3, hw3⟩ : ∃ w3, Hid (W.drew.setRow w.heap.size (fCells (startF kind (R.id : Int) R.cycle)) = w3) := ⟨_, hide rfl⟩
  rw [hw3.out] at hB6 hz6
  refine wpAnyH_done (by kernel_rfl) ?_ _
  simp only [Act.put, List.getElem_toArray, List.getElem_cons_succ, List.getElem_cons_zero]
  rw [hw3.out]
  have HB6 := hide hB6
  have HZ6 := hide hz6
  clear hB6 hz6 hz5 hHeld hw3
  go_wp2
  refine bodyPost_ret (v := .agg (fCells (startF kind (R.id : Int) R.cycle))) ?_ rfl ⟨rfl, HB6.out⟩
  exact results_cell1 Tryz.results74 rfl (load_f HZ6.out)
set_option maxHeartbeats 1000000 in
set_option maxRecDepth 20000 in
theorem asks_any (p : Nat) (C : RC) (R : RS) (w : World) (h : RpIs w p C R) :
    Calls Tryz.prog 54 #[.pointer (some ⟨p, 0, none⟩)] w fun e w' => e = .returned (.agg (fCells (startF 4 (R.id : Int) R.cycle))) ∧ Below w.heap.size w w' := by
  have hB0 : Below w.heap.size w (w.alloc (.cells (fCells fr0) 35)) := (Below.refl _ _).alloc (Nat.le_refl _) _
  have hres : FIs (w.alloc (.cells (fCells fr0) 35)) w.heap.size 35 fr0 := blk_new _ _
  have hfr := rframe_any p C R 4 _ (h.below hB0)
  have HFR := hide hfr
  have HB0 := hide hB0
  have HRES := hide hres
  clear h hB0 hres hfr
  go_enter Tryz.func54, Tryz.ntmps54
  go_wp2_with fail
  refine HFR.out.mono ?_
  rintro e w1 ⟨rfl, hB1⟩
  have hr1 : FIs w1 w.heap.size 35 fr0 := HRES.out.below (by simp) hB1
  have HR1 := hide hr1
  have HB1 := hide (HB0.out.trans (hB1.mono (by simp)))
  clear hr1 hB1 HRES HB0 HFR
  go_wp2_with (refine wpList_store_fl rfl _ _ rfl w.heap.size (startF 4 (R.id : Int) R.cycle) rfl rfl fr0 HR1.out ?_)
  intro w9 HF9
  go_wp2
  refine bodyPost_ret (v := .agg (fCells (startF 4 (R.id : Int) R.cycle))) ?_ rfl ⟨rfl, HB1.out.trans (HF9.out.2.2 _ (Nat.le_refl _))⟩
  exact results_cell1 Tryz.results54 rfl (load_f HF9.out.1)
def outR (C : RC) (R : RS) (c v : Nat) : Nat := outF (rt C.zs) (conf C.zs) C.n C.d (fitN C.s (c : Int)) (fitN C.n (v : Int)) R.st
def nextR (C : RC) (R : RS) (x y : Int) : St := nextF (rt C.zs) (conf C.zs) C.n C.d (fitN C.s x) (fitN C.n y) R.st
def voteR (C : RC) (R : RS) : FR := votF 2 (R.id : Int) R.cycle ((fuseC R : Nat) : Int) ((fuseV R : Nat) : Int) ((outR C R (fuseC R) (fuseV R) : Nat) : Int)
structure VMid (w wz : World) (N q p : Nat) (C : RC) (R : RS) (F : FR) : Prop where
  old : Below N w wz
  res : FIs wz N 35 fr0
  frm : FIs wz q 35 F
  rp : RpIs wz p C R
section
variable {w wz wx : World} {N q p : Nat} {C : RC} {R : RS} {F : FR}
theorem VMid.below (h : VMid w wz N q p C R F) (hN : N ≤ w.heap.size) (hB : Below wz.heap.size wz wx) : VMid w wx N q p C R F :=
  ⟨h.old.trans (hB.mono (Nat.le_trans hN h.old.size)), h.res.below h.res.lt hB, h.frm.below h.frm.lt hB, h.rp.below hB⟩
theorem VMid.put (h : VMid w wz N q p C R F) (hq : N < q) (_ : p < N) (hN : N = w.heap.size) (hg : p ≠ q ∧ C.pc < N ∧ C.g < N ∧ C.M < N ∧ C.g2 < N) {k : Nat} (hk : k < 23) (x : Int) : VMid w (wz.setCell ⟨q, k, none⟩ (.int .i64 x)) N q p C R (upd F k x) := by
  have hm : Mod wz (wz.setCell ⟨q, k, none⟩ (.int .i64 x)) (· = q) := (Mod.refl _ _).set ⟨q, k, none⟩ _ (fun _ => rfl)
  obtain ⟨g0, g1, g2, g3, g4⟩ := hg
  exact ⟨h.old.setCell (by show N ≤ q; omega) _, (Below.heap_setCell _ _ _ _ (by show N ≠ q; omega)).trans h.res, h.frm.put hk x, h.rp.other hm ⟨fun e => g0 e.symm, by omega, by omega, by omega, by omega⟩⟩
end
set_option maxHeartbeats 2000000 in
set_option maxRecDepth 20000 in
theorem vote_any (p : Nat) (C : RC) (R : RS) (w : World) (h : RpIs w p C R) (hok : SmpOk R) (hst : StOk R.st) :
    Calls Tryz.prog 90 #[.pointer (some ⟨p, 0, none⟩)] w fun e w' => e = .returned (.agg (fCells (voteR C R))) ∧ Below w.heap.size w w' := by
  have hB0 : Below w.heap.size w (w.alloc (.cells (fCells fr0) 35)) := (Below.refl _ _).alloc (Nat.le_refl _) _
  have hres : FIs (w.alloc (.cells (fCells fr0) 35)) w.heap.size 35 fr0 := blk_new _ _
  have hfr := rframe_any p C R 2 _ (h.below hB0)
  have hpl := h.lt
  have hg : C.pc < w.heap.size ∧ C.g < w.heap.size ∧ C.M < w.heap.size ∧ C.g2 < w.heap.size := ⟨h.core.plt, h.core.glt, h.core.mlt, h.lt2⟩
  have HG := hide hg
  have HFR := hide hfr
  have HB0 := hide hB0
  have HRES := hide hres
  have H := hide h
  have HOK := hide hok
  have HST := hide hst
  clear h hB0 hres hfr hok hst hg
  go_enter Tryz.func90, Tryz.ntmps90
  go_wp2_with fail
  refine HFR.out.mono ?_
  rintro e w1 ⟨rfl, hB1⟩
  have hr1 : FIs w1 w.heap.size 35 fr0 := HRES.out.below (by simp) hB1
  have hBw1 : Below w.heap.size w w1 := HB0.out.trans (hB1.mono (by simp))
  have hs1 : w.heap.size < w1.heap.size := hr1.lt
  have hq0 : FIs (w1.alloc (.cells (fCells fr0) 35)) w1.heap.size 35 fr0 := blk_new _ _
  have HQ0 := hide hq0
  have HR1 := hide hr1
  have HB1 := hide hBw1
  clear hr1 hB1 hBw1 hq0 HRES HB0 HFR
  go_wp2_with (refine wpList_store_fl rfl _ _ rfl w1.heap.size (startF 2 (R.id : Int) R.cycle) rfl rfl fr0 HQ0.out ?_)
  intro w2 HF2
  have hM2 : VMid w w2 w.heap.size w1.heap.size p C R (startF 2 (R.id : Int) R.cycle) := by
    obtain ⟨a1, a2, a3⟩ := HF2.out
    have hb : Below w1.heap.size w1 w2 := ((Below.refl w1.heap.size w1).alloc (Nat.le_refl _) _).trans (a3 _ (Nat.le_refl _))
    exact ⟨HB1.out.trans (hb.mono (by omega)), HR1.out.below (by omega) hb, a1, H.out.below (HB1.out.trans (hb.mono (by omega)))⟩
  have hfu := fused_any p C R w2 hM2.rp HOK.out
  have HFU := hide hfu
  have HM2 := hide hM2
  obtain ⟨q, hq⟩ : ∃ q, q = w1.heap.size := ⟨_, rfl⟩
  rw [← hq] at HM2 hs1 ⊢
  clear hfu hM2 HF2 HQ0 HR1 HB1 hq
  go_wp2_with fail
  refine HFU.out.mono ?_
  rintro e w3 ⟨rfl, hB3⟩
  have hM3 := HM2.out.below (Nat.le_refl _) hB3
  obtain ⟨c, hc⟩ : ∃ c, Hid (fuseC R = c) := ⟨_, hide rfl⟩
  obtain ⟨v, hv⟩ : ∃ v, Hid (fuseV R = v) := ⟨_, hide rfl⟩
  rw [hc.out, hv.out]
  have k3 := hM3.frm.at (k := 3) (by omega)
  have k4 := hM3.frm.at (k := 4) (by omega)
  have f3 := hM3.frm.free 3
  have f4 := hM3.frm.free 4
  have hM4 := (hM3.put hs1 hpl rfl ⟨by omega, HG.out⟩ (k := 3) (by omega) (c : Int)).put hs1 hpl rfl ⟨by omega, HG.out⟩ (k := 4) (by omega) (v : Int)
  have HM4 := hide hM4
  clear hM3 hM4 hB3 HM2 HFU
  go_wp2_with fail
  clear k3 k4 f3 f4
  generalize (w3.setCell ⟨q, 3, none⟩ (.int .i64 (c : Int))).setCell ⟨q, 4, none⟩ (.int .i64 (v : Int)) = w4 at HM4 ⊢
  obtain ⟨G, hG⟩ : ∃ G, Hid (G = upd (upd (startF 2 (R.id : Int) R.cycle) 3 (c : Int)) 4 (v : Int)) := ⟨_, hide rfl⟩
  rw [← hG.out] at HM4
  have g3 : G 3 = (c : Int) := by rw [hG.out]; rfl
  have g4 : G 4 = (v : Int) := by rw [hG.out]; rfl
  have hss : ∀ w', Below w4.heap.size w4 w' → w'.cell? ⟨p, 4, none⟩ = some (.pointer (some ⟨C.pc, 0, none⟩)) ∧ w'.rangeAt p 8 (stCells R.st).toList ∧ w'.cell? ⟨q, 3, none⟩ = some (.int .i64 (c : Int)) ∧ w'.cell? ⟨q, 4, none⟩ = some (.int .i64 (v : Int)) := by
    intro w' hx
    have hM := HM4.out.below (Nat.le_refl _) hx
    exact ⟨hM.rp.c4, hM.rp.state, (hM.frm.at (by omega)).trans (by rw [g3]), (hM.frm.at (by omega)).trans (by rw [g4])⟩
  have hstep : ∀ wx, Below w4.heap.size w4 wx → Calls Tryz.prog 14 #[.pointer (some ⟨C.pc, 0, none⟩), .agg (stCells R.st), .agg #[.int .i64 (c : Int), .int .i64 (v : Int)]] wx fun e w' =>
      e = .returned (.tuple #[.agg (stCells (nextR C R c v)), .int .i64 ((outR C R c v : Nat) : Int)]) ∧ Hid (Below w4.heap.size w4 w') := by
    intro wx hx
    refine (step_any C.pc C.s C.d C.n C.zs C.g C.cg C.M (c : Int) (v : Int) R.st wx (HM4.out.below (Nat.le_refl _) hx).rp.core HST.out).mono ?_
    rintro e w' ⟨he, hB⟩
    exact ⟨he, hx.trans (hB.mono hx.size)⟩
  have HSS := hide hss
  have HSTEP := hide hstep
  clear hss hstep g3 g4
  generalize nextR C R c v = X at HSTEP
  obtain ⟨o, ho⟩ : ∃ o, Hid (outR C R c v = o) := ⟨_, hide rfl⟩
  rw [ho.out] at HSTEP
  go_wp2_with fail
  refine wp_region_held_drew (S := fun w' => w'.cell? ⟨p, 4, none⟩ = some (.pointer (some ⟨C.pc, 0, none⟩)) ∧ w'.rangeAt p 8 (stCells R.st).toList ∧ w'.cell? ⟨q, 3, none⟩ = some (.int .i64 (c : Int)) ∧ w'.cell? ⟨q, 4, none⟩ = some (.int .i64 (v : Int))) (by kernel_rfl) (unhide HSS _ (Below.refl _ _).drew) (fun hHeld => ?_)
  refine wpAnyH_take (i := 0) (oi := _) (v := .pointer (some ⟨p, 0, none⟩)) rfl (by kernel_rfl) (by kernel_rfl) (by kernel_rfl) (fun _ _ _ h => h) (Or.inl ⟨by rfl, fun w _ => by go_simp⟩) hHeld ?_
  simp only [Act.put, List.getElem_toArray, List.getElem_cons_zero, List.setIfInBounds_toArray, List.set_cons_succ, List.set_cons_zero]
  refine wpAnyH_take (i := 1) (oi := _) (v := .pointer (some ⟨p, 0, none⟩)) rfl (by kernel_rfl) (by kernel_rfl) (by kernel_rfl) (fun _ _ _ h => h) (Or.inl ⟨by rfl, fun w _ => by go_simp⟩) hHeld ?_
  simp only [Act.put, List.getElem_toArray, List.getElem_cons_succ, List.getElem_cons_zero, List.setIfInBounds_toArray, List.set_cons_succ, List.set_cons_zero]
  refine wpAnyH_take (i := 2) (oi := _) (v := .pointer (some ⟨p, 4, none⟩)) rfl (by kernel_rfl) (by kernel_rfl) (by kernel_rfl) (fun _ _ _ h => h) (Or.inl ⟨by rfl, fun w _ => by go_simp⟩) hHeld ?_
  simp only [Act.put, List.getElem_toArray, List.getElem_cons_succ, List.getElem_cons_zero, List.setIfInBounds_toArray, List.set_cons_succ, List.set_cons_zero]
  refine wpAnyH_take (i := 3) (oi := _) (v := .pointer (some ⟨C.pc, 0, none⟩)) rfl (by kernel_rfl) (by kernel_rfl) (by kernel_rfl) (fun _ _ _ h => h) (Or.inl ⟨by rfl, fun w h => by obtain ⟨h1, h2, h3, h4⟩ := h; go_simp⟩) hHeld ?_
  simp only [Act.put, List.getElem_toArray, List.getElem_cons_succ, List.getElem_cons_zero, List.setIfInBounds_toArray, List.set_cons_succ, List.set_cons_zero]
  refine wpAnyH_take (i := 4) (oi := _) (v := .pointer (some ⟨p, 0, none⟩)) rfl (by kernel_rfl) (by kernel_rfl) (by kernel_rfl) (fun _ _ _ h => h) (Or.inl ⟨by rfl, fun w _ => by go_simp⟩) hHeld ?_
  simp only [Act.put, List.getElem_toArray, List.getElem_cons_succ, List.getElem_cons_zero, List.setIfInBounds_toArray, List.set_cons_succ, List.set_cons_zero]
  refine wpAnyH_take (i := 5) (oi := _) (v := .pointer (some ⟨p, 0, none⟩)) rfl (by kernel_rfl) (by kernel_rfl) (by kernel_rfl) (fun _ _ _ h => h) (Or.inl ⟨by rfl, fun w _ => by go_simp⟩) hHeld ?_
  simp only [Act.put, List.getElem_toArray, List.getElem_cons_succ, List.getElem_cons_zero, List.setIfInBounds_toArray, List.set_cons_succ, List.set_cons_zero]
  refine wpAnyH_take (i := 6) (oi := _) (v := .pointer (some ⟨p, 8, none⟩)) rfl (by kernel_rfl) (by kernel_rfl) (by kernel_rfl) (fun _ _ _ h => h) (Or.inl ⟨by rfl, fun w _ => by go_simp⟩) hHeld ?_
  simp only [Act.put, List.getElem_toArray, List.getElem_cons_succ, List.getElem_cons_zero, List.setIfInBounds_toArray, List.set_cons_succ, List.set_cons_zero]
  refine wpAnyH_take (i := 7) (oi := _) (v := _) rfl (by kernel_rfl) (by kernel_rfl) (by kernel_rfl) (fun _ _ _ h => h) (yieldsIf_load_mid (by rfl) 33 _ rfl p 8 rfl (stCells R.st).toList _ (fun w h => h.2.1) Tryz.underlying33 rfl (by rw [stateInfo]; rfl)) hHeld ?_
  simp only [Act.put, List.getElem_toArray, List.getElem_cons_succ, List.getElem_cons_zero, List.setIfInBounds_toArray, List.set_cons_succ, List.set_cons_zero]
  refine wpAnyH_take (i := 8) (oi := _) (v := .pointer (some ⟨q, 3, none⟩)) rfl (by kernel_rfl) (by kernel_rfl) (by kernel_rfl) (fun _ _ _ h => h) (Or.inl ⟨by rfl, fun w _ => by go_simp⟩) hHeld ?_
  simp only [Act.put, List.getElem_toArray, List.getElem_cons_succ, List.getElem_cons_zero, List.setIfInBounds_toArray, List.set_cons_succ, List.set_cons_zero]
  refine wpAnyH_take (i := 9) (oi := _) (v := .agg #[.int .i64 (c : Int), .int .i64 (v : Int)]) rfl (by kernel_rfl) (by kernel_rfl) (by kernel_rfl) (fun _ _ _ h => h) (Or.inl ⟨by rfl, fun w h => by obtain ⟨h1, h2, h3, h4⟩ := h; go_simp⟩) hHeld ?_
  simp only [Act.put, List.getElem_toArray, List.getElem_cons_succ, List.getElem_cons_zero, List.setIfInBounds_toArray, List.set_cons_succ, List.set_cons_zero]
  refine wpAnyH_ready (rs := [10]) (by kernel_rfl) (by simp) ?_
  refine AllReadyH.cons (o := _) rfl (fun K hK => ?_) AllReadyH.nil
  rw [if_pos (by rfl)]
  go_simp
  go_at_call 14
  refine (unhide HSTEP _ (Below.refl _ _).drew).mono ?_
  rintro e w5 ⟨rfl, HB5⟩
  dsimp only
  refine hK.out _ _ (unhide HSS _ HB5.out) (fun hHeld => ?_)
  clear hK K
  refine wpAnyH_take (i := 11) (oi := _) (v := .tuple #[.agg (stCells X), .int .i64 (o : Int)]) rfl (by kernel_rfl) (by kernel_rfl) (by kernel_rfl) (fun _ _ _ h => h) (Or.inl ⟨by rfl, fun w _ => by go_simp⟩) hHeld ?_
  simp only [Act.put, List.getElem_toArray, List.getElem_cons_succ, List.getElem_cons_zero, List.setIfInBounds_toArray, List.set_cons_succ, List.set_cons_zero]
  refine wpAnyH_take (i := 12) (oi := _) (v := .agg (stCells X)) rfl (by kernel_rfl) (by kernel_rfl) (by kernel_rfl) (fun _ _ _ h => h) (Or.inl ⟨by rfl, fun w _ => by go_simp⟩) hHeld ?_
  simp only [Act.put, List.getElem_toArray, List.getElem_cons_succ, List.getElem_cons_zero, List.setIfInBounds_toArray, List.set_cons_succ, List.set_cons_zero]
  refine wpAnyH_take (i := 13) (oi := _) (v := .int .i64 (o : Int)) rfl (by kernel_rfl) (by kernel_rfl) (by kernel_rfl) (fun _ _ _ h => h) (Or.inl ⟨by rfl, fun w _ => by go_simp⟩) hHeld ?_
  simp only [Act.put, List.getElem_toArray, List.getElem_cons_succ, List.getElem_cons_zero, List.setIfInBounds_toArray, List.set_cons_succ, List.set_cons_zero]
  refine wpAnyH_take (i := 14) (oi := _) (v := .pointer (some ⟨q, 5, none⟩)) rfl (by kernel_rfl) (by kernel_rfl) (by kernel_rfl) (fun _ _ _ h => h) (Or.inl ⟨by rfl, fun w _ => by go_simp⟩) hHeld ?_
  simp only [Act.put, List.getElem_toArray, List.getElem_cons_succ, List.getElem_cons_zero, List.setIfInBounds_toArray, List.set_cons_succ, List.set_cons_zero]
  have hM5 := HM4.out.below (Nat.le_refl _) HB5.out
  have k5 := hM5.frm.at (k := 5) (by omega)
  have f5 := hM5.frm.free 5
  have hM6 := hM5.put hs1 hpl rfl ⟨by omega, HG.out⟩ (k := 5) (by omega) (o : Int)
  have s6 : (w5.setCell ⟨q, 5, none⟩ (.int .i64 (o : Int))).cell? ⟨p, 4, none⟩ = some (.pointer (some ⟨C.pc, 0, none⟩)) ∧ (w5.setCell ⟨q, 5, none⟩ (.int .i64 (o : Int))).rangeAt p 8 (stCells R.st).toList ∧ (w5.setCell ⟨q, 5, none⟩ (.int .i64 (o : Int))).cell? ⟨q, 3, none⟩ = some (.int .i64 (c : Int)) ∧ (w5.setCell ⟨q, 5, none⟩ (.int .i64 (o : Int))).cell? ⟨q, 4, none⟩ = some (.int .i64 (v : Int)) :=
    ⟨hM6.rp.c4, hM6.rp.state, (hM6.frm.at (by omega)).trans (by rw [hG.out]; rfl), (hM6.frm.at (by omega)).trans (by rw [hG.out]; rfl)⟩
  have HM6 := hide hM6
  have S6 := hide s6
  clear hM5 hM6 s6
  refine wpAnyH_ready (rs := [15]) (by kernel_rfl) (by simp) ?_
  refine AllReadyH.cons (o := _) rfl (fun K hK => ?_) AllReadyH.nil
  rw [if_pos (by rfl)]
  go_simp
  refine hK.out _ _ S6.out (fun hHeld => ?_)
  clear hK K
  refine wpAnyH_done (by kernel_rfl) ?_ _
  clear hHeld k5 f5 S6 HSS HSTEP HB5 HM4
  generalize w5.setCell ⟨q, 5, none⟩ (.int .i64 (o : Int)) = w6 at HM6 ⊢
  have HE : Hid (fCells (upd G 5 (o : Int)) = fCells (voteR C R)) := hide (fCells_congr fun k _ => by
    unfold voteR
    rw [hc.out, hv.out, ho.out, hG.out]
    unfold upd startF votF
    (repeat' split) <;> first | rfl | omega)
  go_wp2_with (first
    | (refine wpList_load_f rfl _ rfl q rfl (upd G 5 (o : Int)) HM6.out.frm ?_)
    | (refine wpList_store_fl rfl _ _ rfl w.heap.size (upd G 5 (o : Int)) rfl rfl fr0 HM6.out.res ?_))
  intro w9 HF9
  go_wp2
  refine bodyPost_ret (v := .agg (fCells (upd G 5 (o : Int)))) ?_ rfl ⟨by rw [HE.out], HM6.out.old.trans (HF9.out.2.2 _ (Nat.le_refl _))⟩
  exact results_cell1 Tryz.results90 rfl (load_f HF9.out.1)
end Go.Proofs.YtaablbmgagiajaaGreatDoor
