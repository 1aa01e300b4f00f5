import Derived.Deep.CutRange
import Derived.Test.YtaablbmgagiajaaGreatDoorTGAQ
namespace Go.Proofs.YtaablbmgagiajaaGreatDoor
open Go.RowKit Go.Deep
def aheadR (x : Int) (R : RS) : RS := { R with ahead := if R.ahead < x then x else R.ahead }
def doneR (C : RC) (F : FR) (R : RS) : RS :=
  if F 2 < R.cycle then R else if F 2 = R.cycle then goR (R.cycle + 1) (nextR C R (F 3) (F 4)) (aheadR (F 2) R) else aheadR (F 2) R
def asksR (R : RS) : FR := startF 4 (R.id : Int) R.cycle
def doneT (C : RC) (F : FR) (R : RS) : List FR := if F 2 < R.cycle then [] else if (doneR C F R).cycle ≤ (doneR C F R).ahead then [asksR (doneR C F R)] else []
structure DMid (w wz : World) (N p : Nat) (C : RC) (R : RS) (F : FR) : Prop where
  old : Mod w wz (· = p)
  frm : FIs wz N 35 F
  rp : RpIs wz p C R
section
variable {w wz wx : World} {N p : Nat} {C : RC} {R R' : RS} {F : FR}
theorem DMid.below (h : DMid w wz N p C R F) (hB : Below wz.heap.size wz wx) : DMid w wx N p C R F := ⟨h.old.below hB, h.frm.below h.frm.lt hB, h.rp.below hB⟩
theorem DMid.mod (h : DMid w wz N p C R F) (hp : p < N) (hm : Mod wz wx (· = p)) (hr : RpIs wx p C R') : DMid w wx N p C R' F :=
  ⟨h.old.then hm (fun _ _ e => e), (hm.block _ h.frm.lt (by omega)).trans h.frm, hr⟩
theorem DMid.drew (h : DMid w wz N p C R F) : DMid w wz.drew N p C R F := h.below (Below.refl _ _).drew
theorem DMid.drewN (h : DMid w wz N p C R F) (n : Nat) : DMid w (wz.drewN n) N p C R F := h.below (below_drewN (Below.refl _ _) n)
theorem DMid.aheads (h : DMid w wz N p C R F) (hp : p < N) (c : Int) : DMid w (wz.setCell ⟨p, 7, none⟩ (.int .i64 c)) N p C { R with ahead := c } F :=
  h.mod hp ((Mod.refl wz (· = p)).set ⟨p, 7, none⟩ _ (fun _ => rfl)) (h.rp.aheads c)
end
set_option maxHeartbeats 4000000 in
set_option maxRecDepth 20000 in
theorem takeDone_any (p : Nat) (C : RC) (R : RS) (F : FR) (w : World) (h : RpIs w p C R) (hst : StOk R.st) (hcy : 0 ≤ R.cycle ∧ R.cycle < 1000000000) :
    Calls Tryz.prog 93 #[.pointer (some ⟨p, 0, none⟩), .agg (fCells F)] w fun e w' =>
      (∃ v, e = .returned v ∧ FRow w' 35 v (doneT C F R)) ∧ RpIs w' p C (doneR C F R) ∧ Mod w w' (· = p) := by
  have hpl := h.lt
  have hD0 : DMid w (w.alloc (.cells (fCells F) 35)) w.heap.size p C R F := by
    have hb : Below w.heap.size w (w.alloc (.cells (fCells F) 35)) := (Below.refl _ _).alloc (Nat.le_refl _) _
    exact ⟨Mod.ofBelow hb _, blk_new _ _, h.below hb⟩
  obtain ⟨W, hW⟩ : ∃ W, Hid (w.alloc (.cells (fCells F) 35) = W) := ⟨_, hide rfl⟩
  rw [hW.out] at hD0
  have HST := hide hst
  obtain ⟨hc1, hc2⟩ := hcy
  have n2 := hD0.frm.at (k := 2) (by omega)
  have k5 := hD0.rp.c5
  have k7 := hD0.rp.c7
  have f7 := hD0.rp.blk.free 7
  have HD0 := hide hD0
  clear h hD0 hst
  obtain ⟨bl, hbl⟩ : ∃ b, decide (F 2 < R.cycle) = b := ⟨_, rfl⟩
  cases bl
  · have hnl : ¬ F 2 < R.cycle := of_decide_eq_false hbl
    obtain ⟨m, hm⟩ : ∃ m, Hid ((if R.ahead < F 2 then F 2 else R.ahead) = m) := ⟨_, hide rfl⟩
    have HNL := hide hnl
    obtain ⟨RR, hRR⟩ : ∃ RR, Hid (doneR C F R = RR) := ⟨_, hide rfl⟩
    obtain ⟨TT, hTT⟩ : ∃ TT, Hid (doneT C F R = TT) := ⟨_, hide rfl⟩
    rw [hRR.out, hTT.out]
    obtain ⟨R1, hR1⟩ : ∃ R1, Hid ({ R with ahead := m } = R1) := ⟨_, hide rfl⟩
    have HA1 : Hid (aheadR (F 2) R = R1) := hide (by rw [← hR1.out, ← hm.out]; rfl)
    have HI1 : Hid (R1.cycle = R.cycle ∧ R1.ahead = m) := hide (by rw [← hR1.out]; exact ⟨rfl, rfl⟩)
    have HS1 : Hid (R1.st = R.st) := hide (by rw [← hR1.out])
    clear hnl
    go_enter Tryz.func93, Tryz.ntmps93
    go_wp2_with fail
    rw [show w.alloc (.cells (fCells F) 35) = W from hW.out]
    clear hW
    go_quiet (fail)
    go_wp2_with fail
    go_region
    rw [hm.out]
    have hD3 := (HD0.out.drewN (nq + 1)).aheads hpl m
    rw [hR1.out] at hD3
    have HD3 := hide hD3
    clear hD3 n2 k5 k7 f7 HD0
    generalize (W.drewN (nq + 1)).setCell ⟨p, 7, none⟩ (.int .i64 m) = w3 at HD3 ⊢
    have n2 := HD3.out.frm.at (k := 2) (by omega)
    have k5 : w3.cell? ⟨p, 5, none⟩ = some (.int .i64 R.cycle) := by rw [HD3.out.rp.c5, HI1.out.1]
    obtain ⟨be, hbe⟩ : ∃ b, (F 2 == R.cycle) = b := ⟨_, rfl⟩
    cases be
    · have HRR : Hid (RR = R1) := hide (by rw [← hRR.out]; unfold doneR; rw [if_neg (of_decide_eq_false hbl), if_neg (by simpa using hbe), HA1.out])
      go_wp2_with fail
      go_quiet (fail)
      have HD4 := hide (HD3.out.drewN nq)
      clear n2 k5 HD3
      generalize w3.drewN nq = w4 at HD4 ⊢
      have c5 : w4.cell? ⟨p, 5, none⟩ = some (.int .i64 (R.cycle)) := by rw [HD4.out.rp.c5, HI1.out.1]
      have c7 : w4.cell? ⟨p, 7, none⟩ = some (.int .i64 m) := by rw [HD4.out.rp.c7, HI1.out.2]
      have HTT : Hid (TT = if R.cycle ≤ m then [asksR R1] else []) := hide (by rw [← hTT.out]; unfold doneT; rw [if_neg (of_decide_eq_false hbl), hRR.out, HRR.out, HI1.out.1, HI1.out.2])
      obtain ⟨bq, hbq⟩ : ∃ b, decide (R.cycle ≤ m) = b := ⟨_, rfl⟩
      cases bq
      · have HT0 : Hid (TT = []) := hide (by rw [HTT.out, if_neg (of_decide_eq_false hbq)])
        clear HTT
        go_wp2_with fail
        go_quiet (fail)
        go_wp2
        go_ret
        exact ⟨⟨_, rfl, .inl ⟨HT0.out, rfl⟩⟩, by rw [HRR.out]; exact (HD4.out.drewN _).rp, (HD4.out.drewN _).old⟩
      · have HT0 : Hid (TT = [asksR R1]) := hide (by rw [HTT.out, if_pos (of_decide_eq_true hbq)])
        clear HTT
        go_wp2_with fail
        go_quiet (fail)
        go_wp2_with fail
        refine (asks_any p C R1 _ (HD4.out.drewN _).rp).mono ?_
        rintro e w9 ⟨rfl, hB9⟩
        have HD9 := hide ((HD4.out.drewN _).below hB9)
        clear hB9
        go_wp2_with (refine wpList_one_f rfl _ rfl (asksR R1) rfl w9.heap.size rfl ?_)
        intro w10 H10
        go_wp2
        go_ret
        exact ⟨⟨_, rfl, by rw [HT0.out]; exact FRow.one H10.out.1⟩, by rw [HRR.out]; exact (HD9.out.below H10.out.2.2).rp, (HD9.out.below H10.out.2.2).old⟩
    · obtain ⟨X, hX⟩ : ∃ X, Hid (nextR C R (F 3) (F 4) = X) := ⟨_, hide rfl⟩
      obtain ⟨R2, hR2⟩ : ∃ R2, Hid (goR (R.cycle + 1) X R1 = R2) := ⟨_, hide rfl⟩
      have HRR : Hid (RR = R2) := hide (by rw [← hRR.out]; unfold doneR; rw [if_neg (of_decide_eq_false hbl), if_pos (by simpa using hbe), HA1.out, hX.out, hR2.out])
      have HI2 : Hid (R2.cycle = R.cycle + 1 ∧ R2.ahead = m) := hide (by rw [← hR2.out]; exact ⟨rfl, HI1.out.2⟩)
      go_wp2_with fail
      go_quiet (fail)
      have HD4 := hide (HD3.out.drewN nq)
      clear n2 k5 HD3
      generalize w3.drewN nq = w4 at HD4 ⊢
      have hss : ∀ w', Below w4.heap.size w4 w' → w'.cell? ⟨p, 4, none⟩ = some (.pointer (some ⟨C.pc, 0, none⟩)) ∧ w'.rangeAt p 8 (stCells R.st).toList ∧ w'.cell? ⟨w.heap.size, 3, none⟩ = some (.int .i64 (F 3)) ∧ w'.cell? ⟨w.heap.size, 4, none⟩ = some (.int .i64 (F 4)) := by
        intro w' hx
        have hM := HD4.out.below hx
        exact ⟨hM.rp.c4, by rw [← HS1.out]; exact hM.rp.state, hM.frm.at (by omega), hM.frm.at (by omega)⟩
      have hstep : ∀ wx, Below w4.heap.size w4 wx → Calls Tryz.prog 14 #[.pointer (some ⟨C.pc, 0, none⟩), .agg (stCells R.st), .agg #[.int .i64 (F 3), .int .i64 (F 4)]] wx fun e w' =>
          ∃ o : Nat, e = .returned (.tuple #[.agg (stCells X), .int .i64 (o : Int)]) ∧ Hid (Below wx.heap.size wx w') := by
        intro wx hx
        refine (step_any C.pc C.s C.d C.n C.zs C.g C.cg C.M (F 3) (F 4) R.st wx (HD4.out.below hx).rp.core HST.out).mono ?_
        rintro e w' ⟨he, hB⟩
        exact ⟨_, by rw [he, ← hX.out]; rfl, hB⟩
      have HSS := hide hss
      have HSTEP := hide hstep
      clear hss hstep
      go_wp2_with fail
      go_cut [5, 6] from 31 to 44 (fun s5 s6 wc => ∃ b, s5 = .pointer (some ⟨b, 0, none⟩) ∧ StIs wc b X ∧ DMid w wc w.heap.size p C R1 F)
      case first =>
        refine wp_region_held_drew (S := fun w' => w'.cell? ⟨p, 4, none⟩ = some (.pointer (some ⟨C.pc, 0, none⟩)) ∧ w'.rangeAt p 8 (stCells R.st).toList ∧ w'.cell? ⟨w.heap.size, 3, none⟩ = some (.int .i64 (F 3)) ∧ w'.cell? ⟨w.heap.size, 4, none⟩ = some (.int .i64 (F 4))) (by kernel_rfl) (unhide HSS _ (Below.refl _ _).drew) (fun hHeld => ?_)
        refine wpAnyH_take (i := 0) (oi := _) (v := .pointer (some ⟨p, 0, none⟩)) rfl (by kernel_rfl) (by kernel_rfl) (by kernel_rfl) (fun _ _ _ h => h) (Or.inl ⟨by rfl, fun w _ => by go_simp⟩) hHeld ?_
        simp only [Act.put, List.getElem_toArray, List.getElem_cons_zero, List.setIfInBounds_toArray, List.set_cons_succ, List.set_cons_zero]
        refine wpAnyH_take (i := 1) (oi := _) (v := .pointer (some ⟨p, 0, none⟩)) rfl (by kernel_rfl) (by kernel_rfl) (by kernel_rfl) (fun _ _ _ h => h) (Or.inl ⟨by rfl, fun w _ => by go_simp⟩) hHeld ?_
        simp only [Act.put, List.getElem_toArray, List.getElem_cons_succ, List.getElem_cons_zero, List.setIfInBounds_toArray, List.set_cons_succ, List.set_cons_zero]
        refine wpAnyH_take (i := 2) (oi := _) (v := .pointer (some ⟨p, 4, none⟩)) rfl (by kernel_rfl) (by kernel_rfl) (by kernel_rfl) (fun _ _ _ h => h) (Or.inl ⟨by rfl, fun w _ => by go_simp⟩) hHeld ?_
        simp only [Act.put, List.getElem_toArray, List.getElem_cons_succ, List.getElem_cons_zero, List.setIfInBounds_toArray, List.set_cons_succ, List.set_cons_zero]
        refine wpAnyH_take (i := 3) (oi := _) (v := .pointer (some ⟨C.pc, 0, none⟩)) rfl (by kernel_rfl) (by kernel_rfl) (by kernel_rfl) (fun _ _ _ h => h) (Or.inl ⟨by rfl, fun w h => by obtain ⟨h1, h2, h3, h4⟩ := h; go_simp⟩) hHeld ?_
        simp only [Act.put, List.getElem_toArray, List.getElem_cons_succ, List.getElem_cons_zero, List.setIfInBounds_toArray, List.set_cons_succ, List.set_cons_zero]
        refine wpAnyH_take (i := 4) (oi := _) (v := .pointer (some ⟨p, 0, none⟩)) rfl (by kernel_rfl) (by kernel_rfl) (by kernel_rfl) (fun _ _ _ h => h) (Or.inl ⟨by rfl, fun w _ => by go_simp⟩) hHeld ?_
        simp only [Act.put, List.getElem_toArray, List.getElem_cons_succ, List.getElem_cons_zero, List.setIfInBounds_toArray, List.set_cons_succ, List.set_cons_zero]
        refine wpAnyH_take (i := 5) (oi := _) (v := .pointer (some ⟨p, 0, none⟩)) rfl (by kernel_rfl) (by kernel_rfl) (by kernel_rfl) (fun _ _ _ h => h) (Or.inl ⟨by rfl, fun w _ => by go_simp⟩) hHeld ?_
        simp only [Act.put, List.getElem_toArray, List.getElem_cons_succ, List.getElem_cons_zero, List.setIfInBounds_toArray, List.set_cons_succ, List.set_cons_zero]
        refine wpAnyH_take (i := 6) (oi := _) (v := .pointer (some ⟨p, 8, none⟩)) rfl (by kernel_rfl) (by kernel_rfl) (by kernel_rfl) (fun _ _ _ h => h) (Or.inl ⟨by rfl, fun w _ => by go_simp⟩) hHeld ?_
        simp only [Act.put, List.getElem_toArray, List.getElem_cons_succ, List.getElem_cons_zero, List.setIfInBounds_toArray, List.set_cons_succ, List.set_cons_zero]
        refine wpAnyH_take (i := 7) (oi := _) (v := _) rfl (by kernel_rfl) (by kernel_rfl) (by kernel_rfl) (fun _ _ _ h => h) (yieldsIf_load_mid (by rfl) 33 _ rfl p 8 rfl (stCells R.st).toList _ (fun w h => h.2.1) Tryz.underlying33 rfl (by rw [stateInfo]; rfl)) hHeld ?_
        simp only [Act.put, List.getElem_toArray, List.getElem_cons_succ, List.getElem_cons_zero, List.setIfInBounds_toArray, List.set_cons_succ, List.set_cons_zero]
        refine wpAnyH_take (i := 8) (oi := _) (v := .pointer (some ⟨w.heap.size, 3, none⟩)) rfl (by kernel_rfl) (by kernel_rfl) (by kernel_rfl) (fun _ _ _ h => h) (Or.inl ⟨by rfl, fun w _ => by go_simp⟩) hHeld ?_
        simp only [Act.put, List.getElem_toArray, List.getElem_cons_succ, List.getElem_cons_zero, List.setIfInBounds_toArray, List.set_cons_succ, List.set_cons_zero]
        refine wpAnyH_take (i := 9) (oi := _) (v := .agg #[.int .i64 (F 3), .int .i64 (F 4)]) rfl (by kernel_rfl) (by kernel_rfl) (by kernel_rfl) (fun _ _ _ h => h) (Or.inl ⟨by rfl, fun w h => by obtain ⟨h1, h2, h3, h4⟩ := h; go_simp⟩) hHeld ?_
        simp only [Act.put, List.getElem_toArray, List.getElem_cons_succ, List.getElem_cons_zero, List.setIfInBounds_toArray, List.set_cons_succ, List.set_cons_zero]
        refine wpAnyH_ready (rs := [10, 14]) (by kernel_rfl) (by simp) ?_
        refine AllReadyH.cons (o := _) rfl (fun K hK => ?_) (AllReadyH.cons (o := _) rfl (fun K hK => ?_) AllReadyH.nil)
        · rw [if_pos (by rfl)]
          go_simp
          go_at_call 14
          refine (unhide HSTEP _ (Below.refl _ _).drew).mono ?_
          rintro e w5 ⟨o, rfl, HB5⟩
          dsimp only
          have hB5 : Below w4.heap.size w4 w5 := (Below.refl w4.heap.size w4).drew.trans HB5.out
          have hB6 : Below w4.heap.size w4 (w5.alloc (.cells (stCells st0) 33)) := hB5.alloc hB5.size _
          have hb6 : StIs (w5.alloc (.cells (stCells st0) 33)) w5.heap.size st0 := blk_new _ _
          refine hK.out _ _ (unhide HSS _ hB5) (fun hHeld => ?_)
          clear hK K
          refine wpAnyH_take (i := 11) (oi := _) (v := .tuple #[.agg (stCells X), .int .i64 (o : Int)]) rfl (by kernel_rfl) (by kernel_rfl) (by kernel_rfl) (fun _ _ _ h => h) (Or.inl ⟨by rfl, fun w _ => by go_simp⟩) hHeld ?_
          simp only [Act.put, List.getElem_toArray, List.getElem_cons_succ, List.getElem_cons_zero, List.setIfInBounds_toArray, List.set_cons_succ, List.set_cons_zero]
          refine wpAnyH_take (i := 12) (oi := _) (v := .agg (stCells X)) rfl (by kernel_rfl) (by kernel_rfl) (by kernel_rfl) (fun _ _ _ h => h) (Or.inl ⟨by rfl, fun w _ => by go_simp⟩) hHeld ?_
          simp only [Act.put, List.getElem_toArray, List.getElem_cons_succ, List.getElem_cons_zero, List.setIfInBounds_toArray, List.set_cons_succ, List.set_cons_zero]
          refine wpAnyH_take (i := 13) (oi := _) (v := .int .i64 (o : Int)) rfl (by kernel_rfl) (by kernel_rfl) (by kernel_rfl) (fun _ _ _ h => h) (Or.inl ⟨by rfl, fun w _ => by go_simp⟩) hHeld ?_
          simp only [Act.put, List.getElem_toArray, List.getElem_cons_succ, List.getElem_cons_zero, List.setIfInBounds_toArray, List.set_cons_succ, List.set_cons_zero]
          refine wpAnyH_ready (rs := [14]) (by kernel_rfl) (by simp) ?_
          refine AllReadyH.cons (o := _) rfl (fun K hK => ?_) AllReadyH.nil
          rw [if_pos (by rfl)]
          go_simp
          refine hK.out _ _ (unhide HSS _ hB6) (fun hHeld => ?_)
          clear hK K
          refine wpAnyH_ready (rs := [15]) (by kernel_rfl) (by simp) ?_
          refine AllReadyH.cons (o := _) rfl (fun K hK => ?_) AllReadyH.nil
          rw [if_pos (by rfl)]
          refine wp_store_row _ _ _ rfl _ (stCells X) rfl rfl _ _ hb6 (by rw [stateInfo]; rfl) rfl (oneCells X) ?_
          have hB7 := below_row hB6 hB5.size (stCells X)
          have hx7 := row_same hb6 X
          refine hK.out _ _ (unhide HSS _ hB7) (fun hHeld => ?_)
          clear hK K
          refine wpAnyH_take (i := 16) (oi := _) (v := .int .i64 (o : Int)) rfl (by kernel_rfl) (by kernel_rfl) (by kernel_rfl) (fun _ _ _ h => h) (Or.inl ⟨by rfl, fun w _ => by go_simp⟩) hHeld ?_
          simp only [Act.put, List.getElem_toArray, List.getElem_cons_succ, List.getElem_cons_zero, List.setIfInBounds_toArray, List.set_cons_succ, List.set_cons_zero]
          refine wpAnyH_done (by kernel_rfl) ?_ _
          have HX7 := hide hx7
          have HD7 := hide (HD4.out.below hB7)
          clear hHeld hx7 hB7
          go_wp2_with fail
          go_meet
          exact ⟨_, rfl, HX7.out, HD7.out⟩
        · rw [if_pos (by rfl)]
          go_simp
          have hB5 : Below w4.heap.size w4 (w4.alloc (.cells (stCells st0) 33)).drew := ((Below.refl w4.heap.size w4).alloc (Nat.le_refl _) _).drew
          have hb5 : StIs (w4.alloc (.cells (stCells st0) 33)).drew w4.heap.size st0 := blk_new _ _
          refine hK.out _ _ (unhide HSS _ hB5) (fun hHeld => ?_)
          clear hK K
          refine wpAnyH_ready (rs := [10]) (by kernel_rfl) (by simp) ?_
          refine AllReadyH.cons (o := _) rfl (fun K hK => ?_) AllReadyH.nil
          rw [if_pos (by rfl)]
          go_simp
          go_at_call 14
          refine (unhide HSTEP _ hB5).mono ?_
          rintro e w6 ⟨o, rfl, HB6⟩
          dsimp only
          have hB6 : Below w4.heap.size w4 w6 := hB5.trans (HB6.out.mono hB5.size)
          have hb6 : StIs w6 w4.heap.size st0 := (HB6.out.block _ (blk_lt hb5)).trans hb5
          refine hK.out _ _ (unhide HSS _ hB6) (fun hHeld => ?_)
          clear hK K
          refine wpAnyH_take (i := 11) (oi := _) (v := .tuple #[.agg (stCells X), .int .i64 (o : Int)]) rfl (by kernel_rfl) (by kernel_rfl) (by kernel_rfl) (fun _ _ _ h => h) (Or.inl ⟨by rfl, fun w _ => by go_simp⟩) hHeld ?_
          simp only [Act.put, List.getElem_toArray, List.getElem_cons_succ, List.getElem_cons_zero, List.setIfInBounds_toArray, List.set_cons_succ, List.set_cons_zero]
          refine wpAnyH_take (i := 12) (oi := _) (v := .agg (stCells X)) rfl (by kernel_rfl) (by kernel_rfl) (by kernel_rfl) (fun _ _ _ h => h) (Or.inl ⟨by rfl, fun w _ => by go_simp⟩) hHeld ?_
          simp only [Act.put, List.getElem_toArray, List.getElem_cons_succ, List.getElem_cons_zero, List.setIfInBounds_toArray, List.set_cons_succ, List.set_cons_zero]
          refine wpAnyH_take (i := 13) (oi := _) (v := .int .i64 (o : Int)) rfl (by kernel_rfl) (by kernel_rfl) (by kernel_rfl) (fun _ _ _ h => h) (Or.inl ⟨by rfl, fun w _ => by go_simp⟩) hHeld ?_
          simp only [Act.put, List.getElem_toArray, List.getElem_cons_succ, List.getElem_cons_zero, List.setIfInBounds_toArray, List.set_cons_succ, List.set_cons_zero]
          refine wpAnyH_ready (rs := [15]) (by kernel_rfl) (by simp) ?_
          refine AllReadyH.cons (o := _) rfl (fun K hK => ?_) AllReadyH.nil
          rw [if_pos (by rfl)]
          refine wp_store_row _ _ _ rfl _ (stCells X) rfl rfl _ _ hb6 (by rw [stateInfo]; rfl) rfl (oneCells X) ?_
          have hB7 := below_row hB6 (Nat.le_refl _) (stCells X)
          have hx7 := row_same hb6 X
          refine hK.out _ _ (unhide HSS _ hB7) (fun hHeld => ?_)
          clear hK K
          refine wpAnyH_take (i := 16) (oi := _) (v := .int .i64 (o : Int)) rfl (by kernel_rfl) (by kernel_rfl) (by kernel_rfl) (fun _ _ _ h => h) (Or.inl ⟨by rfl, fun w _ => by go_simp⟩) hHeld ?_
          simp only [Act.put, List.getElem_toArray, List.getElem_cons_succ, List.getElem_cons_zero, List.setIfInBounds_toArray, List.set_cons_succ, List.set_cons_zero]
          refine wpAnyH_done (by kernel_rfl) ?_ _
          have HX7 := hide hx7
          have HD7 := hide (HD4.out.below hB7)
          clear hHeld hx7 hB7
          go_wp2_with fail
          go_meet
          exact ⟨_, rfl, HX7.out, HD7.out⟩
      case rest =>
        obtain ⟨b, rfl, hb, hD⟩ := hcut
        have HB := hide hb
        have HD := hide hD
        have hgo := goTo_any p C R1 (R.cycle + 1) X wc.drew hD.rp.drew
        rw [hR2.out] at hgo
        have HGO := hide hgo
        have c5 : wc.cell? ⟨p, 5, none⟩ = some (.int .i64 R.cycle) := by rw [hD.rp.c5, HI1.out.1]
        have hwr : IntKind.i64.wrap (R.cycle + 1) = R.cycle + 1 := IntWalk.i64_in _ (by omega)
        have RNG : Hid (wc.drew.rangeAt b 0 (stCells X).toList) := hide (fun j u hj => by rw [Nat.zero_add]; exact (blk_cell hb j).trans (by simpa using hj))
        clear hb hD hgo HSS HSTEP HD4
        go_wp2_with fail
        go_cut [] from 45 to 52 (fun wc => DMid w wc w.heap.size p C R2 F)
        case first =>
          refine wp_region_held_drew (S := fun _ => True) (by kernel_rfl) trivial (fun hHeld => ?_)
          refine wpAnyH_take (i := 0) (oi := _) (v := .pointer (some ⟨p, 0, none⟩)) rfl (by kernel_rfl) (by kernel_rfl) (by kernel_rfl) (fun _ _ _ h => h) (Or.inl ⟨by rfl, fun w _ => by go_simp⟩) hHeld ?_
          simp only [Act.put, List.getElem_toArray, List.getElem_cons_zero, List.setIfInBounds_toArray, List.set_cons_succ, List.set_cons_zero]
          refine wpAnyH_take (i := 1) (oi := _) (v := .pointer (some ⟨p, 0, none⟩)) rfl (by kernel_rfl) (by kernel_rfl) (by kernel_rfl) (fun _ _ _ h => h) (Or.inl ⟨by rfl, fun w _ => by go_simp⟩) hHeld ?_
          simp only [Act.put, List.getElem_toArray, List.getElem_cons_succ, List.getElem_cons_zero, List.setIfInBounds_toArray, List.set_cons_succ, List.set_cons_zero]
          refine wpAnyH_take (i := 2) (oi := _) (v := .pointer (some ⟨p, 0, none⟩)) rfl (by kernel_rfl) (by kernel_rfl) (by kernel_rfl) (fun _ _ _ h => h) (Or.inl ⟨by rfl, fun w _ => by go_simp⟩) hHeld ?_
          simp only [Act.put, List.getElem_toArray, List.getElem_cons_succ, List.getElem_cons_zero, List.setIfInBounds_toArray, List.set_cons_succ, List.set_cons_zero]
          refine wpAnyH_take (i := 3) (oi := _) (v := .pointer (some ⟨p, 5, none⟩)) rfl (by kernel_rfl) (by kernel_rfl) (by kernel_rfl) (fun _ _ _ h => h) (Or.inl ⟨by rfl, fun w _ => by go_simp⟩) hHeld ?_
          simp only [Act.put, List.getElem_toArray, List.getElem_cons_succ, List.getElem_cons_zero, List.setIfInBounds_toArray, List.set_cons_succ, List.set_cons_zero]
          refine wpAnyH_ready (rs := [4, 6]) (by kernel_rfl) (by simp) ?_
          refine AllReadyH.cons (o := _) rfl (fun K hK => ?_) (AllReadyH.cons (o := _) rfl (fun K hK => ?_) AllReadyH.nil)
          · rw [if_pos (by rfl)]
            go_simp
            refine hK.out _ _ trivial (fun hHeld => ?_)
            clear hK K
            refine wpAnyH_take (i := 5) (oi := _) (v := .int .i64 (R.cycle + 1)) rfl (by kernel_rfl) (by kernel_rfl) (by kernel_rfl) (fun _ _ _ h => h) (Or.inl ⟨by rfl, fun w _ => by go_simp⟩) hHeld ?_
            simp only [Act.put, List.getElem_toArray, List.getElem_cons_succ, List.getElem_cons_zero, List.setIfInBounds_toArray, List.set_cons_succ, List.set_cons_zero]
            refine wpAnyH_ready (rs := [6]) (by kernel_rfl) (by simp) ?_
            refine AllReadyH.cons (o := _) rfl (fun K hK => ?_) AllReadyH.nil
            rw [if_pos (by rfl)]
            refine wp_load_mid 33 _ rfl b 0 rfl (stCells X).toList _ RNG.out Tryz.underlying33 rfl (by rw [stateInfo]; rfl) ?_
            refine hK.out _ _ trivial (fun hHeld => ?_)
            clear hK K
            refine wpAnyH_ready (rs := [7]) (by kernel_rfl) (by simp) ?_
            refine AllReadyH.cons (o := _) rfl (fun K hK => ?_) AllReadyH.nil
            rw [if_pos (by rfl)]
            go_simp
            go_at_call 104
            refine HGO.out.mono ?_
            rintro e w6 ⟨rfl, hr6, hm6⟩
            dsimp only
            refine hK.out _ _ trivial (fun hHeld => ?_)
            clear hK K
            refine wpAnyH_done (by kernel_rfl) ?_ _
            have HD6 := hide (HD.out.drew.mod hpl hm6 hr6)
            clear hHeld
            go_wp2_with fail
            go_meet
            exact HD6.out
          · rw [if_pos (by rfl)]
            refine wp_load_mid 33 _ rfl b 0 rfl (stCells X).toList _ RNG.out Tryz.underlying33 rfl (by rw [stateInfo]; rfl) ?_
            refine hK.out _ _ trivial (fun hHeld => ?_)
            clear hK K
            refine wpAnyH_ready (rs := [4]) (by kernel_rfl) (by simp) ?_
            refine AllReadyH.cons (o := _) rfl (fun K hK => ?_) AllReadyH.nil
            rw [if_pos (by rfl)]
            go_simp
            refine hK.out _ _ trivial (fun hHeld => ?_)
            clear hK K
            refine wpAnyH_take (i := 5) (oi := _) (v := .int .i64 (R.cycle + 1)) rfl (by kernel_rfl) (by kernel_rfl) (by kernel_rfl) (fun _ _ _ h => h) (Or.inl ⟨by rfl, fun w _ => by go_simp⟩) hHeld ?_
            simp only [Act.put, List.getElem_toArray, List.getElem_cons_succ, List.getElem_cons_zero, List.setIfInBounds_toArray, List.set_cons_succ, List.set_cons_zero]
            refine wpAnyH_ready (rs := [7]) (by kernel_rfl) (by simp) ?_
            refine AllReadyH.cons (o := _) rfl (fun K hK => ?_) AllReadyH.nil
            rw [if_pos (by rfl)]
            go_simp
            go_at_call 104
            refine HGO.out.mono ?_
            rintro e w6 ⟨rfl, hr6, hm6⟩
            dsimp only
            refine hK.out _ _ trivial (fun hHeld => ?_)
            clear hK K
            refine wpAnyH_done (by kernel_rfl) ?_ _
            have HD6 := hide (HD.out.drew.mod hpl hm6 hr6)
            clear hHeld
            go_wp2_with fail
            go_meet
            exact HD6.out
        case rest =>
          have HD6 := hide hcut
          rename World => w6
          clear hcut HD HB HGO RNG c5 hwr
          have c5 : w6.cell? ⟨p, 5, none⟩ = some (.int .i64 (R.cycle + 1)) := by rw [HD6.out.rp.c5, HI2.out.1]
          have c7 : w6.cell? ⟨p, 7, none⟩ = some (.int .i64 m) := by rw [HD6.out.rp.c7, HI2.out.2]
          have HTT : Hid (TT = if R.cycle + 1 ≤ m then [asksR R2] else []) := hide (by rw [← hTT.out]; unfold doneT; rw [if_neg (of_decide_eq_false hbl), hRR.out, HRR.out, HI2.out.1, HI2.out.2])
          obtain ⟨bq, hbq⟩ : ∃ b, decide (R.cycle + 1 ≤ m) = b := ⟨_, rfl⟩
          cases bq
          · have HT0 : Hid (TT = []) := hide (by rw [HTT.out, if_neg (of_decide_eq_false hbq)])
            clear HTT
            go_wp2_with fail
            go_quiet (fail)
            go_wp2
            go_ret
            exact ⟨⟨_, rfl, .inl ⟨HT0.out, rfl⟩⟩, by rw [HRR.out]; exact (HD6.out.drewN _).rp, (HD6.out.drewN _).old⟩
          · have HT0 : Hid (TT = [asksR R2]) := hide (by rw [HTT.out, if_pos (of_decide_eq_true hbq)])
            clear HTT
            go_wp2_with fail
            go_quiet (fail)
            go_wp2_with fail
            refine (asks_any p C R2 _ (HD6.out.drewN _).rp).mono ?_
            rintro e w9 ⟨rfl, hB9⟩
            have HD9 := hide ((HD6.out.drewN _).below hB9)
            clear hB9
            go_wp2_with (refine wpList_one_f rfl _ rfl (asksR R2) rfl w9.heap.size rfl ?_)
            intro w10 H10
            go_wp2
            go_ret
            exact ⟨⟨_, rfl, by rw [HT0.out]; exact FRow.one H10.out.1⟩, by rw [HRR.out]; exact (HD9.out.below H10.out.2.2).rp, (HD9.out.below H10.out.2.2).old⟩
  · have hlt : F 2 < R.cycle := of_decide_eq_true hbl
    have e1 : doneR C F R = R := if_pos hlt
    have e2 : doneT C F R = [] := if_pos hlt
    rw [e1, e2]
    clear e1 e2 k7 f7
    go_enter Tryz.func93, Tryz.ntmps93
    go_wp2_with fail
    rw [show w.alloc (.cells (fCells F) 35) = W from hW.out]
    clear hW
    go_quiet (fail)
    go_wp2
    go_ret
    exact ⟨⟨_, rfl, .inl ⟨rfl, rfl⟩⟩, (HD0.out.drewN _).rp, (HD0.out.drewN _).old⟩
end Go.Proofs.YtaablbmgagiajaaGreatDoor
