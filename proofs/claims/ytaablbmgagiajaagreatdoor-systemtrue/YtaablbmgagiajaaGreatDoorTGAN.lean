import Derived.Deep.RegionWith
import Derived.Test.YtaablbmgagiajaaGreatDoorTGAM
import Derived.Deep.QuietTactic
import Derived.BigQuiet
namespace Go.Proofs.YtaablbmgagiajaaGreatDoor
open Go.RowKit Go.Deep
theorem infoSight : (Tryz.prog.info? 119).map (·.size) = some 4 := by kernel_rfl
theorem smpOne (x : Smp) : (smpC x).toArray.all (·.oneCell') = true := by simp [smpC, Value.oneCell']
def putR (k c v : Nat) (R : RS) : RS := { R with smp := upd R.smp k ⟨true, R.ticks, c, v⟩ }
structure PMid (w wz : World) (N p : Nat) (C : RC) (R : RS) (c v : Nat) : Prop where
  old : Below N w wz
  rp : RpIs wz p C R
  bx : wz.heap[N]? = some (.cells #[.int .i64 (c : Int), .int .i64 (v : Int)] 30 (0, 0))
set_option maxHeartbeats 2000000 in
set_option maxRecDepth 20000 in
theorem put_any (p : Nat) (C : RC) (R : RS) (k : Nat) (x0 x1 : Int) (w : World) (h : RpIs w p C R) (hk : k < 3) :
    Calls Tryz.prog 88 #[.pointer (some ⟨p, 0, none⟩), .int .i64 (k : Int), .agg #[.int .i64 x0, .int .i64 x1]] w fun e w' =>
      e = .returned (.tuple #[]) ∧ RpIs w' p C (putR k (fitN C.s x0) (fitN C.n x1) R) ∧ Mod w w' (· = p) := by
  obtain ⟨W, hW⟩ : ∃ W, Hid (w.alloc (.cells #[.int .i64 x0, .int .i64 x1] 30) = W) := ⟨_, hide rfl⟩
  have hB0 : Below w.heap.size w W := by rw [← hW.out]; exact (Below.refl _ _).alloc (Nat.le_refl _) _
  have hWs : W.heap.size = w.heap.size + 1 := by rw [← hW.out]; simp
  have b0 : W.heap[w.heap.size]? = some (.cells #[.int .i64 x0, .int .i64 x1] 30 (0, 0)) := by rw [← hW.out]; exact blk_new _ _
  have h0 := h.below hB0
  have hpl := h.lt
  obtain ⟨c, hc⟩ : ∃ c, Hid (fitN C.s x0 = c) := ⟨_, hide rfl⟩
  obtain ⟨v, hv⟩ : ∃ v, Hid (fitN C.n x1 = v) := ⟨_, hide rfl⟩
  rw [hc.out, hv.out]
  have hfit : ∀ wx, Below W.heap.size W wx → Calls Tryz.prog 42 #[.agg #[.int .i64 (C.s : Int), .slice (some ⟨C.g2, 0, none⟩) C.n C.c2, .int .i64 (C.d : Int)], .agg #[.int .i64 x0, .int .i64 x1]] wx fun e w' =>
      e = .returned (.tuple #[.agg #[.int .i64 (c : Int), .int .i64 (v : Int)], .nilIface]) ∧ (w'.cell? ⟨w.heap.size, 0, none⟩ = some (.int .i64 x0) ∧ w'.cell? ⟨w.heap.size, 1, none⟩ = some (.int .i64 x1) ∧ w'.frozen? ⟨w.heap.size, 0, none⟩ = false ∧ w'.frozen? ⟨w.heap.size, 1, none⟩ = false) ∧
        Hid (PMid w ((w'.setCell ⟨w.heap.size, 0, none⟩ (.int .i64 (c : Int))).setCell ⟨w.heap.size, 1, none⟩ (.int .i64 (v : Int))) w.heap.size p C R c v) := by
    intro wx hx
    refine (fit_core C.s C.d x0 x1 C.g2 C.n C.c2 C.zs wx h0.core.len h0.core.ok (Nat.lt_of_lt_of_le h0.lt2 hx.size) (h0.row.below h0.lt2 hx) h0.cap2).mono ?_
    rw [hc.out, hv.out]
    rintro e w' ⟨he, hB⟩
    have hB' := hx.trans (hB.mono hx.size)
    have hb1 : w'.heap[w.heap.size]? = some (.cells #[.int .i64 x0, .int .i64 x1] 30 (0, 0)) := (hB'.block _ (by omega)).trans b0
    have hBw : Below w.heap.size w ((w'.setCell ⟨w.heap.size, 0, none⟩ (.int .i64 (c : Int))).setCell ⟨w.heap.size, 1, none⟩ (.int .i64 (v : Int))) := ((hB0.trans (hB'.mono (by omega))).setCell (Nat.le_refl _) _).setCell (Nat.le_refl _) _
    exact ⟨he, ⟨by rw [blk_cell hb1]; rfl, by rw [blk_cell hb1]; rfl, blk_free hb1 0, blk_free hb1 1⟩, hBw, h.below hBw, (blk_set (blk_set hb1 _ _) _ _).trans rfl⟩
  have HFIT := hide hfit
  have k0 := h0.c1
  have k1 := h0.c2
  have k2 := h0.c3
  have y0 : W.cell? ⟨w.heap.size, 0, none⟩ = some (.int .i64 x0) := by rw [blk_cell b0]; rfl
  have y1 : W.cell? ⟨w.heap.size, 1, none⟩ = some (.int .i64 x1) := by rw [blk_cell b0]; rfl
  clear hfit h h0 hB0 b0 hc hv
  go_enter Tryz.func88, Tryz.ntmps88
  go_wp2_with fail
  rw [show w.alloc (.cells #[.int .i64 x0, .int .i64 x1] 30) = W from hW.out]
  clear hW
  go_region_with ((go_at_call 42; refine (unhide HFIT _ (by first | exact Below.refl _ _ | exact (Below.refl _ _).drew | exact below_drewN (Below.refl _ _) _)).mono ?_; rintro e w1 ⟨rfl, ⟨z0, z1, z2, z3⟩, HM⟩))
  all_goals
    clear k0 k1 k2 y0 y1 z0 z1 z2 z3 HFIT
    generalize ((w1.setCell ⟨w.heap.size, 0, none⟩ (.int .i64 (c : Int))).setCell ⟨w.heap.size, 1, none⟩ (.int .i64 (v : Int))) = w2 at HM ⊢
    have hN : p ≠ w.heap.size := by omega
    have hk3 : (k : Int) < 3 := by omega
    have hss : w2.cell? ⟨p, 6, none⟩ = some (.int .i64 R.ticks) ∧ w2.cell? ⟨w.heap.size, 0, none⟩ = some (.int .i64 (c : Int)) ∧ w2.cell? ⟨w.heap.size, 1, none⟩ = some (.int .i64 (v : Int)) := ⟨HM.out.rp.c6, (blk_cell HM.out.bx 0).trans rfl, (blk_cell HM.out.bx 1).trans rfl⟩
    have hth : w2.there p (27 + k * 4) 4 := HM.out.rp.blk.there (by omega)
    have hs2 : (w2.drew.setCells p (27 + k * 4) (smpC ⟨true, R.ticks, c, v⟩)).cell? ⟨p, 6, none⟩ = some (.int .i64 R.ticks) ∧ (w2.drew.setCells p (27 + k * 4) (smpC ⟨true, R.ticks, c, v⟩)).cell? ⟨w.heap.size, 0, none⟩ = some (.int .i64 (c : Int)) ∧ (w2.drew.setCells p (27 + k * 4) (smpC ⟨true, R.ticks, c, v⟩)).cell? ⟨w.heap.size, 1, none⟩ = some (.int .i64 (v : Int)) :=
      ⟨(HM.out.rp.drew.putS hk ⟨true, R.ticks, c, v⟩).c6, (World.cell?_setCells_out p _ _ _ _ (fun e => absurd e.symm hN)).trans hss.2.1, (World.cell?_setCells_out p _ _ _ _ (fun e => absurd e.symm hN)).trans hss.2.2⟩
    have HSS := hide hss
    have HTH := hide hth
    have HS2 := hide hs2
    clear hss hth hs2
    go_wp2_with fail
    refine wp_region_held_drew (S := fun w' => w'.cell? ⟨p, 6, none⟩ = some (.int .i64 R.ticks) ∧ w'.cell? ⟨w.heap.size, 0, none⟩ = some (.int .i64 (c : Int)) ∧ w'.cell? ⟨w.heap.size, 1, none⟩ = some (.int .i64 (v : Int))) (by kernel_rfl) HSS.out (fun hHeld => ?_)
    refine wpAnyH_take (i := 0) (oi := _) (v := .pointer (some ⟨p, 0, none⟩)) rfl (by kernel_rfl) (by kernel_rfl) (by kernel_rfl) (fun _ _ _ h => h) (Or.inl ⟨by rfl, fun w _ => by go_simp⟩) hHeld ?_
    simp only [Act.put, List.getElem_toArray, List.getElem_cons_zero, List.setIfInBounds_toArray, List.set_cons_succ, List.set_cons_zero]
    refine wpAnyH_take (i := 1) (oi := _) (v := .int .i64 (k : Int)) rfl (by kernel_rfl) (by kernel_rfl) (by kernel_rfl) (fun _ _ _ h => h) (Or.inl ⟨by rfl, fun w _ => by go_simp⟩) hHeld ?_
    simp only [Act.put, List.getElem_toArray, List.getElem_cons_succ, List.getElem_cons_zero, List.setIfInBounds_toArray, List.set_cons_succ, List.set_cons_zero]
    refine wpAnyH_take (i := 2) (oi := _) (v := .pointer (some ⟨p, 0, none⟩)) rfl (by kernel_rfl) (by kernel_rfl) (by kernel_rfl) (fun _ _ _ h => h) (Or.inl ⟨by rfl, fun w _ => by go_simp⟩) hHeld ?_
    simp only [Act.put, List.getElem_toArray, List.getElem_cons_succ, List.getElem_cons_zero, List.setIfInBounds_toArray, List.set_cons_succ, List.set_cons_zero]
    refine wpAnyH_take (i := 3) (oi := _) (v := .pointer (some ⟨p, 0, none⟩)) rfl (by kernel_rfl) (by kernel_rfl) (by kernel_rfl) (fun _ _ _ h => h) (Or.inl ⟨by rfl, fun w _ => by go_simp⟩) hHeld ?_
    simp only [Act.put, List.getElem_toArray, List.getElem_cons_succ, List.getElem_cons_zero, List.setIfInBounds_toArray, List.set_cons_succ, List.set_cons_zero]
    refine wpAnyH_take (i := 4) (oi := _) (v := .pointer (some ⟨p, 6, none⟩)) rfl (by kernel_rfl) (by kernel_rfl) (by kernel_rfl) (fun _ _ _ h => h) (Or.inl ⟨by rfl, fun w _ => by go_simp⟩) hHeld ?_
    simp only [Act.put, List.getElem_toArray, List.getElem_cons_succ, List.getElem_cons_zero, List.setIfInBounds_toArray, List.set_cons_succ, List.set_cons_zero]
    refine wpAnyH_take (i := 5) (oi := _) (v := .int .i64 R.ticks) rfl (by kernel_rfl) (by kernel_rfl) (by kernel_rfl) (fun _ _ _ h => h) (Or.inl ⟨by rfl, fun w h => by obtain ⟨h1, h2, h3⟩ := h; go_simp⟩) hHeld ?_
    simp only [Act.put, List.getElem_toArray, List.getElem_cons_succ, List.getElem_cons_zero, List.setIfInBounds_toArray, List.set_cons_succ, List.set_cons_zero]
    refine wpAnyH_take (i := 6) (oi := _) (v := .agg #[.int .i64 (c : Int), .int .i64 (v : Int)]) rfl (by kernel_rfl) (by kernel_rfl) (by kernel_rfl) (fun _ _ _ h => h) (Or.inl ⟨by rfl, fun w h => by obtain ⟨h1, h2, h3⟩ := h; go_simp⟩) hHeld ?_
    simp only [Act.put, List.getElem_toArray, List.getElem_cons_succ, List.getElem_cons_zero, List.setIfInBounds_toArray, List.set_cons_succ, List.set_cons_zero]
    refine wpAnyH_take (i := 7) (oi := _) (v := .agg #[.bool true, .int .i64 R.ticks, .int .i64 (c : Int), .int .i64 (v : Int)]) rfl (by kernel_rfl) (by kernel_rfl) (by kernel_rfl) (fun _ _ _ h => h) (Or.inl ⟨by rfl, fun w _ => by go_simp⟩) hHeld ?_
    simp only [Act.put, List.getElem_toArray, List.getElem_cons_succ, List.getElem_cons_zero, List.setIfInBounds_toArray, List.set_cons_succ, List.set_cons_zero]
    refine wpAnyH_take (i := 8) (oi := _) (v := .pointer (some ⟨p, 0, none⟩)) rfl (by kernel_rfl) (by kernel_rfl) (by kernel_rfl) (fun _ _ _ h => h) (Or.inl ⟨by rfl, fun w _ => by go_simp⟩) hHeld ?_
    simp only [Act.put, List.getElem_toArray, List.getElem_cons_succ, List.getElem_cons_zero, List.setIfInBounds_toArray, List.set_cons_succ, List.set_cons_zero]
    refine wpAnyH_take (i := 9) (oi := _) (v := .pointer (some ⟨p, 27, none⟩)) rfl (by kernel_rfl) (by kernel_rfl) (by kernel_rfl) (fun _ _ _ h => h) (Or.inl ⟨by rfl, fun w _ => by go_simp⟩) hHeld ?_
    simp only [Act.put, List.getElem_toArray, List.getElem_cons_succ, List.getElem_cons_zero, List.setIfInBounds_toArray, List.set_cons_succ, List.set_cons_zero]
    refine wpAnyH_take (i := 10) (oi := _) (v := .pointer (some ⟨p, 27 + k * 4, none⟩)) rfl (by kernel_rfl) (by kernel_rfl) (by kernel_rfl) (fun _ _ _ h => h) (Or.inl ⟨by rfl, fun w _ => by go_simp⟩) hHeld ?_
    simp only [Act.put, List.getElem_toArray, List.getElem_cons_succ, List.getElem_cons_zero, List.setIfInBounds_toArray, List.set_cons_succ, List.set_cons_zero]
    refine wpAnyH_ready (rs := [11]) (by kernel_rfl) (by simp) ?_
    refine AllReadyH.cons (o := _) rfl (fun K hK => ?_) AllReadyH.nil
    rw [if_pos (by rfl)]
    refine wp_store_mid _ _ _ rfl p (27 + k * 4) (smpC ⟨true, R.ticks, c, v⟩).toArray rfl rfl HTH.out (by rw [infoSight]; rfl) (smpOne _) ?_
    refine hK.out _ _ HS2.out (fun hHeld => ?_)
    clear hK K
    refine wpAnyH_done (by kernel_rfl) ?_ _
    simp only [Act.put, List.getElem_toArray, List.getElem_cons_succ, List.getElem_cons_zero]
    clear hHeld
    go_wp2
    go_end0
    exact ⟨rfl, HM.out.rp.drew.putS hk ⟨true, R.ticks, c, v⟩, ((Mod.ofBelow HM.out.old _).drewN 1).sets p _ _ rfl⟩
theorem infoSights : (Tryz.prog.info? 120).map (·.size) = some 12 := by kernel_rfl
theorem index_smp (w : World) (f : Nat → Smp) (k : Nat) (hk : k < 3) :
    (Instr.index 120 (.agg (smpL f).toArray) (.int .i64 (k : Int))).run Tryz.prog w = .ok (.agg #[.bool (f k).there, .int .i64 (f k).came, .int .i64 ((f k).c : Int), .int .i64 ((f k).v : Int)]) w := by
  rcases (by omega : k = 0 ∨ k = 1 ∨ k = 2) with rfl | rfl | rfl <;>
    simp [Instr.index, run_underlying Tryz.underlying120, run_underlying Tryz.underlying119, asIntOf, part, isAgg, smpL, smpC]
def haveTo (f : Nat → Smp) : Nat → Nat
  | 0 => 0
  | k + 1 => if (f k).there then haveTo f k + 1 else haveTo f k
theorem haveTo_le (f : Nat → Smp) (k : Nat) : haveTo f k ≤ k := by
  induction k with
  | zero => exact Nat.le_refl _
  | succ k ih => unfold haveTo; split <;> omega
set_option maxHeartbeats 1000000 in
set_option maxRecDepth 20000 in
theorem have_any (p : Nat) (C : RC) (R : RS) (w : World) (h : RpIs w p C R) :
    Calls Tryz.prog 89 #[.pointer (some ⟨p, 0, none⟩)] w fun e w' => e = .returned (.int .i64 ((haveTo R.smp 3 : Nat) : Int)) ∧ Below w.heap.size w w' := by
  have hsm := h.samples
  have HSM := hide hsm
  have hpl := h.lt
  clear h hsm
  go_enter Tryz.func89, Tryz.ntmps89
  go_wp2_with (refine wpList_load_mid rfl 120 _ rfl p 27 rfl (smpL R.smp) _ HSM.out Tryz.underlying120 rfl (by rw [infoSights]; rfl) ?_)
  go_loopw [3, 10] (fun l j wr => Below w.heap.size w wr ∧ ∃ k : Nat, k ≤ 3 ∧ j = .int .i64 k ∧ ∃ a : Nat, a ≤ 3 ∧ l = .int .i64 a ∧ Hid (haveTo R.smp k = a)) (fun _ j _ => 3 - (intOf j).toNat)
  case atStart => exact ⟨Below.refl _ _, 0, by omega, rfl, 0, by omega, rfl, rfl⟩
  case round =>
    obtain ⟨hB, k, hk, rfl, a, ha, rfl, HS⟩ := hrel
    have HB := hide hB
    clear hB
    by_cases hk3 : k < 3
    · have hk' : (k : Int) < 3 := by omega
      have hix := fun wx => index_smp wx R.smp k hk3
      cases hb : (R.smp k).there
      · have HN : Hid (haveTo R.smp (k + 1) = a) := hide (by show (if (R.smp k).there then _ else _) = _; rw [hb]; exact HS.out)
        rw [hb] at hix
        go_wp2
        go_roundw
        case rel => exact ⟨HB.out.alloc (HB.out.size) _, k + 1, by omega, by go_num, a, ha, rfl, HN⟩
        case measure => simp [intOf]; omega
      · have HN : Hid (haveTo R.smp (k + 1) = a + 1) := hide (by show (if (R.smp k).there then _ else _) = _; rw [hb]; show haveTo R.smp k + 1 = a + 1; rw [HS.out])
        have ha1 : a + 1 ≤ 3 := by have := haveTo_le R.smp (k + 1); rw [HN.out] at this; omega
        rw [hb] at hix
        go_wp2
        go_roundw
        case rel => exact ⟨HB.out.alloc (HB.out.size) _, k + 1, by omega, by go_num, a + 1, ha1, by go_num, HN⟩
        case measure => simp [intOf]; omega
    · have e3 : k = 3 := by omega
      subst e3
      go_wp2
      go_ret
      exact ⟨by rw [HS.out]; rfl, HB.out⟩
theorem RpIs.drewN {w : World} {p : Nat} {C : RC} {R : RS} (h : RpIs w p C R) (n : Nat) : RpIs (w.drewN n) p C R := h.below (below_drewN (Below.refl _ _) n)
def fgone (t : Int) (x : Smp) : Smp := if 3 ≤ t - x.came then smp0 else x
def fgTo (t : Int) (f : Nat → Smp) : Nat → Nat → Smp
  | 0 => f
  | k + 1 => upd (fgTo t f k) k (fgone t (f k))
theorem fgTo_at (t : Int) (f : Nat → Smp) (k j : Nat) : fgTo t f k j = if j < k then fgone t (f j) else f j := by
  induction k with
  | zero => rfl
  | succ k ih =>
    unfold fgTo
    by_cases e : j = k
    · subst e; rw [upd_same, if_pos (by omega)]
    · rw [upd_other _ _ e, ih]
      by_cases h : j < k
      · rw [if_pos h, if_pos (by omega)]
      · rw [if_neg h, if_neg (by omega)]
def forgetR (R : RS) : RS := { R with smp := fgTo R.ticks R.smp 3 }
theorem upd_self {α : Type} (f : Nat → α) (k : Nat) (v : α) (h : f k = v) : upd f k v = f := by
  funext j
  unfold upd
  split
  · rename_i e; rw [e, h]
  · rfl
theorem wpList_wipeS {ops : Array Oper} {rest : List Oper} {op : Oper} {a : Act} {w : World} {Q : Exit → Act → World → Prop} (hgd : op.guard = none) (x y : Operand) (ho : op.op = .store 119 x y) (p k : Nat) (hx : a.eval x = .pointer (some ⟨p, 27 + k * 4, none⟩)) (hy : a.eval y = .agg (smpC smp0).toArray) (ht : w.there p (27 + k * 4) 4)
    (h : ∀ w', Hid (w' = w.setCells p (27 + k * 4) (smpC smp0)) → wpList Tryz.prog ops Q rest (a.put op.dst undef) w') : wpList Tryz.prog ops Q (op :: rest) a w :=
  wpList_store_mid hgd 119 x y ho p (27 + k * 4) (smpC smp0).toArray hx hy ht (by rw [infoSight]; rfl) (smpOne _) (h _ rfl)
set_option maxHeartbeats 1000000 in
set_option maxRecDepth 20000 in
theorem forget_any (p : Nat) (C : RC) (R : RS) (w : World) (h : RpIs w p C R) (ht : 0 ≤ R.ticks ∧ R.ticks < 10000000) (hc : ∀ k, k < 3 → 0 ≤ (R.smp k).came ∧ (R.smp k).came < 10000000) :
    Calls Tryz.prog 87 #[.pointer (some ⟨p, 0, none⟩)] w fun e w' => e = .returned (.tuple #[]) ∧ RpIs w' p C (forgetR R) ∧ Mod w w' (· = p) := by
  have hsm := h.samples
  have HSM := hide hsm
  have H0 := hide h
  have hpl := h.lt
  clear h hsm
  go_enter Tryz.func87, Tryz.ntmps87
  go_wp2_with (refine wpList_load_mid rfl 120 _ rfl p 27 rfl (smpL R.smp) _ HSM.out Tryz.underlying120 rfl (by rw [infoSights]; rfl) ?_)
  go_loopw [8] (fun j wr => (RpIs wr p C { R with smp := fgTo R.ticks R.smp ((intOf j).toNat) } ∧ Mod w wr (· = p)) ∧ ∃ k : Nat, k ≤ 3 ∧ j = .int .i64 k) (fun j _ => 3 - (intOf j).toNat)
  case atStart => exact ⟨⟨H0.out, Mod.refl _ _⟩, 0, by omega, rfl⟩
  case round =>
    obtain ⟨⟨hR, hM⟩, k, hk, rfl⟩ := hrel
    have hR' : RpIs wr p C { R with smp := fgTo R.ticks R.smp k } := by simpa [intOf] using hR
    clear hR
    have HM := hide hM
    have HR := hide hR'
    have hpr := hR'.lt
    have c6 : wr.cell? ⟨p, 6, none⟩ = some (.int .i64 R.ticks) := hR'.c6
    clear hM hR'
    by_cases hk3 : k < 3
    · have hk' : (k : Int) < 3 := by omega
      have hix := fun wx => index_smp wx R.smp k hk3
      obtain ⟨c1, c2⟩ := hc k hk3
      have HFG : Hid (fgTo R.ticks R.smp (k + 1) = upd (fgTo R.ticks R.smp k) k (fgone R.ticks (R.smp k))) := hide rfl
      have HAT : Hid (fgTo R.ticks R.smp k k = R.smp k) := hide (by rw [fgTo_at, if_neg (by omega)])
      obtain ⟨⟨tb, tc, sc, sv⟩, hx⟩ : ∃ x, Hid (R.smp k = x) := ⟨_, hide rfl⟩
      rw [hx.out] at hix HFG HAT c1 c2
      dsimp only at hix c1 c2
      obtain ⟨tk, htk⟩ : ∃ t, Hid (R.ticks = t) := ⟨_, hide rfl⟩
      rw [htk.out] at c6 ht
      obtain ⟨m, hm⟩ : ∃ m, Hid (tk - tc = m) := ⟨_, hide rfl⟩
      have ew : IntKind.i64.wrap (tk - tc) = m := (IntWalk.i64_in _ (by omega)).trans hm.out
      have HBA := hide ((Below.refl wr.heap.size wr).alloc (Nat.le_refl _) (.cells #[.bool tb, .int .i64 tc, .int .i64 (sc : Int), .int .i64 (sv : Int)] 119))
      by_cases h3 : 3 ≤ m
      · have hfg : fgone R.ticks ⟨tb, tc, sc, sv⟩ = smp0 := by rw [htk.out]; exact if_pos (by show 3 ≤ tk - tc; rw [hm.out]; exact h3)
        rw [hfg] at HFG
        have HR1 : Hid (∀ n, RpIs ((wr.alloc (.cells #[.bool tb, .int .i64 tc, .int .i64 (sc : Int), .int .i64 (sv : Int)] 119)).drewN n) p C { R with smp := fgTo R.ticks R.smp k }) := hide fun n => (HR.out.below HBA.out).drewN n
        have HM1 : Hid (∀ n, Mod w ((wr.alloc (.cells #[.bool tb, .int .i64 tc, .int .i64 (sc : Int), .int .i64 (sv : Int)] 119)).drewN n) (· = p)) := hide fun n => (HM.out.below HBA.out).drewN n
        clear hfg
        go_wp2_with fail
        go_quiet (fail)
        go_wp2_with (refine wpList_wipeS rfl _ _ rfl p k rfl rfl ((HR1.out _).blk.there (by omega)) ?_)
        intro w3 HW3
        have HR3 : Hid (RpIs w3 p C { R with smp := fgTo R.ticks R.smp (k + 1) }) := hide (by rw [HW3.out, HFG.out]; exact (HR1.out _).putS hk3 smp0)
        have HM3 : Hid (Mod w w3 (· = p)) := hide (by rw [HW3.out]; exact (HM1.out _).sets p _ _ rfl)
        clear HW3 HR1 HM1 HFG HAT
        go_wp2
        go_roundw
        case rel =>
          have e : (intOf (Value.int .i64 ((k : Int) + 1))).toNat = k + 1 := by simp [intOf]
          refine ⟨⟨?_, HM3.out⟩, k + 1, by omega, by go_num⟩
          rw [e]
          exact HR3.out
        case measure => simp [intOf]; omega
      · have hfg : fgone R.ticks ⟨tb, tc, sc, sv⟩ = ⟨tb, tc, sc, sv⟩ := by rw [htk.out]; exact if_neg (by show ¬ 3 ≤ tk - tc; rw [hm.out]; exact h3)
        rw [hfg, upd_self _ _ _ HAT.out] at HFG
        have HR1 : Hid (∀ n, RpIs ((wr.alloc (.cells #[.bool tb, .int .i64 tc, .int .i64 (sc : Int), .int .i64 (sv : Int)] 119)).drewN n) p C { R with smp := fgTo R.ticks R.smp (k + 1) }) := hide fun n => by rw [HFG.out]; exact (HR.out.below HBA.out).drewN n
        have HM1 : Hid (∀ n, Mod w ((wr.alloc (.cells #[.bool tb, .int .i64 tc, .int .i64 (sc : Int), .int .i64 (sv : Int)] 119)).drewN n) (· = p)) := hide fun n => (HM.out.below HBA.out).drewN n
        clear hfg
        go_wp2_with fail
        go_quiet (fail)
        go_wp2
        go_roundw
        case rel =>
          have e : (intOf (Value.int .i64 ((k : Int) + 1))).toNat = k + 1 := by simp [intOf]
          refine ⟨⟨?_, HM1.out _⟩, k + 1, by omega, by go_num⟩
          rw [e]
          exact HR1.out _
        case measure => simp [intOf]; omega
    · have e3 : k = 3 := by omega
      subst e3
      go_wp2
      go_end0
      exact ⟨rfl, HR.out, HM.out⟩
end Go.Proofs.YtaablbmgagiajaaGreatDoor
