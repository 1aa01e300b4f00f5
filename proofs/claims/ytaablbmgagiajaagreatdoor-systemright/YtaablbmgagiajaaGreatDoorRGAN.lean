import Derived.Deep.QuietTactic
import Derived.BigQuiet
import Derived.Test.YtaablbmgagiajaaGreatDoorRGAM
namespace Go.Proofs.YtaablbmgagiajaaGreatDoor
open Go.RowKit Go.Deep
theorem infoSights : (Tryz.prog.info? 120).map (·.size) = some 12 := by kernel_rfl
theorem index_smp (w : World) (f : Nat → Smp) (k : Nat) (hk : k < 3) :
    (Instr.index 120 (.agg (smpL f).toArray) (.int .i64 (k : Int))).run Tryz.prog w = .ok (.agg #[.bool (f k).there, .int .i64 (f k).came, .int .i64 ((f k).c : Int), .int .i64 ((f k).v : Int)]) w := by
  rcases (by omega : k = 0 ∨ k = 1 ∨ k = 2) with rfl | rfl | rfl <;>
    simp [Instr.index, run_underlying Tryz.underlying120, run_underlying Tryz.underlying119, asIntOf, part, isAgg, smpL, smpC]
def haveTo (f : Nat → Smp) : Nat → Nat
  | 0 => 0
  | k + 1 => if (f k).there then haveTo f k + 1 else haveTo f k
theorem haveTo_le (f : Nat → Smp) (k : Nat) : haveTo f k ≤ k := by
  induction k with
  | zero => exact Nat.le_refl _
  | succ k ih => unfold haveTo; split <;> omega
set_option maxHeartbeats 1000000 in
set_option maxRecDepth 20000 in
theorem have_any (p : Nat) (C : RC) (R : RS) (w : World) (h : RpIs w p C R) :
    Calls Tryz.prog 89 #[.pointer (some ⟨p, 0, none⟩)] w fun e w' => e = .returned (.int .i64 ((haveTo R.smp 3 : Nat) : Int)) ∧ Below w.heap.size w w' := by
  have hsm := h.samples
  have HSM := hide hsm
  have hpl := h.lt
  clear h hsm
  go_enter Tryz.func89, Tryz.ntmps89
  go_wp2_with (refine wpList_load_mid rfl 120 _ rfl p 27 rfl (smpL R.smp) _ HSM.out Tryz.underlying120 rfl (by rw [infoSights]; rfl) ?_)
  go_loopw [3, 10] (fun l j wr => Below w.heap.size w wr ∧ ∃ k : Nat, k ≤ 3 ∧ j = .int .i64 k ∧ ∃ a : Nat, a ≤ 3 ∧ l = .int .i64 a ∧ Hid (haveTo R.smp k = a)) (fun _ j _ => 3 - (intOf j).toNat)
  case atStart => exact ⟨Below.refl _ _, 0, by omega, rfl, 0, by omega, rfl, rfl⟩
  case round =>
    obtain ⟨hB, k, hk, rfl, a, ha, rfl, HS⟩ := hrel
    have HB := hide hB
    clear hB
    by_cases hk3 : k < 3
    · have hk' : (k : Int) < 3 := by omega
      have hix := fun wx => index_smp wx R.smp k hk3
      cases hb : (R.smp k).there
      · have HN : Hid (haveTo R.smp (k + 1) = a) := hide (by show (if (R.smp k).there then _ else _) = _; rw [hb]; exact HS.out)
        rw [hb] at hix
        go_wp2
        go_roundw
        case rel => exact ⟨HB.out.alloc (HB.out.size) _, k + 1, by omega, by go_num, a, ha, rfl, HN⟩
        case measure => simp [intOf]; omega
      · have HN : Hid (haveTo R.smp (k + 1) = a + 1) := hide (by show (if (R.smp k).there then _ else _) = _; rw [hb]; show haveTo R.smp k + 1 = a + 1; rw [HS.out])
        have ha1 : a + 1 ≤ 3 := by have := haveTo_le R.smp (k + 1); rw [HN.out] at this; omega
        rw [hb] at hix
        go_wp2
        go_roundw
        case rel => exact ⟨HB.out.alloc (HB.out.size) _, k + 1, by omega, by go_num, a + 1, ha1, by go_num, HN⟩
        case measure => simp [intOf]; omega
    · have e3 : k = 3 := by omega
      subst e3
      go_wp2
      go_ret
      exact ⟨by rw [HS.out]; rfl, HB.out⟩
theorem RpIs.drewN {w : World} {p : Nat} {C : RC} {R : RS} (h : RpIs w p C R) (n : Nat) : RpIs (w.drewN n) p C R := h.below (below_drewN (Below.refl _ _) n)
def fgone (t : Int) (x : Smp) : Smp := if 3 ≤ t - x.came then smp0 else x
def fgTo (t : Int) (f : Nat → Smp) : Nat → Nat → Smp
  | 0 => f
  | k + 1 => upd (fgTo t f k) k (fgone t (f k))
theorem fgTo_at (t : Int) (f : Nat → Smp) (k j : Nat) : fgTo t f k j = if j < k then fgone t (f j) else f j := by
  induction k with
  | zero => rfl
  | succ k ih =>
    unfold fgTo
    by_cases e : j = k
    · subst e; rw [upd_same, if_pos (by omega)]
    · rw [upd_other _ _ e, ih]
      by_cases h : j < k
      · rw [if_pos h, if_pos (by omega)]
      · rw [if_neg h, if_neg (by omega)]
def forgetR (R : RS) : RS := { R with smp := fgTo R.ticks R.smp 3 }
theorem upd_self {α : Type} (f : Nat → α) (k : Nat) (v : α) (h : f k = v) : upd f k v = f := by
  funext j
  unfold upd
  split
  · rename_i e; rw [e, h]
  · rfl
theorem wpList_wipeS {ops : Array Oper} {rest : List Oper} {op : Oper} {a : Act} {w : World} {Q : Exit → Act → World → Prop} (hgd : op.guard = none) (x y : Operand) (ho : op.op = .store 119 x y) (p k : Nat) (hx : a.eval x = .pointer (some ⟨p, 27 + k * 4, none⟩)) (hy : a.eval y = .agg (smpC smp0).toArray) (ht : w.there p (27 + k * 4) 4)
    (h : ∀ w', Hid (w' = w.setCells p (27 + k * 4) (smpC smp0)) → wpList Tryz.prog ops Q rest (a.put op.dst undef) w') : wpList Tryz.prog ops Q (op :: rest) a w :=
  wpList_store_mid hgd 119 x y ho p (27 + k * 4) (smpC smp0).toArray hx hy ht (by rw [infoSight]; rfl) (smpOne _) (h _ rfl)
set_option maxHeartbeats 1000000 in
set_option maxRecDepth 20000 in
theorem forget_any (p : Nat) (C : RC) (R : RS) (w : World) (h : RpIs w p C R) (ht : 0 ≤ R.ticks ∧ R.ticks < 10000000) (hc : ∀ k, k < 3 → 0 ≤ (R.smp k).came ∧ (R.smp k).came < 10000000) :
    Calls Tryz.prog 87 #[.pointer (some ⟨p, 0, none⟩)] w fun e w' => e = .returned (.tuple #[]) ∧ RpIs w' p C (forgetR R) ∧ Mod w w' (· = p) := by
  have hsm := h.samples
  have HSM := hide hsm
  have H0 := hide h
  have hpl := h.lt
  clear h hsm
  go_enter Tryz.func87, Tryz.ntmps87
  go_wp2_with (refine wpList_load_mid rfl 120 _ rfl p 27 rfl (smpL R.smp) _ HSM.out Tryz.underlying120 rfl (by rw [infoSights]; rfl) ?_)
  go_loopw [8] (fun j wr => (RpIs wr p C { R with smp := fgTo R.ticks R.smp ((intOf j).toNat) } ∧ Mod w wr (· = p)) ∧ ∃ k : Nat, k ≤ 3 ∧ j = .int .i64 k) (fun j _ => 3 - (intOf j).toNat)
  case atStart => exact ⟨⟨H0.out, Mod.refl _ _⟩, 0, by omega, rfl⟩
  case round =>
    obtain ⟨⟨hR, hM⟩, k, hk, rfl⟩ := hrel
    have hR' : RpIs wr p C { R with smp := fgTo R.ticks R.smp k } := by simpa [intOf] using hR
    clear hR
    have HM := hide hM
    have HR := hide hR'
    have hpr := hR'.lt
    have c6 : wr.cell? ⟨p, 6, none⟩ = some (.int .i64 R.ticks) := hR'.c6
    clear hM hR'
    by_cases hk3 : k < 3
    · have hk' : (k : Int) < 3 := by omega
      have hix := fun wx => index_smp wx R.smp k hk3
      obtain ⟨c1, c2⟩ := hc k hk3
      have HFG : Hid (fgTo R.ticks R.smp (k + 1) = upd (fgTo R.ticks R.smp k) k (fgone R.ticks (R.smp k))) := hide rfl
      have HAT : Hid (fgTo R.ticks R.smp k k = R.smp k) := hide (by rw [fgTo_at, if_neg (by omega)])
      obtain ⟨⟨tb, tc, sc, sv⟩, hx⟩ : ∃ x, Hid (R.smp k = x) := ⟨_, hide rfl⟩
      rw [hx.out] at hix HFG HAT c1 c2
      dsimp only at hix c1 c2
      obtain ⟨tk, htk⟩ : ∃ t, Hid (R.ticks = t) := ⟨_, hide rfl⟩
      rw [htk.out] at c6 ht
      obtain ⟨m, hm⟩ : ∃ m, Hid (tk - tc = m) := ⟨_, hide rfl⟩
      have ew : IntKind.i64.wrap (tk - tc) = m := (IntWalk.i64_in _ (by omega)).trans hm.out
      have HBA := hide ((Below.refl wr.heap.size wr).alloc (Nat.le_refl _) (.cells #[.bool tb, .int .i64 tc, .int .i64 (sc : Int), .int .i64 (sv : Int)] 119))
      by_cases h3 : 3 ≤ m
      · have hfg : fgone R.ticks ⟨tb, tc, sc, sv⟩ = smp0 := by rw [htk.out]; exact if_pos (by show 3 ≤ tk - tc; rw [hm.out]; exact h3)
        rw [hfg] at HFG
        have HR1 : Hid (∀ n, RpIs ((wr.alloc (.cells #[.bool tb, .int .i64 tc, .int .i64 (sc : Int), .int .i64 (sv : Int)] 119)).drewN n) p C { R with smp := fgTo R.ticks R.smp k }) := hide fun n => (HR.out.below HBA.out).drewN n
        have HM1 : Hid (∀ n, Mod w ((wr.alloc (.cells #[.bool tb, .int .i64 tc, .int .i64 (sc : Int), .int .i64 (sv : Int)] 119)).drewN n) (· = p)) := hide fun n => (HM.out.below HBA.out).drewN n
        clear hfg
        go_wp2_with fail
        go_quiet (fail)
        go_wp2_with (refine wpList_wipeS rfl _ _ rfl p k rfl rfl ((HR1.out _).blk.there (by omega)) ?_)
        intro w3 HW3
        have HR3 : Hid (RpIs w3 p C { R with smp := fgTo R.ticks R.smp (k + 1) }) := hide (by rw [HW3.out, HFG.out]; exact (HR1.out _).putS hk3 smp0)
        have HM3 : Hid (Mod w w3 (· = p)) := hide (by rw [HW3.out]; exact (HM1.out _).sets p _ _ rfl)
        clear HW3 HR1 HM1 HFG HAT
        go_wp2
        go_roundw
        case rel =>
          have e : (intOf (Value.int .i64 ((k : Int) + 1))).toNat = k + 1 := by simp [intOf]
          refine ⟨⟨?_, HM3.out⟩, k + 1, by omega, by go_num⟩
          rw [e]
          exact HR3.out
        case measure => simp [intOf]; omega
      · have hfg : fgone R.ticks ⟨tb, tc, sc, sv⟩ = ⟨tb, tc, sc, sv⟩ := by rw [htk.out]; exact if_neg (by show ¬ 3 ≤ tk - tc; rw [hm.out]; exact h3)
        rw [hfg, upd_self _ _ _ HAT.out] at HFG
        have HR1 : Hid (∀ n, RpIs ((wr.alloc (.cells #[.bool tb, .int .i64 tc, .int .i64 (sc : Int), .int .i64 (sv : Int)] 119)).drewN n) p C { R with smp := fgTo R.ticks R.smp (k + 1) }) := hide fun n => by rw [HFG.out]; exact (HR.out.below HBA.out).drewN n
        have HM1 : Hid (∀ n, Mod w ((wr.alloc (.cells #[.bool tb, .int .i64 tc, .int .i64 (sc : Int), .int .i64 (sv : Int)] 119)).drewN n) (· = p)) := hide fun n => (HM.out.below HBA.out).drewN n
        clear hfg
        go_wp2_with fail
        go_quiet (fail)
        go_wp2
        go_roundw
        case rel =>
          have e : (intOf (Value.int .i64 ((k : Int) + 1))).toNat = k + 1 := by simp [intOf]
          refine ⟨⟨?_, HM1.out _⟩, k + 1, by omega, by go_num⟩
          rw [e]
          exact HR1.out _
        case measure => simp [intOf]; omega
    · have e3 : k = 3 := by omega
      subst e3
      go_wp2
      go_end0
      exact ⟨rfl, HR.out, HM.out⟩
theorem infoKnowns : (Tryz.prog.info? 123).map (·.size) = some 54 := by kernel_rfl
theorem smpLOne (f : Nat → Smp) : (smpL f).toArray.all (·.oneCell') = true := by simp [smpL, smpC, Value.oneCell']
theorem tlLOne (f : Nat → Nat → Int) : (tlL f).toArray.all (·.oneCell') = true := by simp [tlL, tlC, Value.oneCell']
section
variable {ops : Array Oper} {rest : List Oper} {op : Oper} {a : Act} {w : World} {Q : Exit → Act → World → Prop}
theorem wpList_noSmps (hgd : op.guard = none) (x y : Operand) (ho : op.op = .store 120 x y) (p : Nat) (hx : a.eval x = .pointer (some ⟨p, 27, none⟩)) (hy : a.eval y = .agg (smpL fun _ => smp0).toArray) (ht : w.there p 27 12)
    (h : ∀ w', Hid (w' = w.setCells p 27 (smpL fun _ => smp0)) → wpList Tryz.prog ops Q rest (a.put op.dst undef) w') : wpList Tryz.prog ops Q (op :: rest) a w :=
  wpList_store_mid hgd 120 x y ho p 27 (smpL fun _ => smp0).toArray hx hy ht (by rw [infoSights]; rfl) (smpLOne _) (h _ rfl)
theorem wpList_noTold (hgd : op.guard = none) (x y : Operand) (ho : op.op = .store 123 x y) (p : Nat) (hx : a.eval x = .pointer (some ⟨p, 39, none⟩)) (hy : a.eval y = .agg (tlL fun _ _ => 0).toArray) (ht : w.there p 39 54)
    (h : ∀ w', Hid (w' = w.setCells p 39 (tlL fun _ _ => 0)) → wpList Tryz.prog ops Q rest (a.put op.dst undef) w') : wpList Tryz.prog ops Q (op :: rest) a w :=
  wpList_store_mid hgd 123 x y ho p 39 (tlL fun _ _ => 0).toArray hx hy ht (by rw [infoKnowns]; rfl) (tlLOne _) (h _ rfl)
end
def goR (c : Int) (X : St) (R : RS) : RS := { R with cycle := c, st := X, ticks := 0, smp := fun _ => smp0, told := fun _ _ => 0 }
set_option maxHeartbeats 1000000 in
set_option maxRecDepth 20000 in
theorem goTo_any (p : Nat) (C : RC) (R : RS) (c : Int) (X : St) (w : World) (h : RpIs w p C R) :
    Calls Tryz.prog 104 #[.pointer (some ⟨p, 0, none⟩), .int .i64 c, .agg (stCells X)] w fun e w' => e = .returned (.tuple #[]) ∧ RpIs w' p C (goR c X R) ∧ Mod w w' (· = p) := by
  obtain ⟨W, hW⟩ : ∃ W, Hid (w.alloc (.cells (stCells X) 33) = W) := ⟨_, hide rfl⟩
  have hB0 : Below w.heap.size w W := by rw [← hW.out]; exact (Below.refl _ _).alloc (Nat.le_refl _) _
  have b0 : StIs W w.heap.size X := by rw [← hW.out]; exact blk_new _ _
  have hpl := h.lt
  have hN : p ≠ w.heap.size := by omega
  have h0 := h.below hB0
  have h1 := (h0.cyc c).drew
  have h2 := h1.putSt X
  have h3 := h2.tick 0
  have hm1 : Mod w (W.setCell ⟨p, 5, none⟩ (.int .i64 c)).drew (· = p) := ((Mod.ofBelow hB0 (· = p)).set ⟨p, 5, none⟩ (.int .i64 c) (fun _ => rfl)).drewN 1
  have hm := (hm1.sets p 8 (stCells X).toList rfl).set ⟨p, 6, none⟩ (.int .i64 0) (fun _ => rfl)
  have s0 : W.drew.rangeAt w.heap.size 0 (stCells X).toList := fun j u hj => by rw [Nat.zero_add]; exact (blk_cell b0 j).trans (by simpa using hj)
  have s1 : (W.setCell ⟨p, 5, none⟩ (.int .i64 c)).drew.rangeAt w.heap.size 0 (stCells X).toList := fun j u hj => (World.cell?_of_block (w := W) (Below.heap_setCell _ _ _ _ (fun e => hN e.symm))).trans (s0 j u hj)
  have s2 := World.rangeAt_setCells_apart s1 p 8 (stCells X).toList (.inl (fun e => hN e.symm))
  have s3 : (((W.setCell ⟨p, 5, none⟩ (.int .i64 c)).drew.setCells p 8 (stCells X).toList).setCell ⟨p, 6, none⟩ (.int .i64 0)).rangeAt w.heap.size 0 (stCells X).toList := fun j u hj => (World.cell?_of_block (w := (W.setCell ⟨p, 5, none⟩ (.int .i64 c)).drew.setCells p 8 (stCells X).toList) (Below.heap_setCell _ _ _ _ (fun e => hN e.symm))).trans (s2 j u hj)
  have k5 : W.cell? ⟨p, 5, none⟩ = some (.int .i64 R.cycle) := h0.c5
  have f5 : W.frozen? ⟨p, 5, none⟩ = false := h0.blk.free 5
  have k6 := h2.c6
  have f6 := h2.blk.free 6
  have HTH := hide (h1.blk.there (o := 8) (m := 17) (by omega))
  have H3 := hide h3
  have HM := hide hm
  have S0 := hide s0
  have S1 := hide s1
  have S2 := hide s2
  have S3 := hide s3
  clear h h0 h1 h2 h3 hm hm1 s0 s1 s2 s3 hB0 b0
  go_enter Tryz.func104, Tryz.ntmps104
  go_wp2_with fail
  rw [show w.alloc (.cells (stCells X) 33) = W from hW.out]
  clear hW
  refine wp_region_held_drew (S := fun w' => w'.rangeAt w.heap.size 0 (stCells X).toList) (by kernel_rfl) S0.out (fun hHeld => ?_)
  refine wpAnyH_take (i := 0) (oi := _) (v := .pointer (some ⟨p, 0, none⟩)) rfl (by kernel_rfl) (by kernel_rfl) (by kernel_rfl) (fun _ _ _ h => h) (Or.inl ⟨by rfl, fun w _ => by go_simp⟩) hHeld ?_
  simp only [Act.put, List.getElem_toArray, List.getElem_cons_zero, List.setIfInBounds_toArray, List.set_cons_succ, List.set_cons_zero]
  refine wpAnyH_take (i := 1) (oi := _) (v := .pointer (some ⟨p, 0, none⟩)) rfl (by kernel_rfl) (by kernel_rfl) (by kernel_rfl) (fun _ _ _ h => h) (Or.inl ⟨by rfl, fun w _ => by go_simp⟩) hHeld ?_
  simp only [Act.put, List.getElem_toArray, List.getElem_cons_succ, List.getElem_cons_zero, List.setIfInBounds_toArray, List.set_cons_succ, List.set_cons_zero]
  refine wpAnyH_take (i := 2) (oi := _) (v := .pointer (some ⟨p, 0, none⟩)) rfl (by kernel_rfl) (by kernel_rfl) (by kernel_rfl) (fun _ _ _ h => h) (Or.inl ⟨by rfl, fun w _ => by go_simp⟩) hHeld ?_
  simp only [Act.put, List.getElem_toArray, List.getElem_cons_succ, List.getElem_cons_zero, List.setIfInBounds_toArray, List.set_cons_succ, List.set_cons_zero]
  refine wpAnyH_take (i := 3) (oi := _) (v := .int .i64 c) rfl (by kernel_rfl) (by kernel_rfl) (by kernel_rfl) (fun _ _ _ h => h) (Or.inl ⟨by rfl, fun w _ => by go_simp⟩) hHeld ?_
  simp only [Act.put, List.getElem_toArray, List.getElem_cons_succ, List.getElem_cons_zero, List.setIfInBounds_toArray, List.set_cons_succ, List.set_cons_zero]
  refine wpAnyH_take (i := 4) (oi := _) (v := _) rfl (by kernel_rfl) (by kernel_rfl) (by kernel_rfl) (fun _ _ _ h => h) (yieldsIf_load_mid (by rfl) 33 _ rfl w.heap.size 0 rfl (stCells X).toList _ (fun w h => h) Tryz.underlying33 rfl (by rw [stateInfo]; rfl)) hHeld ?_
  simp only [Act.put, List.getElem_toArray, List.getElem_cons_succ, List.getElem_cons_zero, List.setIfInBounds_toArray, List.set_cons_succ, List.set_cons_zero]
  refine wpAnyH_take (i := 5) (oi := _) (v := .pointer (some ⟨p, 0, none⟩)) rfl (by kernel_rfl) (by kernel_rfl) (by kernel_rfl) (fun _ _ _ h => h) (Or.inl ⟨by rfl, fun w _ => by go_simp⟩) hHeld ?_
  simp only [Act.put, List.getElem_toArray, List.getElem_cons_succ, List.getElem_cons_zero, List.setIfInBounds_toArray, List.set_cons_succ, List.set_cons_zero]
  refine wpAnyH_take (i := 6) (oi := _) (v := .pointer (some ⟨p, 5, none⟩)) rfl (by kernel_rfl) (by kernel_rfl) (by kernel_rfl) (fun _ _ _ h => h) (Or.inl ⟨by rfl, fun w _ => by go_simp⟩) hHeld ?_
  simp only [Act.put, List.getElem_toArray, List.getElem_cons_succ, List.getElem_cons_zero, List.setIfInBounds_toArray, List.set_cons_succ, List.set_cons_zero]
  refine wpAnyH_ready (rs := [7]) (by kernel_rfl) (by simp) ?_
  refine AllReadyH.cons (o := _) rfl (fun K hK => ?_) AllReadyH.nil
  rw [if_pos (by rfl)]
  go_simp
  refine hK.out _ _ S1.out (fun hHeld => ?_)
  clear hK K
  refine wpAnyH_take (i := 8) (oi := _) (v := .pointer (some ⟨p, 0, none⟩)) rfl (by kernel_rfl) (by kernel_rfl) (by kernel_rfl) (fun _ _ _ h => h) (Or.inl ⟨by rfl, fun w _ => by go_simp⟩) hHeld ?_
  simp only [Act.put, List.getElem_toArray, List.getElem_cons_succ, List.getElem_cons_zero, List.setIfInBounds_toArray, List.set_cons_succ, List.set_cons_zero]
  refine wpAnyH_take (i := 9) (oi := _) (v := .pointer (some ⟨p, 8, none⟩)) rfl (by kernel_rfl) (by kernel_rfl) (by kernel_rfl) (fun _ _ _ h => h) (Or.inl ⟨by rfl, fun w _ => by go_simp⟩) hHeld ?_
  simp only [Act.put, List.getElem_toArray, List.getElem_cons_succ, List.getElem_cons_zero, List.setIfInBounds_toArray, List.set_cons_succ, List.set_cons_zero]
  refine wpAnyH_ready (rs := [10]) (by kernel_rfl) (by simp) ?_
  refine AllReadyH.cons (o := _) rfl (fun K hK => ?_) AllReadyH.nil
  rw [if_pos (by rfl)]
  refine wp_store_mid _ _ _ rfl p 8 (stCells X) rfl rfl HTH.out (by rw [stateInfo]; rfl) (oneCells X) ?_
  refine hK.out _ _ S2.out (fun hHeld => ?_)
  clear hK K
  generalize (W.setCell ⟨p, 5, none⟩ (.int .i64 c)).drew.setCells p 8 (stCells X).toList = w2 at S2 k6 f6 S3 H3 HM hHeld ⊢
  refine wpAnyH_take (i := 11) (oi := _) (v := .pointer (some ⟨p, 0, none⟩)) rfl (by kernel_rfl) (by kernel_rfl) (by kernel_rfl) (fun _ _ _ h => h) (Or.inl ⟨by rfl, fun w _ => by go_simp⟩) hHeld ?_
  simp only [Act.put, List.getElem_toArray, List.getElem_cons_succ, List.getElem_cons_zero, List.setIfInBounds_toArray, List.set_cons_succ, List.set_cons_zero]
  refine wpAnyH_take (i := 12) (oi := _) (v := .pointer (some ⟨p, 6, none⟩)) rfl (by kernel_rfl) (by kernel_rfl) (by kernel_rfl) (fun _ _ _ h => h) (Or.inl ⟨by rfl, fun w _ => by go_simp⟩) hHeld ?_
  simp only [Act.put, List.getElem_toArray, List.getElem_cons_succ, List.getElem_cons_zero, List.setIfInBounds_toArray, List.set_cons_succ, List.set_cons_zero]
  refine wpAnyH_ready (rs := [13]) (by kernel_rfl) (by simp) ?_
  refine AllReadyH.cons (o := _) rfl (fun K hK => ?_) AllReadyH.nil
  rw [if_pos (by rfl)]
  go_simp
  refine hK.out _ _ S3.out (fun hHeld => ?_)
  clear hK K
  refine wpAnyH_done (by kernel_rfl) ?_ _
  clear hHeld k5 f5 k6 f6 S0 S1 S2 S3 HTH
  generalize w2.setCell ⟨p, 6, none⟩ (.int .i64 0) = w3 at H3 HM ⊢
  go_wp2_with (refine wpList_noSmps rfl _ _ rfl p rfl rfl (H3.out.blk.there (by omega)) ?_)
  intro w4 HW4
  have H4 : Hid (RpIs w4 p C { R with cycle := c, st := X, ticks := 0, smp := fun _ => smp0 }) := hide (by rw [HW4.out]; exact H3.out.wipeS)
  have HM4 : Hid (Mod w w4 (· = p)) := hide (by rw [HW4.out]; exact HM.out.sets p _ _ rfl)
  clear HW4 H3 HM
  go_wp2_with (refine wpList_noTold rfl _ _ rfl p rfl rfl (H4.out.blk.there (by omega)) ?_)
  intro w5 HW5
  have H5 : Hid (RpIs w5 p C (goR c X R)) := hide (by rw [HW5.out]; exact H4.out.wipeT)
  have HM5 : Hid (Mod w w5 (· = p)) := hide (by rw [HW5.out]; exact HM4.out.sets p _ _ rfl)
  clear HW5 H4 HM4
  go_wp2
  go_end0
  exact ⟨rfl, H5.out, HM5.out⟩
def KnIs (w : World) (b : Nat) (T : Nat → Int) : Prop := w.heap[b]? = some (.cells (tlC T) 122 (0, 0))
theorem tlC_size (T : Nat → Int) : (tlC T).size = 18 := rfl
theorem tlOne (T : Nat → Int) : (tlC T).all (·.oneCell') = true := by simp [tlC, Value.oneCell']
theorem infoKnown : (Tryz.prog.info? 122).map (·.size) = some 18 := by kernel_rfl
theorem KnIs.at {w : World} {b : Nat} {T : Nat → Int} (h : KnIs w b T) {k : Nat} (hk : k < 18) : w.cell? ⟨b, k, none⟩ = some (.int .i64 (T k)) := (blk_cell h k).trans (tlC_at T k hk)
theorem KnIs.lt {w : World} {b : Nat} {T : Nat → Int} (h : KnIs w b T) : b < w.heap.size := blk_lt h
theorem KnIs.range {w : World} {b : Nat} {T : Nat → Int} (h : KnIs w b T) : w.rangeAt b 0 (tlC T).toList := fun j u hj => by rw [Nat.zero_add]; exact (blk_cell h j).trans (by simpa using hj)
theorem KnIs.state {w : World} {b : Nat} {T : Nat → Int} {X : St} (h : KnIs w b T) (hX : ∀ j, j < 17 → (stCells X)[j]? = some (.int .i64 (T (1 + j)))) : w.rangeAt b 1 (stCells X).toList := fun j u hj => by
  have hj' : j < 17 := (List.getElem?_eq_some_iff.1 hj).1
  have := hX j hj'
  rw [h.at (by omega), ← this]
  simpa using hj
theorem KnIs.row {w : World} {b : Nat} {T : Nat → Int} (h : KnIs w b T) (U : Nat → Int) : KnIs (w.setRow b (tlC U)) b U := setRow_heap w b _ _ _ _ h
section
variable {ops : Array Oper} {rest : List Oper} {op : Oper} {a : Act} {w : World} {Q : Exit → Act → World → Prop}
theorem wpList_store_kl (hgd : op.guard = none) (x y : Operand) (ho : op.op = .store 122 x y) (b : Nat) (U : Nat → Int) (hx : a.eval x = .pointer (some ⟨b, 0, none⟩)) (hy : a.eval y = .agg (tlC U)) (T : Nat → Int) (hS : KnIs w b T)
    (h : ∀ w', Hid (KnIs w' b U ∧ (∀ k, k ≠ b → w'.heap[k]? = w.heap[k]?) ∧ (∀ B, B ≤ b → Below B w w')) → wpList Tryz.prog ops Q rest (a.put op.dst undef) w') : wpList Tryz.prog ops Q (op :: rest) a w :=
  wpList_plain hgd fun _ hK => wp_store_row _ x y ho b _ hx hy _ _ hS (by rw [infoKnown]; rfl) rfl (tlOne U) (hK _ _ (h _ ⟨hS.row U, fun _ hk => row_other _ _ _ _ hk, fun _ hB => below_row (Below.refl _ _) hB _⟩))
theorem wpList_loadKW (hw : Region.wanted op (yielded ops a.tmps) = true) (x : Operand) (ho : op.op = .load 122 x) (b : Nat) (hx : a.eval x = .pointer (some ⟨b, 0, none⟩)) (T : Nat → Int) (hS : KnIs w b T)
    (h : wpList Tryz.prog ops Q rest (a.put op.dst (.agg (tlC T))) w) : wpList Tryz.prog ops Q (op :: rest) a w := by
  unfold wpList
  rw [if_pos hw]
  exact .inl (wp_load_row _ x ho b hx _ _ _ _ hS Tryz.underlying122 rfl (by rw [infoKnown]; rfl) h)
end
def eqK (T U : Nat → Int) : Bool := T 0 == U 0 && (T 1 == U 1 && (((List.range 8).all fun i => T (1 + (1 + i)) == U (1 + (1 + i))) && ((List.range 8).all fun i => T (1 + (9 + i)) == U (1 + (9 + i)))))
theorem eqK_iff (T U : Nat → Int) : eqK T U = true ↔ ∀ k, k < 18 → T k = U k := by
  unfold eqK
  simp only [Bool.and_eq_true, beq_iff_eq, List.all_eq_true, List.mem_range]
  constructor
  · rintro ⟨h0, h1, h2, h3⟩ k hk
    rcases (by omega : k = 0 ∨ k = 1 ∨ (2 ≤ k ∧ k < 10) ∨ 10 ≤ k) with rfl | rfl | h | h
    · exact h0
    · exact h1
    · have := h2 (k - 2) (by omega)
      rwa [show 1 + (1 + (k - 2)) = k by omega] at this
    · have := h3 (k - 10) (by omega)
      rwa [show 1 + (9 + (k - 10)) = k by omega] at this
  · intro h
    exact ⟨h 0 (by omega), h 1 (by omega), fun i hi => h _ (by omega), fun i hi => h _ (by omega)⟩
theorem fieldsK : (Tryz.prog.fieldsOf 122).toList.map (fun f => (f.type, f.offset, f.name != "_")) = [(3, 0, true), (33, 1, true)] := by kernel_rfl
theorem eqFieldsK (w : World) (d : Nat) (T U : Nat → Int) (fs : List Field) (hf : fs.map (fun f => (f.type, f.offset, f.name != "_")) = [(3, 0, true), (33, 1, true)]) :
    (Op.eqFields (d + 1 + 1 + 1) (tlC T) (tlC U) fs).run Tryz.prog w = .ok (eqK T U) w := by
  obtain ⟨f0, f1, rfl⟩ : ∃ a b, fs = [a, b] := two (by simpa using congrArg List.length hf)
  simp only [List.map_cons, List.map_nil, List.cons.injEq, Prod.mk.injEq, and_true] at hf
  obtain ⟨⟨a1, a2, a3⟩, g1, g2, g3⟩ := hf
  have n0 : f0.name ≠ "_" := by simpa using a3
  have n1 : f1.name ≠ "_" := by simpa using g3
  have q5 := eqState w d ((tlC T).extract 1 (1 + 17)) ((tlC U).extract 1 (1 + 17)) (fun i => T (1 + i)) (fun i => U (1 + i)) (by rw [Array.size_extract, tlC_size]; decide) (by rw [Array.size_extract, tlC_size]; decide) (fun i hi =>
    ⟨extract_at _ _ _ _ _ (by rw [tlC_size]; omega) hi (tlC_at T _ (by omega)), extract_at _ _ _ _ _ (by rw [tlC_size]; omega) hi (tlC_at U _ (by omega))⟩)
  unfold eqK
  refine eqF_cons w _ _ _ f0 _ n0 (v := .int .i64 (T 0)) (u := .int .i64 (U 0)) (by rw [a1, a2]; exact partInt w _ 0 _ (tlC_at T 0 (by omega))) (by rw [a1, a2]; exact partInt w _ 0 _ (tlC_at U 0 (by omega))) (by rw [a1]; exact eqInt w _ _ _) ?_
  have := eqF_cons w _ (tlC T) (tlC U) f1 [] n1 (by rw [g1, g2]; exact partState w _ 1) (by rw [g1, g2]; exact partState w _ 1) (by rw [g1]; exact q5) (c := true) (by simp [Op.eqFields])
  rw [Bool.and_true] at this
  exact this
theorem eql_k (w : World) (T U : Nat → Int) : (binOp .eql 122 (.agg (tlC T)) (.agg (tlC U))).run Tryz.prog w = .ok (.bool (eqK T U)) w := by
  have h : (Op.equalIn (9996 + 1 + 1 + 1 + 1) 122 (.agg (tlC T)) (.agg (tlC U))).run Tryz.prog w = .ok (eqK T U) w := by
    rw [run_equalIn_struct w _ _ _ _ (by kernel_rfl) (by kernel_rfl), eqFieldsK w 9996 T U _ fieldsK]
  simp only [binOp]
  simp [Op.equal, Op.maxDepth, h]
theorem wpList_eqlKW {ops : Array Oper} {rest : List Oper} {op : Oper} {a : Act} {w : World} {Q : Exit → Act → World → Prop} (hw : Region.wanted op (yielded ops a.tmps) = true) (x y : Operand) (ho : op.op = .binOp .eql 122 x y 122) (T U : Nat → Int) (hx : a.eval x = .agg (tlC T)) (hy : a.eval y = .agg (tlC U))
    (h : wpList Tryz.prog ops Q rest (a.put op.dst (.bool (eqK T U))) w) : wpList Tryz.prog ops Q (op :: rest) a w := by
  unfold wpList
  rw [if_pos hw]
  refine .inl ?_
  have h1 := eql_k w T U
  have hq : (eqGuard BinOp.eql 122 x y (.agg (tlC T)) (.agg (tlC U))).run Tryz.prog w = .ok () w := run_eqGuard_agg w _ _ _ _ _ _ (by kernel_rfl)
  unfold Oper.wp execOp
  simp only [ho, hx, hy, Sem.run_bind, hq, h1, Result.andThen_ok, Sem.run_pure]
  exact h
theorem index_told (w : World) (f : Nat → Nat → Int) (k : Nat) (hk : k < 3) :
    (Instr.index 123 (.agg (tlL f).toArray) (.int .i64 (k : Int))).run Tryz.prog w = .ok (.agg (tlC (f k))) w := by
  rcases (by omega : k = 0 ∨ k = 1 ∨ k = 2) with rfl | rfl | rfl <;>
    simp [Instr.index, run_underlying Tryz.underlying123, run_underlying Tryz.underlying122, asIntOf, part, isAgg, tlL, tlC]
def tellsB (f : Nat → Nat → Int) (k : Nat) (T : Nat → Int) : Nat → Bool
  | 0 => false
  | j + 1 => tellsB f k T j || (!(j == k) && eqK (f j) T)
def toldR (k : Nat) (T : Nat → Int) (R : RS) : RS := { R with told := upd R.told k T }
def learnR (k : Nat) (T : Nat → Int) (X : St) (R : RS) : RS := if tellsB (toldR k T R).told k T 3 then goR (T 0) X (toldR k T R) else toldR k T R
theorem tellsB_up {f : Nat → Nat → Int} {k : Nat} {T : Nat → Int} {j n : Nat} (h : tellsB f k T j = true) (hn : j ≤ n) : tellsB f k T n = true := by
  induction n with
  | zero => rw [show j = 0 by omega] at h; exact h
  | succ n ih =>
    by_cases e : j = n + 1
    · rw [← e]; exact h
    · unfold tellsB; rw [ih (by omega)]; rfl
structure LMid (w wz : World) (N p : Nat) (C : RC) (R : RS) (T : Nat → Int) : Prop where
  old : Mod w wz (· = p)
  kn : KnIs wz N T
  rp : RpIs wz p C R
theorem LMid.below {w wz wx : World} {N p : Nat} {C : RC} {R : RS} {T : Nat → Int} (h : LMid w wz N p C R T) (hB : Below wz.heap.size wz wx) : LMid w wx N p C R T :=
  ⟨h.old.below hB, (hB.block _ h.kn.lt).trans h.kn, h.rp.below hB⟩
set_option maxHeartbeats 2000000 in
set_option maxRecDepth 20000 in
theorem learn_any (p : Nat) (C : RC) (R : RS) (k : Nat) (T : Nat → Int) (X : St) (w : World) (h : RpIs w p C R) (hk : k < 3) (hX : ∀ j, j < 17 → (stCells X)[j]? = some (.int .i64 (T (1 + j)))) :
    Calls Tryz.prog 95 #[.pointer (some ⟨p, 0, none⟩), .int .i64 (k : Int), .agg (tlC T)] w fun e w' => e = .returned (.tuple #[]) ∧ RpIs w' p C (learnR k T X R) ∧ Mod w w' (· = p) := by
  obtain ⟨W, hW⟩ : ∃ W, Hid (w.alloc (.cells (tlC T) 122) = W) := ⟨_, hide rfl⟩
  have hB0 : Below w.heap.size w W := by rw [← hW.out]; exact (Below.refl _ _).alloc (Nat.le_refl _) _
  have b0 : KnIs W w.heap.size T := by rw [← hW.out]; exact blk_new _ _
  have hpl := h.lt
  have hN : p ≠ w.heap.size := by omega
  have hk3 : (k : Int) < 3 := by omega
  have h0 := (h.below hB0).drew
  have h1 : RpIs (W.drew.setCells p (39 + k * 18) (tlC T).toList) p C (toldR k T R) := h0.putT hk T
  have hm : Mod w (W.drew.setCells p (39 + k * 18) (tlC T).toList) (· = p) := (((Mod.ofBelow hB0 (· = p)).drewN 1).sets p _ _ rfl)
  have hkn : KnIs (W.drew.setCells p (39 + k * 18) (tlC T).toList) w.heap.size T := (World.heap_setCells_other W.drew p _ _ (blk_lt (w := W.drew) b0) (fun e => hN e.symm)).trans b0
  have HTH := hide (h0.blk.there (o := 39 + k * 18) (m := 18) (by omega))
  have HL := hide (LMid.mk hm hkn h1)
  have S0 := hide b0.range
  clear h h0 h1 hm hkn hB0 b0
  obtain ⟨R1, hR1⟩ : ∃ R1, Hid (toldR k T R = R1) := ⟨_, hide rfl⟩
  rw [hR1.out] at HL
  obtain ⟨RR, hRR⟩ : ∃ RR, Hid (learnR k T X R = RR) := ⟨_, hide rfl⟩
  rw [hRR.out]
  have HE1 : Hid (tellsB R1.told k T 3 = true → RR = goR (T 0) X R1) := hide (by intro e; rw [← hRR.out]; unfold learnR; rw [hR1.out, if_pos e])
  have HE2 : Hid (tellsB R1.told k T 3 = false → RR = R1) := hide (by intro e; rw [← hRR.out]; unfold learnR; rw [hR1.out, e]; rfl)
  clear hRR
  go_enter Tryz.func95, Tryz.ntmps95
  go_wp2_with fail
  rw [show w.alloc (.cells (tlC T) 122) = W from hW.out]
  clear hW
  refine wp_region_held_drew (S := fun w' => w'.rangeAt w.heap.size 0 (tlC T).toList) (by kernel_rfl) S0.out (fun hHeld => ?_)
  refine wpAnyH_take (i := 0) (oi := _) (v := .pointer (some ⟨p, 0, none⟩)) rfl (by kernel_rfl) (by kernel_rfl) (by kernel_rfl) (fun _ _ _ h => h) (Or.inl ⟨by rfl, fun w _ => by go_simp⟩) hHeld ?_
  simp only [Act.put, List.getElem_toArray, List.getElem_cons_zero, List.setIfInBounds_toArray, List.set_cons_succ, List.set_cons_zero]
  refine wpAnyH_take (i := 1) (oi := _) (v := .int .i64 (k : Int)) rfl (by kernel_rfl) (by kernel_rfl) (by kernel_rfl) (fun _ _ _ h => h) (Or.inl ⟨by rfl, fun w _ => by go_simp⟩) hHeld ?_
  simp only [Act.put, List.getElem_toArray, List.getElem_cons_succ, List.getElem_cons_zero, List.setIfInBounds_toArray, List.set_cons_succ, List.set_cons_zero]
  refine wpAnyH_take (i := 2) (oi := _) (v := _) rfl (by kernel_rfl) (by kernel_rfl) (by kernel_rfl) (fun _ _ _ h => h) (yieldsIf_load_mid (by rfl) 122 _ rfl w.heap.size 0 rfl (tlC T).toList _ (fun w h => h) Tryz.underlying122 rfl (by rw [infoKnown]; rfl)) hHeld ?_
  simp only [Act.put, List.getElem_toArray, List.getElem_cons_succ, List.getElem_cons_zero, List.setIfInBounds_toArray, List.set_cons_succ, List.set_cons_zero]
  refine wpAnyH_take (i := 3) (oi := _) (v := .pointer (some ⟨p, 0, none⟩)) rfl (by kernel_rfl) (by kernel_rfl) (by kernel_rfl) (fun _ _ _ h => h) (Or.inl ⟨by rfl, fun w _ => by go_simp⟩) hHeld ?_
  simp only [Act.put, List.getElem_toArray, List.getElem_cons_succ, List.getElem_cons_zero, List.setIfInBounds_toArray, List.set_cons_succ, List.set_cons_zero]
  refine wpAnyH_take (i := 4) (oi := _) (v := .pointer (some ⟨p, 39, none⟩)) rfl (by kernel_rfl) (by kernel_rfl) (by kernel_rfl) (fun _ _ _ h => h) (Or.inl ⟨by rfl, fun w _ => by go_simp⟩) hHeld ?_
  simp only [Act.put, List.getElem_toArray, List.getElem_cons_succ, List.getElem_cons_zero, List.setIfInBounds_toArray, List.set_cons_succ, List.set_cons_zero]
  refine wpAnyH_take (i := 5) (oi := _) (v := .pointer (some ⟨p, 39 + k * 18, none⟩)) rfl (by kernel_rfl) (by kernel_rfl) (by kernel_rfl) (fun _ _ _ h => h) (Or.inl ⟨by rfl, fun w _ => by go_simp⟩) hHeld ?_
  simp only [Act.put, List.getElem_toArray, List.getElem_cons_succ, List.getElem_cons_zero, List.setIfInBounds_toArray, List.set_cons_succ, List.set_cons_zero]
  refine wpAnyH_ready (rs := [6]) (by kernel_rfl) (by simp) ?_
  refine AllReadyH.cons (o := _) rfl (fun K hK => ?_) AllReadyH.nil
  rw [if_pos (by rfl)]
  refine wp_store_mid _ _ _ rfl p (39 + k * 18) (tlC T) rfl rfl HTH.out (by rw [infoKnown]; rfl) (tlOne T) ?_
  refine hK.out _ _ HL.out.kn.range (fun hHeld => ?_)
  clear hK K
  refine wpAnyH_done (by kernel_rfl) ?_ _
  simp only [Act.put, List.getElem_toArray, List.getElem_cons_succ, List.getElem_cons_zero]
  clear hHeld S0 HTH
  generalize W.drew.setCells p (39 + k * 18) (tlC T).toList = w1 at HL ⊢
  go_wp2_with (refine wpList_load_mid rfl 123 _ rfl p 39 rfl (tlL R1.told) _ HL.out.rp.tolds Tryz.underlying123 rfl (by rw [infoKnowns]; rfl) ?_)
  go_loopw [18] (fun u wr => LMid w wr w.heap.size p C R1 T ∧ ∃ j : Nat, j ≤ 3 ∧ u = .int .i64 j ∧ Hid (tellsB R1.told k T j = false)) (fun u _ => 3 - (intOf u).toNat)
  case atStart => exact ⟨HL.out, 0, by omega, rfl, rfl⟩
  case round =>
    obtain ⟨hL, j, hj, rfl, HS⟩ := hrel
    have HLr := hide hL
    clear hL
    by_cases hj3 : j < 3
    · have hj' : (j : Int) < 3 := by omega
      have hix := fun wx => index_told wx R1.told j hj3
      obtain ⟨U, hU⟩ : ∃ U, Hid (R1.told j = U) := ⟨_, hide rfl⟩
      rw [hU.out] at hix
      have HZ0 : Hid (KnIs (wr.alloc (.cells (tlC fun _ => 0) 122)) wr.heap.size (fun _ => 0)) := hide (blk_new _ _)
      obtain ⟨bk, hbk⟩ : ∃ b, ((j : Int) == (k : Int)) = b := ⟨_, rfl⟩
      have hbk' : (j == k) = bk := by rw [← hbk, Bool.eq_iff_iff, beq_iff_eq, beq_iff_eq]; omega
      have hbn : ((j : Int) != (k : Int)) = !bk := by rw [← hbk]; rfl
      have HST : Hid (tellsB R1.told k T (j + 1) = (!bk && eqK U T)) := hide (by unfold tellsB; rw [HS.out, hbk', hU.out, Bool.false_or])
      obtain ⟨be, hbe⟩ : ∃ b, Hid (eqK U T = b) := ⟨_, hide rfl⟩
      rw [hbe.out] at HST
      clear hbk'
      go_wp2_with (refine wpList_store_kl rfl _ _ rfl wr.heap.size U rfl rfl (fun _ => 0) HZ0.out ?_)
      intro w3 HF3
      have hL3 : LMid w w3 w.heap.size p C R1 T := HLr.out.below (((Below.refl wr.heap.size wr).alloc (Nat.le_refl _) _).trans (HF3.out.2.2 _ (Nat.le_refl _)))
      have HL3 := hide hL3
      have HU3 := hide HF3.out.1
      clear HF3 hL3 HLr HZ0 hix
      cases bk
      · cases be
        · rw [Bool.and_false] at HST
          go_wp2_with (first
            | (refine wpList_loadKW (by rfl) _ rfl wr.heap.size rfl U HU3.out ?_)
            | (refine wpList_loadKW (by rfl) _ rfl w.heap.size rfl T HL3.out.kn ?_)
            | (refine wpList_eqlKW (by rfl) _ _ rfl U T rfl rfl ?_; rw [hbe.out]))
          go_roundw
          case rel => exact ⟨HL3.out, j + 1, by omega, by go_num, HST⟩
          case measure => simp [intOf]; omega
        · rw [Bool.not_false, Bool.and_self] at HST
          have HT3 : Hid (tellsB R1.told k T 3 = true) := hide (tellsB_up HST.out (by omega))
          have hgo := goTo_any p C R1 (T 0) X w3 HL3.out.rp
          have HGO := hide hgo
          have t0 : w3.cell? ⟨w.heap.size, 0, none⟩ = some (.int .i64 (T 0)) := HL3.out.kn.at (by omega)
          clear hgo
          go_wp2_with (first
            | (refine wpList_loadKW (by rfl) _ rfl wr.heap.size rfl U HU3.out ?_)
            | (refine wpList_loadKW (by rfl) _ rfl w.heap.size rfl T HL3.out.kn ?_)
            | (refine wpList_eqlKW (by rfl) _ _ rfl U T rfl rfl ?_; rw [hbe.out])
            | (refine wpList_load_mid rfl 33 _ rfl w.heap.size 1 rfl (stCells X).toList _ (HL3.out.kn.state hX) Tryz.underlying33 rfl (by rw [stateInfo]; rfl) ?_)
            | (go_at_call 104; refine HGO.out.mono ?_; rintro e w4 ⟨rfl, hr4, hm4⟩))
          refine bodyPost_ret (results_none rfl _ _ _) rfl ?_
          exact ⟨rfl, by rw [HE1.out HT3.out]; exact hr4, HL3.out.old.then hm4 (fun _ _ e => e)⟩
      · rw [Bool.not_true, Bool.false_and] at HST
        go_wp2
        go_roundw
        case rel => exact ⟨HL3.out, j + 1, by omega, by go_num, HST⟩
        case measure => simp [intOf]; omega
    · have e3 : j = 3 := by omega
      subst e3
      go_wp2
      go_end0
      exact ⟨rfl, by rw [HE2.out HS.out]; exact HLr.out.rp, HLr.out.old⟩
end Go.Proofs.YtaablbmgagiajaaGreatDoor
