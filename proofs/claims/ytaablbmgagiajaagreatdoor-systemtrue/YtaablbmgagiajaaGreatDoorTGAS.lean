import Derived.Test.YtaablbmgagiajaaGreatDoorTGAQ
namespace Go.Proofs.YtaablbmgagiajaaGreatDoor
open Go.RowKit Go.Deep
def tickS (C : RC) (R : RS) : RS := putR R.id (fitN C.s R.sx) (fitN C.n R.sy) (forgetR { R with ticks := R.ticks + 1 })
def sampleR (R : RS) : FR := inF 1 (R.id : Int) R.cycle ((R.smp R.id).c : Int) ((R.smp R.id).v : Int)
def votesB (R : RS) : Bool := haveTo R.smp 3 == 3 || (haveTo R.smp 3 == 2 && decide (3 ≤ R.ticks))
def secondR (C : RC) (R : RS) : FR := if votesB R then voteR C R else if 3 ≤ R.ticks then startF 4 (R.id : Int) R.cycle else fr0
def saysB (R : RS) : Bool := votesB R || decide (3 ≤ R.ticks)
structure TMid (w wz : World) (N p : Nat) (C : RC) (R : RS) (A B : FR) : Prop where
  old : Mod w wz (· = p)
  one : FIs wz N 35 A
  two : FIs wz (N + 1) 35 B
  rp : RpIs wz p C R
section
variable {w wz wx : World} {N p : Nat} {C : RC} {R R' : RS} {A B A' : FR}
theorem TMid.mod (h : TMid w wz N p C R A B) (hp : p < N) (hm : Mod wz wx (· = p)) (hr : RpIs wx p C R') : TMid w wx N p C R' A B :=
  ⟨h.old.then hm (fun _ _ e => e), (hm.block _ h.one.lt (by omega)).trans h.one, (hm.block _ h.two.lt (by omega)).trans h.two, hr⟩
theorem TMid.below (h : TMid w wz N p C R A B) (hB : Below wz.heap.size wz wx) : TMid w wx N p C R A B :=
  ⟨h.old.below hB, h.one.below h.one.lt hB, h.two.below h.two.lt hB, h.rp.below hB⟩
theorem TMid.far (h : TMid w wz N p C R A B) (hp : p < N) (hN : N = w.heap.size) (hg : C.pc < N ∧ C.g < N ∧ C.M < N ∧ C.g2 < N) {q : Nat} (hq : N ≤ q) (hm : Mod wz wx (· = q)) : Mod w wx (· = p) ∧ RpIs wx p C R := by
  obtain ⟨g1, g2, g3, g4⟩ := hg
  exact ⟨h.old.then hm (fun i hi e => by omega), h.rp.other hm ⟨by omega, by omega, by omega, by omega, by omega⟩⟩
theorem mod_row (w : World) (q : Nat) (cs : Array Value) : Mod w (w.setRow q cs) (· = q) := ⟨rfl, rfl, rfl, by simp [World.setRow], fun _ _ h => row_other _ _ _ _ h⟩
theorem TMid.row1 (h : TMid w wz N p C R A B) (hp : p < N) (hN : N = w.heap.size) (hg : C.pc < N ∧ C.g < N ∧ C.M < N ∧ C.g2 < N) (A' : FR) : TMid w (wz.setRow N (fCells A')) N p C R A' B := by
  obtain ⟨a, b⟩ := h.far hp hN hg (Nat.le_refl _) (mod_row wz N (fCells A'))
  exact ⟨a, h.one.row A', (row_other _ _ _ _ (by omega)).trans h.two, b⟩
theorem TMid.row2 (h : TMid w wz N p C R A B) (hp : p < N) (hN : N = w.heap.size) (hg : C.pc < N ∧ C.g < N ∧ C.M < N ∧ C.g2 < N) (B' : FR) : TMid w (wz.setRow (N + 1) (fCells B')) N p C R A B' := by
  obtain ⟨a, b⟩ := h.far hp hN hg (by omega) (mod_row wz (N + 1) (fCells B'))
  exact ⟨a, (row_other _ _ _ _ (by omega)).trans h.one, h.two.row B', b⟩
theorem TMid.put (h : TMid w wz N p C R A B) (hp : p < N) (hN : N = w.heap.size) (hg : C.pc < N ∧ C.g < N ∧ C.M < N ∧ C.g2 < N) {k : Nat} (hk : k < 23) (x : Int) : TMid w (wz.setCell ⟨N, k, none⟩ (.int .i64 x)) N p C R (upd A k x) B := by
  obtain ⟨a, b⟩ := h.far hp hN hg (Nat.le_refl _) ((Mod.refl wz (· = N)).set ⟨N, k, none⟩ (.int .i64 x) (fun _ => rfl))
  exact ⟨a, h.one.put hk x, (Below.heap_setCell _ _ _ _ (by show N + 1 ≠ N; omega)).trans h.two, b⟩
theorem TMid.drew (h : TMid w wz N p C R A B) : TMid w wz.drew N p C R A B := h.below (Below.refl _ _).drew
end
theorem results_cell2b {P : Program} {f : Func} {tmps : Array Value} {w : World} {a b k : Tmp} {t u : TypeId} {ad bd : Addr} {v x : Value} (hf : f.results = #[.cell a t, .cell b u, .tmp k]) (ha : tmps.getD a undef = .pointer (some ad)) (hb : tmps.getD b undef = .pointer (some bd)) (hl : (loadVar t ad).run P w = .ok v w) (hm : (loadVar u bd).run P w = .ok x w) :
    (results f tmps).run P w = .ok (.tuple #[v, x, tmps.getD k undef]) w := by
  have ha' : tmps[a]?.getD undef = .pointer (some ad) := by simpa using ha
  have hb' : tmps[b]?.getD undef = .pointer (some bd) := by simpa using hb
  simp only [results, hf]
  simp [asAddr, ha', hb', hl, hm]
structure RpOk (R : RS) : Prop where
  id : R.id < 3
  ticks : 0 ≤ R.ticks ∧ R.ticks < 9000000
  came : ∀ k, k < 3 → 0 ≤ (R.smp k).came ∧ (R.smp k).came < 10000000
  smp : SmpOk R
  st : StOk R.st
theorem tick_smp {C : RC} {R : RS} (h : RpOk R) (hs : C.s ≤ 12) (hn : C.n ≤ 8) : SmpOk (tickS C R) := by
  have hf : ∀ k, k < 3 → (fgTo (R.ticks + 1) R.smp 3 k).c < 4096 ∧ (fgTo (R.ticks + 1) R.smp 3 k).v < 256 := by
    intro k hk
    rw [fgTo_at, if_pos hk]
    rcases (by unfold fgone; split; exact .inl rfl; exact .inr rfl : fgone (R.ticks + 1) (R.smp k) = smp0 ∨ fgone (R.ticks + 1) (R.smp k) = R.smp k) with e | e
    · rw [e]; exact ⟨by decide, by decide⟩
    · rw [e]; exact ⟨h.smp.c k hk, h.smp.v k hk⟩
  have hp : ∀ k, k < 3 → ((tickS C R).smp k).c < 4096 ∧ ((tickS C R).smp k).v < 256 := by
    intro k hk
    show (upd (fgTo (R.ticks + 1) R.smp 3) R.id _ k).c < 4096 ∧ (upd (fgTo (R.ticks + 1) R.smp 3) R.id _ k).v < 256
    by_cases e : k = R.id
    · rw [e, upd_same]
      exact ⟨Nat.lt_of_lt_of_le (fitN_lt _ _) (Nat.pow_le_pow_right (n := 2) (by decide) hs), Nat.lt_of_lt_of_le (fitN_lt _ _) (Nat.pow_le_pow_right (n := 2) (by decide) hn)⟩
    · rw [upd_other _ _ e]
      exact hf k hk
  exact ⟨fun k hk => (hp k hk).1, fun k hk => (hp k hk).2⟩
set_option maxHeartbeats 4000000 in
set_option maxRecDepth 20000 in
theorem rtick_any (p : Nat) (C : RC) (R : RS) (w : World) (h : RpIs w p C R) (hok : RpOk R) :
    Calls Tryz.prog 71 #[.pointer (some ⟨p, 0, none⟩)] w fun e w' =>
      e = .returned (.tuple #[.agg (fCells (sampleR (tickS C R))), .agg (fCells (secondR C (tickS C R))), .bool (saysB (tickS C R))]) ∧ RpIs w' p C (tickS C R) ∧ Mod w w' (· = p) := by
  have hpl := h.lt
  have hg : C.pc < w.heap.size ∧ C.g < w.heap.size ∧ C.M < w.heap.size ∧ C.g2 < w.heap.size := ⟨h.core.plt, h.core.glt, h.core.mlt, h.lt2⟩
  have hfew := h.core.few
  have hsm : SmpOk (tickS C R) := tick_smp hok (by omega) (by omega)
  have hid := hok.id
  have hid' : (R.id : Int) < 3 := by omega
  have htk : 0 ≤ R.ticks ∧ R.ticks < 9000000 := hok.ticks
  obtain ⟨ht1, ht2⟩ := htk
  have c6 := h.c6
  have f6 := h.blk.free 6
  have hwr : wrap64 (R.ticks + 1) = R.ticks + 1 := IntWalk.wrap64_in _ (by omega)
  obtain ⟨R1, hR1⟩ : ∃ R1, Hid (R1 = { R with ticks := R.ticks + 1 }) := ⟨_, hide rfl⟩
  have hM1 : TMid w (((w.setCell ⟨p, 6, none⟩ (.int .i64 (R.ticks + 1))).alloc (.cells (fCells fr0) 35)).alloc (.cells (fCells fr0) 35)) w.heap.size p C R1 fr0 fr0 := by
    have h1 := h.tick (R.ticks + 1)
    rw [← hR1.out] at h1
    have hs : (w.setCell ⟨p, 6, none⟩ (.int .i64 (R.ticks + 1))).heap.size = w.heap.size := by simp [World.setCell]
    have hb : Below (w.setCell ⟨p, 6, none⟩ (.int .i64 (R.ticks + 1))).heap.size (w.setCell ⟨p, 6, none⟩ (.int .i64 (R.ticks + 1))) (((w.setCell ⟨p, 6, none⟩ (.int .i64 (R.ticks + 1))).alloc (.cells (fCells fr0) 35)).alloc (.cells (fCells fr0) 35)) := ((Below.refl _ _).alloc (Nat.le_refl _) _).alloc (by simp) _
    refine ⟨((Mod.refl w (· = p)).set ⟨p, 6, none⟩ _ (fun _ => rfl)).below hb, ?_, ?_, h1.below hb⟩
    · refine (Below.heap_alloc _ _ _ (by simp [hs])).trans ?_
      have := blk_new (w.setCell ⟨p, 6, none⟩ (.int .i64 (R.ticks + 1))) (.cells (fCells fr0) 35)
      rwa [hs] at this
    · have := blk_new ((w.setCell ⟨p, 6, none⟩ (.int .i64 (R.ticks + 1))).alloc (.cells (fCells fr0) 35)) (.cells (fCells fr0) 35)
      unfold FIs
      simpa [hs] using this
  have hR1i : R1.id = R.id ∧ R1.cycle = R.cycle ∧ R1.sx = R.sx ∧ R1.sy = R.sy ∧ R1.ticks = R.ticks + 1 ∧ R1.smp = R.smp ∧ R1.st = R.st := by rw [hR1.out]; exact ⟨rfl, rfl, rfl, rfl, rfl, rfl, rfl⟩
  have hfg := forget_any p C R1 _ hM1.rp (by rw [hR1i.2.2.2.2.1]; omega) (by rw [hR1i.2.2.2.2.2.1]; exact hok.came)
  obtain ⟨R2, hR2⟩ : ∃ R2, Hid (R2 = forgetR R1) := ⟨_, hide rfl⟩
  rw [← hR2.out] at hfg
  have hR2i : R2.id = R.id ∧ R2.cycle = R.cycle ∧ R2.sx = R.sx ∧ R2.sy = R.sy := by rw [hR2.out]; exact ⟨hR1i.1, hR1i.2.1, hR1i.2.2.1, hR1i.2.2.2.1⟩
  obtain ⟨R3, hR3⟩ : ∃ R3, Hid (R3 = tickS C R) := ⟨_, hide rfl⟩
  have hR3p : putR R.id (fitN C.s R.sx) (fitN C.n R.sy) R2 = R3 := by rw [hR3.out, hR2.out, hR1.out]; rfl
  have hR3i : R3.id = R.id ∧ R3.cycle = R.cycle ∧ R3.ticks = R.ticks + 1 ∧ R3.st = R.st ∧ R3.sx = R.sx ∧ R3.sy = R.sy := by rw [hR3.out]; exact ⟨rfl, rfl, rfl, rfl, rfl, rfl⟩
  rw [← hR3.out] at hsm ⊢
  have HSM := hide hsm
  have HST : Hid (StOk R3.st) := hide (by rw [hR3i.2.2.2.1]; exact hok.st)
  have HFG := hide hfg
  have HM1 := hide hM1
  have HG := hide hg
  have HI2 := hide hR2i
  have HI3 := hide hR3i
  have HP3 := hide hR3p
  clear h hok hM1 hfg hsm hg hR1i hR2i hR3i hR3p hR1 hR2 hR3 hfew
  go_enter Tryz.func71, Tryz.ntmps71
  go_wp2_with fail
  refine HFG.out.mono ?_
  rintro e w2 ⟨rfl, hr2, hm2⟩
  have hM2 := HM1.out.mod hpl hm2 hr2
  have HM2 := hide hM2
  have c0 : w2.cell? ⟨p, 0, none⟩ = some (.int .i64 (R.id : Int)) := by rw [hr2.c0, HI2.out.1]
  have c25 : w2.cell? ⟨p, 25, none⟩ = some (.int .i64 R.sx) := by rw [hr2.c25, HI2.out.2.2.1]
  have c26 : w2.cell? ⟨p, 26, none⟩ = some (.int .i64 R.sy) := by rw [hr2.c26, HI2.out.2.2.2]
  have hpt := put_any p C R2 R.id R.sx R.sy w2.drew hr2.drew hid
  rw [HP3.out] at hpt
  have HPT := hide hpt
  clear hM2 hr2 hm2 hpt HM1 HFG c6 f6 hwr HP3 HI2
  go_wp2_with fail
  refine wp_region_held_drew (S := fun w' => w'.cell? ⟨p, 0, none⟩ = some (.int .i64 (R.id : Int)) ∧ w'.cell? ⟨p, 25, none⟩ = some (.int .i64 R.sx) ∧ w'.cell? ⟨p, 26, none⟩ = some (.int .i64 R.sy)) (by kernel_rfl) ⟨c0, c25, c26⟩ (fun hHeld => ?_)
  refine wpAnyH_take (i := 0) (oi := _) (v := .pointer (some ⟨p, 0, none⟩)) rfl (by kernel_rfl) (by kernel_rfl) (by kernel_rfl) (fun _ _ _ h => h) (Or.inl ⟨by rfl, fun w _ => by go_simp⟩) hHeld ?_
  simp only [Act.put, List.getElem_toArray, List.getElem_cons_zero, List.setIfInBounds_toArray, List.set_cons_succ, List.set_cons_zero]
  refine wpAnyH_take (i := 1) (oi := _) (v := .pointer (some ⟨p, 0, none⟩)) rfl (by kernel_rfl) (by kernel_rfl) (by kernel_rfl) (fun _ _ _ h => h) (Or.inl ⟨by rfl, fun w _ => by go_simp⟩) hHeld ?_
  simp only [Act.put, List.getElem_toArray, List.getElem_cons_succ, List.getElem_cons_zero, List.setIfInBounds_toArray, List.set_cons_succ, List.set_cons_zero]
  refine wpAnyH_take (i := 2) (oi := _) (v := .pointer (some ⟨p, 0, none⟩)) rfl (by kernel_rfl) (by kernel_rfl) (by kernel_rfl) (fun _ _ _ h => h) (Or.inl ⟨by rfl, fun w _ => by go_simp⟩) hHeld ?_
  simp only [Act.put, List.getElem_toArray, List.getElem_cons_succ, List.getElem_cons_zero, List.setIfInBounds_toArray, List.set_cons_succ, List.set_cons_zero]
  refine wpAnyH_take (i := 3) (oi := _) (v := .pointer (some ⟨p, 0, none⟩)) rfl (by kernel_rfl) (by kernel_rfl) (by kernel_rfl) (fun _ _ _ h => h) (Or.inl ⟨by rfl, fun w _ => by go_simp⟩) hHeld ?_
  simp only [Act.put, List.getElem_toArray, List.getElem_cons_succ, List.getElem_cons_zero, List.setIfInBounds_toArray, List.set_cons_succ, List.set_cons_zero]
  refine wpAnyH_take (i := 4) (oi := _) (v := .int .i64 (R.id : Int)) rfl (by kernel_rfl) (by kernel_rfl) (by kernel_rfl) (fun _ _ _ h => h) (Or.inl ⟨by rfl, fun w h => by obtain ⟨h1, h2, h3⟩ := h; go_simp⟩) hHeld ?_
  simp only [Act.put, List.getElem_toArray, List.getElem_cons_succ, List.getElem_cons_zero, List.setIfInBounds_toArray, List.set_cons_succ, List.set_cons_zero]
  refine wpAnyH_take (i := 5) (oi := _) (v := .pointer (some ⟨p, 0, none⟩)) rfl (by kernel_rfl) (by kernel_rfl) (by kernel_rfl) (fun _ _ _ h => h) (Or.inl ⟨by rfl, fun w _ => by go_simp⟩) hHeld ?_
  simp only [Act.put, List.getElem_toArray, List.getElem_cons_succ, List.getElem_cons_zero, List.setIfInBounds_toArray, List.set_cons_succ, List.set_cons_zero]
  refine wpAnyH_take (i := 6) (oi := _) (v := .pointer (some ⟨p, 0, none⟩)) rfl (by kernel_rfl) (by kernel_rfl) (by kernel_rfl) (fun _ _ _ h => h) (Or.inl ⟨by rfl, fun w _ => by go_simp⟩) hHeld ?_
  simp only [Act.put, List.getElem_toArray, List.getElem_cons_succ, List.getElem_cons_zero, List.setIfInBounds_toArray, List.set_cons_succ, List.set_cons_zero]
  refine wpAnyH_take (i := 7) (oi := _) (v := .pointer (some ⟨p, 25, none⟩)) rfl (by kernel_rfl) (by kernel_rfl) (by kernel_rfl) (fun _ _ _ h => h) (Or.inl ⟨by rfl, fun w _ => by go_simp⟩) hHeld ?_
  simp only [Act.put, List.getElem_toArray, List.getElem_cons_succ, List.getElem_cons_zero, List.setIfInBounds_toArray, List.set_cons_succ, List.set_cons_zero]
  refine wpAnyH_take (i := 8) (oi := _) (v := .agg #[.int .i64 R.sx, .int .i64 R.sy]) rfl (by kernel_rfl) (by kernel_rfl) (by kernel_rfl) (fun _ _ _ h => h) (Or.inl ⟨by rfl, fun w h => by obtain ⟨h1, h2, h3⟩ := h; go_simp⟩) hHeld ?_
  simp only [Act.put, List.getElem_toArray, List.getElem_cons_succ, List.getElem_cons_zero, List.setIfInBounds_toArray, List.set_cons_succ, List.set_cons_zero]
  refine wpAnyH_ready (rs := [9]) (by kernel_rfl) (by simp) ?_
  refine AllReadyH.cons (o := _) rfl (fun K hK => ?_) AllReadyH.nil
  rw [if_pos (by rfl)]
  clear c0 c25 c26 hHeld
  go_simp
  go_at_call 88
  refine HPT.out.mono ?_
  rintro e w3 ⟨rfl, hr3, hm3⟩
  dsimp only
  have hM3 := HM2.out.drew.mod hpl hm3 hr3
  have e0 : w3.cell? ⟨p, 0, none⟩ = some (.int .i64 (R.id : Int)) := by rw [hr3.c0, HI3.out.1]
  have e25 : w3.cell? ⟨p, 25, none⟩ = some (.int .i64 R.sx) := by rw [hr3.c25, HI3.out.2.2.2.2.1]
  have e26 : w3.cell? ⟨p, 26, none⟩ = some (.int .i64 R.sy) := by rw [hr3.c26, HI3.out.2.2.2.2.2]
  refine hK.out _ _ ⟨e0, e25, e26⟩ (fun hHeld => ?_)
  clear hK K e0 e25 e26
  refine wpAnyH_done (by kernel_rfl) ?_ _
  have hfr := rframe_any p C R3 1 w3 hr3
  have HFR := hide hfr
  have HM3 := hide hM3
  clear hHeld hfr hM3 hr3 hm3 HPT HM2
  go_wp2_with fail
  refine HFR.out.mono ?_
  rintro e w4 ⟨rfl, hB4⟩
  have HM4 := hide (HM3.out.below hB4)
  clear hB4 HM3 HFR
  go_wp2_with (refine wpList_store_fl rfl _ _ rfl w.heap.size (startF 1 (R3.id : Int) R3.cycle) rfl rfl fr0 HM4.out.one ?_)
  intro w5 HF5
  have hM5 : TMid w w5 w.heap.size p C R3 (startF 1 (R3.id : Int) R3.cycle) fr0 := by
    obtain ⟨a1, a2, a3⟩ := HF5.out
    have hm : Mod w4 w5 (· = w.heap.size) := ⟨(a3 0 (Nat.zero_le _)).os, (a3 0 (Nat.zero_le _)).tape, (a3 0 (Nat.zero_le _)).output, (a3 0 (Nat.zero_le _)).size, fun k _ hk => a2 k hk⟩
    obtain ⟨b1, b2⟩ := HM4.out.far hpl rfl HG.out (Nat.le_refl _) hm
    exact ⟨b1, a1, (a2 _ (by omega)).trans HM4.out.two, b2⟩
  obtain ⟨c, hc⟩ : ∃ c, Hid ((R3.smp R.id).c = c) := ⟨_, hide rfl⟩
  obtain ⟨v, hv⟩ : ∃ v, Hid ((R3.smp R.id).v = v) := ⟨_, hide rfl⟩
  have d0 : w5.cell? ⟨p, 0, none⟩ = some (.int .i64 (R.id : Int)) := by rw [hM5.rp.c0, HI3.out.1]
  have d2 : w5.cell? ⟨p, 27 + R.id * 4 + 2, none⟩ = some (.int .i64 (c : Int)) := by rw [hM5.rp.s2 hid, hc.out]
  have d3 : w5.cell? ⟨p, 27 + R.id * 4 + 3, none⟩ = some (.int .i64 (v : Int)) := by rw [hM5.rp.s3 hid, hv.out]
  have hM6 := ((hM5.put hpl rfl HG.out (k := 3) (by omega) (c : Int)).put hpl rfl HG.out (k := 4) (by omega) (v : Int)).drew
  have k3 := hM5.one.at (k := 3) (by omega)
  have k4 := hM5.one.at (k := 4) (by omega)
  have f3 := hM5.one.free 3
  have f4 := hM5.one.free 4
  have g0 : ((w5.setCell ⟨w.heap.size, 3, none⟩ (.int .i64 (c : Int))).setCell ⟨w.heap.size, 4, none⟩ (.int .i64 (v : Int))).drew.cell? ⟨p, 0, none⟩ = some (.int .i64 (R.id : Int)) := by rw [hM6.rp.c0, HI3.out.1]
  have g2 : ((w5.setCell ⟨w.heap.size, 3, none⟩ (.int .i64 (c : Int))).setCell ⟨w.heap.size, 4, none⟩ (.int .i64 (v : Int))).drew.cell? ⟨p, 27 + R.id * 4 + 2, none⟩ = some (.int .i64 (c : Int)) := by rw [hM6.rp.s2 hid, hc.out]
  have g3 : ((w5.setCell ⟨w.heap.size, 3, none⟩ (.int .i64 (c : Int))).setCell ⟨w.heap.size, 4, none⟩ (.int .i64 (v : Int))).drew.cell? ⟨p, 27 + R.id * 4 + 3, none⟩ = some (.int .i64 (v : Int)) := by rw [hM6.rp.s3 hid, hv.out]
  have HM6 := hide hM6
  have G0 := hide (And.intro g0 (And.intro g2 g3))
  clear hM5 hM6 HF5 HM4 g0 g2 g3
  go_wp2_with fail
  refine wp_region_held_drew (S := fun w' => w'.cell? ⟨p, 0, none⟩ = some (.int .i64 (R.id : Int)) ∧ w'.cell? ⟨p, 27 + R.id * 4 + 2, none⟩ = some (.int .i64 (c : Int)) ∧ w'.cell? ⟨p, 27 + R.id * 4 + 3, none⟩ = some (.int .i64 (v : Int))) (by kernel_rfl) ⟨d0, d2, d3⟩ (fun hHeld => ?_)
  refine wpAnyH_take (i := 0) (oi := _) (v := .pointer (some ⟨p, 0, none⟩)) rfl (by kernel_rfl) (by kernel_rfl) (by kernel_rfl) (fun _ _ _ h => h) (Or.inl ⟨by rfl, fun w _ => by go_simp⟩) hHeld ?_
  simp only [Act.put, List.getElem_toArray, List.getElem_cons_zero, List.setIfInBounds_toArray, List.set_cons_succ, List.set_cons_zero]
  refine wpAnyH_take (i := 1) (oi := _) (v := .pointer (some ⟨p, 0, none⟩)) rfl (by kernel_rfl) (by kernel_rfl) (by kernel_rfl) (fun _ _ _ h => h) (Or.inl ⟨by rfl, fun w _ => by go_simp⟩) hHeld ?_
  simp only [Act.put, List.getElem_toArray, List.getElem_cons_succ, List.getElem_cons_zero, List.setIfInBounds_toArray, List.set_cons_succ, List.set_cons_zero]
  refine wpAnyH_take (i := 2) (oi := _) (v := .pointer (some ⟨p, 0, none⟩)) rfl (by kernel_rfl) (by kernel_rfl) (by kernel_rfl) (fun _ _ _ h => h) (Or.inl ⟨by rfl, fun w _ => by go_simp⟩) hHeld ?_
  simp only [Act.put, List.getElem_toArray, List.getElem_cons_succ, List.getElem_cons_zero, List.setIfInBounds_toArray, List.set_cons_succ, List.set_cons_zero]
  refine wpAnyH_take (i := 3) (oi := _) (v := .pointer (some ⟨p, 0, none⟩)) rfl (by kernel_rfl) (by kernel_rfl) (by kernel_rfl) (fun _ _ _ h => h) (Or.inl ⟨by rfl, fun w _ => by go_simp⟩) hHeld ?_
  simp only [Act.put, List.getElem_toArray, List.getElem_cons_succ, List.getElem_cons_zero, List.setIfInBounds_toArray, List.set_cons_succ, List.set_cons_zero]
  refine wpAnyH_take (i := 4) (oi := _) (v := .int .i64 (R.id : Int)) rfl (by kernel_rfl) (by kernel_rfl) (by kernel_rfl) (fun _ _ _ h => h) (Or.inl ⟨by rfl, fun w h => by obtain ⟨h1, h2, h3⟩ := h; go_simp⟩) hHeld ?_
  simp only [Act.put, List.getElem_toArray, List.getElem_cons_succ, List.getElem_cons_zero, List.setIfInBounds_toArray, List.set_cons_succ, List.set_cons_zero]
  refine wpAnyH_take (i := 5) (oi := _) (v := .pointer (some ⟨p, 0, none⟩)) rfl (by kernel_rfl) (by kernel_rfl) (by kernel_rfl) (fun _ _ _ h => h) (Or.inl ⟨by rfl, fun w _ => by go_simp⟩) hHeld ?_
  simp only [Act.put, List.getElem_toArray, List.getElem_cons_succ, List.getElem_cons_zero, List.setIfInBounds_toArray, List.set_cons_succ, List.set_cons_zero]
  refine wpAnyH_take (i := 6) (oi := _) (v := .pointer (some ⟨p, 27, none⟩)) rfl (by kernel_rfl) (by kernel_rfl) (by kernel_rfl) (fun _ _ _ h => h) (Or.inl ⟨by rfl, fun w _ => by go_simp⟩) hHeld ?_
  simp only [Act.put, List.getElem_toArray, List.getElem_cons_succ, List.getElem_cons_zero, List.setIfInBounds_toArray, List.set_cons_succ, List.set_cons_zero]
  refine wpAnyH_take (i := 7) (oi := _) (v := .pointer (some ⟨p, 27 + R.id * 4, none⟩)) rfl (by kernel_rfl) (by kernel_rfl) (by kernel_rfl) (fun _ _ _ h => h) (Or.inl ⟨by rfl, fun w _ => by go_simp⟩) hHeld ?_
  simp only [Act.put, List.getElem_toArray, List.getElem_cons_succ, List.getElem_cons_zero, List.setIfInBounds_toArray, List.set_cons_succ, List.set_cons_zero]
  refine wpAnyH_take (i := 8) (oi := _) (v := .pointer (some ⟨p, 27 + R.id * 4 + 2, none⟩)) rfl (by kernel_rfl) (by kernel_rfl) (by kernel_rfl) (fun _ _ _ h => h) (Or.inl ⟨by rfl, fun w _ => by go_simp⟩) hHeld ?_
  simp only [Act.put, List.getElem_toArray, List.getElem_cons_succ, List.getElem_cons_zero, List.setIfInBounds_toArray, List.set_cons_succ, List.set_cons_zero]
  refine wpAnyH_take (i := 9) (oi := _) (v := .agg #[.int .i64 (c : Int), .int .i64 (v : Int)]) rfl (by kernel_rfl) (by kernel_rfl) (by kernel_rfl) (fun _ _ _ h => h) (Or.inl ⟨by rfl, fun w h => by obtain ⟨h1, h2, h3⟩ := h; go_simp⟩) hHeld ?_
  simp only [Act.put, List.getElem_toArray, List.getElem_cons_succ, List.getElem_cons_zero, List.setIfInBounds_toArray, List.set_cons_succ, List.set_cons_zero]
  refine wpAnyH_take (i := 10) (oi := _) (v := .pointer (some ⟨w.heap.size, 3, none⟩)) rfl (by kernel_rfl) (by kernel_rfl) (by kernel_rfl) (fun _ _ _ h => h) (Or.inl ⟨by rfl, fun w _ => by go_simp⟩) hHeld ?_
  simp only [Act.put, List.getElem_toArray, List.getElem_cons_succ, List.getElem_cons_zero, List.setIfInBounds_toArray, List.set_cons_succ, List.set_cons_zero]
  refine wpAnyH_ready (rs := [11]) (by kernel_rfl) (by simp) ?_
  refine AllReadyH.cons (o := _) rfl (fun K hK => ?_) AllReadyH.nil
  rw [if_pos (by rfl)]
  clear d0 d2 d3 hHeld
  go_simp
  refine hK.out _ _ G0.out (fun hHeld => ?_)
  clear hK K
  refine wpAnyH_done (by kernel_rfl) ?_ _
  clear hHeld k3 k4 f3 f4 G0
  generalize ((w5.setCell ⟨w.heap.size, 3, none⟩ (.int .i64 (c : Int))).setCell ⟨w.heap.size, 4, none⟩ (.int .i64 (v : Int))).drew = w6 at HM6 ⊢
  obtain ⟨A, hA⟩ : ∃ A, Hid (upd (upd (startF 1 (R3.id : Int) R3.cycle) 3 (c : Int)) 4 (v : Int) = A) := ⟨_, hide rfl⟩
  rw [hA.out] at HM6
  have HA : Hid (fCells A = fCells (sampleR R3)) := hide (fCells_congr fun k _ => by
    unfold sampleR
    rw [← hA.out, HI3.out.1, hc.out, hv.out]
    unfold upd startF inF
    (repeat' split) <;> first | rfl | omega)
  have c6 : w6.cell? ⟨p, 6, none⟩ = some (.int .i64 (R.ticks + 1)) := by rw [HM6.out.rp.c6, HI3.out.2.2.1]
  have hhv := have_any p C R3 w6 HM6.out.rp
  have hn3 := haveTo_le R3.smp 3
  obtain ⟨n, hn⟩ : ∃ n, Hid (haveTo R3.smp 3 = n) := ⟨_, hide rfl⟩
  rw [hn.out] at hhv hn3
  have HHV := hide hhv
  obtain ⟨b3, hb3⟩ : ∃ b, ((n : Int) == 3) = b := ⟨_, rfl⟩
  obtain ⟨b2, hb2⟩ : ∃ b, ((n : Int) == 2) = b := ⟨_, rfl⟩
  obtain ⟨bw, hbw⟩ : ∃ b, decide (3 ≤ R.ticks + 1) = b := ⟨_, rfl⟩
  have HV : Hid (votesB R3 = (b3 || (b2 && bw))) := hide (by
    unfold votesB
    rw [hn.out, HI3.out.2.2.1, hbw, ← hb3, ← hb2]
    congr 1
    · rw [Bool.eq_iff_iff, beq_iff_eq, beq_iff_eq]; omega
    · congr 1
      rw [Bool.eq_iff_iff, beq_iff_eq, beq_iff_eq]; omega)
  have HW : Hid (decide (3 ≤ R3.ticks) = bw) := hide (by rw [HI3.out.2.2.1]; exact hbw)
  clear hhv hc hv hA
  go_wp2_with fail
  refine HHV.out.mono ?_
  rintro e w7 ⟨rfl, hB7⟩
  have HM7 := hide (HM6.out.below hB7)
  clear hB7 HHV HM6 c6
  cases b3
  · cases b2
    · cases bw
      · rw [Bool.false_and, Bool.or_false] at HV
        have hvb : votesB R3 = false := HV.out
        have hw3 : ¬ 3 ≤ R3.ticks := of_decide_eq_false HW.out
        have HSEC : Hid (secondR C R3 = fr0) := hide (by unfold secondR; rw [hvb, if_neg (by decide), if_neg hw3])
        have HSAY : Hid (saysB R3 = false) := hide (by unfold saysB; rw [hvb, HW.out]; rfl)
        clear hvb hw3
        go_wp2_with (first
          | (refine wpList_load_f rfl _ rfl w.heap.size rfl A HM7.out.one ?_)
          | (refine wpList_store_f rfl _ _ rfl w.heap.size A rfl rfl A HM7.out.one ?_)
          | (refine wpList_store_f rfl _ _ rfl (w.heap.size + 1) fr0 rfl rfl fr0 (HM7.out.row1 hpl rfl HG.out A).two ?_))
        have HM10 := hide ((HM7.out.row1 hpl rfl HG.out A).row2 hpl rfl HG.out fr0)
        generalize (w7.setRow w.heap.size (fCells A)).setRow (w.heap.size + 1) (fCells fr0) = w10 at HM10 ⊢
        refine bodyPost_ret (v := .tuple #[.agg (fCells A), .agg (fCells fr0), .bool false]) ?_ rfl ⟨by rw [HA.out, HSEC.out, HSAY.out], HM10.out.rp, HM10.out.old⟩
        exact results_cell2b Tryz.results71 rfl rfl (load_f HM10.out.one) (load_f HM10.out.two)
      · rw [Bool.false_and, Bool.or_false] at HV
        have hvb : votesB R3 = false := HV.out
        have hw3 : 3 ≤ R3.ticks := of_decide_eq_true HW.out
        have HSEC : Hid (secondR C R3 = (startF 4 (R3.id : Int) R3.cycle)) := hide (by unfold secondR; rw [hvb, if_neg (by decide), if_pos hw3])
        have HSAY : Hid (saysB R3 = true) := hide (by unfold saysB; rw [hvb, HW.out]; rfl)
        clear hvb hw3
        have hcl := asks_any p C R3 w7.drew HM7.out.rp.drew
        have HCL := hide hcl
        clear hcl
        go_wp2_with fail
        refine wp_region_held_drew (S := fun w' => FIs w' w.heap.size 35 A) (by kernel_rfl) HM7.out.one (fun hHeld => ?_)
        refine wpAnyH_take (i := 0) (oi := _) (v := _) rfl (by kernel_rfl) (by kernel_rfl) (by kernel_rfl) (fun _ _ _ h => h) (yields_f (by rfl) _ rfl _ rfl A (fun w h => h)) hHeld ?_
        simp only [Act.put, List.getElem_toArray, List.getElem_cons_zero, List.setIfInBounds_toArray, List.set_cons_succ, List.set_cons_zero]
        refine wpAnyH_take (i := 1) (oi := _) (v := .pointer (some ⟨p, 0, none⟩)) rfl (by kernel_rfl) (by kernel_rfl) (by kernel_rfl) (fun _ _ _ h => h) (Or.inl ⟨by rfl, fun w _ => by go_simp⟩) hHeld ?_
        simp only [Act.put, List.getElem_toArray, List.getElem_cons_succ, List.getElem_cons_zero, List.setIfInBounds_toArray, List.set_cons_succ, List.set_cons_zero]
        refine wpAnyH_ready (rs := [2]) (by kernel_rfl) (by simp) ?_
        refine AllReadyH.cons (o := _) rfl (fun K hK => ?_) AllReadyH.nil
        rw [if_pos (by rfl)]
        go_simp
        go_at_call 54
        refine HCL.out.mono ?_
        rintro e w8 ⟨rfl, hB8⟩
        dsimp only
        have hM8 := HM7.out.drew.below hB8
        have hM9 := hM8.row1 hpl rfl HG.out A
        have hM10 := hM9.row2 hpl rfl HG.out (startF 4 (R3.id : Int) R3.cycle)
        refine hK.out _ _ hM8.one (fun hHeld => ?_)
        clear hK K
        refine wpAnyH_ready (rs := [3]) (by kernel_rfl) (by simp) ?_
        refine AllReadyH.cons (o := _) rfl (fun K hK => ?_) AllReadyH.nil
        rw [if_pos (by rfl)]
        refine wp_store_row _ _ _ rfl _ (fCells A) rfl rfl _ _ hM8.one (by rw [infoFrame]; rfl) rfl (fOne _) ?_
        refine hK.out _ _ hM9.one (fun hHeld => ?_)
        clear hK K
        refine wpAnyH_ready (rs := [4]) (by kernel_rfl) (by simp) ?_
        refine AllReadyH.cons (o := _) rfl (fun K hK => ?_) AllReadyH.nil
        rw [if_pos (by rfl)]
        refine wp_store_row _ _ _ rfl _ (fCells (startF 4 (R3.id : Int) R3.cycle)) rfl rfl _ _ hM9.two (by rw [infoFrame]; rfl) rfl (fOne _) ?_
        refine hK.out _ _ hM10.one (fun hHeld => ?_)
        clear hK K
        refine wpAnyH_take (i := 5) (oi := _) (v := .bool true) rfl (by kernel_rfl) (by kernel_rfl) (by kernel_rfl) (fun _ _ _ h => h) (Or.inl ⟨by rfl, fun w _ => by go_simp⟩) hHeld ?_
        simp only [Act.put, List.getElem_toArray, List.getElem_cons_succ, List.getElem_cons_zero, List.setIfInBounds_toArray, List.set_cons_succ, List.set_cons_zero]
        refine wpAnyH_done (by kernel_rfl) ?_ _
        have HM10 := hide hM10
        clear hHeld hM8 hM9 hM10 hB8 HM7 HCL
        generalize (w8.setRow w.heap.size (fCells A)).setRow (w.heap.size + 1) (fCells (startF 4 (R3.id : Int) R3.cycle)) = w10 at HM10 ⊢
        go_wp2
        refine bodyPost_ret (v := .tuple #[.agg (fCells A), .agg (fCells (startF 4 (R3.id : Int) R3.cycle)), .bool true]) ?_ rfl ⟨by rw [HA.out, HSEC.out, HSAY.out], HM10.out.rp, HM10.out.old⟩
        exact results_cell2b Tryz.results71 rfl rfl (load_f HM10.out.one) (load_f HM10.out.two)
    · cases bw
      · rw [Bool.and_false, Bool.or_false] at HV
        have hvb : votesB R3 = false := HV.out
        have hw3 : ¬ 3 ≤ R3.ticks := of_decide_eq_false HW.out
        have HSEC : Hid (secondR C R3 = fr0) := hide (by unfold secondR; rw [hvb, if_neg (by decide), if_neg hw3])
        have HSAY : Hid (saysB R3 = false) := hide (by unfold saysB; rw [hvb, HW.out]; rfl)
        clear hvb hw3
        go_wp2_with (first
          | (refine wpList_load_f rfl _ rfl w.heap.size rfl A HM7.out.one ?_)
          | (refine wpList_store_f rfl _ _ rfl w.heap.size A rfl rfl A HM7.out.one ?_)
          | (refine wpList_store_f rfl _ _ rfl (w.heap.size + 1) fr0 rfl rfl fr0 (HM7.out.row1 hpl rfl HG.out A).two ?_))
        have HM10 := hide ((HM7.out.row1 hpl rfl HG.out A).row2 hpl rfl HG.out fr0)
        generalize (w7.setRow w.heap.size (fCells A)).setRow (w.heap.size + 1) (fCells fr0) = w10 at HM10 ⊢
        refine bodyPost_ret (v := .tuple #[.agg (fCells A), .agg (fCells fr0), .bool false]) ?_ rfl ⟨by rw [HA.out, HSEC.out, HSAY.out], HM10.out.rp, HM10.out.old⟩
        exact results_cell2b Tryz.results71 rfl rfl (load_f HM10.out.one) (load_f HM10.out.two)
      · rw [Bool.and_true, Bool.or_true] at HV
        have hvb : votesB R3 = true := HV.out
        have HSEC : Hid (secondR C R3 = (voteR C R3)) := hide (by unfold secondR; rw [hvb]; rfl)
        have HSAY : Hid (saysB R3 = true) := hide (by unfold saysB; rw [hvb]; rfl)
        clear hvb
        have hcl := vote_any p C R3 w7.drew HM7.out.rp.drew HSM.out HST.out
        have HCL := hide hcl
        clear hcl
        go_wp2_with fail
        refine wp_region_held_drew (S := fun w' => FIs w' w.heap.size 35 A) (by kernel_rfl) HM7.out.one (fun hHeld => ?_)
        refine wpAnyH_take (i := 0) (oi := _) (v := _) rfl (by kernel_rfl) (by kernel_rfl) (by kernel_rfl) (fun _ _ _ h => h) (yields_f (by rfl) _ rfl _ rfl A (fun w h => h)) hHeld ?_
        simp only [Act.put, List.getElem_toArray, List.getElem_cons_zero, List.setIfInBounds_toArray, List.set_cons_succ, List.set_cons_zero]
        refine wpAnyH_take (i := 1) (oi := _) (v := .pointer (some ⟨p, 0, none⟩)) rfl (by kernel_rfl) (by kernel_rfl) (by kernel_rfl) (fun _ _ _ h => h) (Or.inl ⟨by rfl, fun w _ => by go_simp⟩) hHeld ?_
        simp only [Act.put, List.getElem_toArray, List.getElem_cons_succ, List.getElem_cons_zero, List.setIfInBounds_toArray, List.set_cons_succ, List.set_cons_zero]
        refine wpAnyH_ready (rs := [2]) (by kernel_rfl) (by simp) ?_
        refine AllReadyH.cons (o := _) rfl (fun K hK => ?_) AllReadyH.nil
        rw [if_pos (by rfl)]
        go_simp
        go_at_call 90
        refine HCL.out.mono ?_
        rintro e w8 ⟨rfl, hB8⟩
        dsimp only
        have hM8 := HM7.out.drew.below hB8
        have hM9 := hM8.row1 hpl rfl HG.out A
        have hM10 := hM9.row2 hpl rfl HG.out (voteR C R3)
        refine hK.out _ _ hM8.one (fun hHeld => ?_)
        clear hK K
        refine wpAnyH_ready (rs := [3]) (by kernel_rfl) (by simp) ?_
        refine AllReadyH.cons (o := _) rfl (fun K hK => ?_) AllReadyH.nil
        rw [if_pos (by rfl)]
        refine wp_store_row _ _ _ rfl _ (fCells A) rfl rfl _ _ hM8.one (by rw [infoFrame]; rfl) rfl (fOne _) ?_
        refine hK.out _ _ hM9.one (fun hHeld => ?_)
        clear hK K
        refine wpAnyH_ready (rs := [4]) (by kernel_rfl) (by simp) ?_
        refine AllReadyH.cons (o := _) rfl (fun K hK => ?_) AllReadyH.nil
        rw [if_pos (by rfl)]
        refine wp_store_row _ _ _ rfl _ (fCells (voteR C R3)) rfl rfl _ _ hM9.two (by rw [infoFrame]; rfl) rfl (fOne _) ?_
        refine hK.out _ _ hM10.one (fun hHeld => ?_)
        clear hK K
        refine wpAnyH_take (i := 5) (oi := _) (v := .bool true) rfl (by kernel_rfl) (by kernel_rfl) (by kernel_rfl) (fun _ _ _ h => h) (Or.inl ⟨by rfl, fun w _ => by go_simp⟩) hHeld ?_
        simp only [Act.put, List.getElem_toArray, List.getElem_cons_succ, List.getElem_cons_zero, List.setIfInBounds_toArray, List.set_cons_succ, List.set_cons_zero]
        refine wpAnyH_done (by kernel_rfl) ?_ _
        have HM10 := hide hM10
        clear hHeld hM8 hM9 hM10 hB8 HM7 HCL
        generalize (w8.setRow w.heap.size (fCells A)).setRow (w.heap.size + 1) (fCells (voteR C R3)) = w10 at HM10 ⊢
        go_wp2
        refine bodyPost_ret (v := .tuple #[.agg (fCells A), .agg (fCells (voteR C R3)), .bool true]) ?_ rfl ⟨by rw [HA.out, HSEC.out, HSAY.out], HM10.out.rp, HM10.out.old⟩
        exact results_cell2b Tryz.results71 rfl rfl (load_f HM10.out.one) (load_f HM10.out.two)
  · rw [Bool.true_or] at HV
    have hvb : votesB R3 = true := HV.out
    have HSEC : Hid (secondR C R3 = (voteR C R3)) := hide (by unfold secondR; rw [hvb]; rfl)
    have HSAY : Hid (saysB R3 = true) := hide (by unfold saysB; rw [hvb]; rfl)
    clear hvb
    have hcl := vote_any p C R3 w7.drew HM7.out.rp.drew HSM.out HST.out
    have HCL := hide hcl
    clear hcl
    go_wp2_with fail
    refine wp_region_held_drew (S := fun w' => FIs w' w.heap.size 35 A) (by kernel_rfl) HM7.out.one (fun hHeld => ?_)
    refine wpAnyH_take (i := 0) (oi := _) (v := _) rfl (by kernel_rfl) (by kernel_rfl) (by kernel_rfl) (fun _ _ _ h => h) (yields_f (by rfl) _ rfl _ rfl A (fun w h => h)) hHeld ?_
    simp only [Act.put, List.getElem_toArray, List.getElem_cons_zero, List.setIfInBounds_toArray, List.set_cons_succ, List.set_cons_zero]
    refine wpAnyH_take (i := 1) (oi := _) (v := .pointer (some ⟨p, 0, none⟩)) rfl (by kernel_rfl) (by kernel_rfl) (by kernel_rfl) (fun _ _ _ h => h) (Or.inl ⟨by rfl, fun w _ => by go_simp⟩) hHeld ?_
    simp only [Act.put, List.getElem_toArray, List.getElem_cons_succ, List.getElem_cons_zero, List.setIfInBounds_toArray, List.set_cons_succ, List.set_cons_zero]
    refine wpAnyH_ready (rs := [2]) (by kernel_rfl) (by simp) ?_
    refine AllReadyH.cons (o := _) rfl (fun K hK => ?_) AllReadyH.nil
    rw [if_pos (by rfl)]
    go_simp
    go_at_call 90
    refine HCL.out.mono ?_
    rintro e w8 ⟨rfl, hB8⟩
    dsimp only
    have hM8 := HM7.out.drew.below hB8
    have hM9 := hM8.row1 hpl rfl HG.out A
    have hM10 := hM9.row2 hpl rfl HG.out (voteR C R3)
    refine hK.out _ _ hM8.one (fun hHeld => ?_)
    clear hK K
    refine wpAnyH_ready (rs := [3]) (by kernel_rfl) (by simp) ?_
    refine AllReadyH.cons (o := _) rfl (fun K hK => ?_) AllReadyH.nil
    rw [if_pos (by rfl)]
    refine wp_store_row _ _ _ rfl _ (fCells A) rfl rfl _ _ hM8.one (by rw [infoFrame]; rfl) rfl (fOne _) ?_
    refine hK.out _ _ hM9.one (fun hHeld => ?_)
    clear hK K
    refine wpAnyH_ready (rs := [4]) (by kernel_rfl) (by simp) ?_
    refine AllReadyH.cons (o := _) rfl (fun K hK => ?_) AllReadyH.nil
    rw [if_pos (by rfl)]
    refine wp_store_row _ _ _ rfl _ (fCells (voteR C R3)) rfl rfl _ _ hM9.two (by rw [infoFrame]; rfl) rfl (fOne _) ?_
    refine hK.out _ _ hM10.one (fun hHeld => ?_)
    clear hK K
    refine wpAnyH_take (i := 5) (oi := _) (v := .bool true) rfl (by kernel_rfl) (by kernel_rfl) (by kernel_rfl) (fun _ _ _ h => h) (Or.inl ⟨by rfl, fun w _ => by go_simp⟩) hHeld ?_
    simp only [Act.put, List.getElem_toArray, List.getElem_cons_succ, List.getElem_cons_zero, List.setIfInBounds_toArray, List.set_cons_succ, List.set_cons_zero]
    refine wpAnyH_done (by kernel_rfl) ?_ _
    have HM10 := hide hM10
    clear hHeld hM8 hM9 hM10 hB8 HM7 HCL
    generalize (w8.setRow w.heap.size (fCells A)).setRow (w.heap.size + 1) (fCells (voteR C R3)) = w10 at HM10 ⊢
    go_wp2
    refine bodyPost_ret (v := .tuple #[.agg (fCells A), .agg (fCells (voteR C R3)), .bool true]) ?_ rfl ⟨by rw [HA.out, HSEC.out, HSAY.out], HM10.out.rp, HM10.out.old⟩
    exact results_cell2b Tryz.results71 rfl rfl (load_f HM10.out.one) (load_f HM10.out.two)
end Go.Proofs.YtaablbmgagiajaaGreatDoor
