import Derived.Test.YtaablbmgagiajabGreatDoorGAD
import Derived.Test.YtaablbmgagiajabGreatDoorPlayRight
import Derived.Test.YtaablbmgagiajabGreatDoorCoreMath
/- The contract of a replica's Tick. -/
namespace Go.Proofs.YtaablbmgagiajabGreatDoor
open Go.RowKit Go.Deep

def tickS (C : RC) (R : RS) : RS := putR R.id (fitN C.s R.sx) (fitN C.n R.sy) (forgetR { R with ticks := R.ticks + 1 })
def sampleR (R : RS) : FR := inF 1 (R.id : Int) R.cycle ((R.smp R.id).c : Int) ((R.smp R.id).v : Int)
def votesB (R : RS) : Bool := haveTo R.smp 3 == 3 || (haveTo R.smp 3 == 2 && decide (3 ≤ R.ticks))
def secondR (C : RC) (R : RS) : FR := if votesB R then voteR C R else if 3 ≤ R.ticks then startF 4 (R.id : Int) R.cycle else fr0
def saysB (R : RS) : Bool := votesB R || decide (3 ≤ R.ticks)

structure TMid (w wz : World) (N p : Nat) (C : RC) (R : RS) (A B : FR) : Prop where
  old : Mod w wz (· = p)
  one : FIs wz N 36 A
  two : FIs wz (N + 1) 36 B
  rp : RpIs wz p C R
section
variable {w wz wx : World} {N p : Nat} {C : RC} {R R' : RS} {A B A' : FR}
theorem TMid.mod (h : TMid w wz N p C R A B) (hp : p < N) (hm : Mod wz wx (· = p)) (hr : RpIs wx p C R') : TMid w wx N p C R' A B :=
  ⟨h.old.then hm (fun _ _ e => e), (hm.block _ h.one.lt (by omega)).trans h.one, (hm.block _ h.two.lt (by omega)).trans h.two, hr⟩
theorem TMid.below (h : TMid w wz N p C R A B) (hB : Below wz.heap.size wz wx) : TMid w wx N p C R A B :=
  ⟨h.old.below hB, h.one.below h.one.lt hB, h.two.below h.two.lt hB, h.rp.below hB⟩
theorem TMid.far (h : TMid w wz N p C R A B) (hp : p < N) (hN : N = w.heap.size) (hg : C.pc < N ∧ C.g < N ∧ C.M < N ∧ C.g2 < N) {q : Nat} (hq : N ≤ q) (hm : Mod wz wx (· = q)) : Mod w wx (· = p) ∧ RpIs wx p C R := by
  obtain ⟨g1, g2, g3, g4⟩ := hg
  exact ⟨h.old.then hm (fun i hi e => by omega), h.rp.other hm ⟨by omega, by omega, by omega, by omega, by omega⟩⟩
theorem mod_row (w : World) (q : Nat) (cs : Array Value) : Mod w (w.setRow q cs) (· = q) := ⟨rfl, rfl, rfl, by simp [World.setRow], fun _ _ h => row_other _ _ _ _ h⟩
theorem TMid.row1 (h : TMid w wz N p C R A B) (hp : p < N) (hN : N = w.heap.size) (hg : C.pc < N ∧ C.g < N ∧ C.M < N ∧ C.g2 < N) (A' : FR) : TMid w (wz.setRow N (fCells A')) N p C R A' B := by
  obtain ⟨a, b⟩ := h.far hp hN hg (Nat.le_refl _) (mod_row wz N (fCells A'))
  exact ⟨a, h.one.row A', (row_other _ _ _ _ (by omega)).trans h.two, b⟩
theorem TMid.row2 (h : TMid w wz N p C R A B) (hp : p < N) (hN : N = w.heap.size) (hg : C.pc < N ∧ C.g < N ∧ C.M < N ∧ C.g2 < N) (B' : FR) : TMid w (wz.setRow (N + 1) (fCells B')) N p C R A B' := by
  obtain ⟨a, b⟩ := h.far hp hN hg (by omega) (mod_row wz (N + 1) (fCells B'))
  exact ⟨a, (row_other _ _ _ _ (by omega)).trans h.one, h.two.row B', b⟩
theorem TMid.put (h : TMid w wz N p C R A B) (hp : p < N) (hN : N = w.heap.size) (hg : C.pc < N ∧ C.g < N ∧ C.M < N ∧ C.g2 < N) {k : Nat} (hk : k < 23) (x : Int) : TMid w (wz.setCell ⟨N, k, none⟩ (.int .i64 x)) N p C R (upd A k x) B := by
  obtain ⟨a, b⟩ := h.far hp hN hg (Nat.le_refl _) ((Mod.refl wz (· = N)).set ⟨N, k, none⟩ (.int .i64 x) (fun _ => rfl))
  exact ⟨a, h.one.put hk x, (Below.heap_setCell _ _ _ _ (by show N + 1 ≠ N; omega)).trans h.two, b⟩
theorem TMid.drew (h : TMid w wz N p C R A B) : TMid w wz.drew N p C R A B := h.below (Below.refl _ _).drew
end
theorem results_cell2b {P : Program} {f : Func} {tmps : Array Value} {w : World} {a b k : Tmp} {t u : TypeId} {ad bd : Addr} {v x : Value} (hf : f.results = #[.cell a t, .cell b u, .tmp k]) (ha : tmps.getD a undef = .pointer (some ad)) (hb : tmps.getD b undef = .pointer (some bd)) (hl : (loadVar t ad).run P w = .ok v w) (hm : (loadVar u bd).run P w = .ok x w) :
    (results f tmps).run P w = .ok (.tuple #[v, x, tmps.getD k undef]) w := by
  have ha' : tmps[a]?.getD undef = .pointer (some ad) := by simpa using ha
  have hb' : tmps[b]?.getD undef = .pointer (some bd) := by simpa using hb
  simp only [results, hf]
  simp [asAddr, ha', hb', hl, hm]

structure RpOk (R : RS) : Prop where
  id : R.id < 3
  ticks : 0 ≤ R.ticks ∧ R.ticks < 900000
  came : ∀ k, k < 3 → 0 ≤ (R.smp k).came ∧ (R.smp k).came < 1000000
  smp : SmpOk R
  st : StOk R.st
theorem tick_smp {C : RC} {R : RS} (h : RpOk R) (hs : C.s ≤ 12) (hn : C.n ≤ 8) : SmpOk (tickS C R) := by
  have hf : ∀ k, k < 3 → (fgTo (R.ticks + 1) R.smp 3 k).c < 4096 ∧ (fgTo (R.ticks + 1) R.smp 3 k).v < 256 := by
    intro k hk
    rw [fgTo_at, if_pos hk]
    rcases (by unfold fgone; split; exact .inl rfl; exact .inr rfl : fgone (R.ticks + 1) (R.smp k) = smp0 ∨ fgone (R.ticks + 1) (R.smp k) = R.smp k) with e | e
    · rw [e]; exact ⟨by decide, by decide⟩
    · rw [e]; exact ⟨h.smp.c k hk, h.smp.v k hk⟩
  have hp : ∀ k, k < 3 → ((tickS C R).smp k).c < 4096 ∧ ((tickS C R).smp k).v < 256 := by
    intro k hk
    show (upd (fgTo (R.ticks + 1) R.smp 3) R.id _ k).c < 4096 ∧ (upd (fgTo (R.ticks + 1) R.smp 3) R.id _ k).v < 256
    by_cases e : k = R.id
    · rw [e, upd_same]
      exact ⟨Nat.lt_of_lt_of_le (fitN_lt _ _) (Nat.pow_le_pow_right (n := 2) (by decide) hs), Nat.lt_of_lt_of_le (fitN_lt _ _) (Nat.pow_le_pow_right (n := 2) (by decide) hn)⟩
    · rw [upd_other _ _ e]
      exact hf k hk
  exact ⟨fun k hk => (hp k hk).1, fun k hk => (hp k hk).2⟩

set_option maxHeartbeats 4000000 in
set_option maxRecDepth 20000 in
theorem rtick_any (p : Nat) (C : RC) (R : RS) (w : World) (h : RpIs w p C R) (hok : RpOk R) :
    Calls Tryz.prog 87 #[.pointer (some ⟨p, 0, none⟩)] w fun e w' =>
      e = .returned (.tuple #[.agg (fCells (sampleR (tickS C R))), .agg (fCells (secondR C (tickS C R))), .bool (saysB (tickS C R))]) ∧ RpIs w' p C (tickS C R) ∧ Mod w w' (· = p) := by
  have hpl := h.lt
  have hg : C.pc < w.heap.size ∧ C.g < w.heap.size ∧ C.M < w.heap.size ∧ C.g2 < w.heap.size := ⟨h.core.plt, h.core.glt, h.core.mlt, h.lt2⟩
  have hfew := h.core.few
  have hsm : SmpOk (tickS C R) := tick_smp hok (by omega) (by omega)
  have hid := hok.id
  have hid' : (R.id : Int) < 3 := by omega
  have htk : 0 ≤ R.ticks ∧ R.ticks < 900000 := hok.ticks
  obtain ⟨ht1, ht2⟩ := htk
  have c6 := h.c6
  have f6 := h.blk.free 6
  have hwr : wrap64 (R.ticks + 1) = R.ticks + 1 := IntWalk.wrap64_in _ (by omega)
  obtain ⟨R1, hR1⟩ : ∃ R1, Hid (R1 = { R with ticks := R.ticks + 1 }) := ⟨_, hide rfl⟩
  have hM1 : TMid w (((w.setCell ⟨p, 6, none⟩ (.int .i64 (R.ticks + 1))).alloc (.cells (fCells fr0) 36)).alloc (.cells (fCells fr0) 36)) w.heap.size p C R1 fr0 fr0 := by
    have h1 := h.tick (R.ticks + 1)
    rw [← hR1.out] at h1
    have hs : (w.setCell ⟨p, 6, none⟩ (.int .i64 (R.ticks + 1))).heap.size = w.heap.size := by simp [World.setCell]
    have hb : Below (w.setCell ⟨p, 6, none⟩ (.int .i64 (R.ticks + 1))).heap.size (w.setCell ⟨p, 6, none⟩ (.int .i64 (R.ticks + 1))) (((w.setCell ⟨p, 6, none⟩ (.int .i64 (R.ticks + 1))).alloc (.cells (fCells fr0) 36)).alloc (.cells (fCells fr0) 36)) := ((Below.refl _ _).alloc (Nat.le_refl _) _).alloc (by simp) _
    refine ⟨((Mod.refl w (· = p)).set ⟨p, 6, none⟩ _ (fun _ => rfl)).below hb, ?_, ?_, h1.below hb⟩
    · refine (Below.heap_alloc _ _ _ (by simp [hs])).trans ?_
      have := blk_new (w.setCell ⟨p, 6, none⟩ (.int .i64 (R.ticks + 1))) (.cells (fCells fr0) 36)
      rwa [hs] at this
    · have := blk_new ((w.setCell ⟨p, 6, none⟩ (.int .i64 (R.ticks + 1))).alloc (.cells (fCells fr0) 36)) (.cells (fCells fr0) 36)
      unfold FIs
      simpa [hs] using this
  have hR1i : R1.id = R.id ∧ R1.cycle = R.cycle ∧ R1.sx = R.sx ∧ R1.sy = R.sy ∧ R1.ticks = R.ticks + 1 ∧ R1.smp = R.smp ∧ R1.st = R.st := by rw [hR1.out]; exact ⟨rfl, rfl, rfl, rfl, rfl, rfl, rfl⟩
  have hfg := forget_any p C R1 _ hM1.rp (by rw [hR1i.2.2.2.2.1]; omega) (by rw [hR1i.2.2.2.2.2.1]; exact hok.came)
  obtain ⟨R2, hR2⟩ : ∃ R2, Hid (R2 = forgetR R1) := ⟨_, hide rfl⟩
  rw [← hR2.out] at hfg
  have hR2i : R2.id = R.id ∧ R2.cycle = R.cycle ∧ R2.sx = R.sx ∧ R2.sy = R.sy := by rw [hR2.out]; exact ⟨hR1i.1, hR1i.2.1, hR1i.2.2.1, hR1i.2.2.2.1⟩
  obtain ⟨R3, hR3⟩ : ∃ R3, Hid (R3 = tickS C R) := ⟨_, hide rfl⟩
  have hR3p : putR R.id (fitN C.s R.sx) (fitN C.n R.sy) R2 = R3 := by rw [hR3.out, hR2.out, hR1.out]; rfl
  have hR3i : R3.id = R.id ∧ R3.cycle = R.cycle ∧ R3.ticks = R.ticks + 1 ∧ R3.st = R.st ∧ R3.sx = R.sx ∧ R3.sy = R.sy := by rw [hR3.out]; exact ⟨rfl, rfl, rfl, rfl, rfl, rfl⟩
  rw [← hR3.out] at hsm ⊢
  have HSM := hide hsm
  have HST : Hid (StOk R3.st) := hide (by rw [hR3i.2.2.2.1]; exact hok.st)
  have HFG := hide hfg
  have HM1 := hide hM1
  have HG := hide hg
  have HI2 := hide hR2i
  have HI3 := hide hR3i
  have HP3 := hide hR3p
  clear h hok hM1 hfg hsm hg hR1i hR2i hR3i hR3p hR1 hR2 hR3 hfew
  go_enter Tryz.func87, Tryz.ntmps87
  go_wp2_with fail
  refine HFG.out.mono ?_
  rintro e w2 ⟨rfl, hr2, hm2⟩
  have hM2 := HM1.out.mod hpl hm2 hr2
  have HM2 := hide hM2
  have c0 : w2.cell? ⟨p, 0, none⟩ = some (.int .i64 (R.id : Int)) := by rw [hr2.c0, HI2.out.1]
  have c25 : w2.cell? ⟨p, 25, none⟩ = some (.int .i64 R.sx) := by rw [hr2.c25, HI2.out.2.2.1]
  have c26 : w2.cell? ⟨p, 26, none⟩ = some (.int .i64 R.sy) := by rw [hr2.c26, HI2.out.2.2.2]
  have hpt := put_any p C R2 R.id R.sx R.sy w2.drew hr2.drew hid
  rw [HP3.out] at hpt
  have HPT := hide hpt
  clear hM2 hr2 hm2 hpt HM1 HFG c6 f6 hwr HP3 HI2
  go_wp2_with fail
  refine wp_region_held_drew (S := fun w' => w'.cell? ⟨p, 0, none⟩ = some (.int .i64 (R.id : Int)) ∧ w'.cell? ⟨p, 25, none⟩ = some (.int .i64 R.sx) ∧ w'.cell? ⟨p, 26, none⟩ = some (.int .i64 R.sy)) (by kernel_rfl) ⟨c0, c25, c26⟩ (fun hHeld => ?_)
  refine wpAnyH_take (i := 0) (oi := _) (v := .pointer (some ⟨p, 0, none⟩)) rfl (by kernel_rfl) (by kernel_rfl) (by kernel_rfl) (fun _ _ _ h => h) (Or.inl ⟨by rfl, fun w _ => by go_simp⟩) hHeld ?_
  simp only [Act.put, List.getElem_toArray, List.getElem_cons_zero, List.setIfInBounds_toArray, List.set_cons_succ, List.set_cons_zero]
  refine wpAnyH_take (i := 1) (oi := _) (v := .pointer (some ⟨p, 0, none⟩)) rfl (by kernel_rfl) (by kernel_rfl) (by kernel_rfl) (fun _ _ _ h => h) (Or.inl ⟨by rfl, fun w _ => by go_simp⟩) hHeld ?_
  simp only [Act.put, List.getElem_toArray, List.getElem_cons_succ, List.getElem_cons_zero, List.setIfInBounds_toArray, List.set_cons_succ, List.set_cons_zero]
  refine wpAnyH_take (i := 2) (oi := _) (v := .pointer (some ⟨p, 0, none⟩)) rfl (by kernel_rfl) (by kernel_rfl) (by kernel_rfl) (fun _ _ _ h => h) (Or.inl ⟨by rfl, fun w _ => by go_simp⟩) hHeld ?_
  simp only [Act.put, List.getElem_toArray, List.getElem_cons_succ, List.getElem_cons_zero, List.setIfInBounds_toArray, List.set_cons_succ, List.set_cons_zero]
  refine wpAnyH_take (i := 3) (oi := _) (v := .pointer (some ⟨p, 0, none⟩)) rfl (by kernel_rfl) (by kernel_rfl) (by kernel_rfl) (fun _ _ _ h => h) (Or.inl ⟨by rfl, fun w _ => by go_simp⟩) hHeld ?_
  simp only [Act.put, List.getElem_toArray, List.getElem_cons_succ, List.getElem_cons_zero, List.setIfInBounds_toArray, List.set_cons_succ, List.set_cons_zero]
  refine wpAnyH_take (i := 4) (oi := _) (v := .int .i64 (R.id : Int)) rfl (by kernel_rfl) (by kernel_rfl) (by kernel_rfl) (fun _ _ _ h => h) (Or.inl ⟨by rfl, fun w h => by obtain ⟨h1, h2, h3⟩ := h; go_simp⟩) hHeld ?_
  simp only [Act.put, List.getElem_toArray, List.getElem_cons_succ, List.getElem_cons_zero, List.setIfInBounds_toArray, List.set_cons_succ, List.set_cons_zero]
  refine wpAnyH_take (i := 5) (oi := _) (v := .pointer (some ⟨p, 0, none⟩)) rfl (by kernel_rfl) (by kernel_rfl) (by kernel_rfl) (fun _ _ _ h => h) (Or.inl ⟨by rfl, fun w _ => by go_simp⟩) hHeld ?_
  simp only [Act.put, List.getElem_toArray, List.getElem_cons_succ, List.getElem_cons_zero, List.setIfInBounds_toArray, List.set_cons_succ, List.set_cons_zero]
  refine wpAnyH_take (i := 6) (oi := _) (v := .pointer (some ⟨p, 0, none⟩)) rfl (by kernel_rfl) (by kernel_rfl) (by kernel_rfl) (fun _ _ _ h => h) (Or.inl ⟨by rfl, fun w _ => by go_simp⟩) hHeld ?_
  simp only [Act.put, List.getElem_toArray, List.getElem_cons_succ, List.getElem_cons_zero, List.setIfInBounds_toArray, List.set_cons_succ, List.set_cons_zero]
  refine wpAnyH_take (i := 7) (oi := _) (v := .pointer (some ⟨p, 25, none⟩)) rfl (by kernel_rfl) (by kernel_rfl) (by kernel_rfl) (fun _ _ _ h => h) (Or.inl ⟨by rfl, fun w _ => by go_simp⟩) hHeld ?_
  simp only [Act.put, List.getElem_toArray, List.getElem_cons_succ, List.getElem_cons_zero, List.setIfInBounds_toArray, List.set_cons_succ, List.set_cons_zero]
  refine wpAnyH_take (i := 8) (oi := _) (v := .agg #[.int .i64 R.sx, .int .i64 R.sy]) rfl (by kernel_rfl) (by kernel_rfl) (by kernel_rfl) (fun _ _ _ h => h) (Or.inl ⟨by rfl, fun w h => by obtain ⟨h1, h2, h3⟩ := h; go_simp⟩) hHeld ?_
  simp only [Act.put, List.getElem_toArray, List.getElem_cons_succ, List.getElem_cons_zero, List.setIfInBounds_toArray, List.set_cons_succ, List.set_cons_zero]
  refine wpAnyH_ready (rs := [9]) (by kernel_rfl) (by simp) ?_
  refine AllReadyH.cons (o := _) rfl (fun K hK => ?_) AllReadyH.nil
  rw [if_pos (by rfl)]
  clear c0 c25 c26 hHeld
  go_simp
  go_at_call 138
  refine HPT.out.mono ?_
  rintro e w3 ⟨rfl, hr3, hm3⟩
  dsimp only
  have hM3 := HM2.out.drew.mod hpl hm3 hr3
  have e0 : w3.cell? ⟨p, 0, none⟩ = some (.int .i64 (R.id : Int)) := by rw [hr3.c0, HI3.out.1]
  have e25 : w3.cell? ⟨p, 25, none⟩ = some (.int .i64 R.sx) := by rw [hr3.c25, HI3.out.2.2.2.2.1]
  have e26 : w3.cell? ⟨p, 26, none⟩ = some (.int .i64 R.sy) := by rw [hr3.c26, HI3.out.2.2.2.2.2]
  refine hK.out _ _ ⟨e0, e25, e26⟩ (fun hHeld => ?_)
  clear hK K e0 e25 e26
  refine wpAnyH_done (by kernel_rfl) ?_ _
  have hfr := rframe_any p C R3 1 w3 hr3
  have HFR := hide hfr
  have HM3 := hide hM3
  clear hHeld hfr hM3 hr3 hm3 HPT HM2
  go_wp2_with fail
  refine HFR.out.mono ?_
  rintro e w4 ⟨rfl, hB4⟩
  have HM4 := hide (HM3.out.below hB4)
  clear hB4 HM3 HFR
  go_wp2_with (refine wpList_store_fl rfl _ _ rfl w.heap.size (startF 1 (R3.id : Int) R3.cycle) rfl rfl fr0 HM4.out.one ?_)
  intro w5 HF5
  have hM5 : TMid w w5 w.heap.size p C R3 (startF 1 (R3.id : Int) R3.cycle) fr0 := by
    obtain ⟨a1, a2, a3⟩ := HF5.out
    have hm : Mod w4 w5 (· = w.heap.size) := ⟨(a3 0 (Nat.zero_le _)).os, (a3 0 (Nat.zero_le _)).tape, (a3 0 (Nat.zero_le _)).output, (a3 0 (Nat.zero_le _)).size, fun k _ hk => a2 k hk⟩
    obtain ⟨b1, b2⟩ := HM4.out.far hpl rfl HG.out (Nat.le_refl _) hm
    exact ⟨b1, a1, (a2 _ (by omega)).trans HM4.out.two, b2⟩
  obtain ⟨c, hc⟩ : ∃ c, Hid ((R3.smp R.id).c = c) := ⟨_, hide rfl⟩
  obtain ⟨v, hv⟩ : ∃ v, Hid ((R3.smp R.id).v = v) := ⟨_, hide rfl⟩
  have d0 : w5.cell? ⟨p, 0, none⟩ = some (.int .i64 (R.id : Int)) := by rw [hM5.rp.c0, HI3.out.1]
  have d2 : w5.cell? ⟨p, 27 + R.id * 4 + 2, none⟩ = some (.int .i64 (c : Int)) := by rw [hM5.rp.s2 hid, hc.out]
  have d3 : w5.cell? ⟨p, 27 + R.id * 4 + 3, none⟩ = some (.int .i64 (v : Int)) := by rw [hM5.rp.s3 hid, hv.out]
  have hM6 := ((hM5.put hpl rfl HG.out (k := 3) (by omega) (c : Int)).put hpl rfl HG.out (k := 4) (by omega) (v : Int)).drew
  have k3 := hM5.one.at (k := 3) (by omega)
  have k4 := hM5.one.at (k := 4) (by omega)
  have f3 := hM5.one.free 3
  have f4 := hM5.one.free 4
  have g0 : ((w5.setCell ⟨w.heap.size, 3, none⟩ (.int .i64 (c : Int))).setCell ⟨w.heap.size, 4, none⟩ (.int .i64 (v : Int))).drew.cell? ⟨p, 0, none⟩ = some (.int .i64 (R.id : Int)) := by rw [hM6.rp.c0, HI3.out.1]
  have g2 : ((w5.setCell ⟨w.heap.size, 3, none⟩ (.int .i64 (c : Int))).setCell ⟨w.heap.size, 4, none⟩ (.int .i64 (v : Int))).drew.cell? ⟨p, 27 + R.id * 4 + 2, none⟩ = some (.int .i64 (c : Int)) := by rw [hM6.rp.s2 hid, hc.out]
  have g3 : ((w5.setCell ⟨w.heap.size, 3, none⟩ (.int .i64 (c : Int))).setCell ⟨w.heap.size, 4, none⟩ (.int .i64 (v : Int))).drew.cell? ⟨p, 27 + R.id * 4 + 3, none⟩ = some (.int .i64 (v : Int)) := by rw [hM6.rp.s3 hid, hv.out]
  have HM6 := hide hM6
  have G0 := hide (And.intro g0 (And.intro g2 g3))
  clear hM5 hM6 HF5 HM4 g0 g2 g3
  go_wp2_with fail
  refine wp_region_held_drew (S := fun w' => w'.cell? ⟨p, 0, none⟩ = some (.int .i64 (R.id : Int)) ∧ w'.cell? ⟨p, 27 + R.id * 4 + 2, none⟩ = some (.int .i64 (c : Int)) ∧ w'.cell? ⟨p, 27 + R.id * 4 + 3, none⟩ = some (.int .i64 (v : Int))) (by kernel_rfl) ⟨d0, d2, d3⟩ (fun hHeld => ?_)
  refine wpAnyH_take (i := 0) (oi := _) (v := .pointer (some ⟨p, 0, none⟩)) rfl (by kernel_rfl) (by kernel_rfl) (by kernel_rfl) (fun _ _ _ h => h) (Or.inl ⟨by rfl, fun w _ => by go_simp⟩) hHeld ?_
  simp only [Act.put, List.getElem_toArray, List.getElem_cons_zero, List.setIfInBounds_toArray, List.set_cons_succ, List.set_cons_zero]
  refine wpAnyH_take (i := 1) (oi := _) (v := .pointer (some ⟨p, 0, none⟩)) rfl (by kernel_rfl) (by kernel_rfl) (by kernel_rfl) (fun _ _ _ h => h) (Or.inl ⟨by rfl, fun w _ => by go_simp⟩) hHeld ?_
  simp only [Act.put, List.getElem_toArray, List.getElem_cons_succ, List.getElem_cons_zero, List.setIfInBounds_toArray, List.set_cons_succ, List.set_cons_zero]
  refine wpAnyH_take (i := 2) (oi := _) (v := .pointer (some ⟨p, 0, none⟩)) rfl (by kernel_rfl) (by kernel_rfl) (by kernel_rfl) (fun _ _ _ h => h) (Or.inl ⟨by rfl, fun w _ => by go_simp⟩) hHeld ?_
  simp only [Act.put, List.getElem_toArray, List.getElem_cons_succ, List.getElem_cons_zero, List.setIfInBounds_toArray, List.set_cons_succ, List.set_cons_zero]
  refine wpAnyH_take (i := 3) (oi := _) (v := .pointer (some ⟨p, 0, none⟩)) rfl (by kernel_rfl) (by kernel_rfl) (by kernel_rfl) (fun _ _ _ h => h) (Or.inl ⟨by rfl, fun w _ => by go_simp⟩) hHeld ?_
  simp only [Act.put, List.getElem_toArray, List.getElem_cons_succ, List.getElem_cons_zero, List.setIfInBounds_toArray, List.set_cons_succ, List.set_cons_zero]
  refine wpAnyH_take (i := 4) (oi := _) (v := .int .i64 (R.id : Int)) rfl (by kernel_rfl) (by kernel_rfl) (by kernel_rfl) (fun _ _ _ h => h) (Or.inl ⟨by rfl, fun w h => by obtain ⟨h1, h2, h3⟩ := h; go_simp⟩) hHeld ?_
  simp only [Act.put, List.getElem_toArray, List.getElem_cons_succ, List.getElem_cons_zero, List.setIfInBounds_toArray, List.set_cons_succ, List.set_cons_zero]
  refine wpAnyH_take (i := 5) (oi := _) (v := .pointer (some ⟨p, 0, none⟩)) rfl (by kernel_rfl) (by kernel_rfl) (by kernel_rfl) (fun _ _ _ h => h) (Or.inl ⟨by rfl, fun w _ => by go_simp⟩) hHeld ?_
  simp only [Act.put, List.getElem_toArray, List.getElem_cons_succ, List.getElem_cons_zero, List.setIfInBounds_toArray, List.set_cons_succ, List.set_cons_zero]
  refine wpAnyH_take (i := 6) (oi := _) (v := .pointer (some ⟨p, 27, none⟩)) rfl (by kernel_rfl) (by kernel_rfl) (by kernel_rfl) (fun _ _ _ h => h) (Or.inl ⟨by rfl, fun w _ => by go_simp⟩) hHeld ?_
  simp only [Act.put, List.getElem_toArray, List.getElem_cons_succ, List.getElem_cons_zero, List.setIfInBounds_toArray, List.set_cons_succ, List.set_cons_zero]
  refine wpAnyH_take (i := 7) (oi := _) (v := .pointer (some ⟨p, 27 + R.id * 4, none⟩)) rfl (by kernel_rfl) (by kernel_rfl) (by kernel_rfl) (fun _ _ _ h => h) (Or.inl ⟨by rfl, fun w _ => by go_simp⟩) hHeld ?_
  simp only [Act.put, List.getElem_toArray, List.getElem_cons_succ, List.getElem_cons_zero, List.setIfInBounds_toArray, List.set_cons_succ, List.set_cons_zero]
  refine wpAnyH_take (i := 8) (oi := _) (v := .pointer (some ⟨p, 27 + R.id * 4 + 2, none⟩)) rfl (by kernel_rfl) (by kernel_rfl) (by kernel_rfl) (fun _ _ _ h => h) (Or.inl ⟨by rfl, fun w _ => by go_simp⟩) hHeld ?_
  simp only [Act.put, List.getElem_toArray, List.getElem_cons_succ, List.getElem_cons_zero, List.setIfInBounds_toArray, List.set_cons_succ, List.set_cons_zero]
  refine wpAnyH_take (i := 9) (oi := _) (v := .agg #[.int .i64 (c : Int), .int .i64 (v : Int)]) rfl (by kernel_rfl) (by kernel_rfl) (by kernel_rfl) (fun _ _ _ h => h) (Or.inl ⟨by rfl, fun w h => by obtain ⟨h1, h2, h3⟩ := h; go_simp⟩) hHeld ?_
  simp only [Act.put, List.getElem_toArray, List.getElem_cons_succ, List.getElem_cons_zero, List.setIfInBounds_toArray, List.set_cons_succ, List.set_cons_zero]
  refine wpAnyH_take (i := 10) (oi := _) (v := .pointer (some ⟨w.heap.size, 3, none⟩)) rfl (by kernel_rfl) (by kernel_rfl) (by kernel_rfl) (fun _ _ _ h => h) (Or.inl ⟨by rfl, fun w _ => by go_simp⟩) hHeld ?_
  simp only [Act.put, List.getElem_toArray, List.getElem_cons_succ, List.getElem_cons_zero, List.setIfInBounds_toArray, List.set_cons_succ, List.set_cons_zero]
  refine wpAnyH_ready (rs := [11]) (by kernel_rfl) (by simp) ?_
  refine AllReadyH.cons (o := _) rfl (fun K hK => ?_) AllReadyH.nil
  rw [if_pos (by rfl)]
  clear d0 d2 d3 hHeld
  go_simp
  refine hK.out _ _ G0.out (fun hHeld => ?_)
  clear hK K
  refine wpAnyH_done (by kernel_rfl) ?_ _
  clear hHeld k3 k4 f3 f4 G0
  generalize ((w5.setCell ⟨w.heap.size, 3, none⟩ (.int .i64 (c : Int))).setCell ⟨w.heap.size, 4, none⟩ (.int .i64 (v : Int))).drew = w6 at HM6 ⊢
  obtain ⟨A, hA⟩ : ∃ A, Hid (upd (upd (startF 1 (R3.id : Int) R3.cycle) 3 (c : Int)) 4 (v : Int) = A) := ⟨_, hide rfl⟩
  rw [hA.out] at HM6
  have HA : Hid (fCells A = fCells (sampleR R3)) := hide (fCells_congr fun k _ => by
    unfold sampleR
    rw [← hA.out, HI3.out.1, hc.out, hv.out]
    unfold upd startF inF
    (repeat' split) <;> first | rfl | omega)
  have c6 : w6.cell? ⟨p, 6, none⟩ = some (.int .i64 (R.ticks + 1)) := by rw [HM6.out.rp.c6, HI3.out.2.2.1]
  have hhv := have_any p C R3 w6 HM6.out.rp
  have hn3 := haveTo_le R3.smp 3
  obtain ⟨n, hn⟩ : ∃ n, Hid (haveTo R3.smp 3 = n) := ⟨_, hide rfl⟩
  rw [hn.out] at hhv hn3
  have HHV := hide hhv
  obtain ⟨b3, hb3⟩ : ∃ b, ((n : Int) == 3) = b := ⟨_, rfl⟩
  obtain ⟨b2, hb2⟩ : ∃ b, ((n : Int) == 2) = b := ⟨_, rfl⟩
  obtain ⟨bw, hbw⟩ : ∃ b, decide (3 ≤ R.ticks + 1) = b := ⟨_, rfl⟩
  have HV : Hid (votesB R3 = (b3 || (b2 && bw))) := hide (by
    unfold votesB
    rw [hn.out, HI3.out.2.2.1, hbw, ← hb3, ← hb2]
    congr 1
    · rw [Bool.eq_iff_iff, beq_iff_eq, beq_iff_eq]; omega
    · congr 1
      rw [Bool.eq_iff_iff, beq_iff_eq, beq_iff_eq]; omega)
  have HW : Hid (decide (3 ≤ R3.ticks) = bw) := hide (by rw [HI3.out.2.2.1]; exact hbw)
  clear hhv hc hv hA
  go_wp2_with fail
  refine HHV.out.mono ?_
  rintro e w7 ⟨rfl, hB7⟩
  have HM7 := hide (HM6.out.below hB7)
  clear hB7 HHV HM6 c6
  cases b3
  · cases b2
    · cases bw
      · rw [Bool.false_and, Bool.or_false] at HV
        have hvb : votesB R3 = false := HV.out
        have hw3 : ¬ 3 ≤ R3.ticks := of_decide_eq_false HW.out
        have HSEC : Hid (secondR C R3 = fr0) := hide (by unfold secondR; rw [hvb, if_neg (by decide), if_neg hw3])
        have HSAY : Hid (saysB R3 = false) := hide (by unfold saysB; rw [hvb, HW.out]; rfl)
        clear hvb hw3
        go_wp2_with (first
          | (refine wpList_load_f rfl _ rfl w.heap.size rfl A HM7.out.one ?_)
          | (refine wpList_store_f rfl _ _ rfl w.heap.size A rfl rfl A HM7.out.one ?_)
          | (refine wpList_store_f rfl _ _ rfl (w.heap.size + 1) fr0 rfl rfl fr0 (HM7.out.row1 hpl rfl HG.out A).two ?_))
        have HM10 := hide ((HM7.out.row1 hpl rfl HG.out A).row2 hpl rfl HG.out fr0)
        generalize (w7.setRow w.heap.size (fCells A)).setRow (w.heap.size + 1) (fCells fr0) = w10 at HM10 ⊢
        refine bodyPost_ret (v := .tuple #[.agg (fCells A), .agg (fCells fr0), .bool false]) ?_ rfl ⟨by rw [HA.out, HSEC.out, HSAY.out], HM10.out.rp, HM10.out.old⟩
        exact results_cell2b Tryz.results87 rfl rfl (load_f HM10.out.one) (load_f HM10.out.two)
      · rw [Bool.false_and, Bool.or_false] at HV
        have hvb : votesB R3 = false := HV.out
        have hw3 : 3 ≤ R3.ticks := of_decide_eq_true HW.out
        have HSEC : Hid (secondR C R3 = (startF 4 (R3.id : Int) R3.cycle)) := hide (by unfold secondR; rw [hvb, if_neg (by decide), if_pos hw3])
        have HSAY : Hid (saysB R3 = true) := hide (by unfold saysB; rw [hvb, HW.out]; rfl)
        clear hvb hw3
        have hcl := asks_any p C R3 w7.drew HM7.out.rp.drew
        have HCL := hide hcl
        clear hcl
        go_wp2_with fail
        refine wp_region_held_drew (S := fun w' => FIs w' w.heap.size 36 A) (by kernel_rfl) HM7.out.one (fun hHeld => ?_)
        refine wpAnyH_take (i := 0) (oi := _) (v := _) rfl (by kernel_rfl) (by kernel_rfl) (by kernel_rfl) (fun _ _ _ h => h) (yields_f (by rfl) _ rfl _ rfl A (fun w h => h)) hHeld ?_
        simp only [Act.put, List.getElem_toArray, List.getElem_cons_zero, List.setIfInBounds_toArray, List.set_cons_succ, List.set_cons_zero]
        refine wpAnyH_take (i := 1) (oi := _) (v := .pointer (some ⟨p, 0, none⟩)) rfl (by kernel_rfl) (by kernel_rfl) (by kernel_rfl) (fun _ _ _ h => h) (Or.inl ⟨by rfl, fun w _ => by go_simp⟩) hHeld ?_
        simp only [Act.put, List.getElem_toArray, List.getElem_cons_succ, List.getElem_cons_zero, List.setIfInBounds_toArray, List.set_cons_succ, List.set_cons_zero]
        refine wpAnyH_ready (rs := [2]) (by kernel_rfl) (by simp) ?_
        refine AllReadyH.cons (o := _) rfl (fun K hK => ?_) AllReadyH.nil
        rw [if_pos (by rfl)]
        go_simp
        go_at_call 73
        refine HCL.out.mono ?_
        rintro e w8 ⟨rfl, hB8⟩
        dsimp only
        have hM8 := HM7.out.drew.below hB8
        have hM9 := hM8.row1 hpl rfl HG.out A
        have hM10 := hM9.row2 hpl rfl HG.out (startF 4 (R3.id : Int) R3.cycle)
        refine hK.out _ _ hM8.one (fun hHeld => ?_)
        clear hK K
        refine wpAnyH_ready (rs := [3]) (by kernel_rfl) (by simp) ?_
        refine AllReadyH.cons (o := _) rfl (fun K hK => ?_) AllReadyH.nil
        rw [if_pos (by rfl)]
        refine wp_store_row _ _ _ rfl _ (fCells A) rfl rfl _ _ hM8.one (by rw [infoFrame]; rfl) rfl (fOne _) ?_
        refine hK.out _ _ hM9.one (fun hHeld => ?_)
        clear hK K
        refine wpAnyH_ready (rs := [4]) (by kernel_rfl) (by simp) ?_
        refine AllReadyH.cons (o := _) rfl (fun K hK => ?_) AllReadyH.nil
        rw [if_pos (by rfl)]
        refine wp_store_row _ _ _ rfl _ (fCells (startF 4 (R3.id : Int) R3.cycle)) rfl rfl _ _ hM9.two (by rw [infoFrame]; rfl) rfl (fOne _) ?_
        refine hK.out _ _ hM10.one (fun hHeld => ?_)
        clear hK K
        refine wpAnyH_take (i := 5) (oi := _) (v := .bool true) rfl (by kernel_rfl) (by kernel_rfl) (by kernel_rfl) (fun _ _ _ h => h) (Or.inl ⟨by rfl, fun w _ => by go_simp⟩) hHeld ?_
        simp only [Act.put, List.getElem_toArray, List.getElem_cons_succ, List.getElem_cons_zero, List.setIfInBounds_toArray, List.set_cons_succ, List.set_cons_zero]
        refine wpAnyH_done (by kernel_rfl) ?_ _
        have HM10 := hide hM10
        clear hHeld hM8 hM9 hM10 hB8 HM7 HCL
        generalize (w8.setRow w.heap.size (fCells A)).setRow (w.heap.size + 1) (fCells (startF 4 (R3.id : Int) R3.cycle)) = w10 at HM10 ⊢
        go_wp2
        refine bodyPost_ret (v := .tuple #[.agg (fCells A), .agg (fCells (startF 4 (R3.id : Int) R3.cycle)), .bool true]) ?_ rfl ⟨by rw [HA.out, HSEC.out, HSAY.out], HM10.out.rp, HM10.out.old⟩
        exact results_cell2b Tryz.results87 rfl rfl (load_f HM10.out.one) (load_f HM10.out.two)
    · cases bw
      · rw [Bool.and_false, Bool.or_false] at HV
        have hvb : votesB R3 = false := HV.out
        have hw3 : ¬ 3 ≤ R3.ticks := of_decide_eq_false HW.out
        have HSEC : Hid (secondR C R3 = fr0) := hide (by unfold secondR; rw [hvb, if_neg (by decide), if_neg hw3])
        have HSAY : Hid (saysB R3 = false) := hide (by unfold saysB; rw [hvb, HW.out]; rfl)
        clear hvb hw3
        go_wp2_with (first
          | (refine wpList_load_f rfl _ rfl w.heap.size rfl A HM7.out.one ?_)
          | (refine wpList_store_f rfl _ _ rfl w.heap.size A rfl rfl A HM7.out.one ?_)
          | (refine wpList_store_f rfl _ _ rfl (w.heap.size + 1) fr0 rfl rfl fr0 (HM7.out.row1 hpl rfl HG.out A).two ?_))
        have HM10 := hide ((HM7.out.row1 hpl rfl HG.out A).row2 hpl rfl HG.out fr0)
        generalize (w7.setRow w.heap.size (fCells A)).setRow (w.heap.size + 1) (fCells fr0) = w10 at HM10 ⊢
        refine bodyPost_ret (v := .tuple #[.agg (fCells A), .agg (fCells fr0), .bool false]) ?_ rfl ⟨by rw [HA.out, HSEC.out, HSAY.out], HM10.out.rp, HM10.out.old⟩
        exact results_cell2b Tryz.results87 rfl rfl (load_f HM10.out.one) (load_f HM10.out.two)
      · rw [Bool.and_true, Bool.or_true] at HV
        have hvb : votesB R3 = true := HV.out
        have HSEC : Hid (secondR C R3 = (voteR C R3)) := hide (by unfold secondR; rw [hvb]; rfl)
        have HSAY : Hid (saysB R3 = true) := hide (by unfold saysB; rw [hvb]; rfl)
        clear hvb
        have hcl := vote_any p C R3 w7.drew HM7.out.rp.drew HSM.out HST.out
        have HCL := hide hcl
        clear hcl
        go_wp2_with fail
        refine wp_region_held_drew (S := fun w' => FIs w' w.heap.size 36 A) (by kernel_rfl) HM7.out.one (fun hHeld => ?_)
        refine wpAnyH_take (i := 0) (oi := _) (v := _) rfl (by kernel_rfl) (by kernel_rfl) (by kernel_rfl) (fun _ _ _ h => h) (yields_f (by rfl) _ rfl _ rfl A (fun w h => h)) hHeld ?_
        simp only [Act.put, List.getElem_toArray, List.getElem_cons_zero, List.setIfInBounds_toArray, List.set_cons_succ, List.set_cons_zero]
        refine wpAnyH_take (i := 1) (oi := _) (v := .pointer (some ⟨p, 0, none⟩)) rfl (by kernel_rfl) (by kernel_rfl) (by kernel_rfl) (fun _ _ _ h => h) (Or.inl ⟨by rfl, fun w _ => by go_simp⟩) hHeld ?_
        simp only [Act.put, List.getElem_toArray, List.getElem_cons_succ, List.getElem_cons_zero, List.setIfInBounds_toArray, List.set_cons_succ, List.set_cons_zero]
        refine wpAnyH_ready (rs := [2]) (by kernel_rfl) (by simp) ?_
        refine AllReadyH.cons (o := _) rfl (fun K hK => ?_) AllReadyH.nil
        rw [if_pos (by rfl)]
        go_simp
        go_at_call 140
        refine HCL.out.mono ?_
        rintro e w8 ⟨rfl, hB8⟩
        dsimp only
        have hM8 := HM7.out.drew.below hB8
        have hM9 := hM8.row1 hpl rfl HG.out A
        have hM10 := hM9.row2 hpl rfl HG.out (voteR C R3)
        refine hK.out _ _ hM8.one (fun hHeld => ?_)
        clear hK K
        refine wpAnyH_ready (rs := [3]) (by kernel_rfl) (by simp) ?_
        refine AllReadyH.cons (o := _) rfl (fun K hK => ?_) AllReadyH.nil
        rw [if_pos (by rfl)]
        refine wp_store_row _ _ _ rfl _ (fCells A) rfl rfl _ _ hM8.one (by rw [infoFrame]; rfl) rfl (fOne _) ?_
        refine hK.out _ _ hM9.one (fun hHeld => ?_)
        clear hK K
        refine wpAnyH_ready (rs := [4]) (by kernel_rfl) (by simp) ?_
        refine AllReadyH.cons (o := _) rfl (fun K hK => ?_) AllReadyH.nil
        rw [if_pos (by rfl)]
        refine wp_store_row _ _ _ rfl _ (fCells (voteR C R3)) rfl rfl _ _ hM9.two (by rw [infoFrame]; rfl) rfl (fOne _) ?_
        refine hK.out _ _ hM10.one (fun hHeld => ?_)
        clear hK K
        refine wpAnyH_take (i := 5) (oi := _) (v := .bool true) rfl (by kernel_rfl) (by kernel_rfl) (by kernel_rfl) (fun _ _ _ h => h) (Or.inl ⟨by rfl, fun w _ => by go_simp⟩) hHeld ?_
        simp only [Act.put, List.getElem_toArray, List.getElem_cons_succ, List.getElem_cons_zero, List.setIfInBounds_toArray, List.set_cons_succ, List.set_cons_zero]
        refine wpAnyH_done (by kernel_rfl) ?_ _
        have HM10 := hide hM10
        clear hHeld hM8 hM9 hM10 hB8 HM7 HCL
        generalize (w8.setRow w.heap.size (fCells A)).setRow (w.heap.size + 1) (fCells (voteR C R3)) = w10 at HM10 ⊢
        go_wp2
        refine bodyPost_ret (v := .tuple #[.agg (fCells A), .agg (fCells (voteR C R3)), .bool true]) ?_ rfl ⟨by rw [HA.out, HSEC.out, HSAY.out], HM10.out.rp, HM10.out.old⟩
        exact results_cell2b Tryz.results87 rfl rfl (load_f HM10.out.one) (load_f HM10.out.two)
  · rw [Bool.true_or] at HV
    have hvb : votesB R3 = true := HV.out
    have HSEC : Hid (secondR C R3 = (voteR C R3)) := hide (by unfold secondR; rw [hvb]; rfl)
    have HSAY : Hid (saysB R3 = true) := hide (by unfold saysB; rw [hvb]; rfl)
    clear hvb
    have hcl := vote_any p C R3 w7.drew HM7.out.rp.drew HSM.out HST.out
    have HCL := hide hcl
    clear hcl
    go_wp2_with fail
    refine wp_region_held_drew (S := fun w' => FIs w' w.heap.size 36 A) (by kernel_rfl) HM7.out.one (fun hHeld => ?_)
    refine wpAnyH_take (i := 0) (oi := _) (v := _) rfl (by kernel_rfl) (by kernel_rfl) (by kernel_rfl) (fun _ _ _ h => h) (yields_f (by rfl) _ rfl _ rfl A (fun w h => h)) hHeld ?_
    simp only [Act.put, List.getElem_toArray, List.getElem_cons_zero, List.setIfInBounds_toArray, List.set_cons_succ, List.set_cons_zero]
    refine wpAnyH_take (i := 1) (oi := _) (v := .pointer (some ⟨p, 0, none⟩)) rfl (by kernel_rfl) (by kernel_rfl) (by kernel_rfl) (fun _ _ _ h => h) (Or.inl ⟨by rfl, fun w _ => by go_simp⟩) hHeld ?_
    simp only [Act.put, List.getElem_toArray, List.getElem_cons_succ, List.getElem_cons_zero, List.setIfInBounds_toArray, List.set_cons_succ, List.set_cons_zero]
    refine wpAnyH_ready (rs := [2]) (by kernel_rfl) (by simp) ?_
    refine AllReadyH.cons (o := _) rfl (fun K hK => ?_) AllReadyH.nil
    rw [if_pos (by rfl)]
    go_simp
    go_at_call 140
    refine HCL.out.mono ?_
    rintro e w8 ⟨rfl, hB8⟩
    dsimp only
    have hM8 := HM7.out.drew.below hB8
    have hM9 := hM8.row1 hpl rfl HG.out A
    have hM10 := hM9.row2 hpl rfl HG.out (voteR C R3)
    refine hK.out _ _ hM8.one (fun hHeld => ?_)
    clear hK K
    refine wpAnyH_ready (rs := [3]) (by kernel_rfl) (by simp) ?_
    refine AllReadyH.cons (o := _) rfl (fun K hK => ?_) AllReadyH.nil
    rw [if_pos (by rfl)]
    refine wp_store_row _ _ _ rfl _ (fCells A) rfl rfl _ _ hM8.one (by rw [infoFrame]; rfl) rfl (fOne _) ?_
    refine hK.out _ _ hM9.one (fun hHeld => ?_)
    clear hK K
    refine wpAnyH_ready (rs := [4]) (by kernel_rfl) (by simp) ?_
    refine AllReadyH.cons (o := _) rfl (fun K hK => ?_) AllReadyH.nil
    rw [if_pos (by rfl)]
    refine wp_store_row _ _ _ rfl _ (fCells (voteR C R3)) rfl rfl _ _ hM9.two (by rw [infoFrame]; rfl) rfl (fOne _) ?_
    refine hK.out _ _ hM10.one (fun hHeld => ?_)
    clear hK K
    refine wpAnyH_take (i := 5) (oi := _) (v := .bool true) rfl (by kernel_rfl) (by kernel_rfl) (by kernel_rfl) (fun _ _ _ h => h) (Or.inl ⟨by rfl, fun w _ => by go_simp⟩) hHeld ?_
    simp only [Act.put, List.getElem_toArray, List.getElem_cons_succ, List.getElem_cons_zero, List.setIfInBounds_toArray, List.set_cons_succ, List.set_cons_zero]
    refine wpAnyH_done (by kernel_rfl) ?_ _
    have HM10 := hide hM10
    clear hHeld hM8 hM9 hM10 hB8 HM7 HCL
    generalize (w8.setRow w.heap.size (fCells A)).setRow (w.heap.size + 1) (fCells (voteR C R3)) = w10 at HM10 ⊢
    go_wp2
    refine bodyPost_ret (v := .tuple #[.agg (fCells A), .agg (fCells (voteR C R3)), .bool true]) ?_ rfl ⟨by rw [HA.out, HSEC.out, HSAY.out], HM10.out.rp, HM10.out.old⟩
    exact results_cell2b Tryz.results87 rfl rfl (load_f HM10.out.one) (load_f HM10.out.two)
end Go.Proofs.YtaablbmgagiajabGreatDoor

/- The contract of (*core.Core).Right. -/
namespace Go.Proofs.YtaablbmgagiajabGreatDoor
open Go.RowKit Go.Deep

/-- May a state be? -/
def rightAt (zs : List Int) (d : Int) (G : GS) (i : Nat) : Bool := if (u64 G.set).testBit i then rsB (rt zs i) (conf zs i) d G i else (G.used i == 0 && G.idle i == 0)
def allTo (f : Nat → Bool) : Nat → Bool
  | 0 => true
  | i + 1 => allTo f i && f i
theorem allTo_at {f : Nat → Bool} {n i : Nat} (h : f i = false) (hi : i < n) : allTo f n = false := by
  induction n with
  | zero => omega
  | succ n ih =>
    unfold allTo
    by_cases e : i = n
    · subst e; rw [h]; simp
    · rw [ih (by omega)]; rfl
theorem allTo_of {f : Nat → Bool} {n : Nat} (h : allTo f n = true) {i : Nat} (hi : i < n) : f i = true := by
  cases hf : f i
  · rw [allTo_at hf hi] at h; exact absurd h (by decide)
  · rfl
theorem allTo_iff {f g : Nat → Bool} {n : Nat} (h : ∀ i, i < n → f i = g i) : allTo f n = allTo g n := by
  induction n with
  | zero => rfl
  | succ n ih => unfold allTo; rw [ih fun i hi => h i (by omega), h n (by omega)]
def rightB (zs : List Int) (d : Int) (G : GS) : Bool := (decide (0 ≤ G.set) && decide (G.set < ((2 ^ zs.length : Nat) : Int))) && allTo (rightAt zs d G) 8

/-- What holds while a state is gone through. -/
structure TInv (w wr : World) (G : GS) : Prop where
  old : Below w.heap.size w wr
  st : GIs wr w.heap.size G
theorem TInv.below {w wr wx : World} {G : GS} (h : TInv w wr G) (hB : Below wr.heap.size wr wx) : TInv w wx G := ⟨h.old.trans (hB.mono h.old.size), h.st.below h.st.lt hB⟩

set_option maxHeartbeats 4000000 in
set_option maxRecDepth 20000 in
theorem right_any (p : Nat) (s : Int) (d n : Nat) (zs : List Int) (g cg M : Nat) (G : GS) (w : World) (hK : CoreIs w p s (d : Int) n zs g cg M) :
    Calls Tryz.prog 175 #[.pointer (some ⟨p, 0, none⟩), .agg (gCells G)] w fun e w' =>
      e = .returned (.bool (rightB zs d G)) ∧ Below w.heap.size w w' := by
  obtain ⟨f1, f8, fs1, fs2, fd1, fd2⟩ := hK.few
  have hI0 : TInv w (w.alloc (.cells (gCells G) 34)) G := ⟨(Below.refl _ _).alloc (Nat.le_refl _) _, blk_new _ _⟩
  have hpl := hK.plt
  have c0 : (gCells G)[0]? = some (.int .i64 G.set) := rfl
  have k1 : w.cell? ⟨p, 1, none⟩ = some (.slice (some ⟨g, 0, none⟩) n cg) := by rw [blk_cell hK.blk]; rfl
  obtain ⟨z, hz⟩ : ∃ z, Hid (G.set = z) := ⟨_, hide rfl⟩
  rw [hz.out] at c0
  have hrb : rightB zs d G = ((decide (0 ≤ z) && decide (z < ((2 ^ n : Nat) : Int))) && allTo (rightAt zs d G) 8) := by unfold rightB; rw [hz.out, hK.len]
  have HRB := hide hrb
  obtain ⟨P, hP⟩ : ∃ P : Nat, Hid (2 ^ n = P) := ⟨_, hide rfl⟩
  have eP : wrap64 (2 ^ n) = (P : Int) := by rw [wrap_two_pow n (by omega), hP.out]
  have HI0 := hide hI0
  have HK := hide hK
  clear hI0 hK hrb
  by_cases hneg : z < 0
  · have hn1 : decide (z < 0) = true := by simpa using hneg
    go_enter Tryz.func175, Tryz.ntmps175
    go_wp2_with fail
    go_quiet (fail)
    go_wp2
    go_ret
    refine ⟨ret_bool ?_, below_drewN' HI0.out.old _⟩
    rw [HRB.out, decide_eq_false (by omega)]; rfl
  have hn1 : decide (z < 0) = false := by simpa using hneg
  by_cases hbig : (P : Int) ≤ z
  · have hn2 : decide ((P : Int) ≤ z) = true := by simpa using hbig
    go_enter Tryz.func175, Tryz.ntmps175
    go_wp2_with fail
    go_quiet (fail)
    go_wp2
    go_ret
    refine ⟨ret_bool ?_, below_drewN' HI0.out.old _⟩
    rw [HRB.out, hP.out, decide_eq_false (show ¬ z < (P : Int) by omega)]; simp
  have hn2 : decide ((P : Int) ≤ z) = false := by simpa using hbig
  obtain ⟨m, rfl⟩ := Int.eq_ofNat_of_zero_le (show 0 ≤ z by omega)
  have hmP : m < 2 ^ n := by rw [hP.out]; omega
  have hm8 : m < 256 := Nat.lt_of_lt_of_le hmP (Nat.pow_le_pow_right (n := 2) (by decide) (show n ≤ 8 by omega))
  have hrb2 : rightB zs d G = allTo (rightAt zs d G) 8 := by rw [HRB.out, hP.out, decide_eq_true (show 0 ≤ (m : Int) by omega), decide_eq_true (show (m : Int) < (P : Int) by omega)]; rfl
  have HR2 := hide hrb2
  have hn3 : decide (P ≤ m) = false := by simp; omega
  clear hrb2 HRB hP
  go_enter Tryz.func175, Tryz.ntmps175
  go_wp2_with fail
  go_quiet (fail)
  go_wp2
  clear c0 k1 eP hneg hbig hn1 hn2 hn3
  go_loopw [21] (fun i wr => ∃ k : Nat, k ≤ 8 ∧ i = .int .i64 k ∧ TInv w wr G ∧ Hid (allTo (rightAt zs d G) k = true)) (fun i _ => 8 - (intOf i).toNat)
  case atStart => exact ⟨0, Nat.zero_le _, rfl, ⟨below_drewN' HI0.out.old _, HI0.out.st⟩, rfl⟩
  case round =>
    clear HI0
    obtain ⟨i, hi, rfl, hI, HA⟩ := hrel
    by_cases hlt : i < 8
    · have c0 := hI.st.set
      rw [hz.out] at c0
      have cu := hI.st.used hlt
      have ci := hI.st.idle hlt
      have hra : rightAt zs d G i = if m.testBit i then rsB (rt zs i) (conf zs i) d G i else (G.used i == 0 && G.idle i == 0) := by unfold rightAt; rw [hz.out, u64_nat m (by omega)]
      obtain ⟨u, hu⟩ : ∃ u, Hid (G.used i = u) := ⟨_, hide rfl⟩
      obtain ⟨t, ht⟩ : ∃ t, Hid (G.idle i = t) := ⟨_, hide rfl⟩
      rw [hu.out] at cu hra
      rw [ht.out] at ci hra
      have hhas := fun wx => chas_nat m i wx (by omega) (by omega)
      cases hb : m.testBit i
      · rw [hb] at hhas hra
        rw [if_neg (by decide)] at hra
        have HH := hide hhas
        have HRA := hide hra
        clear hhas hra hb
        cases hu0 : (u == 0)
        · have hu1 : (u != 0) = true := by rw [bne, hu0]; rfl
          go_wp2_with (go_at_call 197; refine (unhide HH _).mono ?_; rintro e w' ⟨rfl, hw⟩; obtain rfl := hw.symm)
          go_ret
          exact ⟨ret_bool (by rw [HR2.out, allTo_at (i := i) (by rw [HRA.out, hu0]; rfl) hlt]), hI.old⟩
        · have hu1 : (u != 0) = false := by rw [bne, hu0]; rfl
          cases ht0 : (t == 0)
          · have ht1 : (t != 0) = true := by rw [bne, ht0]; rfl
            go_wp2_with (go_at_call 197; refine (unhide HH _).mono ?_; rintro e w' ⟨rfl, hw⟩; obtain rfl := hw.symm)
            go_ret
            exact ⟨ret_bool (by rw [HR2.out, allTo_at (i := i) (by rw [HRA.out, hu0, ht0]; rfl) hlt]), hI.old⟩
          · have ht1 : (t != 0) = false := by rw [bne, ht0]; rfl
            go_wp2_with (go_at_call 197; refine (unhide HH _).mono ?_; rintro e w' ⟨rfl, hw⟩; obtain rfl := hw.symm)
            go_roundw
            case rel => exact ⟨i + 1, by omega, by go_num, hI, by rw [Hid, allTo, HA.out, HRA.out, hu0, ht0]; rfl⟩
            case measure => simp [intOf]; omega
      · have hin : i < n := by
          refine Nat.lt_of_not_le fun hge => ?_
          rw [Nat.testBit_lt_two_pow (Nat.lt_of_lt_of_le hmP (Nat.pow_le_pow_right (by decide) hge))] at hb
          exact absurd hb (by decide)
        rw [hb] at hhas hra
        rw [if_pos rfl] at hra
        have hrs := rightlySet_any p s d n zs g cg M G i wr (HK.out.below HK.out.plt HK.out.glt HK.out.mlt hI.old) hin
        rw [← hra] at hrs
        have HH := hide hhas
        have HRS := hide hrs
        have HI := hide hI
        have hgi := hI.st
        have HGI := hide hgi
        clear hhas hra hb hrs hI hgi
        cases hr : rightAt zs d G i
        · rw [hr] at HRS
          go_wp2_with (first
            | (go_at_call 197; refine (unhide HH _).mono ?_; rintro e w' ⟨rfl, hw⟩; obtain rfl := hw.symm)
            | (refine wpList_load_g rfl _ rfl w.heap.size rfl G HGI.out ?_)
            | (go_at_call 198; refine HRS.out.mono ?_; rintro e w2 ⟨rfl, hB2⟩))
          go_ret
          exact ⟨ret_bool (by rw [HR2.out, allTo_at (i := i) hr hlt]), (HI.out.below hB2).old⟩
        · rw [hr] at HRS
          go_wp2_with (first
            | (go_at_call 197; refine (unhide HH _).mono ?_; rintro e w' ⟨rfl, hw⟩; obtain rfl := hw.symm)
            | (refine wpList_load_g rfl _ rfl w.heap.size rfl G HGI.out ?_)
            | (go_at_call 198; refine HRS.out.mono ?_; rintro e w2 ⟨rfl, hB2⟩))
          go_roundw
          case rel => exact ⟨i + 1, by omega, by go_num, HI.out.below hB2, by rw [Hid, allTo, HA.out, hr]; rfl⟩
          case measure => simp [intOf]; omega
    · have hin : i = 8 := by omega
      subst hin
      go_wp2
      go_ret
      exact ⟨ret_bool (by rw [HR2.out, HA.out]), hI.old⟩

end Go.Proofs.YtaablbmgagiajabGreatDoor

/- A state that may be, taken over; what a step leaves may be. Plain facts. -/
namespace Go.Proofs.YtaablbmgagiajabGreatDoor
open Go.RowKit Go.Deep

/-- Routes that are set, and meet route i. -/
def hitTo (zs : List Int) (m i : Nat) : Nat → Bool
  | 0 => false
  | k + 1 => hitTo zs m i k || (m.testBit k && (k != i && (rt zs i &&& rt zs k != 0)))
theorem hit_iff (zs : List Int) (m i n : Nat) : hitTo zs m i n = true ↔ ∃ k, k < n ∧ m.testBit k = true ∧ k ≠ i ∧ rt zs i &&& rt zs k ≠ 0 := by
  induction n with
  | zero => simp [hitTo]
  | succ n ih =>
    unfold hitTo
    rw [Bool.or_eq_true, ih]
    simp only [Bool.and_eq_true, bne_iff_ne]
    constructor
    · rintro (⟨k, h1, h2⟩ | ⟨h1, h2, h3⟩)
      · exact ⟨k, by omega, h2⟩
      · exact ⟨n, by omega, h1, h2, h3⟩
    · rintro ⟨k, h1, h2, h3, h4⟩
      by_cases e : k = n
      · subst e; exact .inr ⟨h2, h3, h4⟩
      · exact .inl ⟨k, by omega, h2, h3, h4⟩
/-- A state that may be, as sets. -/
def gSt (G : GS) : St := ⟨G.set.toNat, fun k => (G.used k).toNat, G.idle⟩
theorem hit_conf {zs : List Int} {s d : Int} {i m : Nat} (hok : checkF s zs d = (0, -1)) (hi : i < zs.length) (hm : m < 2 ^ zs.length) : (m &&& conf zs i == 0) = !hitTo zs m i zs.length := by
  rw [Bool.eq_iff_iff, beq_iff_eq, Bool.not_eq_true', ← Bool.not_eq_true, hit_iff]
  constructor
  · rintro h0 ⟨k, hk, h1, h2, h3⟩
    have := congrArg (fun x => x.testBit k) h0
    simp only [Nat.testBit_and, Nat.zero_testBit, h1, Bool.true_and] at this
    have h4 := (conf_conf hok i k hi hk).2 ⟨fun e => h2 e.symm, h3⟩
    exact absurd (h4.symm.trans this) (by decide)
  · intro h
    apply Nat.eq_of_testBit_eq
    intro k
    rw [Nat.testBit_and, Nat.zero_testBit]
    by_cases hk : k < zs.length
    · cases h1 : m.testBit k
      · rfl
      · cases h2 : (conf zs i).testBit k
        · rfl
        · obtain ⟨a1, a2⟩ := (conf_conf hok i k hi hk).1 h2
          exact absurd ⟨k, hk, h1, fun e => a1 e.symm, a2⟩ h
    · rw [Nat.testBit_lt_two_pow (Nat.lt_of_lt_of_le hm (Nat.pow_le_pow_right (by decide) (by omega)))]; rfl

theorem wrap_zero (x : Nat) (h : x < 18446744073709551616) : (IntKind.i64.wrap (x : Int) == 0) = (x == 0) := by
  rw [Bool.eq_iff_iff, beq_iff_eq, beq_iff_eq]
  simp [IntKind.wrap, IntKind.bits, IntKind.signed]
  omega
theorem andnot_zero (u : Int) (r : Nat) (h : r < 9223372036854775808) : (bits .andNot .i64 u (r : Int) == 0) = (wo (u64 u) r == 0) := by
  show (IntKind.i64.wrap (((BitVec.ofInt 64 _ &&& ~~~ BitVec.ofInt 64 _).toNat : Nat) : Int) == 0) = _
  rw [andnot_toNat, ofInt64, ofInt64, u64_nat r h]
  exact wrap_zero _ (wo_lt _ (u64_lt u))

/-- What was used lies within the route: just if it is a set of sections that are there, each of them the route's. -/
def subTo (U r : Nat) : Nat → Bool := allTo fun k => !U.testBit k || r.testBit k
theorem sub_same {u : Int} {r sn : Nat} (h1 : -9223372036854775808 ≤ u) (h2 : u < 9223372036854775808) (hr : r < 2 ^ sn) (hs : sn ≤ 12) : (wo (u64 u) r == 0) = ((decide (0 ≤ u) && decide (u < ((2 ^ sn : Nat) : Int))) && subTo u.toNat r sn) := by
  have hp : 2 ^ sn ≤ 2 ^ 12 := Nat.pow_le_pow_right (by decide) hs
  rw [Bool.eq_iff_iff, beq_iff_eq]
  simp only [Bool.and_eq_true, decide_eq_true_eq]
  constructor
  · intro h
    have hle : u64 u ≤ r := by
      rw [wo_zero] at h
      have e : u64 u &&& r = u64 u := by
        apply Nat.eq_of_testBit_eq
        intro j
        rw [Nat.testBit_and]
        cases hj : (u64 u).testBit j
        · rfl
        · rw [h j hj]; rfl
      rw [← e]; exact Nat.and_le_right
    have hu : 0 ≤ u := by unfold u64 at hle; omega
    have he : u64 u = u.toNat := by unfold u64; omega
    rw [he] at hle h
    refine ⟨⟨hu, by omega⟩, ?_⟩
    rw [wo_zero] at h
    unfold subTo
    have : ∀ n, allTo (fun k => !(u.toNat).testBit k || r.testBit k) n = true := by
      intro n
      induction n with
      | zero => rfl
      | succ n ih =>
        unfold allTo
        rw [ih]
        cases hb : (u.toNat).testBit n
        · rfl
        · rw [h n hb]; rfl
    exact this sn
  · rintro ⟨⟨hu, hl⟩, ha⟩
    have he : u64 u = u.toNat := by unfold u64; omega
    rw [he, wo_zero]
    intro k hk
    by_cases hks : k < sn
    · have := allTo_of ha hks
      rw [hk] at this
      simpa using this
    · rw [Nat.testBit_lt_two_pow (show u.toNat < 2 ^ k from Nat.lt_of_lt_of_le (by omega) (Nat.pow_le_pow_right (n := 2) (by decide) (show sn ≤ k by omega)))] at hk
      exact absurd hk (by decide)

/-- Of a route that is set: what the program asks, and what the reference asks, is one. -/
theorem rs_same {zs : List Int} {sn d i m : Nat} {G : GS} (hok : checkF (sn : Int) zs (d : Int) = (0, -1)) (hi : i < zs.length) (hz : G.set = (m : Int)) (hm : m < 2 ^ zs.length) (h1 : -9223372036854775808 ≤ G.used i) (h2 : G.used i < 9223372036854775808) :
    rsB (rt zs i) (conf zs i) d G i = ((((!hitTo zs m i zs.length) && ((decide (0 ≤ G.used i) && decide (G.used i < ((2 ^ sn : Nat) : Int))) && subTo (G.used i).toNat (rt zs i) sn)) && inB (G.idle i) 0 1000) && !(G.used i == 0 && decide ((d : Int) < G.idle i))) := by
  have hr := range_pos hok
  unfold rangeB at hr
  simp only [Bool.and_eq_true, inB_iff] at hr
  obtain ⟨_, hr2, hr3, _⟩ := rt_in hok hi
  rw [Int.toNat_natCast] at hr2
  have hp : 2 ^ zs.length ≤ 2 ^ 8 := Nat.pow_le_pow_right (by decide) (by omega)
  have hcl : conf zs i < 2 ^ zs.length := confTo_lt zs i zs.length
  unfold rsB
  rw [hz, and_nat m _ (by omega) (by omega), nat_beq, hit_conf hok hi hm, andnot_zero _ _ (by omega), sub_same h1 h2 hr2 (by omega)]
  generalize hitTo zs m i zs.length = a
  generalize ((decide (0 ≤ G.used i) && decide (G.used i < ((2 ^ sn : Nat) : Int))) && subTo (G.used i).toNat (rt zs i) sn) = b
  generalize G.idle i = t
  cases hu : (G.used i == 0)
  · rw [if_neg (by decide)]
    unfold inB
    cases a <;> cases b <;> simp
  · rw [if_pos rfl]
    unfold inB
    have e : (decide (0 ≤ t) && decide (t ≤ (d : Int))) = ((decide (0 ≤ t) && decide (t ≤ 1000)) && !decide ((d : Int) < t)) := by
      rw [Bool.eq_iff_iff]
      simp
      omega
    cases a <;> cases b <;> simp
    rw [Bool.eq_iff_iff]
    simp
    omega

/-- Numbers that an int can be. -/
structure GIn (G : GS) : Prop where
  set : -9223372036854775808 ≤ G.set ∧ G.set < 9223372036854775808
  used : ∀ k, -9223372036854775808 ≤ G.used k ∧ G.used k < 9223372036854775808
  idle : ∀ k, -9223372036854775808 ≤ G.idle k ∧ G.idle k < 9223372036854775808

theorem gCells_congr {G G' : GS} (h0 : G.set = G'.set) (h : ∀ k, k < 8 → G.used k = G'.used k ∧ G.idle k = G'.idle k) : gCells G = gCells G' := by
  unfold gCells
  rw [h0, (h 0 (by decide)).1, (h 1 (by decide)).1, (h 2 (by decide)).1, (h 3 (by decide)).1, (h 4 (by decide)).1, (h 5 (by decide)).1, (h 6 (by decide)).1, (h 7 (by decide)).1,
    (h 0 (by decide)).2, (h 1 (by decide)).2, (h 2 (by decide)).2, (h 3 (by decide)).2, (h 4 (by decide)).2, (h 5 (by decide)).2, (h 6 (by decide)).2, (h 7 (by decide)).2]

/-- What is asked of a route that is set, taken apart. -/
theorem rs_parts {zs : List Int} {sn d i m : Nat} {G : GS} (hok : checkF (sn : Int) zs (d : Int) = (0, -1)) (hi : i < zs.length) (hz : G.set = (m : Int)) (hm : m < 2 ^ zs.length) (h1 : -9223372036854775808 ≤ G.used i) (h2 : G.used i < 9223372036854775808) :
    rsB (rt zs i) (conf zs i) d G i = true ↔ hitTo zs m i zs.length = false ∧ 0 ≤ G.used i ∧ wo (G.used i).toNat (rt zs i) = 0 ∧ (0 ≤ G.idle i ∧ G.idle i ≤ 1000) ∧ (G.used i = 0 → G.idle i ≤ (d : Int)) := by
  have hr := range_pos hok
  unfold rangeB at hr
  simp only [Bool.and_eq_true, inB_iff] at hr
  obtain ⟨_, hr2, hr3, _⟩ := rt_in hok hi
  rw [Int.toNat_natCast] at hr2
  rw [rs_same hok hi hz hm h1 h2, ← sub_same h1 h2 hr2 (by omega)]
  simp only [Bool.and_eq_true, Bool.not_eq_true', inB_iff, beq_iff_eq, Bool.and_eq_false_iff, decide_eq_false_iff_not, beq_eq_false_iff_ne]
  constructor
  · rintro ⟨⟨⟨a, b⟩, c⟩, e⟩
    have hs := sub_same h1 h2 hr2 (by omega)
    rw [b] at hs
    simp only [beq_self_eq_true] at hs
    have hs' := hs.symm
    simp only [Bool.and_eq_true, decide_eq_true_eq] at hs'
    have hu : u64 (G.used i) = (G.used i).toNat := by unfold u64; omega
    rw [hu] at b
    refine ⟨a, hs'.1.1, b, c, fun h0 => ?_⟩
    rcases e with e | e
    · exact absurd h0 e
    · omega
  · rintro ⟨a, h0, b, c, e⟩
    have hu : u64 (G.used i) = (G.used i).toNat := by unfold u64; omega
    refine ⟨⟨⟨a, by rw [hu]; exact b⟩, c⟩, ?_⟩
    by_cases h : G.used i = 0
    · right; have := e h; omega
    · left; exact h

theorem right_state {zs : List Int} {sn d n : Nat} {G : GS} (hok : checkF (sn : Int) zs (d : Int) = (0, -1)) (hn : zs.length = n) (hg : GIn G) (h8 : ∀ k, 8 ≤ k → G.used k = 0 ∧ G.idle k = 0) (hR : rightB zs d G = true) : gCells G = stCells (gSt G) ∧ Good (rt zs) n 1000 (gSt G) := by
  have hr := range_pos hok
  unfold rangeB at hr
  simp only [Bool.and_eq_true, inB_iff] at hr
  unfold rightB at hR
  simp only [Bool.and_eq_true, decide_eq_true_eq] at hR
  obtain ⟨⟨h1, h2⟩, h3⟩ := hR
  obtain ⟨m, hm⟩ := Int.eq_ofNat_of_zero_le h1
  have hm2 : m < 2 ^ zs.length := by omega
  have hp : 2 ^ zs.length ≤ 2 ^ 8 := Nat.pow_le_pow_right (by decide) (by omega)
  have hgm : (gSt G).set = m := by show G.set.toNat = m; rw [hm]; rfl
  have hu64 : u64 G.set = m := by rw [hm, u64_nat m (by omega)]
  have hset : ∀ k, m.testBit k = true → k < zs.length ∧ (hitTo zs m k zs.length = false ∧ 0 ≤ G.used k ∧ wo (G.used k).toNat (rt zs k) = 0 ∧ (0 ≤ G.idle k ∧ G.idle k ≤ 1000) ∧ (G.used k = 0 → G.idle k ≤ (d : Int))) := by
    intro k hk
    have hkz : k < zs.length := by
      refine Nat.lt_of_not_le fun hge => ?_
      rw [Nat.testBit_lt_two_pow (Nat.lt_of_lt_of_le hm2 (Nat.pow_le_pow_right (by decide) hge))] at hk
      exact absurd hk (by decide)
    have := allTo_of h3 (show k < 8 by omega)
    unfold rightAt at this
    rw [hu64, hk, if_pos rfl] at this
    exact ⟨hkz, (rs_parts hok hkz hm hm2 (hg.used k).1 (hg.used k).2).1 this⟩
  have hun : ∀ k, m.testBit k = false → G.used k = 0 ∧ G.idle k = 0 := by
    intro k hk
    by_cases hk8 : k < 8
    · have := allTo_of h3 hk8
      unfold rightAt at this
      rw [hu64, hk, if_neg (by decide)] at this
      simpa using this
    · exact h8 k (by omega)
  refine ⟨?_, ?_, ?_, ?_, ?_, ?_⟩
  · rw [← stG_cells]
    refine gCells_congr ?_ fun k hk => ⟨?_, rfl⟩
    · show G.set = ((G.set.toNat : Nat) : Int); omega
    · show G.used k = (((G.used k).toNat : Nat) : Int)
      cases hb : m.testBit k
      · rw [(hun k hb).1]; rfl
      · have := (hset k hb).2.2.1; omega
  · rw [hgm, ← hn]; exact hm2
  · intro i k hi hk hik h4 h5
    rw [hgm] at h4 h5
    have := (hset i h4).2.1
    by_cases h0 : rt zs i &&& rt zs k = 0
    · exact h0
    · have := (hit_iff zs m i zs.length).2 ⟨k, by omega, h5, fun e => hik e.symm, h0⟩
      rw [(hset i h4).2.1] at this
      exact absurd this (by decide)
  · intro k _
    show wo (G.used k).toNat (rt zs k) = 0
    cases hb : m.testBit k
    · rw [(hun k hb).1]; simp [wo]
    · exact (hset k hb).2.2.2.1
  · intro k hk
    have hb : m.testBit k = false := by
      rcases hk with hk | hk
      · exact Nat.testBit_lt_two_pow (Nat.lt_of_lt_of_le hm2 (Nat.pow_le_pow_right (by decide) (by omega)))
      · rw [hgm] at hk; exact hk
    exact ⟨by show (G.used k).toNat = 0; rw [(hun k hb).1]; rfl, (hun k hb).2⟩
  · intro k
    show 0 ≤ G.idle k ∧ G.idle k ≤ 1000
    cases hb : m.testBit k
    · rw [(hun k hb).2]; omega
    · exact (hset k hb).2.2.2.2.1

/-- A route that is set, and was not used: it is not idle beyond the Delay. -/
theorem next_idle {R C : Nat → Nat} {n d c v : Nat} {B : Int} {S : St} (h : Good R n B S) {k : Nat} (hk : k < n) (hu : (nextF R C n d c v S).used k = 0) : (nextF R C n d c v S).idle k ≤ (d : Int) := by
  have hu' : (letTo R d c v S n).used k = 0 := hu
  show (letTo R d c v S n).idle k ≤ (d : Int)
  rw [(letTo_at R d c v S n k hk).2.1] at hu'
  rw [(letTo_at R d c v S n k hk).2.2]
  unfold letOne at hu' ⊢
  by_cases hs : S.set.testBit k = true
  · rw [if_pos hs] at hu' ⊢
    cases hl : leavesB (R k) c (usedOf (R k) c (S.used k)) d (idleOf v k (S.idle k))
    · rw [hl, if_neg (by decide)] at hu'
      rw [if_neg (by decide)]
      have e : usedOf (R k) c (S.used k) = 0 := by rw [← upd_same S.used k (usedOf (R k) c (S.used k))]; exact hu'
      show upd _ _ _ _ ≤ _
      rw [upd_same]
      unfold leavesB at hl
      rw [e] at hl
      simp at hl
      omega
    · rw [if_pos rfl]
      show upd _ _ _ _ ≤ _
      rw [upd_same]; omega
  · rw [if_neg hs]
    have := (h.rest k (.inr (by simpa using hs))).2
    omega

theorem next_right {zs : List Int} {sn d n c v : Nat} {B : Int} {S : St} (hok : checkF (sn : Int) zs (d : Int) = (0, -1)) (hn : zs.length = n) (hG : Good (rt zs) n B S) (hi : ∀ k, k < n → (nextF (rt zs) (conf zs) n d c v S).idle k < 1000) : rightB zs d (stG (nextF (rt zs) (conf zs) n d c v S)) = true := by
  have hN := next_good (d := d) (c := c) (v := v) (by rw [← hn]; exact conf_conf hok) hG
  have hx := fun k hk => next_idle (C := conf zs) (d := d) (c := c) (v := v) hG (k := k) hk
  generalize nextF (rt zs) (conf zs) n d c v S = X at hN hx hi ⊢
  have hr := range_pos hok
  unfold rangeB at hr
  simp only [Bool.and_eq_true, inB_iff] at hr
  have hs := hN.set
  have hp : 2 ^ n ≤ 2 ^ 8 := Nat.pow_le_pow_right (by decide) (by omega)
  unfold rightB
  have e0 : (stG X).set = (X.set : Int) := rfl
  rw [e0, decide_eq_true (show 0 ≤ (X.set : Int) by omega), decide_eq_true (show (X.set : Int) < ((2 ^ zs.length : Nat) : Int) by rw [hn]; omega)]
  have hall : ∀ m, m ≤ 8 → allTo (rightAt zs d (stG X)) m = true := by
    intro m
    induction m with
    | zero => intro _; rfl
    | succ m ih =>
      intro hm
      unfold allTo
      rw [ih (by omega)]
      unfold rightAt
      rw [e0, u64_nat _ (by omega)]
      cases hb : X.set.testBit m
      · have := hN.rest m (.inr hb)
        rw [if_neg (by decide)]
        show (true && (((X.used m : Nat) : Int) == 0 && X.idle m == 0)) = true
        rw [this.1, this.2]; rfl
      · have hmn : m < n := by
          refine Nat.lt_of_not_le fun hge => ?_
          rw [Nat.testBit_lt_two_pow (Nat.lt_of_lt_of_le hs (Nat.pow_le_pow_right (by decide) hge))] at hb
          exact absurd hb (by decide)
        rw [if_pos rfl, Bool.true_and]
        have hul : X.used m < 4096 := (good_ok hok (B := 1000000000) (by rw [hn]; exact ⟨hN.set, hN.apart, hN.used, hN.rest, fun k => by
          by_cases hk : k < n
          · have := hi k hk; have := hN.idle k; omega
          · have := (hN.rest k (.inl (by omega))).2; omega⟩) (Int.le_refl _)).used m
        refine (rs_parts hok (by omega) e0 (by rw [hn]; exact hs) (by show -9223372036854775808 ≤ ((X.used m : Nat) : Int); omega) (by show ((X.used m : Nat) : Int) < _; omega)).2 ⟨?_, by show 0 ≤ ((X.used m : Nat) : Int); omega, ?_, ⟨(hN.idle m).1, by have := hi m hmn; show X.idle m ≤ 1000; omega⟩, fun h0 => hx m hmn ?_⟩
        · cases hh : hitTo zs X.set m zs.length
          · rfl
          · obtain ⟨k, a1, a2, a3, a4⟩ := (hit_iff _ _ _ _).1 hh
            exact absurd (hN.apart m k hmn (by omega) (fun e => a3 e.symm) hb a2) a4
        · show wo (((X.used m : Nat) : Int)).toNat (rt zs m) = 0
          rw [Int.toNat_natCast]; exact hN.used m hmn
        · have : ((X.used m : Nat) : Int) = 0 := h0
          omega
  rw [hall 8 (Nat.le_refl _)]
  rfl


end Go.Proofs.YtaablbmgagiajabGreatDoor
