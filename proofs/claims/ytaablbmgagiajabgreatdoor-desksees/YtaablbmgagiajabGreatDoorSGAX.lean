import Derived.Test.YtaablbmgagiajabGreatDoorSGAW
import Derived.Test.YtaablbmgagiajabGreatDoorSGAN
import Derived.BigQuiet
import Derived.Deep.QuietTactic
import Derived.Test.YtaablbmgagiajabGreatDoorSMost
namespace Go.Proofs.YtaablbmgagiajabGreatDoor
open Go.RowKit Go.Deep
def sy0 (win : Nat) : SY := ⟨fun k => new0 k, vs0 win, []⟩
structure NwInv (w wr : World) (L : RC) (p g0 c0 k : Nat) (rp : Nat → Nat) (C : Nat → RC) (B : Nat → Nat) : Prop where
  old : Below w.heap.size w wr
  blk : wr.heap[p]? = some (.cells (syC L g0 c0 (fun j => if j < k then .pointer (some ⟨rp j, 0, none⟩) else .pointer none) (.pointer none) (.slice none 0 0) (.int .i64 0)) 90 (0, 0))
  row : Row wr g0 0 L.zs
  lo0 : w.heap.size ≤ g0 ∧ g0 < p
  cap : L.n ≤ c0
  rp : ∀ j, j < k → RpIs wr (rp j) (C j) (new0 j) ∧ LineIs (C j) L ∧ FromB (B j) (rp j) (C j) ∧ (rp j < B (j + 1) ∧ (C j).pc < B (j + 1) ∧ (C j).g < B (j + 1) ∧ (C j).M < B (j + 1) ∧ (C j).g2 < B (j + 1))
  B0 : p < B 0
  Bk : B k ≤ wr.heap.size
  mono : ∀ j, j < k → B j ≤ B (j + 1)
theorem NwInv.Ble {w wr : World} {L : RC} {p g0 c0 k : Nat} {rp : Nat → Nat} {C : Nat → RC} {B : Nat → Nat} (h : NwInv w wr L p g0 c0 k rp C B) {i : Nat} : ∀ {j : Nat}, i ≤ j → j ≤ k → B i ≤ B j
  | 0, hij, _ => by rw [show i = 0 by omega]; exact Nat.le_refl _
  | j + 1, hij, hj => by
    by_cases e : i = j + 1
    · rw [e]; exact Nat.le_refl _
    · exact Nat.le_trans (h.Ble (i := i) (j := j) (by omega) (by omega)) (h.mono j (by omega))
theorem NwInv.next {w wr w' : World} {L : RC} {p g0 c0 k : Nat} {rp : Nat → Nat} {C : Nat → RC} {B : Nat → Nat} (h : NwInv w wr L p g0 c0 k rp C B) (hw : w.heap.size ≤ p) {q : Nat} {C1 : RC} (hF : FromB wr.heap.size q C1) (hl : LineIs C1 L) (hR : RpIs w' q C1 (new0 k))
    (hb : w'.heap[p]? = some (.cells (syC L g0 c0 (upd (fun j => if j < k then .pointer (some ⟨rp j, 0, none⟩) else .pointer none) k (.pointer (some ⟨q, 0, none⟩))) (.pointer none) (.slice none 0 0) (.int .i64 0)) 90 (0, 0))) (hm : Mod wr w' (· = p)) :
    NwInv w w' L p g0 c0 (k + 1) (upd rp k q) (upd C k C1) (upd (upd B k wr.heap.size) (k + 1) w'.heap.size) := by
  have hpl := blk_lt h.blk
  have hBk := h.Bk
  have hB0 := h.B0
  have hg := h.lo0
  have hBle : ∀ j, j ≤ k → B j ≤ wr.heap.size := fun j hj => Nat.le_trans (h.Ble hj (Nat.le_refl _)) hBk
  have hpB : ∀ j, j ≤ k → p < B j := fun j hj => Nat.lt_of_lt_of_le hB0 (h.Ble (Nat.zero_le _) hj)
  have hub : ∀ j, j < k → upd (upd B k wr.heap.size) (k + 1) w'.heap.size j = B j := fun j hj => by rw [upd_other _ _ (by omega), upd_other _ _ (by omega)]
  have huk : upd (upd B k wr.heap.size) (k + 1) w'.heap.size k = wr.heap.size := by rw [upd_other _ _ (by omega), upd_same]
  have huk1 : upd (upd B k wr.heap.size) (k + 1) w'.heap.size (k + 1) = w'.heap.size := upd_same _ _ _
  have hfn : (fun j => if j < k + 1 then Value.pointer (some ⟨upd rp k q j, 0, none⟩) else .pointer none) = upd (fun j => if j < k then .pointer (some ⟨rp j, 0, none⟩) else .pointer none) k (.pointer (some ⟨q, 0, none⟩)) := by
    funext j
    unfold upd
    by_cases e : j = k
    · rw [if_pos e, if_pos e, if_pos (by omega)]
    · rw [if_neg e, if_neg e]
      show (if j < k + 1 then _ else _) = (if j < k then _ else _)
      by_cases e2 : j < k
      · rw [if_pos e2, if_pos (by omega)]
      · rw [if_neg e2, if_neg (by omega)]
  refine ⟨⟨hm.os.trans h.old.os, hm.tape.trans h.old.tape, hm.output.trans h.old.output, Nat.le_trans h.old.size hm.size, fun j hj => (hm.block j (Nat.lt_of_lt_of_le hj h.old.size) (by omega)).trans (h.old.block j hj)⟩, by rw [hfn]; exact hb, fun i hi => (World.cell?_of_block (w := wr) (hm.block g0 (by omega) (by omega))).trans (h.row i hi), h.lo0, h.cap, fun j hj => ?_, ?_, by rw [huk1]; exact Nat.le_refl _, fun j hj => ?_⟩
  · by_cases e : j = k
    · subst e
      rw [upd_same, upd_same, huk, huk1]
      exact ⟨hR, hl, hF, hR.lt, hR.core.plt, hR.core.glt, hR.core.mlt, hR.lt2⟩
    · obtain ⟨a1, a2, a3, a4, a5, a6, a7, a8⟩ := h.rp j (by omega)
      rw [upd_other _ _ e, upd_other _ _ e, hub j (by omega)]
      have hj1 : B (j + 1) ≤ upd (upd B k wr.heap.size) (k + 1) w'.heap.size (j + 1) := by
        by_cases e2 : j + 1 = k
        · rw [e2, huk]; exact hBk
        · rw [hub _ (by omega)]; exact Nat.le_refl _
      have hp := hpB j (by omega)
      obtain ⟨b1, b2, b3, b4, b5⟩ := a3
      exact ⟨a1.other hm ⟨by omega, by omega, by omega, by omega, by omega⟩, a2, ⟨b1, b2, b3, b4, b5⟩, by omega, by omega, by omega, by omega, by omega⟩
  · by_cases e : k = 0
    · subst e; rw [huk]; omega
    · rw [hub 0 (by omega)]; exact hB0
  · by_cases e : j = k
    · subst e; rw [huk, huk1]; exact hm.size
    · rw [hub j (by omega)]
      by_cases e2 : j + 1 = k
      · rw [e2, huk]; exact hBle j (by omega)
      · rw [hub _ (by omega)]; exact h.mono j (by omega)
theorem NwInv.done {w wr w' : World} {L : RC} {p g0 c0 win vp : Nat} {rp : Nat → Nat} {C : Nat → RC} {B : Nat → Nat} (h : NwInv w wr L p g0 c0 3 rp C B) (hw : w.heap.size ≤ p) (hB : Below wr.heap.size wr w') (hvp : vp = wr.heap.size) (hV : VIs w' wr.heap.size vp win (.slice none 0 0) (vs0 win)) (N : Nat) (hN : N ≤ w.heap.size) :
    SyIs (w'.setCell ⟨p, 6, none⟩ (.pointer (some ⟨vp, 0, none⟩))) N ⟨p, g0, c0, rp, C, vp, .slice none 0 0, .slice none 0 0, [], 0⟩ L win (sy0 win) ∧ Below w.heap.size w (w'.setCell ⟨p, 6, none⟩ (.pointer (some ⟨vp, 0, none⟩))) := by
  have hpl := blk_lt h.blk
  have hm : Mod w' (w'.setCell ⟨p, 6, none⟩ (.pointer (some ⟨vp, 0, none⟩))) (· = p) := (Mod.refl _ _).set _ _ (fun _ => rfl)
  have hb1 := (hB.block p hpl).trans h.blk
  have hg := h.lo0
  have hB0 := h.B0
  have hpB : ∀ j, j ≤ 3 → p < B j := fun j hj => Nat.lt_of_lt_of_le hB0 (h.Ble (Nat.zero_le _) hj)
  have hBw : ∀ j, j ≤ 3 → B j ≤ wr.heap.size := fun j hj => Nat.le_trans (h.Ble hj (Nat.le_refl _)) h.Bk
  have hcr : ∀ j, j < 3 → RpIs wr (rp j) (C j) (new0 j) := fun j hj => (h.rp j hj).1
  refine ⟨⟨?_, fun i hi => (World.cell?_of_block (w := w') (hm.block g0 (Nat.lt_of_lt_of_le (by omega) hB.size) (by omega))).trans (h.row.below (B := wr.heap.size) (by omega) hB i hi), by rw [show (w'.setCell ⟨p, 6, none⟩ (.pointer (some ⟨vp, 0, none⟩))).heap.size = w'.heap.size by simp [World.setCell]]; exact Nat.lt_of_lt_of_le (show g0 < wr.heap.size by omega) hB.size, h.cap, fun k hk => ?_, fun k hk => (h.rp k hk).2.1, fun i j hi hj hij => ?_, ?_, ⟨World.ownsRow_nil _ _ _ _, rfl, fun i hi => by simp [sy0] at hi⟩, fun x y hx hy e => ?_, fun x hx => ?_, fun y hy => ?_⟩, ?_⟩
  · rw [blk_set hb1]
    rfl
  · obtain ⟨a1, _, ⟨b1, b2, b3, b4, b5⟩, _⟩ := h.rp k hk
    have hp := hpB k (by omega)
    exact (a1.below hB).other hm ⟨by omega, by omega, by omega, by omega, by omega⟩
  · obtain ⟨_, _, ⟨b1, _⟩, u1, _⟩ := h.rp i hi
    obtain ⟨_, _, ⟨c1, _⟩, v1, _⟩ := h.rp j hj
    show rp i ≠ rp j
    rcases (by omega : i < j ∨ j < i) with e | e
    · have := h.Ble (i := i + 1) (j := j) (by omega) (by omega); omega
    · have := h.Ble (i := j + 1) (j := i) (by omega) (by omega); omega
  · refine ⟨?_, World.ownsRow_nil _ _ _ _, by show N ≤ vp; omega⟩
    exact (hm.block vp hV.lt (by omega)).trans hV.blk
  · have hx' : x = p ∨ (∃ j, j < 3 ∧ x = rp j) ∨ x = vp := by
      rcases hx with z | z | z | z | z
      · exact .inl z
      · simp [Value.ownBlock] at z
      · exact .inr (.inl z)
      · exact .inr (.inr z)
      · simp [Value.ownBlock] at z
    rcases hx' with rfl | ⟨j, hj, rfl⟩ | rfl
    · rcases hy with hy | ⟨i, hi, hy⟩
      · have hy' : y = g0 := hy
        omega
      · obtain ⟨_, _, ⟨b1, b2, b3, b4, b5⟩, _⟩ := h.rp i hi
        have hp := hpB i (by omega)
        have hy' : y = (C i).pc ∨ y = (C i).g ∨ y = (C i).M ∨ y = (C i).g2 := hy
        omega
    · obtain ⟨a1, _, ⟨b1, _⟩, u1, _⟩ := h.rp j hj
      have hp := hpB j (by omega)
      rcases hy with hy | ⟨i, hi, hy⟩
      · have hy' : y = g0 := hy
        omega
      · obtain ⟨_, _, ⟨d1, d2, d3, d4, d5⟩, f1, f2, f3, f4, f5⟩ := h.rp i hi
        have hy' : y = (C i).pc ∨ y = (C i).g ∨ y = (C i).M ∨ y = (C i).g2 := hy
        rcases (by omega : i = j ∨ i < j ∨ j < i) with rfl | e2 | e2
        · have := a1.ap; omega
        · have := h.Ble (i := i + 1) (j := j) (by omega) (by omega); omega
        · have := h.Ble (i := j + 1) (j := i) (by omega) (by omega); omega
    · rcases hy with hy | ⟨i, hi, hy⟩
      · have hy' : y = g0 := hy
        omega
      · obtain ⟨_, _, _, f1, f2, f3, f4, f5⟩ := h.rp i hi
        have := hBw (i + 1) (by omega)
        have hy' : y = (C i).pc ∨ y = (C i).g ∨ y = (C i).M ∨ y = (C i).g2 := hy
        omega
  · rcases hx with z | z | ⟨j, hj, z⟩ | z | z
    · have z' : x = p := z
      omega
    · simp [Value.ownBlock] at z
    · obtain ⟨_, _, ⟨b1, _⟩, _⟩ := h.rp j hj
      have hp := hpB j (by omega)
      have z' : x = rp j := z
      omega
    · have z' : x = vp := z
      omega
    · simp [Value.ownBlock] at z
  · rcases hy with hy | ⟨i, hi, hy⟩
    · have hy' : y = g0 := hy
      omega
    · obtain ⟨_, _, ⟨b1, b2, b3, b4, b5⟩, _⟩ := h.rp i hi
      have hp := hpB i (by omega)
      have hy' : y = (C i).pc ∨ y = (C i).g ∨ y = (C i).M ∨ y = (C i).g2 := hy
      omega
  · exact (h.old.trans (hB.mono h.old.size)).setCell hw _
set_option maxHeartbeats 2000000 in
set_option maxRecDepth 20000 in
theorem synew_any (N : Nat) (L : RC) (win b off cap : Nat) (w : World) (hL : LOk L) (h1 : 1 ≤ win) (h2 : win ≤ 20) (hb : b < w.heap.size) (hrow : Row w b off L.zs) (hN : N ≤ w.heap.size) :
    Calls Tryz.prog 24 #[.agg #[.int .i64 (L.s : Int), .slice (some ⟨b, off, none⟩) L.n cap, .int .i64 (L.d : Int)], .int .i64 (win : Int)] w fun e w' => (∃ D, e = .returned (.tuple #[.pointer (some ⟨D.p, 0, none⟩), .nilIface]) ∧ w.heap.size ≤ D.p ∧ SyIs w' N D L win (sy0 win)) ∧ Below w.heap.size w w' := by
  have hf := hL.few
  obtain ⟨W, hW⟩ : ∃ W, Hid (w.alloc (.cells #[.int .i64 (L.s : Int), .slice (some ⟨b, off, none⟩) L.n cap, .int .i64 (L.d : Int)] 42) = W) := ⟨_, hide rfl⟩
  have hB0 : Below w.heap.size w W := by rw [← hW.out]; exact (Below.refl _ _).alloc (Nat.le_refl _) _
  have hbx : W.heap[w.heap.size]? = some (.cells #[.int .i64 (L.s : Int), .slice (some ⟨b, off, none⟩) L.n cap, .int .i64 (L.d : Int)] 42 (0, 0)) := by rw [← hW.out]; exact blk_new _ _
  have HC : Hid (Calls Tryz.prog 64 #[.slice (some ⟨b, off, none⟩) L.n cap] W fun e w1 => ∃ g cg, e = .returned (.slice (some ⟨g, 0, none⟩) L.n cg) ∧ (w1.cell? ⟨w.heap.size, 1, none⟩ = some (.slice (some ⟨b, off, none⟩) L.n cap) ∧ w1.frozen? ⟨w.heap.size, 1, none⟩ = false ∧ w1.cell? ⟨w.heap.size, 0, none⟩ = some (.int .i64 (L.s : Int)) ∧ w1.cell? ⟨w.heap.size, 2, none⟩ = some (.int .i64 (L.d : Int))) ∧
      Hid ((w1.setCell ⟨w.heap.size, 1, none⟩ (.slice (some ⟨g, 0, none⟩) L.n cg)).heap[w.heap.size]? = some (.cells #[.int .i64 (L.s : Int), .slice (some ⟨g, 0, none⟩) L.n cg, .int .i64 (L.d : Int)] 42 (0, 0)) ∧ Row (w1.setCell ⟨w.heap.size, 1, none⟩ (.slice (some ⟨g, 0, none⟩) L.n cg)) g 0 L.zs ∧ w.heap.size < g ∧ g < (w1.setCell ⟨w.heap.size, 1, none⟩ (.slice (some ⟨g, 0, none⟩) L.n cg)).heap.size ∧ L.n ≤ cg ∧ Below w.heap.size w (w1.setCell ⟨w.heap.size, 1, none⟩ (.slice (some ⟨g, 0, none⟩) L.n cg)))) := hide (by
    refine (clone_any b off L.n cap L.zs W hL.len (by omega) (by omega) (Nat.lt_of_lt_of_le hb hB0.size) (hrow.below hb hB0)).mono ?_
    rintro e w1 ⟨⟨g, cg, g1, g2, g3, rfl, g4⟩, hB⟩
    have hlt := blk_lt hbx
    have hb1 := (hB.block _ hlt).trans hbx
    refine ⟨g, cg, rfl, ⟨(blk_cell hb1 1).trans rfl, blk_free hb1 1, (blk_cell hb1 0).trans rfl, (blk_cell hb1 2).trans rfl⟩, hide ⟨(blk_set hb1 1 _).trans rfl, fun i hi => (World.cell?_of_block (w := w1) (Below.heap_setCell _ _ _ _ (by show g ≠ w.heap.size; omega))).trans (g4 i hi), by omega, by simp [World.setCell]; exact g2, g3, ?_⟩⟩
    exact (hB0.trans (hB.mono hB0.size)).setCell (Nat.le_refl _) _)
  have x1 : W.cell? ⟨w.heap.size, 1, none⟩ = some (.slice (some ⟨b, off, none⟩) L.n cap) := (blk_cell hbx 1).trans rfl
  have HL := hide hL
  clear hrow hbx hB0 hL
  go_enter Tryz.func24, Tryz.ntmps24
  go_wp2_with fail
  rw [show w.alloc (.cells #[.int .i64 (L.s : Int), .slice (some ⟨b, off, none⟩) L.n cap, .int .i64 (L.d : Int)] 42) = W from hW.out]
  refine HC.out.mono ?_
  rintro e w1 ⟨g, cg, rfl, ⟨z0, z1, z2, z3⟩, HM⟩
  clear HC x1 hW
  go_wp2_with fail
  have HS12 : Hid ((w1.setCell ⟨w.heap.size, 1, none⟩ (.slice (some ⟨g, 0, none⟩) L.n cg)).heap.size = w1.heap.size) := by rw [Hid]; simp [World.setCell]
  generalize w1.setCell ⟨w.heap.size, 1, none⟩ (.slice (some ⟨g, 0, none⟩) L.n cg) = w2 at HM HS12 ⊢
  obtain ⟨hb2, hr2, hg1, hg2, hcg, hB2⟩ := HM.out
  have HST : Hid (∃ rp C B, NwInv w (w2.alloc (.cells #[.int .i64 (L.s : Int), .slice (some ⟨g, 0, none⟩) L.n cg, .int .i64 (L.d : Int), .pointer none, .pointer none, .pointer none, .pointer none, .slice none 0 0, .int .i64 0] 90)) L w1.heap.size g cg 0 rp C B) := hide (by rw [← HS12.out]; exact ⟨fun _ => 0, fun _ => L, fun _ => w2.heap.size + 1, hB2.alloc hB2.size _, blk_new _ _, hr2.below (B := w2.heap.size) hg2 ((Below.refl _ _).alloc (Nat.le_refl _) _), ⟨by omega, hg2⟩, hcg, fun j hj => absurd hj (by omega), by omega, by simp, fun j hj => absurd hj (by omega)⟩)
  have hsz : w.heap.size ≤ w1.heap.size := by rw [← HS12.out]; exact hB2.size
  clear HM hb2 hr2 hcg hB2 z0 z1 z2 z3
  go_loopw [18] (fun j wr => ∃ k : Nat, k ≤ 3 ∧ j = .int .i64 k ∧ ∃ rp C B, NwInv w wr L w1.heap.size g cg k rp C B) (fun j _ => 3 - (intOf j).toNat)
  case atStart => exact ⟨0, by omega, rfl, HST.out⟩
  case round =>
    obtain ⟨k, hk, rfl, rp, C, B, hI⟩ := hrel
    clear HST
    have hlt := blk_lt hI.blk
    by_cases hk3 : k < 3
    · have hk' : (k : Int) < 3 := by omega
      have HCR : Hid (Calls Tryz.prog 38 #[.pointer (some ⟨w1.heap.size, 0, none⟩), .int .i64 (k : Int)] wr fun e w' => e = .returned .nilIface ∧ Hid (∃ rp C B, NwInv w w' L w1.heap.size g cg (k + 1) rp C B)) := hide (by
        refine (crash_low w1.heap.size g cg L _ _ _ _ k wr hk3 HL.out hI.blk hI.row (by have := hI.lo0; omega) hI.cap).mono ?_
        rintro e w' ⟨rfl, q, C1, hF, hl, hR, hb, hm⟩
        exact ⟨rfl, hide ⟨_, _, _, hI.next hsz hF hl hR hb hm⟩⟩)
      clear hI
      go_wp2_with fail
      refine HCR.out.mono ?_
      rintro e w3 ⟨rfl, HR⟩
      go_wp2
      go_roundw
      case rel => exact ⟨k + 1, by omega, by go_num, HR.out⟩
      case measure => simp [intOf]; omega
    · have e3 : k = 3 := by omega
      subst e3
      have HV : Hid (Calls Tryz.prog 65 #[.int .i64 (win : Int)] wr fun e w' => e = .returned (.tuple #[.pointer (some ⟨wr.heap.size, 0, none⟩), .nilIface]) ∧ (w'.cell? ⟨w1.heap.size, 6, none⟩ = some (.pointer none) ∧ w'.frozen? ⟨w1.heap.size, 6, none⟩ = false) ∧ Hid (SyIs (w'.setCell ⟨w1.heap.size, 6, none⟩ (.pointer (some ⟨wr.heap.size, 0, none⟩))) N ⟨w1.heap.size, g, cg, rp, C, wr.heap.size, .slice none 0 0, .slice none 0 0, [], 0⟩ L win (sy0 win) ∧ Below w.heap.size w (w'.setCell ⟨w1.heap.size, 6, none⟩ (.pointer (some ⟨wr.heap.size, 0, none⟩))))) := hide (by
        refine (vnew_ok win wr h1 h2).mono ?_
        rintro e w' ⟨rfl, hV, _, hB⟩
        have hb1 := (hB.block _ hlt).trans hI.blk
        exact ⟨rfl, ⟨(blk_cell hb1 6).trans rfl, blk_free hb1 6⟩, hide (hI.done hsz hB rfl hV N hN)⟩)
      clear hI
      go_wp2_with fail
      refine HV.out.mono ?_
      rintro e w4 ⟨rfl, ⟨q0, q1⟩, HE⟩
      go_wp2
      go_ret2
      exact ⟨⟨_, rfl, hsz, HE.out.1⟩, HE.out.2⟩
end Go.Proofs.YtaablbmgagiajabGreatDoor
namespace Go.Proofs.YtaablbmgagiajabGreatDoor
open Go.RowKit Go.Deep
structure OwnB (w : World) (base g n cp : Nat) (l : List Nat) : Prop where
  own : w.ownsRow base 5 1 (.slice (some ⟨g, 0, none⟩) n cp) n (u8s l)
  len : l.length = n
  lt : ∀ c ∈ l, c < 256
theorem OwnB.parts {w : World} {base g n cp : Nat} {l : List Nat} (h : OwnB w base g n cp l) : base ≤ g ∧ g < w.heap.size ∧ n ≤ cp := by
  rcases h.own.2 with ⟨h', _⟩ | ⟨g', cap', cur, h', hb, hg, hnc, _⟩
  · simp at h'
  · simp only [Value.slice.injEq, Option.some.injEq, Addr.mk.injEq, and_true, true_and] at h'
    obtain ⟨rfl, rfl⟩ := h'
    exact ⟨hb, blk_lt hg, hnc⟩
theorem OwnB.at {w : World} {base g n cp : Nat} {l : List Nat} (h : OwnB w base g n cp l) {k : Nat} (hk : k < n) : w.cell? ⟨g, k, none⟩ = some (.int .u8 ((l[k]?.getD 0 : Nat) : Int)) := by
  rw [h.own.cellAt k (by omega)]
  simp [u8s, show k < l.length by rw [h.len]; exact hk]
theorem OwnB.isB {w : World} {base g n cp : Nat} {l : List Nat} (h : OwnB w base g n cp l) : IsB w (some ⟨g, 0, none⟩) n cp l := by
  obtain ⟨_, h2, h3⟩ := h.parts
  refine ⟨h.len, h3, h.lt, .inr ⟨g, 0, rfl, h2, fun k hk => ?_⟩⟩
  rw [Nat.zero_add]
  exact h.at (by rw [← h.len]; exact hk)
theorem OwnB.below {w wx : World} {base g n cp : Nat} {l : List Nat} (h : OwnB w base g n cp l) (hB : Below w.heap.size w wx) : OwnB wx base g n cp l := ⟨owns_below h.own hB, h.len, h.lt⟩
theorem OwnB.free {w : World} {base g n cp : Nat} {l : List Nat} (h : OwnB w base g n cp l) (k : Nat) : w.frozen? ⟨g, k, none⟩ = false := h.own.frozenAt k
theorem OwnB.set {w : World} {base g n cp : Nat} {l : List Nat} (h : OwnB w base g n cp l) (k c : Nat) (hc : c < 256) : OwnB (w.setCell ⟨g, k, none⟩ (.int .u8 (c : Int))) base g n cp (l.set k c) := by
  refine ⟨?_, by rw [List.length_set]; exact h.len, fun d hd => ?_⟩
  · have := (h.own.stored k (.int .u8 (c : Int))).1
    unfold u8s at this ⊢
    rwa [List.map_set]
  · rcases List.mem_or_eq_of_mem_set hd with q | q
    · exact h.lt d q
    · omega
end Go.Proofs.YtaablbmgagiajabGreatDoor
namespace Go.Proofs.YtaablbmgagiajabGreatDoor
open Go.RowKit Go.Deep
def wBit (what i : Nat) : Bool := what.testBit (31 - i)
def flipTo (l : List Nat) (a what : Nat) : Nat → List Nat
  | 0 => l
  | i + 1 => if (wBit what i && decide (a + i < 8 * l.length)) = true then flipB (flipTo l a what i) (a + i) else flipTo l a what i
def someTo (l : List Nat) (a what : Nat) : Nat → Bool
  | 0 => false
  | i + 1 => if (wBit what i && decide (a + i < 8 * l.length)) = true then true else someTo l a what i
theorem flipTo_length (l : List Nat) (a what i : Nat) : (flipTo l a what i).length = l.length := by
  induction i with
  | zero => rfl
  | succ i ih => unfold flipTo; split <;> simp [flipB_length, ih]
theorem flipTo_lt {l : List Nat} (a what i : Nat) (h : ∀ c ∈ l, c < 256) : ∀ c ∈ flipTo l a what i, c < 256 := by
  induction i with
  | zero => exact h
  | succ i ih =>
    unfold flipTo
    split
    · exact flipB_lt _ ih
    · exact ih
theorem bitAt_flipTo (l : List Nat) (a what i k : Nat) (hk : k < 8 * l.length) : bitAt (flipTo l a what i) k = (bitAt l k ^^ (decide (a ≤ k) && (decide (k < a + i) && wBit what (k - a)))) := by
  induction i with
  | zero =>
    unfold flipTo
    have e : (decide (a ≤ k) && (decide (k < a + 0) && wBit what (k - a))) = false := by
      by_cases h : a ≤ k
      · rw [decide_eq_false (show ¬ k < a + 0 by omega)]; simp
      · rw [decide_eq_false h]; rfl
    rw [e, Bool.xor_false]
  | succ i ih =>
    unfold flipTo
    by_cases hki : k = a + i
    · subst hki
      have e : a + i - a = i := by omega
      rw [e] at ih ⊢
      rw [decide_eq_true (show a ≤ a + i by omega), decide_eq_true (show a + i < a + (i + 1) by omega)]
      rw [decide_eq_false (show ¬ a + i < a + i by omega)] at ih
      rw [decide_eq_true hk, Bool.and_true]
      cases hw : wBit what i
      · rw [if_neg (by decide), ih]; simp
      · rw [if_pos rfl, bitAt_flip _ _ _ (by rw [flipTo_length]; exact hk), ih]; simp
    · have e1 : decide (k < a + (i + 1)) = decide (k < a + i) := by
        rw [Bool.eq_iff_iff, decide_eq_true_iff, decide_eq_true_iff]; omega
      rw [e1]
      split
      · rename_i hc
        have : a + i < 8 * l.length := by
          simp only [Bool.and_eq_true, decide_eq_true_eq] at hc
          exact hc.2
        rw [bitAt_flip _ _ _ (by rw [flipTo_length]; exact this), ih, decide_eq_false hki, Bool.xor_false]
      · exact ih
theorem someTo_ex {l : List Nat} {a what i : Nat} (h : someTo l a what i = true) : ∃ j, j < i ∧ wBit what j = true ∧ a + j < 8 * l.length := by
  induction i with
  | zero => exact absurd h (by simp [someTo])
  | succ i ih =>
    unfold someTo at h
    split at h
    · rename_i hc
      simp only [Bool.and_eq_true, decide_eq_true_eq] at hc
      exact ⟨i, by omega, hc.1, hc.2⟩
    · obtain ⟨j, h1, h2, h3⟩ := ih h
      exact ⟨j, by omega, h2, h3⟩
theorem dec_flip (F : FR) (a what : Nat) (h : someTo (encF F) a what 32 = true) : (decF (flipTo (encF F) a what 32)).1 ≠ 0 ∧ (decF (flipTo (encF F) a what 32)).2 = fr0 := by
  refine dec_burst F _ a (flipTo_lt a what 32 (encF_lt F)) (flipTo_length _ _ _ _) (fun j hj ho => ?_) ?_
  · rw [flipTo_length] at hj
    rw [bitAt_flipTo _ _ _ _ _ hj]
    rcases ho with ho | ho
    · rw [decide_eq_false (show ¬ a ≤ j by omega)]; simp
    · rw [decide_eq_false (show ¬ j < a + 32 by omega)]; simp
  · obtain ⟨j, h1, h2, h3⟩ := someTo_ex h
    refine ⟨a + j, by rw [flipTo_length]; exact h3, ?_⟩
    rw [bitAt_flipTo _ _ _ _ _ h3, decide_eq_true (show a ≤ a + j by omega), decide_eq_true (show a + j < a + 32 by omega), show a + j - a = j by omega, h2]
    cases bitAt (encF F) (a + j) <;> decide
end Go.Proofs.YtaablbmgagiajabGreatDoor
namespace Go.Proofs.YtaablbmgagiajabGreatDoor
open Go.RowKit Go.Deep
def tabL : List Nat := [0, 1, 28, 2, 29, 14, 24, 3, 30, 22, 20, 15, 25, 17, 4, 8, 31, 27, 13, 23, 21, 19, 16, 7, 26, 12, 18, 6, 11, 5, 10, 9]
def HasTab (w : World) : Prop := ∀ k, k < 32 → w.cell? ⟨1, k, none⟩ = some (.int .u8 ((tabL[k]?.getD 0 : Nat) : Int))
theorem HasTab.below {w w' : World} (h : HasTab w) (hB : Below w.heap.size w w') (_ : 0 < w.heap.size) : HasTab w' := fun k hk => (hB.cell (p := ⟨1, k, none⟩) (World.block_lt_of_cell? _ _ (h k hk))).trans (h k hk)
theorem low_bits {x t m : Nat} (h : x = 2 ^ (t + 1) * m + 2 ^ t) (i : Nat) : x.testBit i = if i < t + 1 then decide (i = t) else m.testBit (i - (t + 1)) := by
  rw [h, Nat.testBit_two_pow_mul_add m (Nat.pow_lt_pow_right (by decide) (Nat.lt_succ_self t)), Nat.testBit_two_pow]
  split
  · congr 1; rw [eq_iff_iff]; omega
  · rfl
end Go.Proofs.YtaablbmgagiajabGreatDoor
namespace Go.Proofs.YtaablbmgagiajabGreatDoor
open Go.RowKit Go.Deep
theorem some_flip {l : List Nat} {a what t m : Nat} (h : what = 2 ^ (t + 1) * m + 2 ^ t) (ht : t < 32) (hin : a + (31 - t) < 8 * l.length) : someTo l a what 32 = true := by
  have key : ∀ n, 31 - t < n → n ≤ 32 → someTo l a what n = true := by
    intro n
    induction n with
    | zero => intro h; omega
    | succ n ih =>
      intro h1 h2
      unfold someTo
      by_cases e : n = 31 - t
      · rw [if_pos]
        rw [e]
        unfold wBit
        rw [show 31 - (31 - t) = t by omega, low_bits h, if_pos (by omega), decide_eq_true rfl, decide_eq_true hin]
        rfl
      · split
        · rfl
        · exact ih (by omega) (by omega)
  exact key 32 (by omega) (Nat.le_refl _)
end Go.Proofs.YtaablbmgagiajabGreatDoor
namespace Go.Proofs.YtaablbmgagiajabGreatDoor
open Go.RowKit Go.Deep
def spoilSy (i : Nat) (b : List Nat) (S : SY) : SY := ⟨S.rp, S.v, S.net.set i ⟨(pkAt S.net i).src, (pkAt S.net i).dst, b⟩⟩
theorem pkL_set : ∀ (l : List Pk) (us : List Value) (i : Nat) (b : List Nat) (v : Value), us.length = l.length → i < l.length → pkL (l.set i ⟨(pkAt l i).src, (pkAt l i).dst, b⟩) (us.set i v) = (pkL l us).set (i * 3 + 2) v
  | [], _, i, _, _, _, hi => by simp at hi
  | p :: r, us, i, b, v, h, hi => by
    cases us with
    | nil => simp at h
    | cons u us =>
      cases i with
      | zero => rfl
      | succ i =>
        rw [List.set_cons_succ, List.set_cons_succ, pkL, pkL]
        simp only [List.headD_cons, List.tail_cons]
        rw [List.set_append_right _ _ (by simp [pkC]; omega), show (i + 1) * 3 + 2 - (pkC p u).length = i * 3 + 2 by simp [pkC]; omega, ← pkL_set r us i b v (by simpa using h) (by simpa using hi)]
        rfl
section
variable {w : World} {N win : Nat} {D : SC} {L : RC} {S : SY}
theorem NetIs.spoil {g cap i : Nat} {l : List Pk} {us : List Value} {b : List Nat} {v : Value} (h : NetIs w N (.slice (some ⟨g, 0, none⟩) l.length cap) l us) (hi : i < l.length) (hv : BytesIs w v b) : NetIs (w.setCell ⟨g, i * 3 + 2, none⟩ v) N (.slice (some ⟨g, 0, none⟩) l.length cap) (l.set i ⟨(pkAt l i).src, (pkAt l i).dst, b⟩) (us.set i v) := by
  have hm : Mod w (w.setCell ⟨g, i * 3 + 2, none⟩ v) (· = g) := (Mod.refl _ _).set _ _ (fun _ => rfl)
  have hty : ∀ k, k = g → ¬ TyAt w k 5 := fun k hk hb => by
    subst hk
    obtain ⟨cur, hc⟩ := h.own rfl
    exact TyAt.ne ⟨_, _, hc⟩ hb (by decide) rfl
  refine ⟨?_, by rw [List.length_set, List.length_set, h.len], fun j hj => ?_⟩
  · rw [List.length_set, pkL_set l us i b v h.len hi]
    refine ⟨by rw [List.length_set]; exact h.row.1, .inr ?_⟩
    rcases h.row.2 with ⟨e, _⟩ | ⟨g', cap', cur, e, h1, h2, h3, h4, h5, h6⟩
    · simp at e
    · simp only [Value.slice.injEq, Option.some.injEq, Addr.mk.injEq, and_true] at e
      obtain ⟨rfl, _, rfl⟩ := e
      refine ⟨g, cap, cur.setIfInBounds (i * 3 + 2) v, rfl, h1, blk_set h2 _ _, h3, h4, by simpa using h5, ?_⟩
      rw [Array.toList_setIfInBounds, List.take_set, h6]
  · rw [List.length_set] at hj
    by_cases e : j = i
    · subst e
      rw [List.getElem?_set_self (by rw [h.len]; exact hj), show pkAt (l.set j ⟨(pkAt l j).src, (pkAt l j).dst, b⟩) j = ⟨(pkAt l j).src, (pkAt l j).dst, b⟩ by unfold pkAt; rw [List.getElem?_set_self hj]; rfl]
      exact hv.mod hm hty
    · rw [List.getElem?_set_ne (fun x => e x.symm), show pkAt (l.set i ⟨(pkAt l i).src, (pkAt l i).dst, b⟩) j = pkAt l j by unfold pkAt; rw [List.getElem?_set_ne (fun x => e x.symm)]]
      exact (h.byt j hj).mod hm hty
end
end Go.Proofs.YtaablbmgagiajabGreatDoor
namespace Go.Proofs.YtaablbmgagiajabGreatDoor
open Go.RowKit Go.Deep
structure Sg where
  who : Nat
  cyc : Int
  on : Bool
  x : Int
  y : Int
structure TS where
  S : SY
  fx : Nat → Int
  fy : Nat → Int
  seen : List Sg
def WOf (L : RC) (l : List Sg) : Seen := fun j n z b => ∃ s ∈ l, s.who = j ∧ (s.cyc = (n : Int) ∨ s.on = true ∧ s.cyc ≤ (n : Int)) ∧ (if z then fitN L.n s.y else fitN L.s s.x).testBit b = true
theorem WOf_le (L : RC) (l a : List Sg) : Seen.le (WOf L l) (WOf L (l ++ a)) := fun _ _ _ _ ⟨s, h1, h2⟩ => ⟨s, List.mem_append_left _ h1, h2⟩
def sgOf (A : TS) (k : Nat) (on : Bool) : Sg := ⟨k, (A.S.rp k).cycle, on, A.fx k, A.fy k⟩
structure TlInv (L : RC) (liar win T : Nat) (A : TS) : Prop where
  inv : SInv L (WOf L A.seen) liar win T A.S
  sees : ∀ k, k < 3 → (A.S.rp k).sx = A.fx k ∧ (A.S.rp k).sy = A.fy k
def sees3 (A : TS) : List Sg := A.seen ++ [sgOf A 0 true, sgOf A 1 true, sgOf A 2 true]
inductive StepTo (L : RC) (win liar : Nat) (wh : Int) : TS → TS → Prop
  | same (A : TS) : StepTo L win liar wh A A
  | see (A : TS) (k : Nat) (x y : Int) (hk : k < 3) : StepTo L win liar wh A ⟨seeSy k x y A.S, upd A.fx k x, upd A.fy k y, A.seen⟩
  | tick (A : TS) (k : Nat) (hk : k < 3) : StepTo L win liar wh A ⟨tickSy L k A.S, A.fx, A.fy, A.seen ++ [sgOf A k false]⟩
  | asks (A : TS) (k : Nat) (hk : k < 3) : StepTo L win liar wh A ⟨asksSy k A.S, A.fx, A.fy, A.seen⟩
  | arrive (A : TS) (i : Nat) (hi : i < A.S.net.length) : StepTo L win liar wh A ⟨arriveSy L win i A.S, A.fx, A.fy, A.seen⟩
  | lose (A : TS) (i : Nat) : StepTo L win liar wh A ⟨outSy i A.S, A.fx, A.fy, A.seen⟩
  | twice (A : TS) (i : Nat) (hi : i < A.S.net.length) : StepTo L win liar wh A ⟨putSy (pkAt A.S.net i) A.S, A.fx, A.fy, A.seen⟩
  | spoil (A : TS) (i a what t m : Nat) (hi : i < A.S.net.length) (hd : (decF (pkAt A.S.net i).b).1 = 0) (hw : what < 4294967296) (hwt : what = 2 ^ (t + 1) * m + 2 ^ t) (ha : a + (31 - t) < 8 * (pkAt A.S.net i).b.length) :
      StepTo L win liar wh A ⟨spoilSy i (flipTo (pkAt A.S.net i).b a what 32) A.S, A.fx, A.fy, A.seen⟩
  | crash (A : TS) (k : Nat) (hk : k < 3) : StepTo L win liar wh A ⟨crashSy k A.S, upd A.fx k 0, upd A.fy k 0, A.seen⟩
  | says (A : TS) (dst : Nat) (l : List Nat) (hl : liar < 3) (hd : dst ≤ 3) (hb : ∀ x ∈ l, x < 256) (hn : l.length ≤ 80) : StepTo L win liar wh A ⟨putSy ⟨liar, dst, l⟩ A.S, A.fx, A.fy, A.seen⟩
  | calm (A : TS) (n : Nat) (S' : SY) (hw : 10 ≤ wh) (hn : n ≤ 3) (h : calmTo L win n A.S S') : StepTo L win liar wh A ⟨S', A.fx, A.fy, sees3 A⟩
  | vtick (A : TS) (hw : 10 ≤ wh) : StepTo L win liar wh A ⟨vtickSy A.S, A.fx, A.fy, A.seen⟩
  | latch (A : TS) (hw : 10 ≤ wh) : StepTo L win liar wh A ⟨latchSy A.S, A.fx, A.fy, A.seen⟩
section
variable {L : RC} {W : Seen} {liar win T n k : Nat} {S : SY} {A B : TS}
theorem SInv.spoil (h : SInv L W liar win T S) {i a what t m : Nat} (hi : i < S.net.length) (hd : (decF (pkAt S.net i).b).1 = 0) (hw : what < 4294967296) (hwt : what = 2 ^ (t + 1) * m + 2 ^ t) (ha : a + (31 - t) < 8 * (pkAt S.net i).b.length) :
    SInv L W liar win T (spoilSy i (flipTo (pkAt S.net i).b a what 32) S) := by
  have hp := h.net _ (pkAt_mem hi)
  have ht : t < 32 := by
    rcases Nat.lt_or_ge t 32 with q | q
    · exact q
    · have := Nat.pow_le_pow_right (n := 2) (by decide) q
      omega
  have key : PkOk L W liar S.v.tr ⟨(pkAt S.net i).src, (pkAt S.net i).dst, flipTo (pkAt S.net i).b a what 32⟩ := by
    refine ⟨hp.src, hp.dst, ?_, ?_, .inr (.inl ?_)⟩
    · show (flipTo _ _ _ _).length ≤ 80
      rw [flipTo_length]; exact hp.len
    · exact flipTo_lt a what 32 hp.byte
    · rcases dec_cases (pkAt S.net i).b with ⟨q, _⟩ | ⟨_, _, q, _⟩
      · exact absurd hd q
      · show (decF (flipTo (pkAt S.net i).b a what 32)).1 ≠ 0
        rw [← q] at ha ⊢
        exact (dec_flip _ a what (some_flip hwt ht ha)).1
  refine SInv.mk' h.rp h.vinv ⟨?_, fun p hp => ?_⟩
  · rw [List.length_set]; exact h.many
  · rcases List.mem_or_eq_of_mem_set hp with q | q
    · exact h.net p q
    · rw [q]; exact key
theorem SInv.new (h1 : 1 ≤ win) (h2 : win ≤ 20) : SInv L W liar win T (sy0 win) :=
  ⟨fun _ _ => RpInv.new, VOk.new h1 h2, fun i hi => absurd hi (Nat.not_lt_zero _), fun _ _ _ hb => Bool.noConfusion hb, fun k _ _ => by show (0 : Nat).testBit k = false; simp, fun _ _ _ hb => Bool.noConfusion hb, fun _ _ => rfl, Nat.zero_le _, fun p hp => absurd hp (List.not_mem_nil)⟩
theorem ClInv.round (h : ClInv L W liar win T S) (hL : LOk L) {S' : SY} (hr : roundTo L win S S') : ClInv L W liar win (T + 6) S' := by
  obtain ⟨m0, m1, m2, _, _, _, e⟩ := hr
  subst e
  have h0 := ClInv.runAll hL m0 _ h
  have h1 := ClInv.runAll hL m1 _ (h0.ticks 3 (by omega))
  have h2 := ClInv.runAll hL m2 _ (h1.ticks 3 (by omega))
  exact h2.vtick
theorem ClInv.calm (hL : LOk L) : ∀ (n T : Nat) (S S' : SY), ClInv L W liar win T S → calmTo L win n S S' → ClInv L W liar win (T + 6 * n) S'
  | 0, _, _, _, h, e => by
    have e' : _ = _ := e
    subst e'
    exact h
  | n + 1, T, S, S', h, ⟨S1, hr, hc⟩ => by
    have := ClInv.calm hL n (T + 6) S1 S' (h.round hL hr) hc
    rw [show T + 6 * (n + 1) = T + 6 + 6 * n by omega]
    exact this
structure Runs (S S' : SY) : Prop where
  sees : ∀ k, (S'.rp k).sx = (S.rp k).sx ∧ (S'.rp k).sy = (S.rp k).sy
  tr : ∃ a, S'.v.tr = S.v.tr ++ a
theorem Runs.refl (S : SY) : Runs S S := ⟨fun _ => ⟨rfl, rfl⟩, [], (List.append_nil _).symm⟩
theorem Runs.trans {S1 S2 : SY} (h : Runs S S1) (g : Runs S1 S2) : Runs S S2 := by
  obtain ⟨a, ha⟩ := h.tr
  obtain ⟨b, hb⟩ := g.tr
  exact ⟨fun k => ⟨(g.sees k).1.trans (h.sees k).1, (g.sees k).2.trans (h.sees k).2⟩, a ++ b, by rw [hb, ha, List.append_assoc]⟩
theorem Runs.tick (S : SY) (k : Nat) : Runs S (tickSy L k S) := by
  refine ⟨fun j => ?_, [], (List.append_nil _).symm⟩
  show (upd S.rp k _ j).sx = _ ∧ (upd S.rp k _ j).sy = _
  by_cases e : j = k
  · subst e; rw [upd_same]; exact ⟨rfl, rfl⟩
  · rw [upd_other _ _ e]; exact ⟨rfl, rfl⟩
theorem Runs.ticks (S : SY) : Runs S (ticksSy L S) := ((Runs.tick S 0).trans (Runs.tick _ 1)).trans (Runs.tick _ 2)
theorem SInv.runs (h : SInv L W liar win T S) (hL : LOk L) {i : Nat} (hi : i < S.net.length) : Runs S (arriveSy L win i S) := by
  refine ⟨fun k => ?_, (h.arrive hL hi).2⟩
  unfold arriveSy comeSy
  split
  · exact ⟨rfl, rfl⟩
  · split
    · exact ⟨rfl, rfl⟩
    · show (upd S.rp _ _ k).sx = _ ∧ (upd S.rp _ _ k).sy = _
      by_cases e : k = (pkAt S.net i).dst
      · rw [← e, upd_same]; exact takeS_sees _ _
      · rw [upd_other _ _ e]; exact ⟨rfl, rfl⟩
theorem SInv.runsAll (hL : LOk L) : ∀ (m : Nat) (S : SY), SInv L W liar win T S → Runs S (runAll L win m S)
  | 0, S, _ => Runs.refl S
  | m + 1, S, h => by
    cases hnet : S.net with
    | nil => rw [runAll_nil hnet]; exact Runs.refl S
    | cons p l =>
      have hi : 0 < S.net.length := by rw [hnet]; simp
      exact (h.runs hL hi).trans (SInv.runsAll hL m _ (h.arrive hL hi).1)
theorem vtick_runs (S : SY) : Runs S (vtickSy S) := ⟨fun _ => ⟨rfl, rfl⟩, [], by rw [List.append_nil]; exact tickF_tr _⟩
theorem ClInv.runsR (h : ClInv L W liar win T S) (hL : LOk L) {S' : SY} (hr : roundTo L win S S') : Runs S S' := by
  obtain ⟨m0, m1, m2, _, _, _, e⟩ := hr
  subst e
  have h0 := ClInv.runAll hL m0 _ h
  have h1 := ClInv.runAll hL m1 _ (h0.ticks 3 (by omega))
  exact ((((SInv.runsAll hL m0 _ h.inv).trans (Runs.ticks _)).trans (SInv.runsAll hL m1 _ (h0.ticks 3 (by omega)).inv)).trans (Runs.ticks _)).trans ((SInv.runsAll hL m2 _ (h1.ticks 3 (by omega)).inv).trans (vtick_runs _))
theorem ClInv.runsC (hL : LOk L) : ∀ (n T : Nat) (S S' : SY), ClInv L W liar win T S → calmTo L win n S S' → Runs S S'
  | 0, _, S, _, _, e => by
    have e' : _ = _ := e
    subst e'
    exact Runs.refl _
  | n + 1, _, _, S', h, ⟨S1, hr, hc⟩ => (h.runsR hL hr).trans (ClInv.runsC hL n _ S1 S' (h.round hL hr) hc)
theorem seen_sg (l : List Sg) (s : Sg) (hs : s ∈ l) {n : Nat} (hn : s.cyc = (n : Int) ∨ s.on = true ∧ s.cyc ≤ (n : Int)) : SeenN (WOf L l) s.who n (fitN L.s s.x) (fitN L.n s.y) :=
  ⟨fun _ hb => ⟨s, hs, rfl, hn, hb⟩, fun _ hb => ⟨s, hs, rfl, hn, hb⟩⟩
theorem TlInv.cseen (h : TlInv L liar win T A) : CSeen L (WOf L (sees3 A)) liar A.S := by
  intro k hk _ n hn
  have hm : sgOf A k true ∈ sees3 A := by
    unfold sees3
    have : k = 0 ∨ k = 1 ∨ k = 2 := by omega
    rcases this with e | e | e <;> subst e <;> simp
  have := seen_sg (L := L) _ _ hm (n := n) (.inr ⟨rfl, hn⟩)
  rw [(h.sees k hk).1, (h.sees k hk).2]
  exact this
theorem TlInv.cl (h : TlInv L liar win T A) : ClInv L (WOf L (sees3 A)) liar win T A.S := ⟨h.inv.le (WOf_le _ _ _), h.cseen⟩
theorem TlInv.later (h : TlInv L liar win T A) {T' : Nat} (hT : T ≤ T') : TlInv L liar win T' A := ⟨h.inv.later hT, h.sees⟩
theorem StepTo.keeps {wh : Int} (hs : StepTo L win liar wh A B) (hL : LOk L) (h : TlInv L liar win T A) : TlInv L liar win (T + 18) B ∧ ∃ a, B.S.v.tr = A.S.v.tr ++ a := by
  have nil : ∀ {l : List Cm}, ∃ a, l = l ++ a := ⟨[], (List.append_nil _).symm⟩
  have later : ∀ {C : TS} {T' : Nat}, TlInv L liar win T' C → T' ≤ T + 18 → TlInv L liar win (T + 18) C := fun h hT => h.later hT
  cases hs with
  | same => exact ⟨later h (by omega), nil⟩
  | see k x y hk =>
    refine ⟨later ⟨h.inv.see hk x y, fun j hj => ?_⟩ (by omega), nil⟩
    show (upd A.S.rp k _ j).sx = upd A.fx k x j ∧ (upd A.S.rp k _ j).sy = upd A.fy k y j
    by_cases e : j = k
    · subst e; rw [upd_same, upd_same, upd_same]; exact ⟨rfl, rfl⟩
    · rw [upd_other _ _ e, upd_other _ _ e, upd_other _ _ e]; exact h.sees j hj
  | tick k hk =>
    obtain ⟨n, c1, _⟩ := (h.inv.rp k hk).cyc
    refine ⟨later (T' := T + 1) ⟨(h.inv.le (WOf_le L A.seen [sgOf A k false])).tick hk c1 fun _ => ?_, fun j hj => ?_⟩ (by omega), nil⟩
    · have := seen_sg (L := L) (A.seen ++ [sgOf A k false]) (sgOf A k false) (by simp) (n := n) (.inl c1)
      rw [(h.sees k hk).1, (h.sees k hk).2]
      exact this
    · have := (Runs.tick (L := L) A.S k).sees j
      exact ⟨this.1.trans (h.sees j hj).1, this.2.trans (h.sees j hj).2⟩
  | asks k hk => exact ⟨later ⟨h.inv.asks hk, h.sees⟩ (by omega), nil⟩
  | arrive i hi =>
    have := (h.inv.runs hL hi)
    exact ⟨later ⟨(h.inv.arrive hL hi).1, fun j hj => ⟨(this.sees j).1.trans (h.sees j hj).1, (this.sees j).2.trans (h.sees j hj).2⟩⟩ (by omega), this.tr⟩
  | lose i => exact ⟨later ⟨h.inv.outs i, h.sees⟩ (by omega), nil⟩
  | twice i hi => exact ⟨later ⟨h.inv.puts (h.inv.net _ (pkAt_mem hi)), h.sees⟩ (by omega), nil⟩
  | spoil i a what t m hi hd hw hwt ha => exact ⟨later ⟨h.inv.spoil hi hd hw hwt ha, h.sees⟩ (by omega), nil⟩
  | crash k hk =>
    refine ⟨later ⟨h.inv.crash, fun j hj => ?_⟩ (by omega), nil⟩
    show (upd A.S.rp k _ j).sx = upd A.fx k 0 j ∧ (upd A.S.rp k _ j).sy = upd A.fy k 0 j
    by_cases e : j = k
    · subst e; rw [upd_same, upd_same, upd_same]; exact ⟨rfl, rfl⟩
    · rw [upd_other _ _ e, upd_other _ _ e, upd_other _ _ e]; exact h.sees j hj
  | says dst l hl hd hb hn => exact ⟨later ⟨h.inv.puts ⟨by show liar ≤ 3; omega, hd, hn, hb, .inl ⟨rfl, hl⟩⟩, h.sees⟩ (by omega), nil⟩
  | calm n S' hw hn hc =>
    have h1 := ClInv.calm hL n T A.S S' h.cl hc
    have h2 := ClInv.runsC hL n T A.S S' h.cl hc
    exact ⟨later (T' := T + 6 * n) ⟨h1.inv, fun j hj => ⟨(h2.sees j).1.trans (h.sees j hj).1, (h2.sees j).2.trans (h.sees j hj).2⟩⟩ (by omega), h2.tr⟩
  | vtick hw => exact ⟨later ⟨h.inv.vtick, h.sees⟩ (by omega), (vtick_runs A.S).tr⟩
  | latch hw => exact ⟨later ⟨h.inv.latch, h.sees⟩ (by omega), nil⟩
end
end Go.Proofs.YtaablbmgagiajabGreatDoor
namespace Go.Proofs.YtaablbmgagiajabGreatDoor
open Go.RowKit Go.Deep
abbrev WT : Seen := fun _ _ _ _ => True
end Go.Proofs.YtaablbmgagiajabGreatDoor
namespace Go.Proofs.YtaablbmgagiajabGreatDoor
open Go.RowKit Go.Deep
def pickF (a n : Int) : Int := wrap64 ((IntKind.u64.wrap a).tmod n)
theorem pickF_in (a n : Int) (h : 0 < n) (hn : n ≤ 5000) : 0 ≤ pickF a n ∧ pickF a n < n := by
  unfold pickF
  have h0 : 0 ≤ IntKind.u64.wrap a := wrap_u64_nonneg a
  rw [Int.tmod_eq_emod_of_nonneg h0]
  have h1 := Int.emod_nonneg (IntKind.u64.wrap a) (show n ≠ 0 by omega)
  have h2 := Int.emod_lt_of_pos (IntKind.u64.wrap a) h
  rw [IntWalk.wrap64_in _ ⟨by omega, by omega⟩]
  exact ⟨h1, h2⟩
set_option maxHeartbeats 400000 in
theorem pick_any (a n : Int) (w : World) (h : 0 < n) (hn : n ≤ 5000) :
    Calls Tryz.prog 25 #[.int .i64 a, .int .i64 n] w fun e w' => e = .returned (.int .i64 (pickF a n)) ∧ w' = w := by
  go_enter Tryz.func25, Tryz.ntmps25
  go_wp2
  go_ret
  exact ⟨rfl, rfl⟩
theorem block_set {w : World} {b : Nat} {c : Array Value} {t : TypeId} (h : w.heap[b]? = some (.cells c t (0, 0))) (i : Nat) (u : Value) : (w.setCell ⟨b, i, none⟩ u).heap[b]? = some (.cells (c.setIfInBounds i u) t (0, 0)) := by
  simp [World.setCell, Array.getElem?_modify, h]
theorem block_lt {w : World} {b : Nat} {o : Obj} (h : w.heap[b]? = some o) : b < w.heap.size := by
  obtain ⟨hlt, _⟩ := Array.getElem?_eq_some_iff.1 h
  exact hlt
structure LInv (w wr : World) (N s d : Nat) (v : Value) (zs : List Int) : Prop where
  old : Below N w wr
  res : wr.heap[N]? = some (.cells #[.int .i64 0, .slice none 0 0, .int .i64 0] 42 (0, 0))
  box : wr.heap[N + 1]? = some (.cells #[.int .i64 (s : Int), v, .int .i64 (d : Int)] 42 (0, 0))
  own : wr.ownsRow (N + 2) 3 1 v zs.length (zs.map (Value.int .i64))
  good : ∀ z ∈ zs, 1 ≤ z ∧ z ≤ top s
  nodup : zs.Nodup
  few : zs.length ≤ 8
theorem LInv.shape {w wr : World} {N s d : Nat} {v : Value} {zs : List Int} (h : LInv w wr N s d v zs) :
    ∃ a cap, v = .slice a zs.length cap ∧ zs.length ≤ cap ∧ ∀ k, k < zs.length → ∃ g, a = some ⟨g, 0, none⟩ ∧ N + 2 ≤ g ∧ g < wr.heap.size ∧ wr.cell? ⟨g, k, none⟩ = some (.int .i64 (zs[k]?.getD 0)) := by
  obtain ⟨_, ho⟩ := h.own
  rcases ho with ⟨rfl, h0⟩ | ⟨g, cap, cur, rfl, hg, hh, hc, hm, hs, ht⟩
  · exact ⟨none, 0, by rw [h0], by omega, fun k hk => by omega⟩
  · refine ⟨_, cap, rfl, hc, fun k hk => ⟨g, rfl, hg, block_lt hh, ?_⟩⟩
    have := h.own.cellAt k (by omega)
    rw [this]
    simp [hk]
theorem LInv.drew {w wr : World} {N s d : Nat} {v : Value} {zs : List Int} (h : LInv w wr N s d v zs) : LInv w wr.drew N s d v zs := ⟨h.old.drew, h.res, h.box, h.own, h.good, h.nodup, h.few⟩
theorem LInv.put {w wr w1 : World} {N s d : Nat} {v v' : Value} {zs : List Int} {r : Int} {o : Obj} (h : LInv w wr N s d v zs) (hown : w1.ownsRow (N + 2) 3 1 v' (zs.length + 1) (zs.map (Value.int .i64) ++ [.int .i64 r]))
    (hg : (wr.alloc o).grownBy w1 v.ownBlock) (hr : 1 ≤ r ∧ r ≤ top s) (hn : r ∉ zs) (hl : zs.length < 8) : LInv w (w1.setCell ⟨N + 1, 1, none⟩ v') N s d v' (zs ++ [r]) := by
  have hN1 : N + 1 < wr.heap.size := block_lt h.box
  have hne : ∀ j, j < N + 2 → some j ≠ v.ownBlock := fun j hj e => by have := h.own.lt j e.symm; omega
  have hb : ∀ j, j < N + 2 → w1.heap[j]? = wr.heap[j]? := fun j hj => (hg.block j (by simp; omega) (hne j hj)).trans (Below.heap_alloc _ _ _ (by omega))
  have old1 : Below N w w1 := (h.old.alloc (by omega) o).grown hg (by simp; omega) (fun j hj => by have := (h.own.lt j hj).1; omega)
  refine ⟨old1.setCell (by show N ≤ N + 1; omega) _, ?_, ?_, ?_, ?_, ?_, by simp; omega⟩
  · rw [Below.heap_setCell _ _ _ _ (by show N ≠ N + 1; omega), hb N (by omega)]; exact h.res
  · rw [block_set ((hb (N + 1) (by omega)).trans h.box)]; simp
  · have := ownsRow_setCell_below hown (a := ⟨N + 1, 1, none⟩) (by show N + 1 < N + 2; omega) v'
    simpa using this
  · intro z hz
    rcases List.mem_append.1 hz with hz | hz
    · exact h.good z hz
    · rw [List.mem_singleton.1 hz]; exact hr
  · rw [List.nodup_append]
    refine ⟨h.nodup, by simp, fun a ha b hb e => hn ?_⟩
    rw [List.mem_singleton.1 hb] at e; rw [← e]; exact ha
end Go.Proofs.YtaablbmgagiajabGreatDoor
