import Derived.Test.YtaablbmgagiajabGreatDoorKGAK
import Derived.BigQuiet
namespace Go.Proofs.YtaablbmgagiajabGreatDoor
open Go.RowKit Go.Deep
theorem sshown_any (N : Nat) (D : SC) (L : RC) (win : Nat) (S : SY) (w : World) (h : SyIs w N D L win S) (hok : VOk win S.v) :
    Calls Tryz.prog 15 #[.pointer (some ⟨D.p, 0, none⟩)] w fun e w' => e = .returned (.int .i64 (shownF S.v)) ∧ Below w.heap.size w w' := by
  have c6 := h.vt6
  have HC := hide (shown_any N D.vp win D.tv S.v w h.vt hok)
  clear h hok
  go_enter Tryz.func15, Tryz.ntmps15
  go_wp2_with fail
  refine HC.out.mono ?_
  rintro e w2 ⟨rfl, hB⟩
  go_wp2
  go_ret
  exact ⟨rfl, hB⟩
def syC (L : RC) (g0 c0 : Nat) (r : Nat → Value) (v nv lo : Value) : Array Value := #[.int .i64 (L.s : Int), .slice (some ⟨g0, 0, none⟩) L.n c0, .int .i64 (L.d : Int), r 0, r 1, r 2, v, nv, lo]
theorem syC_put (L : RC) (g0 c0 : Nat) (r : Nat → Value) (v nv lo u : Value) {k : Nat} (hk : k < 3) : (syC L g0 c0 r v nv lo).setIfInBounds (3 + k) u = syC L g0 c0 (upd r k u) v nv lo := by
  rcases (by omega : k = 0 ∨ k = 1 ∨ k = 2) with rfl | rfl | rfl <;> rfl
theorem syC_at (L : RC) (g0 c0 : Nat) (r : Nat → Value) (v nv lo : Value) {k : Nat} (hk : k < 3) : (syC L g0 c0 r v nv lo)[3 + k]? = some (r k) := by
  rcases (by omega : k = 0 ∨ k = 1 ∨ k = 2) with rfl | rfl | rfl <;> rfl
def FromB (B q : Nat) (C : RC) : Prop := B ≤ q ∧ B ≤ C.pc ∧ B ≤ C.g ∧ B ≤ C.M ∧ B ≤ C.g2
set_option maxHeartbeats 1000000 in
set_option maxRecDepth 20000 in
theorem crash_low (p g0 c0 : Nat) (L : RC) (r : Nat → Value) (v nv lo : Value) (k : Nat) (w : World) (hk : k < 3) (hL : LOk L) (hb : w.heap[p]? = some (.cells (syC L g0 c0 r v nv lo) 90 (0, 0))) (hrow : Row w g0 0 L.zs) (hlt : g0 < w.heap.size) (hcap : L.n ≤ c0) :
    Calls Tryz.prog 38 #[.pointer (some ⟨p, 0, none⟩), .int .i64 (k : Int)] w fun e w' => e = .returned .nilIface ∧ ∃ q C, FromB w.heap.size q C ∧ LineIs C L ∧ RpIs w' q C (new0 k) ∧ w'.heap[p]? = some (.cells (syC L g0 c0 (upd r k (.pointer (some ⟨q, 0, none⟩))) v nv lo) 90 (0, 0)) ∧ Mod w w' (· = p) := by
  have c0' : w.cell? ⟨p, 0, none⟩ = some (.int .i64 (L.s : Int)) := (blk_cell hb 0).trans rfl
  have c1 : w.cell? ⟨p, 1, none⟩ = some (.slice (some ⟨g0, 0, none⟩) L.n c0) := (blk_cell hb 1).trans rfl
  have c2 : w.cell? ⟨p, 2, none⟩ = some (.int .i64 (L.d : Int)) := (blk_cell hb 2).trans rfl
  have hk' : (k : Int) < 3 := by omega
  have hpl := blk_lt hb
  have hcall : Calls Tryz.prog 80 #[.int .i64 (k : Int), .agg #[.int .i64 (L.s : Int), .slice (some ⟨g0, 0, none⟩) L.n c0, .int .i64 (L.d : Int)]] w fun e w1 => ∃ q C, e = .returned (.tuple #[.pointer (some ⟨q, 0, none⟩), .nilIface]) ∧ (w1.cell? ⟨p, 3 + k, none⟩ = some (r k) ∧ w1.frozen? ⟨p, 3 + k, none⟩ = false) ∧
      Hid (FromB w.heap.size q C ∧ LineIs C L ∧ RpIs (w1.setCell ⟨p, 3 + k, none⟩ (.pointer (some ⟨q, 0, none⟩))) q C (new0 k) ∧ (w1.setCell ⟨p, 3 + k, none⟩ (.pointer (some ⟨q, 0, none⟩))).heap[p]? = some (.cells (syC L g0 c0 (upd r k (.pointer (some ⟨q, 0, none⟩))) v nv lo) 90 (0, 0)) ∧ Mod w (w1.setCell ⟨p, 3 + k, none⟩ (.pointer (some ⟨q, 0, none⟩))) (· = p)) := by
    refine (rnew_ok k L.s L.d g0 0 L.n c0 L.zs w hk hL.len hL.ok hlt hrow hcap).mono ?_
    rintro e w1 ⟨⟨q, C, q1, q2, q3, q4, q5, e1, e2, e3, e4, rfl, hR⟩, hB⟩
    have hb1 := (hB.block p hpl).trans hb
    have hm : Mod w1 (w1.setCell ⟨p, 3 + k, none⟩ (.pointer (some ⟨q, 0, none⟩))) (· = p) := (Mod.refl _ _).set _ _ (fun _ => rfl)
    refine ⟨q, C, rfl, ⟨(blk_cell hb1 _).trans (syC_at L g0 c0 r v nv lo hk), blk_free hb1 _⟩, hide ⟨⟨q1, q2, q3, q4, q5⟩, ⟨e1, e2, e3, e4⟩, hR.other hm ⟨by omega, by omega, by omega, by omega, by omega⟩, ?_, (Mod.ofBelow hB _).set _ _ (fun _ => rfl)⟩⟩
    rw [blk_set hb1, syC_put _ _ _ _ _ _ _ _ hk]
  have HC := hide hcall
  clear hcall hb hrow hL
  go_enter Tryz.func38, Tryz.ntmps38
  go_wp2_with fail
  refine HC.out.mono ?_
  rintro e w1 ⟨q, C, rfl, ⟨z0, z1⟩, HM⟩
  go_wp2
  go_ret
  exact ⟨rfl, q, C, HM.out⟩
def sy0 (win : Nat) : SY := ⟨fun k => new0 k, vs0 win, []⟩
structure NwInv (w wr : World) (L : RC) (p g0 c0 k : Nat) (rp : Nat → Nat) (C : Nat → RC) (B : Nat → Nat) : Prop where
  old : Below w.heap.size w wr
  blk : wr.heap[p]? = some (.cells (syC L g0 c0 (fun j => if j < k then .pointer (some ⟨rp j, 0, none⟩) else .pointer none) (.pointer none) (.slice none 0 0) (.int .i64 0)) 90 (0, 0))
  row : Row wr g0 0 L.zs
  lo0 : w.heap.size ≤ g0 ∧ g0 < p
  cap : L.n ≤ c0
  rp : ∀ j, j < k → RpIs wr (rp j) (C j) (new0 j) ∧ LineIs (C j) L ∧ FromB (B j) (rp j) (C j) ∧ (rp j < B (j + 1) ∧ (C j).pc < B (j + 1) ∧ (C j).g < B (j + 1) ∧ (C j).M < B (j + 1) ∧ (C j).g2 < B (j + 1))
  B0 : p < B 0
  Bk : B k ≤ wr.heap.size
  mono : ∀ j, j < k → B j ≤ B (j + 1)
theorem NwInv.Ble {w wr : World} {L : RC} {p g0 c0 k : Nat} {rp : Nat → Nat} {C : Nat → RC} {B : Nat → Nat} (h : NwInv w wr L p g0 c0 k rp C B) {i : Nat} : ∀ {j : Nat}, i ≤ j → j ≤ k → B i ≤ B j
  | 0, hij, _ => by rw [show i = 0 by omega]; exact Nat.le_refl _
  | j + 1, hij, hj => by
    by_cases e : i = j + 1
    · rw [e]; exact Nat.le_refl _
    · exact Nat.le_trans (h.Ble (i := i) (j := j) (by omega) (by omega)) (h.mono j (by omega))
theorem NwInv.next {w wr w' : World} {L : RC} {p g0 c0 k : Nat} {rp : Nat → Nat} {C : Nat → RC} {B : Nat → Nat} (h : NwInv w wr L p g0 c0 k rp C B) (hw : w.heap.size ≤ p) {q : Nat} {C1 : RC} (hF : FromB wr.heap.size q C1) (hl : LineIs C1 L) (hR : RpIs w' q C1 (new0 k))
    (hb : w'.heap[p]? = some (.cells (syC L g0 c0 (upd (fun j => if j < k then .pointer (some ⟨rp j, 0, none⟩) else .pointer none) k (.pointer (some ⟨q, 0, none⟩))) (.pointer none) (.slice none 0 0) (.int .i64 0)) 90 (0, 0))) (hm : Mod wr w' (· = p)) :
    NwInv w w' L p g0 c0 (k + 1) (upd rp k q) (upd C k C1) (upd (upd B k wr.heap.size) (k + 1) w'.heap.size) := by
  have hpl := blk_lt h.blk
  have hBk := h.Bk
  have hB0 := h.B0
  have hg := h.lo0
  have hBle : ∀ j, j ≤ k → B j ≤ wr.heap.size := fun j hj => Nat.le_trans (h.Ble hj (Nat.le_refl _)) hBk
  have hpB : ∀ j, j ≤ k → p < B j := fun j hj => Nat.lt_of_lt_of_le hB0 (h.Ble (Nat.zero_le _) hj)
  have hub : ∀ j, j < k → upd (upd B k wr.heap.size) (k + 1) w'.heap.size j = B j := fun j hj => by rw [upd_other _ _ (by omega), upd_other _ _ (by omega)]
  have huk : upd (upd B k wr.heap.size) (k + 1) w'.heap.size k = wr.heap.size := by rw [upd_other _ _ (by omega), upd_same]
  have huk1 : upd (upd B k wr.heap.size) (k + 1) w'.heap.size (k + 1) = w'.heap.size := upd_same _ _ _
  have hfn : (fun j => if j < k + 1 then Value.pointer (some ⟨upd rp k q j, 0, none⟩) else .pointer none) = upd (fun j => if j < k then .pointer (some ⟨rp j, 0, none⟩) else .pointer none) k (.pointer (some ⟨q, 0, none⟩)) := by
    funext j
    unfold upd
    by_cases e : j = k
    · rw [if_pos e, if_pos e, if_pos (by omega)]
    · rw [if_neg e, if_neg e]
      show (if j < k + 1 then _ else _) = (if j < k then _ else _)
      by_cases e2 : j < k
      · rw [if_pos e2, if_pos (by omega)]
      · rw [if_neg e2, if_neg (by omega)]
  refine ⟨⟨hm.os.trans h.old.os, hm.tape.trans h.old.tape, hm.output.trans h.old.output, Nat.le_trans h.old.size hm.size, fun j hj => (hm.block j (Nat.lt_of_lt_of_le hj h.old.size) (by omega)).trans (h.old.block j hj)⟩, by rw [hfn]; exact hb, fun i hi => (World.cell?_of_block (w := wr) (hm.block g0 (by omega) (by omega))).trans (h.row i hi), h.lo0, h.cap, fun j hj => ?_, ?_, by rw [huk1]; exact Nat.le_refl _, fun j hj => ?_⟩
  · by_cases e : j = k
    · subst e
      rw [upd_same, upd_same, huk, huk1]
      exact ⟨hR, hl, hF, hR.lt, hR.core.plt, hR.core.glt, hR.core.mlt, hR.lt2⟩
    · obtain ⟨a1, a2, a3, a4, a5, a6, a7, a8⟩ := h.rp j (by omega)
      rw [upd_other _ _ e, upd_other _ _ e, hub j (by omega)]
      have hj1 : B (j + 1) ≤ upd (upd B k wr.heap.size) (k + 1) w'.heap.size (j + 1) := by
        by_cases e2 : j + 1 = k
        · rw [e2, huk]; exact hBk
        · rw [hub _ (by omega)]; exact Nat.le_refl _
      have hp := hpB j (by omega)
      obtain ⟨b1, b2, b3, b4, b5⟩ := a3
      exact ⟨a1.other hm ⟨by omega, by omega, by omega, by omega, by omega⟩, a2, ⟨b1, b2, b3, b4, b5⟩, by omega, by omega, by omega, by omega, by omega⟩
  · by_cases e : k = 0
    · subst e; rw [huk]; omega
    · rw [hub 0 (by omega)]; exact hB0
  · by_cases e : j = k
    · subst e; rw [huk, huk1]; exact hm.size
    · rw [hub j (by omega)]
      by_cases e2 : j + 1 = k
      · rw [e2, huk]; exact hBle j (by omega)
      · rw [hub _ (by omega)]; exact h.mono j (by omega)
theorem NwInv.done {w wr w' : World} {L : RC} {p g0 c0 win vp : Nat} {rp : Nat → Nat} {C : Nat → RC} {B : Nat → Nat} (h : NwInv w wr L p g0 c0 3 rp C B) (hw : w.heap.size ≤ p) (hB : Below wr.heap.size wr w') (hvp : vp = wr.heap.size) (hV : VIs w' wr.heap.size vp win (.slice none 0 0) (vs0 win)) (N : Nat) (hN : N ≤ w.heap.size) :
    SyIs (w'.setCell ⟨p, 6, none⟩ (.pointer (some ⟨vp, 0, none⟩))) N ⟨p, g0, c0, rp, C, vp, .slice none 0 0, .slice none 0 0, [], 0⟩ L win (sy0 win) ∧ Below w.heap.size w (w'.setCell ⟨p, 6, none⟩ (.pointer (some ⟨vp, 0, none⟩))) := by
  have hpl := blk_lt h.blk
  have hm : Mod w' (w'.setCell ⟨p, 6, none⟩ (.pointer (some ⟨vp, 0, none⟩))) (· = p) := (Mod.refl _ _).set _ _ (fun _ => rfl)
  have hb1 := (hB.block p hpl).trans h.blk
  have hg := h.lo0
  have hB0 := h.B0
  have hpB : ∀ j, j ≤ 3 → p < B j := fun j hj => Nat.lt_of_lt_of_le hB0 (h.Ble (Nat.zero_le _) hj)
  have hBw : ∀ j, j ≤ 3 → B j ≤ wr.heap.size := fun j hj => Nat.le_trans (h.Ble hj (Nat.le_refl _)) h.Bk
  have hcr : ∀ j, j < 3 → RpIs wr (rp j) (C j) (new0 j) := fun j hj => (h.rp j hj).1
  refine ⟨⟨?_, fun i hi => (World.cell?_of_block (w := w') (hm.block g0 (Nat.lt_of_lt_of_le (by omega) hB.size) (by omega))).trans (h.row.below (B := wr.heap.size) (by omega) hB i hi), by rw [show (w'.setCell ⟨p, 6, none⟩ (.pointer (some ⟨vp, 0, none⟩))).heap.size = w'.heap.size by simp [World.setCell]]; exact Nat.lt_of_lt_of_le (show g0 < wr.heap.size by omega) hB.size, h.cap, fun k hk => ?_, fun k hk => (h.rp k hk).2.1, fun i j hi hj hij => ?_, ?_, ⟨World.ownsRow_nil _ _ _ _, rfl, fun i hi => by simp [sy0] at hi⟩, fun x y hx hy e => ?_, fun x hx => ?_, fun y hy => ?_⟩, ?_⟩
  · rw [blk_set hb1]
    rfl
  · obtain ⟨a1, _, ⟨b1, b2, b3, b4, b5⟩, _⟩ := h.rp k hk
    have hp := hpB k (by omega)
    exact (a1.below hB).other hm ⟨by omega, by omega, by omega, by omega, by omega⟩
  · obtain ⟨_, _, ⟨b1, _⟩, u1, _⟩ := h.rp i hi
    obtain ⟨_, _, ⟨c1, _⟩, v1, _⟩ := h.rp j hj
    show rp i ≠ rp j
    rcases (by omega : i < j ∨ j < i) with e | e
    · have := h.Ble (i := i + 1) (j := j) (by omega) (by omega); omega
    · have := h.Ble (i := j + 1) (j := i) (by omega) (by omega); omega
  · refine ⟨?_, World.ownsRow_nil _ _ _ _, by show N ≤ vp; omega⟩
    exact (hm.block vp hV.lt (by omega)).trans hV.blk
  · have hx' : x = p ∨ (∃ j, j < 3 ∧ x = rp j) ∨ x = vp := by
      rcases hx with z | z | z | z | z
      · exact .inl z
      · simp [Value.ownBlock] at z
      · exact .inr (.inl z)
      · exact .inr (.inr z)
      · simp [Value.ownBlock] at z
    rcases hx' with rfl | ⟨j, hj, rfl⟩ | rfl
    · rcases hy with hy | ⟨i, hi, hy⟩
      · have hy' : y = g0 := hy
        omega
      · obtain ⟨_, _, ⟨b1, b2, b3, b4, b5⟩, _⟩ := h.rp i hi
        have hp := hpB i (by omega)
        have hy' : y = (C i).pc ∨ y = (C i).g ∨ y = (C i).M ∨ y = (C i).g2 := hy
        omega
    · obtain ⟨a1, _, ⟨b1, _⟩, u1, _⟩ := h.rp j hj
      have hp := hpB j (by omega)
      rcases hy with hy | ⟨i, hi, hy⟩
      · have hy' : y = g0 := hy
        omega
      · obtain ⟨_, _, ⟨d1, d2, d3, d4, d5⟩, f1, f2, f3, f4, f5⟩ := h.rp i hi
        have hy' : y = (C i).pc ∨ y = (C i).g ∨ y = (C i).M ∨ y = (C i).g2 := hy
        rcases (by omega : i = j ∨ i < j ∨ j < i) with rfl | e2 | e2
        · have := a1.ap; omega
        · have := h.Ble (i := i + 1) (j := j) (by omega) (by omega); omega
        · have := h.Ble (i := j + 1) (j := i) (by omega) (by omega); omega
    · rcases hy with hy | ⟨i, hi, hy⟩
      · have hy' : y = g0 := hy
        omega
      · obtain ⟨_, _, _, f1, f2, f3, f4, f5⟩ := h.rp i hi
        have := hBw (i + 1) (by omega)
        have hy' : y = (C i).pc ∨ y = (C i).g ∨ y = (C i).M ∨ y = (C i).g2 := hy
        omega
  · rcases hx with z | z | ⟨j, hj, z⟩ | z | z
    · have z' : x = p := z
      omega
    · simp [Value.ownBlock] at z
    · obtain ⟨_, _, ⟨b1, _⟩, _⟩ := h.rp j hj
      have hp := hpB j (by omega)
      have z' : x = rp j := z
      omega
    · have z' : x = vp := z
      omega
    · simp [Value.ownBlock] at z
  · rcases hy with hy | ⟨i, hi, hy⟩
    · have hy' : y = g0 := hy
      omega
    · obtain ⟨_, _, ⟨b1, b2, b3, b4, b5⟩, _⟩ := h.rp i hi
      have hp := hpB i (by omega)
      have hy' : y = (C i).pc ∨ y = (C i).g ∨ y = (C i).M ∨ y = (C i).g2 := hy
      omega
  · exact (h.old.trans (hB.mono h.old.size)).setCell hw _
set_option maxHeartbeats 2000000 in
set_option maxRecDepth 20000 in
theorem synew_any (N : Nat) (L : RC) (win b off cap : Nat) (w : World) (hL : LOk L) (h1 : 1 ≤ win) (h2 : win ≤ 20) (hb : b < w.heap.size) (hrow : Row w b off L.zs) (hN : N ≤ w.heap.size) :
    Calls Tryz.prog 24 #[.agg #[.int .i64 (L.s : Int), .slice (some ⟨b, off, none⟩) L.n cap, .int .i64 (L.d : Int)], .int .i64 (win : Int)] w fun e w' => (∃ D, e = .returned (.tuple #[.pointer (some ⟨D.p, 0, none⟩), .nilIface]) ∧ w.heap.size ≤ D.p ∧ SyIs w' N D L win (sy0 win)) ∧ Below w.heap.size w w' := by
  have hf := hL.few
  obtain ⟨W, hW⟩ : ∃ W, Hid (w.alloc (.cells #[.int .i64 (L.s : Int), .slice (some ⟨b, off, none⟩) L.n cap, .int .i64 (L.d : Int)] 42) = W) := ⟨_, hide rfl⟩
  have hB0 : Below w.heap.size w W := by rw [← hW.out]; exact (Below.refl _ _).alloc (Nat.le_refl _) _
  have hbx : W.heap[w.heap.size]? = some (.cells #[.int .i64 (L.s : Int), .slice (some ⟨b, off, none⟩) L.n cap, .int .i64 (L.d : Int)] 42 (0, 0)) := by rw [← hW.out]; exact blk_new _ _
  have HC : Hid (Calls Tryz.prog 64 #[.slice (some ⟨b, off, none⟩) L.n cap] W fun e w1 => ∃ g cg, e = .returned (.slice (some ⟨g, 0, none⟩) L.n cg) ∧ (w1.cell? ⟨w.heap.size, 1, none⟩ = some (.slice (some ⟨b, off, none⟩) L.n cap) ∧ w1.frozen? ⟨w.heap.size, 1, none⟩ = false ∧ w1.cell? ⟨w.heap.size, 0, none⟩ = some (.int .i64 (L.s : Int)) ∧ w1.cell? ⟨w.heap.size, 2, none⟩ = some (.int .i64 (L.d : Int))) ∧
      Hid ((w1.setCell ⟨w.heap.size, 1, none⟩ (.slice (some ⟨g, 0, none⟩) L.n cg)).heap[w.heap.size]? = some (.cells #[.int .i64 (L.s : Int), .slice (some ⟨g, 0, none⟩) L.n cg, .int .i64 (L.d : Int)] 42 (0, 0)) ∧ Row (w1.setCell ⟨w.heap.size, 1, none⟩ (.slice (some ⟨g, 0, none⟩) L.n cg)) g 0 L.zs ∧ w.heap.size < g ∧ g < (w1.setCell ⟨w.heap.size, 1, none⟩ (.slice (some ⟨g, 0, none⟩) L.n cg)).heap.size ∧ L.n ≤ cg ∧ Below w.heap.size w (w1.setCell ⟨w.heap.size, 1, none⟩ (.slice (some ⟨g, 0, none⟩) L.n cg)))) := hide (by
    refine (clone_any b off L.n cap L.zs W hL.len (by omega) (by omega) (Nat.lt_of_lt_of_le hb hB0.size) (hrow.below hb hB0)).mono ?_
    rintro e w1 ⟨⟨g, cg, g1, g2, g3, rfl, g4⟩, hB⟩
    have hlt := blk_lt hbx
    have hb1 := (hB.block _ hlt).trans hbx
    refine ⟨g, cg, rfl, ⟨(blk_cell hb1 1).trans rfl, blk_free hb1 1, (blk_cell hb1 0).trans rfl, (blk_cell hb1 2).trans rfl⟩, hide ⟨(blk_set hb1 1 _).trans rfl, fun i hi => (World.cell?_of_block (w := w1) (Below.heap_setCell _ _ _ _ (by show g ≠ w.heap.size; omega))).trans (g4 i hi), by omega, by simp [World.setCell]; exact g2, g3, ?_⟩⟩
    exact (hB0.trans (hB.mono hB0.size)).setCell (Nat.le_refl _) _)
  have x1 : W.cell? ⟨w.heap.size, 1, none⟩ = some (.slice (some ⟨b, off, none⟩) L.n cap) := (blk_cell hbx 1).trans rfl
  have HL := hide hL
  clear hrow hbx hB0 hL
  go_enter Tryz.func24, Tryz.ntmps24
  go_wp2_with fail
  rw [show w.alloc (.cells #[.int .i64 (L.s : Int), .slice (some ⟨b, off, none⟩) L.n cap, .int .i64 (L.d : Int)] 42) = W from hW.out]
  refine HC.out.mono ?_
  rintro e w1 ⟨g, cg, rfl, ⟨z0, z1, z2, z3⟩, HM⟩
  clear HC x1 hW
  go_wp2_with fail
  have HS12 : Hid ((w1.setCell ⟨w.heap.size, 1, none⟩ (.slice (some ⟨g, 0, none⟩) L.n cg)).heap.size = w1.heap.size) := by rw [Hid]; simp [World.setCell]
  generalize w1.setCell ⟨w.heap.size, 1, none⟩ (.slice (some ⟨g, 0, none⟩) L.n cg) = w2 at HM HS12 ⊢
  obtain ⟨hb2, hr2, hg1, hg2, hcg, hB2⟩ := HM.out
  have HST : Hid (∃ rp C B, NwInv w (w2.alloc (.cells #[.int .i64 (L.s : Int), .slice (some ⟨g, 0, none⟩) L.n cg, .int .i64 (L.d : Int), .pointer none, .pointer none, .pointer none, .pointer none, .slice none 0 0, .int .i64 0] 90)) L w1.heap.size g cg 0 rp C B) := hide (by rw [← HS12.out]; exact ⟨fun _ => 0, fun _ => L, fun _ => w2.heap.size + 1, hB2.alloc hB2.size _, blk_new _ _, hr2.below (B := w2.heap.size) hg2 ((Below.refl _ _).alloc (Nat.le_refl _) _), ⟨by omega, hg2⟩, hcg, fun j hj => absurd hj (by omega), by omega, by simp, fun j hj => absurd hj (by omega)⟩)
  have hsz : w.heap.size ≤ w1.heap.size := by rw [← HS12.out]; exact hB2.size
  clear HM hb2 hr2 hcg hB2 z0 z1 z2 z3
  go_loopw [18] (fun j wr => ∃ k : Nat, k ≤ 3 ∧ j = .int .i64 k ∧ ∃ rp C B, NwInv w wr L w1.heap.size g cg k rp C B) (fun j _ => 3 - (intOf j).toNat)
  case atStart => exact ⟨0, by omega, rfl, HST.out⟩
  case round =>
    obtain ⟨k, hk, rfl, rp, C, B, hI⟩ := hrel
    clear HST
    have hlt := blk_lt hI.blk
    by_cases hk3 : k < 3
    · have hk' : (k : Int) < 3 := by omega
      have HCR : Hid (Calls Tryz.prog 38 #[.pointer (some ⟨w1.heap.size, 0, none⟩), .int .i64 (k : Int)] wr fun e w' => e = .returned .nilIface ∧ Hid (∃ rp C B, NwInv w w' L w1.heap.size g cg (k + 1) rp C B)) := hide (by
        refine (crash_low w1.heap.size g cg L _ _ _ _ k wr hk3 HL.out hI.blk hI.row (by have := hI.lo0; omega) hI.cap).mono ?_
        rintro e w' ⟨rfl, q, C1, hF, hl, hR, hb, hm⟩
        exact ⟨rfl, hide ⟨_, _, _, hI.next hsz hF hl hR hb hm⟩⟩)
      clear hI
      go_wp2_with fail
      refine HCR.out.mono ?_
      rintro e w3 ⟨rfl, HR⟩
      go_wp2
      go_roundw
      case rel => exact ⟨k + 1, by omega, by go_num, HR.out⟩
      case measure => simp [intOf]; omega
    · have e3 : k = 3 := by omega
      subst e3
      have HV : Hid (Calls Tryz.prog 65 #[.int .i64 (win : Int)] wr fun e w' => e = .returned (.tuple #[.pointer (some ⟨wr.heap.size, 0, none⟩), .nilIface]) ∧ (w'.cell? ⟨w1.heap.size, 6, none⟩ = some (.pointer none) ∧ w'.frozen? ⟨w1.heap.size, 6, none⟩ = false) ∧ Hid (SyIs (w'.setCell ⟨w1.heap.size, 6, none⟩ (.pointer (some ⟨wr.heap.size, 0, none⟩))) N ⟨w1.heap.size, g, cg, rp, C, wr.heap.size, .slice none 0 0, .slice none 0 0, [], 0⟩ L win (sy0 win) ∧ Below w.heap.size w (w'.setCell ⟨w1.heap.size, 6, none⟩ (.pointer (some ⟨wr.heap.size, 0, none⟩))))) := hide (by
        refine (vnew_ok win wr h1 h2).mono ?_
        rintro e w' ⟨rfl, hV, _, hB⟩
        have hb1 := (hB.block _ hlt).trans hI.blk
        exact ⟨rfl, ⟨(blk_cell hb1 6).trans rfl, blk_free hb1 6⟩, hide (hI.done hsz hB rfl hV N hN)⟩)
      clear hI
      go_wp2_with fail
      refine HV.out.mono ?_
      rintro e w4 ⟨rfl, ⟨q0, q1⟩, HE⟩
      go_wp2
      go_ret2
      exact ⟨⟨_, rfl, hsz, HE.out.1⟩, HE.out.2⟩
theorem low_lt {x t m : Nat} (hx : x < 4294967296) (h : x = 2 ^ (t + 1) * m + 2 ^ t) : t < 32 := by
  refine Nat.lt_of_not_le fun hge => ?_
  have : 2 ^ 32 ≤ 2 ^ t := Nat.pow_le_pow_right (by decide) hge
  omega
structure Sg where
  who : Nat
  cyc : Int
  on : Bool
  x : Int
  y : Int
structure TS where
  S : SY
  fx : Nat → Int
  fy : Nat → Int
  seen : List Sg
section
variable {L : RC} {W : Seen} {liar win T n k : Nat} {S : SY} {A B : TS}
theorem SInv.new (h1 : 1 ≤ win) (h2 : win ≤ 20) : SInv L W liar win T (sy0 win) :=
  ⟨fun _ _ => RpInv.new, VOk.new h1 h2, fun i hi => absurd hi (Nat.not_lt_zero _), fun _ _ _ hb => Bool.noConfusion hb, fun k _ _ => by show (0 : Nat).testBit k = false; simp, fun _ _ _ hb => Bool.noConfusion hb, fun _ _ => rfl, Nat.zero_le _, fun p hp => absurd hp (List.not_mem_nil)⟩
end
end Go.Proofs.YtaablbmgagiajabGreatDoor
