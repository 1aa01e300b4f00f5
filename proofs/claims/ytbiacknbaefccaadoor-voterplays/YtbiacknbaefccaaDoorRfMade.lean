/- The contract of triumvirref.made. -/
import Derived.Test.YtbiacknbaefccaaDoorRfList
import Derived.Test.YtbiacknbaefccaaDoorFrFramed
import Derived.OrdersHeld
namespace Go.Proofs.YtbiacknbaefccaaDoor
open Go.RowKit Go.Deep

/-- Are there as many numbers as their kind has? -/
def okLen (l : List Int) : Bool := (decide (at0 l 0 = 1) && decide (l.length = 5)) || (((decide (at0 l 0 = 2) || decide (at0 l 0 = 3)) && decide (l.length = 6)) || ((decide (at0 l 0 = 4) && decide (l.length = 3)) || (decide (at0 l 0 = 5) && decide (l.length = 20))))
def madeF (l : List Int) : FR := if okLen l = true then framedF l else fr0
theorem made_yes {l : List Int} (h : okLen l = true) : madeF l = framedF l := if_pos h
theorem made_no {l : List Int} (h : okLen l = false) : madeF l = fr0 := by unfold madeF; rw [h]; rfl

/-- What holds while a frame is made: block N is the result's, Q the frame's. -/
structure MInv (w wr : World) (N Q b off : Nat) (l : List Int) (F : FR) : Prop where
  old : Below N w wr
  res : FIs wr N 67 fr0
  frm : FIs wr Q 67 F
  far : N < Q
  row : Row wr b off l
  blo : b < N
theorem MInv.num {w wr : World} {N Q b off : Nat} {l : List Int} {F : FR} (h : MInv w wr N Q b off l F) {k : Nat} (hk : k < l.length) : wr.cell? ⟨b, off + k, none⟩ = some (.int .i64 (at0 l k)) := h.row k hk
theorem MInv.put {w wr : World} {N Q b off : Nat} {l : List Int} {F : FR} (h : MInv w wr N Q b off l F) {k : Nat} (hk : k < 23) (v : Int) : MInv w (wr.setCell ⟨Q, k, none⟩ (.int .i64 v)) N Q b off l (upd F k v) := by
  have hf := h.far
  have hb := h.blo
  refine ⟨h.old.setCell (by show N ≤ Q; omega) _, (Below.heap_setCell _ _ _ _ (by show N ≠ Q; omega)).trans h.res, h.frm.put hk v, hf, fun j hj => ?_, hb⟩
  rw [World.cell?_of_block (w := wr) (Below.heap_setCell wr ⟨Q, k, none⟩ _ b (by show b ≠ Q; omega))]
  exact h.row j hj
theorem MInv.drew {w wr : World} {N Q b off : Nat} {l : List Int} {F : FR} (h : MInv w wr N Q b off l F) : MInv w wr.drew N Q b off l F := ⟨h.old.drew, h.res, h.frm, h.far, h.row, h.blo⟩

set_option maxHeartbeats 2000000 in
set_option maxRecDepth 20000 in
theorem made_few (a : Option Addr) (n cap : Nat) (l : List Int) (w : World) (hn : l.length = n) (h3 : n < 3) :
    Calls Tryd.prog 80 #[.slice a n cap] w fun e w' => e = .returned (.tuple #[.agg (fCells (madeF l)), .bool (okLen l)]) ∧ Below w.heap.size w w' := by
  have hok : okLen l = false := by
    unfold okLen
    rw [decide_eq_false (show ¬ l.length = 5 by omega), decide_eq_false (show ¬ l.length = 6 by omega), decide_eq_false (show ¬ l.length = 3 by omega), decide_eq_false (show ¬ l.length = 20 by omega)]
    simp
  rw [made_no hok, hok]
  have hres : FIs (w.alloc (.cells (fCells fr0) 67)) w.heap.size 67 fr0 := blk_new _ _
  have HB := hide ((Below.refl w.heap.size w).alloc (Nat.le_refl _) (.cells (fCells fr0) 67))
  have HRES := hide hres
  clear hres hn hok
  go_enter Tryd.func80, Tryd.ntmps80
  go_wp2_with (refine wpList_store_rl rfl _ _ rfl w.heap.size fr0 rfl rfl fr0 HRES.out ?_)
  intro w9 HF9
  go_wp2
  refine bodyPost_ret (v := .tuple #[.agg (fCells fr0), .bool false]) ?_ rfl ⟨rfl, HB.out.trans (HF9.out.2.2 _ (Nat.le_refl _))⟩
  exact results_cell2 Tryd.results80 rfl (load_r HF9.out.1)

set_option maxHeartbeats 1000000 in
set_option maxRecDepth 20000 in
theorem made_main (b off n cap : Nat) (l : List Int) (w : World) (hn : l.length = n) (h3 : 3 ≤ n) (hm : n ≤ 100) (hb : b < w.heap.size) (hr : Row w b off l) :
    Calls Tryd.prog 80 #[.slice (some ⟨b, off, none⟩) n cap] w fun e w' => e = .returned (.tuple #[.agg (fCells (madeF l)), .bool (okLen l)]) ∧ Below w.heap.size w w' := by
  have hB0 : Below w.heap.size w (w.alloc (.cells (fCells fr0) 67)) := (Below.refl w.heap.size w).alloc (Nat.le_refl _) _
  have hres : FIs (w.alloc (.cells (fCells fr0) 67)) w.heap.size 67 fr0 := blk_new _ _
  obtain ⟨wA, hwA⟩ : ∃ wA, Hid (w.alloc (.cells (fCells fr0) 67) = wA) := ⟨_, hide rfl⟩
  rw [hwA.out] at hB0 hres
  have hrA := hr.below hb hB0
  have hN := hres.lt
  have a0 : wA.cell? ⟨b, off, none⟩ = some (.int .i64 (at0 l 0)) := hrA 0 (by omega)
  have a1 : wA.cell? ⟨b, off + 1, none⟩ = some (.int .i64 (at0 l 1)) := hrA 1 (by omega)
  have a2 : wA.cell? ⟨b, off + 2, none⟩ = some (.int .i64 (at0 l 2)) := hrA 2 (by omega)
  obtain ⟨x0, hx0⟩ : ∃ x, Hid (at0 l 0 = x) := ⟨_, hide rfl⟩
  obtain ⟨x1, hx1⟩ : ∃ x, Hid (at0 l 1 = x) := ⟨_, hide rfl⟩
  obtain ⟨x2, hx2⟩ : ∃ x, Hid (at0 l 2 = x) := ⟨_, hide rfl⟩
  rw [hx0.out] at a0
  rw [hx1.out] at a1
  rw [hx2.out] at a2
  have HB0 := hide hB0
  have HRES := hide hres
  have HRA := hide hrA
  clear hB0 hres hrA hr
  have d0 : (0 : Int) < (n : Int) := by omega
  have d00 : 0 < n := by omega
  have d1 : (1 : Int) < (n : Int) := by omega
  have d2 : (2 : Int) < (n : Int) := by omega
  go_enter Tryd.func80, Tryd.ntmps80
  go_wp2_with fail
  rw [show w.alloc (.cells #[.int .i64 0, .int .i64 0, .int .i64 0, .int .i64 0, .int .i64 0, .int .i64 0, .int .i64 0, .int .i64 0, .int .i64 0, .int .i64 0, .int .i64 0, .int .i64 0, .int .i64 0, .int .i64 0, .int .i64 0, .int .i64 0, .int .i64 0, .int .i64 0, .int .i64 0, .int .i64 0, .int .i64 0, .int .i64 0, .int .i64 0] 67) = wA from hwA.out]
  have hss : ∀ wx, Below wA.heap.size wA wx → wx.cell? ⟨b, off, none⟩ = some (.int .i64 x0) ∧ wx.cell? ⟨b, off + 1, none⟩ = some (.int .i64 x1) ∧ wx.cell? ⟨b, off + 2, none⟩ = some (.int .i64 x2) := fun wx hx =>
    ⟨(hx.cell (p := ⟨b, off, none⟩) (by show b < _; omega)).trans a0, (hx.cell (p := ⟨b, off + 1, none⟩) (by show b < _; omega)).trans a1, (hx.cell (p := ⟨b, off + 2, none⟩) (by show b < _; omega)).trans a2⟩
  refine wp_region_held_drew (S := fun w' => w'.cell? ⟨b, off, none⟩ = some (.int .i64 x0) ∧ w'.cell? ⟨b, off + 1, none⟩ = some (.int .i64 x1) ∧ w'.cell? ⟨b, off + 2, none⟩ = some (.int .i64 x2)) (by kernel_rfl) (hss _ (Below.refl _ _).drew) (fun hHeld => ?_)
  refine wpAnyH_take (i := 0) (oi := _) (v := .slice (some ⟨b, off, none⟩) n cap) rfl (by kernel_rfl) (by kernel_rfl) (by kernel_rfl) (fun _ _ _ h => h) (Or.inl ⟨by rfl, fun w _ => by go_simp⟩) hHeld ?_
  simp only [Act.put, List.getElem_toArray, List.getElem_cons_zero, List.setIfInBounds_toArray, List.set_cons_succ, List.set_cons_zero]
  refine wpAnyH_take (i := 1) (oi := _) (v := .pointer (some ⟨b, off, none⟩)) rfl (by kernel_rfl) (by kernel_rfl) (by kernel_rfl) (fun _ _ _ h => h) (Or.inl ⟨by rfl, fun w _ => by go_simp⟩) hHeld ?_
  simp only [Act.put, List.getElem_toArray, List.getElem_cons_succ, List.getElem_cons_zero, List.setIfInBounds_toArray, List.set_cons_succ, List.set_cons_zero]
  refine wpAnyH_take (i := 2) (oi := _) (v := .int .i64 x0) rfl (by kernel_rfl) (by kernel_rfl) (by kernel_rfl) (fun _ _ _ h => h) (Or.inl ⟨by rfl, fun w h => by obtain ⟨h1, h2, h3⟩ := h; go_simp⟩) hHeld ?_
  simp only [Act.put, List.getElem_toArray, List.getElem_cons_succ, List.getElem_cons_zero, List.setIfInBounds_toArray, List.set_cons_succ, List.set_cons_zero]
  refine wpAnyH_take (i := 3) (oi := _) (v := .slice (some ⟨b, off, none⟩) n cap) rfl (by kernel_rfl) (by kernel_rfl) (by kernel_rfl) (fun _ _ _ h => h) (Or.inl ⟨by rfl, fun w _ => by go_simp⟩) hHeld ?_
  simp only [Act.put, List.getElem_toArray, List.getElem_cons_succ, List.getElem_cons_zero, List.setIfInBounds_toArray, List.set_cons_succ, List.set_cons_zero]
  refine wpAnyH_take (i := 4) (oi := _) (v := .pointer (some ⟨b, off + 1, none⟩)) rfl (by kernel_rfl) (by kernel_rfl) (by kernel_rfl) (fun _ _ _ h => h) (Or.inl ⟨by rfl, fun w _ => by go_simp⟩) hHeld ?_
  simp only [Act.put, List.getElem_toArray, List.getElem_cons_succ, List.getElem_cons_zero, List.setIfInBounds_toArray, List.set_cons_succ, List.set_cons_zero]
  refine wpAnyH_take (i := 5) (oi := _) (v := .int .i64 x1) rfl (by kernel_rfl) (by kernel_rfl) (by kernel_rfl) (fun _ _ _ h => h) (Or.inl ⟨by rfl, fun w h => by obtain ⟨h1, h2, h3⟩ := h; go_simp⟩) hHeld ?_
  simp only [Act.put, List.getElem_toArray, List.getElem_cons_succ, List.getElem_cons_zero, List.setIfInBounds_toArray, List.set_cons_succ, List.set_cons_zero]
  refine wpAnyH_take (i := 6) (oi := _) (v := .slice (some ⟨b, off, none⟩) n cap) rfl (by kernel_rfl) (by kernel_rfl) (by kernel_rfl) (fun _ _ _ h => h) (Or.inl ⟨by rfl, fun w _ => by go_simp⟩) hHeld ?_
  simp only [Act.put, List.getElem_toArray, List.getElem_cons_succ, List.getElem_cons_zero, List.setIfInBounds_toArray, List.set_cons_succ, List.set_cons_zero]
  refine wpAnyH_take (i := 7) (oi := _) (v := .pointer (some ⟨b, off + 2, none⟩)) rfl (by kernel_rfl) (by kernel_rfl) (by kernel_rfl) (fun _ _ _ h => h) (Or.inl ⟨by rfl, fun w _ => by go_simp⟩) hHeld ?_
  simp only [Act.put, List.getElem_toArray, List.getElem_cons_succ, List.getElem_cons_zero, List.setIfInBounds_toArray, List.set_cons_succ, List.set_cons_zero]
  refine wpAnyH_take (i := 8) (oi := _) (v := .int .i64 x2) rfl (by kernel_rfl) (by kernel_rfl) (by kernel_rfl) (fun _ _ _ h => h) (Or.inl ⟨by rfl, fun w h => by obtain ⟨h1, h2, h3⟩ := h; go_simp⟩) hHeld ?_
  simp only [Act.put, List.getElem_toArray, List.getElem_cons_succ, List.getElem_cons_zero, List.setIfInBounds_toArray, List.set_cons_succ, List.set_cons_zero]
  refine wpAnyH_take (i := 9) (oi := _) (v := .agg #[.int .i64 x0, .int .i64 x1, .int .i64 x2, .int .i64 0, .int .i64 0, .int .i64 0, .int .i64 0, .int .i64 0, .int .i64 0, .int .i64 0, .int .i64 0, .int .i64 0, .int .i64 0, .int .i64 0, .int .i64 0, .int .i64 0, .int .i64 0, .int .i64 0, .int .i64 0, .int .i64 0, .int .i64 0, .int .i64 0, .int .i64 0]) rfl (by kernel_rfl) (by kernel_rfl) (by kernel_rfl) (fun _ _ _ h => h) (Or.inl ⟨by rfl, fun w _ => by go_simp⟩) hHeld ?_
  simp only [Act.put, List.getElem_toArray, List.getElem_cons_succ, List.getElem_cons_zero, List.setIfInBounds_toArray, List.set_cons_succ, List.set_cons_zero]
  refine wpAnyH_ready (rs := [10]) (by kernel_rfl) (by simp) ?_
  refine AllReadyH.cons (o := _) rfl (fun K hK => ?_) AllReadyH.nil
  rw [if_pos (by rfl)]
  go_simp
  have hB5 : Below wA.heap.size wA (wA.alloc (.cells (fCells fr0) 67)).drew := ((Below.refl wA.heap.size wA).alloc (Nat.le_refl _) _).drew
  have hz5 : FIs (wA.alloc (.cells (fCells fr0) 67)).drew wA.heap.size 67 fr0 := blk_new _ _
  refine hK.out _ _ (hss _ hB5) (fun hHeld => ?_)
  clear hK K
  refine wpAnyH_ready (rs := [11]) (by kernel_rfl) (by simp) ?_
  refine AllReadyH.cons (o := _) rfl (fun K hK => ?_) AllReadyH.nil
  rw [if_pos (by rfl)]
  refine wp_store_row _ _ _ rfl _ (fCells (startF x0 x1 x2)) rfl rfl _ _ hz5 (by rw [infoRef]; rfl) rfl (fOne _) ?_
  have hB6 : Below wA.heap.size wA ((wA.alloc (.cells (fCells fr0) 67)).drew.setRow wA.heap.size (fCells (startF x0 x1 x2))) := below_row hB5 (Nat.le_refl _) _
  have hz6 := hz5.row (startF x0 x1 x2)
  refine hK.out _ _ (hss _ hB6) (fun hHeld => ?_)
  clear hK K
  have M3 : MInv w ((wA.alloc (.cells (fCells fr0) 67)).drew.setRow wA.heap.size (fCells (startF x0 x1 x2))) w.heap.size wA.heap.size b off l (startF x0 x1 x2) :=
    ⟨HB0.out.trans (hB6.mono (by omega)), HRES.out.below hN hB6, hz6, hN, HRA.out.below (by omega) hB6, hb⟩
  obtain ⟨w3, hw3⟩ : ∃ w3, Hid ((wA.alloc (.cells (fCells fr0) 67)).drew.setRow wA.heap.size (fCells (startF x0 x1 x2)) = w3) := ⟨_, hide rfl⟩
  rw [hw3.out] at M3
  refine wpAnyH_done (by kernel_rfl) ?_ _
  simp only [Act.put, List.getElem_toArray, List.getElem_cons_succ, List.getElem_cons_zero]
  rw [show (wA.alloc (.cells #[.int .i64 0, .int .i64 0, .int .i64 0, .int .i64 0, .int .i64 0, .int .i64 0, .int .i64 0, .int .i64 0, .int .i64 0, .int .i64 0, .int .i64 0, .int .i64 0, .int .i64 0, .int .i64 0, .int .i64 0, .int .i64 0, .int .i64 0, .int .i64 0, .int .i64 0, .int .i64 0, .int .i64 0, .int .i64 0, .int .i64 0] 67)).drew.setRow wA.heap.size (fCells (startF x0 x1 x2)) = w3 from hw3.out]
  clear hHeld hB5 hz5 hB6 hz6 hss HB0 HRES HRA a0 a1 a2
  generalize wA.heap.size = Q at M3 hN ⊢
  have k0 : w3.cell? ⟨Q, 0, none⟩ = some (.int .i64 x0) := (M3.frm.at (k := 0) (by omega)).trans rfl
  by_cases e1 : x0 = 1
  · subst e1
    have b2 : inB 1 2 3 = false := by decide
    by_cases hL : n = 5
    · subst hL
      have HOK : Hid (okLen l = true) := by rw [Hid]; unfold okLen; rw [hx0.out, hn]; simp; try omega
      have a3 := M3.num (k := 3) (by omega)
      obtain ⟨x3, hx3⟩ : ∃ x, Hid (at0 l 3 = x) := ⟨_, hide rfl⟩
      rw [hx3.out] at a3
      have a4 := M3.num (k := 4) (by omega)
      obtain ⟨x4, hx4⟩ : ∃ x, Hid (at0 l 4 = x) := ⟨_, hide rfl⟩
      rw [hx4.out] at a4
      have k3 := M3.frm.at (k := 3) (by omega)
      have f3 := M3.frm.free 3
      have k4 := M3.frm.at (k := 4) (by omega)
      have f4 := M3.frm.free 4
      have MF := hide ((M3.put (k := 3) (by omega) x3).put (k := 4) (by omega) x4).drew
      rw [startF_in] at MF
      have HE : Hid (framedF l = inF 1 x1 x2 x3 x4) := by rw [Hid, framed_one hx0.out, hx0.out, hx1.out, hx2.out, hx3.out, hx4.out]
      clear M3
      go_wp2_with fail
      go_region
      go_wp2_with (first
        | (go_at_call 53; refine (in_any _ _ _ _).mono ?_; rintro e w' ⟨rfl, rfl⟩)
        | (refine wpList_load_r rfl _ rfl Q rfl _ MF.out.frm ?_)
        | (refine wpList_store_rl rfl _ _ rfl w.heap.size (inF 1 x1 x2 x3 x4) rfl rfl fr0 MF.out.res ?_))
      intro w9 HF9
      go_wp2
      refine bodyPost_ret (v := .tuple #[.agg (fCells (inF 1 x1 x2 x3 x4)), .bool true]) ?_ rfl ⟨by rw [made_yes HOK.out, HE.out, HOK.out], MF.out.old.trans (HF9.out.2.2 _ (Nat.le_refl _))⟩
      exact results_cell2 Tryd.results80 rfl (load_r HF9.out.1)
    · have tL : (((n : Nat) : Int) == 5) = false := by simp; omega
      have MF := hide M3
      have HOK : Hid (okLen l = false) := by rw [Hid]; unfold okLen; rw [hx0.out, hn]; simp; try omega
      clear M3
      go_wp2_with (first
        | (go_at_call 53; refine (in_any _ _ _ _).mono ?_; rintro e w' ⟨rfl, rfl⟩)
        | (refine wpList_store_rl rfl _ _ rfl w.heap.size fr0 rfl rfl fr0 MF.out.res ?_))
      intro w9 HF9
      go_wp2
      refine bodyPost_ret (v := .tuple #[.agg (fCells fr0), .bool false]) ?_ rfl ⟨by rw [made_no HOK.out, HOK.out], MF.out.old.trans (HF9.out.2.2 _ (Nat.le_refl _))⟩
      exact results_cell2 Tryd.results80 rfl (load_r HF9.out.1)
  by_cases e2 : x0 = 2
  · subst e2
    have b2 : inB 2 2 3 = true := by decide
    by_cases hL : n = 6
    · subst hL
      have HOK : Hid (okLen l = true) := by rw [Hid]; unfold okLen; rw [hx0.out, hn]; simp; try omega
      have a3 := M3.num (k := 3) (by omega)
      obtain ⟨x3, hx3⟩ : ∃ x, Hid (at0 l 3 = x) := ⟨_, hide rfl⟩
      rw [hx3.out] at a3
      have a4 := M3.num (k := 4) (by omega)
      obtain ⟨x4, hx4⟩ : ∃ x, Hid (at0 l 4 = x) := ⟨_, hide rfl⟩
      rw [hx4.out] at a4
      have a5 := M3.num (k := 5) (by omega)
      obtain ⟨x5, hx5⟩ : ∃ x, Hid (at0 l 5 = x) := ⟨_, hide rfl⟩
      rw [hx5.out] at a5
      have k3 := M3.frm.at (k := 3) (by omega)
      have f3 := M3.frm.free 3
      have k4 := M3.frm.at (k := 4) (by omega)
      have f4 := M3.frm.free 4
      have k5 := M3.frm.at (k := 5) (by omega)
      have f5 := M3.frm.free 5
      have MF := hide (((M3.put (k := 3) (by omega) x3).put (k := 4) (by omega) x4).put (k := 5) (by omega) x5).drew
      rw [startF_in, inF_out] at MF
      have HE : Hid (framedF l = votF 2 x1 x2 x3 x4 x5) := by rw [Hid, framed_mid (.inl hx0.out), hx0.out, hx1.out, hx2.out, hx3.out, hx4.out, hx5.out]
      clear M3
      go_wp2_with (go_at_call 53; refine (in_any _ _ _ _).mono ?_; rintro e w' ⟨rfl, rfl⟩)
      go_region
      go_wp2_with (first
        | (go_at_call 53; refine (in_any _ _ _ _).mono ?_; rintro e w' ⟨rfl, rfl⟩)
        | (refine wpList_load_r rfl _ rfl Q rfl _ MF.out.frm ?_)
        | (refine wpList_store_rl rfl _ _ rfl w.heap.size (votF 2 x1 x2 x3 x4 x5) rfl rfl fr0 MF.out.res ?_))
      intro w9 HF9
      go_wp2
      refine bodyPost_ret (v := .tuple #[.agg (fCells (votF 2 x1 x2 x3 x4 x5)), .bool true]) ?_ rfl ⟨by rw [made_yes HOK.out, HE.out, HOK.out], MF.out.old.trans (HF9.out.2.2 _ (Nat.le_refl _))⟩
      exact results_cell2 Tryd.results80 rfl (load_r HF9.out.1)
    · have tL : (((n : Nat) : Int) == 6) = false := by simp; omega
      have MF := hide M3
      have HOK : Hid (okLen l = false) := by rw [Hid]; unfold okLen; rw [hx0.out, hn]; simp; try omega
      clear M3
      go_wp2_with (first
        | (go_at_call 53; refine (in_any _ _ _ _).mono ?_; rintro e w' ⟨rfl, rfl⟩)
        | (refine wpList_store_rl rfl _ _ rfl w.heap.size fr0 rfl rfl fr0 MF.out.res ?_))
      intro w9 HF9
      go_wp2
      refine bodyPost_ret (v := .tuple #[.agg (fCells fr0), .bool false]) ?_ rfl ⟨by rw [made_no HOK.out, HOK.out], MF.out.old.trans (HF9.out.2.2 _ (Nat.le_refl _))⟩
      exact results_cell2 Tryd.results80 rfl (load_r HF9.out.1)
  by_cases e3 : x0 = 3
  · subst e3
    have b2 : inB 3 2 3 = true := by decide
    by_cases hL : n = 6
    · subst hL
      have HOK : Hid (okLen l = true) := by rw [Hid]; unfold okLen; rw [hx0.out, hn]; simp; try omega
      have a3 := M3.num (k := 3) (by omega)
      obtain ⟨x3, hx3⟩ : ∃ x, Hid (at0 l 3 = x) := ⟨_, hide rfl⟩
      rw [hx3.out] at a3
      have a4 := M3.num (k := 4) (by omega)
      obtain ⟨x4, hx4⟩ : ∃ x, Hid (at0 l 4 = x) := ⟨_, hide rfl⟩
      rw [hx4.out] at a4
      have a5 := M3.num (k := 5) (by omega)
      obtain ⟨x5, hx5⟩ : ∃ x, Hid (at0 l 5 = x) := ⟨_, hide rfl⟩
      rw [hx5.out] at a5
      have k3 := M3.frm.at (k := 3) (by omega)
      have f3 := M3.frm.free 3
      have k4 := M3.frm.at (k := 4) (by omega)
      have f4 := M3.frm.free 4
      have k5 := M3.frm.at (k := 5) (by omega)
      have f5 := M3.frm.free 5
      have MF := hide (((M3.put (k := 3) (by omega) x3).put (k := 4) (by omega) x4).put (k := 5) (by omega) x5).drew
      rw [startF_in, inF_out] at MF
      have HE : Hid (framedF l = votF 3 x1 x2 x3 x4 x5) := by rw [Hid, framed_mid (.inr hx0.out), hx0.out, hx1.out, hx2.out, hx3.out, hx4.out, hx5.out]
      clear M3
      go_wp2_with (go_at_call 53; refine (in_any _ _ _ _).mono ?_; rintro e w' ⟨rfl, rfl⟩)
      go_region
      go_wp2_with (first
        | (go_at_call 53; refine (in_any _ _ _ _).mono ?_; rintro e w' ⟨rfl, rfl⟩)
        | (refine wpList_load_r rfl _ rfl Q rfl _ MF.out.frm ?_)
        | (refine wpList_store_rl rfl _ _ rfl w.heap.size (votF 3 x1 x2 x3 x4 x5) rfl rfl fr0 MF.out.res ?_))
      intro w9 HF9
      go_wp2
      refine bodyPost_ret (v := .tuple #[.agg (fCells (votF 3 x1 x2 x3 x4 x5)), .bool true]) ?_ rfl ⟨by rw [made_yes HOK.out, HE.out, HOK.out], MF.out.old.trans (HF9.out.2.2 _ (Nat.le_refl _))⟩
      exact results_cell2 Tryd.results80 rfl (load_r HF9.out.1)
    · have tL : (((n : Nat) : Int) == 6) = false := by simp; omega
      have MF := hide M3
      have HOK : Hid (okLen l = false) := by rw [Hid]; unfold okLen; rw [hx0.out, hn]; simp; try omega
      clear M3
      go_wp2_with (first
        | (go_at_call 53; refine (in_any _ _ _ _).mono ?_; rintro e w' ⟨rfl, rfl⟩)
        | (refine wpList_store_rl rfl _ _ rfl w.heap.size fr0 rfl rfl fr0 MF.out.res ?_))
      intro w9 HF9
      go_wp2
      refine bodyPost_ret (v := .tuple #[.agg (fCells fr0), .bool false]) ?_ rfl ⟨by rw [made_no HOK.out, HOK.out], MF.out.old.trans (HF9.out.2.2 _ (Nat.le_refl _))⟩
      exact results_cell2 Tryd.results80 rfl (load_r HF9.out.1)
  by_cases e4 : x0 = 4
  · subst e4
    have b2 : inB 4 2 3 = false := by decide
    by_cases hL : n = 3
    · subst hL
      have HOK : Hid (okLen l = true) := by rw [Hid]; unfold okLen; rw [hx0.out, hn]; simp; try omega
      have MF := hide M3
      have HE : Hid (framedF l = startF 4 x1 x2) := by
        have h := framed_else (l := l) (by rw [hx0.out]; decide) (by rw [hx0.out]; decide) (by rw [hx0.out]; decide) (by rw [hx0.out]; decide)
        rw [hx0.out, hx1.out, hx2.out] at h
        exact h
      clear M3
      go_wp2_with (first
        | (go_at_call 53; refine (in_any _ _ _ _).mono ?_; rintro e w' ⟨rfl, rfl⟩)
        | (refine wpList_load_r rfl _ rfl Q rfl _ MF.out.frm ?_)
        | (refine wpList_store_rl rfl _ _ rfl w.heap.size (startF 4 x1 x2) rfl rfl fr0 MF.out.res ?_))
      intro w9 HF9
      go_wp2
      refine bodyPost_ret (v := .tuple #[.agg (fCells (startF 4 x1 x2)), .bool true]) ?_ rfl ⟨by rw [made_yes HOK.out, HE.out, HOK.out], MF.out.old.trans (HF9.out.2.2 _ (Nat.le_refl _))⟩
      exact results_cell2 Tryd.results80 rfl (load_r HF9.out.1)
    · have tL : (((n : Nat) : Int) == 3) = false := by simp; omega
      have MF := hide M3
      have HOK : Hid (okLen l = false) := by rw [Hid]; unfold okLen; rw [hx0.out, hn]; simp; try omega
      clear M3
      go_wp2_with (first
        | (go_at_call 53; refine (in_any _ _ _ _).mono ?_; rintro e w' ⟨rfl, rfl⟩)
        | (refine wpList_store_rl rfl _ _ rfl w.heap.size fr0 rfl rfl fr0 MF.out.res ?_))
      intro w9 HF9
      go_wp2
      refine bodyPost_ret (v := .tuple #[.agg (fCells fr0), .bool false]) ?_ rfl ⟨by rw [made_no HOK.out, HOK.out], MF.out.old.trans (HF9.out.2.2 _ (Nat.le_refl _))⟩
      exact results_cell2 Tryd.results80 rfl (load_r HF9.out.1)
  by_cases e5 : x0 = 5
  · subst e5
    have b2 : inB 5 2 3 = false := by decide
    by_cases hL : n = 20
    · subst hL
      have HOK : Hid (okLen l = true) := by rw [Hid]; unfold okLen; rw [hx0.out, hn]; simp; try omega
      have a3 := M3.num (k := 3) (by omega)
      obtain ⟨x3, hx3⟩ : ∃ x, Hid (at0 l 3 = x) := ⟨_, hide rfl⟩
      rw [hx3.out] at a3
      have k6 := M3.frm.at (k := 6) (by omega)
      have f6 := M3.frm.free 6
      have M4 := M3.put (k := 6) (by omega) x3
      have hks := known_start l
      rw [hx0.out, hx1.out, hx2.out, hx3.out] at hks
      rw [hks] at M4
      have HM4 := hide M4
      clear M3 M4 hks
      go_wp2_with (go_at_call 53; refine (in_any _ _ _ _).mono ?_; rintro e w' ⟨rfl, rfl⟩)
      clear a3 k6 f6 k0
      go_loopw [82] (fun i wr => ∃ k : Nat, k ≤ 8 ∧ i = .int .i64 k ∧ MInv w wr w.heap.size Q b off l (knownF l k)) (fun i _ => 8 - (intOf i).toNat)
      case atStart => exact ⟨0, Nat.zero_le _, rfl, HM4.out⟩
      case round =>
        clear HM4
        obtain ⟨k, hk, rfl, hI⟩ := hrel
        by_cases hlt : k < 8
        · have n1 := hI.num (k := 4 + 2 * k) (by omega)
          have n2 := hI.num (k := 5 + 2 * k) (by omega)
          have u1 := hI.frm.at (k := 7 + k) (by omega)
          have u2 := hI.frm.at (k := 15 + k) (by omega)
          have g1 := hI.frm.free (7 + k)
          have g2 := hI.frm.free (15 + k)
          obtain ⟨y1, hy1⟩ : ∃ x, Hid (at0 l (4 + 2 * k) = x) := ⟨_, hide rfl⟩
          obtain ⟨y2, hy2⟩ : ∃ x, Hid (at0 l (5 + 2 * k) = x) := ⟨_, hide rfl⟩
          rw [hy1.out] at n1
          rw [hy2.out] at n2
          obtain ⟨z1, hz1⟩ : ∃ x, Hid (knownF l k (7 + k) = x) := ⟨_, hide rfl⟩
          obtain ⟨z2, hz2⟩ : ∃ x, Hid (knownF l k (15 + k) = x) := ⟨_, hide rfl⟩
          rw [hz1.out] at u1
          rw [hz2.out] at u2
          have PA := hide ((hI.put (k := 7 + k) (by omega) y1).put (k := 15 + k) (by omega) y2).drew
          rw [← hy1.out, ← hy2.out, known_next l k hlt] at PA
          rw [hy1.out, hy2.out] at PA
          clear hI
          go_wp2_with fail
          go_region
          clear n1 n2 u1 u2 g1 g2
          go_wp2
          go_roundw
          case rel => exact ⟨k + 1, by omega, by go_num, PA.out⟩
          case measure => simp [intOf]; omega
        · have hk8 : k = 8 := by omega
          subst hk8
          have MF := hide hI
          have HE : Hid (framedF l = knownF l 8) := framed_known hx0.out
          clear hI
          go_wp2_with (first
            | (go_at_call 53; refine (in_any _ _ _ _).mono ?_; rintro e w' ⟨rfl, rfl⟩)
            | (refine wpList_load_r rfl _ rfl Q rfl _ MF.out.frm ?_)
            | (refine wpList_store_rl rfl _ _ rfl w.heap.size (knownF l 8) rfl rfl fr0 MF.out.res ?_))
          intro w9 HF9
          go_wp2
          refine bodyPost_ret (v := .tuple #[.agg (fCells (knownF l 8)), .bool true]) ?_ rfl ⟨by rw [made_yes HOK.out, HE.out, HOK.out], MF.out.old.trans (HF9.out.2.2 _ (Nat.le_refl _))⟩
          exact results_cell2 Tryd.results80 rfl (load_r HF9.out.1)
    · have tL : (((n : Nat) : Int) == 20) = false := by simp; omega
      have MF := hide M3
      have HOK : Hid (okLen l = false) := by rw [Hid]; unfold okLen; rw [hx0.out, hn]; simp; try omega
      clear M3
      go_wp2_with (first
        | (go_at_call 53; refine (in_any _ _ _ _).mono ?_; rintro e w' ⟨rfl, rfl⟩)
        | (refine wpList_store_rl rfl _ _ rfl w.heap.size fr0 rfl rfl fr0 MF.out.res ?_))
      intro w9 HF9
      go_wp2
      refine bodyPost_ret (v := .tuple #[.agg (fCells fr0), .bool false]) ?_ rfl ⟨by rw [made_no HOK.out, HOK.out], MF.out.old.trans (HF9.out.2.2 _ (Nat.le_refl _))⟩
      exact results_cell2 Tryd.results80 rfl (load_r HF9.out.1)
  have t1 : (x0 == 1) = false := by simpa using e1
  have t4 : (x0 == 4) = false := by simpa using e4
  have t5 : (x0 == 5) = false := by simpa using e5
  have b2 : inB x0 2 3 = false := by unfold inB; simp; omega
  have MF := hide M3
  have HOK : Hid (okLen l = false) := by rw [Hid]; unfold okLen; rw [hx0.out]; simp [e1, e2, e3, e4, e5]
  clear M3 e1 e2 e3 e4 e5
  go_wp2_with (first
    | (go_at_call 53; refine (in_any _ _ _ _).mono ?_; rintro e w' ⟨rfl, rfl⟩)
    | (refine wpList_store_rl rfl _ _ rfl w.heap.size fr0 rfl rfl fr0 MF.out.res ?_))
  intro w9 HF9
  go_wp2
  refine bodyPost_ret (v := .tuple #[.agg (fCells fr0), .bool false]) ?_ rfl ⟨by rw [made_no HOK.out, HOK.out], MF.out.old.trans (HF9.out.2.2 _ (Nat.le_refl _))⟩
  exact results_cell2 Tryd.results80 rfl (load_r HF9.out.1)

theorem made_any (b off n cap : Nat) (l : List Int) (w : World) (hn : l.length = n) (hm : n ≤ 100) (hb : b < w.heap.size) (hr : Row w b off l) :
    Calls Tryd.prog 80 #[.slice (some ⟨b, off, none⟩) n cap] w fun e w' => e = .returned (.tuple #[.agg (fCells (madeF l)), .bool (okLen l)]) ∧ Below w.heap.size w w' := by
  by_cases h3 : n < 3
  · exact made_few _ n cap l w hn h3
  · exact made_main b off n cap l w hn (by omega) hm hb hr
end Go.Proofs.YtbiacknbaefccaaDoor
