import Derived.Test.YtaablbmgagiajaaGreatDoorTGBN
import Derived.Test.YtaablbmgagiajaaGreatDoorTGBM
namespace Go.Proofs.YtaablbmgagiajaaGreatDoor
open Go.RowKit Go.Deep
set_option maxHeartbeats 2000000 in
set_option maxRecDepth 20000 in
theorem tells_any (x0 x1 x2 x3 : Int) (a : Option Addr) (len cap : Nat) (w : World) (hl : len ≤ 30) (hrt : ∀ i, i < len → ∃ b off z, a = some ⟨b, off, none⟩ ∧ b < w.heap.size ∧ w.cell? ⟨b, off + i, none⟩ = some (.int .i64 z)) :
    Calls Tryz.prog 7 #[.int .i64 x0, .int .i64 x1, .slice a len cap, .int .i64 x2, .int .i64 x3] w fun e w' => (∃ N q E L, e = .returned (.pointer (some ⟨q, 0, none⟩)) ∧ w.heap.size ≤ q ∧ LOk L ∧ TaIs w' N q E L (3 + (pickF x2 18).toNat) (pickF x3 4).toNat ⟨sy0 (3 + (pickF x2 18).toNat), fun _ => 0, fun _ => 0, []⟩) ∧ Below w.heap.size w w' := by
  obtain ⟨w1', w2'⟩ := pickF_in x2 18 (by decide) (by decide)
  obtain ⟨l1, l2⟩ := pickF_in x3 4 (by decide) (by decide)
  have HPW := hide fun wx => pick_any x2 18 wx (by decide) (by decide)
  have HPL := hide fun wx => pick_any x3 4 wx (by decide) (by decide)
  obtain ⟨wi, hwi⟩ := Int.eq_ofNat_of_zero_le w1'
  obtain ⟨li, hli⟩ := Int.eq_ofNat_of_zero_le l1
  rw [hwi] at HPW w2' ⊢
  rw [hli] at HPL l2 ⊢
  rw [Int.toNat_natCast, Int.toNat_natCast]
  have HLN := hide (line_any x0 x1 a len cap w hl hrt)
  clear hrt hwi hli w1' l1
  go_enter Tryz.func7, Tryz.ntmps7
  go_wp2_with (go_at_call 21; refine HLN.out.mono ?_)
  rintro e w2 ⟨⟨x, rfl, s, d, b, off, n, cp, zs, rfl, hn, hcp, hb, hrow, hok⟩, hB2⟩
  have HB2 := hide hB2
  have hw2 : w.heap.size ≤ w2.heap.size := hB2.size
  have HROW := hide hrow
  have hr := range_pos hok
  unfold rangeB at hr
  simp only [Bool.and_eq_true, inB_iff] at hr
  obtain ⟨⟨⟨bs1, bs2⟩, b21, b22⟩, bd1, bd2⟩ := hr
  obtain ⟨sn, rfl⟩ := Int.eq_ofNat_of_zero_le (show 0 ≤ s by omega)
  obtain ⟨dn, rfl⟩ := Int.eq_ofNat_of_zero_le bd1
  obtain ⟨L, hLs, hLd, hLn, hLz⟩ : ∃ L : RC, Hid (L.s = sn) ∧ Hid (L.d = dn) ∧ Hid (L.n = n) ∧ Hid (L.zs = zs) := ⟨⟨sn, dn, n, zs, 0, 0, 0, 0, 0, 0⟩, hide rfl, hide rfl, hide rfl, hide rfl⟩
  have HL : Hid (LOk L) := hide ⟨by rw [hLs.out, hLz.out, hLd.out]; exact hok, by rw [hLz.out, hLn.out]; exact hn⟩
  clear hB2 hrow hok HLN bs1 bs2 b21 b22 bd1 bd2
  obtain ⟨W, hW⟩ : ∃ W, Hid (w2.alloc (.cells #[.pointer none, .int .i64 (sn : Int), .slice (some ⟨b, off, none⟩) n cp, .int .i64 (dn : Int), .int .i64 (li : Int), .int .i64 0, .int .i64 0, .int .i64 0, .int .i64 0, .int .i64 0, .int .i64 0, .slice none 0 0] 45) = W) := ⟨_, hide rfl⟩
  have hBW : Below w2.heap.size w2 W := by rw [← hW.out]; exact (Below.refl _ _).alloc (Nat.le_refl _) _
  have hbW : W.heap[w2.heap.size]? = some (.cells #[.pointer none, .int .i64 (sn : Int), .slice (some ⟨b, off, none⟩) n cp, .int .i64 (dn : Int), .int .i64 (li : Int), .int .i64 0, .int .i64 0, .int .i64 0, .int .i64 0, .int .i64 0, .int .i64 0, .slice none 0 0] 45 (0, 0)) := by rw [← hW.out]; exact blk_new _ _
  have hsW : W.heap.size = w2.heap.size + 1 := by rw [← hW.out]; simp
  have HNW : Hid (∀ wx, Below W.heap.size W wx → Calls Tryz.prog 16 #[.agg #[.int .i64 (sn : Int), .slice (some ⟨b, off, none⟩) n cp, .int .i64 (dn : Int)], .int .i64 (3 + wi : Int)] wx fun e w' => (∃ pd, e = .returned (.tuple #[.pointer (some ⟨pd, 0, none⟩), .nilIface]) ∧ (w'.cell? ⟨w2.heap.size, 0, none⟩ = some (.pointer none) ∧ w'.frozen? ⟨w2.heap.size, 0, none⟩ = false) ∧ Hid (w'.cell? ⟨w2.heap.size, 1, none⟩ = some (.int .i64 (sn : Int)) ∧ w'.cell? ⟨w2.heap.size, 2, none⟩ = some (.slice (some ⟨b, off, none⟩) n cp) ∧ w'.cell? ⟨w2.heap.size, 3, none⟩ = some (.int .i64 (dn : Int))) ∧
      Hid ((∃ N q E L, (.pointer (some ⟨w2.heap.size, 0, none⟩) : Value) = .pointer (some ⟨q, 0, none⟩) ∧ w.heap.size ≤ q ∧ LOk L ∧ TaIs (w'.setCell ⟨w2.heap.size, 0, none⟩ (.pointer (some ⟨pd, 0, none⟩))) N q E L (3 + wi) li ⟨sy0 (3 + wi), fun _ => 0, fun _ => 0, []⟩) ∧ Below w.heap.size w (w'.setCell ⟨w2.heap.size, 0, none⟩ (.pointer (some ⟨pd, 0, none⟩)))))) := hide fun wx hx => by
    have hrx : Row wx b off L.zs := by rw [hLz.out]; exact (HROW.out.below hb hBW).below (B := W.heap.size) (by omega) hx
    have key := synew_any W.heap.size L (3 + wi) b off cp wx HL.out (by omega) (by omega) (Nat.lt_of_lt_of_le (by omega) hx.size) hrx hx.size
    rw [hLs.out, hLd.out, hLn.out, show ((3 + wi : Nat) : Int) = 3 + (wi : Int) by omega] at key
    refine key.mono ?_
    rintro e w' ⟨⟨D, rfl, hD, hS⟩, hB⟩
    have hBx : Below W.heap.size W w' := hx.trans (hB.mono hx.size)
    have hb' := (hBx.block w2.heap.size (by omega)).trans hbW
    have hm : Mod w' (w'.setCell ⟨w2.heap.size, 0, none⟩ (.pointer (some ⟨D.p, 0, none⟩))) (· = w2.heap.size) := (Mod.refl _ _).set _ _ (fun _ => rfl)
    refine ⟨D.p, rfl, ⟨(blk_cell hb' 0).trans rfl, blk_free hb' 0⟩, hide ⟨(blk_cell hb' 1).trans rfl, (blk_cell hb' 2).trans rfl, (blk_cell hb' 3).trans rfl⟩, hide ⟨⟨W.heap.size, w2.heap.size, ⟨D, b, off, cp, .slice none 0 0, b⟩, L, rfl, hw2, HL.out, ?_⟩, ?_⟩⟩
    · refine ⟨?_, ?_, ?_, World.ownsRow_nil _ _ _ _, ⟨by show b < W.heap.size; omega, by show b ≠ w2.heap.size; omega⟩, by omega, fun y _ e => by simp [Value.ownBlock] at e, by rw [hLn.out]; exact hcp, Nat.le_trans hBx.size hm.size, ⟨fun y => ?_, by show b ≠ w2.heap.size; omega⟩, by simp [Value.ownBlock], ?_⟩
      · rw [blk_set hb' 0]
        unfold taC
        rw [hLs.out, hLn.out, hLd.out]
        rfl
      · intro k hk
        rw [World.cell?_of_block (w := w') (hm.block b (by have := hBx.size; omega) (by omega))]
        exact (hrx.below (B := wx.heap.size) (Nat.lt_of_lt_of_le (by omega) hx.size) hB) k hk
      · refine hS.far hm (fun k e y => ?_) (fun k e y => ?_) (fun k e y => ?_)
        · have := hS.base k y; omega
        · have := hS.sbase k y; omega
        · subst e
          exact TyAt.ne ⟨_, _, hb'⟩ y (by decide) rfl
      · have y' : W.heap.size ≤ b := hS.base b y
        omega
      · show b < (w'.setCell _ _).heap.size
        have := hBx.size
        have := hm.size
        omega
    · exact (HB2.out.trans ((hBW.trans (hBx.mono (by omega))).mono hw2)).setCell hw2 _
  have c1 : W.cell? ⟨w2.heap.size, 1, none⟩ = some (.int .i64 (sn : Int)) := (blk_cell hbW 1).trans rfl
  have c2 : W.cell? ⟨w2.heap.size, 2, none⟩ = some (.slice (some ⟨b, off, none⟩) n cp) := (blk_cell hbW 2).trans rfl
  have c3 : W.cell? ⟨w2.heap.size, 3, none⟩ = some (.int .i64 (dn : Int)) := (blk_cell hbW 3).trans rfl
  clear hBW hbW HROW HB2
  go_wp2_with (go_at_call 22; refine (unhide HPL _).mono ?_)
  rintro e wz ⟨rfl, hwz⟩
  subst wz
  go_wp2_with fail
  rw [show w2.alloc (.cells #[.pointer none, .int .i64 (sn : Int), .slice (some ⟨b, off, none⟩) n cp, .int .i64 (dn : Int), .int .i64 (li : Int), .int .i64 0, .int .i64 0, .int .i64 0, .int .i64 0, .int .i64 0, .int .i64 0, .slice none 0 0] 45) = W from hW.out]
  clear hW HPL
  refine wp_region_held_drew (S := fun w' => w'.cell? ⟨w2.heap.size, 1, none⟩ = some (.int .i64 (sn : Int)) ∧ w'.cell? ⟨w2.heap.size, 2, none⟩ = some (.slice (some ⟨b, off, none⟩) n cp) ∧ w'.cell? ⟨w2.heap.size, 3, none⟩ = some (.int .i64 (dn : Int))) (by kernel_rfl) ⟨c1, c2, c3⟩ (fun hHeld => ?_)
  refine wpAnyH_take (i := 0) (oi := _) (v := .pointer (some ⟨w2.heap.size, 0, none⟩)) rfl (by kernel_rfl) (by kernel_rfl) (by kernel_rfl) (fun _ _ _ h => h) (Or.inl ⟨by rfl, fun w _ => by go_simp⟩) hHeld ?_
  refine wpAnyH_take (i := 1) (oi := _) (v := .pointer (some ⟨w2.heap.size, 0, none⟩)) rfl (by kernel_rfl) (by kernel_rfl) (by kernel_rfl) (fun _ _ _ h => h) (Or.inl ⟨by rfl, fun w _ => by go_simp⟩) hHeld ?_
  refine wpAnyH_take (i := 2) (oi := _) (v := .pointer (some ⟨w2.heap.size, 1, none⟩)) rfl (by kernel_rfl) (by kernel_rfl) (by kernel_rfl) (fun _ _ _ h => h) (Or.inl ⟨by rfl, fun w _ => by go_simp⟩) hHeld ?_
  refine wpAnyH_take (i := 3) (oi := _) (v := .agg #[.int .i64 (sn : Int), .slice (some ⟨b, off, none⟩) n cp, .int .i64 (dn : Int)]) rfl (by kernel_rfl) (by kernel_rfl) (by kernel_rfl) (fun _ _ _ h => h) (Or.inl ⟨by rfl, fun w h => by obtain ⟨h1, h2, h3⟩ := h; go_simp⟩) hHeld ?_
  refine wpAnyH_take (i := 4) (oi := _) (v := .int .i64 x2) rfl (by kernel_rfl) (by kernel_rfl) (by kernel_rfl) (fun _ _ _ h => h) (Or.inl ⟨by rfl, fun w _ => by go_simp⟩) hHeld ?_
  refine wpAnyH_ready (rs := [5]) (by kernel_rfl) (by simp) ?_
  refine AllReadyH.cons (o := _) rfl (fun K hK => ?_) AllReadyH.nil
  rw [if_pos (by rfl)]
  go_simp
  go_at_call 22
  refine (unhide HPW _).mono ?_
  rintro e w5 ⟨rfl, rfl⟩
  dsimp only
  refine hK.out _ _ ⟨c1, c2, c3⟩ (fun hHeld => ?_)
  clear hK K
  refine wpAnyH_take (i := 6) (oi := _) (v := .int .i64 (3 + wi : Int)) rfl (by kernel_rfl) (by kernel_rfl) (by kernel_rfl) (fun _ _ _ h => h) (Or.inl ⟨by rfl, fun w _ => by go_simp; simp [IntKind.wrap, IntKind.bits, IntKind.signed]; omega⟩) hHeld ?_
  refine wpAnyH_ready (rs := [7]) (by kernel_rfl) (by simp) ?_
  refine AllReadyH.cons (o := _) rfl (fun K hK => ?_) AllReadyH.nil
  rw [if_pos (by rfl)]
  go_simp
  go_at_call 16
  refine (unhide HNW _ (Below.refl _ _).drew).mono ?_
  rintro e w6 ⟨pd, rfl, ⟨z0, z1⟩, HS6, HM⟩
  dsimp only
  refine hK.out _ _ HS6.out (fun hHeld => ?_)
  clear hK K
  refine wpAnyH_take (i := 8) (oi := _) (v := .tuple #[.pointer (some ⟨pd, 0, none⟩), .nilIface]) rfl (by kernel_rfl) (by kernel_rfl) (by kernel_rfl) (fun _ _ _ h => h) (Or.inl ⟨by rfl, fun w _ => by go_simp⟩) hHeld ?_
  refine wpAnyH_take (i := 9) (oi := _) (v := .pointer (some ⟨pd, 0, none⟩)) rfl (by kernel_rfl) (by kernel_rfl) (by kernel_rfl) (fun _ _ _ h => h) (Or.inl ⟨by rfl, fun w _ => by go_simp⟩) hHeld ?_
  refine wpAnyH_take (i := 10) (oi := _) (v := .nilIface) rfl (by kernel_rfl) (by kernel_rfl) (by kernel_rfl) (fun _ _ _ h => h) (Or.inl ⟨by rfl, fun w _ => by go_simp⟩) hHeld ?_
  refine wpAnyH_take (i := 11) (oi := _) (v := .pointer (some ⟨pd, 0, none⟩)) rfl (by kernel_rfl) (by kernel_rfl) (by kernel_rfl) (fun _ _ _ h => h) (Or.inl ⟨by rfl, fun w _ => by go_simp⟩) hHeld ?_
  refine wpAnyH_take (i := 12) (oi := _) (v := .nilIface) rfl (by kernel_rfl) (by kernel_rfl) (by kernel_rfl) (fun _ _ _ h => h) (Or.inl ⟨by rfl, fun w _ => by go_simp⟩) hHeld ?_
  refine wpAnyH_done (by kernel_rfl) ?_ _
  go_wp2_with fail
  go_ret
  obtain ⟨⟨N, q, E, L', e1, h1⟩, h2⟩ := HM.out
  exact ⟨⟨N, q, E, L', congrArg Ending.returned e1, h1⟩, h2⟩
theorem dst_rem (l j : Nat) (hl : l < 3) (hj : j < 3) : ((l : Int) + 1 + (j : Int)).tmod 4 = (((l + 1 + j) % 4 : Nat) : Int) := by
  rcases (by omega : l = 0 ∨ l = 1 ∨ l = 2) with rfl | rfl | rfl <;> rcases (by omega : j = 0 ∨ j = 1 ∨ j = 2) with rfl | rfl | rfl <;> decide
structure DoIn (V w : World) (N q : Nat) (E : TC) (L : RC) (win liar : Nat) (A : TS) (X : SD) : Prop where
  old : Below w.heap.size w V
  ta : TaIs V N q E L win liar A
  box : V.heap[w.heap.size]? = some (.cells (sdL X).toArray 38 (0, 0))
section
variable {V w : World} {N q : Nat} {E : TC} {L : RC} {win liar : Nat} {A : TS} {X : SD}
theorem DoIn.at (h : DoIn V w N q E L win liar A X) (j : Nat) : V.cell? ⟨w.heap.size, j, none⟩ = (sdL X)[j]? := (blk_cell h.box j).trans (by simp)
theorem DoIn.x0 (h : DoIn V w N q E L win liar A X) : V.cell? ⟨w.heap.size, 0, none⟩ = some (.int .i64 X.wh) := (h.at 0).trans rfl
theorem DoIn.x1 (h : DoIn V w N q E L win liar A X) : V.cell? ⟨w.heap.size, 1, none⟩ = some (.int .i64 X.k) := (h.at 1).trans rfl
theorem DoIn.x2 (h : DoIn V w N q E L win liar A X) : V.cell? ⟨w.heap.size, 2, none⟩ = some (.int .i64 X.n) := (h.at 2).trans rfl
theorem DoIn.x3 (h : DoIn V w N q E L win liar A X) : V.cell? ⟨w.heap.size, 3, none⟩ = some (.int .i64 X.x) := (h.at 3).trans rfl
theorem DoIn.x4 (h : DoIn V w N q E L win liar A X) : V.cell? ⟨w.heap.size, 4, none⟩ = some (.int .i64 X.y) := (h.at 4).trans rfl
theorem DoIn.x28 (h : DoIn V w N q E L win liar A X) : V.cell? ⟨w.heap.size, 28, none⟩ = some (.slice X.ba X.bl X.bc) := (h.at 28).trans (sdL_bytes X)
theorem DoIn.c0 (h : DoIn V w N q E L win liar A X) : V.cell? ⟨q, 0, none⟩ = some (.pointer (some ⟨E.D.p, 0, none⟩)) := (h.ta.at 0).trans rfl
theorem DoIn.c4 (h : DoIn V w N q E L win liar A X) : V.cell? ⟨q, 4, none⟩ = some (.int .i64 (liar : Int)) := (h.ta.at 4).trans rfl
theorem DoIn.below {V' : World} (h : DoIn V w N q E L win liar A X) (hB : Below V.heap.size V V') : DoIn V' w N q E L win liar A X := ⟨h.old.trans (hB.mono h.old.size), h.ta.below hB, (hB.block _ (blk_lt h.box)).trans h.box⟩
theorem DoIn.went (h : DoIn V w N q E L win liar A X) {w' : World} {S' : SY} (hg : SyGo V w' N E.D L win S') : TaGo w w' N q E L win liar ⟨S', A.fx, A.fy, A.seen⟩ := (h.ta.went hg).pre h.old
theorem taC_put (E : TC) (L : RC) (liar : Nat) (A : TS) {k : Nat} (hk : k < 3) (x y : Int) : ((taC E L liar A).setIfInBounds (5 + k * 2) (.int .i64 x)).setIfInBounds (5 + k * 2 + 1) (.int .i64 y) = taC E L liar ⟨A.S, upd A.fx k x, upd A.fy k y, A.seen⟩ := by
  rcases (by omega : k = 0 ∨ k = 1 ∨ k = 2) with rfl | rfl | rfl <;> simp [taC, upd]
theorem DoIn.stay (h : DoIn V w N q E L win liar A X) {w2 : World} {S' : SY} (hg : SyGo V w2 N E.D L win S') (j : Nat) : w2.cell? ⟨w.heap.size, j, none⟩ = (sdL X)[j]? := (blk_cell (hg.stays h.ta.sy h.box (by decide)) j).trans (by simp)
theorem DoIn.frame (h : DoIn V w N q E L win liar A X) : V.rangeAt w.heap.size 5 (fCells X.F).toList := fun j v hv => by
  have hj : j < 23 := by have := (List.getElem?_eq_some_iff.1 hv).1; simpa [fCells_size] using this
  rw [h.at (5 + j)]
  unfold sdL
  rw [List.getElem?_append_left (by simp [fCells_size]; omega), List.getElem?_append_right (by simp)]
  simpa using hv
theorem TaIs.fieldsM (h : TaIs V N q E L win liar A) {V' : World} (hm : Mod V V' (· = q)) {fx fy : Nat → Int} (hb : V'.heap[q]? = some (.cells (taC E L liar ⟨A.S, fx, fy, A.seen⟩) 45 (0, 0))) : TaIs V' N q E L win liar ⟨A.S, fx, fy, A.seen⟩ := by
  have lq := h.lq
  have h1 : Row V' E.b E.off L.zs := fun j hj => by
    rw [World.cell?_of_block (w := V) (hm.block E.b (Nat.lt_of_lt_of_le h.lb.1 h.size) h.lb.2)]
    exact h.row j hj
  have h2 : SyIs V' N E.D L win A.S := by
    refine h.sy.far hm (fun k e y => ?_) (fun k e y => ?_) (fun k e y => ?_)
    · have := h.sy.base k y; omega
    · have := h.sy.sbase k y; omega
    · subst e
      exact TyAt.ne ⟨_, _, h.blk⟩ y (by decide) rfl
  have h3 : V'.ownsRow N 94 5 E.sv A.seen.length (sgL A.seen) := ownsRow_mod h.seen hm fun g hg e => by have := (h.seen.lt g hg).1; omega
  exact ⟨hb, h1, h2, h3, h.lb, h.lq, h.far, h.cap, Nat.le_trans h.size hm.size, h.zz.1, h.zz.2.1, Nat.lt_of_lt_of_le h.zz.2.2 hm.size⟩
def fldW (V : World) (q k : Nat) (x y : Int) : World := (V.setCell ⟨q, 5 + k * 2, none⟩ (.int .i64 x)).setCell ⟨q, 5 + k * 2 + 1, none⟩ (.int .i64 y)
theorem TaIs.fields (h : TaIs V N q E L win liar A) {k : Nat} (hk : k < 3) (x y : Int) : TaIs (fldW V q k x y) N q E L win liar ⟨A.S, upd A.fx k x, upd A.fy k y, A.seen⟩ := by
  have hb := blk_set (blk_set h.blk (5 + k * 2) (.int .i64 x)) (5 + k * 2 + 1) (.int .i64 y)
  rw [taC_put E L liar A hk] at hb
  have hm1 : Mod V (V.setCell ⟨q, 5 + k * 2, none⟩ (.int .i64 x)) (· = q) := (Mod.refl _ _).set _ _ (fun _ => rfl)
  have hm2 : Mod V (fldW V q k x y) (· = q) := hm1.set ⟨q, 5 + k * 2 + 1, none⟩ (.int .i64 y) (fun _ => rfl)
  exact h.fieldsM hm2 hb
theorem DoIn.fmod (h : DoIn V w N q E L win liar A X) (k : Nat) (x y : Int) : Mod w (fldW V q k x y) (TaW N q E.z) := by
  have hm1 : Mod w (V.setCell ⟨q, 5 + k * 2, none⟩ (.int .i64 x)) (TaW N q E.z) := (Mod.ofBelow h.old _).set _ _ (fun _ => .inl rfl)
  exact hm1.set ⟨q, 5 + k * 2 + 1, none⟩ (.int .i64 y) (fun _ => .inl rfl)
theorem fmod' {V w : World} {N q z : Nat} (h : Mod w V (TaW N q z)) (k : Nat) (x y : Int) : Mod w (fldW V q k x y) (TaW N q z) := by
  have hm1 : Mod w (V.setCell ⟨q, 5 + k * 2, none⟩ (.int .i64 x)) (TaW N q z) := h.set _ _ (fun _ => .inl rfl)
  exact hm1.set ⟨q, 5 + k * 2 + 1, none⟩ (.int .i64 y) (fun _ => .inl rfl)
theorem TaGo.mod {V' : World} {A' : TS} (hm : Mod w V (TaW N q E.z)) (h : TaGo V V' N q E L win liar A') : TaGo w V' N q E L win liar A' := h.then ⟨rfl, rfl, rfl, rfl⟩ hm
end
end Go.Proofs.YtaablbmgagiajaaGreatDoor
