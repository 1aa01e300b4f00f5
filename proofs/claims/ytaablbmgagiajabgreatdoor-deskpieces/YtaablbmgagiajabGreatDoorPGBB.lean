import Derived.Test.YtaablbmgagiajabGreatDoorPGBA
import Derived.Lib.SliceRun
import Derived.BigQuiet
namespace Go.Proofs.YtaablbmgagiajabGreatDoor
open Go.RowKit Go.Deep
theorem results_mid {P : Program} {f : Func} {tmps : Array Value} {w : World} {a b k : Tmp} {t : TypeId} {ad : Addr} {v : Value} (hf : f.results = #[.tmp a, .cell b t, .tmp k]) (hb : tmps.getD b undef = .pointer (some ad)) (hl : (loadVar t ad).run P w = .ok v w) :
    (results f tmps).run P w = .ok (.tuple #[tmps.getD a undef, v, tmps.getD k undef]) w := by
  have hb' : tmps[b]?.getD undef = .pointer (some ad) := by simpa using hb
  simp only [results, hf]
  simp [asAddr, hb', hl]
set_option maxHeartbeats 2000000 in
set_option maxRecDepth 20000 in
theorem sreplica_any (N : Nat) (D : SC) (L : RC) (win : Nat) (S : SY) (w : World) (k : Nat) (hk : k < 3) (h : SyIs w N D L win S) :
    Calls Tryz.prog 20 #[.pointer (some ⟨D.p, 0, none⟩), .int .i64 (k : Int)] w fun e w' => e = .returned (.tuple #[.int .i64 (S.rp k).cycle, .agg (stCells (S.rp k).st), .nilIface]) ∧ Below w.heap.size w w' := by
  obtain ⟨W, hW⟩ : ∃ W, Hid (w.alloc (.cells (stCells st0) 34) = W) := ⟨_, hide rfl⟩
  have hB0 : Below w.heap.size w W := by rw [← hW.out]; exact (Below.refl _ _).alloc (Nat.le_refl _) _
  have hbx : StIs W w.heap.size st0 := by rw [← hW.out]; exact blk_new _ _
  have HR := hide (sysRep_any (k : Int) W)
  rw [isRep_lt hk] at HR
  have hk' : (k : Int) < 3 := by omega
  have hS := h.below hB0
  have HSS : Hid (∀ wx, Below W.heap.size W wx → wx.cell? ⟨D.p, 3 + k, none⟩ = some (.pointer (some ⟨D.rp k, 0, none⟩)) ∧ ∃ Y, StIs wx w.heap.size Y) := hide fun wx hx => ⟨(hS.below hx).rpAt hk, st0, (hx.block _ (blk_lt hbx)).trans hbx⟩
  have HC1 : Hid (Calls Tryz.prog 53 #[.pointer (some ⟨D.rp k, 0, none⟩)] W.drew fun e w' => e = .returned (.int .i64 (S.rp k).cycle) ∧ w' = W.drew) := hide (cycle_any (D.rp k) (D.C k) (S.rp k) W.drew (hS.drew.rp k hk))
  have HC2 : Hid (Calls Tryz.prog 54 #[.pointer (some ⟨D.rp k, 0, none⟩)] W.drew fun e w' => e = .returned (.agg (stCells (S.rp k).st)) ∧ Below W.heap.size W w' ∧ StIs w' w.heap.size st0) := hide (by
    refine (rstate_any (D.rp k) (D.C k) (S.rp k) W.drew (hS.drew.rp k hk)).mono ?_
    rintro e w2 ⟨rfl, hB⟩
    have hB2 : Below W.heap.size W w2 := (Below.refl _ _).drew.trans hB
    exact ⟨rfl, hB2, (hB2.block _ (blk_lt hbx)).trans hbx⟩)
  have HB0 := hide hB0
  obtain ⟨cy, hcy⟩ : ∃ cy, Hid ((S.rp k).cycle = cy) := ⟨_, hide rfl⟩
  obtain ⟨X, hX⟩ : ∃ X, Hid ((S.rp k).st = X) := ⟨_, hide rfl⟩
  rw [hcy.out] at HC1 ⊢
  rw [hX.out] at HC2 ⊢
  have hsz : w.heap.size < W.heap.size := blk_lt hbx
  have HNE := hide (Nat.ne_of_lt hS.lt)
  have hpne : w.heap.size ≠ D.p := by have := h.lt; omega
  clear h hS hbx hB0 hcy hX
  go_enter Tryz.func20, Tryz.ntmps20
  go_wp2_with fail
  rw [show w.alloc (.cells #[.int .i64 0, .int .i64 0, .int .i64 0, .int .i64 0, .int .i64 0, .int .i64 0, .int .i64 0, .int .i64 0, .int .i64 0, .int .i64 0, .int .i64 0, .int .i64 0, .int .i64 0, .int .i64 0, .int .i64 0, .int .i64 0, .int .i64 0] 34) = W from hW.out]
  refine HR.out.mono ?_
  rintro e wz ⟨rfl, rfl⟩
  clear hW
  go_wp2_with fail
  refine wp_region_held_drew (S := fun w' => w'.cell? ⟨D.p, 3 + k, none⟩ = some (.pointer (some ⟨D.rp k, 0, none⟩)) ∧ ∃ Y, StIs w' w.heap.size Y) (by kernel_rfl) (HSS.out _ (Below.refl _ _).drew) (fun hHeld => ?_)
  refine wpAnyH_take (i := 0) (oi := _) (v := .pointer (some ⟨D.p, 0, none⟩)) rfl (by kernel_rfl) (by kernel_rfl) (by kernel_rfl) (fun _ _ _ h => h) (Or.inl ⟨by rfl, fun w _ => by go_simp⟩) hHeld ?_
  simp only [Act.put, List.getElem_toArray, List.getElem_cons_zero, List.setIfInBounds_toArray, List.set_cons_succ, List.set_cons_zero]
  refine wpAnyH_take (i := 1) (oi := _) (v := .int .i64 (k : Int)) rfl (by kernel_rfl) (by kernel_rfl) (by kernel_rfl) (fun _ _ _ h => h) (Or.inl ⟨by rfl, fun w _ => by go_simp⟩) hHeld ?_
  simp only [Act.put, List.getElem_toArray, List.getElem_cons_succ, List.getElem_cons_zero, List.setIfInBounds_toArray, List.set_cons_succ, List.set_cons_zero]
  refine wpAnyH_take (i := 2) (oi := _) (v := .pointer (some ⟨D.p, 0, none⟩)) rfl (by kernel_rfl) (by kernel_rfl) (by kernel_rfl) (fun _ _ _ h => h) (Or.inl ⟨by rfl, fun w _ => by go_simp⟩) hHeld ?_
  simp only [Act.put, List.getElem_toArray, List.getElem_cons_succ, List.getElem_cons_zero, List.setIfInBounds_toArray, List.set_cons_succ, List.set_cons_zero]
  refine wpAnyH_take (i := 3) (oi := _) (v := .pointer (some ⟨D.p, 3, none⟩)) rfl (by kernel_rfl) (by kernel_rfl) (by kernel_rfl) (fun _ _ _ h => h) (Or.inl ⟨by rfl, fun w _ => by go_simp⟩) hHeld ?_
  simp only [Act.put, List.getElem_toArray, List.getElem_cons_succ, List.getElem_cons_zero, List.setIfInBounds_toArray, List.set_cons_succ, List.set_cons_zero]
  refine wpAnyH_take (i := 4) (oi := _) (v := .pointer (some ⟨D.p, 3 + k, none⟩)) rfl (by kernel_rfl) (by kernel_rfl) (by kernel_rfl) (fun _ _ _ h => h) (Or.inl ⟨by rfl, fun w _ => by go_simp⟩) hHeld ?_
  simp only [Act.put, List.getElem_toArray, List.getElem_cons_succ, List.getElem_cons_zero, List.setIfInBounds_toArray, List.set_cons_succ, List.set_cons_zero]
  refine wpAnyH_take (i := 5) (oi := _) (v := .pointer (some ⟨D.rp k, 0, none⟩)) rfl (by kernel_rfl) (by kernel_rfl) (by kernel_rfl) (fun _ _ _ h => h) (Or.inl ⟨by rfl, fun w h => by obtain ⟨h1, _⟩ := h; go_simp⟩) hHeld ?_
  simp only [Act.put, List.getElem_toArray, List.getElem_cons_succ, List.getElem_cons_zero, List.setIfInBounds_toArray, List.set_cons_succ, List.set_cons_zero]
  refine wpAnyH_take (i := 7) (oi := _) (v := .pointer (some ⟨D.p, 0, none⟩)) rfl (by kernel_rfl) (by kernel_rfl) (by kernel_rfl) (fun _ _ _ h => h) (Or.inl ⟨by rfl, fun w _ => by go_simp⟩) hHeld ?_
  simp only [Act.put, List.getElem_toArray, List.getElem_cons_succ, List.getElem_cons_zero, List.setIfInBounds_toArray, List.set_cons_succ, List.set_cons_zero]
  refine wpAnyH_take (i := 8) (oi := _) (v := .int .i64 (k : Int)) rfl (by kernel_rfl) (by kernel_rfl) (by kernel_rfl) (fun _ _ _ h => h) (Or.inl ⟨by rfl, fun w _ => by go_simp⟩) hHeld ?_
  simp only [Act.put, List.getElem_toArray, List.getElem_cons_succ, List.getElem_cons_zero, List.setIfInBounds_toArray, List.set_cons_succ, List.set_cons_zero]
  refine wpAnyH_take (i := 9) (oi := _) (v := .pointer (some ⟨D.p, 0, none⟩)) rfl (by kernel_rfl) (by kernel_rfl) (by kernel_rfl) (fun _ _ _ h => h) (Or.inl ⟨by rfl, fun w _ => by go_simp⟩) hHeld ?_
  simp only [Act.put, List.getElem_toArray, List.getElem_cons_succ, List.getElem_cons_zero, List.setIfInBounds_toArray, List.set_cons_succ, List.set_cons_zero]
  refine wpAnyH_take (i := 10) (oi := _) (v := .pointer (some ⟨D.p, 3, none⟩)) rfl (by kernel_rfl) (by kernel_rfl) (by kernel_rfl) (fun _ _ _ h => h) (Or.inl ⟨by rfl, fun w _ => by go_simp⟩) hHeld ?_
  simp only [Act.put, List.getElem_toArray, List.getElem_cons_succ, List.getElem_cons_zero, List.setIfInBounds_toArray, List.set_cons_succ, List.set_cons_zero]
  refine wpAnyH_take (i := 11) (oi := _) (v := .pointer (some ⟨D.p, 3 + k, none⟩)) rfl (by kernel_rfl) (by kernel_rfl) (by kernel_rfl) (fun _ _ _ h => h) (Or.inl ⟨by rfl, fun w _ => by go_simp⟩) hHeld ?_
  simp only [Act.put, List.getElem_toArray, List.getElem_cons_succ, List.getElem_cons_zero, List.setIfInBounds_toArray, List.set_cons_succ, List.set_cons_zero]
  refine wpAnyH_take (i := 12) (oi := _) (v := .pointer (some ⟨D.rp k, 0, none⟩)) rfl (by kernel_rfl) (by kernel_rfl) (by kernel_rfl) (fun _ _ _ h => h) (Or.inl ⟨by rfl, fun w h => by obtain ⟨h1, _⟩ := h; go_simp⟩) hHeld ?_
  simp only [Act.put, List.getElem_toArray, List.getElem_cons_succ, List.getElem_cons_zero, List.setIfInBounds_toArray, List.set_cons_succ, List.set_cons_zero]
  refine wpAnyH_ready (rs := [6]) (by kernel_rfl) (by simp) ?_
  refine AllReadyH.cons (o := _) rfl (fun K hK => ?_) AllReadyH.nil
  rw [if_pos (by rfl)]
  go_simp
  go_at_call 53
  refine HC1.out.mono ?_
  rintro e w5 ⟨rfl, rfl⟩
  dsimp only
  refine hK.out _ _ (HSS.out _ (Below.refl _ _).drew) (fun hHeld => ?_)
  clear hK K
  refine wpAnyH_ready (rs := [13]) (by kernel_rfl) (by simp) ?_
  refine AllReadyH.cons (o := _) rfl (fun K hK => ?_) AllReadyH.nil
  rw [if_pos (by rfl)]
  go_simp
  go_at_call 54
  refine HC2.out.mono ?_
  rintro e w6 ⟨rfl, hB6, hst6⟩
  dsimp only
  refine hK.out _ _ (HSS.out _ hB6) (fun hHeld => ?_)
  clear hK K
  refine wpAnyH_take (i := 14) (oi := _) (v := .int .i64 cy) rfl (by kernel_rfl) (by kernel_rfl) (by kernel_rfl) (fun _ _ _ h => h) (Or.inl ⟨by rfl, fun w _ => by go_simp⟩) hHeld ?_
  simp only [Act.put, List.getElem_toArray, List.getElem_cons_succ, List.getElem_cons_zero, List.setIfInBounds_toArray, List.set_cons_succ, List.set_cons_zero]
  refine wpAnyH_ready (rs := [15]) (by kernel_rfl) (by simp) ?_
  refine AllReadyH.cons (o := _) rfl (fun K hK => ?_) AllReadyH.nil
  rw [if_pos (by rfl)]
  refine wp_store_row _ _ _ rfl _ _ rfl rfl _ _ hst6 (by rw [stateInfo]; rfl) rfl (oneCells X) ?_
  refine hK.out _ _ ⟨(World.cell?_of_block (w := w6) (row_other _ _ _ _ (fun e => hpne e.symm))).trans (HSS.out _ hB6).1, X, row_same hst6 X⟩ (fun hHeld => ?_)
  clear hK K
  simp only [Act.put]
  refine wpAnyH_take (i := 16) (oi := _) (v := .nilIface) rfl (by kernel_rfl) (by kernel_rfl) (by kernel_rfl) (fun _ _ _ h => h) (Or.inl ⟨by rfl, fun w _ => by go_simp⟩) hHeld ?_
  simp only [Act.put, List.getElem_toArray, List.getElem_cons_succ, List.getElem_cons_zero, List.setIfInBounds_toArray, List.set_cons_succ, List.set_cons_zero]
  refine wpAnyH_done (by kernel_rfl) ?_ _
  have HST := hide (row_same hst6 X)
  have HBB := hide (below_row (HB0.out.trans (hB6.mono (by omega))) (Nat.le_refl w.heap.size) (stCells X))
  clear hHeld hst6 hB6
  generalize w6.setRow w.heap.size (stCells X) = w7 at HST HBB ⊢
  go_wp2
  exact bodyPost_ret (results_mid rfl rfl (load_s HST.out)) rfl ⟨rfl, HBB.out⟩
set_option maxHeartbeats 1000000 in
theorem cloneC_any (N : Nat) (tv : Value) (l : List Cm) (w : World) (h : TIs w N tv l) (hl : l.length ≤ 1000) :
    Calls Tryz.prog 86 #[tv] w fun e w' => (∃ v, e = .returned v ∧ TIs w' w.heap.size v l) ∧ Below w.heap.size w w' := by
  rcases h.2 with ⟨rfl, h0⟩ | ⟨g, cap, cur, rfl, h1, h2, h3, h4, h5, h6⟩
  · have e : l = [] := List.length_eq_zero_iff.1 h0
    subst e
    clear h h0
    have hq : ∀ wx : World, (binOp .eql 28 (.slice none 0 0) (.slice none 0 0)).run Tryz.prog wx = .ok (.bool true) wx := fun wx => by kernel_rfl
    go_enter Tryz.func86, Tryz.ntmps86
    go_wp2
    go_ret
    exact ⟨⟨_, rfl, World.ownsRow_nil _ _ _ _⟩, Below.refl _ _⟩
  · obtain ⟨i0, hi, hz0, hz1, hz2⟩ := info_parts infoCommit
    have HI := hide hi
    have HZ0 := hide hz0
    have HZ1 := hide hz1
    have HZ2 := hide hz2
    have HT := hide h6
    have HG := hide h2
    have hgl := blk_lt h2
    have hq : ∀ wx : World, (binOp .eql 28 (.slice (some ⟨g, 0, none⟩) l.length cap) (.slice none 0 0)).run Tryz.prog wx = .ok (.bool false) wx := fun wx => Lib.run_eql_slice_nil wx _ _ _ _ _ _ _ Tryz.underlying28
    clear hi hz0 hz1 hz2 h h6 h2 h5 h4
    go_enter Tryz.func86, Tryz.ntmps86
    go_wp2_with (at_builtin; refine wpList_append_own _ rfl _ _ 28 rfl w.heap.size 49 i0 (.agg #[.int .i64 0, .int .i64 0, .int .i64 0]) 3 24 Tryz.underlying28 HI.out HZ0.out HZ1.out HZ2.out rfl (by decide) _ _ _ rfl (World.ownsRow_made w #[] 0 (Nat.le_refl _) (by unfold maxLen; omega) rfl) ⟨g, 0, none⟩ l.length cap (cmL l) rfl (cmL_length l) ?c1 ?c2 ?c3 ?c4 ?c5 ?_)
    case c1 =>
      intro j u hj
      have hj' : j < l.length * 3 := by
        have := (List.getElem?_eq_some_iff.1 hj).1
        rw [cmL_length] at this
        exact this
      have e : (⟨g, 0, none⟩ : Addr).add j = ⟨g, j, none⟩ := by unfold Addr.add; split <;> simp_all
      rw [e, World.cell?_alloc_past _ _ _ hgl, blk_cell HG.out, ← Array.getElem?_toList]
      have := HT.out
      rw [← this, List.getElem?_take, if_pos hj'] at hj
      exact hj
    case c2 => exact cmL_one l
    case c3 => unfold maxLen; omega
    case c4 => omega
    case c5 => simp
    intro v' w1 hown hgrow _
    have hold : Below w.heap.size w w1 := ((Below.refl _ _).alloc (Nat.le_refl _) _).grown hgrow (by simp) (fun j hj => by
      have : w.heap.size = j := by simpa [Value.ownBlock] using hj
      omega)
    have ht : TIs w1 w.heap.size v' l := by
      unfold TIs
      simpa using hown
    have HT1 := hide ht
    have HOLD := hide hold
    clear ht hold hown hgrow
    go_wp2
    go_ret
    exact ⟨⟨_, rfl, HT1.out⟩, HOLD.out⟩
set_option maxHeartbeats 1000000 in
theorem trace_any (N p win : Nat) (tv : Value) (S : VS) (w : World) (h : VIs w N p win tv S) (hok : VOk win S) :
    Calls Tryz.prog 42 #[.pointer (some ⟨p, 0, none⟩)] w fun e w' => (∃ v, e = .returned v ∧ TIs w' w.heap.size v S.tr) ∧ Below w.heap.size w w' := by
  have c0 : w.cell? ⟨p, 0, none⟩ = some tv := (h.at 0).trans rfl
  have HC := hide (cloneC_any N tv S.tr w h.row hok.few)
  clear h hok
  go_enter Tryz.func42, Tryz.ntmps42
  go_wp2_with (go_at_call 86; refine HC.out.mono ?_; rintro e w' ⟨⟨v, rfl, ht⟩, hB⟩)
  go_ret
  exact ⟨⟨_, rfl, ht⟩, hB⟩
theorem strace_any (N : Nat) (D : SC) (L : RC) (win : Nat) (S : SY) (w : World) (h : SyIs w N D L win S) (hok : VOk win S.v) :
    Calls Tryz.prog 13 #[.pointer (some ⟨D.p, 0, none⟩)] w fun e w' => (∃ v, e = .returned v ∧ TIs w' w.heap.size v S.v.tr) ∧ Below w.heap.size w w' := by
  have c6 := h.vt6
  have HC := hide (trace_any N D.vp win D.tv S.v w h.vt hok)
  clear h hok
  go_enter Tryz.func13, Tryz.ntmps13
  go_wp2_with fail
  refine HC.out.mono ?_
  rintro e w2 ⟨⟨v, rfl, ht⟩, hB⟩
  go_wp2
  go_ret
  exact ⟨⟨v, rfl, ht⟩, hB⟩
theorem slatched_any (N : Nat) (D : SC) (L : RC) (win : Nat) (S : SY) (w : World) (h : SyIs w N D L win S) :
    Calls Tryz.prog 14 #[.pointer (some ⟨D.p, 0, none⟩)] w fun e w' => e = .returned (.bool S.v.lat) ∧ w' = w := by
  have c6 := h.vt6
  have HC := hide (latched_any N D.vp win D.tv S.v w h.vt)
  clear h
  go_enter Tryz.func14, Tryz.ntmps14
  go_wp2_with fail
  refine HC.out.mono ?_
  rintro e w2 ⟨rfl, rfl⟩
  go_wp2
  go_ret
  exact ⟨rfl, rfl⟩
theorem sout_any (N : Nat) (D : SC) (L : RC) (win : Nat) (S : SY) (w : World) (h : SyIs w N D L win S) :
    Calls Tryz.prog 17 #[.pointer (some ⟨D.p, 0, none⟩)] w fun e w' => e = .returned (.int .i64 (S.v.out : Int)) ∧ w' = w := by
  have c6 := h.vt6
  have HC := hide (out_any N D.vp win D.tv S.v w h.vt)
  clear h
  go_enter Tryz.func17, Tryz.ntmps17
  go_wp2_with fail
  refine HC.out.mono ?_
  rintro e w2 ⟨rfl, rfl⟩
  go_wp2
  go_ret
  exact ⟨rfl, rfl⟩
def syC (L : RC) (g0 c0 : Nat) (r : Nat → Value) (v nv lo : Value) : Array Value := #[.int .i64 (L.s : Int), .slice (some ⟨g0, 0, none⟩) L.n c0, .int .i64 (L.d : Int), r 0, r 1, r 2, v, nv, lo]
theorem syC_put (L : RC) (g0 c0 : Nat) (r : Nat → Value) (v nv lo u : Value) {k : Nat} (hk : k < 3) : (syC L g0 c0 r v nv lo).setIfInBounds (3 + k) u = syC L g0 c0 (upd r k u) v nv lo := by
  rcases (by omega : k = 0 ∨ k = 1 ∨ k = 2) with rfl | rfl | rfl <;> rfl
theorem syC_at (L : RC) (g0 c0 : Nat) (r : Nat → Value) (v nv lo : Value) {k : Nat} (hk : k < 3) : (syC L g0 c0 r v nv lo)[3 + k]? = some (r k) := by
  rcases (by omega : k = 0 ∨ k = 1 ∨ k = 2) with rfl | rfl | rfl <;> rfl
def FromB (B q : Nat) (C : RC) : Prop := B ≤ q ∧ B ≤ C.pc ∧ B ≤ C.g ∧ B ≤ C.M ∧ B ≤ C.g2
set_option maxHeartbeats 1000000 in
set_option maxRecDepth 20000 in
theorem crash_low (p g0 c0 : Nat) (L : RC) (r : Nat → Value) (v nv lo : Value) (k : Nat) (w : World) (hk : k < 3) (hL : LOk L) (hb : w.heap[p]? = some (.cells (syC L g0 c0 r v nv lo) 90 (0, 0))) (hrow : Row w g0 0 L.zs) (hlt : g0 < w.heap.size) (hcap : L.n ≤ c0) :
    Calls Tryz.prog 38 #[.pointer (some ⟨p, 0, none⟩), .int .i64 (k : Int)] w fun e w' => e = .returned .nilIface ∧ ∃ q C, FromB w.heap.size q C ∧ LineIs C L ∧ RpIs w' q C (new0 k) ∧ w'.heap[p]? = some (.cells (syC L g0 c0 (upd r k (.pointer (some ⟨q, 0, none⟩))) v nv lo) 90 (0, 0)) ∧ Mod w w' (· = p) := by
  have c0' : w.cell? ⟨p, 0, none⟩ = some (.int .i64 (L.s : Int)) := (blk_cell hb 0).trans rfl
  have c1 : w.cell? ⟨p, 1, none⟩ = some (.slice (some ⟨g0, 0, none⟩) L.n c0) := (blk_cell hb 1).trans rfl
  have c2 : w.cell? ⟨p, 2, none⟩ = some (.int .i64 (L.d : Int)) := (blk_cell hb 2).trans rfl
  have hk' : (k : Int) < 3 := by omega
  have hpl := blk_lt hb
  have hcall : Calls Tryz.prog 80 #[.int .i64 (k : Int), .agg #[.int .i64 (L.s : Int), .slice (some ⟨g0, 0, none⟩) L.n c0, .int .i64 (L.d : Int)]] w fun e w1 => ∃ q C, e = .returned (.tuple #[.pointer (some ⟨q, 0, none⟩), .nilIface]) ∧ (w1.cell? ⟨p, 3 + k, none⟩ = some (r k) ∧ w1.frozen? ⟨p, 3 + k, none⟩ = false) ∧
      Hid (FromB w.heap.size q C ∧ LineIs C L ∧ RpIs (w1.setCell ⟨p, 3 + k, none⟩ (.pointer (some ⟨q, 0, none⟩))) q C (new0 k) ∧ (w1.setCell ⟨p, 3 + k, none⟩ (.pointer (some ⟨q, 0, none⟩))).heap[p]? = some (.cells (syC L g0 c0 (upd r k (.pointer (some ⟨q, 0, none⟩))) v nv lo) 90 (0, 0)) ∧ Mod w (w1.setCell ⟨p, 3 + k, none⟩ (.pointer (some ⟨q, 0, none⟩))) (· = p)) := by
    refine (rnew_ok k L.s L.d g0 0 L.n c0 L.zs w hk hL.len hL.ok hlt hrow hcap).mono ?_
    rintro e w1 ⟨⟨q, C, q1, q2, q3, q4, q5, e1, e2, e3, e4, rfl, hR⟩, hB⟩
    have hb1 := (hB.block p hpl).trans hb
    have hm : Mod w1 (w1.setCell ⟨p, 3 + k, none⟩ (.pointer (some ⟨q, 0, none⟩))) (· = p) := (Mod.refl _ _).set _ _ (fun _ => rfl)
    refine ⟨q, C, rfl, ⟨(blk_cell hb1 _).trans (syC_at L g0 c0 r v nv lo hk), blk_free hb1 _⟩, hide ⟨⟨q1, q2, q3, q4, q5⟩, ⟨e1, e2, e3, e4⟩, hR.other hm ⟨by omega, by omega, by omega, by omega, by omega⟩, ?_, (Mod.ofBelow hB _).set _ _ (fun _ => rfl)⟩⟩
    rw [blk_set hb1, syC_put _ _ _ _ _ _ _ _ hk]
  have HC := hide hcall
  clear hcall hb hrow hL
  go_enter Tryz.func38, Tryz.ntmps38
  go_wp2_with fail
  refine HC.out.mono ?_
  rintro e w1 ⟨q, C, rfl, ⟨z0, z1⟩, HM⟩
  go_wp2
  go_ret
  exact ⟨rfl, q, C, HM.out⟩
theorem syCells_eq (D : SC) (L : RC) : syCells D L = syC L D.g0 D.c0 (fun j => .pointer (some ⟨D.rp j, 0, none⟩)) (.pointer (some ⟨D.vp, 0, none⟩)) D.nv (.int .i64 D.lost) := rfl
theorem upd_ptr (rp : Nat → Nat) (k q : Nat) : upd (fun j => Value.pointer (some ⟨rp j, 0, none⟩)) k (.pointer (some ⟨q, 0, none⟩)) = fun j => .pointer (some ⟨upd rp k q j, 0, none⟩) := by
  funext j
  unfold upd
  split <;> rfl
def sy0 (win : Nat) : SY := ⟨fun k => new0 k, vs0 win, []⟩
structure NwInv (w wr : World) (L : RC) (p g0 c0 k : Nat) (rp : Nat → Nat) (C : Nat → RC) (B : Nat → Nat) : Prop where
  old : Below w.heap.size w wr
  blk : wr.heap[p]? = some (.cells (syC L g0 c0 (fun j => if j < k then .pointer (some ⟨rp j, 0, none⟩) else .pointer none) (.pointer none) (.slice none 0 0) (.int .i64 0)) 90 (0, 0))
  row : Row wr g0 0 L.zs
  lo0 : w.heap.size ≤ g0 ∧ g0 < p
  cap : L.n ≤ c0
  rp : ∀ j, j < k → RpIs wr (rp j) (C j) (new0 j) ∧ LineIs (C j) L ∧ FromB (B j) (rp j) (C j) ∧ (rp j < B (j + 1) ∧ (C j).pc < B (j + 1) ∧ (C j).g < B (j + 1) ∧ (C j).M < B (j + 1) ∧ (C j).g2 < B (j + 1))
  B0 : p < B 0
  Bk : B k ≤ wr.heap.size
  mono : ∀ j, j < k → B j ≤ B (j + 1)
theorem NwInv.Ble {w wr : World} {L : RC} {p g0 c0 k : Nat} {rp : Nat → Nat} {C : Nat → RC} {B : Nat → Nat} (h : NwInv w wr L p g0 c0 k rp C B) {i : Nat} : ∀ {j : Nat}, i ≤ j → j ≤ k → B i ≤ B j
  | 0, hij, _ => by rw [show i = 0 by omega]; exact Nat.le_refl _
  | j + 1, hij, hj => by
    by_cases e : i = j + 1
    · rw [e]; exact Nat.le_refl _
    · exact Nat.le_trans (h.Ble (j := j) (by omega) (by omega)) (h.mono j (by omega))
theorem NwInv.next {w wr w' : World} {L : RC} {p g0 c0 k : Nat} {rp : Nat → Nat} {C : Nat → RC} {B : Nat → Nat} (h : NwInv w wr L p g0 c0 k rp C B) (hw : w.heap.size ≤ p) {q : Nat} {C1 : RC} (hF : FromB wr.heap.size q C1) (hl : LineIs C1 L) (hR : RpIs w' q C1 (new0 k))
    (hb : w'.heap[p]? = some (.cells (syC L g0 c0 (upd (fun j => if j < k then .pointer (some ⟨rp j, 0, none⟩) else .pointer none) k (.pointer (some ⟨q, 0, none⟩))) (.pointer none) (.slice none 0 0) (.int .i64 0)) 90 (0, 0))) (hm : Mod wr w' (· = p)) :
    NwInv w w' L p g0 c0 (k + 1) (upd rp k q) (upd C k C1) (upd (upd B k wr.heap.size) (k + 1) w'.heap.size) := by
  have hpl := blk_lt h.blk
  have hBk := h.Bk
  have hB0 := h.B0
  have hg := h.lo0
  have hBle : ∀ j, j ≤ k → B j ≤ wr.heap.size := fun j hj => Nat.le_trans (h.Ble hj (Nat.le_refl _)) hBk
  have hpB : ∀ j, j ≤ k → p < B j := fun j hj => Nat.lt_of_lt_of_le hB0 (h.Ble (Nat.zero_le _) hj)
  have hub : ∀ j, j < k → upd (upd B k wr.heap.size) (k + 1) w'.heap.size j = B j := fun j hj => by rw [upd_other _ _ (by omega), upd_other _ _ (by omega)]
  have huk : upd (upd B k wr.heap.size) (k + 1) w'.heap.size k = wr.heap.size := by rw [upd_other _ _ (by omega), upd_same]
  have huk1 : upd (upd B k wr.heap.size) (k + 1) w'.heap.size (k + 1) = w'.heap.size := upd_same _ _ _
  have hfn : (fun j => if j < k + 1 then Value.pointer (some ⟨upd rp k q j, 0, none⟩) else .pointer none) = upd (fun j => if j < k then .pointer (some ⟨rp j, 0, none⟩) else .pointer none) k (.pointer (some ⟨q, 0, none⟩)) := by
    funext j
    unfold upd
    by_cases e : j = k
    · rw [if_pos e, if_pos e, if_pos (by omega)]
    · rw [if_neg e, if_neg e]
      show (if j < k + 1 then _ else _) = (if j < k then _ else _)
      by_cases e2 : j < k
      · rw [if_pos e2, if_pos (by omega)]
      · rw [if_neg e2, if_neg (by omega)]
  refine ⟨⟨hm.os.trans h.old.os, hm.tape.trans h.old.tape, hm.output.trans h.old.output, Nat.le_trans h.old.size hm.size, fun j hj => (hm.block j (Nat.lt_of_lt_of_le hj h.old.size) (by omega)).trans (h.old.block j hj)⟩, by rw [hfn]; exact hb, fun i hi => (World.cell?_of_block (w := wr) (hm.block g0 (by omega) (by omega))).trans (h.row i hi), h.lo0, h.cap, fun j hj => ?_, ?_, by rw [huk1]; exact Nat.le_refl _, fun j hj => ?_⟩
  · by_cases e : j = k
    · subst e
      rw [upd_same, upd_same, huk, huk1]
      exact ⟨hR, hl, hF, hR.lt, hR.core.plt, hR.core.glt, hR.core.mlt, hR.lt2⟩
    · obtain ⟨a1, a2, a3, a4, a5, a6, a7, a8⟩ := h.rp j (by omega)
      rw [upd_other _ _ e, upd_other _ _ e, hub j (by omega)]
      have hj1 : B (j + 1) ≤ upd (upd B k wr.heap.size) (k + 1) w'.heap.size (j + 1) := by
        by_cases e2 : j + 1 = k
        · rw [e2, huk]; exact hBk
        · rw [hub _ (by omega)]; exact Nat.le_refl _
      have hp := hpB j (by omega)
      obtain ⟨b1, b2, b3, b4, b5⟩ := a3
      exact ⟨a1.other hm ⟨by omega, by omega, by omega, by omega, by omega⟩, a2, ⟨b1, b2, b3, b4, b5⟩, by omega, by omega, by omega, by omega, by omega⟩
  · by_cases e : k = 0
    · subst e; rw [huk]; omega
    · rw [hub 0 (by omega)]; exact hB0
  · by_cases e : j = k
    · subst e; rw [huk, huk1]; exact hm.size
    · rw [hub j (by omega)]
      by_cases e2 : j + 1 = k
      · rw [e2, huk]; exact hBle j (by omega)
      · rw [hub _ (by omega)]; exact h.mono j (by omega)
theorem NwInv.done {w wr w' : World} {L : RC} {p g0 c0 win vp : Nat} {rp : Nat → Nat} {C : Nat → RC} {B : Nat → Nat} (h : NwInv w wr L p g0 c0 3 rp C B) (hw : w.heap.size ≤ p) (hB : Below wr.heap.size wr w') (hvp : vp = wr.heap.size) (hV : VIs w' wr.heap.size vp win (.slice none 0 0) (vs0 win)) (N : Nat) (hN : N ≤ w.heap.size) :
    SyIs (w'.setCell ⟨p, 6, none⟩ (.pointer (some ⟨vp, 0, none⟩))) N ⟨p, g0, c0, rp, C, vp, .slice none 0 0, .slice none 0 0, [], 0⟩ L win (sy0 win) ∧ Below w.heap.size w (w'.setCell ⟨p, 6, none⟩ (.pointer (some ⟨vp, 0, none⟩))) := by
  have hpl := blk_lt h.blk
  have hm : Mod w' (w'.setCell ⟨p, 6, none⟩ (.pointer (some ⟨vp, 0, none⟩))) (· = p) := (Mod.refl _ _).set _ _ (fun _ => rfl)
  have hb1 := (hB.block p hpl).trans h.blk
  have hg := h.lo0
  have hB0 := h.B0
  have hpB : ∀ j, j ≤ 3 → p < B j := fun j hj => Nat.lt_of_lt_of_le hB0 (h.Ble (Nat.zero_le _) hj)
  have hBw : ∀ j, j ≤ 3 → B j ≤ wr.heap.size := fun j hj => Nat.le_trans (h.Ble hj (Nat.le_refl _)) h.Bk
  have hcr : ∀ j, j < 3 → RpIs wr (rp j) (C j) (new0 j) := fun j hj => (h.rp j hj).1
  refine ⟨⟨?_, fun i hi => (World.cell?_of_block (w := w') (hm.block g0 (Nat.lt_of_lt_of_le (by omega) hB.size) (by omega))).trans (h.row.below (B := wr.heap.size) (by omega) hB i hi), by rw [show (w'.setCell ⟨p, 6, none⟩ (.pointer (some ⟨vp, 0, none⟩))).heap.size = w'.heap.size by simp [World.setCell]]; exact Nat.lt_of_lt_of_le (show g0 < wr.heap.size by omega) hB.size, h.cap, fun k hk => ?_, fun k hk => (h.rp k hk).2.1, fun i j hi hj hij => ?_, ?_, ⟨World.ownsRow_nil _ _ _ _, rfl, fun i hi => by simp [sy0] at hi⟩, fun x y hx hy e => ?_, fun x hx => ?_, fun y hy => ?_⟩, ?_⟩
  · rw [blk_set hb1]
    rfl
  · obtain ⟨a1, _, ⟨b1, b2, b3, b4, b5⟩, _⟩ := h.rp k hk
    have hp := hpB k (by omega)
    exact (a1.below hB).other hm ⟨by omega, by omega, by omega, by omega, by omega⟩
  · obtain ⟨_, _, ⟨b1, _⟩, u1, _⟩ := h.rp i hi
    obtain ⟨_, _, ⟨c1, _⟩, v1, _⟩ := h.rp j hj
    show rp i ≠ rp j
    rcases (by omega : i < j ∨ j < i) with e | e
    · have := h.Ble (i := i + 1) (j := j) (by omega) (by omega); omega
    · have := h.Ble (i := j + 1) (j := i) (by omega) (by omega); omega
  · refine ⟨?_, World.ownsRow_nil _ _ _ _, by show N ≤ vp; omega⟩
    exact (hm.block vp hV.lt (by omega)).trans hV.blk
  · have hx' : x = p ∨ (∃ j, j < 3 ∧ x = rp j) ∨ x = vp := by
      rcases hx with z | z | z | z | z
      · exact .inl z
      · simp [Value.ownBlock] at z
      · exact .inr (.inl z)
      · exact .inr (.inr z)
      · simp [Value.ownBlock] at z
    rcases hx' with rfl | ⟨j, hj, rfl⟩ | rfl
    · rcases hy with hy | ⟨i, hi, hy⟩
      · have hy' : y = g0 := hy
        omega
      · obtain ⟨_, _, ⟨b1, b2, b3, b4, b5⟩, _⟩ := h.rp i hi
        have hp := hpB i (by omega)
        have hy' : y = (C i).pc ∨ y = (C i).g ∨ y = (C i).M ∨ y = (C i).g2 := hy
        omega
    · obtain ⟨a1, _, ⟨b1, _⟩, u1, _⟩ := h.rp j hj
      have hp := hpB j (by omega)
      rcases hy with hy | ⟨i, hi, hy⟩
      · have hy' : y = g0 := hy
        omega
      · obtain ⟨_, _, ⟨d1, d2, d3, d4, d5⟩, f1, f2, f3, f4, f5⟩ := h.rp i hi
        have hy' : y = (C i).pc ∨ y = (C i).g ∨ y = (C i).M ∨ y = (C i).g2 := hy
        rcases (by omega : i = j ∨ i < j ∨ j < i) with rfl | e2 | e2
        · have := a1.ap; omega
        · have := h.Ble (i := i + 1) (j := j) (by omega) (by omega); omega
        · have := h.Ble (i := j + 1) (j := i) (by omega) (by omega); omega
    · rcases hy with hy | ⟨i, hi, hy⟩
      · have hy' : y = g0 := hy
        omega
      · obtain ⟨_, _, _, f1, f2, f3, f4, f5⟩ := h.rp i hi
        have := hBw (i + 1) (by omega)
        have hy' : y = (C i).pc ∨ y = (C i).g ∨ y = (C i).M ∨ y = (C i).g2 := hy
        omega
  · rcases hx with z | z | ⟨j, hj, z⟩ | z | z
    · have z' : x = p := z
      omega
    · simp [Value.ownBlock] at z
    · obtain ⟨_, _, ⟨b1, _⟩, _⟩ := h.rp j hj
      have hp := hpB j (by omega)
      have z' : x = rp j := z
      omega
    · have z' : x = vp := z
      omega
    · simp [Value.ownBlock] at z
  · rcases hy with hy | ⟨i, hi, hy⟩
    · have hy' : y = g0 := hy
      omega
    · obtain ⟨_, _, ⟨b1, b2, b3, b4, b5⟩, _⟩ := h.rp i hi
      have hp := hpB i (by omega)
      have hy' : y = (C i).pc ∨ y = (C i).g ∨ y = (C i).M ∨ y = (C i).g2 := hy
      omega
  · exact (h.old.trans (hB.mono h.old.size)).setCell hw _
set_option maxHeartbeats 2000000 in
set_option maxRecDepth 20000 in
theorem synew_any (N : Nat) (L : RC) (win b off cap : Nat) (w : World) (hL : LOk L) (h1 : 1 ≤ win) (h2 : win ≤ 20) (hb : b < w.heap.size) (hrow : Row w b off L.zs) (hN : N ≤ w.heap.size) :
    Calls Tryz.prog 24 #[.agg #[.int .i64 (L.s : Int), .slice (some ⟨b, off, none⟩) L.n cap, .int .i64 (L.d : Int)], .int .i64 (win : Int)] w fun e w' => (∃ D, e = .returned (.tuple #[.pointer (some ⟨D.p, 0, none⟩), .nilIface]) ∧ w.heap.size ≤ D.p ∧ SyIs w' N D L win (sy0 win)) ∧ Below w.heap.size w w' := by
  have hf := hL.few
  obtain ⟨W, hW⟩ : ∃ W, Hid (w.alloc (.cells #[.int .i64 (L.s : Int), .slice (some ⟨b, off, none⟩) L.n cap, .int .i64 (L.d : Int)] 42) = W) := ⟨_, hide rfl⟩
  have hB0 : Below w.heap.size w W := by rw [← hW.out]; exact (Below.refl _ _).alloc (Nat.le_refl _) _
  have hbx : W.heap[w.heap.size]? = some (.cells #[.int .i64 (L.s : Int), .slice (some ⟨b, off, none⟩) L.n cap, .int .i64 (L.d : Int)] 42 (0, 0)) := by rw [← hW.out]; exact blk_new _ _
  have HC : Hid (Calls Tryz.prog 64 #[.slice (some ⟨b, off, none⟩) L.n cap] W fun e w1 => ∃ g cg, e = .returned (.slice (some ⟨g, 0, none⟩) L.n cg) ∧ (w1.cell? ⟨w.heap.size, 1, none⟩ = some (.slice (some ⟨b, off, none⟩) L.n cap) ∧ w1.frozen? ⟨w.heap.size, 1, none⟩ = false ∧ w1.cell? ⟨w.heap.size, 0, none⟩ = some (.int .i64 (L.s : Int)) ∧ w1.cell? ⟨w.heap.size, 2, none⟩ = some (.int .i64 (L.d : Int))) ∧
      Hid ((w1.setCell ⟨w.heap.size, 1, none⟩ (.slice (some ⟨g, 0, none⟩) L.n cg)).heap[w.heap.size]? = some (.cells #[.int .i64 (L.s : Int), .slice (some ⟨g, 0, none⟩) L.n cg, .int .i64 (L.d : Int)] 42 (0, 0)) ∧ Row (w1.setCell ⟨w.heap.size, 1, none⟩ (.slice (some ⟨g, 0, none⟩) L.n cg)) g 0 L.zs ∧ w.heap.size < g ∧ g < (w1.setCell ⟨w.heap.size, 1, none⟩ (.slice (some ⟨g, 0, none⟩) L.n cg)).heap.size ∧ L.n ≤ cg ∧ Below w.heap.size w (w1.setCell ⟨w.heap.size, 1, none⟩ (.slice (some ⟨g, 0, none⟩) L.n cg)))) := hide (by
    refine (clone_any b off L.n cap L.zs W hL.len (by omega) (by omega) (Nat.lt_of_lt_of_le hb hB0.size) (hrow.below hb hB0)).mono ?_
    rintro e w1 ⟨⟨g, cg, g1, g2, g3, rfl, g4⟩, hB⟩
    have hlt := blk_lt hbx
    have hb1 := (hB.block _ hlt).trans hbx
    refine ⟨g, cg, rfl, ⟨(blk_cell hb1 1).trans rfl, blk_free hb1 1, (blk_cell hb1 0).trans rfl, (blk_cell hb1 2).trans rfl⟩, hide ⟨(blk_set hb1 1 _).trans rfl, fun i hi => (World.cell?_of_block (w := w1) (Below.heap_setCell _ _ _ _ (by show g ≠ w.heap.size; omega))).trans (g4 i hi), by omega, by simp [World.setCell]; exact g2, g3, ?_⟩⟩
    exact (hB0.trans (hB.mono hB0.size)).setCell (Nat.le_refl _) _)
  have x1 : W.cell? ⟨w.heap.size, 1, none⟩ = some (.slice (some ⟨b, off, none⟩) L.n cap) := (blk_cell hbx 1).trans rfl
  have HL := hide hL
  clear hrow hbx hB0 hL
  go_enter Tryz.func24, Tryz.ntmps24
  go_wp2_with fail
  rw [show w.alloc (.cells #[.int .i64 (L.s : Int), .slice (some ⟨b, off, none⟩) L.n cap, .int .i64 (L.d : Int)] 42) = W from hW.out]
  refine HC.out.mono ?_
  rintro e w1 ⟨g, cg, rfl, ⟨z0, z1, z2, z3⟩, HM⟩
  clear HC x1 hW
  go_wp2_with fail
  have HS12 : Hid ((w1.setCell ⟨w.heap.size, 1, none⟩ (.slice (some ⟨g, 0, none⟩) L.n cg)).heap.size = w1.heap.size) := by rw [Hid]; simp [World.setCell]
  generalize w1.setCell ⟨w.heap.size, 1, none⟩ (.slice (some ⟨g, 0, none⟩) L.n cg) = w2 at HM HS12 ⊢
  obtain ⟨hb2, hr2, hg1, hg2, hcg, hB2⟩ := HM.out
  have HST : Hid (∃ rp C B, NwInv w (w2.alloc (.cells #[.int .i64 (L.s : Int), .slice (some ⟨g, 0, none⟩) L.n cg, .int .i64 (L.d : Int), .pointer none, .pointer none, .pointer none, .pointer none, .slice none 0 0, .int .i64 0] 90)) L w1.heap.size g cg 0 rp C B) := hide (by rw [← HS12.out]; exact ⟨fun _ => 0, fun _ => L, fun _ => w2.heap.size + 1, hB2.alloc hB2.size _, blk_new _ _, hr2.below (B := w2.heap.size) hg2 ((Below.refl _ _).alloc (Nat.le_refl _) _), ⟨by omega, hg2⟩, hcg, fun j hj => absurd hj (by omega), by omega, by simp, fun j hj => absurd hj (by omega)⟩)
  have hsz : w.heap.size ≤ w1.heap.size := by rw [← HS12.out]; exact hB2.size
  clear HM hb2 hr2 hcg hB2 z0 z1 z2 z3
  go_loopw [18] (fun j wr => ∃ k : Nat, k ≤ 3 ∧ j = .int .i64 k ∧ ∃ rp C B, NwInv w wr L w1.heap.size g cg k rp C B) (fun j _ => 3 - (intOf j).toNat)
  case atStart => exact ⟨0, by omega, rfl, HST.out⟩
  case round =>
    obtain ⟨k, hk, rfl, rp, C, B, hI⟩ := hrel
    clear HST
    have hlt := blk_lt hI.blk
    by_cases hk3 : k < 3
    · have hk' : (k : Int) < 3 := by omega
      have HCR : Hid (Calls Tryz.prog 38 #[.pointer (some ⟨w1.heap.size, 0, none⟩), .int .i64 (k : Int)] wr fun e w' => e = .returned .nilIface ∧ Hid (∃ rp C B, NwInv w w' L w1.heap.size g cg (k + 1) rp C B)) := hide (by
        refine (crash_low w1.heap.size g cg L _ _ _ _ k wr hk3 HL.out hI.blk hI.row (by have := hI.lo0; omega) hI.cap).mono ?_
        rintro e w' ⟨rfl, q, C1, hF, hl, hR, hb, hm⟩
        exact ⟨rfl, hide ⟨_, _, _, hI.next hsz hF hl hR hb hm⟩⟩)
      clear hI
      go_wp2_with fail
      refine HCR.out.mono ?_
      rintro e w3 ⟨rfl, HR⟩
      go_wp2
      go_roundw
      case rel => exact ⟨k + 1, by omega, by go_num, HR.out⟩
      case measure => simp [intOf]; omega
    · have e3 : k = 3 := by omega
      subst e3
      have HV : Hid (Calls Tryz.prog 65 #[.int .i64 (win : Int)] wr fun e w' => e = .returned (.tuple #[.pointer (some ⟨wr.heap.size, 0, none⟩), .nilIface]) ∧ (w'.cell? ⟨w1.heap.size, 6, none⟩ = some (.pointer none) ∧ w'.frozen? ⟨w1.heap.size, 6, none⟩ = false) ∧ Hid (SyIs (w'.setCell ⟨w1.heap.size, 6, none⟩ (.pointer (some ⟨wr.heap.size, 0, none⟩))) N ⟨w1.heap.size, g, cg, rp, C, wr.heap.size, .slice none 0 0, .slice none 0 0, [], 0⟩ L win (sy0 win) ∧ Below w.heap.size w (w'.setCell ⟨w1.heap.size, 6, none⟩ (.pointer (some ⟨wr.heap.size, 0, none⟩))))) := hide (by
        refine (vnew_ok win wr h1 h2).mono ?_
        rintro e w' ⟨rfl, hV, _, hB⟩
        have hb1 := (hB.block _ hlt).trans hI.blk
        exact ⟨rfl, ⟨(blk_cell hb1 6).trans rfl, blk_free hb1 6⟩, hide (hI.done hsz hB rfl hV N hN)⟩)
      clear hI
      go_wp2_with fail
      refine HV.out.mono ?_
      rintro e w4 ⟨rfl, ⟨q0, q1⟩, HE⟩
      go_wp2
      go_ret2
      exact ⟨⟨_, rfl, hsz, HE.out.1⟩, HE.out.2⟩
structure Sg where
  who : Nat
  cyc : Int
  on : Bool
  x : Int
  y : Int
structure TS where
  S : SY
  fx : Nat → Int
  fy : Nat → Int
  seen : List Sg
section
variable {L : RC} {W : Seen} {liar win T n k : Nat} {S : SY} {A B : TS}
theorem SInv.new (h1 : 1 ≤ win) (h2 : win ≤ 20) : SInv L W liar win T (sy0 win) :=
  ⟨fun _ _ => RpInv.new, VOk.new h1 h2, fun i hi => absurd hi (Nat.not_lt_zero _), fun _ _ _ hb => Bool.noConfusion hb, fun k _ _ => by show (0 : Nat).testBit k = false; simp, fun _ _ _ hb => Bool.noConfusion hb, fun _ _ => rfl, Nat.zero_le _, fun p hp => absurd hp (List.not_mem_nil)⟩
end
end Go.Proofs.YtaablbmgagiajabGreatDoor
