import Derived.Test.YtaablbmgagiajaaGreatDoorTGBI
import Derived.Lib.SliceRun
namespace Go.Proofs.YtaablbmgagiajaaGreatDoor
open Go.RowKit Go.Deep
set_option maxHeartbeats 1000000 in
set_option maxRecDepth 20000 in
theorem sysee_any (N : Nat) (D : SC) (L : RC) (win : Nat) (S : SY) (w : World) (k : Nat) (x y : Int) (hk : k < 3) (h : SyIs w N D L win S) :
    Calls Tryz.prog 17 #[.pointer (some ⟨D.p, 0, none⟩), .int .i64 (k : Int), .agg #[.int .i64 x, .int .i64 y]] w fun e w' => e = .returned .nilIface ∧ SyGo w w' N D L win (seeSy k x y S) := by
  obtain ⟨W, hW⟩ : ∃ W, Hid (w.alloc (.cells #[.int .i64 x, .int .i64 y] 30) = W) := ⟨_, hide rfl⟩
  have hB0 : Below w.heap.size w W := by rw [← hW.out]; exact (Below.refl _ _).alloc (Nat.le_refl _) _
  have hbx : W.heap[w.heap.size]? = some (.cells #[.int .i64 x, .int .i64 y] 30 (0, 0)) := by rw [← hW.out]; exact blk_new _ _
  have HR := hide (sysRep_any (k : Int) W)
  rw [isRep_lt hk] at HR
  have hk' : (k : Int) < 3 := by omega
  have hS := h.below hB0
  have cr := hS.rpAt hk
  have x0 : W.cell? ⟨w.heap.size, 0, none⟩ = some (.int .i64 x) := (blk_cell hbx 0).trans rfl
  have x1 : W.cell? ⟨w.heap.size, 1, none⟩ = some (.int .i64 y) := (blk_cell hbx 1).trans rfl
  have HC : Hid (Calls Tryz.prog 47 #[.pointer (some ⟨D.rp k, 0, none⟩), .agg #[.int .i64 x, .int .i64 y]] W.drew fun e w' => e = .returned (.tuple #[]) ∧ SyGo w w' N D L win (seeSy k x y S)) := hide (by
    refine (see_any (D.rp k) (D.C k) (S.rp k) x y W.drew (hS.drew.rp k hk)).mono ?_
    rintro e w2 ⟨rfl, hR, hm⟩
    obtain ⟨h1, h2⟩ := hS.drew.putR hk hm hR
    exact ⟨rfl, SyGo.pre ⟨D, rfl, h1, h2, Gr.refl _ _⟩ (hB0.drew)⟩)
  clear h hS hbx hB0
  go_enter Tryz.func17, Tryz.ntmps17
  go_wp2_with fail
  rw [show w.alloc (.cells #[.int .i64 x, .int .i64 y] 30) = W from hW.out]
  refine HR.out.mono ?_
  rintro e wz ⟨rfl, rfl⟩
  go_wp2_with fail
  go_region_with ((go_at_call 47; refine HC.out.mono ?_; rintro e w2 ⟨rfl, hg⟩))
  all_goals
    go_wp2
    go_ret
    exact ⟨rfl, hg⟩
theorem results_mid {P : Program} {f : Func} {tmps : Array Value} {w : World} {a b k : Tmp} {t : TypeId} {ad : Addr} {v : Value} (hf : f.results = #[.tmp a, .cell b t, .tmp k]) (hb : tmps.getD b undef = .pointer (some ad)) (hl : (loadVar t ad).run P w = .ok v w) :
    (results f tmps).run P w = .ok (.tuple #[tmps.getD a undef, v, tmps.getD k undef]) w := by
  have hb' : tmps[b]?.getD undef = .pointer (some ad) := by simpa using hb
  simp only [results, hf]
  simp [asAddr, hb', hl]
set_option maxHeartbeats 2000000 in
set_option maxRecDepth 20000 in
theorem sreplica_any (N : Nat) (D : SC) (L : RC) (win : Nat) (S : SY) (w : World) (k : Nat) (hk : k < 3) (h : SyIs w N D L win S) :
    Calls Tryz.prog 12 #[.pointer (some ⟨D.p, 0, none⟩), .int .i64 (k : Int)] w fun e w' => e = .returned (.tuple #[.int .i64 (S.rp k).cycle, .agg (stCells (S.rp k).st), .nilIface]) ∧ Below w.heap.size w w' := by
  obtain ⟨W, hW⟩ : ∃ W, Hid (w.alloc (.cells (stCells st0) 33) = W) := ⟨_, hide rfl⟩
  have hB0 : Below w.heap.size w W := by rw [← hW.out]; exact (Below.refl _ _).alloc (Nat.le_refl _) _
  have hbx : StIs W w.heap.size st0 := by rw [← hW.out]; exact blk_new _ _
  have HR := hide (sysRep_any (k : Int) W)
  rw [isRep_lt hk] at HR
  have hk' : (k : Int) < 3 := by omega
  have hS := h.below hB0
  have HSS : Hid (∀ wx, Below W.heap.size W wx → wx.cell? ⟨D.p, 3 + k, none⟩ = some (.pointer (some ⟨D.rp k, 0, none⟩)) ∧ ∃ Y, StIs wx w.heap.size Y) := hide fun wx hx => ⟨(hS.below hx).rpAt hk, st0, (hx.block _ (blk_lt hbx)).trans hbx⟩
  have HC1 : Hid (Calls Tryz.prog 38 #[.pointer (some ⟨D.rp k, 0, none⟩)] W.drew fun e w' => e = .returned (.int .i64 (S.rp k).cycle) ∧ w' = W.drew) := hide (cycle_any (D.rp k) (D.C k) (S.rp k) W.drew (hS.drew.rp k hk))
  have HC2 : Hid (Calls Tryz.prog 39 #[.pointer (some ⟨D.rp k, 0, none⟩)] W.drew fun e w' => e = .returned (.agg (stCells (S.rp k).st)) ∧ Below W.heap.size W w' ∧ StIs w' w.heap.size st0) := hide (by
    refine (rstate_any (D.rp k) (D.C k) (S.rp k) W.drew (hS.drew.rp k hk)).mono ?_
    rintro e w2 ⟨rfl, hB⟩
    have hB2 : Below W.heap.size W w2 := (Below.refl _ _).drew.trans hB
    exact ⟨rfl, hB2, (hB2.block _ (blk_lt hbx)).trans hbx⟩)
  have HB0 := hide hB0
  obtain ⟨cy, hcy⟩ : ∃ cy, Hid ((S.rp k).cycle = cy) := ⟨_, hide rfl⟩
  obtain ⟨X, hX⟩ : ∃ X, Hid ((S.rp k).st = X) := ⟨_, hide rfl⟩
  rw [hcy.out] at HC1 ⊢
  rw [hX.out] at HC2 ⊢
  have hsz : w.heap.size < W.heap.size := blk_lt hbx
  have HNE := hide (Nat.ne_of_lt hS.lt)
  have hpne : w.heap.size ≠ D.p := by have := h.lt; omega
  clear h hS hbx hB0 hcy hX
  go_enter Tryz.func12, Tryz.ntmps12
  go_wp2_with fail
  rw [show w.alloc (.cells #[.int .i64 0, .int .i64 0, .int .i64 0, .int .i64 0, .int .i64 0, .int .i64 0, .int .i64 0, .int .i64 0, .int .i64 0, .int .i64 0, .int .i64 0, .int .i64 0, .int .i64 0, .int .i64 0, .int .i64 0, .int .i64 0, .int .i64 0] 33) = W from hW.out]
  refine HR.out.mono ?_
  rintro e wz ⟨rfl, rfl⟩
  clear hW
  go_wp2_with fail
  refine wp_region_held_drew (S := fun w' => w'.cell? ⟨D.p, 3 + k, none⟩ = some (.pointer (some ⟨D.rp k, 0, none⟩)) ∧ ∃ Y, StIs w' w.heap.size Y) (by kernel_rfl) (HSS.out _ (Below.refl _ _).drew) (fun hHeld => ?_)
  refine wpAnyH_take (i := 0) (oi := _) (v := .pointer (some ⟨D.p, 0, none⟩)) rfl (by kernel_rfl) (by kernel_rfl) (by kernel_rfl) (fun _ _ _ h => h) (Or.inl ⟨by rfl, fun w _ => by go_simp⟩) hHeld ?_
  simp only [Act.put, List.getElem_toArray, List.getElem_cons_zero, List.setIfInBounds_toArray, List.set_cons_succ, List.set_cons_zero]
  refine wpAnyH_take (i := 1) (oi := _) (v := .int .i64 (k : Int)) rfl (by kernel_rfl) (by kernel_rfl) (by kernel_rfl) (fun _ _ _ h => h) (Or.inl ⟨by rfl, fun w _ => by go_simp⟩) hHeld ?_
  simp only [Act.put, List.getElem_toArray, List.getElem_cons_succ, List.getElem_cons_zero, List.setIfInBounds_toArray, List.set_cons_succ, List.set_cons_zero]
  refine wpAnyH_take (i := 2) (oi := _) (v := .pointer (some ⟨D.p, 0, none⟩)) rfl (by kernel_rfl) (by kernel_rfl) (by kernel_rfl) (fun _ _ _ h => h) (Or.inl ⟨by rfl, fun w _ => by go_simp⟩) hHeld ?_
  simp only [Act.put, List.getElem_toArray, List.getElem_cons_succ, List.getElem_cons_zero, List.setIfInBounds_toArray, List.set_cons_succ, List.set_cons_zero]
  refine wpAnyH_take (i := 3) (oi := _) (v := .pointer (some ⟨D.p, 3, none⟩)) rfl (by kernel_rfl) (by kernel_rfl) (by kernel_rfl) (fun _ _ _ h => h) (Or.inl ⟨by rfl, fun w _ => by go_simp⟩) hHeld ?_
  simp only [Act.put, List.getElem_toArray, List.getElem_cons_succ, List.getElem_cons_zero, List.setIfInBounds_toArray, List.set_cons_succ, List.set_cons_zero]
  refine wpAnyH_take (i := 4) (oi := _) (v := .pointer (some ⟨D.p, 3 + k, none⟩)) rfl (by kernel_rfl) (by kernel_rfl) (by kernel_rfl) (fun _ _ _ h => h) (Or.inl ⟨by rfl, fun w _ => by go_simp⟩) hHeld ?_
  simp only [Act.put, List.getElem_toArray, List.getElem_cons_succ, List.getElem_cons_zero, List.setIfInBounds_toArray, List.set_cons_succ, List.set_cons_zero]
  refine wpAnyH_take (i := 5) (oi := _) (v := .pointer (some ⟨D.rp k, 0, none⟩)) rfl (by kernel_rfl) (by kernel_rfl) (by kernel_rfl) (fun _ _ _ h => h) (Or.inl ⟨by rfl, fun w h => by obtain ⟨h1, _⟩ := h; go_simp⟩) hHeld ?_
  simp only [Act.put, List.getElem_toArray, List.getElem_cons_succ, List.getElem_cons_zero, List.setIfInBounds_toArray, List.set_cons_succ, List.set_cons_zero]
  refine wpAnyH_take (i := 7) (oi := _) (v := .pointer (some ⟨D.p, 0, none⟩)) rfl (by kernel_rfl) (by kernel_rfl) (by kernel_rfl) (fun _ _ _ h => h) (Or.inl ⟨by rfl, fun w _ => by go_simp⟩) hHeld ?_
  simp only [Act.put, List.getElem_toArray, List.getElem_cons_succ, List.getElem_cons_zero, List.setIfInBounds_toArray, List.set_cons_succ, List.set_cons_zero]
  refine wpAnyH_take (i := 8) (oi := _) (v := .int .i64 (k : Int)) rfl (by kernel_rfl) (by kernel_rfl) (by kernel_rfl) (fun _ _ _ h => h) (Or.inl ⟨by rfl, fun w _ => by go_simp⟩) hHeld ?_
  simp only [Act.put, List.getElem_toArray, List.getElem_cons_succ, List.getElem_cons_zero, List.setIfInBounds_toArray, List.set_cons_succ, List.set_cons_zero]
  refine wpAnyH_take (i := 9) (oi := _) (v := .pointer (some ⟨D.p, 0, none⟩)) rfl (by kernel_rfl) (by kernel_rfl) (by kernel_rfl) (fun _ _ _ h => h) (Or.inl ⟨by rfl, fun w _ => by go_simp⟩) hHeld ?_
  simp only [Act.put, List.getElem_toArray, List.getElem_cons_succ, List.getElem_cons_zero, List.setIfInBounds_toArray, List.set_cons_succ, List.set_cons_zero]
  refine wpAnyH_take (i := 10) (oi := _) (v := .pointer (some ⟨D.p, 3, none⟩)) rfl (by kernel_rfl) (by kernel_rfl) (by kernel_rfl) (fun _ _ _ h => h) (Or.inl ⟨by rfl, fun w _ => by go_simp⟩) hHeld ?_
  simp only [Act.put, List.getElem_toArray, List.getElem_cons_succ, List.getElem_cons_zero, List.setIfInBounds_toArray, List.set_cons_succ, List.set_cons_zero]
  refine wpAnyH_take (i := 11) (oi := _) (v := .pointer (some ⟨D.p, 3 + k, none⟩)) rfl (by kernel_rfl) (by kernel_rfl) (by kernel_rfl) (fun _ _ _ h => h) (Or.inl ⟨by rfl, fun w _ => by go_simp⟩) hHeld ?_
  simp only [Act.put, List.getElem_toArray, List.getElem_cons_succ, List.getElem_cons_zero, List.setIfInBounds_toArray, List.set_cons_succ, List.set_cons_zero]
  refine wpAnyH_take (i := 12) (oi := _) (v := .pointer (some ⟨D.rp k, 0, none⟩)) rfl (by kernel_rfl) (by kernel_rfl) (by kernel_rfl) (fun _ _ _ h => h) (Or.inl ⟨by rfl, fun w h => by obtain ⟨h1, _⟩ := h; go_simp⟩) hHeld ?_
  simp only [Act.put, List.getElem_toArray, List.getElem_cons_succ, List.getElem_cons_zero, List.setIfInBounds_toArray, List.set_cons_succ, List.set_cons_zero]
  refine wpAnyH_ready (rs := [6]) (by kernel_rfl) (by simp) ?_
  refine AllReadyH.cons (o := _) rfl (fun K hK => ?_) AllReadyH.nil
  rw [if_pos (by rfl)]
  go_simp
  go_at_call 38
  refine HC1.out.mono ?_
  rintro e w5 ⟨rfl, rfl⟩
  dsimp only
  refine hK.out _ _ (HSS.out _ (Below.refl _ _).drew) (fun hHeld => ?_)
  clear hK K
  refine wpAnyH_ready (rs := [13]) (by kernel_rfl) (by simp) ?_
  refine AllReadyH.cons (o := _) rfl (fun K hK => ?_) AllReadyH.nil
  rw [if_pos (by rfl)]
  go_simp
  go_at_call 39
  refine HC2.out.mono ?_
  rintro e w6 ⟨rfl, hB6, hst6⟩
  dsimp only
  refine hK.out _ _ (HSS.out _ hB6) (fun hHeld => ?_)
  clear hK K
  refine wpAnyH_take (i := 14) (oi := _) (v := .int .i64 cy) rfl (by kernel_rfl) (by kernel_rfl) (by kernel_rfl) (fun _ _ _ h => h) (Or.inl ⟨by rfl, fun w _ => by go_simp⟩) hHeld ?_
  simp only [Act.put, List.getElem_toArray, List.getElem_cons_succ, List.getElem_cons_zero, List.setIfInBounds_toArray, List.set_cons_succ, List.set_cons_zero]
  refine wpAnyH_ready (rs := [15]) (by kernel_rfl) (by simp) ?_
  refine AllReadyH.cons (o := _) rfl (fun K hK => ?_) AllReadyH.nil
  rw [if_pos (by rfl)]
  refine wp_store_row _ _ _ rfl _ _ rfl rfl _ _ hst6 (by rw [stateInfo]; rfl) rfl (oneCells X) ?_
  refine hK.out _ _ ⟨(World.cell?_of_block (w := w6) (row_other _ _ _ _ (fun e => hpne e.symm))).trans (HSS.out _ hB6).1, X, row_same hst6 X⟩ (fun hHeld => ?_)
  clear hK K
  simp only [Act.put]
  refine wpAnyH_take (i := 16) (oi := _) (v := .nilIface) rfl (by kernel_rfl) (by kernel_rfl) (by kernel_rfl) (fun _ _ _ h => h) (Or.inl ⟨by rfl, fun w _ => by go_simp⟩) hHeld ?_
  simp only [Act.put, List.getElem_toArray, List.getElem_cons_succ, List.getElem_cons_zero, List.setIfInBounds_toArray, List.set_cons_succ, List.set_cons_zero]
  refine wpAnyH_done (by kernel_rfl) ?_ _
  have HST := hide (row_same hst6 X)
  have HBB := hide (below_row (HB0.out.trans (hB6.mono (by omega))) (Nat.le_refl w.heap.size) (stCells X))
  clear hHeld hst6 hB6
  generalize w6.setRow w.heap.size (stCells X) = w7 at HST HBB ⊢
  go_wp2
  exact bodyPost_ret (results_mid rfl rfl (load_s HST.out)) rfl ⟨rfl, HBB.out⟩
set_option maxHeartbeats 1000000 in
theorem cloneC_any (N : Nat) (tv : Value) (l : List Cm) (w : World) (h : TIs w N tv l) (hl : l.length ≤ 1000) :
    Calls Tryz.prog 67 #[tv] w fun e w' => (∃ v, e = .returned v ∧ TIs w' w.heap.size v l) ∧ Below w.heap.size w w' := by
  rcases h.2 with ⟨rfl, h0⟩ | ⟨g, cap, cur, rfl, h1, h2, h3, h4, h5, h6⟩
  · have e : l = [] := List.length_eq_zero_iff.1 h0
    subst e
    clear h h0
    have hq : ∀ wx : World, (binOp .eql 47 (.slice none 0 0) (.slice none 0 0)).run Tryz.prog wx = .ok (.bool true) wx := fun wx => by kernel_rfl
    go_enter Tryz.func67, Tryz.ntmps67
    go_wp2
    go_ret
    exact ⟨⟨_, rfl, World.ownsRow_nil _ _ _ _⟩, Below.refl _ _⟩
  · obtain ⟨i0, hi, hz0, hz1, hz2⟩ := info_parts infoCommit
    have HI := hide hi
    have HZ0 := hide hz0
    have HZ1 := hide hz1
    have HZ2 := hide hz2
    have HT := hide h6
    have HG := hide h2
    have hgl := blk_lt h2
    have hq : ∀ wx : World, (binOp .eql 47 (.slice (some ⟨g, 0, none⟩) l.length cap) (.slice none 0 0)).run Tryz.prog wx = .ok (.bool false) wx := fun wx => Lib.run_eql_slice_nil wx _ _ _ _ _ _ _ Tryz.underlying47
    clear hi hz0 hz1 hz2 h h6 h2 h5 h4
    go_enter Tryz.func67, Tryz.ntmps67
    go_wp2_with (at_builtin; refine wpList_append_own _ rfl _ _ 47 rfl w.heap.size 59 i0 (.agg #[.int .i64 0, .int .i64 0, .int .i64 0]) 3 24 Tryz.underlying47 HI.out HZ0.out HZ1.out HZ2.out rfl (by decide) _ _ _ rfl (World.ownsRow_made w #[] 0 (Nat.le_refl _) (by unfold maxLen; omega) rfl) ⟨g, 0, none⟩ l.length cap (cmL l) rfl (cmL_length l) ?c1 ?c2 ?c3 ?c4 ?c5 ?_)
    case c1 =>
      intro j u hj
      have hj' : j < l.length * 3 := by
        have := (List.getElem?_eq_some_iff.1 hj).1
        rw [cmL_length] at this
        exact this
      have e : (⟨g, 0, none⟩ : Addr).add j = ⟨g, j, none⟩ := by unfold Addr.add; split <;> simp_all
      rw [e, World.cell?_alloc_past _ _ _ hgl, blk_cell HG.out, ← Array.getElem?_toList]
      have := HT.out
      rw [← this, List.getElem?_take, if_pos hj'] at hj
      exact hj
    case c2 => exact cmL_one l
    case c3 => unfold maxLen; omega
    case c4 => omega
    case c5 => simp
    intro v' w1 hown hgrow _
    have hold : Below w.heap.size w w1 := ((Below.refl _ _).alloc (Nat.le_refl _) _).grown hgrow (by simp) (fun j hj => by
      have : w.heap.size = j := by simpa [Value.ownBlock] using hj
      omega)
    have ht : TIs w1 w.heap.size v' l := by
      unfold TIs
      simpa using hown
    have HT1 := hide ht
    have HOLD := hide hold
    clear ht hold hown hgrow
    go_wp2
    go_ret
    exact ⟨⟨_, rfl, HT1.out⟩, HOLD.out⟩
set_option maxHeartbeats 1000000 in
theorem trace_any (N p win : Nat) (tv : Value) (S : VS) (w : World) (h : VIs w N p win tv S) (hok : VOk win S) :
    Calls Tryz.prog 36 #[.pointer (some ⟨p, 0, none⟩)] w fun e w' => (∃ v, e = .returned v ∧ TIs w' w.heap.size v S.tr) ∧ Below w.heap.size w w' := by
  have c0 : w.cell? ⟨p, 0, none⟩ = some tv := (h.at 0).trans rfl
  have HC := hide (cloneC_any N tv S.tr w h.row hok.few)
  clear h hok
  go_enter Tryz.func36, Tryz.ntmps36
  go_wp2_with (go_at_call 67; refine HC.out.mono ?_; rintro e w' ⟨⟨v, rfl, ht⟩, hB⟩)
  go_ret
  exact ⟨⟨_, rfl, ht⟩, hB⟩
theorem strace_any (N : Nat) (D : SC) (L : RC) (win : Nat) (S : SY) (w : World) (h : SyIs w N D L win S) (hok : VOk win S.v) :
    Calls Tryz.prog 11 #[.pointer (some ⟨D.p, 0, none⟩)] w fun e w' => (∃ v, e = .returned v ∧ TIs w' w.heap.size v S.v.tr) ∧ Below w.heap.size w w' := by
  have c6 := h.vt6
  have HC := hide (trace_any N D.vp win D.tv S.v w h.vt hok)
  clear h hok
  go_enter Tryz.func11, Tryz.ntmps11
  go_wp2_with fail
  refine HC.out.mono ?_
  rintro e w2 ⟨⟨v, rfl, ht⟩, hB⟩
  go_wp2
  go_ret
  exact ⟨⟨v, rfl, ht⟩, hB⟩
theorem slatched_any (N : Nat) (D : SC) (L : RC) (win : Nat) (S : SY) (w : World) (h : SyIs w N D L win S) :
    Calls Tryz.prog 19 #[.pointer (some ⟨D.p, 0, none⟩)] w fun e w' => e = .returned (.bool S.v.lat) ∧ w' = w := by
  have c6 := h.vt6
  have HC := hide (latched_any N D.vp win D.tv S.v w h.vt)
  clear h
  go_enter Tryz.func19, Tryz.ntmps19
  go_wp2_with fail
  refine HC.out.mono ?_
  rintro e w2 ⟨rfl, rfl⟩
  go_wp2
  go_ret
  exact ⟨rfl, rfl⟩
theorem infoByteZ : (Tryz.prog.info? 5).map (fun i => (i.zero, i.size, i.bytes)) = some (some (.int .u8 0), 1, 1) := by kernel_rfl
set_option maxHeartbeats 1000000 in
theorem cloneB_any (a : Option Addr) (len cap : Nat) (l : List Nat) (w : World) (h : IsB w a len cap l) (hl : len ≤ 1000) :
    Calls Tryz.prog 65 #[.slice a len cap] w fun e w' => (∃ v, e = .returned v ∧ w'.ownsRow w.heap.size 5 1 v len (u8s l)) ∧ Below w.heap.size w w' := by
  obtain ⟨h1, h2, h3, h4⟩ := h
  subst h1
  cases a with
  | none =>
    have e : l = [] := by
      rcases h4 with e | ⟨b, off, e, _⟩
      · exact e
      · simp at e
    subst e
    have hq : ∀ wx : World, (binOp .eql 36 (.slice none 0 cap) (.slice none 0 0)).run Tryz.prog wx = .ok (.bool true) wx := fun wx => Lib.run_eql_slice_nil wx _ _ _ _ _ _ _ Tryz.underlying36
    clear h4 h3
    go_enter Tryz.func65, Tryz.ntmps65
    go_wp2
    go_ret
    exact ⟨⟨_, rfl, World.ownsRow_nil _ _ _ _⟩, Below.refl _ _⟩
  | some ad =>
    obtain ⟨i0, hi, hz0, hz1, hz2⟩ := info_parts infoByteZ
    have HI := hide hi
    have HZ0 := hide hz0
    have HZ1 := hide hz1
    have HZ2 := hide hz2
    have H4 : Hid (∀ j u, (u8s l)[j]? = some u → (w.alloc (.cells #[] 5)).cell? (ad.add j) = some u) := hide fun j u hj => by
      have hj' : j < l.length := by have := (List.getElem?_eq_some_iff.1 hj).1; simpa [u8s] using this
      rcases h4 with e | ⟨b, off, e, hb, hr⟩
      · rw [e] at hj'; simp at hj'
      · obtain rfl := Option.some.inj e
        have e2 : (⟨b, off, none⟩ : Addr).add j = ⟨b, off + j, none⟩ := by unfold Addr.add; split <;> simp_all
        rw [e2, World.cell?_alloc_past _ _ _ hb, hr j hj']
        unfold u8s at hj
        rw [List.getElem?_map, List.getElem?_eq_getElem hj'] at hj
        rw [← hj, List.getElem?_eq_getElem hj']
        rfl
    have hq : ∀ wx : World, (binOp .eql 36 (.slice (some ad) l.length cap) (.slice none 0 0)).run Tryz.prog wx = .ok (.bool false) wx := fun wx => Lib.run_eql_slice_nil wx _ _ _ _ _ _ _ Tryz.underlying36
    clear hi hz0 hz1 hz2 h4 h3
    go_enter Tryz.func65, Tryz.ntmps65
    go_wp2_with (at_builtin; refine wpList_append_own _ rfl _ _ 36 rfl w.heap.size 5 i0 (.int .u8 0) 1 1 Tryz.underlying36 HI.out HZ0.out HZ1.out HZ2.out rfl (by decide) _ _ _ rfl (World.ownsRow_made w #[] 0 (Nat.le_refl _) (by unfold maxLen; omega) rfl) ad l.length cap (u8s l) rfl ?c0 ?c1 ?c2 ?c3 ?c4 ?c5 ?_)
    case c0 => simp [u8s]
    case c1 => exact H4.out
    case c2 => exact u8s_one l
    case c3 => unfold maxLen; omega
    case c4 => omega
    case c5 => simp
    intro v' w1 hown hgrow _
    have hold : Below w.heap.size w w1 := ((Below.refl _ _).alloc (Nat.le_refl _) _).grown hgrow (by simp) (fun j hj => by
      have : w.heap.size = j := by simpa [Value.ownBlock] using hj
      omega)
    have ht : w1.ownsRow w.heap.size 5 1 v' l.length (u8s l) := by simpa using hown
    have HT1 := hide ht
    have HOLD := hide hold
    clear ht hold hown hgrow
    go_wp2
    go_ret
    exact ⟨⟨_, rfl, HT1.out⟩, HOLD.out⟩
end Go.Proofs.YtaablbmgagiajaaGreatDoor
