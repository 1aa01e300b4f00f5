import Derived.Test.YtaablbmgagiajaaGreatDoorRGBK
namespace Go.Proofs.YtaablbmgagiajaaGreatDoor
open Go.RowKit Go.Deep
theorem infoSeen : (Tryz.prog.info? 94).map (fun i => (i.zero, i.size, i.bytes)) = some (some (.agg #[.int .i64 0, .int .i64 0, .bool false, .int .i64 0, .int .i64 0]), 5, 40) := by kernel_rfl
theorem TaIs.fld {w : World} {N q win liar : Nat} {E : TC} {L : RC} {A : TS} (h : TaIs w N q E L win liar A) {k : Nat} (hk : k < 3) : w.cell? ⟨q, 5 + k * 2, none⟩ = some (.int .i64 (A.fx k)) ∧ w.cell? ⟨q, 5 + k * 2 + 1, none⟩ = some (.int .i64 (A.fy k)) := by
  rw [h.at, h.at]
  rcases (by omega : k = 0 ∨ k = 1 ∨ k = 2) with rfl | rfl | rfl <;> exact ⟨rfl, rfl⟩
set_option maxHeartbeats 2000000 in
set_option maxRecDepth 20000 in
theorem looks_any (N q : Nat) (E : TC) (L : RC) (win liar : Nat) (A : TS) (w : World) (k : Nat) (on : Bool) (hk : k < 3) (h : TaIs w N q E L win liar A) (hm : A.seen.length ≤ 1000) :
    Calls Tryz.prog 24 #[.pointer (some ⟨q, 0, none⟩), .int .i64 (k : Int), .bool on] w fun e w' => e = .returned (.tuple #[]) ∧ TaGo w w' N q E L win liar ⟨A.S, A.fx, A.fy, A.seen ++ [sgOf A k on]⟩ ∧ ∀ j, TyAt w j 38 → w'.heap[j]? = w.heap[j]? := by
  have c0 : w.cell? ⟨q, 0, none⟩ = some (.pointer (some ⟨E.D.p, 0, none⟩)) := (h.at 0).trans rfl
  have HRP := hide (sreplica_any N E.D L win A.S w k hk h.sy)
  obtain ⟨cy, hcy⟩ : ∃ cy, Hid ((A.S.rp k).cycle = cy) := ⟨_, hide rfl⟩
  obtain ⟨X, hX⟩ : ∃ X, Hid ((A.S.rp k).st = X) := ⟨_, hide rfl⟩
  rw [hcy.out, hX.out] at HRP
  have HT := hide h
  have hk' : (k : Int) < 3 := by omega
  clear h hX
  go_enter Tryz.func24, Tryz.ntmps24
  go_wp2_with (go_at_call 12; refine HRP.out.mono ?_)
  rintro e w1 ⟨rfl, hB1⟩
  have HS0 : Hid (StIs (w1.alloc (.cells (stCells st0) 33)) w1.heap.size st0) := hide (blk_new _ _)
  have HB1 := hide hB1
  clear HRP c0 hB1
  go_wp2_with (refine wpList_store_s rfl _ _ rfl w1.heap.size st0 X rfl rfl HS0.out ?_)
  intro W HF
  have hBW : Below w.heap.size w W := HB1.out.trans (((Below.refl _ _).alloc (Nat.le_refl _) _).trans (HF.out.2.2 w1.heap.size (Nat.le_refl _)) |>.mono HB1.out.size)
  have hW := HT.out.below hBW
  clear HS0 HF
  have HGO : Hid (∀ w', TaGo W w' N q E L win liar ⟨A.S, A.fx, A.fy, A.seen ++ [sgOf A k on]⟩ → TaGo w w' N q E L win liar ⟨A.S, A.fx, A.fy, A.seen ++ [sgOf A k on]⟩) := hide fun w' hg => hg.pre hBW
  have HOLD : Hid (∀ j, j < w.heap.size → W.heap[j]? = w.heap[j]?) := hide fun j hj => hBW.block j hj
  clear HB1 hBW
  obtain ⟨a, cap, hsv⟩ := hW.shape
  obtain ⟨i0, hi, hz0, hz1, hz2⟩ := info_parts infoSeen
  have HI := hide hi
  have HZ0 := hide hz0
  have HZ1 := hide hz1
  have HZ2 := hide hz2
  obtain ⟨x, hx⟩ : ∃ x, Hid (A.fx k = x) := ⟨_, hide rfl⟩
  obtain ⟨y, hy⟩ : ∃ y, Hid (A.fy k = y) := ⟨_, hide rfl⟩
  obtain ⟨f0, f1⟩ := hW.fld hk
  rw [hx.out] at f0
  rw [hy.out] at f1
  obtain ⟨n, hnn⟩ : ∃ n, Hid (A.seen.length = n) := ⟨_, hide rfl⟩
  rw [hnn.out] at hsv hm
  have c11 : W.cell? ⟨q, 11, none⟩ = some (.slice a n cap) := (hW.at 11).trans (by show some E.sv = _; rw [hsv])
  have hql := hW.lt
  have hpn : some q ≠ (Value.slice a n cap).ownBlock := fun e => by
    have := (hW.seen.lt q (by rw [hsv]; exact e.symm)).1
    have := hW.lq
    omega
  have FRZ : Hid ((W.alloc (.cells #[.int .i64 (k : Int), .int .i64 cy, .bool on, .int .i64 x, .int .i64 y] 94)).drew.frozen? ⟨q, 11, none⟩ = false) := hide ((World.frozen?_of_block (w := W) (Below.heap_alloc _ _ _ hql)).trans (hW.free 11))
  have CEL : Hid ((W.alloc (.cells #[.int .i64 (k : Int), .int .i64 cy, .bool on, .int .i64 x, .int .i64 y] 94)).drew.cell? ⟨q, 11, none⟩ = some (.slice a n cap)) := hide ((World.cell?_of_block (w := W) (Below.heap_alloc _ _ _ hql)).trans c11)
  have HK1 : Hid (n + 1 ≤ maxLen) := by rw [Hid]; unfold maxLen; omega
  have HK2 : Hid ((n + 1) * 40 ≤ 140737488355328) := by rw [Hid]; omega
  have HK3 : Hid (N ≤ (W.alloc (.cells #[.int .i64 (k : Int), .int .i64 cy, .bool on, .int .i64 x, .int .i64 y] 94)).drew.heap.size) := by rw [Hid]; have := hW.size; simp; omega
  have HOWN : Hid (W.ownsRow N 94 5 (.slice a n cap) n (sgL A.seen)) := by
    have := hW.seen
    rw [hsv, hnn.out] at this
    exact this
  have HEND : Hid (∀ (o : Obj) (w3 : World) (g cap' : Nat), w3.ownsRow N 94 5 (.slice (some ⟨g, 0, none⟩) (n + 1) cap') (n + 1) (sgL A.seen ++ sgC ⟨k, cy, on, x, y⟩) → (W.alloc o).drew.grownBy w3 (Value.slice a n cap).ownBlock → ((Value.slice a n cap).ownBlock = some g ∨ W.heap.size ≤ g) →
      TaGo w (w3.setCell ⟨q, 11, none⟩ (.slice (some ⟨g, 0, none⟩) (n + 1) cap')) N q E L win liar ⟨A.S, A.fx, A.fy, A.seen ++ [sgOf A k on]⟩ ∧ ∀ j, TyAt w j 38 → (w3.setCell ⟨q, 11, none⟩ (.slice (some ⟨g, 0, none⟩) (n + 1) cap')).heap[j]? = w.heap[j]?) := hide fun o w3 g cap' h1 h2 h3 => by
    refine ⟨HGO.out _ ?_, fun j hj => ?_⟩
    rotate_left
    · have hjW : W.heap[j]? = w.heap[j]? := HOLD.out j hj.lt
      have hjT : TyAt W j 38 := by obtain ⟨cs, f, e⟩ := hj; exact ⟨cs, f, hjW.trans e⟩
      rw [Below.heap_setCell _ _ _ _ (show j ≠ q from hjT.ne ⟨_, _, hW.blk⟩ (by decide)), ← hjW]
      refine (h2.block j (by have := hjT.lt; simp [World.drew]; omega) fun e => ?_).trans (Below.heap_alloc _ _ _ hjT.lt)
      exact hjT.ne (hW.own (by rw [hsv]; exact e.symm)) (by decide) rfl
    have e1 : sgOf A k on = ⟨k, cy, on, x, y⟩ := by unfold sgOf; rw [hcy.out, hx.out, hy.out]
    rw [e1]
    rw [← hsv] at h2 h3
    exact hW.grown hnn.out h1 h2 h3
  clear HT HGO hW hcy hx hy hnn hsv hi hz0 hz1 hz2
  go_wp2_with fail
  go_region_law
    ((refine step_append_lies _ (by rfl) _ _ _ (by rfl) N 94 i0 _ 5 40 Tryz.underlying43 HI.out HZ0.out HZ1.out HZ2.out rfl (by omega) (.slice a n cap) n (sgL A.seen) (by rfl) ((HOWN.out.alloc _).drew)
        ⟨W.heap.size, 0, none⟩ 1 1 (sgC ⟨k, cy, on, x, y⟩) (by rfl) (by rfl) (World.news_of_block (cs := #[.int .i64 (k : Int), .int .i64 cy, .bool on, .int .i64 x, .int .i64 y]) (t := 94) (fr := (0, 0)) (heap_alloc_new W _)) (sgC_one _)
        (by omega) HK1.out HK2.out HK3.out (W.heap.size + 1) (by simp) ?_; intro g cap' w3 hown3 hgrow hat hlt3; have fz : w3.frozen? ⟨q, 11, none⟩ = false := (hgrow.frozen_far ⟨q, 11, none⟩ (by simp; omega) hpn).trans FRZ.out; have cz : w3.cell? ⟨q, 11, none⟩ = some (.slice a n cap) := (hgrow.cell_far ⟨q, 11, none⟩ (by simp; omega) hpn).trans CEL.out))
  all_goals
    go_wp2_with fail
    go_end0
    exact ⟨rfl, HEND.out _ w3 g cap' hown3 hgrow (hat.imp id (fun e => by omega))⟩
end Go.Proofs.YtaablbmgagiajaaGreatDoor
