import Derived.Great.BuildSlice
import Derived.Deep.CutRange
import Derived.Test.YtaablbmgagiajabGreatDoorPGBQ
import Derived.Deep.RegionHeld3
import Derived.RangeFuncCalls
namespace Go.Proofs.YtaablbmgagiajabGreatDoor
open Go.RowKit Go.Deep
variable {N : Nat} {c : DkC} {D : SC} {X : DS}
theorem does_kept {V w' : World} {op : Option DS} {e : Ending} (h : DkP V N c D X) (hd : DoesOr V.drew w' N D X op e) :
    (∀ (a : Addr) (v : Value), V.cell? a = some v → ¬ Wr D a.block → w'.cell? a = some v) ∧ ((e = .returned .nilIface ∧ ∃ X', op = some X' ∧ Hid (AnsP V w' c D X')) ∨ (op = none ∧ e = .returned (.iface 74 (.int .i64 2)) ∧ Hid (AnsP V w' c D X ∧ HasErrT w'))) := by
  have hB : Below V.heap.size V V.drew := (Below.refl _ _).drew
  have key : Mod V w' (Wr D) → ∀ (a : Addr) (v : Value), V.cell? a = some v → ¬ Wr D a.block → w'.cell? a = some v := fun hm a v hv hn => (World.cell?_of_block (w := V) (a := a) (hm.block _ (World.block_lt_of_cell? V _ hv) hn)).trans hv
  rcases hd with ⟨rfl, S', c', ho, hg⟩ | ⟨ho, rfl, hb⟩
  · have hg' := hg.pre hB
    obtain ⟨D', hp, hs, hm, hgr, hc⟩ := hg'
    exact ⟨key hm, .inl ⟨rfl, _, ho, hide (h.went (hg.pre hB))⟩⟩
  · have hb' : Below V.heap.size V w' := hB.trans hb
    exact ⟨key (Mod.ofBelow hb' _), .inr ⟨ho, rfl, hide ⟨h.stays hb', (h.below hb').err⟩⟩⟩
set_option maxHeartbeats 1000000 in
set_option maxRecDepth 20000 in
theorem see_P (V : World) (M n cap : Nat) (z x y : Int) (op : Option DS) (h : DkP V N c D X) (hn : 2 < n) (hz : V.cell? ⟨M, 0, none⟩ = some (.int .i64 z)) (hx : V.cell? ⟨M, 1, none⟩ = some (.int .i64 x)) (hy : V.cell? ⟨M, 2, none⟩ = some (.int .i64 y)) (hM : ¬ Wr D M)
    (hC : ∀ W, DkP W N c D X → Calls Tryz.prog 18 #[.pointer (some ⟨D.p, 0, none⟩), .int .i64 z, .agg #[.int .i64 x, .int .i64 y]] W fun e W' => DoesOr W W' N D X op e) :
    Calls Tryz.prog 154 #[.pointer (some ⟨c.d, 0, none⟩), .slice (some ⟨M, 0, none⟩) n cap] V fun e V' => TellsOr V V' c D X op [115, 101, 101] e := by
  have c3 := h.dk.c3
  have hSd : V.drew.cell? ⟨c.d, 3, none⟩ = some (.pointer (some ⟨D.p, 0, none⟩)) ∧ V.drew.cell? ⟨M, 0, none⟩ = some (.int .i64 z) ∧ V.drew.cell? ⟨M, 1, none⟩ = some (.int .i64 x) ∧ V.drew.cell? ⟨M, 2, none⟩ = some (.int .i64 y) := by simpa using ⟨c3, hz, hx, hy⟩
  have hnd : ¬ Wr D c.d := fun hw => (h.ne hw).1 rfl
  have HC : Hid (Calls Tryz.prog 18 #[.pointer (some ⟨D.p, 0, none⟩), .int .i64 z, .agg #[.int .i64 x, .int .i64 y]] V.drew fun e w' => (w'.cell? ⟨c.d, 3, none⟩ = some (.pointer (some ⟨D.p, 0, none⟩)) ∧ w'.cell? ⟨M, 0, none⟩ = some (.int .i64 z) ∧ w'.cell? ⟨M, 1, none⟩ = some (.int .i64 x) ∧ w'.cell? ⟨M, 2, none⟩ = some (.int .i64 y)) ∧ ((e = .returned .nilIface ∧ ∃ X', op = some X' ∧ Hid (AnsP V w' c D X')) ∨ (op = none ∧ e = .returned (.iface 74 (.int .i64 2)) ∧ Hid (AnsP V w' c D X ∧ HasErrT w')))) := hide ((hC V.drew (h.below (Below.refl _ _).drew)).mono fun e w' hd => by
    obtain ⟨k, h2⟩ := does_kept h hd
    exact ⟨⟨k _ _ c3 hnd, k _ _ hz hM, k _ _ hx hM, k _ _ hy hM⟩, h2⟩)
  have hn0 : (0 : Int) < (n : Int) := by omega
  have hn1 : (1 : Int) < (n : Int) := by omega
  have hn2 : (2 : Int) < (n : Int) := by omega
  have hk0 : 0 < n := by omega
  have hk1 : 1 < n := by omega
  clear h hz hx hy hC c3 hnd
  go_enter Tryz.func154, Tryz.ntmps154
  go_wp2_with fail
  refine wp_region_held_drew (S := fun Y => Y.cell? ⟨c.d, 3, none⟩ = some (.pointer (some ⟨D.p, 0, none⟩)) ∧ Y.cell? ⟨M, 0, none⟩ = some (.int .i64 z) ∧ Y.cell? ⟨M, 1, none⟩ = some (.int .i64 x) ∧ Y.cell? ⟨M, 2, none⟩ = some (.int .i64 y)) (by kernel_rfl) hSd (fun hHeld => ?_)
  refine wpAnyH_take (i := 0) (oi := _) (v := .pointer (some ⟨c.d, 0, none⟩)) rfl (by kernel_rfl) (by kernel_rfl) (by kernel_rfl) (fun _ _ _ h => h) (Or.inl ⟨by rfl, fun w _ => by go_simp⟩) hHeld ?_
  simp only [Act.put, List.getElem_toArray, List.getElem_cons_zero, List.setIfInBounds_toArray, List.set_cons_succ, List.set_cons_zero]
  refine wpAnyH_take (i := 1) (oi := _) (v := .pointer (some ⟨c.d, 0, none⟩)) rfl (by kernel_rfl) (by kernel_rfl) (by kernel_rfl) (fun _ _ _ h => h) (Or.inl ⟨by rfl, fun w _ => by go_simp⟩) hHeld ?_
  simp only [Act.put, List.getElem_toArray, List.getElem_cons_succ, List.getElem_cons_zero, List.setIfInBounds_toArray, List.set_cons_succ, List.set_cons_zero]
  refine wpAnyH_take (i := 2) (oi := _) (v := .pointer (some ⟨c.d, 3, none⟩)) rfl (by kernel_rfl) (by kernel_rfl) (by kernel_rfl) (fun _ _ _ h => h) (Or.inl ⟨by rfl, fun w _ => by go_simp⟩) hHeld ?_
  simp only [Act.put, List.getElem_toArray, List.getElem_cons_succ, List.getElem_cons_zero, List.setIfInBounds_toArray, List.set_cons_succ, List.set_cons_zero]
  refine wpAnyH_take (i := 3) (oi := _) (v := .pointer (some ⟨D.p, 0, none⟩)) rfl (by kernel_rfl) (by kernel_rfl) (by kernel_rfl) (fun _ _ _ h => h) (Or.inl ⟨by rfl, fun w h => by obtain ⟨h1, h2, h3, h4⟩ := h; go_simp⟩) hHeld ?_
  simp only [Act.put, List.getElem_toArray, List.getElem_cons_succ, List.getElem_cons_zero, List.setIfInBounds_toArray, List.set_cons_succ, List.set_cons_zero]
  refine wpAnyH_take (i := 4) (oi := _) (v := .slice (some ⟨M, 0, none⟩) n cap) rfl (by kernel_rfl) (by kernel_rfl) (by kernel_rfl) (fun _ _ _ h => h) (Or.inl ⟨by rfl, fun w _ => by go_simp⟩) hHeld ?_
  simp only [Act.put, List.getElem_toArray, List.getElem_cons_succ, List.getElem_cons_zero, List.setIfInBounds_toArray, List.set_cons_succ, List.set_cons_zero]
  refine wpAnyH_take (i := 5) (oi := _) (v := .pointer (some ⟨M, 0, none⟩)) rfl (by kernel_rfl) (by kernel_rfl) (by kernel_rfl) (fun _ _ _ h => h) (Or.inl ⟨by rfl, fun w _ => by go_simp⟩) hHeld ?_
  simp only [Act.put, List.getElem_toArray, List.getElem_cons_succ, List.getElem_cons_zero, List.setIfInBounds_toArray, List.set_cons_succ, List.set_cons_zero]
  refine wpAnyH_take (i := 6) (oi := _) (v := .int .i64 z) rfl (by kernel_rfl) (by kernel_rfl) (by kernel_rfl) (fun _ _ _ h => h) (Or.inl ⟨by rfl, fun w h => by obtain ⟨h1, h2, h3, h4⟩ := h; go_simp⟩) hHeld ?_
  simp only [Act.put, List.getElem_toArray, List.getElem_cons_succ, List.getElem_cons_zero, List.setIfInBounds_toArray, List.set_cons_succ, List.set_cons_zero]
  refine wpAnyH_take (i := 7) (oi := _) (v := .slice (some ⟨M, 0, none⟩) n cap) rfl (by kernel_rfl) (by kernel_rfl) (by kernel_rfl) (fun _ _ _ h => h) (Or.inl ⟨by rfl, fun w _ => by go_simp⟩) hHeld ?_
  simp only [Act.put, List.getElem_toArray, List.getElem_cons_succ, List.getElem_cons_zero, List.setIfInBounds_toArray, List.set_cons_succ, List.set_cons_zero]
  refine wpAnyH_take (i := 8) (oi := _) (v := .pointer (some ⟨M, 1, none⟩)) rfl (by kernel_rfl) (by kernel_rfl) (by kernel_rfl) (fun _ _ _ h => h) (Or.inl ⟨by rfl, fun w _ => by go_simp⟩) hHeld ?_
  simp only [Act.put, List.getElem_toArray, List.getElem_cons_succ, List.getElem_cons_zero, List.setIfInBounds_toArray, List.set_cons_succ, List.set_cons_zero]
  refine wpAnyH_take (i := 9) (oi := _) (v := .int .i64 x) rfl (by kernel_rfl) (by kernel_rfl) (by kernel_rfl) (fun _ _ _ h => h) (Or.inl ⟨by rfl, fun w h => by obtain ⟨h1, h2, h3, h4⟩ := h; go_simp⟩) hHeld ?_
  simp only [Act.put, List.getElem_toArray, List.getElem_cons_succ, List.getElem_cons_zero, List.setIfInBounds_toArray, List.set_cons_succ, List.set_cons_zero]
  refine wpAnyH_take (i := 10) (oi := _) (v := .slice (some ⟨M, 0, none⟩) n cap) rfl (by kernel_rfl) (by kernel_rfl) (by kernel_rfl) (fun _ _ _ h => h) (Or.inl ⟨by rfl, fun w _ => by go_simp⟩) hHeld ?_
  simp only [Act.put, List.getElem_toArray, List.getElem_cons_succ, List.getElem_cons_zero, List.setIfInBounds_toArray, List.set_cons_succ, List.set_cons_zero]
  refine wpAnyH_take (i := 11) (oi := _) (v := .pointer (some ⟨M, 2, none⟩)) rfl (by kernel_rfl) (by kernel_rfl) (by kernel_rfl) (fun _ _ _ h => h) (Or.inl ⟨by rfl, fun w _ => by go_simp⟩) hHeld ?_
  simp only [Act.put, List.getElem_toArray, List.getElem_cons_succ, List.getElem_cons_zero, List.setIfInBounds_toArray, List.set_cons_succ, List.set_cons_zero]
  refine wpAnyH_take (i := 12) (oi := _) (v := .int .i64 y) rfl (by kernel_rfl) (by kernel_rfl) (by kernel_rfl) (fun _ _ _ h => h) (Or.inl ⟨by rfl, fun w h => by obtain ⟨h1, h2, h3, h4⟩ := h; go_simp⟩) hHeld ?_
  simp only [Act.put, List.getElem_toArray, List.getElem_cons_succ, List.getElem_cons_zero, List.setIfInBounds_toArray, List.set_cons_succ, List.set_cons_zero]
  refine wpAnyH_take (i := 13) (oi := _) (v := .agg #[.int .i64 x, .int .i64 y]) rfl (by kernel_rfl) (by kernel_rfl) (by kernel_rfl) (fun _ _ _ h => h) (Or.inl ⟨by rfl, fun w _ => by go_simp⟩) hHeld ?_
  simp only [Act.put, List.getElem_toArray, List.getElem_cons_succ, List.getElem_cons_zero, List.setIfInBounds_toArray, List.set_cons_succ, List.set_cons_zero]
  refine wpAnyH_ready (rs := [14]) (by kernel_rfl) (by simp) ?_
  refine AllReadyH.cons (o := _) rfl (fun K hK => ?_) AllReadyH.nil
  rw [if_pos (by rfl)]
  go_simp
  go_at_call 18
  refine HC.out.mono ?_
  rintro e w1 ⟨hS1, ⟨rfl, X', hX', HA⟩ | ⟨hop, rfl, HA⟩⟩
  · dsimp only
    refine hK.out _ _ hS1 (fun hHeld => ?_)
    clear hK K
    refine wpAnyH_ready (rs := [15]) (by kernel_rfl) (by simp) ?_
    refine AllReadyH.cons (o := _) rfl (fun K hK => ?_) AllReadyH.nil
    rw [if_pos (by rfl)]
    go_simp
    go_at_call 159
    refine (throw_nil _).mono ?_
    rintro e w2 ⟨rfl, rfl⟩
    dsimp only
    refine hK.out _ _ hS1 (fun hHeld => ?_)
    clear hK K
    refine wpAnyH_done (by kernel_rfl) ?_ _
    go_wp2
    go_ret
    exact .inl ⟨X', hX', rfl, HA.out⟩
  · dsimp only
    refine hK.out _ _ hS1 (fun hHeld => ?_)
    clear hK K
    refine wpAnyH_ready (rs := [15]) (by kernel_rfl) (by simp) ?_
    refine AllReadyH.cons (o := _) rfl (fun K hK => ?_) AllReadyH.nil
    rw [if_pos (by rfl)]
    go_simp
    go_at_call 159
    refine (throw2 _ HA.out.2).mono ?_
    rintro e w2 ⟨rfl, hB2⟩
    unfold thrown
    dsimp only
    exact ⟨rfl, .inr ⟨hop, rfl, HA.out.1.below hB2⟩⟩
set_option maxHeartbeats 1000000 in
set_option maxRecDepth 20000 in
theorem calm_P {W : Seen} {liar T : Nat} (V : World) (M n cap q : Nat) (h : DkP V N c D X) (hn : 0 < n) (hz : V.cell? ⟨M, 0, none⟩ = some (.int .i64 (q : Int))) (hM : ¬ Wr D M) (hq : q ≤ 100) (hI : ClInv X.L W liar X.win T X.S) (hT : T + 6 * q < 7000000) :
    Calls Tryz.prog 144 #[.pointer (some ⟨c.d, 0, none⟩), .slice (some ⟨M, 0, none⟩) n cap] V fun e V' => e = .returned (.string (txt [99, 97, 108, 109])) ∧ ∃ S' c', calmC X.L X.win q X.S X.c S' c' ∧ ClInv X.L W liar X.win (T + 6 * q) S' ∧ AnsP V V' c D ⟨X.L, X.win, S', c'⟩ := by
  have c3 := h.dk.c3
  have hSd : V.drew.cell? ⟨c.d, 3, none⟩ = some (.pointer (some ⟨D.p, 0, none⟩)) ∧ V.drew.cell? ⟨M, 0, none⟩ = some (.int .i64 (q : Int)) := by simpa using ⟨c3, hz⟩
  have hnd : ¬ Wr D c.d := fun hw => (h.ne hw).1 rfl
  have HC : Hid (Calls Tryz.prog 16 #[.pointer (some ⟨D.p, 0, none⟩), .int .i64 (q : Int)] V.drew fun e w' => e = .returned (.tuple #[]) ∧ (w'.cell? ⟨c.d, 3, none⟩ = some (.pointer (some ⟨D.p, 0, none⟩)) ∧ w'.cell? ⟨M, 0, none⟩ = some (.int .i64 (q : Int))) ∧ Hid (∃ S' c', calmC X.L X.win q X.S X.c S' c' ∧ ClInv X.L W liar X.win (T + 6 * q) S' ∧ AnsP V w' c D ⟨X.L, X.win, S', c'⟩)) := hide (by
    have hB : Below V.heap.size V V.drew := (Below.refl _ _).drew
    refine (calmC_any N D X.L X.win X.S V.drew q (h.below hB).dk.sys hI h.lok hT (by omega) h.dk.le X.c h.cnt).mono ?_
    rintro e w' ⟨rfl, S', c', h1, h2, hg⟩
    have hg' := hg.pre hB
    have hA := h.went hg'
    obtain ⟨D', hp, hs, hm, hgr, hc⟩ := hg'
    exact ⟨rfl, ⟨(World.cell?_of_block (w := V) (a := ⟨c.d, 3, none⟩) (hm.block _ (World.block_lt_of_cell? V _ c3) hnd)).trans c3, (World.cell?_of_block (w := V) (a := ⟨M, 0, none⟩) (hm.block _ (World.block_lt_of_cell? V _ hz) hM)).trans hz⟩, hide ⟨S', c', h1, h2, hA⟩⟩)
  have hn' : (0 : Int) < (n : Int) := by omega
  have t1 : decide ((q : Int) < 0) = false := decide_eq_false (by omega)
  have t2 : decide (100 < (q : Int)) = false := decide_eq_false (by omega)
  have t3 : ¬ (q : Int) < 0 := by omega
  have t4 : ¬ 100 < (q : Int) := by omega
  have t5 : ¬ 100 < q := by omega
  clear h hI hT hq c3 hnd
  go_enter Tryz.func144, Tryz.ntmps144
  go_wp2_with fail
  refine wp_region_held_drew (S := fun Y => Y.cell? ⟨c.d, 3, none⟩ = some (.pointer (some ⟨D.p, 0, none⟩)) ∧ Y.cell? ⟨M, 0, none⟩ = some (.int .i64 (q : Int))) (by kernel_rfl) hSd (fun hHeld => ?_)
  refine wpAnyH_take (i := 0) (oi := _) (v := .pointer (some ⟨c.d, 0, none⟩)) rfl (by kernel_rfl) (by kernel_rfl) (by kernel_rfl) (fun _ _ _ h => h) (Or.inl ⟨by rfl, fun w _ => by go_simp⟩) hHeld ?_
  simp only [Act.put, List.getElem_toArray, List.getElem_cons_zero, List.setIfInBounds_toArray, List.set_cons_succ, List.set_cons_zero]
  refine wpAnyH_take (i := 1) (oi := _) (v := .pointer (some ⟨c.d, 0, none⟩)) rfl (by kernel_rfl) (by kernel_rfl) (by kernel_rfl) (fun _ _ _ h => h) (Or.inl ⟨by rfl, fun w _ => by go_simp⟩) hHeld ?_
  simp only [Act.put, List.getElem_toArray, List.getElem_cons_succ, List.getElem_cons_zero, List.setIfInBounds_toArray, List.set_cons_succ, List.set_cons_zero]
  refine wpAnyH_take (i := 2) (oi := _) (v := .pointer (some ⟨c.d, 3, none⟩)) rfl (by kernel_rfl) (by kernel_rfl) (by kernel_rfl) (fun _ _ _ h => h) (Or.inl ⟨by rfl, fun w _ => by go_simp⟩) hHeld ?_
  simp only [Act.put, List.getElem_toArray, List.getElem_cons_succ, List.getElem_cons_zero, List.setIfInBounds_toArray, List.set_cons_succ, List.set_cons_zero]
  refine wpAnyH_take (i := 3) (oi := _) (v := .pointer (some ⟨D.p, 0, none⟩)) rfl (by kernel_rfl) (by kernel_rfl) (by kernel_rfl) (fun _ _ _ h => h) (Or.inl ⟨by rfl, fun w h => by obtain ⟨h1, h2⟩ := h; go_simp⟩) hHeld ?_
  simp only [Act.put, List.getElem_toArray, List.getElem_cons_succ, List.getElem_cons_zero, List.setIfInBounds_toArray, List.set_cons_succ, List.set_cons_zero]
  refine wpAnyH_take (i := 4) (oi := _) (v := .slice (some ⟨M, 0, none⟩) n cap) rfl (by kernel_rfl) (by kernel_rfl) (by kernel_rfl) (fun _ _ _ h => h) (Or.inl ⟨by rfl, fun w _ => by go_simp⟩) hHeld ?_
  simp only [Act.put, List.getElem_toArray, List.getElem_cons_succ, List.getElem_cons_zero, List.setIfInBounds_toArray, List.set_cons_succ, List.set_cons_zero]
  refine wpAnyH_take (i := 5) (oi := _) (v := .pointer (some ⟨M, 0, none⟩)) rfl (by kernel_rfl) (by kernel_rfl) (by kernel_rfl) (fun _ _ _ h => h) (Or.inl ⟨by rfl, fun w _ => by go_simp⟩) hHeld ?_
  simp only [Act.put, List.getElem_toArray, List.getElem_cons_succ, List.getElem_cons_zero, List.setIfInBounds_toArray, List.set_cons_succ, List.set_cons_zero]
  refine wpAnyH_take (i := 6) (oi := _) (v := .int .i64 (q : Int)) rfl (by kernel_rfl) (by kernel_rfl) (by kernel_rfl) (fun _ _ _ h => h) (Or.inl ⟨by rfl, fun w h => by obtain ⟨h1, h2⟩ := h; go_simp⟩) hHeld ?_
  simp only [Act.put, List.getElem_toArray, List.getElem_cons_succ, List.getElem_cons_zero, List.setIfInBounds_toArray, List.set_cons_succ, List.set_cons_zero]
  refine wpAnyH_ready (rs := [7]) (by kernel_rfl) (by simp) ?_
  refine AllReadyH.cons (o := _) rfl (fun K hK => ?_) AllReadyH.nil
  rw [if_pos (by rfl)]
  go_simp
  go_at_call 16
  refine HC.out.mono ?_
  rintro e w1 ⟨rfl, hS1, HA⟩
  dsimp only
  refine hK.out _ _ hS1 (fun hHeld => ?_)
  clear hK K
  refine wpAnyH_done (by kernel_rfl) ?_ _
  go_wp2
  go_ret
  exact ⟨rfl, HA.out⟩
set_option maxHeartbeats 1000000 in
set_option maxRecDepth 20000 in
theorem calm_no (V : World) (d M n cap : Nat) (z : Int) (hn : 0 < n) (hz : V.cell? ⟨M, 0, none⟩ = some (.int .i64 z)) (hb : z < 0 ∨ 100 < z) :
    Calls Tryz.prog 144 #[.pointer (some ⟨d, 0, none⟩), .slice (some ⟨M, 0, none⟩) n cap] V fun e V' => e = thrown 2 ∧ V' = V := by
  have hn' : (0 : Int) < (n : Int) := by omega
  by_cases h0 : z < 0
  · have t1 : decide (z < 0) = true := decide_eq_true h0
    clear hb
    go_enter Tryz.func144, Tryz.ntmps144
    go_wp2
    exact ⟨rfl, rfl, rfl⟩
  · have h1 : 100 < z := by omega
    have t1 : decide (z < 0) = false := decide_eq_false h0
    have t2 : decide (100 < z) = true := decide_eq_true h1
    clear hb
    go_enter Tryz.func144, Tryz.ntmps144
    go_wp2
    exact ⟨rfl, rfl, rfl⟩
variable {N : Nat} {c : DkC} {D : SC} {X : DS}
theorem StIs.at0 {w : World} {q : Nat} {Z : St} (h : StIs w q Z) : w.cell? ⟨q, 0, none⟩ = some (.int .i64 (Z.set : Int)) := (blk_cell h 0).trans rfl
set_option maxHeartbeats 1000000 in
set_option maxRecDepth 20000 in
theorem sreplica_bad (p : Nat) (z : Int) (w : World) (hz : isRep z = false) :
    Calls Tryz.prog 20 #[.pointer (some ⟨p, 0, none⟩), .int .i64 z] w fun e w' => e = .returned (.tuple #[.int .i64 0, .agg (stCells st0), .iface 74 (.int .i64 2)]) ∧ Below w.heap.size w w' := by
  obtain ⟨W, hW⟩ : ∃ W, Hid (w.alloc (.cells (stCells st0) 34) = W) := ⟨_, hide rfl⟩
  have hB0 : Below w.heap.size w W := by rw [← hW.out]; exact (Below.refl _ _).alloc (Nat.le_refl _) _
  have hbx : StIs W w.heap.size st0 := by rw [← hW.out]; exact blk_new _ _
  have HR := hide (sysRep_any z W)
  rw [hz] at HR
  have HB0 := hide hB0
  have HBX := hide hbx
  clear hbx hB0
  go_enter Tryz.func20, Tryz.ntmps20
  go_wp2_with fail
  rw [show w.alloc (.cells #[.int .i64 0, .int .i64 0, .int .i64 0, .int .i64 0, .int .i64 0, .int .i64 0, .int .i64 0, .int .i64 0, .int .i64 0, .int .i64 0, .int .i64 0, .int .i64 0, .int .i64 0, .int .i64 0, .int .i64 0, .int .i64 0, .int .i64 0] 34) = W from hW.out]
  refine HR.out.mono ?_
  rintro e wz ⟨rfl, rfl⟩
  clear hW
  go_wp2_with (refine wpList_store_s rfl _ _ rfl w.heap.size st0 st0 rfl rfl HBX.out ?_)
  intro w7 HF
  go_wp2
  exact bodyPost_ret (results_mid rfl rfl (load_s HF.out.1)) rfl ⟨rfl, HB0.out.trans (HF.out.2.2 w.heap.size (Nat.le_refl _))⟩
set_option maxHeartbeats 2000000 in
set_option maxRecDepth 20000 in
theorem replica_ok (V : World) (M n cap : Nat) (z cy : Int) (Z : St) (hcy : IntIn cy) (hZ : IntIn (Z.set : Int)) (h : DkP V N c D X) (hn : 0 < n) (hz : V.cell? ⟨M, 0, none⟩ = some (.int .i64 z))
    (hC : ∀ W, DkP W N c D X → Calls Tryz.prog 20 #[.pointer (some ⟨D.p, 0, none⟩), .int .i64 z] W fun e W' => e = .returned (.tuple #[.int .i64 cy, .agg (stCells Z), .nilIface]) ∧ Below W.heap.size W W') :
    Calls Tryz.prog 153 #[.pointer (some ⟨c.d, 0, none⟩), .slice (some ⟨M, 0, none⟩) n cap] V fun e V' => e = .returned (.string (txt (spF [cy, (Z.set : Int)]))) ∧ Below V.heap.size V V' := by
  obtain ⟨ev, hev⟩ : ∃ ev : Value, Hid (.nilIface = ev) := ⟨_, hide rfl⟩
  rw [hev.out] at hC
  have HSS : Hid (∀ Y, Below V.heap.size V Y → Y.cell? ⟨c.d, 3, none⟩ = some (.pointer (some ⟨D.p, 0, none⟩)) ∧ Y.cell? ⟨M, 0, none⟩ = some (.int .i64 z)) := hide fun Y hY => ⟨(h.below hY).dk.c3, (hY.cell (p := ⟨M, 0, none⟩) (World.block_lt_of_cell? V _ hz)).trans hz⟩
  have HC : Hid (∀ Y, Below V.heap.size V Y → Calls Tryz.prog 20 #[.pointer (some ⟨D.p, 0, none⟩), .int .i64 z] Y fun e w' => e = .returned (.tuple #[.int .i64 cy, .agg (stCells Z), ev]) ∧ Hid (Below V.heap.size V w' ∧ Below Y.heap.size Y w')) := hide fun Y hY => (hC Y (h.below hY)).mono fun e w' hh => ⟨hh.1, hide ⟨hY.trans (hh.2.mono hY.size), hh.2⟩⟩
  have HN : Hid (∀ Y, Below V.heap.size V Y → HasPow Y ∧ HasErrT Y) := hide fun Y hY => ⟨(h.below hY).dk.num.pow, (h.below hY).err⟩
  have HST : Hid (∀ Y, Below V.heap.size V Y → AnsP V Y c D X) := hide fun Y hY => h.stays hY
  have hn' : (0 : Int) < (n : Int) := by omega
  clear h hz hC
  go_enter Tryz.func153, Tryz.ntmps153
  go_wp2_with fail
  go_cut [5, 6, 7] from 8 to 19 (fun s5 s6 s7 wc => ∃ b, s6 = .pointer (some ⟨b, 0, none⟩) ∧ s5 = .int .i64 cy ∧ s7 = ev ∧ StIs wc b Z ∧ Below V.heap.size V wc)
  case first =>
    refine wp_region_held_drew (S := fun Y => Y.cell? ⟨c.d, 3, none⟩ = some (.pointer (some ⟨D.p, 0, none⟩)) ∧ Y.cell? ⟨M, 0, none⟩ = some (.int .i64 z)) (by kernel_rfl) (HSS.out _ (Below.refl _ _).drew) (fun hHeld => ?_)
    refine wpAnyH_take (i := 0) (oi := _) (v := .pointer (some ⟨c.d, 0, none⟩)) rfl (by kernel_rfl) (by kernel_rfl) (by kernel_rfl) (fun _ _ _ h => h) (Or.inl ⟨by rfl, fun w _ => by go_simp⟩) hHeld ?_
    simp only [Act.put, List.getElem_toArray, List.getElem_cons_zero, List.setIfInBounds_toArray, List.set_cons_succ, List.set_cons_zero]
    refine wpAnyH_take (i := 1) (oi := _) (v := .pointer (some ⟨c.d, 0, none⟩)) rfl (by kernel_rfl) (by kernel_rfl) (by kernel_rfl) (fun _ _ _ h => h) (Or.inl ⟨by rfl, fun w _ => by go_simp⟩) hHeld ?_
    simp only [Act.put, List.getElem_toArray, List.getElem_cons_succ, List.getElem_cons_zero, List.setIfInBounds_toArray, List.set_cons_succ, List.set_cons_zero]
    refine wpAnyH_take (i := 2) (oi := _) (v := .pointer (some ⟨c.d, 3, none⟩)) rfl (by kernel_rfl) (by kernel_rfl) (by kernel_rfl) (fun _ _ _ h => h) (Or.inl ⟨by rfl, fun w _ => by go_simp⟩) hHeld ?_
    simp only [Act.put, List.getElem_toArray, List.getElem_cons_succ, List.getElem_cons_zero, List.setIfInBounds_toArray, List.set_cons_succ, List.set_cons_zero]
    refine wpAnyH_take (i := 3) (oi := _) (v := .pointer (some ⟨D.p, 0, none⟩)) rfl (by kernel_rfl) (by kernel_rfl) (by kernel_rfl) (fun _ _ _ h => h) (Or.inl ⟨by rfl, fun w h => by obtain ⟨h1, h2⟩ := h; go_simp⟩) hHeld ?_
    simp only [Act.put, List.getElem_toArray, List.getElem_cons_succ, List.getElem_cons_zero, List.setIfInBounds_toArray, List.set_cons_succ, List.set_cons_zero]
    refine wpAnyH_take (i := 4) (oi := _) (v := .slice (some ⟨M, 0, none⟩) n cap) rfl (by kernel_rfl) (by kernel_rfl) (by kernel_rfl) (fun _ _ _ h => h) (Or.inl ⟨by rfl, fun w _ => by go_simp⟩) hHeld ?_
    simp only [Act.put, List.getElem_toArray, List.getElem_cons_succ, List.getElem_cons_zero, List.setIfInBounds_toArray, List.set_cons_succ, List.set_cons_zero]
    refine wpAnyH_take (i := 5) (oi := _) (v := .pointer (some ⟨M, 0, none⟩)) rfl (by kernel_rfl) (by kernel_rfl) (by kernel_rfl) (fun _ _ _ h => h) (Or.inl ⟨by rfl, fun w _ => by go_simp⟩) hHeld ?_
    simp only [Act.put, List.getElem_toArray, List.getElem_cons_succ, List.getElem_cons_zero, List.setIfInBounds_toArray, List.set_cons_succ, List.set_cons_zero]
    refine wpAnyH_take (i := 6) (oi := _) (v := .int .i64 z) rfl (by kernel_rfl) (by kernel_rfl) (by kernel_rfl) (fun _ _ _ h => h) (Or.inl ⟨by rfl, fun w h => by obtain ⟨h1, h2⟩ := h; go_simp⟩) hHeld ?_
    simp only [Act.put, List.getElem_toArray, List.getElem_cons_succ, List.getElem_cons_zero, List.setIfInBounds_toArray, List.set_cons_succ, List.set_cons_zero]
    refine wpAnyH_ready (rs := [7, 12]) (by kernel_rfl) (by simp) ?_
    refine AllReadyH.cons (o := _) rfl (fun K hK => ?_) (AllReadyH.cons (o := _) rfl (fun K hK => ?_) AllReadyH.nil)
    · rw [if_pos (by rfl)]
      go_simp
      go_at_call 20
      refine (HC.out _ (Below.refl _ _).drew).mono ?_
      rintro e w5 ⟨rfl, HB5⟩
      dsimp only
      refine hK.out _ _ (HSS.out _ HB5.out.1) (fun hHeld => ?_)
      clear hK K
      refine wpAnyH_take (i := 8) (oi := _) (v := .tuple #[.int .i64 cy, .agg (stCells Z), ev]) rfl (by kernel_rfl) (by kernel_rfl) (by kernel_rfl) (fun _ _ _ h => h) (Or.inl ⟨by rfl, fun w _ => by go_simp⟩) hHeld ?_
      simp only [Act.put, List.getElem_toArray, List.getElem_cons_succ, List.getElem_cons_zero, List.setIfInBounds_toArray, List.set_cons_succ, List.set_cons_zero]
      refine wpAnyH_take (i := 9) (oi := _) (v := .int .i64 cy) rfl (by kernel_rfl) (by kernel_rfl) (by kernel_rfl) (fun _ _ _ h => h) (Or.inl ⟨by rfl, fun w _ => by go_simp⟩) hHeld ?_
      simp only [Act.put, List.getElem_toArray, List.getElem_cons_succ, List.getElem_cons_zero, List.setIfInBounds_toArray, List.set_cons_succ, List.set_cons_zero]
      refine wpAnyH_take (i := 10) (oi := _) (v := .agg (stCells Z)) rfl (by kernel_rfl) (by kernel_rfl) (by kernel_rfl) (fun _ _ _ h => h) (Or.inl ⟨by rfl, fun w _ => by go_simp⟩) hHeld ?_
      simp only [Act.put, List.getElem_toArray, List.getElem_cons_succ, List.getElem_cons_zero, List.setIfInBounds_toArray, List.set_cons_succ, List.set_cons_zero]
      refine wpAnyH_take (i := 11) (oi := _) (v := ev) rfl (by kernel_rfl) (by kernel_rfl) (by kernel_rfl) (fun _ _ _ h => h) (Or.inl ⟨by rfl, fun w _ => by go_simp⟩) hHeld ?_
      simp only [Act.put, List.getElem_toArray, List.getElem_cons_succ, List.getElem_cons_zero, List.setIfInBounds_toArray, List.set_cons_succ, List.set_cons_zero]
      refine wpAnyH_ready (rs := [12]) (by kernel_rfl) (by simp) ?_
      refine AllReadyH.cons (o := _) rfl (fun K hK => ?_) AllReadyH.nil
      rw [if_pos (by rfl)]
      go_simp
      have hb6 : Below V.heap.size V (w5.alloc (.cells (stCells st0) 34)) := HB5.out.1.alloc HB5.out.1.size _
      have hz6 : StIs (w5.alloc (.cells (stCells st0) 34)) w5.heap.size st0 := blk_new _ _
      refine hK.out _ _ (HSS.out _ hb6) (fun hHeld => ?_)
      clear hK K
      refine wpAnyH_ready (rs := [13]) (by kernel_rfl) (by simp) ?_
      refine AllReadyH.cons (o := _) rfl (fun K hK => ?_) AllReadyH.nil
      rw [if_pos (by rfl)]
      go_simp
      refine hK.out _ _ (HSS.out _ hb6) (fun hHeld => ?_)
      clear hK K
      refine wpAnyH_ready (rs := [14]) (by kernel_rfl) (by simp) ?_
      refine AllReadyH.cons (o := _) rfl (fun K hK => ?_) AllReadyH.nil
      rw [if_pos (by rfl)]
      refine wp_store_row _ _ _ rfl _ (stCells Z) rfl rfl _ _ hz6 (by rw [stateInfo]; rfl) rfl (oneCells Z) ?_
      have hz7 := row_same hz6 Z
      have hb7 := below_row hb6 HB5.out.1.size (stCells Z)
      refine hK.out _ _ (HSS.out _ hb7) (fun hHeld => ?_)
      clear hK K
      simp only [Act.put]
      refine wpAnyH_ready (rs := [15]) (by kernel_rfl) (by simp) ?_
      refine AllReadyH.cons (o := _) rfl (fun K hK => ?_) AllReadyH.nil
      rw [if_pos (by rfl)]
      go_simp
      refine hK.out _ _ (HSS.out _ hb7) (fun hHeld => ?_)
      clear hK K
      refine wpAnyH_done (by kernel_rfl) ?_ _
      go_wp2_with fail
      go_meet
      exact ⟨_, rfl, rfl, rfl, hz7, hb7⟩
    · rw [if_pos (by rfl)]
      go_simp
      have hb5 : Below V.heap.size V (V.drew.alloc (.cells (stCells st0) 34)) := (Below.refl V.heap.size V).drew.alloc (Nat.le_refl V.heap.size) _
      have hz5 : StIs (V.drew.alloc (.cells (stCells st0) 34)) V.heap.size st0 := blk_new V.drew _
      refine hK.out _ _ (HSS.out _ hb5) (fun hHeld => ?_)
      clear hK K
      refine wpAnyH_ready (rs := [7]) (by kernel_rfl) (by simp) ?_
      refine AllReadyH.cons (o := _) rfl (fun K hK => ?_) AllReadyH.nil
      rw [if_pos (by rfl)]
      go_simp
      go_at_call 20
      refine (HC.out _ hb5).mono ?_
      rintro e w6 ⟨rfl, HB6⟩
      dsimp only
      have hz6 : StIs w6 V.heap.size st0 := (HB6.out.2.block _ hz5.lt).trans hz5
      refine hK.out _ _ (HSS.out _ HB6.out.1) (fun hHeld => ?_)
      clear hK K
      refine wpAnyH_take (i := 8) (oi := _) (v := .tuple #[.int .i64 cy, .agg (stCells Z), ev]) rfl (by kernel_rfl) (by kernel_rfl) (by kernel_rfl) (fun _ _ _ h => h) (Or.inl ⟨by rfl, fun w _ => by go_simp⟩) hHeld ?_
      simp only [Act.put, List.getElem_toArray, List.getElem_cons_succ, List.getElem_cons_zero, List.setIfInBounds_toArray, List.set_cons_succ, List.set_cons_zero]
      refine wpAnyH_take (i := 9) (oi := _) (v := .int .i64 cy) rfl (by kernel_rfl) (by kernel_rfl) (by kernel_rfl) (fun _ _ _ h => h) (Or.inl ⟨by rfl, fun w _ => by go_simp⟩) hHeld ?_
      simp only [Act.put, List.getElem_toArray, List.getElem_cons_succ, List.getElem_cons_zero, List.setIfInBounds_toArray, List.set_cons_succ, List.set_cons_zero]
      refine wpAnyH_take (i := 10) (oi := _) (v := .agg (stCells Z)) rfl (by kernel_rfl) (by kernel_rfl) (by kernel_rfl) (fun _ _ _ h => h) (Or.inl ⟨by rfl, fun w _ => by go_simp⟩) hHeld ?_
      simp only [Act.put, List.getElem_toArray, List.getElem_cons_succ, List.getElem_cons_zero, List.setIfInBounds_toArray, List.set_cons_succ, List.set_cons_zero]
      refine wpAnyH_take (i := 11) (oi := _) (v := ev) rfl (by kernel_rfl) (by kernel_rfl) (by kernel_rfl) (fun _ _ _ h => h) (Or.inl ⟨by rfl, fun w _ => by go_simp⟩) hHeld ?_
      simp only [Act.put, List.getElem_toArray, List.getElem_cons_succ, List.getElem_cons_zero, List.setIfInBounds_toArray, List.set_cons_succ, List.set_cons_zero]
      refine wpAnyH_ready (rs := [13]) (by kernel_rfl) (by simp) ?_
      refine AllReadyH.cons (o := _) rfl (fun K hK => ?_) AllReadyH.nil
      rw [if_pos (by rfl)]
      go_simp
      refine hK.out _ _ (HSS.out _ HB6.out.1) (fun hHeld => ?_)
      clear hK K
      refine wpAnyH_ready (rs := [14]) (by kernel_rfl) (by simp) ?_
      refine AllReadyH.cons (o := _) rfl (fun K hK => ?_) AllReadyH.nil
      rw [if_pos (by rfl)]
      refine wp_store_row _ _ _ rfl _ (stCells Z) rfl rfl _ _ hz6 (by rw [stateInfo]; rfl) rfl (oneCells Z) ?_
      have hz7 := row_same hz6 Z
      have hb7 := below_row HB6.out.1 (Nat.le_refl _) (stCells Z)
      refine hK.out _ _ (HSS.out _ hb7) (fun hHeld => ?_)
      clear hK K
      simp only [Act.put]
      refine wpAnyH_ready (rs := [15]) (by kernel_rfl) (by simp) ?_
      refine AllReadyH.cons (o := _) rfl (fun K hK => ?_) AllReadyH.nil
      rw [if_pos (by rfl)]
      go_simp
      refine hK.out _ _ (HSS.out _ hb7) (fun hHeld => ?_)
      clear hK K
      refine wpAnyH_done (by kernel_rfl) ?_ _
      go_wp2_with fail
      go_meet
      exact ⟨_, rfl, rfl, rfl, hz7, hb7⟩
  case rest =>
    obtain ⟨b, rfl, rfl, rfl, hst, hb⟩ := hcut
    rw [← hev.out]
    clear hev
    have s0 : wc.cell? ⟨b, 0, none⟩ = some (.int .i64 (Z.set : Int)) := hst.at0
    have HB := hide hb
    have HP : Hid (Calls Tryz.prog 182 #[.slice (some ⟨wc.heap.size, 0, none⟩) 2 2] (wc.alloc (.cells #[.int .i64 cy, .int .i64 (Z.set : Int)] 3)) fun e w' => e = .returned (.string (txt (spF [cy, (Z.set : Int)]))) ∧ Hid (Below V.heap.size V w')) := hide (by
      have hB2 : Below V.heap.size V (wc.alloc (.cells #[.int .i64 cy, .int .i64 (Z.set : Int)] 3)) := hb.alloc hb.size _
      refine (spaced_any [cy, (Z.set : Int)] (some ⟨wc.heap.size, 0, none⟩) 2 2 _ (isSl_new wc [cy, (Z.set : Int)] 2 rfl) (by
        intro y hy
        simp only [List.mem_cons, List.not_mem_nil, or_false] at hy
        rcases hy with rfl | rfl
        · exact hcy
        · exact hZ) (by omega) (HN.out _ hB2).1).mono ?_
      rintro e w' ⟨rfl, hB⟩
      exact ⟨rfl, hide (hB2.trans (hB.mono hB2.size))⟩)
    clear hst hb
    go_wp2_with fail
    refine (throw_nil _).mono ?_
    rintro e w2 ⟨rfl, rfl⟩
    go_wp2_with fail
    go_at_call 182
    refine HP.out.mono ?_
    rintro e w3 ⟨rfl, HB3⟩
    go_wp2
    go_ret
    exact ⟨rfl, HB3.out⟩
set_option maxHeartbeats 2000000 in
set_option maxRecDepth 20000 in
theorem replica_no (V : World) (M n cap : Nat) (z cy : Int) (Z : St) (h : DkP V N c D X) (hn : 0 < n) (hz : V.cell? ⟨M, 0, none⟩ = some (.int .i64 z))
    (hC : ∀ W, DkP W N c D X → Calls Tryz.prog 20 #[.pointer (some ⟨D.p, 0, none⟩), .int .i64 z] W fun e W' => e = .returned (.tuple #[.int .i64 cy, .agg (stCells Z), .iface 74 (.int .i64 2)]) ∧ Below W.heap.size W W') :
    Calls Tryz.prog 153 #[.pointer (some ⟨c.d, 0, none⟩), .slice (some ⟨M, 0, none⟩) n cap] V fun e V' => e = thrown 2 ∧ AnsP V V' c D X := by
  obtain ⟨ev, hev⟩ : ∃ ev : Value, Hid (.iface 74 (.int .i64 2) = ev) := ⟨_, hide rfl⟩
  rw [hev.out] at hC
  have HSS : Hid (∀ Y, Below V.heap.size V Y → Y.cell? ⟨c.d, 3, none⟩ = some (.pointer (some ⟨D.p, 0, none⟩)) ∧ Y.cell? ⟨M, 0, none⟩ = some (.int .i64 z)) := hide fun Y hY => ⟨(h.below hY).dk.c3, (hY.cell (p := ⟨M, 0, none⟩) (World.block_lt_of_cell? V _ hz)).trans hz⟩
  have HC : Hid (∀ Y, Below V.heap.size V Y → Calls Tryz.prog 20 #[.pointer (some ⟨D.p, 0, none⟩), .int .i64 z] Y fun e w' => e = .returned (.tuple #[.int .i64 cy, .agg (stCells Z), ev]) ∧ Hid (Below V.heap.size V w' ∧ Below Y.heap.size Y w')) := hide fun Y hY => (hC Y (h.below hY)).mono fun e w' hh => ⟨hh.1, hide ⟨hY.trans (hh.2.mono hY.size), hh.2⟩⟩
  have HN : Hid (∀ Y, Below V.heap.size V Y → HasPow Y ∧ HasErrT Y) := hide fun Y hY => ⟨(h.below hY).dk.num.pow, (h.below hY).err⟩
  have HST : Hid (∀ Y, Below V.heap.size V Y → AnsP V Y c D X) := hide fun Y hY => h.stays hY
  have hn' : (0 : Int) < (n : Int) := by omega
  clear h hz hC
  go_enter Tryz.func153, Tryz.ntmps153
  go_wp2_with fail
  go_cut [5, 6, 7] from 8 to 19 (fun s5 s6 s7 wc => ∃ b, s6 = .pointer (some ⟨b, 0, none⟩) ∧ s5 = .int .i64 cy ∧ s7 = ev ∧ StIs wc b Z ∧ Below V.heap.size V wc)
  case first =>
    refine wp_region_held_drew (S := fun Y => Y.cell? ⟨c.d, 3, none⟩ = some (.pointer (some ⟨D.p, 0, none⟩)) ∧ Y.cell? ⟨M, 0, none⟩ = some (.int .i64 z)) (by kernel_rfl) (HSS.out _ (Below.refl _ _).drew) (fun hHeld => ?_)
    refine wpAnyH_take (i := 0) (oi := _) (v := .pointer (some ⟨c.d, 0, none⟩)) rfl (by kernel_rfl) (by kernel_rfl) (by kernel_rfl) (fun _ _ _ h => h) (Or.inl ⟨by rfl, fun w _ => by go_simp⟩) hHeld ?_
    simp only [Act.put, List.getElem_toArray, List.getElem_cons_zero, List.setIfInBounds_toArray, List.set_cons_succ, List.set_cons_zero]
    refine wpAnyH_take (i := 1) (oi := _) (v := .pointer (some ⟨c.d, 0, none⟩)) rfl (by kernel_rfl) (by kernel_rfl) (by kernel_rfl) (fun _ _ _ h => h) (Or.inl ⟨by rfl, fun w _ => by go_simp⟩) hHeld ?_
    simp only [Act.put, List.getElem_toArray, List.getElem_cons_succ, List.getElem_cons_zero, List.setIfInBounds_toArray, List.set_cons_succ, List.set_cons_zero]
    refine wpAnyH_take (i := 2) (oi := _) (v := .pointer (some ⟨c.d, 3, none⟩)) rfl (by kernel_rfl) (by kernel_rfl) (by kernel_rfl) (fun _ _ _ h => h) (Or.inl ⟨by rfl, fun w _ => by go_simp⟩) hHeld ?_
    simp only [Act.put, List.getElem_toArray, List.getElem_cons_succ, List.getElem_cons_zero, List.setIfInBounds_toArray, List.set_cons_succ, List.set_cons_zero]
    refine wpAnyH_take (i := 3) (oi := _) (v := .pointer (some ⟨D.p, 0, none⟩)) rfl (by kernel_rfl) (by kernel_rfl) (by kernel_rfl) (fun _ _ _ h => h) (Or.inl ⟨by rfl, fun w h => by obtain ⟨h1, h2⟩ := h; go_simp⟩) hHeld ?_
    simp only [Act.put, List.getElem_toArray, List.getElem_cons_succ, List.getElem_cons_zero, List.setIfInBounds_toArray, List.set_cons_succ, List.set_cons_zero]
    refine wpAnyH_take (i := 4) (oi := _) (v := .slice (some ⟨M, 0, none⟩) n cap) rfl (by kernel_rfl) (by kernel_rfl) (by kernel_rfl) (fun _ _ _ h => h) (Or.inl ⟨by rfl, fun w _ => by go_simp⟩) hHeld ?_
    simp only [Act.put, List.getElem_toArray, List.getElem_cons_succ, List.getElem_cons_zero, List.setIfInBounds_toArray, List.set_cons_succ, List.set_cons_zero]
    refine wpAnyH_take (i := 5) (oi := _) (v := .pointer (some ⟨M, 0, none⟩)) rfl (by kernel_rfl) (by kernel_rfl) (by kernel_rfl) (fun _ _ _ h => h) (Or.inl ⟨by rfl, fun w _ => by go_simp⟩) hHeld ?_
    simp only [Act.put, List.getElem_toArray, List.getElem_cons_succ, List.getElem_cons_zero, List.setIfInBounds_toArray, List.set_cons_succ, List.set_cons_zero]
    refine wpAnyH_take (i := 6) (oi := _) (v := .int .i64 z) rfl (by kernel_rfl) (by kernel_rfl) (by kernel_rfl) (fun _ _ _ h => h) (Or.inl ⟨by rfl, fun w h => by obtain ⟨h1, h2⟩ := h; go_simp⟩) hHeld ?_
    simp only [Act.put, List.getElem_toArray, List.getElem_cons_succ, List.getElem_cons_zero, List.setIfInBounds_toArray, List.set_cons_succ, List.set_cons_zero]
    refine wpAnyH_ready (rs := [7, 12]) (by kernel_rfl) (by simp) ?_
    refine AllReadyH.cons (o := _) rfl (fun K hK => ?_) (AllReadyH.cons (o := _) rfl (fun K hK => ?_) AllReadyH.nil)
    · rw [if_pos (by rfl)]
      go_simp
      go_at_call 20
      refine (HC.out _ (Below.refl _ _).drew).mono ?_
      rintro e w5 ⟨rfl, HB5⟩
      dsimp only
      refine hK.out _ _ (HSS.out _ HB5.out.1) (fun hHeld => ?_)
      clear hK K
      refine wpAnyH_take (i := 8) (oi := _) (v := .tuple #[.int .i64 cy, .agg (stCells Z), ev]) rfl (by kernel_rfl) (by kernel_rfl) (by kernel_rfl) (fun _ _ _ h => h) (Or.inl ⟨by rfl, fun w _ => by go_simp⟩) hHeld ?_
      simp only [Act.put, List.getElem_toArray, List.getElem_cons_succ, List.getElem_cons_zero, List.setIfInBounds_toArray, List.set_cons_succ, List.set_cons_zero]
      refine wpAnyH_take (i := 9) (oi := _) (v := .int .i64 cy) rfl (by kernel_rfl) (by kernel_rfl) (by kernel_rfl) (fun _ _ _ h => h) (Or.inl ⟨by rfl, fun w _ => by go_simp⟩) hHeld ?_
      simp only [Act.put, List.getElem_toArray, List.getElem_cons_succ, List.getElem_cons_zero, List.setIfInBounds_toArray, List.set_cons_succ, List.set_cons_zero]
      refine wpAnyH_take (i := 10) (oi := _) (v := .agg (stCells Z)) rfl (by kernel_rfl) (by kernel_rfl) (by kernel_rfl) (fun _ _ _ h => h) (Or.inl ⟨by rfl, fun w _ => by go_simp⟩) hHeld ?_
      simp only [Act.put, List.getElem_toArray, List.getElem_cons_succ, List.getElem_cons_zero, List.setIfInBounds_toArray, List.set_cons_succ, List.set_cons_zero]
      refine wpAnyH_take (i := 11) (oi := _) (v := ev) rfl (by kernel_rfl) (by kernel_rfl) (by kernel_rfl) (fun _ _ _ h => h) (Or.inl ⟨by rfl, fun w _ => by go_simp⟩) hHeld ?_
      simp only [Act.put, List.getElem_toArray, List.getElem_cons_succ, List.getElem_cons_zero, List.setIfInBounds_toArray, List.set_cons_succ, List.set_cons_zero]
      refine wpAnyH_ready (rs := [12]) (by kernel_rfl) (by simp) ?_
      refine AllReadyH.cons (o := _) rfl (fun K hK => ?_) AllReadyH.nil
      rw [if_pos (by rfl)]
      go_simp
      have hb6 : Below V.heap.size V (w5.alloc (.cells (stCells st0) 34)) := HB5.out.1.alloc HB5.out.1.size _
      have hz6 : StIs (w5.alloc (.cells (stCells st0) 34)) w5.heap.size st0 := blk_new _ _
      refine hK.out _ _ (HSS.out _ hb6) (fun hHeld => ?_)
      clear hK K
      refine wpAnyH_ready (rs := [13]) (by kernel_rfl) (by simp) ?_
      refine AllReadyH.cons (o := _) rfl (fun K hK => ?_) AllReadyH.nil
      rw [if_pos (by rfl)]
      go_simp
      refine hK.out _ _ (HSS.out _ hb6) (fun hHeld => ?_)
      clear hK K
      refine wpAnyH_ready (rs := [14]) (by kernel_rfl) (by simp) ?_
      refine AllReadyH.cons (o := _) rfl (fun K hK => ?_) AllReadyH.nil
      rw [if_pos (by rfl)]
      refine wp_store_row _ _ _ rfl _ (stCells Z) rfl rfl _ _ hz6 (by rw [stateInfo]; rfl) rfl (oneCells Z) ?_
      have hz7 := row_same hz6 Z
      have hb7 := below_row hb6 HB5.out.1.size (stCells Z)
      refine hK.out _ _ (HSS.out _ hb7) (fun hHeld => ?_)
      clear hK K
      simp only [Act.put]
      refine wpAnyH_ready (rs := [15]) (by kernel_rfl) (by simp) ?_
      refine AllReadyH.cons (o := _) rfl (fun K hK => ?_) AllReadyH.nil
      rw [if_pos (by rfl)]
      go_simp
      refine hK.out _ _ (HSS.out _ hb7) (fun hHeld => ?_)
      clear hK K
      refine wpAnyH_done (by kernel_rfl) ?_ _
      go_wp2_with fail
      go_meet
      exact ⟨_, rfl, rfl, rfl, hz7, hb7⟩
    · rw [if_pos (by rfl)]
      go_simp
      have hb5 : Below V.heap.size V (V.drew.alloc (.cells (stCells st0) 34)) := (Below.refl V.heap.size V).drew.alloc (Nat.le_refl V.heap.size) _
      have hz5 : StIs (V.drew.alloc (.cells (stCells st0) 34)) V.heap.size st0 := blk_new V.drew _
      refine hK.out _ _ (HSS.out _ hb5) (fun hHeld => ?_)
      clear hK K
      refine wpAnyH_ready (rs := [7]) (by kernel_rfl) (by simp) ?_
      refine AllReadyH.cons (o := _) rfl (fun K hK => ?_) AllReadyH.nil
      rw [if_pos (by rfl)]
      go_simp
      go_at_call 20
      refine (HC.out _ hb5).mono ?_
      rintro e w6 ⟨rfl, HB6⟩
      dsimp only
      have hz6 : StIs w6 V.heap.size st0 := (HB6.out.2.block _ hz5.lt).trans hz5
      refine hK.out _ _ (HSS.out _ HB6.out.1) (fun hHeld => ?_)
      clear hK K
      refine wpAnyH_take (i := 8) (oi := _) (v := .tuple #[.int .i64 cy, .agg (stCells Z), ev]) rfl (by kernel_rfl) (by kernel_rfl) (by kernel_rfl) (fun _ _ _ h => h) (Or.inl ⟨by rfl, fun w _ => by go_simp⟩) hHeld ?_
      simp only [Act.put, List.getElem_toArray, List.getElem_cons_succ, List.getElem_cons_zero, List.setIfInBounds_toArray, List.set_cons_succ, List.set_cons_zero]
      refine wpAnyH_take (i := 9) (oi := _) (v := .int .i64 cy) rfl (by kernel_rfl) (by kernel_rfl) (by kernel_rfl) (fun _ _ _ h => h) (Or.inl ⟨by rfl, fun w _ => by go_simp⟩) hHeld ?_
      simp only [Act.put, List.getElem_toArray, List.getElem_cons_succ, List.getElem_cons_zero, List.setIfInBounds_toArray, List.set_cons_succ, List.set_cons_zero]
      refine wpAnyH_take (i := 10) (oi := _) (v := .agg (stCells Z)) rfl (by kernel_rfl) (by kernel_rfl) (by kernel_rfl) (fun _ _ _ h => h) (Or.inl ⟨by rfl, fun w _ => by go_simp⟩) hHeld ?_
      simp only [Act.put, List.getElem_toArray, List.getElem_cons_succ, List.getElem_cons_zero, List.setIfInBounds_toArray, List.set_cons_succ, List.set_cons_zero]
      refine wpAnyH_take (i := 11) (oi := _) (v := ev) rfl (by kernel_rfl) (by kernel_rfl) (by kernel_rfl) (fun _ _ _ h => h) (Or.inl ⟨by rfl, fun w _ => by go_simp⟩) hHeld ?_
      simp only [Act.put, List.getElem_toArray, List.getElem_cons_succ, List.getElem_cons_zero, List.setIfInBounds_toArray, List.set_cons_succ, List.set_cons_zero]
      refine wpAnyH_ready (rs := [13]) (by kernel_rfl) (by simp) ?_
      refine AllReadyH.cons (o := _) rfl (fun K hK => ?_) AllReadyH.nil
      rw [if_pos (by rfl)]
      go_simp
      refine hK.out _ _ (HSS.out _ HB6.out.1) (fun hHeld => ?_)
      clear hK K
      refine wpAnyH_ready (rs := [14]) (by kernel_rfl) (by simp) ?_
      refine AllReadyH.cons (o := _) rfl (fun K hK => ?_) AllReadyH.nil
      rw [if_pos (by rfl)]
      refine wp_store_row _ _ _ rfl _ (stCells Z) rfl rfl _ _ hz6 (by rw [stateInfo]; rfl) rfl (oneCells Z) ?_
      have hz7 := row_same hz6 Z
      have hb7 := below_row HB6.out.1 (Nat.le_refl _) (stCells Z)
      refine hK.out _ _ (HSS.out _ hb7) (fun hHeld => ?_)
      clear hK K
      simp only [Act.put]
      refine wpAnyH_ready (rs := [15]) (by kernel_rfl) (by simp) ?_
      refine AllReadyH.cons (o := _) rfl (fun K hK => ?_) AllReadyH.nil
      rw [if_pos (by rfl)]
      go_simp
      refine hK.out _ _ (HSS.out _ hb7) (fun hHeld => ?_)
      clear hK K
      refine wpAnyH_done (by kernel_rfl) ?_ _
      go_wp2_with fail
      go_meet
      exact ⟨_, rfl, rfl, rfl, hz7, hb7⟩
  case rest =>
    obtain ⟨b, rfl, rfl, rfl, hst, hb⟩ := hcut
    rw [← hev.out]
    clear hev
    have HB := hide hb
    clear hst hb
    go_wp2_with fail
    refine (throw2 _ (HN.out _ HB.out).2).mono ?_
    rintro e w2 ⟨rfl, hB2⟩
    unfold thrown
    dsimp only
    exact ⟨rfl, rfl, HST.out _ (HB.out.trans (hB2.mono HB.out.size))⟩
set_option maxHeartbeats 1000000 in
theorem clone_big (b off n cap : Nat) (zs : List Int) (w : World) (hn : zs.length = n) (h0 : 0 < n) (h8 : n ≤ 1000000) (hb : b < w.heap.size) (hc : Row w b off zs) :
    Calls Tryz.prog 64 #[.slice (some ⟨b, off, none⟩) n cap] w fun e w' =>
      (∃ g cg, w.heap.size ≤ g ∧ g < w'.heap.size ∧ n ≤ cg ∧ e = .returned (.slice (some ⟨g, 0, none⟩) n cg) ∧ Row w' g 0 zs) ∧ Below w.heap.size w w' := by
  obtain ⟨i0, hi, hz0, hz1, hz2⟩ := info_parts infoInt
  have HI := hide hi
  have HZ0 := hide hz0
  have HZ1 := hide hz1
  have HZ2 := hide hz2
  have HC := hide hc
  clear hi hz0 hz1 hz2 hc
  have hq : ∀ wx : World, (binOp .eql 22 (.slice (some ⟨b, off, none⟩) n cap) (.slice none 0 0)).run Tryz.prog wx = .ok (.bool false) wx := fun wx => Lib.run_eql_slice_nil wx _ _ _ _ _ _ _ Tryz.underlying22
  go_enter Tryz.func64, Tryz.ntmps64
  go_wp2_with (at_builtin; refine wpList_append_own _ rfl _ _ 22 rfl w.heap.size 3 i0 (.int .i64 0) 1 8 Tryz.underlying22 HI.out HZ0.out HZ1.out HZ2.out rfl (by decide) _ _ _ rfl (World.ownsRow_made w #[] 0 (Nat.le_refl _) (by unfold maxLen; omega) rfl) ⟨b, off, none⟩ n cap (zs.map (Value.int .i64)) rfl (by rw [List.length_map, hn, Nat.mul_one]) ?c1 ?c2 ?c3 ?c4 ?c5 ?_)
  case c1 =>
    intro j u hj
    have hj' : j < zs.length := by
      have := (List.getElem?_eq_some_iff.1 hj).1
      simpa using this
    have e : (⟨b, off, none⟩ : Addr).add j = ⟨b, off + j, none⟩ := by unfold Addr.add; split <;> simp_all
    rw [e, World.cell?_alloc_past _ _ _ hb, HC.out j hj']
    rw [List.getElem?_map, List.getElem?_eq_getElem hj'] at hj
    rw [List.getElem?_eq_getElem hj']
    exact hj
  case c2 =>
    intro u hu
    obtain ⟨z, _, rfl⟩ := List.mem_map.1 hu
    rfl
  case c3 => unfold maxLen; omega
  case c4 => omega
  case c5 => simp
  intro v' w1 hown hgrow _
  obtain ⟨g, cg, rfl, hg1, hg2, hg3⟩ : ∃ g cg, v' = .slice (some ⟨g, 0, none⟩) n cg ∧ w.heap.size ≤ g ∧ g < w1.heap.size ∧ n ≤ cg := by
    rcases hown.2 with ⟨_, h0⟩ | ⟨g, cg, cur, h0, h1, h2, h3, _⟩
    · omega
    · exact ⟨g, cg, h0, h1, blk_lt h2, h3⟩
  have hrow : Row w1 g 0 zs := by
    intro k hk
    have := hown.cellAt k (by omega)
    rw [Nat.zero_add, this]
    simp [hk]
  have hold : Below w.heap.size w w1 := ((Below.refl _ _).alloc (Nat.le_refl _) _).grown hgrow (by simp) (fun j hj => by
    have : w.heap.size = j := by simpa [Value.ownBlock] using hj
    omega)
  have HROW := hide hrow
  have HOLD := hide hold
  clear hrow hold hown hgrow
  go_wp2
  go_ret
  exact ⟨⟨g, cg, hg1, hg2, hg3, rfl, HROW.out⟩, HOLD.out⟩
set_option maxHeartbeats 2000000 in
set_option maxRecDepth 20000 in
theorem synewC (N : Nat) (L : RC) (win b off cap : Nat) (w : World) (hL : LOk L) (h1 : 1 ≤ win) (h2 : win ≤ 20) (hb : b < w.heap.size) (hrow : Row w b off L.zs) (hN : N ≤ w.heap.size) :
    Calls Tryz.prog 24 #[.agg #[.int .i64 (L.s : Int), .slice (some ⟨b, off, none⟩) L.n cap, .int .i64 (L.d : Int)], .int .i64 (win : Int)] w fun e w' => (∃ D, e = .returned (.tuple #[.pointer (some ⟨D.p, 0, none⟩), .nilIface]) ∧ w.heap.size ≤ D.p ∧ SyIs w' N D L win (sy0 win) ∧ D.us = [] ∧ D.lost = 0) ∧ Below w.heap.size w w' := by
  have hf := hL.few
  obtain ⟨W, hW⟩ : ∃ W, Hid (w.alloc (.cells #[.int .i64 (L.s : Int), .slice (some ⟨b, off, none⟩) L.n cap, .int .i64 (L.d : Int)] 42) = W) := ⟨_, hide rfl⟩
  have hB0 : Below w.heap.size w W := by rw [← hW.out]; exact (Below.refl _ _).alloc (Nat.le_refl _) _
  have hbx : W.heap[w.heap.size]? = some (.cells #[.int .i64 (L.s : Int), .slice (some ⟨b, off, none⟩) L.n cap, .int .i64 (L.d : Int)] 42 (0, 0)) := by rw [← hW.out]; exact blk_new _ _
  have HC : Hid (Calls Tryz.prog 64 #[.slice (some ⟨b, off, none⟩) L.n cap] W fun e w1 => ∃ g cg, e = .returned (.slice (some ⟨g, 0, none⟩) L.n cg) ∧ (w1.cell? ⟨w.heap.size, 1, none⟩ = some (.slice (some ⟨b, off, none⟩) L.n cap) ∧ w1.frozen? ⟨w.heap.size, 1, none⟩ = false ∧ w1.cell? ⟨w.heap.size, 0, none⟩ = some (.int .i64 (L.s : Int)) ∧ w1.cell? ⟨w.heap.size, 2, none⟩ = some (.int .i64 (L.d : Int))) ∧
      Hid ((w1.setCell ⟨w.heap.size, 1, none⟩ (.slice (some ⟨g, 0, none⟩) L.n cg)).heap[w.heap.size]? = some (.cells #[.int .i64 (L.s : Int), .slice (some ⟨g, 0, none⟩) L.n cg, .int .i64 (L.d : Int)] 42 (0, 0)) ∧ Row (w1.setCell ⟨w.heap.size, 1, none⟩ (.slice (some ⟨g, 0, none⟩) L.n cg)) g 0 L.zs ∧ w.heap.size < g ∧ g < (w1.setCell ⟨w.heap.size, 1, none⟩ (.slice (some ⟨g, 0, none⟩) L.n cg)).heap.size ∧ L.n ≤ cg ∧ Below w.heap.size w (w1.setCell ⟨w.heap.size, 1, none⟩ (.slice (some ⟨g, 0, none⟩) L.n cg)))) := hide (by
    refine (clone_any b off L.n cap L.zs W hL.len (by omega) (by omega) (Nat.lt_of_lt_of_le hb hB0.size) (hrow.below hb hB0)).mono ?_
    rintro e w1 ⟨⟨g, cg, g1, g2, g3, rfl, g4⟩, hB⟩
    have hlt := blk_lt hbx
    have hb1 := (hB.block _ hlt).trans hbx
    refine ⟨g, cg, rfl, ⟨(blk_cell hb1 1).trans rfl, blk_free hb1 1, (blk_cell hb1 0).trans rfl, (blk_cell hb1 2).trans rfl⟩, hide ⟨(blk_set hb1 1 _).trans rfl, fun i hi => (World.cell?_of_block (w := w1) (Below.heap_setCell _ _ _ _ (by show g ≠ w.heap.size; omega))).trans (g4 i hi), by omega, by simp [World.setCell]; exact g2, g3, ?_⟩⟩
    exact (hB0.trans (hB.mono hB0.size)).setCell (Nat.le_refl _) _)
  have x1 : W.cell? ⟨w.heap.size, 1, none⟩ = some (.slice (some ⟨b, off, none⟩) L.n cap) := (blk_cell hbx 1).trans rfl
  have HL := hide hL
  clear hrow hbx hB0 hL
  go_enter Tryz.func24, Tryz.ntmps24
  go_wp2_with fail
  rw [show w.alloc (.cells #[.int .i64 (L.s : Int), .slice (some ⟨b, off, none⟩) L.n cap, .int .i64 (L.d : Int)] 42) = W from hW.out]
  refine HC.out.mono ?_
  rintro e w1 ⟨g, cg, rfl, ⟨z0, z1, z2, z3⟩, HM⟩
  clear HC x1 hW
  go_wp2_with fail
  have HS12 : Hid ((w1.setCell ⟨w.heap.size, 1, none⟩ (.slice (some ⟨g, 0, none⟩) L.n cg)).heap.size = w1.heap.size) := by rw [Hid]; simp [World.setCell]
  generalize w1.setCell ⟨w.heap.size, 1, none⟩ (.slice (some ⟨g, 0, none⟩) L.n cg) = w2 at HM HS12 ⊢
  obtain ⟨hb2, hr2, hg1, hg2, hcg, hB2⟩ := HM.out
  have HST : Hid (∃ rp C B, NwInv w (w2.alloc (.cells #[.int .i64 (L.s : Int), .slice (some ⟨g, 0, none⟩) L.n cg, .int .i64 (L.d : Int), .pointer none, .pointer none, .pointer none, .pointer none, .slice none 0 0, .int .i64 0] 90)) L w1.heap.size g cg 0 rp C B) := hide (by rw [← HS12.out]; exact ⟨fun _ => 0, fun _ => L, fun _ => w2.heap.size + 1, hB2.alloc hB2.size _, blk_new _ _, hr2.below (B := w2.heap.size) hg2 ((Below.refl _ _).alloc (Nat.le_refl _) _), ⟨by omega, hg2⟩, hcg, fun j hj => absurd hj (by omega), by omega, by simp, fun j hj => absurd hj (by omega)⟩)
  have hsz : w.heap.size ≤ w1.heap.size := by rw [← HS12.out]; exact hB2.size
  clear HM hb2 hr2 hcg hB2 z0 z1 z2 z3
  go_loopw [18] (fun j wr => ∃ k : Nat, k ≤ 3 ∧ j = .int .i64 k ∧ ∃ rp C B, NwInv w wr L w1.heap.size g cg k rp C B) (fun j _ => 3 - (intOf j).toNat)
  case atStart => exact ⟨0, by omega, rfl, HST.out⟩
  case round =>
    obtain ⟨k, hk, rfl, rp, C, B, hI⟩ := hrel
    clear HST
    have hlt := blk_lt hI.blk
    by_cases hk3 : k < 3
    · have hk' : (k : Int) < 3 := by omega
      have HCR : Hid (Calls Tryz.prog 38 #[.pointer (some ⟨w1.heap.size, 0, none⟩), .int .i64 (k : Int)] wr fun e w' => e = .returned .nilIface ∧ Hid (∃ rp C B, NwInv w w' L w1.heap.size g cg (k + 1) rp C B)) := hide (by
        refine (crash_low w1.heap.size g cg L _ _ _ _ k wr hk3 HL.out hI.blk hI.row (by have := hI.lo0; omega) hI.cap).mono ?_
        rintro e w' ⟨rfl, q, C1, hF, hl, hR, hb, hm⟩
        exact ⟨rfl, hide ⟨_, _, _, hI.next hsz hF hl hR hb hm⟩⟩)
      clear hI
      go_wp2_with fail
      refine HCR.out.mono ?_
      rintro e w3 ⟨rfl, HR⟩
      go_wp2
      go_roundw
      case rel => exact ⟨k + 1, by omega, by go_num, HR.out⟩
      case measure => simp [intOf]; omega
    · have e3 : k = 3 := by omega
      subst e3
      have HV : Hid (Calls Tryz.prog 65 #[.int .i64 (win : Int)] wr fun e w' => e = .returned (.tuple #[.pointer (some ⟨wr.heap.size, 0, none⟩), .nilIface]) ∧ (w'.cell? ⟨w1.heap.size, 6, none⟩ = some (.pointer none) ∧ w'.frozen? ⟨w1.heap.size, 6, none⟩ = false) ∧ Hid (SyIs (w'.setCell ⟨w1.heap.size, 6, none⟩ (.pointer (some ⟨wr.heap.size, 0, none⟩))) N ⟨w1.heap.size, g, cg, rp, C, wr.heap.size, .slice none 0 0, .slice none 0 0, [], 0⟩ L win (sy0 win) ∧ Below w.heap.size w (w'.setCell ⟨w1.heap.size, 6, none⟩ (.pointer (some ⟨wr.heap.size, 0, none⟩))))) := hide (by
        refine (vnew_ok win wr h1 h2).mono ?_
        rintro e w' ⟨rfl, hV, _, hB⟩
        have hb1 := (hB.block _ hlt).trans hI.blk
        exact ⟨rfl, ⟨(blk_cell hb1 6).trans rfl, blk_free hb1 6⟩, hide (hI.done hsz hB rfl hV N hN)⟩)
      clear hI
      go_wp2_with fail
      refine HV.out.mono ?_
      rintro e w4 ⟨rfl, ⟨q0, q1⟩, HE⟩
      go_wp2
      go_ret2
      exact ⟨⟨_, rfl, hsz, HE.out.1, rfl, rfl⟩, HE.out.2⟩
set_option maxHeartbeats 2000000 in
set_option maxRecDepth 20000 in
theorem synew_win (L : RC) (win : Int) (b off cap : Nat) (w : World) (hL : LOk L) (hw : win < 1 ∨ 20 < win) (hb : b < w.heap.size) (hrow : Row w b off L.zs) :
    Calls Tryz.prog 24 #[.agg #[.int .i64 (L.s : Int), .slice (some ⟨b, off, none⟩) L.n cap, .int .i64 (L.d : Int)], .int .i64 win] w fun e w' => e = .returned (.tuple #[.pointer none, .iface 74 (.int .i64 2)]) ∧ Below w.heap.size w w' := by
  have hf := hL.few
  obtain ⟨W, hW⟩ : ∃ W, Hid (w.alloc (.cells #[.int .i64 (L.s : Int), .slice (some ⟨b, off, none⟩) L.n cap, .int .i64 (L.d : Int)] 42) = W) := ⟨_, hide rfl⟩
  have hB0 : Below w.heap.size w W := by rw [← hW.out]; exact (Below.refl _ _).alloc (Nat.le_refl _) _
  have hbx : W.heap[w.heap.size]? = some (.cells #[.int .i64 (L.s : Int), .slice (some ⟨b, off, none⟩) L.n cap, .int .i64 (L.d : Int)] 42 (0, 0)) := by rw [← hW.out]; exact blk_new _ _
  have HC : Hid (Calls Tryz.prog 64 #[.slice (some ⟨b, off, none⟩) L.n cap] W fun e w1 => ∃ g cg, e = .returned (.slice (some ⟨g, 0, none⟩) L.n cg) ∧ (w1.cell? ⟨w.heap.size, 1, none⟩ = some (.slice (some ⟨b, off, none⟩) L.n cap) ∧ w1.frozen? ⟨w.heap.size, 1, none⟩ = false ∧ w1.cell? ⟨w.heap.size, 0, none⟩ = some (.int .i64 (L.s : Int)) ∧ w1.cell? ⟨w.heap.size, 2, none⟩ = some (.int .i64 (L.d : Int))) ∧
      Hid ((w1.setCell ⟨w.heap.size, 1, none⟩ (.slice (some ⟨g, 0, none⟩) L.n cg)).heap[w.heap.size]? = some (.cells #[.int .i64 (L.s : Int), .slice (some ⟨g, 0, none⟩) L.n cg, .int .i64 (L.d : Int)] 42 (0, 0)) ∧ Row (w1.setCell ⟨w.heap.size, 1, none⟩ (.slice (some ⟨g, 0, none⟩) L.n cg)) g 0 L.zs ∧ w.heap.size < g ∧ g < (w1.setCell ⟨w.heap.size, 1, none⟩ (.slice (some ⟨g, 0, none⟩) L.n cg)).heap.size ∧ L.n ≤ cg ∧ Below w.heap.size w (w1.setCell ⟨w.heap.size, 1, none⟩ (.slice (some ⟨g, 0, none⟩) L.n cg)))) := hide (by
    refine (clone_any b off L.n cap L.zs W hL.len (by omega) (by omega) (Nat.lt_of_lt_of_le hb hB0.size) (hrow.below hb hB0)).mono ?_
    rintro e w1 ⟨⟨g, cg, g1, g2, g3, rfl, g4⟩, hB⟩
    have hlt := blk_lt hbx
    have hb1 := (hB.block _ hlt).trans hbx
    refine ⟨g, cg, rfl, ⟨(blk_cell hb1 1).trans rfl, blk_free hb1 1, (blk_cell hb1 0).trans rfl, (blk_cell hb1 2).trans rfl⟩, hide ⟨(blk_set hb1 1 _).trans rfl, fun i hi => (World.cell?_of_block (w := w1) (Below.heap_setCell _ _ _ _ (by show g ≠ w.heap.size; omega))).trans (g4 i hi), by omega, by simp [World.setCell]; exact g2, g3, ?_⟩⟩
    exact (hB0.trans (hB.mono hB0.size)).setCell (Nat.le_refl _) _)
  have x1 : W.cell? ⟨w.heap.size, 1, none⟩ = some (.slice (some ⟨b, off, none⟩) L.n cap) := (blk_cell hbx 1).trans rfl
  have HL := hide hL
  clear hrow hbx hB0 hL
  go_enter Tryz.func24, Tryz.ntmps24
  go_wp2_with fail
  rw [show w.alloc (.cells #[.int .i64 (L.s : Int), .slice (some ⟨b, off, none⟩) L.n cap, .int .i64 (L.d : Int)] 42) = W from hW.out]
  refine HC.out.mono ?_
  rintro e w1 ⟨g, cg, rfl, ⟨z0, z1, z2, z3⟩, HM⟩
  clear HC x1 hW
  go_wp2_with fail
  have HS12 : Hid ((w1.setCell ⟨w.heap.size, 1, none⟩ (.slice (some ⟨g, 0, none⟩) L.n cg)).heap.size = w1.heap.size) := by rw [Hid]; simp [World.setCell]
  generalize w1.setCell ⟨w.heap.size, 1, none⟩ (.slice (some ⟨g, 0, none⟩) L.n cg) = w2 at HM HS12 ⊢
  obtain ⟨hb2, hr2, hg1, hg2, hcg, hB2⟩ := HM.out
  have HST : Hid (∃ rp C B, NwInv w (w2.alloc (.cells #[.int .i64 (L.s : Int), .slice (some ⟨g, 0, none⟩) L.n cg, .int .i64 (L.d : Int), .pointer none, .pointer none, .pointer none, .pointer none, .slice none 0 0, .int .i64 0] 90)) L w1.heap.size g cg 0 rp C B) := hide (by rw [← HS12.out]; exact ⟨fun _ => 0, fun _ => L, fun _ => w2.heap.size + 1, hB2.alloc hB2.size _, blk_new _ _, hr2.below (B := w2.heap.size) hg2 ((Below.refl _ _).alloc (Nat.le_refl _) _), ⟨by omega, hg2⟩, hcg, fun j hj => absurd hj (by omega), by omega, by simp, fun j hj => absurd hj (by omega)⟩)
  have hsz : w.heap.size ≤ w1.heap.size := by rw [← HS12.out]; exact hB2.size
  clear HM hb2 hr2 hcg hB2 z0 z1 z2 z3
  go_loopw [18] (fun j wr => ∃ k : Nat, k ≤ 3 ∧ j = .int .i64 k ∧ ∃ rp C B, NwInv w wr L w1.heap.size g cg k rp C B) (fun j _ => 3 - (intOf j).toNat)
  case atStart => exact ⟨0, by omega, rfl, HST.out⟩
  case round =>
    obtain ⟨k, hk, rfl, rp, C, B, hI⟩ := hrel
    clear HST
    have hlt := blk_lt hI.blk
    by_cases hk3 : k < 3
    · have hk' : (k : Int) < 3 := by omega
      have HCR : Hid (Calls Tryz.prog 38 #[.pointer (some ⟨w1.heap.size, 0, none⟩), .int .i64 (k : Int)] wr fun e w' => e = .returned .nilIface ∧ Hid (∃ rp C B, NwInv w w' L w1.heap.size g cg (k + 1) rp C B)) := hide (by
        refine (crash_low w1.heap.size g cg L _ _ _ _ k wr hk3 HL.out hI.blk hI.row (by have := hI.lo0; omega) hI.cap).mono ?_
        rintro e w' ⟨rfl, q, C1, hF, hl, hR, hb, hm⟩
        exact ⟨rfl, hide ⟨_, _, _, hI.next hsz hF hl hR hb hm⟩⟩)
      clear hI
      go_wp2_with fail
      refine HCR.out.mono ?_
      rintro e w3 ⟨rfl, HR⟩
      go_wp2
      go_roundw
      case rel => exact ⟨k + 1, by omega, by go_num, HR.out⟩
      case measure => simp [intOf]; omega
    · have e3 : k = 3 := by omega
      subst e3
      have HV : Hid (Calls Tryz.prog 65 #[.int .i64 win] wr fun e w' => e = .returned (.tuple #[.pointer none, .iface 74 (.int .i64 2)]) ∧ Hid (Below w.heap.size w w')) := hide (by
        refine (vnew_bad win wr hw).mono ?_
        rintro e w' ⟨rfl, hB⟩
        exact ⟨rfl, hide (hI.old.trans (hB.mono hI.old.size))⟩)
      clear hI
      go_wp2_with fail
      refine HV.out.mono ?_
      rintro e w4 ⟨rfl, HE⟩
      go_wp2
      go_ret2
      exact ⟨rfl, HE.out⟩
theorem scrash_lay (p b n cap : Nat) (z s d : Int) (zs : List Int) (w : World) (r : Nat → Value) (v nv lo : Value) (hn : zs.length = n) (hcap : n ≤ cap) (hb : w.heap[p]? = some (.cells #[.int .i64 s, .slice (some ⟨b, 0, none⟩) n cap, .int .i64 d, r 0, r 1, r 2, v, nv, lo] 90 (0, 0))) (hr : Row w b 0 zs) (hbl : b < w.heap.size) (hbad : checkF s zs d ≠ (0, -1)) :
    Calls Tryz.prog 38 #[.pointer (some ⟨p, 0, none⟩), .int .i64 z] w fun e w' => (∃ v, e = .returned v ∧ v ≠ .nilIface ∧ (∃ t x, v = .iface t x) ∧ IsErr w' w.heap.size (checkF s zs d) v) ∧ Below w.heap.size w w' := by
  have c0 : w.cell? ⟨p, 0, none⟩ = some (.int .i64 s) := (blk_cell hb 0).trans rfl
  have c1 : w.cell? ⟨p, 1, none⟩ = some (.slice (some ⟨b, 0, none⟩) n cap) := (blk_cell hb 1).trans rfl
  have c2 : w.cell? ⟨p, 2, none⟩ = some (.int .i64 d) := (blk_cell hb 2).trans rfl
  have HC : Hid (Calls Tryz.prog 80 #[.int .i64 z, .agg #[.int .i64 s, .slice (some ⟨b, 0, none⟩) n cap, .int .i64 d]] w fun e w' => ∃ t x, e = .returned (.tuple #[.pointer none, .iface t x]) ∧ Hid (IsErr w' w.heap.size (checkF s zs d) (.iface t x) ∧ Below w.heap.size w w')) := hide (by
    refine (rnew_bad z s d (some ⟨b, 0, none⟩) n cap zs w ⟨hn, hcap, .inr ⟨b, 0, rfl, hbl, hr⟩⟩ hbad).mono ?_
    rintro e w' ⟨⟨v, rfl, he⟩, hB⟩
    have hv : ∃ t x, v = .iface t x := by
      rcases he with ⟨e, _⟩ | ⟨_, _, e⟩ | ⟨_, _, nb, _, _, e, _⟩
      · exact absurd e hbad
      · exact ⟨_, _, e⟩
      · exact ⟨_, _, e⟩
    obtain ⟨t, x, rfl⟩ := hv
    exact ⟨t, x, rfl, hide ⟨he, hB⟩⟩)
  clear hb hr
  go_enter Tryz.func38, Tryz.ntmps38
  go_wp2_with fail
  refine HC.out.mono ?_
  rintro e w1 ⟨t, x, rfl, HE⟩
  go_wp2
  go_ret
  exact ⟨⟨_, rfl, by simp, ⟨_, _, rfl⟩, HE.out.1⟩, HE.out.2⟩
set_option maxHeartbeats 2000000 in
set_option maxRecDepth 20000 in
theorem synew_lay (s d win : Int) (b off n cap : Nat) (zs : List Int) (w : World) (hn : zs.length = n) (h0 : 0 < n) (hm : n ≤ 1000000) (hb : b < w.heap.size) (hrow : Row w b off zs) (hbad : checkF s zs d ≠ (0, -1)) :
    Calls Tryz.prog 24 #[.agg #[.int .i64 s, .slice (some ⟨b, off, none⟩) n cap, .int .i64 d], .int .i64 win] w fun e w' => (∃ t x lo, e = .returned (.tuple #[.pointer none, .iface t x]) ∧ IsErr w' lo (checkF s zs d) (.iface t x)) ∧ Below w.heap.size w w' := by
  obtain ⟨W, hW⟩ : ∃ W, Hid (w.alloc (.cells #[.int .i64 s, .slice (some ⟨b, off, none⟩) n cap, .int .i64 d] 42) = W) := ⟨_, hide rfl⟩
  have hB0 : Below w.heap.size w W := by rw [← hW.out]; exact (Below.refl _ _).alloc (Nat.le_refl _) _
  have hbx : W.heap[w.heap.size]? = some (.cells #[.int .i64 s, .slice (some ⟨b, off, none⟩) n cap, .int .i64 d] 42 (0, 0)) := by rw [← hW.out]; exact blk_new _ _
  have HC : Hid (Calls Tryz.prog 64 #[.slice (some ⟨b, off, none⟩) n cap] W fun e w1 => ∃ g cg, e = .returned (.slice (some ⟨g, 0, none⟩) n cg) ∧ (w1.cell? ⟨w.heap.size, 1, none⟩ = some (.slice (some ⟨b, off, none⟩) n cap) ∧ w1.frozen? ⟨w.heap.size, 1, none⟩ = false ∧ w1.cell? ⟨w.heap.size, 0, none⟩ = some (.int .i64 s) ∧ w1.cell? ⟨w.heap.size, 2, none⟩ = some (.int .i64 d)) ∧
      Hid (Row (w1.setCell ⟨w.heap.size, 1, none⟩ (.slice (some ⟨g, 0, none⟩) n cg)) g 0 zs ∧ g < (w1.setCell ⟨w.heap.size, 1, none⟩ (.slice (some ⟨g, 0, none⟩) n cg)).heap.size ∧ n ≤ cg ∧ Below w.heap.size w (w1.setCell ⟨w.heap.size, 1, none⟩ (.slice (some ⟨g, 0, none⟩) n cg)))) := hide (by
    refine (clone_big b off n cap zs W hn h0 hm (Nat.lt_of_lt_of_le hb hB0.size) (hrow.below hb hB0)).mono ?_
    rintro e w1 ⟨⟨g, cg, g1, g2, g3, rfl, g4⟩, hB⟩
    have hlt := blk_lt hbx
    have hb1 := (hB.block _ hlt).trans hbx
    refine ⟨g, cg, rfl, ⟨(blk_cell hb1 1).trans rfl, blk_free hb1 1, (blk_cell hb1 0).trans rfl, (blk_cell hb1 2).trans rfl⟩, hide ⟨fun i hi => (World.cell?_of_block (w := w1) (Below.heap_setCell _ _ _ _ (by show g ≠ w.heap.size; omega))).trans (g4 i hi), by simp [World.setCell]; exact g2, g3, ?_⟩⟩
    exact (hB0.trans (hB.mono hB0.size)).setCell (Nat.le_refl _) _)
  have x1 : W.cell? ⟨w.heap.size, 1, none⟩ = some (.slice (some ⟨b, off, none⟩) n cap) := (blk_cell hbx 1).trans rfl
  have HBD := hide hbad
  have HNN := hide hn
  clear hrow hbx hB0 hbad hn
  go_enter Tryz.func24, Tryz.ntmps24
  go_wp2_with fail
  rw [show w.alloc (.cells #[.int .i64 s, .slice (some ⟨b, off, none⟩) n cap, .int .i64 d] 42) = W from hW.out]
  refine HC.out.mono ?_
  rintro e w1 ⟨g, cg, rfl, ⟨z0, z1, z2, z3⟩, HM⟩
  clear HC x1 hW
  go_wp2_with fail
  have HS12 : Hid ((w1.setCell ⟨w.heap.size, 1, none⟩ (.slice (some ⟨g, 0, none⟩) n cg)).heap.size = w1.heap.size) := by rw [Hid]; simp [World.setCell]
  generalize w1.setCell ⟨w.heap.size, 1, none⟩ (.slice (some ⟨g, 0, none⟩) n cg) = w2 at HM HS12 ⊢
  obtain ⟨hr2, hg2, hcg, hB2⟩ := HM.out
  obtain ⟨W3, hW3⟩ : ∃ W3, Hid (w2.alloc (.cells #[.int .i64 s, .slice (some ⟨g, 0, none⟩) n cg, .int .i64 d, .pointer none, .pointer none, .pointer none, .pointer none, .slice none 0 0, .int .i64 0] 90) = W3) := ⟨_, hide rfl⟩
  have HCR : Hid (Calls Tryz.prog 38 #[.pointer (some ⟨w1.heap.size, 0, none⟩), .int .i64 0] W3 fun e w' => ∃ t x, e = .returned (.iface t x) ∧ Hid (IsErr w' W3.heap.size (checkF s zs d) (.iface t x) ∧ Below w.heap.size w w')) := hide (by
    have hB3 : Below w2.heap.size w2 W3 := by rw [← hW3.out]; exact (Below.refl _ _).alloc (Nat.le_refl _) _
    have hb3 : W3.heap[w1.heap.size]? = some (.cells #[.int .i64 s, .slice (some ⟨g, 0, none⟩) n cg, .int .i64 d, .pointer none, .pointer none, .pointer none, .pointer none, .slice none 0 0, .int .i64 0] 90 (0, 0)) := by rw [← hW3.out, ← HS12.out]; exact blk_new _ _
    refine (scrash_lay w1.heap.size g n cg 0 s d zs W3 (fun _ => .pointer none) (.pointer none) (.slice none 0 0) (.int .i64 0) HNN.out hcg hb3 (hr2.below hg2 hB3) (Nat.lt_of_lt_of_le hg2 hB3.size) HBD.out).mono ?_
    rintro e w' ⟨⟨v, rfl, _, ⟨t, x, rfl⟩, he⟩, hB⟩
    have hBw := hB2.trans (hB3.mono hB2.size)
    exact ⟨t, x, rfl, hide ⟨he, hBw.trans (hB.mono hBw.size)⟩⟩)
  have hsz : w.heap.size ≤ w1.heap.size := by rw [← HS12.out]; exact hB2.size
  clear HM hr2 hcg hB2 z0 z1 z2 z3
  rw [hW3.out]
  go_loopw [18] (fun j wr => j = .int .i64 0 ∧ wr = W3) (fun _ _ => 0)
  case atStart => exact ⟨rfl, rfl⟩
  case round =>
    obtain ⟨rfl, rfl⟩ := hrel
    go_wp2_with fail
    refine HCR.out.mono ?_
    rintro e w3 ⟨t, x, rfl, HE⟩
    go_wp2
    go_ret2
    exact ⟨⟨_, _, _, rfl, HE.out.1⟩, HE.out.2⟩
theorem check_code (s : Int) (zs : List Int) (d : Int) : (checkF s zs d).1 ≤ 9 := by
  unfold checkF
  split
  · split
    · show 1 ≤ 9; omega
    · split
      · show 9 ≤ 9; omega
      · show 0 ≤ 9; omega
  · show 2 ≤ 9; omega
set_option maxHeartbeats 2000000 in
set_option maxRecDepth 20000 in
theorem begin_no (V : World) (q M k : Nat) (a d s : Int) (zs : List Int) (hk : 0 < k) (hMl : M < V.heap.size) (hr : Row V M 0 (a :: d :: s :: zs)) (z : Int) (f : Nat × Int) (hf : f.1 ≠ 0) (hz : (f.1 : Int) = z)
    (hC : ∀ W, Below V.heap.size V W → V.heap.size < W.heap.size → Calls Tryz.prog 24 #[.agg #[.int .i64 s, .slice (some ⟨M, 3, none⟩) k k, .int .i64 d], .int .i64 a] W fun e w' => (∃ t x lo, e = .returned (.tuple #[.pointer none, .iface t x]) ∧ IsErr w' lo f (.iface t x)) ∧ HasErrT w' ∧ Below W.heap.size W w') :
    Calls Tryz.prog 93 #[.pointer (some ⟨q, 0, none⟩), .slice (some ⟨M, 0, none⟩) (k + 3) (k + 3)] V fun e V' => e = thrown z ∧ Below V.heap.size V V' := by
  have r0 : V.cell? ⟨M, 0, none⟩ = some (.int .i64 a) := hr 0 (by simp)
  have r1 : V.cell? ⟨M, 1, none⟩ = some (.int .i64 d) := hr 1 (by simp)
  have r2 : V.cell? ⟨M, 2, none⟩ = some (.int .i64 s) := hr 2 (by simp)
  have HS1 : Hid (∀ Y, Below V.heap.size V Y → Y.cell? ⟨M, 0, none⟩ = some (.int .i64 a) ∧ Y.cell? ⟨M, 1, none⟩ = some (.int .i64 d) ∧ Y.cell? ⟨M, 2, none⟩ = some (.int .i64 s)) := hide fun Y hY => ⟨(hY.cell (p := ⟨M, 0, none⟩) hMl).trans r0, (hY.cell (p := ⟨M, 1, none⟩) hMl).trans r1, (hY.cell (p := ⟨M, 2, none⟩) hMl).trans r2⟩
  obtain ⟨V1, hV1⟩ : ∃ V1, Hid ((V.alloc (.cells #[.int .i64 s, .slice (some ⟨M, 3, none⟩) k k, .int .i64 d] 42)).drew = V1) := ⟨_, hide rfl⟩
  have hB1 : Below V.heap.size V V1 := by rw [← hV1.out]; exact ((Below.refl _ _).alloc (Nat.le_refl _) _).drew
  have hbx : V1.heap[V.heap.size]? = some (.cells #[.int .i64 s, .slice (some ⟨M, 3, none⟩) k k, .int .i64 d] 42 (0, 0)) := by rw [← hV1.out]; exact World.alloc_heap_new V _
  have hlt : V.heap.size < V1.heap.size := blk_lt hbx
  have HS2 : Hid (∀ Y, Below V1.heap.size V1 Y → Y.cell? ⟨V.heap.size, 0, none⟩ = some (.int .i64 s) ∧ Y.cell? ⟨V.heap.size, 1, none⟩ = some (.slice (some ⟨M, 3, none⟩) k k) ∧ Y.cell? ⟨V.heap.size, 2, none⟩ = some (.int .i64 d) ∧ Y.cell? ⟨M, 0, none⟩ = some (.int .i64 a)) := hide fun Y hY => ⟨(hY.cell (p := ⟨V.heap.size, 0, none⟩) hlt).trans ((blk_cell hbx 0).trans rfl), (hY.cell (p := ⟨V.heap.size, 1, none⟩) hlt).trans ((blk_cell hbx 1).trans rfl), (hY.cell (p := ⟨V.heap.size, 2, none⟩) hlt).trans ((blk_cell hbx 2).trans rfl), (hY.cell (p := ⟨M, 0, none⟩) (Nat.lt_of_lt_of_le hMl hB1.size)).trans (HS1.out _ hB1).1⟩
  have HC := hide (hC V1.drew (hB1.drew) (by simpa using hlt))
  have HB1 := hide hB1
  have hk0 : ¬ k = 0 := by omega
  have hs3 : (3 : Int) ≤ (k : Int) + 3 := by omega
  have hj0 : (0 : Int) < (k : Int) + 3 := by omega
  have hj1 : (1 : Int) < (k : Int) + 3 := by omega
  have hj2 : (2 : Int) < (k : Int) + 3 := by omega
  have hi0 : 0 < k + 3 := by omega
  have hi1 : 1 < k + 3 := by omega
  have hi2 : 2 < k + 3 := by omega
  clear hr hC hB1 hbx r0 r1 r2
  go_enter Tryz.func93, Tryz.ntmps93
  go_wp2_with fail
  refine wp_region_held_drew (S := fun Y => Y.cell? ⟨M, 0, none⟩ = some (.int .i64 a) ∧ Y.cell? ⟨M, 1, none⟩ = some (.int .i64 d) ∧ Y.cell? ⟨M, 2, none⟩ = some (.int .i64 s)) (by kernel_rfl) (HS1.out _ (Below.refl _ _).drew) (fun hHeld => ?_)
  refine wpAnyH_take (i := 0) (oi := _) (v := .slice (some ⟨M, 0, none⟩) (k + 3) (k + 3)) rfl (by kernel_rfl) (by kernel_rfl) (by kernel_rfl) (fun _ _ _ h => h) (Or.inl ⟨by rfl, fun w _ => by go_simp⟩) hHeld ?_
  simp only [Act.put, List.getElem_toArray, List.getElem_cons_zero, List.setIfInBounds_toArray, List.set_cons_succ, List.set_cons_zero]
  refine wpAnyH_take (i := 1) (oi := _) (v := .pointer (some ⟨M, 1, none⟩)) rfl (by kernel_rfl) (by kernel_rfl) (by kernel_rfl) (fun _ _ _ h => h) (Or.inl ⟨by rfl, fun w _ => by go_simp⟩) hHeld ?_
  simp only [Act.put, List.getElem_toArray, List.getElem_cons_succ, List.getElem_cons_zero, List.setIfInBounds_toArray, List.set_cons_succ, List.set_cons_zero]
  refine wpAnyH_take (i := 2) (oi := _) (v := .int .i64 d) rfl (by kernel_rfl) (by kernel_rfl) (by kernel_rfl) (fun _ _ _ h => h) (Or.inl ⟨by rfl, fun w h => by obtain ⟨h1, h2, h3⟩ := h; go_simp⟩) hHeld ?_
  simp only [Act.put, List.getElem_toArray, List.getElem_cons_succ, List.getElem_cons_zero, List.setIfInBounds_toArray, List.set_cons_succ, List.set_cons_zero]
  refine wpAnyH_take (i := 3) (oi := _) (v := .slice (some ⟨M, 0, none⟩) (k + 3) (k + 3)) rfl (by kernel_rfl) (by kernel_rfl) (by kernel_rfl) (fun _ _ _ h => h) (Or.inl ⟨by rfl, fun w _ => by go_simp⟩) hHeld ?_
  simp only [Act.put, List.getElem_toArray, List.getElem_cons_succ, List.getElem_cons_zero, List.setIfInBounds_toArray, List.set_cons_succ, List.set_cons_zero]
  refine wpAnyH_take (i := 4) (oi := _) (v := .pointer (some ⟨M, 2, none⟩)) rfl (by kernel_rfl) (by kernel_rfl) (by kernel_rfl) (fun _ _ _ h => h) (Or.inl ⟨by rfl, fun w _ => by go_simp⟩) hHeld ?_
  simp only [Act.put, List.getElem_toArray, List.getElem_cons_succ, List.getElem_cons_zero, List.setIfInBounds_toArray, List.set_cons_succ, List.set_cons_zero]
  refine wpAnyH_take (i := 5) (oi := _) (v := .int .i64 s) rfl (by kernel_rfl) (by kernel_rfl) (by kernel_rfl) (fun _ _ _ h => h) (Or.inl ⟨by rfl, fun w h => by obtain ⟨h1, h2, h3⟩ := h; go_simp⟩) hHeld ?_
  simp only [Act.put, List.getElem_toArray, List.getElem_cons_succ, List.getElem_cons_zero, List.setIfInBounds_toArray, List.set_cons_succ, List.set_cons_zero]
  refine wpAnyH_take (i := 6) (oi := _) (v := .slice (some ⟨M, 0, none⟩) (k + 3) (k + 3)) rfl (by kernel_rfl) (by kernel_rfl) (by kernel_rfl) (fun _ _ _ h => h) (Or.inl ⟨by rfl, fun w _ => by go_simp⟩) hHeld ?_
  simp only [Act.put, List.getElem_toArray, List.getElem_cons_succ, List.getElem_cons_zero, List.setIfInBounds_toArray, List.set_cons_succ, List.set_cons_zero]
  refine wpAnyH_take (i := 7) (oi := _) (v := .slice (some ⟨M, 3, none⟩) k k) rfl (by kernel_rfl) (by kernel_rfl) (by kernel_rfl) (fun _ _ _ h => h) (Or.inl ⟨by rfl, fun w _ => by go_simp <;> simp [hk0]⟩) hHeld ?_
  simp only [Act.put, List.getElem_toArray, List.getElem_cons_succ, List.getElem_cons_zero, List.setIfInBounds_toArray, List.set_cons_succ, List.set_cons_zero]
  refine wpAnyH_take (i := 8) (oi := _) (v := .agg #[.int .i64 s, .slice (some ⟨M, 3, none⟩) k k, .int .i64 d]) rfl (by kernel_rfl) (by kernel_rfl) (by kernel_rfl) (fun _ _ _ h => h) (Or.inl ⟨by rfl, fun w _ => by go_simp⟩) hHeld ?_
  simp only [Act.put, List.getElem_toArray, List.getElem_cons_succ, List.getElem_cons_zero, List.setIfInBounds_toArray, List.set_cons_succ, List.set_cons_zero]
  refine wpAnyH_ready (rs := [9]) (by kernel_rfl) (by simp) ?_
  refine AllReadyH.cons (o := _) rfl (fun K hK => ?_) AllReadyH.nil
  rw [if_pos (by rfl)]
  go_simp
  refine hK.out _ _ (HS1.out _ ((Below.refl V.heap.size V).drew.alloc (Nat.le_refl V.heap.size) _)) (fun hHeld => ?_)
  clear hK K
  refine wpAnyH_ready (rs := [10]) (by kernel_rfl) (by simp) ?_
  refine AllReadyH.cons (o := _) rfl (fun K hK => ?_) AllReadyH.nil
  rw [if_pos (by rfl)]
  go_simp
  rw [hV1.out]
  refine hK.out _ _ (HS1.out _ HB1.out) (fun hHeld => ?_)
  clear hK K
  refine wpAnyH_done (by kernel_rfl) ?_ _
  clear hHeld HS1
  go_wp2_with fail
  refine wp_region_held_drew (S := fun Y => Y.cell? ⟨V.heap.size, 0, none⟩ = some (.int .i64 s) ∧ Y.cell? ⟨V.heap.size, 1, none⟩ = some (.slice (some ⟨M, 3, none⟩) k k) ∧ Y.cell? ⟨V.heap.size, 2, none⟩ = some (.int .i64 d) ∧ Y.cell? ⟨M, 0, none⟩ = some (.int .i64 a)) (by kernel_rfl) (HS2.out _ (Below.refl _ _).drew) (fun hHeld => ?_)
  refine wpAnyH_take (i := 0) (oi := _) (v := .agg #[.int .i64 s, .slice (some ⟨M, 3, none⟩) k k, .int .i64 d]) rfl (by kernel_rfl) (by kernel_rfl) (by kernel_rfl) (fun _ _ _ h => h) (Or.inl ⟨by rfl, fun w h => by obtain ⟨h1, h2, h3, h4⟩ := h; go_simp⟩) hHeld ?_
  simp only [Act.put, List.getElem_toArray, List.getElem_cons_zero, List.setIfInBounds_toArray, List.set_cons_succ, List.set_cons_zero]
  refine wpAnyH_take (i := 1) (oi := _) (v := .slice (some ⟨M, 0, none⟩) (k + 3) (k + 3)) rfl (by kernel_rfl) (by kernel_rfl) (by kernel_rfl) (fun _ _ _ h => h) (Or.inl ⟨by rfl, fun w _ => by go_simp⟩) hHeld ?_
  simp only [Act.put, List.getElem_toArray, List.getElem_cons_succ, List.getElem_cons_zero, List.setIfInBounds_toArray, List.set_cons_succ, List.set_cons_zero]
  refine wpAnyH_take (i := 2) (oi := _) (v := .pointer (some ⟨M, 0, none⟩)) rfl (by kernel_rfl) (by kernel_rfl) (by kernel_rfl) (fun _ _ _ h => h) (Or.inl ⟨by rfl, fun w _ => by go_simp⟩) hHeld ?_
  simp only [Act.put, List.getElem_toArray, List.getElem_cons_succ, List.getElem_cons_zero, List.setIfInBounds_toArray, List.set_cons_succ, List.set_cons_zero]
  refine wpAnyH_take (i := 3) (oi := _) (v := .int .i64 a) rfl (by kernel_rfl) (by kernel_rfl) (by kernel_rfl) (fun _ _ _ h => h) (Or.inl ⟨by rfl, fun w h => by obtain ⟨h1, h2, h3, h4⟩ := h; go_simp⟩) hHeld ?_
  simp only [Act.put, List.getElem_toArray, List.getElem_cons_succ, List.getElem_cons_zero, List.setIfInBounds_toArray, List.set_cons_succ, List.set_cons_zero]
  refine wpAnyH_ready (rs := [4]) (by kernel_rfl) (by simp) ?_
  refine AllReadyH.cons (o := _) rfl (fun K hK => ?_) AllReadyH.nil
  rw [if_pos (by rfl)]
  go_simp
  go_at_call 24
  refine HC.out.mono ?_
  rintro e w5 ⟨⟨t, x, lo, rfl, he⟩, hE, hB5⟩
  have hBd : Below V1.heap.size V1 w5 := (Below.refl _ _).drew.trans hB5
  have hS5 := HS2.out _ hBd
  have HE := hide he
  have HET := hide hE
  have HBA := hide (HB1.out.trans (hBd.mono HB1.out.size))
  clear he hE hB5 hBd
  dsimp only
  refine hK.out _ _ hS5 (fun hHeld => ?_)
  clear hK K
  refine wpAnyH_take (i := 5) (oi := _) (v := .tuple #[.pointer none, .iface t x]) rfl (by kernel_rfl) (by kernel_rfl) (by kernel_rfl) (fun _ _ _ h => h) (Or.inl ⟨by rfl, fun w _ => by go_simp⟩) hHeld ?_
  simp only [Act.put, List.getElem_toArray, List.getElem_cons_succ, List.getElem_cons_zero, List.setIfInBounds_toArray, List.set_cons_succ, List.set_cons_zero]
  refine wpAnyH_take (i := 6) (oi := _) (v := .pointer none) rfl (by kernel_rfl) (by kernel_rfl) (by kernel_rfl) (fun _ _ _ h => h) (Or.inl ⟨by rfl, fun w _ => by go_simp⟩) hHeld ?_
  simp only [Act.put, List.getElem_toArray, List.getElem_cons_succ, List.getElem_cons_zero, List.setIfInBounds_toArray, List.set_cons_succ, List.set_cons_zero]
  refine wpAnyH_take (i := 7) (oi := _) (v := .iface t x) rfl (by kernel_rfl) (by kernel_rfl) (by kernel_rfl) (fun _ _ _ h => h) (Or.inl ⟨by rfl, fun w _ => by go_simp⟩) hHeld ?_
  simp only [Act.put, List.getElem_toArray, List.getElem_cons_succ, List.getElem_cons_zero, List.setIfInBounds_toArray, List.set_cons_succ, List.set_cons_zero]
  refine wpAnyH_ready (rs := [8]) (by kernel_rfl) (by simp) ?_
  refine AllReadyH.cons (o := _) rfl (fun K hK => ?_) AllReadyH.nil
  rw [if_pos (by rfl)]
  go_simp
  refine hK.out _ _ hS5 (fun hHeld => ?_)
  clear hK K
  refine wpAnyH_ready (rs := [9]) (by kernel_rfl) (by simp) ?_
  refine AllReadyH.cons (o := _) rfl (fun K hK => ?_) AllReadyH.nil
  rw [if_pos (by rfl)]
  go_simp
  refine hK.out _ _ hS5 (fun hHeld => ?_)
  clear hK K
  refine wpAnyH_done (by kernel_rfl) ?_ _
  clear hHeld
  go_wp2_with fail
  refine (throw_err _ lo f _ HE.out hf HET.out).mono ?_
  rintro e w6 ⟨rfl, hB6⟩
  rw [hz]
  unfold thrown
  dsimp only
  exact ⟨rfl, rfl, HBA.out.trans (hB6.mono HBA.out.size)⟩
set_option maxHeartbeats 2000000 in
set_option maxRecDepth 20000 in
theorem begin_yes (V : World) (q M k : Nat) (a d s : Int) (zs : List Int) (hk : 0 < k) (hMl : M < V.heap.size) (hr : Row V M 0 (a :: d :: s :: zs)) (Q : Nat → World → Prop) (x0 x1 x2 x3 : Value)
    (hC : ∀ W, Below V.heap.size V W → V.heap.size < W.heap.size → Calls Tryz.prog 24 #[.agg #[.int .i64 s, .slice (some ⟨M, 3, none⟩) k k, .int .i64 d], .int .i64 a] W fun e w' => ∃ p, e = .returned (.tuple #[.pointer (some ⟨p, 0, none⟩), .nilIface]) ∧ Q p w' ∧ (w'.cell? ⟨q, 0, none⟩ = some x0 ∧ w'.cell? ⟨q, 1, none⟩ = some x1 ∧ w'.cell? ⟨q, 2, none⟩ = some x2 ∧ w'.cell? ⟨q, 3, none⟩ = some x3) ∧ (w'.frozen? ⟨q, 0, none⟩ = false ∧ w'.frozen? ⟨q, 1, none⟩ = false ∧ w'.frozen? ⟨q, 2, none⟩ = false ∧ w'.frozen? ⟨q, 3, none⟩ = false) ∧ Below W.heap.size W w') :
    Calls Tryz.prog 93 #[.pointer (some ⟨q, 0, none⟩), .slice (some ⟨M, 0, none⟩) (k + 3) (k + 3)] V fun e V' => e = .returned (.string (txt [98, 101, 103, 105, 110])) ∧ ∃ p W, Q p W ∧ V' = (((W.setCell ⟨q, 0, none⟩ (.int .i64 s)).setCell ⟨q, 1, none⟩ (.slice (some ⟨M, 3, none⟩) k k)).setCell ⟨q, 2, none⟩ (.int .i64 d)).setCell ⟨q, 3, none⟩ (.pointer (some ⟨p, 0, none⟩)) := by
  have r0 : V.cell? ⟨M, 0, none⟩ = some (.int .i64 a) := hr 0 (by simp)
  have r1 : V.cell? ⟨M, 1, none⟩ = some (.int .i64 d) := hr 1 (by simp)
  have r2 : V.cell? ⟨M, 2, none⟩ = some (.int .i64 s) := hr 2 (by simp)
  have HS1 : Hid (∀ Y, Below V.heap.size V Y → Y.cell? ⟨M, 0, none⟩ = some (.int .i64 a) ∧ Y.cell? ⟨M, 1, none⟩ = some (.int .i64 d) ∧ Y.cell? ⟨M, 2, none⟩ = some (.int .i64 s)) := hide fun Y hY => ⟨(hY.cell (p := ⟨M, 0, none⟩) hMl).trans r0, (hY.cell (p := ⟨M, 1, none⟩) hMl).trans r1, (hY.cell (p := ⟨M, 2, none⟩) hMl).trans r2⟩
  obtain ⟨V1, hV1⟩ : ∃ V1, Hid ((V.alloc (.cells #[.int .i64 s, .slice (some ⟨M, 3, none⟩) k k, .int .i64 d] 42)).drew = V1) := ⟨_, hide rfl⟩
  have hB1 : Below V.heap.size V V1 := by rw [← hV1.out]; exact ((Below.refl _ _).alloc (Nat.le_refl _) _).drew
  have hbx : V1.heap[V.heap.size]? = some (.cells #[.int .i64 s, .slice (some ⟨M, 3, none⟩) k k, .int .i64 d] 42 (0, 0)) := by rw [← hV1.out]; exact World.alloc_heap_new V _
  have hlt : V.heap.size < V1.heap.size := blk_lt hbx
  have HS2 : Hid (∀ Y, Below V1.heap.size V1 Y → Y.cell? ⟨V.heap.size, 0, none⟩ = some (.int .i64 s) ∧ Y.cell? ⟨V.heap.size, 1, none⟩ = some (.slice (some ⟨M, 3, none⟩) k k) ∧ Y.cell? ⟨V.heap.size, 2, none⟩ = some (.int .i64 d) ∧ Y.cell? ⟨M, 0, none⟩ = some (.int .i64 a)) := hide fun Y hY => ⟨(hY.cell (p := ⟨V.heap.size, 0, none⟩) hlt).trans ((blk_cell hbx 0).trans rfl), (hY.cell (p := ⟨V.heap.size, 1, none⟩) hlt).trans ((blk_cell hbx 1).trans rfl), (hY.cell (p := ⟨V.heap.size, 2, none⟩) hlt).trans ((blk_cell hbx 2).trans rfl), (hY.cell (p := ⟨M, 0, none⟩) (Nat.lt_of_lt_of_le hMl hB1.size)).trans (HS1.out _ hB1).1⟩
  have HC := hide (hC V1.drew (hB1.drew) (by simpa using hlt))
  have HB1 := hide hB1
  have hk0 : ¬ k = 0 := by omega
  have hs3 : (3 : Int) ≤ (k : Int) + 3 := by omega
  have hj0 : (0 : Int) < (k : Int) + 3 := by omega
  have hj1 : (1 : Int) < (k : Int) + 3 := by omega
  have hj2 : (2 : Int) < (k : Int) + 3 := by omega
  have hi0 : 0 < k + 3 := by omega
  have hi1 : 1 < k + 3 := by omega
  have hi2 : 2 < k + 3 := by omega
  clear hr hC hB1 hbx r0 r1 r2
  go_enter Tryz.func93, Tryz.ntmps93
  go_wp2_with fail
  refine wp_region_held_drew (S := fun Y => Y.cell? ⟨M, 0, none⟩ = some (.int .i64 a) ∧ Y.cell? ⟨M, 1, none⟩ = some (.int .i64 d) ∧ Y.cell? ⟨M, 2, none⟩ = some (.int .i64 s)) (by kernel_rfl) (HS1.out _ (Below.refl _ _).drew) (fun hHeld => ?_)
  refine wpAnyH_take (i := 0) (oi := _) (v := .slice (some ⟨M, 0, none⟩) (k + 3) (k + 3)) rfl (by kernel_rfl) (by kernel_rfl) (by kernel_rfl) (fun _ _ _ h => h) (Or.inl ⟨by rfl, fun w _ => by go_simp⟩) hHeld ?_
  simp only [Act.put, List.getElem_toArray, List.getElem_cons_zero, List.setIfInBounds_toArray, List.set_cons_succ, List.set_cons_zero]
  refine wpAnyH_take (i := 1) (oi := _) (v := .pointer (some ⟨M, 1, none⟩)) rfl (by kernel_rfl) (by kernel_rfl) (by kernel_rfl) (fun _ _ _ h => h) (Or.inl ⟨by rfl, fun w _ => by go_simp⟩) hHeld ?_
  simp only [Act.put, List.getElem_toArray, List.getElem_cons_succ, List.getElem_cons_zero, List.setIfInBounds_toArray, List.set_cons_succ, List.set_cons_zero]
  refine wpAnyH_take (i := 2) (oi := _) (v := .int .i64 d) rfl (by kernel_rfl) (by kernel_rfl) (by kernel_rfl) (fun _ _ _ h => h) (Or.inl ⟨by rfl, fun w h => by obtain ⟨h1, h2, h3⟩ := h; go_simp⟩) hHeld ?_
  simp only [Act.put, List.getElem_toArray, List.getElem_cons_succ, List.getElem_cons_zero, List.setIfInBounds_toArray, List.set_cons_succ, List.set_cons_zero]
  refine wpAnyH_take (i := 3) (oi := _) (v := .slice (some ⟨M, 0, none⟩) (k + 3) (k + 3)) rfl (by kernel_rfl) (by kernel_rfl) (by kernel_rfl) (fun _ _ _ h => h) (Or.inl ⟨by rfl, fun w _ => by go_simp⟩) hHeld ?_
  simp only [Act.put, List.getElem_toArray, List.getElem_cons_succ, List.getElem_cons_zero, List.setIfInBounds_toArray, List.set_cons_succ, List.set_cons_zero]
  refine wpAnyH_take (i := 4) (oi := _) (v := .pointer (some ⟨M, 2, none⟩)) rfl (by kernel_rfl) (by kernel_rfl) (by kernel_rfl) (fun _ _ _ h => h) (Or.inl ⟨by rfl, fun w _ => by go_simp⟩) hHeld ?_
  simp only [Act.put, List.getElem_toArray, List.getElem_cons_succ, List.getElem_cons_zero, List.setIfInBounds_toArray, List.set_cons_succ, List.set_cons_zero]
  refine wpAnyH_take (i := 5) (oi := _) (v := .int .i64 s) rfl (by kernel_rfl) (by kernel_rfl) (by kernel_rfl) (fun _ _ _ h => h) (Or.inl ⟨by rfl, fun w h => by obtain ⟨h1, h2, h3⟩ := h; go_simp⟩) hHeld ?_
  simp only [Act.put, List.getElem_toArray, List.getElem_cons_succ, List.getElem_cons_zero, List.setIfInBounds_toArray, List.set_cons_succ, List.set_cons_zero]
  refine wpAnyH_take (i := 6) (oi := _) (v := .slice (some ⟨M, 0, none⟩) (k + 3) (k + 3)) rfl (by kernel_rfl) (by kernel_rfl) (by kernel_rfl) (fun _ _ _ h => h) (Or.inl ⟨by rfl, fun w _ => by go_simp⟩) hHeld ?_
  simp only [Act.put, List.getElem_toArray, List.getElem_cons_succ, List.getElem_cons_zero, List.setIfInBounds_toArray, List.set_cons_succ, List.set_cons_zero]
  refine wpAnyH_take (i := 7) (oi := _) (v := .slice (some ⟨M, 3, none⟩) k k) rfl (by kernel_rfl) (by kernel_rfl) (by kernel_rfl) (fun _ _ _ h => h) (Or.inl ⟨by rfl, fun w _ => by go_simp <;> simp [hk0]⟩) hHeld ?_
  simp only [Act.put, List.getElem_toArray, List.getElem_cons_succ, List.getElem_cons_zero, List.setIfInBounds_toArray, List.set_cons_succ, List.set_cons_zero]
  refine wpAnyH_take (i := 8) (oi := _) (v := .agg #[.int .i64 s, .slice (some ⟨M, 3, none⟩) k k, .int .i64 d]) rfl (by kernel_rfl) (by kernel_rfl) (by kernel_rfl) (fun _ _ _ h => h) (Or.inl ⟨by rfl, fun w _ => by go_simp⟩) hHeld ?_
  simp only [Act.put, List.getElem_toArray, List.getElem_cons_succ, List.getElem_cons_zero, List.setIfInBounds_toArray, List.set_cons_succ, List.set_cons_zero]
  refine wpAnyH_ready (rs := [9]) (by kernel_rfl) (by simp) ?_
  refine AllReadyH.cons (o := _) rfl (fun K hK => ?_) AllReadyH.nil
  rw [if_pos (by rfl)]
  go_simp
  refine hK.out _ _ (HS1.out _ ((Below.refl V.heap.size V).drew.alloc (Nat.le_refl V.heap.size) _)) (fun hHeld => ?_)
  clear hK K
  refine wpAnyH_ready (rs := [10]) (by kernel_rfl) (by simp) ?_
  refine AllReadyH.cons (o := _) rfl (fun K hK => ?_) AllReadyH.nil
  rw [if_pos (by rfl)]
  go_simp
  rw [hV1.out]
  refine hK.out _ _ (HS1.out _ HB1.out) (fun hHeld => ?_)
  clear hK K
  refine wpAnyH_done (by kernel_rfl) ?_ _
  clear hHeld HS1
  go_wp2_with fail
  refine wp_region_held_drew (S := fun Y => Y.cell? ⟨V.heap.size, 0, none⟩ = some (.int .i64 s) ∧ Y.cell? ⟨V.heap.size, 1, none⟩ = some (.slice (some ⟨M, 3, none⟩) k k) ∧ Y.cell? ⟨V.heap.size, 2, none⟩ = some (.int .i64 d) ∧ Y.cell? ⟨M, 0, none⟩ = some (.int .i64 a)) (by kernel_rfl) (HS2.out _ (Below.refl _ _).drew) (fun hHeld => ?_)
  refine wpAnyH_take (i := 0) (oi := _) (v := .agg #[.int .i64 s, .slice (some ⟨M, 3, none⟩) k k, .int .i64 d]) rfl (by kernel_rfl) (by kernel_rfl) (by kernel_rfl) (fun _ _ _ h => h) (Or.inl ⟨by rfl, fun w h => by obtain ⟨h1, h2, h3, h4⟩ := h; go_simp⟩) hHeld ?_
  simp only [Act.put, List.getElem_toArray, List.getElem_cons_zero, List.setIfInBounds_toArray, List.set_cons_succ, List.set_cons_zero]
  refine wpAnyH_take (i := 1) (oi := _) (v := .slice (some ⟨M, 0, none⟩) (k + 3) (k + 3)) rfl (by kernel_rfl) (by kernel_rfl) (by kernel_rfl) (fun _ _ _ h => h) (Or.inl ⟨by rfl, fun w _ => by go_simp⟩) hHeld ?_
  simp only [Act.put, List.getElem_toArray, List.getElem_cons_succ, List.getElem_cons_zero, List.setIfInBounds_toArray, List.set_cons_succ, List.set_cons_zero]
  refine wpAnyH_take (i := 2) (oi := _) (v := .pointer (some ⟨M, 0, none⟩)) rfl (by kernel_rfl) (by kernel_rfl) (by kernel_rfl) (fun _ _ _ h => h) (Or.inl ⟨by rfl, fun w _ => by go_simp⟩) hHeld ?_
  simp only [Act.put, List.getElem_toArray, List.getElem_cons_succ, List.getElem_cons_zero, List.setIfInBounds_toArray, List.set_cons_succ, List.set_cons_zero]
  refine wpAnyH_take (i := 3) (oi := _) (v := .int .i64 a) rfl (by kernel_rfl) (by kernel_rfl) (by kernel_rfl) (fun _ _ _ h => h) (Or.inl ⟨by rfl, fun w h => by obtain ⟨h1, h2, h3, h4⟩ := h; go_simp⟩) hHeld ?_
  simp only [Act.put, List.getElem_toArray, List.getElem_cons_succ, List.getElem_cons_zero, List.setIfInBounds_toArray, List.set_cons_succ, List.set_cons_zero]
  refine wpAnyH_ready (rs := [4]) (by kernel_rfl) (by simp) ?_
  refine AllReadyH.cons (o := _) rfl (fun K hK => ?_) AllReadyH.nil
  rw [if_pos (by rfl)]
  go_simp
  go_at_call 24
  refine HC.out.mono ?_
  rintro e w5 ⟨p, rfl, hQ, ⟨d0, d1, d2, d3⟩, ⟨f0, f1, f2, f3⟩, hB5⟩
  have hBd : Below V1.heap.size V1 w5 := (Below.refl _ _).drew.trans hB5
  have hS5 := HS2.out _ hBd
  have HQ := hide hQ
  clear hQ hB5 hBd
  dsimp only
  refine hK.out _ _ hS5 (fun hHeld => ?_)
  clear hK K
  refine wpAnyH_take (i := 5) (oi := _) (v := .tuple #[.pointer (some ⟨p, 0, none⟩), .nilIface]) rfl (by kernel_rfl) (by kernel_rfl) (by kernel_rfl) (fun _ _ _ h => h) (Or.inl ⟨by rfl, fun w _ => by go_simp⟩) hHeld ?_
  simp only [Act.put, List.getElem_toArray, List.getElem_cons_succ, List.getElem_cons_zero, List.setIfInBounds_toArray, List.set_cons_succ, List.set_cons_zero]
  refine wpAnyH_take (i := 6) (oi := _) (v := .pointer (some ⟨p, 0, none⟩)) rfl (by kernel_rfl) (by kernel_rfl) (by kernel_rfl) (fun _ _ _ h => h) (Or.inl ⟨by rfl, fun w _ => by go_simp⟩) hHeld ?_
  simp only [Act.put, List.getElem_toArray, List.getElem_cons_succ, List.getElem_cons_zero, List.setIfInBounds_toArray, List.set_cons_succ, List.set_cons_zero]
  refine wpAnyH_take (i := 7) (oi := _) (v := .nilIface) rfl (by kernel_rfl) (by kernel_rfl) (by kernel_rfl) (fun _ _ _ h => h) (Or.inl ⟨by rfl, fun w _ => by go_simp⟩) hHeld ?_
  simp only [Act.put, List.getElem_toArray, List.getElem_cons_succ, List.getElem_cons_zero, List.setIfInBounds_toArray, List.set_cons_succ, List.set_cons_zero]
  refine wpAnyH_ready (rs := [8]) (by kernel_rfl) (by simp) ?_
  refine AllReadyH.cons (o := _) rfl (fun K hK => ?_) AllReadyH.nil
  rw [if_pos (by rfl)]
  go_simp
  refine hK.out _ _ hS5 (fun hHeld => ?_)
  clear hK K
  refine wpAnyH_ready (rs := [9]) (by kernel_rfl) (by simp) ?_
  refine AllReadyH.cons (o := _) rfl (fun K hK => ?_) AllReadyH.nil
  rw [if_pos (by rfl)]
  go_simp
  refine hK.out _ _ hS5 (fun hHeld => ?_)
  clear hK K
  refine wpAnyH_done (by kernel_rfl) ?_ _
  clear hHeld
  obtain ⟨y0, y1, y2, _⟩ := hS5
  go_wp2_with fail
  refine (throw_nil _).mono ?_
  rintro e w6 ⟨rfl, rfl⟩
  go_wp2
  go_ret
  exact ⟨rfl, p, _, HQ.out, rfl⟩
variable {N : Nat} {c : DkC} {D : SC} {X : DS} {T : Nat}
structure XIn (T : Nat) (X : DS) : Prop where
  cl : ClInv X.L WT 3 X.win T X.S
  lok : LOk X.L
theorem clW {L : RC} {win T : Nat} {S : SY} (h : SInv L WT 3 win T S) : ClInv L WT 3 win T S := ⟨h, fun _ _ _ _ _ => ⟨fun _ _ => trivial, fun _ _ => trivial⟩⟩
theorem XIn.of {L : RC} {win T T' : Nat} {S : SY} {c : Int} (h : SInv L WT 3 win T S) (hL : LOk L) (hT : T ≤ T') : XIn T' ⟨L, win, S, c⟩ := ⟨clW (h.later hT), hL⟩
theorem XIn.later (h : XIn T X) {T' : Nat} (hT : T ≤ T') : XIn T' X := ⟨clW (h.cl.inv.later hT), h.lok⟩
theorem rep_nat {z : Int} (h : isRep z = true) : z.toNat < 3 ∧ ((z.toNat : Nat) : Int) = z := by
  unfold isRep at h
  simp at h
  omega
theorem in_nat {z : Int} {n : Nat} (h : 0 ≤ z ∧ z < (n : Int)) : z.toNat < n ∧ ((z.toNat : Nat) : Int) = z := by omega
theorem does_ask (z : Int) (hI : XIn T X) (W : World) (h : DkP W N c D X) :
    Calls Tryz.prog 33 #[.pointer (some ⟨D.p, 0, none⟩), .int .i64 z] W fun e W' => DoesOr W W' N D X (askO z X) e := by
  unfold askO
  by_cases hz : isRep z = true
  · obtain ⟨hk, ez⟩ := rep_nat hz
    have := sasksC N D X.L X.win X.S W z.toNat hk h.dk.sys hI.cl.inv h.dk.le X.c h.cnt
    rw [ez] at this
    rw [if_pos hz]
    exact this.mono fun e W' hh => .inl ⟨hh.1, _, _, rfl, hh.2⟩
  · rw [if_neg hz]
    exact (sasks_bad D.p z W (by simpa using hz)).mono fun e W' hh => .inr ⟨rfl, hh.1, hh.2⟩
theorem does_crash (z : Int) (W : World) (h : DkP W N c D X) :
    Calls Tryz.prog 38 #[.pointer (some ⟨D.p, 0, none⟩), .int .i64 z] W fun e W' => DoesOr W W' N D X (crashO z X) e := by
  unfold crashO
  by_cases hz : isRep z = true
  · obtain ⟨hk, ez⟩ := rep_nat hz
    have := scrashC N D X.L X.win X.S W z.toNat hk h.lok h.dk.sys h.dk.le X.c h.cnt
    rw [ez] at this
    rw [if_pos hz]
    exact this.mono fun e W' hh => .inl ⟨hh.1, _, _, rfl, hh.2⟩
  · rw [if_neg hz]
    exact (scrash_bad N D X.L X.win X.S W z (by simpa using hz) h.lok h.dk.sys).mono fun e W' hh => .inr ⟨rfl, hh.1, hh.2⟩
theorem does_see (z x y : Int) (W : World) (h : DkP W N c D X) :
    Calls Tryz.prog 18 #[.pointer (some ⟨D.p, 0, none⟩), .int .i64 z, .agg #[.int .i64 x, .int .i64 y]] W fun e W' => DoesOr W W' N D X (seeO z x y X) e := by
  unfold seeO
  by_cases hz : isRep z = true
  · obtain ⟨hk, ez⟩ := rep_nat hz
    have := sseeC N D X.L X.win X.S W z.toNat x y hk h.dk.sys X.c h.cnt
    rw [ez] at this
    rw [if_pos hz]
    exact this.mono fun e W' hh => .inl ⟨hh.1, _, _, rfl, hh.2⟩
  · rw [if_neg hz]
    exact (ssee_bad D.p z x y W (by simpa using hz)).mono fun e W' hh => .inr ⟨rfl, hh.1, hh.2⟩
theorem does_tick (z : Int) (hI : XIn T X) (hT : T < 2000000) (W : World) (h : DkP W N c D X) :
    Calls Tryz.prog 32 #[.pointer (some ⟨D.p, 0, none⟩), .int .i64 z] W fun e W' => DoesOr W W' N D X (tickO z X) e := by
  unfold tickO
  by_cases hz : isRep z = true
  · obtain ⟨hk, ez⟩ := rep_nat hz
    have := stickC N D X.L X.win X.S W z.toNat hk h.dk.sys hI.cl.inv h.lok (by omega) h.dk.le X.c h.cnt
    rw [ez] at this
    rw [if_pos hz]
    exact this.mono fun e W' hh => .inl ⟨hh.1, _, _, rfl, hh.2⟩
  · rw [if_neg hz]
    by_cases h3 : z = 3
    · subst h3
      rw [if_pos rfl]
      exact (stick3C N D X.L X.win X.S W h.dk.sys hI.cl.inv.vok X.c h.cnt).mono fun e W' hh => .inl ⟨hh.1, _, _, rfl, hh.2⟩
    · rw [if_neg h3]
      exact (stick_bad D.p z W (by simpa using hz) h3).mono fun e W' hh => .inr ⟨rfl, hh.1, hh.2⟩
theorem does_deliver (z : Int) (hI : XIn T X) (hT : T < 2000000) (W : World) (h : DkP W N c D X) :
    Calls Tryz.prog 34 #[.pointer (some ⟨D.p, 0, none⟩), .int .i64 z] W fun e W' => DoesOr W W' N D X (deliverO z X) e := by
  unfold deliverO
  by_cases hz : 0 ≤ z ∧ z < (X.S.net.length : Int)
  · obtain ⟨hk, ez⟩ := in_nat hz
    have := sdeliverC N D X.L X.win X.S W z.toNat h.dk.sys hI.cl.inv h.lok (by omega) h.dk.le hk X.c h.cnt
    rw [ez] at this
    rw [if_pos hz]
    exact this.mono fun e W' hh => .inl ⟨hh.1, _, _, rfl, hh.2⟩
  · rw [if_neg hz]
    exact (sdeliver_bad N D X.L X.win X.S W z h.dk.sys (by omega)).mono fun e W' hh => .inr ⟨rfl, hh.1, hh.2⟩
theorem does_lose (z : Int) (hI : XIn T X) (W : World) (h : DkP W N c D X) :
    Calls Tryz.prog 35 #[.pointer (some ⟨D.p, 0, none⟩), .int .i64 z] W fun e W' => DoesOr W W' N D X (loseO z X) e := by
  unfold loseO
  by_cases hz : 0 ≤ z ∧ z < (X.S.net.length : Int)
  · obtain ⟨hk, ez⟩ := in_nat hz
    have := sloseC N D X.L X.win X.S W z.toNat h.dk.sys hI.cl.inv.many hk X.c h.cnt
    rw [ez] at this
    rw [if_pos hz]
    exact this.mono fun e W' hh => .inl ⟨hh.1, _, _, rfl, hh.2⟩
  · rw [if_neg hz]
    exact (slose_bad N D X.L X.win X.S W z h.dk.sys (by omega)).mono fun e W' hh => .inr ⟨rfl, hh.1, hh.2⟩
theorem does_twice (z : Int) (hI : XIn T X) (W : World) (h : DkP W N c D X) :
    Calls Tryz.prog 36 #[.pointer (some ⟨D.p, 0, none⟩), .int .i64 z] W fun e W' => DoesOr W W' N D X (twiceO z X) e := by
  unfold twiceO
  by_cases hz : 0 ≤ z ∧ z < (X.S.net.length : Int)
  · obtain ⟨hk, ez⟩ := in_nat hz
    have := stwiceC N D X.L X.win X.S W z.toNat h.dk.sys hI.cl.inv.many h.dk.le hk X.c h.cnt
    rw [ez] at this
    rw [if_pos hz]
    exact this.mono fun e W' hh => .inl ⟨hh.1, _, _, rfl, hh.2⟩
  · rw [if_neg hz]
    exact (stwice_bad N D X.L X.win X.S W z h.dk.sys (by omega)).mono fun e W' hh => .inr ⟨rfl, hh.1, hh.2⟩
theorem XIn.ask {z : Int} {X' : DS} (h : XIn T X) (e : askO z X = some X') : XIn (T + 600) X' := by
  unfold askO at e
  split at e
  · rename_i hz; cases e; exact XIn.of (h.cl.inv.asks (rep_nat hz).1) h.lok (by omega)
  · cases e
theorem XIn.crash {z : Int} {X' : DS} (h : XIn T X) (e : crashO z X = some X') : XIn (T + 600) X' := by
  unfold crashO at e
  split at e
  · cases e; exact XIn.of h.cl.inv.crash h.lok (by omega)
  · cases e
theorem XIn.see {z x y : Int} {X' : DS} (h : XIn T X) (e : seeO z x y X = some X') : XIn (T + 600) X' := by
  unfold seeO at e
  split at e
  · rename_i hz; cases e; exact XIn.of (h.cl.inv.see (rep_nat hz).1 x y) h.lok (by omega)
  · cases e
theorem XIn.tick {z : Int} {X' : DS} (h : XIn T X) (e : tickO z X = some X') : XIn (T + 600) X' := by
  unfold tickO at e
  split at e
  · rename_i hz; cases e; exact XIn.of (h.cl.tick (rep_nat hz).1).inv h.lok (by omega)
  · split at e
    · cases e; exact XIn.of h.cl.inv.vtick h.lok (by omega)
    · cases e
theorem XIn.deliver {z : Int} {X' : DS} (h : XIn T X) (e : deliverO z X = some X') : XIn (T + 600) X' := by
  unfold deliverO at e
  split at e
  · rename_i hz; cases e; exact XIn.of (h.cl.inv.arrive h.lok (in_nat hz).1).1 h.lok (by omega)
  · cases e
theorem XIn.lose {z : Int} {X' : DS} (h : XIn T X) (e : loseO z X = some X') : XIn (T + 600) X' := by
  unfold loseO at e
  split at e
  · cases e; exact XIn.of (h.cl.inv.outs _) h.lok (by omega)
  · cases e
theorem XIn.twice {z : Int} {X' : DS} (h : XIn T X) (e : twiceO z X = some X') : XIn (T + 600) X' := by
  unfold twiceO at e
  split at e
  · rename_i hz; cases e; exact XIn.of (h.cl.inv.puts (h.cl.inv.net _ (pkAt_mem (in_nat hz).1))) h.lok (by omega)
  · cases e
def OkD (m : Nat) (w w' : World) (c : DkC) (D : SC) (T : Nat) (e : Ending) (X' : DS) (s : List UInt8) : Prop :=
  XIn (T + 600) X' ∧ s.length ≤ 30000 ∧ (∃ N' c' D', c'.d = c.d ∧ c'.m = c.m ∧ DkP w' N' c' D' X' ∧ Mod w w' (fun k => Wr D k ∨ k = c.d) ∧ ∀ k, Occ c' D' k → Occ c D k ∨ m ≤ k) ∧ (e = .returned (.string (txt s)) ∨ ∃ z, s = errF z ∧ IntIn z ∧ e = thrown z)
theorem AnsP.q {m : Nat} {w w' : World} {X' : DS} (h : AnsP w w' c D X') (hm : m ≤ w.heap.size) : ∃ N' c' D', c'.d = c.d ∧ c'.m = c.m ∧ DkP w' N' c' D' X' ∧ Mod w w' (fun k => Wr D k ∨ k = c.d) ∧ ∀ k, Occ c' D' k → Occ c D k ∨ m ≤ k := by
  obtain ⟨N', c', D', e1, e2, h1, h2, h3⟩ := h
  exact ⟨N', c', D', e1, e2, h1, h2, fun k hk => (h3 k hk).imp id fun x => Nat.le_trans hm x⟩
theorem err2_len : (errF 2).length ≤ 30000 := by decide +kernel
theorem in2 : IntIn 2 := by unfold IntIn; omega
theorem one_ok {m : Nat} {w w' : World} {op : Option DS} {t : List UInt8} {e : Ending} (h : TellsOr w w' c D X op t e) (hI : XIn T X) (hk : ∀ X', op = some X' → XIn (T + 600) X') (ht : t.length ≤ 30000) (hm : m ≤ w.heap.size) : ∃ X' s, oneD op t X X' s ∧ OkD m w w' c D T e X' s := by
  rcases h with ⟨X', ho, rfl, hA⟩ | ⟨ho, rfl, hA⟩
  · exact ⟨X', t, .inl ⟨ho, rfl⟩, hk X' ho, ht, hA.q hm, .inl rfl⟩
  · exact ⟨X, errF 2, .inr ⟨ho, rfl, rfl⟩, hI.later (by omega), err2_len, hA.q hm, .inr ⟨2, rfl, in2, rfl⟩⟩
theorem tells_ok {m : Nat} {w w' : World} {t : List UInt8} {e : Ending} (h : DkP w N c D X) (hI : XIn T X) (he : e = .returned (.string (txt t))) (hB : Below w.heap.size w w') (ht : t.length ≤ 30000) (hm : m ≤ w.heap.size) : OkD m w w' c D T e X t :=
  ⟨hI.later (by omega), ht, (h.stays hB).q hm, .inl he⟩
variable {N : Nat} {c : DkC} {D : SC} {X : DS} {T : Nat}
theorem sl_cell {V : World} {M n cap : Nat} {l : List Int} (h : IsSl V (some ⟨M, 0, none⟩) n cap l) {i : Nat} {z : Int} (hi : l[i]? = some z) : V.cell? ⟨M, i, none⟩ = some (.int .i64 z) := by
  rcases h.2.2 with e | ⟨b, o, e, _, hr⟩
  · rw [e] at hi; cases hi
  · simp only [Option.some.injEq, Addr.mk.injEq, and_true] at e
    obtain ⟨rfl, rfl⟩ := e
    obtain ⟨hlt, hv⟩ := List.getElem?_eq_some_iff.1 hi
    have := hr i hlt
    rw [Nat.zero_add, hi] at this
    exact this
theorem small_len : ∀ k : Fin 64, ∀ j : Fin 64, (Lib.itoa ((64 * (k : Nat) + (j : Nat) : Nat) : Int)).length ≤ 4 := of_decide_eq_true (by kernel_rfl)
theorem itoa4 {k : Nat} (h : k < 4096) : (Lib.itoa (k : Int)).length ≤ 4 := by
  have := small_len ⟨k / 64, by omega⟩ ⟨k % 64, by omega⟩
  dsimp only at this
  rw [Nat.div_add_mod] at this
  exact this
theorem XIn.small (h : XIn T X) (i : Nat) (hi : i < X.S.v.tr.length) : ∃ a b o : Nat, a < 4096 ∧ b < 256 ∧ o < 256 ∧ cmAt X.S.v.tr i = ⟨(a : Int), (b : Int), (o : Int)⟩ := by
  obtain ⟨x, y, e, h1, h2, _⟩ := h.cl.inv.tr i hi
  have hf := h.lok.few
  have h3 : outOf X.L (stAt X.L X.S.v.tr i) (x : Int) (y : Int) < 2 ^ X.L.n := showTo_lt _ _ _ _ _ _ (Nat.le_refl _)
  have hs : 2 ^ X.L.s ≤ 4096 := Nat.pow_le_pow_right (n := 2) (by decide) (show X.L.s ≤ 12 by omega)
  have hn : 2 ^ X.L.n ≤ 256 := Nat.pow_le_pow_right (n := 2) (by decide) (show X.L.n ≤ 8 by omega)
  exact ⟨x, y, _, by omega, by omega, by omega, e⟩
theorem in_small {k : Nat} (h : k ≤ 1000000000) : IntIn (k : Int) := by unfold IntIn; omega
theorem XIn.cms (h : XIn T X) : ∀ d ∈ X.S.v.tr, CmIn d ∧ (cmT d).length ≤ 20 := by
  intro d hd
  obtain ⟨i, hi, rfl⟩ := List.mem_iff_getElem.1 hd
  obtain ⟨a, b, o, ha, hb, ho, e⟩ := h.small i hi
  have ec : cmAt X.S.v.tr i = X.S.v.tr[i] := by unfold cmAt; rw [List.getElem?_eq_getElem hi]; rfl
  rw [ec] at e
  rw [e]
  refine ⟨⟨in_small (by omega), in_small (by omega), in_small (by omega)⟩, ?_⟩
  have h1 := itoa4 (k := a) (by omega)
  have h2 := itoa4 (k := b) (by omega)
  have h3 := itoa4 (k := o) (by omega)
  unfold cmT spF
  simp [Lib.join, List.intercalate, List.intersperse]
  omega
theorem XIn.trace_len (h : XIn T X) : (traceF X.S.v.tr).length ≤ 30000 := by
  have hjs := join_short (X.S.v.tr.map cmT) [44, 32] 30 fun x hx => by
    obtain ⟨d, hd, rfl⟩ := List.mem_map.1 hx
    have := (h.cms d hd).2
    simp
    omega
  have hf := h.cl.inv.vok.few
  rw [List.length_map] at hjs
  unfold traceF
  omega
theorem XIn.shown (h : XIn T X) : IntIn (shownF X.S.v) := by
  unfold shownF
  split
  · unfold IntIn; omega
  · rename_i hn
    have h0 : 0 < X.S.v.tr.length := by
      simp only [Bool.or_eq_true, beq_iff_eq, not_or] at hn
      omega
    obtain ⟨a, b, o, _, _, ho, e⟩ := h.small (X.S.v.tr.length - 1) (by omega)
    rw [e]
    exact in_small (by show o ≤ _; omega)
theorem sp_len (l : List Int) (h : ∀ z ∈ l, IntIn z) (hl : l.length ≤ 1000) : (spF l).length ≤ 30000 := by
  have := join_few l h
  omega
theorem XIn.repl (h : XIn T X) (hT : T < 2000000) {k : Nat} (hk : k < 3) : IntIn (X.S.rp k).cycle ∧ IntIn ((X.S.rp k).st.set : Int) := by
  obtain ⟨hok, h0, h1⟩ := (h.cl.inv.rp k hk).ok hk h.lok (by omega) h.cl.inv.vok.few
  refine ⟨?_, in_small (by have := hok.st.set; omega)⟩
  unfold IntIn
  omega
theorem conf_in {L : RC} (h : LOk L) : ∀ z ∈ confL L, IntIn z := by
  intro z hz
  unfold confL at hz
  obtain ⟨k, _, rfl⟩ := List.mem_map.1 hz
  have := conf_lt L.zs k (by rw [h.len]; have := h.few; omega)
  exact in_small (by omega)
theorem lineOf_ok {s : Int} {zs : List Int} {d : Int} (h : checkF s zs d = (0, -1)) : LOk (lineOf s zs d) ∧ ((lineOf s zs d).s : Int) = s ∧ ((lineOf s zs d).d : Int) = d := by
  have hr := range_pos h
  unfold rangeB at hr
  simp only [Bool.and_eq_true, inB_iff] at hr
  have e1 : ((lineOf s zs d).s : Int) = s := by show ((s.toNat : Nat) : Int) = s; omega
  have e2 : ((lineOf s zs d).d : Int) = d := by show ((d.toNat : Nat) : Int) = d; omega
  exact ⟨⟨by rw [e1, e2]; exact h, rfl⟩, e1, e2⟩
theorem row_tail {V : World} {M : Nat} {a d s : Int} {zs : List Int} (h : Row V M 0 (a :: d :: s :: zs)) : Row V M 3 zs := fun k hk => by
  have := h (k + 3) (by simp; omega)
  rw [Nat.zero_add] at this
  rw [Nat.add_comm 3 k, this]
  simp
theorem sl_row {V : World} {M n cap : Nat} {a : Int} {l : List Int} (h : IsSl V (some ⟨M, 0, none⟩) n cap (a :: l)) : Row V M 0 (a :: l) ∧ M < V.heap.size := by
  rcases h.2.2 with e | ⟨b, o, e, hb, hr⟩
  · cases e
  · simp only [Option.some.injEq, Addr.mk.injEq, and_true] at e
    obtain ⟨rfl, rfl⟩ := e
    exact ⟨hr, hb⟩
theorem errc_len {z : Int} (h : IntIn z) : (errF z).length ≤ 30000 := by
  have := Lib.itoa_length_le z h.1 h.2
  show ([101, 114, 114, 111, 114, 32] ++ Lib.itoa z).length ≤ 30000
  simp
  omega
theorem begin_put {V W : World} {m M p win : Nat} {L : RC} (h : DkP V N c D X) (hMl : M < V.heap.size) (hm1 : m ≤ M) (hm2 : m ≤ V.heap.size) (hL : LOk L) (hr : Row V M 3 L.zs)
    (hQ : ∃ E : SC, E.p = p ∧ SyIs W V.heap.size E L win (sy0 win) ∧ E.us = [] ∧ E.lost = 0 ∧ Below V.heap.size V W) :
    ∃ N' c' D', c'.d = c.d ∧ c'.m = c.m ∧ DkP ((((W.setCell ⟨c.d, 0, none⟩ (.int .i64 (L.s : Int))).setCell ⟨c.d, 1, none⟩ (.slice (some ⟨M, 3, none⟩) L.n L.n)).setCell ⟨c.d, 2, none⟩ (.int .i64 (L.d : Int))).setCell ⟨c.d, 3, none⟩ (.pointer (some ⟨p, 0, none⟩))) N' c' D' ⟨L, win, sy0 win, 0⟩ ∧
      Mod V ((((W.setCell ⟨c.d, 0, none⟩ (.int .i64 (L.s : Int))).setCell ⟨c.d, 1, none⟩ (.slice (some ⟨M, 3, none⟩) L.n L.n)).setCell ⟨c.d, 2, none⟩ (.int .i64 (L.d : Int))).setCell ⟨c.d, 3, none⟩ (.pointer (some ⟨p, 0, none⟩))) (fun k => Wr D k ∨ k = c.d) ∧ ∀ k, Occ c' D' k → Occ c D k ∨ m ≤ k := by
  obtain ⟨E, hp, hS, hu, hlo, hB⟩ := hQ
  have hdl : c.d < V.heap.size := h.lt (.inl rfl)
  have hml : c.m < V.heap.size := h.lt (.inr (.inl rfl))
  have hne : c.m ≠ c.d := fun e => by
    have hb := h.dk.blk
    obtain ⟨es, hx, _⟩ := h.dk.map
    rw [e, hb] at hx
    cases hx
  have hdw : W.heap[c.d]? = some (.cells #[.int .i64 (X.L.s : Int), .slice (some ⟨c.g, c.o, none⟩) X.L.n c.cp, .int .i64 (X.L.d : Int), .pointer (some ⟨D.p, 0, none⟩), .map (some c.m)] 167 (0, 0)) := (hB.block _ hdl).trans h.dk.blk
  have b1 := blk_set hdw 0 (.int .i64 (L.s : Int))
  have m1 : Mod W (W.setCell ⟨c.d, 0, none⟩ (.int .i64 (L.s : Int))) (· = c.d) := (Mod.refl W _).set ⟨c.d, 0, none⟩ _ (fun _ => rfl)
  generalize W.setCell ⟨c.d, 0, none⟩ (.int .i64 (L.s : Int)) = x1 at b1 m1 ⊢
  have b2 := blk_set b1 1 (.slice (some ⟨M, 3, none⟩) L.n L.n)
  have m2 : Mod W (x1.setCell ⟨c.d, 1, none⟩ (.slice (some ⟨M, 3, none⟩) L.n L.n)) (· = c.d) := m1.set ⟨c.d, 1, none⟩ _ (fun _ => rfl)
  generalize x1.setCell ⟨c.d, 1, none⟩ (.slice (some ⟨M, 3, none⟩) L.n L.n) = x2 at b2 m2 ⊢
  have b3 := blk_set b2 2 (.int .i64 (L.d : Int))
  have m3 : Mod W (x2.setCell ⟨c.d, 2, none⟩ (.int .i64 (L.d : Int))) (· = c.d) := m2.set ⟨c.d, 2, none⟩ _ (fun _ => rfl)
  generalize x2.setCell ⟨c.d, 2, none⟩ (.int .i64 (L.d : Int)) = x3 at b3 m3 ⊢
  have b4 := blk_set b3 3 (.pointer (some ⟨p, 0, none⟩))
  have m4 : Mod W (x3.setCell ⟨c.d, 3, none⟩ (.pointer (some ⟨p, 0, none⟩))) (· = c.d) := m3.set ⟨c.d, 3, none⟩ _ (fun _ => rfl)
  generalize x3.setCell ⟨c.d, 3, none⟩ (.pointer (some ⟨p, 0, none⟩)) = x4 at b4 m4 ⊢
  have hrow : Row x4 M 3 L.zs := by
    intro k hk
    have hk0 := hr k hk
    have hMne : M ≠ c.d := fun e => by
      have hc := hk0
      rw [e] at hc
      have hcell := blk_cell h.dk.blk (3 + k)
      rw [hc] at hcell
      have hk2 : k < 2 := by
        rcases Nat.lt_or_ge k 2 with x | x
        · exact x
        · have : (#[Value.int .i64 (X.L.s : Int), .slice (some ⟨c.g, c.o, none⟩) X.L.n c.cp, .int .i64 (X.L.d : Int), .pointer (some ⟨D.p, 0, none⟩), .map (some c.m)] : Array Value)[3 + k]? = none := Array.getElem?_eq_none (by simp; omega)
          rw [this] at hcell; cases hcell
      rcases (by omega : k = 0 ∨ k = 1) with rfl | rfl
      · simp at hcell
      · simp at hcell
    exact (World.cell?_of_block (w := W) (m4.block M (Nat.lt_of_lt_of_le hMl hB.size) hMne)).trans ((hB.cell (p := ⟨M, 3 + k, none⟩) hMl).trans hk0)
  have hHd := h.hi
  have hBH : Below 7 W x4 := m4.toBelow (Nat.le_trans h.dk.low (Nat.le_trans h.dk.le hB.size)) fun k hk e => by omega
  have hBV : Below 7 V W := hB.mono (Nat.le_trans h.dk.low h.dk.le)
  have hS4 : SyIs x4 V.heap.size E L win (sy0 win) := hS.others m4 (fun k hk e => by
    rcases hk with hk | hk
    · have := hS.base k hk; omega
    · have := hS.sbase k hk; omega) (fun i hi => absurd hi (Nat.not_lt_zero i))
  refine ⟨V.heap.size, ⟨c.d, c.m, M, 3, L.n⟩, E, rfl, rfl, ⟨⟨?_, hrow, Nat.le_refl _, hdl, hml, hMl, Nat.le_trans h.dk.low h.dk.le, Nat.le_trans hB.size m4.size, ?_, (h.dk.num.lo hBV (Nat.le_refl _)).lo hBH (Nat.le_refl _), hS4⟩, ?_, (h.err.lo hBV (Nat.le_refl _)).lo hBH (Nat.le_refl _), hL, hHd⟩, (Mod.ofBelow hB _).then m4 (fun k _ e => .inr e), fun k hk => ?_⟩
  · rw [hp]; exact b4
  · exact (h.dk.map.same (hB.block _ hml)).same (m4.block _ (Nat.lt_of_lt_of_le hml hB.size) hne)
  · show E.lost = wrap64 (0 - ((0 : Nat) : Int))
    rw [hlo]; unfold wrap64; omega
  · rcases hk with x | x | x | x | x | ⟨u, x, _⟩
    · exact .inl (.inl x)
    · exact .inl (.inr (.inl x))
    · have x' : k = M := x
      exact .inr (by omega)
    · exact .inr (Nat.le_trans hm2 (hS.base k x))
    · exact .inr (Nat.le_trans hm2 (hS.sbase k x))
    · rw [hu] at x; cases x
end Go.Proofs.YtaablbmgagiajabGreatDoor
namespace Go.Proofs.YtaablbmgagiajabGreatDoor
open Go.RowKit Go.Deep Go.Shelf Go.Extern.Stop Go.Stop Go.Extern
attribute [local go_sem] run_store_func run_store_nilFunc
set_option maxRecDepth 100000 in
set_option maxHeartbeats 4000000 in
theorem answer_nan (d m : Nat) (line x : List UInt8) (r : List (List UInt8)) (w : World) (hl : line.length ≤ 1000000) (hd : DkAt w d m) (hw : wordsF line = x :: r) (a b : Int) (f : Nat) (hk : (ordTab d).lookup x = some (ordV d a b f)) (ha : a ≤ (r.length : Int)) (hb : (r.length : Int) ≤ b) (hr : sayF r = none) :
    Calls Tryz.prog 61 #[.pointer (some ⟨d, 0, none⟩), .string (txt line)] w fun e w' => e = .returned (.string (txt (errF 3))) ∧ Below w.heap.size w w' := by
  have hmf : ∀ (fn : Fn) (first cap : Array Value) (w : World), (Instr.makeFunc fn first cap).run Tryz.prog w = .ok (.func fn first cap) w := fun _ _ _ _ => rfl
  obtain ⟨W, hW⟩ : ∃ W, Hid (w.alloc (.cells #[.string ⟨#[]⟩] 9) = W) := ⟨_, hide rfl⟩
  have hB0 : Below w.heap.size w W := by rw [← hW.out]; exact (Below.refl _ _).alloc (Nat.le_refl _) _
  have hsz : W.heap.size = w.heap.size + 1 := by rw [← hW.out]; simp
  have hc0 : W.cell? ⟨w.heap.size, 0, none⟩ = some (.string ⟨#[]⟩) ∧ W.frozen? ⟨w.heap.size, 0, none⟩ = false := by rw [← hW.out]; constructor <;> simp
  have HF := hide (fields_any line W hl)
  rw [hw] at HF
  have HC : Hid (∀ w1, Below W.heap.size W w1 → (w1.cell? ⟨w.heap.size, 0, none⟩ = some (.string ⟨#[]⟩) ∧ w1.frozen? ⟨w.heap.size, 0, none⟩ = false)) := hide fun w1 h =>
    ⟨(h.cell (p := ⟨w.heap.size, 0, none⟩) (by show w.heap.size < _; omega)).trans hc0.1, (World.frozen?_of_block (h.block _ (by show w.heap.size < _; omega))).trans hc0.2⟩
  have HB := hide hB0
  have HS := hide hsz
  have HD := hide hd
  have HK := hide hk
  have HR := hide hr
  clear hB0 hsz hc0 hd hk hr
  go_enter_defers Tryz.func61, Tryz.ntmps61
  go_wp2_with fail
  rw [hW.out]
  refine HF.out.mono ?_
  rintro e w1 ⟨A, n, rfl, rfl, hA, hA2, hws, hB1⟩
  obtain ⟨g0, g1⟩ := HC.out w1 hB1
  have HBw := hide (HB.out.trans (hB1.mono HB.out.size))
  have c4 := (HD.out.below HBw.out).c4
  have cx : w1.cell? ⟨A, 0, none⟩ = some (.string (txt x)) := hws 0 x rfl
  have hbd : Below w.heap.size w w1.drew := HBw.out.drew
  have k1 := HD.out.look hbd x
  have hba : Below w1.heap.size w1 (w1.alloc (.cells #[.int .i64 0, .int .i64 0, .nilFunc] 178)) := (Below.refl _ _).alloc (Nat.le_refl _) _
  have k2 := HD.out.look (HBw.out.trans (hba.mono HBw.out.size)).drew x
  have c4' : (w1.alloc (.cells #[.int .i64 0, .int .i64 0, .nilFunc] 178)).cell? ⟨d, 4, none⟩ = some (.map (some m)) := (hba.cell (p := ⟨d, 4, none⟩) (HD.out.below HBw.out).lt).trans c4
  have cx' : (w1.alloc (.cells #[.int .i64 0, .int .i64 0, .nilFunc] 178)).cell? ⟨A, 0, none⟩ = some (.string (txt x)) := (hba.cell (p := ⟨A, 0, none⟩) hA2).trans cx
  rw [HK.out] at k1 k2
  simp only [Option.getD_some, Option.isSome_some, ordV] at k1 k2
  have hlen : (x :: r).length = r.length + 1 := rfl
  rw [hlen]
  obtain ⟨oA, hoA, hss⟩ : ∃ oA, Hid ((r = [] ∧ oA = 0) ∨ (¬ r = [] ∧ oA = 1)) ∧ IsSs w1 (some ⟨A, oA, none⟩) r.length r.length r := by
    by_cases hr0 : r = []
    · exact ⟨0, hide (.inl ⟨hr0, rfl⟩), ⟨rfl, Nat.le_refl _, .inl hr0⟩⟩
    · exact ⟨1, hide (.inr ⟨hr0, rfl⟩), ⟨rfl, Nat.le_refl _, .inr ⟨A, 1, rfl, hA2, fun j y hy => by rw [Nat.add_comm]; exact hws (j + 1) y (by rw [List.getElem?_cons_succ]; exact hy)⟩⟩⟩
  clear hws hbd HF HC hba
  have hn0 : (0 : Int) < (r.length : Int) + 1 := by omega
  have hn1 : 0 < r.length + 1 := by omega
  have hrl : r.length ≤ 1000001 := by
    have h1 := words_few line
    rw [hw, hlen] at h1
    omega
  have hwr : wrap64 (r.length : Int) = (r.length : Int) := IntWalk.wrap64_in _ ⟨by omega, by omega⟩
  have ht1 : decide ((r.length : Int) < a) = false := decide_eq_false (by omega)
  have ht2 : decide (b < (r.length : Int)) = false := decide_eq_false (by omega)
  have hs1 : (1 : Int) ≤ (r.length : Int) + 1 := by omega
  obtain ⟨V, hV⟩ : ∃ V, Hid ((w1.alloc (.cells #[.int .i64 a, .int .i64 b, .func (.func f) #[.pointer (some ⟨d, 0, none⟩)] #[]] 178)).drew = V) := ⟨_, hide rfl⟩
  have hBV : Below w1.heap.size w1 V := by rw [← hV.out]; exact ((Below.refl _ _).alloc (Nat.le_refl _) _).drew
  have hcf : V.cell? ⟨w1.heap.size, 2, none⟩ = some (.func (.func f) #[.pointer (some ⟨d, 0, none⟩)] #[]) := by rw [← hV.out]; simp
  have hVs : w1.heap.size < V.heap.size := by rw [← hV.out]; simp
  have hlt : w.heap.size < w1.heap.size := by have := HS.out; have := hB1.size; omega
  have HN : Hid (Calls Tryz.prog 101 #[.slice (some ⟨A, oA, none⟩) r.length r.length] V.drew fun e V' => e = thrown 3 ∧ (V'.cell? ⟨w.heap.size, 0, none⟩ = some (.string ⟨#[]⟩) ∧ V'.frozen? ⟨w.heap.size, 0, none⟩ = false) ∧ Hid (HasPow V' ∧ w.heap.size < V'.heap.size ∧ Below w.heap.size w V')) := hide (by
    refine (dnumbers_any r (some ⟨A, oA, none⟩) r.length r.length V.drew ((hss.below hBV).below (Below.refl _ _).drew) (fun y hy => ?_) (by omega) (((HD.out.below HBw.out).num.below hBV).below (Below.refl _ _).drew)).mono ?_
    · have hy2 : y ∈ wordsF line := by rw [hw]; exact List.mem_cons_of_mem _ hy
      exact Nat.le_trans (words_short hy2) hl
    rintro e V' ⟨hB, ⟨_, rfl⟩ | ⟨l', M, hl', _⟩⟩
    · have hBd : Below w1.heap.size w1 V' := hBV.trans (((Below.refl _ _).drew.trans hB).mono hBV.size)
      exact ⟨rfl, ⟨(hBd.cell (p := ⟨w.heap.size, 0, none⟩) hlt).trans g0, (World.frozen?_of_block (hBd.block _ hlt)).trans g1⟩, hide ⟨((HD.out.below HBw.out).num.below hBd).pow, Nat.lt_of_lt_of_le hlt hBd.size, HBw.out.trans (hBd.mono HBw.out.size)⟩⟩
    · rw [HR.out] at hl'; cases hl')
  clear ha hb hss hBV hVs
  have hSd : V.drew.cell? ⟨w1.heap.size, 2, none⟩ = some (.func (.func f) #[.pointer (some ⟨d, 0, none⟩)] #[]) := by simpa using hcf
  go_wp2
  go_region
  all_goals
    go_wp2
    rw [hV.out]
    refine wp_region_held_drew (S := fun W => W.cell? ⟨w1.heap.size, 2, none⟩ = some (.func (.func f) #[.pointer (some ⟨d, 0, none⟩)] #[])) (by kernel_rfl) hSd (fun hHeld => ?_)
    refine wpAnyH_take (i := 0) (oi := _) (v := .pointer (some ⟨w1.heap.size, 2, none⟩)) rfl (by kernel_rfl) (by kernel_rfl) (by kernel_rfl) (fun c a w h => ans_put (by decide) c a w h) (Or.inl ⟨by rfl, fun w _ => by go_simp⟩) hHeld ?_
    simp only [Act.put, List.getElem_toArray, List.getElem_cons_zero, List.setIfInBounds_toArray, List.set_cons_succ, List.set_cons_zero]
    refine wpAnyH_take (i := 1) (oi := _) (v := .func (.func f) #[.pointer (some ⟨d, 0, none⟩)] #[]) rfl (by kernel_rfl) (by kernel_rfl) (by kernel_rfl) (fun c a w h => ans_put (by decide) c a w h) (Or.inl ⟨by rfl, fun w h => by go_simp⟩) hHeld ?_
    simp only [Act.put, List.getElem_toArray, List.getElem_cons_succ, List.getElem_cons_zero, List.setIfInBounds_toArray, List.set_cons_succ, List.set_cons_zero]
    refine wpAnyH_take (i := 2) (oi := _) (v := .slice (some ⟨A, 0, none⟩) (r.length + 1) (r.length + 1)) rfl (by kernel_rfl) (by kernel_rfl) (by kernel_rfl) (fun c a w h => ans_put (by decide) c a w h) (Or.inl ⟨by rfl, fun w _ => by go_simp⟩) hHeld ?_
    simp only [Act.put, List.getElem_toArray, List.getElem_cons_succ, List.getElem_cons_zero, List.setIfInBounds_toArray, List.set_cons_succ, List.set_cons_zero]
    refine wpAnyH_take (i := 3) (oi := _) (v := .slice (some ⟨A, oA, none⟩) r.length r.length) rfl (by kernel_rfl) (by kernel_rfl) (by kernel_rfl) (fun c a w h => ans_put (by decide) c a w h) (Or.inl ⟨by rfl, fun w _ => by rcases hoA.out with ⟨h1, h2⟩ | ⟨h1, h2⟩ <;> subst h2 <;> go_simp <;> simp [h1]⟩) hHeld ?_
    simp only [Act.put, List.getElem_toArray, List.getElem_cons_succ, List.getElem_cons_zero, List.setIfInBounds_toArray, List.set_cons_succ, List.set_cons_zero]
    refine wpAnyH_ready (rs := [4]) (by kernel_rfl) (by simp) ?_
    refine AllReadyH.cons (o := _) rfl (fun K hK => ?_) AllReadyH.nil
    rw [if_pos (by rfl)]
    go_simp
    go_at_call 101
    refine HN.out.mono ?_
    rintro e U ⟨rfl, ⟨u0, u1⟩, hs⟩
    unfold thrown
    dsimp only
    refine leaves_cons (f := 98) (args := #[.pointer (some ⟨w.heap.size, 0, none⟩)]) (by simp) (by simp [go_sem]) ?_
    refine (catch_thrown ⟨w.heap.size, 0, none⟩ 3 (.string ⟨#[]⟩) U (by constructor <;> decide) hs.out.1 hs.out.2.1 u0 u1).mono ?_
    rintro e u' w2 ⟨rfl, rfl, w3, hB3, rfl⟩
    have q0 : w3.cell? ⟨w.heap.size, 0, none⟩ = some (.string ⟨#[]⟩) := (hB3.cell (p := ⟨w.heap.size, 0, none⟩) hs.out.2.1).trans u0
    simp [Leaves, settle, results, Tryz.results61, go_sem, q0]
    exact (hs.out.2.2.trans (hB3.mono hs.out.2.2.size)).setCell (Nat.le_refl _) _
attribute [local go_sem] run_store_func run_store_nilFunc
set_option maxRecDepth 100000 in
set_option maxHeartbeats 4000000 in
theorem answer_cnt (d m : Nat) (line x : List UInt8) (r : List (List UInt8)) (w : World) (hl : line.length ≤ 1000000) (hd : DkAt w d m) (hw : wordsF line = x :: r) (a b : Int) (f : Nat) (hk : (ordTab d).lookup x = some (ordV d a b f)) (hab : (r.length : Int) < a ∨ b < (r.length : Int)) :
    Calls Tryz.prog 61 #[.pointer (some ⟨d, 0, none⟩), .string (txt line)] w fun e w' => e = .returned (.string (txt (errF 3))) ∧ Below w.heap.size w w' := by
  have hmf : ∀ (fn : Fn) (first cap : Array Value) (w : World), (Instr.makeFunc fn first cap).run Tryz.prog w = .ok (.func fn first cap) w := fun _ _ _ _ => rfl
  obtain ⟨W, hW⟩ : ∃ W, Hid (w.alloc (.cells #[.string ⟨#[]⟩] 9) = W) := ⟨_, hide rfl⟩
  have hB0 : Below w.heap.size w W := by rw [← hW.out]; exact (Below.refl _ _).alloc (Nat.le_refl _) _
  have hsz : W.heap.size = w.heap.size + 1 := by rw [← hW.out]; simp
  have hc0 : W.cell? ⟨w.heap.size, 0, none⟩ = some (.string ⟨#[]⟩) ∧ W.frozen? ⟨w.heap.size, 0, none⟩ = false := by rw [← hW.out]; constructor <;> simp
  have HF := hide (fields_any line W hl)
  rw [hw] at HF
  have HC : Hid (∀ w1, Below W.heap.size W w1 → (w1.cell? ⟨w.heap.size, 0, none⟩ = some (.string ⟨#[]⟩) ∧ w1.frozen? ⟨w.heap.size, 0, none⟩ = false)) := hide fun w1 h =>
    ⟨(h.cell (p := ⟨w.heap.size, 0, none⟩) (by show w.heap.size < _; omega)).trans hc0.1, (World.frozen?_of_block (h.block _ (by show w.heap.size < _; omega))).trans hc0.2⟩
  have HB := hide hB0
  have HS := hide hsz
  have HD := hide hd
  have HK := hide hk
  clear hB0 hsz hc0 hd hk
  go_enter_defers Tryz.func61, Tryz.ntmps61
  go_wp2_with fail
  rw [hW.out]
  refine HF.out.mono ?_
  rintro e w1 ⟨A, n, rfl, rfl, hA, hA2, hws, hB1⟩
  obtain ⟨g0, g1⟩ := HC.out w1 hB1
  have HBw := hide (HB.out.trans (hB1.mono HB.out.size))
  have c4 := (HD.out.below HBw.out).c4
  have cx : w1.cell? ⟨A, 0, none⟩ = some (.string (txt x)) := hws 0 x rfl
  have hbd : Below w.heap.size w w1.drew := HBw.out.drew
  have k1 := HD.out.look hbd x
  have hba : Below w1.heap.size w1 (w1.alloc (.cells #[.int .i64 0, .int .i64 0, .nilFunc] 178)) := (Below.refl _ _).alloc (Nat.le_refl _) _
  have k2 := HD.out.look (HBw.out.trans (hba.mono HBw.out.size)).drew x
  have c4' : (w1.alloc (.cells #[.int .i64 0, .int .i64 0, .nilFunc] 178)).cell? ⟨d, 4, none⟩ = some (.map (some m)) := (hba.cell (p := ⟨d, 4, none⟩) (HD.out.below HBw.out).lt).trans c4
  have cx' : (w1.alloc (.cells #[.int .i64 0, .int .i64 0, .nilFunc] 178)).cell? ⟨A, 0, none⟩ = some (.string (txt x)) := (hba.cell (p := ⟨A, 0, none⟩) hA2).trans cx
  rw [HK.out] at k1 k2
  simp only [Option.getD_some, Option.isSome_some, ordV] at k1 k2
  have hlen : (x :: r).length = r.length + 1 := rfl
  rw [hlen]
  clear hws hbd HF HC hba
  have hn0 : (0 : Int) < (r.length : Int) + 1 := by omega
  have hn1 : 0 < r.length + 1 := by omega
  have HE : Hid (∀ V, Below w1.heap.size w1 V → CallsD Tryz.prog 98 #[.pointer (some ⟨w.heap.size, 0, none⟩)] (.panicking [{ v := .iface 74 (.int .i64 3), recovered := false }]) V fun e u' w' =>
      e = .returned (.tuple #[]) ∧ u' = .panicking [{ v := .iface 74 (.int .i64 3), recovered := true }] ∧ w'.cell? ⟨w.heap.size, 0, none⟩ = some (.string (txt (errF 3))) ∧ Below w.heap.size w w') := hide fun V hV => by
    have hlt : w.heap.size < w1.heap.size := by have := HS.out; have := hB1.size; omega
    refine (catch_thrown ⟨w.heap.size, 0, none⟩ 3 (.string ⟨#[]⟩) V (by constructor <;> decide) ((HD.out.below HBw.out).num.below hV).pow (Nat.lt_of_lt_of_le hlt hV.size) ((hV.cell (p := ⟨w.heap.size, 0, none⟩) hlt).trans g0) ((World.frozen?_of_block (hV.block _ hlt)).trans g1)).mono ?_
    rintro e u' w' ⟨rfl, rfl, w2, hB2, rfl⟩
    have hc2 : w2.cell? ⟨w.heap.size, 0, none⟩ = some (.string ⟨#[]⟩) := (hB2.cell (p := ⟨w.heap.size, 0, none⟩) (Nat.lt_of_lt_of_le hlt hV.size)).trans ((hV.cell (p := ⟨w.heap.size, 0, none⟩) hlt).trans g0)
    exact ⟨rfl, rfl, World.cell?_setCell_same' _ _ _ (by rw [hc2]; rfl), (HBw.out.trans ((hV.trans (hB2.mono hV.size)).mono HBw.out.size)).setCell (Nat.le_refl _) _⟩
  have hrl : r.length ≤ 1000001 := by
    have h1 := words_few line
    rw [hw, hlen] at h1
    omega
  have hwr : wrap64 (r.length : Int) = (r.length : Int) := IntWalk.wrap64_in _ ⟨by omega, by omega⟩
  have hba2 : Below w1.heap.size w1 (w1.alloc (.cells #[.int .i64 a, .int .i64 b, .func (.func f) #[.pointer (some ⟨d, 0, none⟩)] #[]] 178)).drew := ((Below.refl _ _).alloc (Nat.le_refl _) _).drew
  have HE2 := hide (HE.out _ hba2)
  clear HE hba2 hrl
  by_cases hlt1 : (r.length : Int) < a
  · have ht1 : decide ((r.length : Int) < a) = true := decide_eq_true hlt1
    clear hab
    go_wp2
    go_region
    all_goals
      go_wp2
      refine leaves_cons (f := 98) (args := #[.pointer (some ⟨w.heap.size, 0, none⟩)]) (by simp) (by simp [go_sem]) ?_
      refine HE2.out.mono ?_
      rintro e u' w2 ⟨rfl, rfl, q0, q1⟩
      simp [Leaves, settle, results, Tryz.results61, go_sem, q0]
      exact q1
  · have hlt2 : b < (r.length : Int) := by omega
    have ht1 : decide ((r.length : Int) < a) = false := decide_eq_false hlt1
    have ht2 : decide (b < (r.length : Int)) = true := decide_eq_true hlt2
    clear hab
    go_wp2
    go_region
    all_goals
      go_wp2
      refine leaves_cons (f := 98) (args := #[.pointer (some ⟨w.heap.size, 0, none⟩)]) (by simp) (by simp [go_sem]) ?_
      refine HE2.out.mono ?_
      rintro e u' w2 ⟨rfl, rfl, q0, q1⟩
      simp [Leaves, settle, results, Tryz.results61, go_sem, q0]
      exact q1
end Go.Proofs.YtaablbmgagiajabGreatDoor
namespace Go.Proofs.YtaablbmgagiajabGreatDoor
open Go.RowKit Go.Deep
variable {N : Nat} {c : DkC} {D : SC} {X : DS} {T : Nat}
theorem both_in {a b : Int} (h1 : IntIn a) (h2 : IntIn b) : ∀ z ∈ [a, b], IntIn z := by
  intro z hz
  simp only [List.mem_cons, List.not_mem_nil, or_false] at hz
  rcases hz with rfl | rfl
  · exact h1
  · exact h2
set_option maxHeartbeats 1000000 in
theorem ok_begin (V : World) (m M : Nat) (a d s : Int) (zs : List Int) (h : DkP V N c D X) (hI : XIn T X) (hz : 0 < zs.length) (hzl : zs.length ≤ 1000000) (hsl : IsSl V (some ⟨M, 0, none⟩) (zs.length + 3) (zs.length + 3) (a :: d :: s :: zs)) (hm1 : m ≤ M) (hm2 : m ≤ V.heap.size) :
    Calls Tryz.prog 93 #[.pointer (some ⟨c.d, 0, none⟩), .slice (some ⟨M, 0, none⟩) (zs.length + 3) (zs.length + 3)] V fun e V' => ∃ X' t, begD a d s zs X X' t ∧ OkD m V V' c D T e X' t := by
  obtain ⟨hr, hMl⟩ := sl_row hsl
  have hr3 := row_tail hr
  by_cases hck : checkF s zs d = (0, -1)
  · obtain ⟨hL, e1, e2⟩ := lineOf_ok hck
    by_cases hw : a < 1 ∨ 20 < a
    · refine (begin_no V c.d M zs.length a d s zs hz hMl hr 2 (2, -1) (by decide) rfl fun W hB hlt => ?_).mono ?_
      · have := synew_win (lineOf s zs d) a M 3 zs.length W hL hw (Nat.lt_of_lt_of_le hMl hB.size) (hr3.below hMl hB)
        rw [e1, e2] at this
        refine this.mono ?_
        rintro e w' ⟨rfl, hB'⟩
        exact ⟨⟨_, _, 0, rfl, err2 w' 0⟩, ((h.below hB).below hB').err, hB'⟩
      · rintro e V' ⟨rfl, hB⟩
        exact ⟨X, errF 2, .inr ⟨hck, .inl ⟨hw, rfl, rfl⟩⟩, hI.later (by omega), err2_len, (h.stays hB).q hm2, .inr ⟨2, rfl, in2, rfl⟩⟩
    · have ea : ((a.toNat : Nat) : Int) = a := by omega
      have hdw := h.dk.blk
      have hdl : c.d < V.heap.size := h.lt (.inl rfl)
      refine (begin_yes V c.d M zs.length a d s zs hz hMl hr (fun p W => ∃ E : SC, E.p = p ∧ SyIs W V.heap.size E (lineOf s zs d) a.toNat (sy0 a.toNat) ∧ E.us = [] ∧ E.lost = 0 ∧ Below V.heap.size V W) (.int .i64 (X.L.s : Int)) (.slice (some ⟨c.g, c.o, none⟩) X.L.n c.cp) (.int .i64 (X.L.d : Int)) (.pointer (some ⟨D.p, 0, none⟩)) fun W hB hlt => ?_).mono ?_
      · have := synewC V.heap.size (lineOf s zs d) a.toNat M 3 zs.length W hL (by omega) (by omega) (Nat.lt_of_lt_of_le hMl hB.size) (hr3.below hMl hB) hB.size
        rw [e1, e2, ea] at this
        refine this.mono ?_
        rintro e w' ⟨⟨E, rfl, _, hS, hu, hlo⟩, hB'⟩
        have hBw := hB.trans (hB'.mono hB.size)
        have hb1 := (hBw.block _ hdl).trans hdw
        exact ⟨E.p, rfl, ⟨E, rfl, hS, hu, hlo, hBw⟩, ⟨(blk_cell hb1 0).trans rfl, (blk_cell hb1 1).trans rfl, (blk_cell hb1 2).trans rfl, (blk_cell hb1 3).trans rfl⟩, ⟨blk_free hb1 0, blk_free hb1 1, blk_free hb1 2, blk_free hb1 3⟩, hB'⟩
      · rintro e V' ⟨rfl, p, W, hQ, rfl⟩
        have hput := begin_put h hMl hm1 hm2 hL hr3 hQ
        rw [e1, e2] at hput
        exact ⟨_, _, .inr ⟨hck, .inr ⟨hw, rfl, rfl⟩⟩, XIn.of (SInv.new (T := T + 600) (by omega) (by omega)) hL (Nat.le_refl _), by decide, hput, .inl rfl⟩
  · have hc9 := check_code s zs d
    have hin : IntIn (((checkF s zs d).1 : Nat) : Int) := in_small (by omega)
    have hf : (checkF s zs d).1 ≠ 0 := fun e => hck (by
      have : checkF s zs d = (0, -1) ∨ (checkF s zs d).1 ≠ 0 := by
        unfold checkF
        split
        · split
          · exact .inr (by show (1 : Nat) ≠ 0; omega)
          · split
            · exact .inr (by show (9 : Nat) ≠ 0; omega)
            · exact .inl rfl
        · exact .inr (by show (2 : Nat) ≠ 0; omega)
      rcases this with x | x
      · exact x
      · exact absurd e x)
    refine (begin_no V c.d M zs.length a d s zs hz hMl hr (((checkF s zs d).1 : Nat) : Int) (checkF s zs d) hf rfl fun W hB hlt => ?_).mono ?_
    · refine (synew_lay s d a M 3 zs.length zs.length zs W rfl hz hzl (Nat.lt_of_lt_of_le hMl hB.size) (hr3.below hMl hB) hck).mono ?_
      rintro e w' ⟨⟨t, x, lo, rfl, he⟩, hB'⟩
      exact ⟨⟨t, x, lo, rfl, he⟩, ((h.below hB).below hB').err, hB'⟩
    · rintro e V' ⟨rfl, hB⟩
      exact ⟨X, _, .inl ⟨hck, rfl, rfl⟩, hI.later (by omega), errc_len hin, (h.stays hB).q hm2, .inr ⟨_, rfl, hin, rfl⟩⟩
set_option maxHeartbeats 1000000 in
theorem ord_ok (o : Nat) (a b : Int) (hab : ∃ x, (x, (a, b, o)) ∈ ordN) (l : List Int) (hla : a ≤ (l.length : Int)) (hlb : (l.length : Int) ≤ b) (hll : l.length ≤ 1000000) (V : World) (m M : Nat) (h : DkP V N c D X) (hI : XIn T X) (hT : T < 1000000) (hM : ¬ Wr D M) (hm1 : m ≤ M) (hm2 : m ≤ V.heap.size)
    (hsl : IsSl V (some ⟨M, 0, none⟩) l.length l.length l) :
    Calls Tryz.prog (ordFn o) #[.pointer (some ⟨c.d, 0, none⟩), .slice (some ⟨M, 0, none⟩) l.length l.length] V fun e V' => ∃ X' s, OrdD o l X X' s ∧ OkD m V V' c D T e X' s := by
  obtain ⟨x, hx⟩ := hab
  have one : (l.length : Int) = 1 → ∃ z, l = [z] := fun e => by
    match l, e with
    | [z], _ => exact ⟨z, rfl⟩
  have nil : (l.length : Int) = 0 → l = [] := fun e => List.length_eq_zero_iff.1 (by omega)
  simp only [ordN, List.mem_cons, Prod.mk.injEq, List.not_mem_nil, or_false] at hx
  rcases hx with ⟨_, ea, eb, rfl⟩ | ⟨_, ea, eb, rfl⟩ | ⟨_, ea, eb, rfl⟩ | ⟨_, ea, eb, rfl⟩ | ⟨_, ea, eb, rfl⟩ | ⟨_, ea, eb, rfl⟩ | ⟨_, ea, eb, rfl⟩ | ⟨_, ea, eb, rfl⟩ | ⟨_, ea, eb, rfl⟩ | ⟨_, ea, eb, rfl⟩ | ⟨_, ea, eb, rfl⟩ | ⟨_, ea, eb, rfl⟩ | ⟨_, ea, eb, rfl⟩ | ⟨_, ea, eb, rfl⟩ | ⟨_, ea, eb, rfl⟩ | ⟨_, ea, eb, rfl⟩ | ⟨_, ea, eb, rfl⟩
  · obtain ⟨z, rfl⟩ := one (by omega)
    refine (ask_P V M 1 1 z (askO z X) h (by omega) (sl_cell hsl rfl) hM (does_ask z hI)).mono fun e V' hh => ?_
    obtain ⟨X', s, h1, h2⟩ := one_ok hh hI (fun X' e => hI.ask e) (by decide) hm2
    exact ⟨X', s, h1, h2⟩
  · match l, hla, hll, hsl with
    | [], hla, _, _ => simp at hla; omega
    | [_], hla, _, _ => simp at hla; omega
    | [_, _], hla, _, _ => simp at hla; omega
    | [_, _, _], hla, _, _ => simp at hla; omega
    | a1 :: d1 :: s1 :: z1 :: zs, _, hll, hsl => exact ok_begin V m M a1 d1 s1 (z1 :: zs) h hI (by simp) (by simp at hll ⊢; omega) hsl hm1 hm2
  · obtain ⟨z, rfl⟩ := one (by omega)
    by_cases hz : z < 0 ∨ 100 < z
    · refine (calm_no V c.d M 1 1 z (by omega) (sl_cell hsl rfl) hz).mono ?_
      rintro e V' ⟨rfl, rfl⟩
      exact ⟨X, errF 2, .inl ⟨hz, rfl, rfl⟩, hI.later (by omega), err2_len, (h.stays (Below.refl _ _)).q hm2, .inr ⟨2, rfl, in2, rfl⟩⟩
    · have ez : ((z.toNat : Nat) : Int) = z := by omega
      have hcell := sl_cell hsl (i := 0) rfl
      rw [← ez] at hcell
      refine (calm_P V M 1 1 z.toNat h (by omega) hcell hM (by omega) hI.cl (by omega)).mono ?_
      rintro e V' ⟨rfl, S', c', h1, h2, hA⟩
      exact ⟨_, _, .inr ⟨hz, S', c', h1, rfl, rfl⟩, XIn.of h2.inv hI.lok (by omega), by decide, hA.q hm2, .inl rfl⟩
  · obtain rfl := nil (by omega)
    refine (conflicts_ord V _ h.dk h.lok (conf_in h.lok)).mono ?_
    rintro e V' ⟨he, hB⟩
    exact ⟨X, _, ⟨rfl, rfl⟩, tells_ok h hI he hB (sp_len _ (conf_in h.lok) (by unfold confL; have := h.lok.few; simp; omega)) hm2⟩
  · obtain ⟨z, rfl⟩ := one (by omega)
    refine (crash_P V M 1 1 z (crashO z X) h (by omega) (sl_cell hsl rfl) hM (does_crash z)).mono fun e V' hh => ?_
    obtain ⟨X', s, h1, h2⟩ := one_ok hh hI (fun X' e => hI.crash e) (by decide) hm2
    exact ⟨X', s, h1, h2⟩
  · obtain ⟨z, rfl⟩ := one (by omega)
    refine (deliver_P V M 1 1 z (deliverO z X) h (by omega) (sl_cell hsl rfl) hM (does_deliver z hI (by omega))).mono fun e V' hh => ?_
    obtain ⟨X', s, h1, h2⟩ := one_ok hh hI (fun X' e => hI.deliver e) (by decide) hm2
    exact ⟨X', s, h1, h2⟩
  · obtain rfl := nil (by omega)
    refine (help_P V _ _).mono ?_
    rintro e V' ⟨he, rfl⟩
    exact ⟨X, _, ⟨rfl, rfl⟩, tells_ok h hI he (Below.refl _ _) (by decide) hm2⟩
  · obtain rfl := nil (by omega)
    refine (latch_P V _ h).mono ?_
    rintro e V' ⟨he, hA⟩
    exact ⟨_, _, ⟨rfl, rfl⟩, XIn.of hI.cl.inv.latch hI.lok (by omega), by decide, hA.q hm2, .inl he⟩
  · obtain ⟨z, rfl⟩ := one (by omega)
    refine (lose_P V M 1 1 z (loseO z X) h (by omega) (sl_cell hsl rfl) hM (does_lose z hI)).mono fun e V' hh => ?_
    obtain ⟨X', s, h1, h2⟩ := one_ok hh hI (fun X' e => hI.lose e) (by decide) hm2
    exact ⟨X', s, h1, h2⟩
  · obtain rfl := nil (by omega)
    have hmn := hI.cl.inv.many
    refine (many_P V _ h (by omega)).mono ?_
    rintro e V' ⟨he, hB⟩
    refine ⟨X, _, ⟨rfl, rfl⟩, tells_ok h hI he hB (sp_len _ ?_ (by unfold manyL; simp)) hm2⟩
    unfold manyL
    exact both_in (in_small (by omega)) (wrap64_is _)
  · obtain rfl := nil (by omega)
    have hmo := most_few X.L.zs (by have := h.lok.few; rw [h.lok.len]; omega)
    have hf := h.lok.few
    have hin : IntIn ((most (confs X.L.zs) : Nat) : Int) := in_small (by rw [h.lok.len] at hmo; omega)
    refine (most_ord V _ h.dk h.lok hin).mono ?_
    rintro e V' ⟨he, hB⟩
    exact ⟨X, _, ⟨rfl, rfl⟩, tells_ok h hI he hB (sp_len _ (by intro z hz; rw [List.mem_singleton.1 hz]; exact hin) (by simp)) hm2⟩
  · obtain ⟨z, rfl⟩ := one (by omega)
    by_cases hz : isRep z = true
    · obtain ⟨hk, ez⟩ := rep_nat hz
      obtain ⟨i1, i2⟩ := hI.repl (by omega) hk
      refine (replica_ok V M 1 1 z _ _ i1 i2 h (by omega) (sl_cell hsl rfl) fun W hW => ?_).mono ?_
      · have := sreplica_any N D X.L X.win X.S W z.toNat hk hW.dk.sys
        rw [ez] at this
        exact this
      · rintro e V' ⟨he, hB⟩
        refine ⟨X, replF z X, ⟨rfl, rfl⟩, ?_⟩
        have er : replF z X = spF [(X.S.rp z.toNat).cycle, ((X.S.rp z.toNat).st.set : Int)] := if_pos hz
        rw [er]
        exact tells_ok h hI he hB (sp_len _ (both_in i1 i2) (by simp)) hm2
    · refine (replica_no V M 1 1 z 0 st0 h (by omega) (sl_cell hsl rfl) fun W hW => sreplica_bad D.p z W (by simpa using hz)).mono ?_
      rintro e V' ⟨rfl, hA⟩
      exact ⟨X, replF z X, ⟨rfl, rfl⟩, hI.later (by omega), by rw [show replF z X = errF 2 from if_neg hz]; exact err2_len, hA.q hm2, .inr ⟨2, if_neg hz, in2, rfl⟩⟩
  · have h3 : l.length = 3 := by omega
    match l, h3, hsl with
    | [z, x, y], _, hsl =>
      refine (see_P V M 3 3 z x y (seeO z x y X) h (by omega) (sl_cell hsl rfl) (sl_cell hsl (i := 1) rfl) (sl_cell hsl (i := 2) rfl) hM (does_see z x y)).mono fun e V' hh => ?_
      obtain ⟨X', s, h1, h2⟩ := one_ok hh hI (fun X' e => hI.see e) (by decide) hm2
      exact ⟨X', s, h1, h2⟩
  · obtain rfl := nil (by omega)
    have hou := hI.cl.inv.vok.out
    have i2 : IntIn (X.S.v.out : Int) := in_small (by omega)
    refine (show_ord V _ h.dk hI.cl.inv.vok hI.shown i2).mono ?_
    rintro e V' ⟨he, hB⟩
    refine ⟨X, _, ⟨rfl, rfl⟩, tells_ok h hI he hB ?_ hm2⟩
    have h1 := join_few [shownF X.S.v, (X.S.v.out : Int)] (both_in hI.shown i2)
    unfold showF
    have hb : (Lib.formatBool X.S.v.lat).length ≤ 5 := by cases X.S.v.lat <;> decide
    simp at h1 ⊢
    omega
  · obtain ⟨z, rfl⟩ := one (by omega)
    refine (tick_P V M 1 1 z (tickO z X) h (by omega) (sl_cell hsl rfl) hM (does_tick z hI (by omega))).mono fun e V' hh => ?_
    obtain ⟨X', s, h1, h2⟩ := one_ok hh hI (fun X' e => hI.tick e) (by decide) hm2
    exact ⟨X', s, h1, h2⟩
  · obtain rfl := nil (by omega)
    have hf := hI.cl.inv.vok.few
    refine (trace_ord V _ h.dk hI.cl.inv.vok (by omega) fun d hd => (hI.cms d hd).1).mono ?_
    rintro e V' ⟨he, hB⟩
    exact ⟨X, _, ⟨rfl, rfl⟩, tells_ok h hI he hB hI.trace_len hm2⟩
  · obtain ⟨z, rfl⟩ := one (by omega)
    refine (twice_P V M 1 1 z (twiceO z X) h (by omega) (sl_cell hsl rfl) hM (does_twice z hI)).mono fun e V' hh => ?_
    obtain ⟨X', s, h1, h2⟩ := one_ok hh hI (fun X' e => hI.twice e) (by decide) hm2
    exact ⟨X', s, h1, h2⟩
variable {N : Nat} {c : DkC} {D : SC} {X : DS} {T : Nat}
theorem say_len {r : List (List UInt8)} {l : List Int} (h : sayF r = some l) : l.length = r.length := by
  unfold sayF at h
  split at h
  · cases h; simp
  · cases h
theorem ord_enters {a b : Int} {o : Nat} (h : ∃ x, (x, (a, b, o)) ∈ ordN) : ∀ args w, (callFunc (ordFn o) args).run Tryz.prog w = .ok (.enter (ordFn o) args) w := by
  obtain ⟨x, hx⟩ := h
  simp only [ordN, List.mem_cons, Prod.mk.injEq, List.not_mem_nil, or_false] at hx
  rcases hx with ⟨_, _, _, rfl⟩ | ⟨_, _, _, rfl⟩ | ⟨_, _, _, rfl⟩ | ⟨_, _, _, rfl⟩ | ⟨_, _, _, rfl⟩ | ⟨_, _, _, rfl⟩ | ⟨_, _, _, rfl⟩ | ⟨_, _, _, rfl⟩ | ⟨_, _, _, rfl⟩ | ⟨_, _, _, rfl⟩ | ⟨_, _, _, rfl⟩ | ⟨_, _, _, rfl⟩ | ⟨_, _, _, rfl⟩ | ⟨_, _, _, rfl⟩ | ⟨_, _, _, rfl⟩ | ⟨_, _, _, rfl⟩ | ⟨_, _, _, rfl⟩
  · exact enters_of Tryz.func143 (by kernel_rfl) rfl
  · exact enters_of Tryz.func93 (by kernel_rfl) rfl
  · exact enters_of Tryz.func144 (by kernel_rfl) rfl
  · exact enters_of Tryz.func145 (by kernel_rfl) rfl
  · exact enters_of Tryz.func146 (by kernel_rfl) rfl
  · exact enters_of Tryz.func147 (by kernel_rfl) rfl
  · exact enters_of Tryz.func148 (by kernel_rfl) rfl
  · exact enters_of Tryz.func149 (by kernel_rfl) rfl
  · exact enters_of Tryz.func150 (by kernel_rfl) rfl
  · exact enters_of Tryz.func151 (by kernel_rfl) rfl
  · exact enters_of Tryz.func152 (by kernel_rfl) rfl
  · exact enters_of Tryz.func153 (by kernel_rfl) rfl
  · exact enters_of Tryz.func154 (by kernel_rfl) rfl
  · exact enters_of Tryz.func155 (by kernel_rfl) rfl
  · exact enters_of Tryz.func156 (by kernel_rfl) rfl
  · exact enters_of Tryz.func157 (by kernel_rfl) rfl
  · exact enters_of Tryz.func158 (by kernel_rfl) rfl
theorem err3_len : (errF 3).length ≤ 30000 := by decide +kernel
theorem ans_back {w V w' : World} {X' : DS} (h : DkP w N c D X) (hQ : ∃ N' c' D', c'.d = c.d ∧ c'.m = c.m ∧ DkP V N' c' D' X' ∧ Mod w V (fun k => Wr D k ∨ k = c.d) ∧ ∀ k, Occ c' D' k → Occ c D k ∨ w.heap.size + 1 ≤ k) (hm : Mod V w' (fun k => k = w.heap.size)) : AnsP w w' c D X' := by
  obtain ⟨N', c', D', e1, e2, h1, h2, h3⟩ := hQ
  refine ⟨N', c', D', e1, e2, h1.others hm (fun k hk e => ?_) (fun k e => ?_), h2.then hm (fun k hk e => by omega), fun k hk => (h3 k hk).imp id fun x => by omega⟩
  · rcases h3 k hk with x | x
    · have := h.lt x; omega
    · omega
  · rw [e]; exact Nat.le_trans h.dk.low h.dk.le
set_option maxHeartbeats 1000000 in
theorem answer_all (line : List UInt8) (hl : line.length ≤ 1000000) (w : World) (h : DkP w N c D X) (hI : XIn T X) (hT : T < 1000000) :
    Calls Tryz.prog 61 #[.pointer (some ⟨c.d, 0, none⟩), .string (txt line)] w fun e w' => ∃ s X', e = .returned (.string (txt s)) ∧ StepD X line X' s ∧ XIn (T + 600) X' ∧ s.length ≤ 30000 ∧ AnsP w w' c D X' := by
  cases hw : wordsF line with
  | nil =>
    refine (answer_none c.d line w hl hw).mono ?_
    rintro e w' ⟨rfl, hB⟩
    exact ⟨_, X, rfl, by unfold StepD; rw [hw]; exact ⟨rfl, rfl⟩, hI.later (by omega), by decide, h.stays hB⟩
  | cons x r =>
    have hlook := ord_look c.d x
    cases hk : ordN.lookup x with
    | none =>
      rw [hk] at hlook
      refine (answer_no c.d c.m line x r w hl h.dk.atW hw hlook).mono ?_
      rintro e w' ⟨rfl, hB⟩
      exact ⟨_, X, rfl, by unfold StepD; rw [hw]; dsimp only; rw [hk]; exact ⟨rfl, rfl⟩, hI.later (by omega), err3_len, h.stays hB⟩
    | some p =>
      obtain ⟨a, b, o⟩ := p
      rw [hk] at hlook
      have hlook' : (ordTab c.d).lookup x = some (ordV c.d a b (ordFn o)) := hlook
      have hst : ∀ X' s, (if (r.length : Int) < a ∨ b < (r.length : Int) then X' = X ∧ s = errF 3 else match sayF r with | none => X' = X ∧ s = errF 3 | some l => OrdD o l X X' s) → StepD X line X' s := fun X' s hh => by
        unfold StepD; rw [hw]; dsimp only; rw [hk]; exact hh
      by_cases hc : (r.length : Int) < a ∨ b < (r.length : Int)
      · refine (answer_cnt c.d c.m line x r w hl h.dk.atW hw a b (ordFn o) hlook' hc).mono ?_
        rintro e w' ⟨rfl, hB⟩
        exact ⟨_, X, rfl, hst _ _ (by rw [if_pos hc]; exact ⟨rfl, rfl⟩), hI.later (by omega), err3_len, h.stays hB⟩
      · have hef : ∀ args w, (callFunc (ordFn o) args).run Tryz.prog w = .ok (.enter (ordFn o) args) w := ord_enters (ord_in hk)
        cases hs : sayF r with
        | none =>
          refine (answer_nan c.d c.m line x r w hl h.dk.atW hw a b (ordFn o) hlook' (by omega) (by omega) hs).mono ?_
          rintro e w' ⟨rfl, hB⟩
          exact ⟨_, X, rfl, hst _ _ (by rw [if_neg hc, hs]; exact ⟨rfl, rfl⟩), hI.later (by omega), err3_len, h.stays hB⟩
        | some l =>
          have hrl : l.length = r.length := say_len hs
          have hfew : r.length ≤ 1000000 := by
            have h1 := words_few line
            rw [hw] at h1
            simp at h1
            omega
          refine (answer_doM c.d c.m line x r w hl h.dk.atW hw a b (ordFn o) l hlook' (by omega) (by omega) hs hef (fun s V' => ∃ X', OrdD o l X X' s ∧ XIn (T + 600) X' ∧ s.length ≤ 30000 ∧ ∃ N' c' D', c'.d = c.d ∧ c'.m = c.m ∧ DkP V' N' c' D' X' ∧ Mod w V' (fun k => Wr D k ∨ k = c.d) ∧ ∀ k, Occ c' D' k → Occ c D k ∨ w.heap.size + 1 ≤ k) fun V M hB hlt hMl hsl hin => ?_).mono ?_
          · rw [← hrl] at hsl ⊢
            refine (ord_ok o a b (ord_in hk) l (by omega) (by omega) (by omega) V (w.heap.size + 1) M (h.below hB) hI hT (fun hw' => by have := h.lt (k := M) (.inr (.inr (.inr (.inl hw')))); omega) (by omega) (by omega) hsl).mono ?_
            rintro e V' ⟨X', s, hO, hX, hsl', ⟨N', c', D', e1, e2, h1, h2, h3⟩, he⟩
            refine ⟨h2.mono fun k _ hk' => ?_, s, ⟨X', hO, hX, hsl', N', c', D', e1, e2, h1, (Mod.ofBelow hB _).then h2 (fun _ _ x => x), h3⟩, ?_⟩
            · rcases hk' with x | x
              · exact h.lt (.inr (.inr (.inr (.inl x))))
              · exact h.lt (.inl x)
            · rcases he with he | ⟨z, z1, z2, z3⟩
              · exact .inl he
              · exact .inr ⟨z, z1, z2, h1.dk.num.pow, z3⟩
          · rintro e w' ⟨s, V', ⟨X', hO, hX, hsl', hQ⟩, rfl, hm⟩
            exact ⟨s, X', rfl, hst _ _ (by rw [if_neg hc, hs]; exact hO), hX, hsl', ans_back h hQ hm⟩
theorem begin_setC {V w2 : World} {d m b p : Nat} (h : ∃ D, D.lost = 0 ∧ D.p = p ∧ SyIs w2 V.heap.size D L0 10 (sy0 10) ∧ Below V.heap.size V w2 ∧ w2.heap[d]? = some (.cells #[.int .i64 0, .slice none 0 0, .int .i64 0, .pointer none, .map (some m)] 167 (0, 0)) ∧ d < V.heap.size) :
    ∃ D, D.lost = 0 ∧ SyIs ((((w2.setCell ⟨d, 0, none⟩ (.int .i64 4)).setCell ⟨d, 1, none⟩ (.slice (some ⟨b, 3, none⟩) 3 3)).setCell ⟨d, 2, none⟩ (.int .i64 2)).setCell ⟨d, 3, none⟩ (.pointer (some ⟨p, 0, none⟩))) V.heap.size D L0 10 (sy0 10) ∧
      ((((w2.setCell ⟨d, 0, none⟩ (.int .i64 4)).setCell ⟨d, 1, none⟩ (.slice (some ⟨b, 3, none⟩) 3 3)).setCell ⟨d, 2, none⟩ (.int .i64 2)).setCell ⟨d, 3, none⟩ (.pointer (some ⟨p, 0, none⟩))).heap[d]? = some (.cells #[.int .i64 4, .slice (some ⟨b, 3, none⟩) 3 3, .int .i64 2, .pointer (some ⟨D.p, 0, none⟩), .map (some m)] 167 (0, 0)) ∧
      Mod V ((((w2.setCell ⟨d, 0, none⟩ (.int .i64 4)).setCell ⟨d, 1, none⟩ (.slice (some ⟨b, 3, none⟩) 3 3)).setCell ⟨d, 2, none⟩ (.int .i64 2)).setCell ⟨d, 3, none⟩ (.pointer (some ⟨p, 0, none⟩))) (· = d) := by
  obtain ⟨D, hl0, hp, hS, hB, hdw, hdl⟩ := h
  have b1 := blk_set hdw 0 (.int .i64 4)
  have m1 : Mod w2 (w2.setCell ⟨d, 0, none⟩ (.int .i64 4)) (· = d) := (Mod.refl w2 _).set ⟨d, 0, none⟩ _ (fun _ => rfl)
  generalize w2.setCell ⟨d, 0, none⟩ (.int .i64 4) = x1 at b1 m1 ⊢
  have b2 := blk_set b1 1 (.slice (some ⟨b, 3, none⟩) 3 3)
  have m2 : Mod w2 (x1.setCell ⟨d, 1, none⟩ (.slice (some ⟨b, 3, none⟩) 3 3)) (· = d) := m1.set ⟨d, 1, none⟩ _ (fun _ => rfl)
  generalize x1.setCell ⟨d, 1, none⟩ (.slice (some ⟨b, 3, none⟩) 3 3) = x2 at b2 m2 ⊢
  have b3 := blk_set b2 2 (.int .i64 2)
  have m3 : Mod w2 (x2.setCell ⟨d, 2, none⟩ (.int .i64 2)) (· = d) := m2.set ⟨d, 2, none⟩ _ (fun _ => rfl)
  generalize x2.setCell ⟨d, 2, none⟩ (.int .i64 2) = x3 at b3 m3 ⊢
  have b4 := blk_set b3 3 (.pointer (some ⟨p, 0, none⟩))
  have m4 : Mod w2 (x3.setCell ⟨d, 3, none⟩ (.pointer (some ⟨p, 0, none⟩))) (· = d) := m3.set ⟨d, 3, none⟩ _ (fun _ => rfl)
  generalize x3.setCell ⟨d, 3, none⟩ (.pointer (some ⟨p, 0, none⟩)) = x4 at b4 m4 ⊢
  refine ⟨D, hl0, hS.others m4 ?_ (fun i hi => absurd hi (Nat.not_lt_zero i)), by rw [hp]; exact b4, (Mod.ofBelow hB _).then m4 (fun _ _ e => e)⟩
  rintro k (hk | hk) e
  · have := hS.base k hk; omega
  · have := hS.sbase k hk; omega
set_option maxHeartbeats 4000000 in
set_option maxRecDepth 100000 in
theorem begin0C (V : World) (d m b : Nat) (hd : V.heap[d]? = some (.cells #[.int .i64 0, .slice none 0 0, .int .i64 0, .pointer none, .map (some m)] 167 (0, 0))) (hb : b < V.heap.size) (hr : Row V b 0 [10, 2, 4, 3, 12, 6]) :
    Calls Tryz.prog 93 #[.pointer (some ⟨d, 0, none⟩), .slice (some ⟨b, 0, none⟩) 6 6] V fun e V' => e = .returned (.string (txt [98, 101, 103, 105, 110])) ∧ ∃ D, D.lost = 0 ∧ SyIs V' V.heap.size D L0 10 (sy0 10) ∧
      V'.heap[d]? = some (.cells #[.int .i64 4, .slice (some ⟨b, 3, none⟩) 3 3, .int .i64 2, .pointer (some ⟨D.p, 0, none⟩), .map (some m)] 167 (0, 0)) ∧ Mod V V' (· = d) := by
  have hdl : d < V.heap.size := blk_lt hd
  have r0 : V.cell? ⟨b, 0, none⟩ = some (.int .i64 10) := hr 0 (by simp)
  have r1 : V.cell? ⟨b, 1, none⟩ = some (.int .i64 2) := hr 1 (by simp)
  have r2 : V.cell? ⟨b, 2, none⟩ = some (.int .i64 4) := hr 2 (by simp)
  obtain ⟨V1, hV1⟩ : ∃ V1, Hid ((V.alloc (.cells #[.int .i64 4, .slice (some ⟨b, 3, none⟩) 3 3, .int .i64 2] 42)).drew = V1) := ⟨_, hide rfl⟩
  have hB1 : Below V.heap.size V V1 := by rw [← hV1.out]; exact ((Below.refl _ _).alloc (Nat.le_refl _) _).drew
  have hbx : V1.heap[V.heap.size]? = some (.cells #[.int .i64 4, .slice (some ⟨b, 3, none⟩) 3 3, .int .i64 2] 42 (0, 0)) := by rw [← hV1.out]; exact World.alloc_heap_new V _
  have x0 : V1.cell? ⟨V.heap.size, 0, none⟩ = some (.int .i64 4) ∧ V1.cell? ⟨V.heap.size, 1, none⟩ = some (.slice (some ⟨b, 3, none⟩) 3 3) ∧ V1.cell? ⟨V.heap.size, 2, none⟩ = some (.int .i64 2) := by refine ⟨?_, ?_, ?_⟩ <;> simp [World.cell?, hbx]
  obtain ⟨y0, y1, y2⟩ := x0
  have r0' : V1.cell? ⟨b, 0, none⟩ = some (.int .i64 10) := (hB1.cell (p := ⟨b, 0, none⟩) hb).trans r0
  have HN : Hid (Calls Tryz.prog 24 #[.agg #[.int .i64 4, .slice (some ⟨b, 3, none⟩) 3 3, .int .i64 2], .int .i64 10] V1.drew fun e w' => ∃ p, e = .returned (.tuple #[.pointer (some ⟨p, 0, none⟩), .nilIface]) ∧
      ((w'.cell? ⟨V.heap.size, 0, none⟩ = some (.int .i64 4) ∧ w'.cell? ⟨V.heap.size, 1, none⟩ = some (.slice (some ⟨b, 3, none⟩) 3 3) ∧ w'.cell? ⟨V.heap.size, 2, none⟩ = some (.int .i64 2)) ∧
       (w'.cell? ⟨d, 0, none⟩ = some (.int .i64 0) ∧ w'.cell? ⟨d, 1, none⟩ = some (.slice none 0 0) ∧ w'.cell? ⟨d, 2, none⟩ = some (.int .i64 0) ∧ w'.cell? ⟨d, 3, none⟩ = some (.pointer none)) ∧
       (w'.frozen? ⟨d, 0, none⟩ = false ∧ w'.frozen? ⟨d, 1, none⟩ = false ∧ w'.frozen? ⟨d, 2, none⟩ = false ∧ w'.frozen? ⟨d, 3, none⟩ = false)) ∧
      Hid (∃ D, D.lost = 0 ∧ D.p = p ∧ SyIs w' V.heap.size D L0 10 (sy0 10) ∧ Below V.heap.size V w' ∧ w'.heap[d]? = some (.cells #[.int .i64 0, .slice none 0 0, .int .i64 0, .pointer none, .map (some m)] 167 (0, 0)) ∧ d < V.heap.size)) := hide (by
    have hrow : Row V1.drew b 3 L0.zs := fun k hk => by
      have hk3 : k < 3 := hk
      have h1 := hr (k + 3) (by simp; omega)
      rw [Nat.zero_add, Nat.add_comm] at h1
      refine ((hB1.drew.cell (p := ⟨b, 3 + k, none⟩) hb).trans h1).trans ?_
      rw [Nat.add_comm]
      rfl
    refine (synewC V.heap.size L0 10 b 3 3 V1.drew L0_ok (by omega) (by omega) (Nat.lt_of_lt_of_le hb hB1.drew.size) hrow hB1.drew.size).mono ?_
    rintro e w' ⟨⟨D, rfl, _, hS, _, hl0⟩, hB⟩
    have hBv : Below V1.heap.size V1 w' := (Below.refl _ _).drew.trans hB
    have hBw : Below V.heap.size V w' := hB1.trans (hBv.mono hB1.size)
    have hvl : V.heap.size < V1.heap.size := blk_lt hbx
    have hdw : w'.heap[d]? = some (.cells #[.int .i64 0, .slice none 0 0, .int .i64 0, .pointer none, .map (some m)] 167 (0, 0)) := (hBw.block d hdl).trans hd
    refine ⟨D.p, rfl, ⟨⟨(hBv.cell (p := ⟨V.heap.size, 0, none⟩) hvl).trans y0, (hBv.cell (p := ⟨V.heap.size, 1, none⟩) hvl).trans y1, (hBv.cell (p := ⟨V.heap.size, 2, none⟩) hvl).trans y2⟩, ?_, ?_⟩, hide ⟨D, hl0, rfl, hS, hBw, hdw, hdl⟩⟩
    · refine ⟨?_, ?_, ?_, ?_⟩ <;> simp [World.cell?, hdw]
    · refine ⟨?_, ?_, ?_, ?_⟩ <;> simp [World.frozen?, hdw])
  clear hr hd hB1 hbx
  go_enter Tryz.func93, Tryz.ntmps93
  go_wp2
  go_region
  all_goals
    go_wp2
    rw [hV1.out]
    go_region_with (go_at_call 24; refine HN.out.mono ?_; rintro e w1 ⟨p, rfl, ⟨⟨z0, z1, z2⟩, ⟨d0, d1, d2, d3⟩, f0, f1, f2, f3⟩, hg⟩)
  all_goals
    go_wp2_with fail
    refine (throw_nil _).mono ?_
    rintro e w2 ⟨rfl, rfl⟩
    go_wp2
    go_ret
    exact ⟨rfl, begin_setC hg.out⟩
set_option maxHeartbeats 4000000 in
set_option maxRecDepth 100000 in
theorem newDeskC (w : World) (hn : HasNum w) (h7 : 7 ≤ w.heap.size) :
    Calls Tryz.prog 58 #[] w fun e w' => ∃ N c D, w.heap.size ≤ c.d ∧ e = .returned (.pointer (some ⟨c.d, 0, none⟩)) ∧ DkIs w' N c D L0 10 (sy0 10) ∧ Below w.heap.size w w' ∧ D.lost = 0 ∧ w.heap.size ≤ c.m ∧ w.heap.size ≤ c.g ∧ w.heap.size ≤ N := by
  obtain ⟨V, hV⟩ : ∃ V, Hid (w.alloc (.cells #[.int .i64 0, .slice none 0 0, .int .i64 0, .pointer none, .map none] 167) = V) := ⟨_, hide rfl⟩
  have hB0 : Below w.heap.size w V := by rw [← hV.out]; exact (Below.refl _ _).alloc (Nat.le_refl _) _
  have hb0 : V.heap[w.heap.size]? = some (.cells #[.int .i64 0, .slice none 0 0, .int .i64 0, .pointer none, .map none] 167 (0, 0)) := by rw [← hV.out]; exact blk_new _ _
  have hdl := blk_lt hb0
  obtain ⟨d, hd⟩ : ∃ d, Hid (w.heap.size = d) := ⟨_, hide rfl⟩
  have HA : Hid (Calls Tryz.prog 92 #[.pointer (some ⟨d, 0, none⟩)] V fun e w' => ∃ m, e = .returned (.map (some m)) ∧ (w'.cell? ⟨d, 4, none⟩ = some (.map none) ∧ w'.frozen? ⟨d, 4, none⟩ = false) ∧
      Hid (∃ W, w'.setCell ⟨d, 4, none⟩ (.map (some m)) = W ∧ Below w.heap.size w W ∧ d ≤ m ∧ d < W.heap.size ∧ MpIs W m (ordTab d) ∧ W.heap[d]? = some (.cells #[.int .i64 0, .slice none 0 0, .int .i64 0, .pointer none, .map (some m)] 167 (0, 0)))) := hide (by
    refine (allOrders_any d V).mono ?_
    rintro e w' ⟨m, rfl, hm, hM, hB⟩
    rw [hd.out] at hb0 hdl
    have hbw := (hB.block d hdl).trans hb0
    refine ⟨m, rfl, ⟨blk_cell hbw 4, blk_free hbw 4⟩, hide ⟨_, rfl, ?_, by omega, by rw [World.size_setCell]; exact Nat.lt_of_lt_of_le hdl hB.size, ?_, blk_set hbw 4 _⟩⟩
    · exact (hB0.trans (hB.mono hB0.size)).setCell (by rw [hd.out]; exact Nat.le_refl _) _
    · exact hM.same (((Mod.refl w' (· = d)).set ⟨d, 4, none⟩ _ (fun _ => rfl)).block m hM.lt (by show ¬ m = d; omega)))
  have HN := hide hn
  have H7 := hide h7
  have HS := hide hB0.size
  clear hn h7 hB0 hb0 hdl
  go_enter Tryz.func58, Tryz.ntmps58
  go_wp2_with fail
  rw [hV.out, hd.out]
  refine HA.out.mono ?_
  rintro e w1 ⟨m, rfl, ⟨g0, g1⟩, HW⟩
  obtain ⟨W, hW, hBW, hdm, hdW, hM, hbd⟩ := HW.out
  clear HA HW
  go_wp2_with fail
  have HE : Hid (Calls Tryz.prog 93 #[.pointer (some ⟨d, 0, none⟩), .slice (some ⟨W.heap.size, 0, none⟩) 6 6] (W.alloc (.cells #[.int .i64 10, .int .i64 2, .int .i64 4, .int .i64 3, .int .i64 12, .int .i64 6] 3)) fun e w' => e = .returned (.string (txt [98, 101, 103, 105, 110])) ∧ Hid (∃ N c D, c.d = d ∧ DkIs w' N c D L0 10 (sy0 10) ∧ Below w.heap.size w w' ∧ D.lost = 0 ∧ d ≤ c.m ∧ d ≤ c.g ∧ d ≤ N)) := hide (by
    have hba : Below W.heap.size W (W.alloc (.cells #[.int .i64 10, .int .i64 2, .int .i64 4, .int .i64 3, .int .i64 12, .int .i64 6] 3)) := (Below.refl _ _).alloc (Nat.le_refl _) _
    have hbn : (W.alloc (.cells #[.int .i64 10, .int .i64 2, .int .i64 4, .int .i64 3, .int .i64 12, .int .i64 6] 3)).heap[W.heap.size]? = some (.cells #[.int .i64 10, .int .i64 2, .int .i64 4, .int .i64 3, .int .i64 12, .int .i64 6] 3 (0, 0)) := blk_new _ _
    have hsl := (isSl_new W [10, 2, 4, 3, 12, 6] 6 rfl).2.2
    have hrow : Row (W.alloc (.cells #[.int .i64 10, .int .i64 2, .int .i64 4, .int .i64 3, .int .i64 12, .int .i64 6] 3)) W.heap.size 0 [10, 2, 4, 3, 12, 6] := by
      rcases hsl with e | ⟨b, o, e1, _, hr⟩
      · cases e
      · simp only [Option.some.injEq, Addr.mk.injEq] at e1
        obtain ⟨rfl, rfl, _⟩ := e1
        exact hr
    generalize (W.alloc (.cells #[.int .i64 10, .int .i64 2, .int .i64 4, .int .i64 3, .int .i64 12, .int .i64 6] 3)) = X at hba hbn hrow ⊢
    refine (begin0C X d m W.heap.size ((hba.block d hdW).trans hbd) (blk_lt hbn) hrow).mono ?_
    rintro e w' ⟨rfl, D, hl0, hS, hb', hm'⟩
    have hlo : Below w.heap.size w w' := (hBW.trans (hba.mono hBW.size)).trans (hm'.toBelow (Nat.le_trans hBW.size hba.size) (fun k hk e => by have := hd.out; omega))
    have hX : W.heap.size < X.heap.size := blk_lt hbn
    refine ⟨rfl, hide ⟨X.heap.size, ⟨d, m, W.heap.size, 3, 3⟩, D, rfl, ⟨hb', fun k hk => ?_, Nat.le_refl _, Nat.lt_trans hdW hX, Nat.lt_trans hM.lt hX, hX, ?_, hm'.size, ?_, ?_, hS⟩, hlo, hl0, hdm, Nat.le_of_lt hdW, Nat.le_of_lt (Nat.lt_trans hdW hX)⟩⟩
    · have hk3 : k < 3 := hk
      have h1 := hrow (k + 3) (by simp; omega)
      rw [Nat.zero_add, Nat.add_comm] at h1
      refine ((World.cell?_of_block (w := X) (a := ⟨W.heap.size, 3 + k, none⟩) (hm'.block _ hX (by show ¬ W.heap.size = d; omega))).trans h1).trans ?_
      rw [Nat.add_comm]
      rfl
    · have := H7.out; have := hBW.size; omega
    · exact hM.same ((hm'.block m (Nat.lt_trans hM.lt hX) (by show ¬ m = d; intro e; rw [e] at hM; exact hM.notCells hbd)).trans (hba.block m hM.lt))
    · exact HN.out.below hlo)
  refine HE.out.mono ?_
  rintro e w2 ⟨rfl, hg⟩
  go_wp2
  go_ret
  obtain ⟨N, c, D, hc, h1, h2, h3, h4, h5, h6⟩ := hg.out
  exact ⟨N, c, D, by rw [hc, hd.out]; exact Nat.le_refl _, by rw [hc]; rfl, h1, h2, h3, by rw [hd.out]; exact h4, by rw [hd.out]; exact h5, by rw [hd.out]; exact h6⟩
theorem DkP.cells {w : World} {N : Nat} {c : DkC} {D : SC} {X : DS} (h : DkP w N c D X) {k : Nat} (hk : Occ c D k) (hm : k ≠ c.m) {o : Obj} (ho : w.heap[k]? = some o) : o.isCells = true := by
  rcases hk with rfl | rfl | rfl | hk | hk | hk
  · rw [h.dk.blk] at ho; cases ho; rfl
  · exact absurd rfl hm
  · have hf := h.lok.few
    have hz : 0 < X.L.zs.length := by rw [h.lok.len]; omega
    exact cell_isCells (a := ⟨c.g, c.o + 0, none⟩) (h.dk.row 0 hz) ho
  · exact h.dk.sys.cells h.lok (.inl hk) ho
  · exact h.dk.sys.cells h.lok (.inr hk) ho
  · obtain ⟨u, hu, a, n, cap, e, rfl, hn⟩ := hk
    obtain ⟨i, hi, rfl⟩ := List.getElem_of_mem hu
    have hb := h.dk.sys.net.byt i (by rw [← h.dk.sys.net.len]; exact hi)
    rw [List.getElem?_eq_getElem hi] at hb
    obtain ⟨_, a', cap', e', _, h3⟩ := hb
    have e2 : D.us[i] = .slice a' (pkAt X.S.net i).b.length cap' := e'
    rw [e] at e2
    simp only [Value.slice.injEq] at e2
    obtain ⟨rfl, rfl, rfl⟩ := e2
    rcases h3 with h3 | ⟨g, off, cs, e3, h4, _⟩
    · rw [h3] at hn; simp at hn
    · cases e3
      rw [h4] at ho; cases ho; rfl
structure SsP (w : World) (B NB b bd : Nat) (N : Nat) (c : DkC) (D : SC) (v : Value) (X : DS) (l : List UInt8) (W : World) : Prop where
  dk : DkP W N c D X
  bl : BdIs W NB b v l
  box : W.heap[bd]? = some (.cells #[.pointer (some ⟨c.d, 0, none⟩)] 100 (0, 0))
  apart : ∀ k, Occ c D k → ¬ BdW b v k ∧ k ≠ bd
  own : ¬ BdW b v bd
  base : NB ≤ W.heap.size
  old : Below w.heap.size w W
  oldB : w.heap.size ≤ B
  oldN : w.heap.size ≤ NB
  occ : ∀ k, Occ c D k → w.heap.size ≤ k
  mlt : c.m < B
  low : 7 ≤ w.heap.size
section
variable {w W W' : World} {B NB b bd N : Nat} {c : DkC} {D : SC} {v : Value} {X X' : DS} {l : List UInt8}
theorem SsP.bdlt (h : SsP w B NB b bd N c D v X l W) : bd < W.heap.size := blk_lt h.box
theorem SsP.wlt (h : SsP w B NB b bd N c D v X l W) {k : Nat} (hk : BdW b v k) : NB ≤ k ∧ k < W.heap.size := by
  rcases hk with rfl | hk
  · exact ⟨h.bl.ge, h.bl.lt⟩
  · exact h.bl.row.lt k hk
theorem SsP.turn (h : SsP w B NB b bd N c D v X l W) {row : Option Nat} (hg : W.grownBy W' row) (hr : ∀ r, row = some r → B ≤ r ∧ ∃ o : Obj, W.heap[r]? = some o ∧ o.isCells = false) : SsP w B NB b bd N c D v X l W' := by
  have hm : Mod W W' (fun k => row = some k) := ⟨hg.os, hg.tape, hg.output, hg.size, fun k hk ht => hg.block k hk (fun e => ht e.symm)⟩
  have hno : ∀ k, (∀ o : Obj, W.heap[k]? = some o → o.isCells = true) → ¬ row = some k := fun k hc e => by
    obtain ⟨_, o, ho, hf⟩ := hr k e
    rw [hc o ho] at hf
    cases hf
  refine ⟨h.dk.others hm (fun k hk => ?_) (fun k e => Nat.le_trans h.low (Nat.le_trans h.oldB (hr k e).1)), h.bl.mod hm fun k hk => hno k fun o ho => h.bl.cells hk ho, ?_, h.apart, h.own, Nat.le_trans h.base hg.size, h.old.trans (hm.toBelow h.old.size fun k hk e => by have := (hr k e).1; have := h.oldB; omega), h.oldB, h.oldN, h.occ, h.mlt, h.low⟩
  · by_cases hkm : k = c.m
    · intro e
      have := (hr k e).1
      have := h.mlt
      omega
    · exact hno k fun o ho => h.dk.cells hk hkm ho
  · exact (hm.block bd h.bdlt (hno bd fun o ho => by rw [h.box] at ho; cases ho; rfl)).trans h.box
theorem SsP.said (h : SsP w B NB b bd N c D v X l W) (hA : AnsP W W' c D X') : ∃ N' c' D', c'.d = c.d ∧ SsP w B NB b bd N' c' D' v X' l W' := by
  obtain ⟨N', c', D', e1, e2, h1, hm, h3⟩ := hA
  have hw : ∀ k, (Wr D k ∨ k = c.d) → Occ c D k := fun k hk => hk.elim (fun x => .inr (.inr (.inr (.inl x)))) (fun x => .inl x)
  refine ⟨N', c', D', e1, h1, h.bl.mod hm fun k hk hw' => (h.apart k (hw k hw')).1 hk, by rw [e1]; exact (hm.block bd h.bdlt fun hw' => (h.apart bd (hw bd hw')).2 rfl).trans h.box, fun k hk => ?_, h.own, Nat.le_trans h.base hm.size, h.old.trans (hm.toBelow h.old.size fun k hk hw' => by have := h.occ k (hw k hw'); omega), h.oldB, h.oldN, fun k hk => ?_, by rw [e2]; exact h.mlt, h.low⟩
  · rcases h3 k hk with x | x
    · exact h.apart k x
    · exact ⟨fun hw' => by have := (h.wlt hw').2; omega, by have := h.bdlt; omega⟩
  · rcases h3 k hk with x | x
    · exact h.occ k x
    · exact Nat.le_trans h.old.size x
theorem SsP.wrote (h : SsP w B NB b bd N c D v X l W) {l' : List UInt8} (hg : BdGo W W' NB b v l') : ∃ v', SsP w B NB b bd N c D v' X l' W' := by
  obtain ⟨v', hb, hm, hmv⟩ := hg
  have hw' : ∀ k, BdW b v' k → BdW b v k ∨ W.heap.size ≤ k := fun k hk => by
    rcases hk with rfl | hk
    · exact .inl (.inl rfl)
    · exact (hmv k hk).imp .inr id
  refine ⟨v', h.dk.others hm (fun k hk => (h.apart k hk).1) (fun k hk => Nat.le_trans h.low (Nat.le_trans h.oldN (h.wlt hk).1)), hb, (hm.block bd h.bdlt h.own).trans h.box, fun k hk => ⟨fun hw => ?_, (h.apart k hk).2⟩, fun hw => ?_, Nat.le_trans h.base hm.size, h.old.trans (hm.toBelow h.old.size fun k hk hw => by have := (h.wlt hw).1; have := h.oldN; omega), h.oldB, h.oldN, h.occ, h.mlt, h.low⟩
  · rcases hw' k hw with x | x
    · exact (h.apart k hk).1 x
    · have := h.dk.lt hk; omega
  · rcases hw' bd hw with x | x
    · exact h.own x
    · have := h.bdlt; omega
end
end Go.Proofs.YtaablbmgagiajabGreatDoor
namespace Go.Proofs.YtaablbmgagiajabGreatDoor
open Go.RowKit Go.Deep Go.Shelf
attribute [local go_sem] Oper.semAt_some
def AnsOk (t : List UInt8) (Rel : List {x : List UInt8 // x ∈ linesOf t} → SY → List UInt8 → Prop) : Prop :=
  ∀ pre x S l W N c D, Rel pre S l → pre.length < (linesOf t).length → DkIs W N c D L0 10 S → Calls Tryz.prog 61 #[.pointer (some ⟨c.d, 0, none⟩), .string (txt x.1)] W fun e W' =>
    ∃ s S' D', e = .returned (.string (txt s)) ∧ Rel (pre ++ [x]) S' (l ++ s ++ [10]) ∧ DkIs W' N c D' L0 10 S' ∧ Mod W W' (Wr D) ∧ Gr W.heap.size D D'
theorem keeps_mod {B : Nat} {W W' : World} {T : Nat → Prop} (hm : Mod W W' T) (hc : ∀ k, T k → ∀ o : Obj, W.heap[k]? = some o → o.isCells = true) : KeepsFrom B W W' :=
  ⟨hm.size, fun k o _ hk ho => (hm.block k (Array.getElem?_eq_some_iff.1 hk).1 (fun ht => by rw [hc k ht o hk] at ho; cases ho)).trans hk⟩
set_option maxRecDepth 100000 in
set_option maxHeartbeats 4000000 in
theorem session_any (t : List UInt8) (w : World) (ht : t.length ≤ 20000) (hn : HasNum w) (h7 : 7 ≤ w.heap.size) (Rel : List {x : List UInt8 // x ∈ linesOf t} → SY → List UInt8 → Prop) (h0 : Rel [] (sy0 10) [])
    (hnet : ∀ pre S l, Rel pre S l → S.net = [] ∧ l.length ≤ 10000000) (hans : AnsOk t Rel) :
    Calls Tryz.prog 23 #[.string (txt t)] w fun e w' => (∃ xs S l, xs.map Subtype.val = linesOf t ∧ Rel xs S l ∧ e = .returned (.string (txt l))) ∧ Below w.heap.size w w' := by
  have HND := hide (newDesk_any w hn h7)
  have htl : ¬ (20000 : Int) < (t.length : Int) := by omega
  have htl2 : ¬ 20000 < t.length := by omega
  have htd : decide ((20000 : Int) < (t.length : Int)) = false := decide_eq_false htl
  refine (callsIn_wide (n := 3)).1 ?_
  refine callsIn_of_wp_marks Tryz.func23 rfl trivial ?_ rfl
  simp only [Tryz.ntmps23, List.size_toArray, List.length_cons, List.length_nil, Nat.reduceAdd, Nat.reduceSub, Array.replicate_succ, Array.replicate_zero, List.push_toArray, List.append_toArray, List.nil_append, List.cons_append]
  gi_wp2_with fail
  refine ⟨trivial, ?_⟩
  gi_at_call 58
  refine (callsIn_wide.2 HND.out).mono ?_
  rintro e w1 ⟨N, c, D, hcd, rfl, hdk, hB⟩
  clear HND
  have HDK := hide hdk
  have HB := hide hB
  clear hdk hB
  gi_wp2_with fail
  refine ⟨trivial, ?_⟩
  gi_at_call 59
  refine (lines_in _ t _).mono ?_
  rintro e w2 ⟨rfl, rfl⟩
  gi_wp2_with fail
  obtain ⟨W0, hW0⟩ : ∃ W0, Hid (((w1.alloc (.cells #[.pointer (some ⟨c.d, 0, none⟩)] 100)).alloc (.cells #[.pointer none, .slice none 0 0] 104)).alloc (.cells #[.string (txt t)] 9) = W0) := ⟨_, hide rfl⟩
  rw [hW0.out]
  have hsz : W0.heap.size = w1.heap.size + 3 := by rw [← hW0.out]; simp
  have hbt : W0.cell? ⟨w1.heap.size + 1 + 1, 0, none⟩ = some (.string (txt t)) := by
    have hb3 := blk_new ((w1.alloc (.cells #[.pointer (some ⟨c.d, 0, none⟩)] 100)).alloc (.cells #[.pointer none, .slice none 0 0] 104)) (.cells #[.string (txt t)] 9)
    rw [hW0.out, World.size_alloc, World.size_alloc] at hb3
    exact blk_cell hb3 0
  have HS0 : Hid (SsI w W0.heap.size N (w1.heap.size + 1) c (w1.heap.size + 1) w1.heap.size D (.slice none 0 0) (sy0 10) [] W0) := hide (by
    have hB1 : Below w1.heap.size w1 (w1.alloc (.cells #[.pointer (some ⟨c.d, 0, none⟩)] 100)) := (Below.refl _ _).alloc (Nat.le_refl _) _
    have hx1 := blk_new w1 (.cells #[.pointer (some ⟨c.d, 0, none⟩)] 100)
    have hz1 : (w1.alloc (.cells #[.pointer (some ⟨c.d, 0, none⟩)] 100)).heap.size = w1.heap.size + 1 := World.size_alloc _ _
    generalize w1.alloc (.cells #[.pointer (some ⟨c.d, 0, none⟩)] 100) = x1 at hB1 hx1 hz1 hW0
    have hB2 : Below x1.heap.size x1 (x1.alloc (.cells #[.pointer none, .slice none 0 0] 104)) := (Below.refl _ _).alloc (Nat.le_refl _) _
    have hbd := BdIs.new x1
    generalize x1.alloc (.cells #[.pointer none, .slice none 0 0] 104) = x2 at hB2 hbd hW0
    have hB3 : Below x2.heap.size x2 W0 := by rw [← hW0.out]; exact (Below.refl _ _).alloc (Nat.le_refl _) _
    have hB12 := hB1.trans (hB2.mono hB1.size)
    have hBa := hB12.trans (hB3.mono hB12.size)
    have hB23 := hB2.trans (hB3.mono hB2.size)
    rw [hz1] at hbd
    have hle := HDK.out.le
    have hw1 : w.heap.size ≤ N := by have := HDK.out.dlt; omega
    refine ⟨HDK.out.below hBa, hbd.below hB3, (hB23.block _ (by omega)).trans hx1, rfl, fun k hk => ?_, ?_, by omega, by omega, by omega, HB.out.trans (hBa.mono HB.out.size), by omega, hw1⟩
    · have hkl : k < w1.heap.size := by
        rcases hk with hk | hk
        · exact HDK.out.sys.wrLt hk
        · exact HDK.out.sys.staLt hk
      refine ⟨?_, by omega⟩
      rintro (e | e)
      · omega
      · simp [Value.ownBlock] at e
    · rintro (e | e)
      · omega
      · simp [Value.ownBlock] at e)
  clear HDK HB
  have hlt : w1.heap.size + 1 + 1 < W0.heap.size := by omega
  refine wpIn_rangeFunc_ownG rfl (by omega) (gf := 94) (lb := #[.pointer (some ⟨w1.heap.size + 1 + 1, 0, none⟩)]) rfl trivial (enters_of Tryz.func94 (by kernel_rfl) rfl) (lines_stops _ (by omega) (w1.heap.size + 1 + 1) t (by omega) W0 hlt hbt) (fun _ _ => trivial) (fun _ _ _ _ _ _ _ _ => trivial) (Below.refl _ _) (fun _ => rfl)
    (fun pre W => ∃ S l D v, Rel pre S l ∧ SsI w W0.heap.size N (w1.heap.size + 1) c (w1.heap.size + 1) w1.heap.size D v S l W) (fun _ _ _ => False)
    (fun pre A Bw row hs hg hr => by
      obtain ⟨S, l, D, v, h1, h2⟩ := hs
      exact ⟨S, l, D, v, h1, h2.turn hg hr⟩)
    (fun _ _ _ _ _ hs _ _ => hs)
    ⟨sy0 10, [], D, _, h0, HS0.out⟩
    (fun x => { tmps := #[.string (txt t), undef, .string ⟨#[]⟩, .pointer (some ⟨w1.heap.size, 0, none⟩), .pointer (some ⟨w1.heap.size + 1, 0, none⟩), .string (txt x.1), .string (txt t), .int .i64 (t.length : Int), .bool false, undef, undef, .pointer (some ⟨c.d, 0, none⟩), .string (txt t), .func (.func 94) #[] #[.pointer (some ⟨w1.heap.size + 1 + 1, 0, none⟩)], .string (txt x.1), undef, undef, undef, undef, undef, undef], defers := [] }) ?assign ?body ?done ?stop
  case assign =>
    intro l x W K hK
    gi_wp2
    exact hK
  case body =>
    rintro l pre x W ⟨S, la, D, v, hR, hI⟩ hlen
    have c0 : W.cell? ⟨w1.heap.size, 0, none⟩ = some (.pointer (some ⟨c.d, 0, none⟩)) := blk_cell hI.box 0
    have HA := hide (hans pre x S la W N c D hR hlen hI.dk)
    have HI := hide hI
    clear hI
    gi_wp2_with fail
    refine ⟨trivial, ?_⟩
    gi_at_call 61
    refine (CallsIn.inRound l (callsIn_wide.2 HA.out)).mono ?_
    rintro e W1 ⟨s, S', D', rfl, hR', hdk', hm', hg'⟩
    have hnl := hnet _ _ _ hR'
    have hlen2 : la.length + s.length + 1 ≤ 10000000 := by
      have h2 := hnl.2
      simp only [List.length_append, List.length_cons, List.length_nil] at h2
      omega
    have hI1 := HI.out.said hdk' hnl.1 hm' hg'
    have hk1 : KeepsFrom W0.heap.size W W1 := keeps_mod hm' fun k hk o ho => HI.out.dk.sys.cells L0_ok (.inl hk) ho
    have HWS := hide (writeString_any (w1.heap.size + 1) (w1.heap.size + 1) v la s W1 hI1.bl hI1.base (by omega))
    have HI1 := hide hI1
    have HK1 := hide hk1
    have HR' := hide hR'
    clear hI1 hk1 hR' hdk' hm' hg' hnl HA c0
    gi_wp2_with fail
    refine ⟨trivial, ?_⟩
    gi_at_call 60
    refine (CallsIn.inRound l (callsIn_wide.2 HWS.out)).mono ?_
    rintro e W2 ⟨⟨x2, rfl⟩, hg2⟩
    obtain ⟨v2, hI2⟩ := HI1.out.wrote hg2
    have hk2 : KeepsFrom W0.heap.size W1 W2 := by
      obtain ⟨_, _, hm, _⟩ := hg2
      exact keeps_mod hm fun k hk o ho => HI1.out.bl.cells hk ho
    have HWB : Hid (Calls Tryz.prog 62 #[.pointer (some ⟨w1.heap.size + 1, 0, none⟩), .int .u8 10] W2 fun e w' => (∃ x, e = .returned x) ∧ BdGo W2 w' (w1.heap.size + 1) (w1.heap.size + 1) v2 (la ++ s ++ [10])) := hide (writeByte_any (w1.heap.size + 1) (w1.heap.size + 1) v2 (la ++ s) 10 W2 hI2.bl hI2.base (by rw [List.length_append]; omega))
    have HI2 := hide hI2
    have HK2 := hide (HK1.out.trans hk2)
    clear hI2 hk2 hg2 HWS
    gi_wp2_with fail
    refine ⟨trivial, ?_⟩
    gi_at_call 62
    refine (CallsIn.inRound l (callsIn_wide.2 HWB.out)).mono ?_
    rintro e W3 ⟨⟨x3, rfl⟩, hg3⟩
    obtain ⟨v3, hI3⟩ := HI2.out.wrote hg3
    have hk3 : KeepsFrom W0.heap.size W2 W3 := by
      obtain ⟨_, _, hm, _⟩ := hg3
      exact keeps_mod hm fun k hk o ho => HI2.out.bl.cells hk ho
    have HF : Hid (KeepsFrom W0.heap.size W W3 ∧ True ∧ ∃ S l D v, Rel (pre ++ [x]) S l ∧ SsI w W0.heap.size N (w1.heap.size + 1) c (w1.heap.size + 1) w1.heap.size D v S l W3) := hide ⟨HK2.out.trans hk3, trivial, S', _, D', v3, HR'.out, hI3⟩
    clear hI3 hk3 hg3 HWB
    gi_wp2
    exact HF.out
  case done =>
    rintro Dd xs W hDd hxs ⟨S, la, D, v, hR, hI⟩ hK
    have HST := hide (string_any (w1.heap.size + 1) (w1.heap.size + 1) v la W hI.bl hI.base)
    have HO : Hid (∀ w', Below (w1.heap.size + 1) W w' → Below w.heap.size w w') := hide fun w' hB => hI.old.trans (hB.mono (by have := hI.oldN; have := hI.lo; omega))
    have HR := hide hR
    have HX := hide hxs
    clear hI hR hxs
    gi_wp2_with fail
    refine ⟨trivial, ?_⟩
    gi_at_call 63
    refine (callsIn_wide.2 HST.out).mono ?_
    rintro e W9 ⟨rfl, hB9, hd9⟩
    have hK9 := hd9 Dd _ hK
    have HB9 := hide (HO.out W9 hB9)
    clear hK hB9 hd9 HST HO
    gi_wp2
    refine ⟨by simp, .inl ⟨_, _, rfl, run_takeDeferred hK9, ?_⟩⟩
    have hwd : w.heap.size ≤ Dd := Nat.le_trans HS0.out.oldB hDd
    exact ⟨_, results_tmp rfl _ _ _, ⟨xs, S, la, HX.out, HR.out, rfl⟩, HB9.out.trans ((Below.refl _ W9).grown (grownBy_putObj' W9 Dd _) HB9.out.size (fun k e => by cases e; exact hwd))⟩
  case stop =>
    rintro Dd cc pre W _ _ h _
    exact h.elim
attribute [local go_sem] Oper.semAt_some
def AnsAll (t : List UInt8) (Rel : List {x : List UInt8 // x ∈ linesOf t} → DS → List UInt8 → Prop) : Prop :=
  ∀ pre x X l W N c D, Rel pre X l → pre.length < (linesOf t).length → DkP W N c D X → Calls Tryz.prog 61 #[.pointer (some ⟨c.d, 0, none⟩), .string (txt x.1)] W fun e W' =>
    ∃ s X', e = .returned (.string (txt s)) ∧ Rel (pre ++ [x]) X' (l ++ s ++ [10]) ∧ AnsP W W' c D X'
set_option maxRecDepth 100000 in
set_option maxHeartbeats 4000000 in
theorem session_all (t : List UInt8) (w : World) (ht : t.length ≤ 20000) (hn : HasNum w) (hE : HasErrT w) (h7 : 7 ≤ w.heap.size) (Rel : List {x : List UInt8 // x ∈ linesOf t} → DS → List UInt8 → Prop) (h0 : Rel [] ⟨L0, 10, sy0 10, 0⟩ [])
    (hnet : ∀ pre X l, Rel pre X l → l.length ≤ 90000000) (hans : AnsAll t Rel) :
    Calls Tryz.prog 23 #[.string (txt t)] w fun e w' => (∃ xs X l, xs.map Subtype.val = linesOf t ∧ Rel xs X l ∧ e = .returned (.string (txt l))) ∧ Below w.heap.size w w' := by
  have HND := hide (newDeskC w hn h7)
  have htl : ¬ (20000 : Int) < (t.length : Int) := by omega
  have htl2 : ¬ 20000 < t.length := by omega
  have htd : decide ((20000 : Int) < (t.length : Int)) = false := decide_eq_false htl
  refine (callsIn_wide (n := 3)).1 ?_
  refine callsIn_of_wp_marks Tryz.func23 rfl trivial ?_ rfl
  simp only [Tryz.ntmps23, List.size_toArray, List.length_cons, List.length_nil, Nat.reduceAdd, Nat.reduceSub, Array.replicate_succ, Array.replicate_zero, List.push_toArray, List.append_toArray, List.nil_append, List.cons_append]
  gi_wp2_with fail
  refine ⟨trivial, ?_⟩
  gi_at_call 58
  refine (callsIn_wide.2 HND.out).mono ?_
  rintro e w1 ⟨N, c, D, hcd, rfl, hdk, hB, hl0, hcm, hcg, hcN⟩
  clear HND
  have HDK : Hid (DkP w1 N c D ⟨L0, 10, sy0 10, 0⟩) := hide ⟨hdk, by show D.lost = wrap64 (0 - ((0 : Nat) : Int)); rw [hl0]; unfold wrap64; omega, hE.lo hB h7, L0_ok, Nat.le_trans h7 hcd⟩
  have HOC : Hid (∀ k, Occ c D k → w.heap.size ≤ k) := hide fun k hk => by
    rcases hk with rfl | rfl | rfl | x | x | ⟨u, x, _⟩
    · exact hcd
    · exact hcm
    · exact hcg
    · exact Nat.le_trans hcN (hdk.sys.base k x)
    · exact Nat.le_trans hcN (hdk.sys.sbase k x)
    · have hu : D.us = [] := List.length_eq_zero_iff.1 hdk.sys.net.len
      rw [hu] at x; cases x
  have HB := hide hB
  clear hdk hB
  gi_wp2_with fail
  refine ⟨trivial, ?_⟩
  gi_at_call 59
  refine (lines_in _ t _).mono ?_
  rintro e w2 ⟨rfl, rfl⟩
  gi_wp2_with fail
  obtain ⟨W0, hW0⟩ : ∃ W0, Hid (((w1.alloc (.cells #[.pointer (some ⟨c.d, 0, none⟩)] 100)).alloc (.cells #[.pointer none, .slice none 0 0] 104)).alloc (.cells #[.string (txt t)] 9) = W0) := ⟨_, hide rfl⟩
  rw [hW0.out]
  have hsz : W0.heap.size = w1.heap.size + 3 := by rw [← hW0.out]; simp
  have hbt : W0.cell? ⟨w1.heap.size + 1 + 1, 0, none⟩ = some (.string (txt t)) := by
    have hb3 := blk_new ((w1.alloc (.cells #[.pointer (some ⟨c.d, 0, none⟩)] 100)).alloc (.cells #[.pointer none, .slice none 0 0] 104)) (.cells #[.string (txt t)] 9)
    rw [hW0.out, World.size_alloc, World.size_alloc] at hb3
    exact blk_cell hb3 0
  have HS0 : Hid (SsP w W0.heap.size (w1.heap.size + 1) (w1.heap.size + 1) w1.heap.size N c D (.slice none 0 0) ⟨L0, 10, sy0 10, 0⟩ [] W0) := hide (by
    have hB1 : Below w1.heap.size w1 (w1.alloc (.cells #[.pointer (some ⟨c.d, 0, none⟩)] 100)) := (Below.refl _ _).alloc (Nat.le_refl _) _
    have hx1 := blk_new w1 (.cells #[.pointer (some ⟨c.d, 0, none⟩)] 100)
    have hz1 : (w1.alloc (.cells #[.pointer (some ⟨c.d, 0, none⟩)] 100)).heap.size = w1.heap.size + 1 := World.size_alloc _ _
    generalize w1.alloc (.cells #[.pointer (some ⟨c.d, 0, none⟩)] 100) = x1 at hB1 hx1 hz1 hW0
    have hB2 : Below x1.heap.size x1 (x1.alloc (.cells #[.pointer none, .slice none 0 0] 104)) := (Below.refl _ _).alloc (Nat.le_refl _) _
    have hbd := BdIs.new x1
    generalize x1.alloc (.cells #[.pointer none, .slice none 0 0] 104) = x2 at hB2 hbd hW0
    have hB3 : Below x2.heap.size x2 W0 := by rw [← hW0.out]; exact (Below.refl _ _).alloc (Nat.le_refl _) _
    have hB12 := hB1.trans (hB2.mono hB1.size)
    have hBa := hB12.trans (hB3.mono hB12.size)
    have hB23 := hB2.trans (hB3.mono hB2.size)
    rw [hz1] at hbd
    have hml : c.m < w1.heap.size := HDK.out.lt (.inr (.inl rfl))
    refine ⟨HDK.out.below hBa, hbd.below hB3, (hB23.block _ (by omega)).trans hx1, fun k hk => ?_, ?_, by omega, HB.out.trans (hBa.mono HB.out.size), by have := HB.out.size; omega, by have := HB.out.size; omega, HOC.out, by omega, h7⟩
    · have hkl : k < w1.heap.size := HDK.out.lt hk
      refine ⟨?_, by omega⟩
      rintro (e | e)
      · omega
      · simp [Value.ownBlock] at e
    · rintro (e | e)
      · omega
      · simp [Value.ownBlock] at e)
  obtain ⟨d0, hd0⟩ : ∃ d0, Hid (c.d = d0) := ⟨_, hide rfl⟩
  rw [hd0.out]
  clear HDK HB
  have hlt : w1.heap.size + 1 + 1 < W0.heap.size := by omega
  refine wpIn_rangeFunc_ownG rfl (by omega) (gf := 94) (lb := #[.pointer (some ⟨w1.heap.size + 1 + 1, 0, none⟩)]) rfl trivial (enters_of Tryz.func94 (by kernel_rfl) rfl) (lines_stops _ (by omega) (w1.heap.size + 1 + 1) t (by omega) W0 hlt hbt) (fun _ _ => trivial) (fun _ _ _ _ _ _ _ _ => trivial) (Below.refl _ _) (fun _ => rfl)
    (fun pre W => ∃ X l N c D v, c.d = d0 ∧ Rel pre X l ∧ SsP w W0.heap.size (w1.heap.size + 1) (w1.heap.size + 1) w1.heap.size N c D v X l W) (fun _ _ _ => False)
    (fun pre A Bw row hs hg hr => by
      obtain ⟨X, l, N, c, D, v, h0, h1, h2⟩ := hs
      exact ⟨X, l, N, c, D, v, h0, h1, h2.turn hg hr⟩)
    (fun _ _ _ _ _ hs _ _ => hs)
    ⟨⟨L0, 10, sy0 10, 0⟩, [], N, c, D, _, hd0.out, h0, HS0.out⟩
    (fun x => { tmps := #[.string (txt t), undef, .string ⟨#[]⟩, .pointer (some ⟨w1.heap.size, 0, none⟩), .pointer (some ⟨w1.heap.size + 1, 0, none⟩), .string (txt x.1), .string (txt t), .int .i64 (t.length : Int), .bool false, undef, undef, .pointer (some ⟨d0, 0, none⟩), .string (txt t), .func (.func 94) #[] #[.pointer (some ⟨w1.heap.size + 1 + 1, 0, none⟩)], .string (txt x.1), undef, undef, undef, undef, undef, undef], defers := [] }) ?assign ?body ?done ?stop
  case assign =>
    intro l x W K hK
    gi_wp2
    exact hK
  case body =>
    rintro l pre x W ⟨X, la, N1, c1, D1, v, hcd1, hR, hI⟩ hlen
    have c0 : W.cell? ⟨w1.heap.size, 0, none⟩ = some (.pointer (some ⟨d0, 0, none⟩)) := by rw [← hcd1]; exact blk_cell hI.box 0
    have HA := hide (hans pre x X la W N1 c1 D1 hR hlen hI.dk)
    rw [hcd1] at HA
    have HI := hide hI
    clear hI
    gi_wp2_with fail
    refine ⟨trivial, ?_⟩
    gi_at_call 61
    refine (CallsIn.inRound l (callsIn_wide.2 HA.out)).mono ?_
    rintro e W1 ⟨s, X', rfl, hR', hA'⟩
    have hnl := hnet _ _ _ hR'
    have hlen2 : la.length + s.length + 1 ≤ 90000000 := by
      have h2 := hnl
      simp only [List.length_append, List.length_cons, List.length_nil] at h2
      omega
    obtain ⟨N2, c2, D2, hcd2, hI1⟩ := HI.out.said hA'
    have hk1 : KeepsFrom W0.heap.size W W1 := by
      obtain ⟨_, _, _, _, _, _, hm', _⟩ := hA'
      exact keeps_mod hm' fun k hk o ho => HI.out.dk.cells (hk.elim (fun x => .inr (.inr (.inr (.inl x)))) (fun x => .inl x)) (hk.elim (fun x => (HI.out.dk.ne x).2.1) (fun x e => by
        have hb := HI.out.dk.dk.blk
        obtain ⟨es, hx, _⟩ := HI.out.dk.dk.map
        rw [← e, x, hb] at hx
        cases hx)) ho
    have HWS := hide (writeString_any (w1.heap.size + 1) (w1.heap.size + 1) v la s W1 hI1.bl hI1.base (by omega))
    have HI1 := hide hI1
    have HK1 := hide hk1
    have HR' := hide hR'
    clear hI1 hk1 hR' hA' hnl HA c0
    gi_wp2_with fail
    refine ⟨trivial, ?_⟩
    gi_at_call 60
    refine (CallsIn.inRound l (callsIn_wide.2 HWS.out)).mono ?_
    rintro e W2 ⟨⟨x2, rfl⟩, hg2⟩
    obtain ⟨v2, hI2⟩ := HI1.out.wrote hg2
    have hk2 : KeepsFrom W0.heap.size W1 W2 := by
      obtain ⟨_, _, hm, _⟩ := hg2
      exact keeps_mod hm fun k hk o ho => HI1.out.bl.cells hk ho
    have HWB : Hid (Calls Tryz.prog 62 #[.pointer (some ⟨w1.heap.size + 1, 0, none⟩), .int .u8 10] W2 fun e w' => (∃ x, e = .returned x) ∧ BdGo W2 w' (w1.heap.size + 1) (w1.heap.size + 1) v2 (la ++ s ++ [10])) := hide (writeByte_any (w1.heap.size + 1) (w1.heap.size + 1) v2 (la ++ s) 10 W2 hI2.bl hI2.base (by rw [List.length_append]; omega))
    have HI2 := hide hI2
    have HK2 := hide (HK1.out.trans hk2)
    clear hI2 hk2 hg2 HWS
    gi_wp2_with fail
    refine ⟨trivial, ?_⟩
    gi_at_call 62
    refine (CallsIn.inRound l (callsIn_wide.2 HWB.out)).mono ?_
    rintro e W3 ⟨⟨x3, rfl⟩, hg3⟩
    obtain ⟨v3, hI3⟩ := HI2.out.wrote hg3
    have hk3 : KeepsFrom W0.heap.size W2 W3 := by
      obtain ⟨_, _, hm, _⟩ := hg3
      exact keeps_mod hm fun k hk o ho => HI2.out.bl.cells hk ho
    have HF : Hid (KeepsFrom W0.heap.size W W3 ∧ True ∧ ∃ X l N c D v, c.d = d0 ∧ Rel (pre ++ [x]) X l ∧ SsP w W0.heap.size (w1.heap.size + 1) (w1.heap.size + 1) w1.heap.size N c D v X l W3) := hide ⟨HK2.out.trans hk3, trivial, X', _, N2, c2, D2, v3, hcd2.trans hcd1, HR'.out, hI3⟩
    clear hI3 hk3 hg3 HWB
    gi_wp2
    exact HF.out
  case done =>
    rintro Dd xs W hDd hxs ⟨X, la, N1, c1, D1, v, _, hR, hI⟩ hK
    have HST := hide (string_any (w1.heap.size + 1) (w1.heap.size + 1) v la W hI.bl hI.base)
    have HO : Hid (∀ w', Below (w1.heap.size + 1) W w' → Below w.heap.size w w') := hide fun w' hB => hI.old.trans (hB.mono (by have := hI.oldN; omega))
    have HR := hide hR
    have HX := hide hxs
    clear hI hR hxs
    gi_wp2_with fail
    refine ⟨trivial, ?_⟩
    gi_at_call 63
    refine (callsIn_wide.2 HST.out).mono ?_
    rintro e W9 ⟨rfl, hB9, hd9⟩
    have hK9 := hd9 Dd _ hK
    have HB9 := hide (HO.out W9 hB9)
    clear hK hB9 hd9 HST HO
    gi_wp2
    refine ⟨by simp, .inl ⟨_, _, rfl, run_takeDeferred hK9, ?_⟩⟩
    have hwd : w.heap.size ≤ Dd := Nat.le_trans HS0.out.oldB hDd
    exact ⟨_, results_tmp rfl _ _ _, ⟨xs, X, la, HX.out, HR.out, rfl⟩, HB9.out.trans ((Below.refl _ W9).grown (grownBy_putObj' W9 Dd _) HB9.out.size (fun k e => by cases e; exact hwd))⟩
  case stop =>
    rintro Dd cc pre W _ _ h _
    exact h.elim
end Go.Proofs.YtaablbmgagiajabGreatDoor
namespace Go.Proofs.YtaablbmgagiajabGreatDoor
open Go.RowKit Go.Deep
def RunD : List (List UInt8) → DS → List UInt8 → DS → List UInt8 → Prop
  | [], X, l, X', l' => X' = X ∧ l' = l
  | x :: xs, X, l, X', l' => ∃ X1 s, StepD X x X1 s ∧ RunD xs X1 (l ++ s ++ [10]) X' l'
theorem RunD.snoc : ∀ {xs : List (List UInt8)} {X X1 X2 : DS} {l l1 s x : List UInt8}, RunD xs X l X1 l1 → StepD X1 x X2 s → RunD (xs ++ [x]) X l X2 (l1 ++ s ++ [10])
  | [], _, _, _, _, _, _, _, ⟨e1, e2⟩, hs => by subst e1 e2; exact ⟨_, _, hs, rfl, rfl⟩
  | _ :: _, _, _, _, _, _, _, _, ⟨X', s', h1, h2⟩, hs => ⟨X', s', h1, RunD.snoc h2 hs⟩
theorem RunD.det : ∀ {xs : List (List UInt8)} {X A B : DS} {l a b : List UInt8}, RunD xs X l A a → RunD xs X l B b → A = B ∧ a = b
  | [], _, _, _, _, _, _, ⟨e1, e2⟩, ⟨g1, g2⟩ => ⟨e1.trans g1.symm, e2.trans g2.symm⟩
  | _ :: _, _, _, _, _, _, _, ⟨X1, s1, h1, h2⟩, ⟨Y1, t1, k1, k2⟩ => by
    obtain ⟨rfl, rfl⟩ := StepD.det h1 k1
    exact RunD.det h2 k2
theorem RunD.app : ∀ {xs ys : List (List UInt8)} {X Z : DS} {l z : List UInt8}, RunD (xs ++ ys) X l Z z → ∃ Y y, RunD xs X l Y y ∧ RunD ys Y y Z z
  | [], _, X, _, l, _, h => ⟨X, l, ⟨rfl, rfl⟩, h⟩
  | _ :: _, _, _, _, _, _, ⟨X1, s1, h1, h2⟩ => by
    obtain ⟨Y, y, k1, k2⟩ := RunD.app h2
    exact ⟨Y, y, ⟨X1, s1, h1, k1⟩, k2⟩
theorem RunD.grows : ∀ {xs : List (List UInt8)} {X Z : DS} {l z : List UInt8}, RunD xs X l Z z → ∃ t, z = l ++ t
  | [], _, _, _, _, ⟨_, e⟩ => ⟨[], by rw [e]; simp⟩
  | _ :: _, _, _, l, _, ⟨X1, s1, h1, h2⟩ => by
    obtain ⟨t, rfl⟩ := RunD.grows h2
    exact ⟨s1 ++ [10] ++ t, by simp⟩
theorem split_cons (c : UInt8) (l : List UInt8) : splitNl (c :: l) = if c = 10 then [] :: splitNl l else (c :: (splitNl l).headD []) :: (splitNl l).tail := rfl
theorem split_app : ∀ (l r : List UInt8), splitNl (l ++ 10 :: r) = splitNl l ++ splitNl r
  | [], r => by simp [splitNl]
  | c :: l, r => by
    have ih := split_app l r
    have hne := splitNl_ne l
    show splitNl (c :: (l ++ 10 :: r)) = _
    rw [split_cons, split_cons, ih]
    obtain ⟨h, t, e⟩ := List.exists_cons_of_ne_nil hne
    rw [e]
    split <;> simp
theorem split_few : ∀ (l : List UInt8), (splitNl l).length ≤ l.length + 1 ∧ ∀ x ∈ splitNl l, x.length ≤ l.length
  | [] => by simp [splitNl]
  | c :: l => by
    obtain ⟨h1, h2⟩ := split_few l
    obtain ⟨h, t, e⟩ := List.exists_cons_of_ne_nil (splitNl_ne l)
    rw [split_cons]
    rw [e] at h1 h2 ⊢
    split
    · refine ⟨by simp at h1 ⊢; omega, fun x hx => ?_⟩
      rcases List.mem_cons.1 hx with rfl | hx
      · simp
      · have := h2 x hx; simp; omega
    · refine ⟨by simp at h1 ⊢; omega, fun x hx => ?_⟩
      rcases List.mem_cons.1 hx with rfl | hx
      · have := h2 h (by simp); simp; omega
      · have := h2 x (by simp at hx ⊢; exact .inr hx); simp; omega
theorem trim_snoc (l : List UInt8) (x : UInt8) : Lib.trimSuffix (l ++ [x]) [10] = if x = 10 then l else l ++ [x] := by
  unfold Lib.trimSuffix
  by_cases h : x = 10
  · subst h
    rw [if_pos (by simp [Lib.hasSuffix]), if_pos rfl]
    simp
  · rw [if_neg (by simp [Lib.hasSuffix]; exact fun e => h e.symm), if_neg h]
theorem lines_few (t : List UInt8) : (linesOf t).length ≤ t.length + 1 ∧ ∀ x ∈ linesOf t, x.length ≤ t.length := by
  have hle : (Lib.trimSuffix t [10]).length ≤ t.length := by
    rcases List.eq_nil_or_concat t with rfl | ⟨l, x, rfl⟩
    · decide
    · rw [List.concat_eq_append, trim_snoc]
      split <;> simp
  obtain ⟨h1, h2⟩ := split_few (Lib.trimSuffix t [10])
  exact ⟨by unfold linesOf; omega, fun x hx => Nat.le_trans (h2 x hx) hle⟩
theorem lines_pre (a b : List UInt8) : ∃ more, linesOf (a ++ [10] ++ b) = linesOf (a ++ [10]) ++ more := by
  have e0 : linesOf (a ++ [10]) = splitNl a := by unfold linesOf; rw [trim_snoc, if_pos rfl]
  rcases List.eq_nil_or_concat b with rfl | ⟨b', x, rfl⟩
  · exact ⟨[], by simp⟩
  · rw [List.concat_eq_append, e0, ← List.append_assoc]
    unfold linesOf
    rw [trim_snoc]
    split
    · exact ⟨splitNl b', by rw [List.append_assoc, List.singleton_append, split_app]⟩
    · exact ⟨splitNl (b' ++ [x]), by rw [List.append_assoc, List.append_assoc, List.singleton_append, split_app]⟩
def X0 : DS := ⟨L0, 10, sy0 10, 0⟩
def RelD (t : List UInt8) (pre : List {x : List UInt8 // x ∈ linesOf t}) (X : DS) (l : List UInt8) : Prop :=
  RunD (pre.map Subtype.val) X0 [] X l ∧ XIn (600 * pre.length) X ∧ l.length ≤ 30001 * pre.length ∧ pre.length ≤ (linesOf t).length
theorem session_runs (t : List UInt8) (ht : t.length ≤ 1501) (w : World) (hn : HasNum w) (hE : HasErrT w) (h7 : 7 ≤ w.heap.size) :
    Calls Tryz.prog 23 #[.string (txt t)] w fun e w' => (∃ X l, RunD (linesOf t) X0 [] X l ∧ l.length ≤ 90000000 ∧ e = .returned (.string (txt l))) ∧ Below w.heap.size w w' := by
  obtain ⟨hf1, hf2⟩ := lines_few t
  have hnet : ∀ pre X l, RelD t pre X l → l.length ≤ 90000000 := fun pre X l h => by
    obtain ⟨_, _, h3, h4⟩ := h
    omega
  refine (session_all t w (by omega) hn hE h7 (RelD t) ⟨⟨rfl, rfl⟩, ⟨clW (SInv.new (win := 10) (by omega) (by omega)), L0_ok⟩, by simp, by simp⟩ hnet ?_).mono ?_
  · rintro pre x X l W N c D ⟨h1, h2, h3, h4⟩ hlen hdk
    refine (answer_all x.1 (by have := hf2 x.1 x.2; omega) W hdk h2 (by omega)).mono ?_
    rintro e W' ⟨s, X', rfl, hst, hX, hsl, hA⟩
    refine ⟨s, X', rfl, ⟨?_, ?_, ?_, ?_⟩, hA⟩
    · rw [List.map_append]
      exact h1.snoc hst
    · rw [List.length_append]
      exact hX.later (by simp; omega)
    · simp only [List.length_append, List.length_cons, List.length_nil]; omega
    · simp only [List.length_append, List.length_cons, List.length_nil]; omega
  · rintro e w' ⟨⟨xs, X, l, hxs, hR, rfl⟩, hB⟩
    exact ⟨⟨X, l, by rw [← hxs]; exact hR.1, hnet _ _ _ hR, rfl⟩, hB⟩
theorem runs_pre {a b l1 l2 : List UInt8} {X1 X2 : DS} (h1 : RunD (linesOf (a ++ [10])) X0 [] X1 l1) (h2 : RunD (linesOf (a ++ [10] ++ b)) X0 [] X2 l2) : ∃ t, l2 = l1 ++ t := by
  obtain ⟨more, e⟩ := lines_pre a b
  rw [e] at h2
  obtain ⟨Y, y, k1, k2⟩ := h2.app
  obtain ⟨rfl, rfl⟩ := h1.det k1
  exact k2.grows
variable {N : Nat} {c : DkC} {D : SC} {S : SY}
def AnsGo (w w' : World) (N : Nat) (c : DkC) (D : SC) (S' : SY) : Prop := ∃ D', DkIs w' N c D' L0 10 S' ∧ Mod w w' (Wr D) ∧ Gr w.heap.size D D'
theorem DkIs.stays {w w' : World} (h : DkIs w N c D L0 10 S) (hB : Below w.heap.size w w') : AnsGo w w' N c D S := ⟨D, h.below hB, Mod.ofBelow hB _, Gr.refl _ _⟩
theorem ans_no {w : World} (line x : List UInt8) (r : List (List UInt8)) (h : DkIs w N c D L0 10 S) (hl : line.length ≤ 1000000) (hw : wordsF line = x :: r) (hk : (ordTab c.d).lookup x = none) :
    Calls Tryz.prog 61 #[.pointer (some ⟨c.d, 0, none⟩), .string (txt line)] w fun e w' => e = .returned (.string (txt (errF 3))) ∧ AnsGo w w' N c D S := by
  refine (answer_no c.d c.m line x r w hl h.atW hw hk).mono ?_
  rintro e w' ⟨he, hB⟩
  exact ⟨he, h.stays hB⟩
theorem ans_tells {w : World} (line x s : List UInt8) (r : List (List UInt8)) (h : DkIs w N c D L0 10 S) (hl : line.length ≤ 1000000) (hw : wordsF line = x :: r) (a b : Int) (f : Nat) (l : List Int) (hk : (ordTab c.d).lookup x = some (ordV c.d a b f)) (ha : a ≤ (r.length : Int)) (hb : (r.length : Int) ≤ b) (hr : sayF r = some l)
    (hef : ∀ args w, (callFunc f args).run Tryz.prog w = .ok (.enter f args) w)
    (hord : ∀ V a, DkIs V N c D L0 10 S → Calls Tryz.prog f #[.pointer (some ⟨c.d, 0, none⟩), a] V fun e V' => e = .returned (.string (txt s)) ∧ Below V.heap.size V V') :
    Calls Tryz.prog 61 #[.pointer (some ⟨c.d, 0, none⟩), .string (txt line)] w fun e w' => e = .returned (.string (txt s)) ∧ AnsGo w w' N c D S := by
  refine (answer_do c.d c.m line x r w hl h.atW hw a b f l hk ha hb hr hef (fun s' V' => s' = s ∧ Below w.heap.size w V') fun V M hB _ _ _ => ?_).mono ?_
  · refine (hord V _ (h.below hB)).mono ?_
    rintro e V' ⟨rfl, hB'⟩
    exact ⟨Mod.ofBelow hB' _, s, ⟨rfl, hB.trans (hB'.mono hB.size)⟩, .inl rfl⟩
  · rintro e w' ⟨s', V', ⟨rfl, hB⟩, rfl, hm⟩
    exact ⟨rfl, h.stays (hB.trans (hm.toBelow hB.size fun k hk e => by omega))⟩
def wConf : List UInt8 := [99, 111, 110, 102, 108, 105, 99, 116, 115]
def wMost : List UInt8 := [109, 111, 115, 116]
def wShow : List UInt8 := [115, 104, 111, 119]
def t0 : List UInt8 := wConf ++ [10] ++ wMost ++ [10] ++ wShow ++ [10, 120, 10]
theorem lines_t0 : linesOf t0 = [wConf, wMost, wShow, [120]] := by decide
theorem words_conf : wordsF wConf = [wConf] := by decide
theorem words_most : wordsF wMost = [wMost] := by decide
theorem words_show : wordsF wShow = [wShow] := by decide
theorem words_x : wordsF [120] = [[120]] := by decide
theorem say_nil : sayF [] = some [] := rfl
theorem confL_L0 : confL L0 = [4, 4, 3] := by decide
theorem most_L0 : most (confs L0.zs) = 2 := by decide
def ansT (x : List UInt8) : List UInt8 := if x = wConf then spF (confL L0) else if x = wMost then spF [((most (confs L0.zs) : Nat) : Int)] else if x = wShow then showF (sy0 10).v else errF 3
def RelT (pre : List {x : List UInt8 // x ∈ linesOf t0}) (S : SY) (l : List UInt8) : Prop := S = sy0 10 ∧ l = (pre.map fun x => ansT x.1 ++ [10]).flatten ∧ pre.length ≤ 4
theorem ansT_few (x : List UInt8) (h : x ∈ linesOf t0) : (ansT x).length ≤ 20 := by
  rw [lines_t0] at h
  simp only [List.mem_cons, List.not_mem_nil, or_false] at h
  rcases h with rfl | rfl | rfl | rfl <;> exact of_decide_eq_true (by kernel_rfl)
theorem relT_few (pre : List {x : List UInt8 // x ∈ linesOf t0}) : ((pre.map fun x => ansT x.1 ++ [10]).flatten).length ≤ 21 * pre.length := by
  induction pre with
  | nil => simp
  | cons x pre ih =>
    have := ansT_few x.1 x.2
    simp only [List.map_cons, List.flatten_cons, List.length_append, List.length_cons, List.length_nil] at ih ⊢
    omega
theorem intIn_small {z : Int} (h0 : -1000 ≤ z) (h1 : z ≤ 100000) : IntIn z := ⟨by omega, by omega⟩
set_option maxHeartbeats 1000000 in
theorem talk_ans : AnsOk t0 RelT := by
  rintro pre ⟨x, hx⟩ S l W N c D ⟨rfl, rfl, hp⟩ hlen hdk
  have hx' := hx
  rw [lines_t0] at hx'
  have h4 : (linesOf t0).length = 4 := by decide
  have hlen' : pre.length < 4 := by omega
  have fin : ∀ s, s = ansT x → ∀ (e : Ending) (W' : World), e = Ending.returned (.string (txt s)) ∧ AnsGo W W' N c D (sy0 10) → ∃ s S' D', e = .returned (.string (txt s)) ∧ RelT (pre ++ [⟨x, hx⟩]) S' ((pre.map fun x => ansT x.1 ++ [10]).flatten ++ s ++ [10]) ∧ DkIs W' N c D' L0 10 S' ∧ Mod W W' (Wr D) ∧ Gr W.heap.size D D' := by
    rintro s rfl e W' ⟨rfl, D', h1, h2, h3⟩
    exact ⟨_, _, D', rfl, ⟨rfl, by simp, by simp; omega⟩, h1, h2, h3⟩
  have hvok : VOk 10 (sy0 10).v := (SInv.new (L := L0) (W := fun _ _ _ _ => True) (liar := 3) (T := 0) (by omega) (by omega)).vok
  simp only [List.mem_cons, List.not_mem_nil, or_false] at hx'
  rcases hx' with rfl | rfl | rfl | rfl
  · refine (ans_tells wConf wConf _ [] hdk (by decide) words_conf 0 0 145 [] rfl (by decide) (by decide) say_nil (enters_of Tryz.func145 (by kernel_rfl) rfl) (fun V a h => conflicts_ord V a h L0_ok ?_)).mono (fin _ rfl)
    rw [confL_L0]
    intro z hz
    simp only [List.mem_cons, List.not_mem_nil, or_false] at hz
    rcases hz with rfl | rfl | rfl <;> exact intIn_small (by decide) (by decide)
  · exact (ans_tells wMost wMost _ [] hdk (by decide) words_most 0 0 152 [] rfl (by decide) (by decide) say_nil (enters_of Tryz.func152 (by kernel_rfl) rfl) (fun V a h => most_ord V a h L0_ok (by rw [most_L0]; exact intIn_small (by decide) (by decide)))).mono (fin _ rfl)
  · exact (ans_tells wShow wShow _ [] hdk (by decide) words_show 0 0 155 [] rfl (by decide) (by decide) say_nil (enters_of Tryz.func155 (by kernel_rfl) rfl) (fun V a h => show_ord V a h hvok (by exact intIn_small (by decide) (by decide)) (by exact intIn_small (by decide) (by decide)))).mono (fin _ rfl)
  · exact (ans_no [120] [120] [] hdk (by decide) words_x rfl).mono (fin _ rfl)
theorem talk_session (w : World) (hn : HasNum w) (h7 : 7 ≤ w.heap.size) :
    Calls Tryz.prog 23 #[.string (txt t0)] w fun e w' => e = .returned (.string (txt [52, 32, 52, 32, 51, 10, 50, 10, 48, 32, 48, 32, 102, 97, 108, 115, 101, 10, 101, 114, 114, 111, 114, 32, 51, 10])) ∧ Below w.heap.size w w' := by
  refine (session_any t0 w (by decide) hn h7 RelT ⟨rfl, rfl, by decide⟩ (fun pre S l h => ⟨by rw [h.1]; rfl, by have := relT_few pre; rw [← h.2.1] at this; have := h.2.2; omega⟩) talk_ans).mono ?_
  rintro e w' ⟨⟨xs, S, l, hxs, hR, rfl⟩, hB⟩
  refine ⟨?_, hB⟩
  have e1 : (xs.map fun x => ansT x.1 ++ [10]) = (xs.map Subtype.val).map fun x => ansT x ++ [10] := by rw [List.map_map]; rfl
  have e2 : ([wConf, wMost, wShow, [120]].map fun x => ansT x ++ [10]).flatten = [52, 32, 52, 32, 51, 10, 50, 10, 48, 32, 48, 32, 102, 97, 108, 115, 101, 10, 101, 114, 114, 111, 114, 32, 51, 10] := by kernel_rfl
  rw [hR.2.1, e1, hxs, lines_t0, e2]
set_option maxHeartbeats 1000000 in
theorem talks_any (w : World) (hn : HasNum w) (h7 : 7 ≤ w.heap.size) :
    Calls Tryz.prog 22 #[] w fun e w' => e = .returned (.bool true) ∧ Below w.heap.size w w' := by
  have HT := hide (talk_session w hn h7)
  clear hn h7
  go_enter Tryz.func22, Tryz.ntmps22
  go_wp2_with (go_at_call 23; refine HT.out.mono ?_; rintro e w1 ⟨rfl, hB⟩)
  go_ret
  exact ⟨rfl, hB⟩
set_option maxRecDepth 20000 in
set_option maxHeartbeats 1000000 in
theorem pieces_true (la lb : List UInt8) (ha : la.length ≤ 140737488355328) (hb : lb.length ≤ 140737488355328) (w : World) (hn : HasNum w) (hE : HasErrT w) (h7 : 7 ≤ w.heap.size) :
    Calls Tryz.prog 5 #[.string (txt la), .string (txt lb)] w fun e w' => e = .returned (.bool true) ∧ Below w.heap.size w w' := by
  have hwr : wrap64 ((la.length : Int) + (lb.length : Int)) = (la.length : Int) + (lb.length : Int) := IntWalk.wrap64_in _ ⟨by omega, by omega⟩
  by_cases hlong : 1500 < la.length + lb.length
  · have t1 : decide (1500 < (la.length : Int) + (lb.length : Int)) = true := decide_eq_true (by omega)
    have t2 : (1500 : Int) < (la.length : Int) + (lb.length : Int) := by omega
    clear hn hE h7 ha hb
    go_enter Tryz.func5, Tryz.ntmps5
    go_wp2
    go_ret
    exact ⟨rfl, Below.refl _ _⟩
  · have t1 : decide (1500 < (la.length : Int) + (lb.length : Int)) = false := decide_eq_false (by omega)
    have t2 : ¬ (1500 : Int) < (la.length : Int) + (lb.length : Int) := by omega
    have HTK := hide (talks_any w hn h7)
    have e1 : txt la ++ ⟨#[10]⟩ = txt (la ++ [10]) := txt_add la [10]
    have e2 : txt la ++ ⟨#[10]⟩ ++ txt lb = txt (la ++ [10] ++ lb) := by rw [e1, txt_add]
    have HS1 : Hid (∀ Y, Below w.heap.size w Y → Calls Tryz.prog 23 #[.string (txt la ++ ⟨#[10]⟩)] Y fun e w' => (∃ X l, Hid (RunD (linesOf (la ++ [10])) X0 [] X l) ∧ l.length ≤ 90000000 ∧ e = .returned (.string (txt l))) ∧ Below Y.heap.size Y w') := hide fun Y hY => by
      rw [e1]
      exact (session_runs (la ++ [10]) (by simp; omega) Y (hn.below hY) (hE.lo hY h7) (Nat.le_trans h7 hY.size)).mono fun e w' hh => by
        obtain ⟨⟨X, l, a1, a2, a3⟩, hB⟩ := hh
        exact ⟨⟨X, l, hide a1, a2, a3⟩, hB⟩
    have HS2 : Hid (∀ Y, Below w.heap.size w Y → Calls Tryz.prog 23 #[.string (txt la ++ ⟨#[10]⟩ ++ txt lb)] Y fun e w' => (∃ X l, Hid (RunD (linesOf (la ++ [10] ++ lb)) X0 [] X l) ∧ l.length ≤ 90000000 ∧ e = .returned (.string (txt l))) ∧ Below Y.heap.size Y w') := hide fun Y hY => by
      rw [e2]
      exact (session_runs (la ++ [10] ++ lb) (by simp; omega) Y (hn.below hY) (hE.lo hY h7) (Nat.le_trans h7 hY.size)).mono fun e w' hh => by
        obtain ⟨⟨X, l, a1, a2, a3⟩, hB⟩ := hh
        exact ⟨⟨X, l, hide a1, a2, a3⟩, hB⟩
    have l1 : ¬ 9223372036854775807 < la.length + 1 := by omega
    have l2 : ¬ 9223372036854775807 < la.length + 1 + lb.length := by omega
    clear hn hE h7 ha hb hlong e1 e2
    go_enter Tryz.func5, Tryz.ntmps5
    go_wp2_with fail
    refine HTK.out.mono ?_
    rintro e w1 ⟨rfl, hB1⟩
    have HB1 := hide hB1
    clear hB1 HTK
    go_wp2_with fail
    refine (HS1.out _ HB1.out).mono ?_
    rintro e w2 ⟨⟨X1, m1, HR1, hm1, rfl⟩, hB2⟩
    have HB2 := hide (HB1.out.trans (hB2.mono HB1.out.size))
    clear hB2 HB1 HS1
    go_wp2_with fail
    refine (HS2.out _ HB2.out).mono ?_
    rintro e w3 ⟨⟨X2, m2, HR2, hm2, rfl⟩, hB3⟩
    have HB3 := hide (HB2.out.trans (hB3.mono HB2.out.size))
    clear hB3 HB2 HS2
    obtain ⟨t, rfl⟩ := runs_pre HR1.out HR2.out
    have hlt : m1.length ≤ (m1 ++ t).length := by simp
    have k1 : (m1.length : Int) ≤ ((m1 ++ t).length : Int) := by omega
    have k2 : decide ((m1.length : Int) ≤ ((m1 ++ t).length : Int)) = true := decide_eq_true k1
    have hx : (txt (m1 ++ t)).extract 0 m1.length = txt m1 := by rw [txt_take]; simp
    clear HR1 HR2 l1 l2 hwr t1 t2
    generalize hq : m1 ++ t = q at hlt k1 k2 hx hm2 ⊢
    clear hq
    go_wp2
    go_ret
    exact ⟨rfl, HB3.out⟩
end Go.Proofs.YtaablbmgagiajabGreatDoor
