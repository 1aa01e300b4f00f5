import Derived.Test.YtaablbmgagiajabGreatDoorPGBO
namespace Go.Proofs.YtaablbmgagiajabGreatDoor
open Go.RowKit Go.Deep
variable {N : Nat} {c : DkC} {D : SC} {X : DS}
def DoesOr (w w' : World) (N : Nat) (D : SC) (X : DS) (op : Option DS) (e : Ending) : Prop :=
  (e = .returned .nilIface ∧ ∃ S' c', op = some ⟨X.L, X.win, S', c'⟩ ∧ SyGoC w w' N D X.L X.win S' c') ∨ (op = none ∧ e = .returned (.iface 74 (.int .i64 2)) ∧ Below w.heap.size w w')
def TellsOr (w w' : World) (c : DkC) (D : SC) (X : DS) (op : Option DS) (t : List UInt8) (e : Ending) : Prop :=
  (∃ X', op = some X' ∧ e = .returned (.string (txt t)) ∧ AnsP w w' c D X') ∨ (op = none ∧ e = thrown 2 ∧ AnsP w w' c D X)
theorem err2 (w : World) (lo : Nat) : IsErr w lo (2, -1) (.iface 74 (.int .i64 2)) := .inr (.inl ⟨by decide, rfl, rfl⟩)
theorem throw2 (w : World) (hg : HasErrT w) : Calls Tryz.prog 159 #[.iface 74 (.int .i64 2)] w fun e w' => e = thrown 2 ∧ Below w.heap.size w w' := throw_err w 0 (2, -1) _ (err2 w 0) (by decide) hg
theorem does_held {V w' : World} {M : Nat} {z : Int} {op : Option DS} {e : Ending} (h : DkP V N c D X) (hz : V.cell? ⟨M, 0, none⟩ = some (.int .i64 z)) (hM : ¬ Wr D M) (hd : DoesOr V.drew w' N D X op e) :
    (w'.cell? ⟨c.d, 3, none⟩ = some (.pointer (some ⟨D.p, 0, none⟩)) ∧ w'.cell? ⟨M, 0, none⟩ = some (.int .i64 z)) ∧ ((e = .returned .nilIface ∧ ∃ X', op = some X' ∧ Hid (AnsP V w' c D X')) ∨ (op = none ∧ e = .returned (.iface 74 (.int .i64 2)) ∧ Hid (AnsP V w' c D X ∧ HasErrT w'))) := by
  have hMl := World.block_lt_of_cell? V _ hz
  have hdl : c.d < V.heap.size := h.lt (.inl rfl)
  have hB : Below V.heap.size V V.drew := (Below.refl _ _).drew
  have c3 := h.dk.c3
  have key : Mod V w' (Wr D) → w'.cell? ⟨c.d, 3, none⟩ = some (.pointer (some ⟨D.p, 0, none⟩)) ∧ w'.cell? ⟨M, 0, none⟩ = some (.int .i64 z) := fun hm => ⟨(World.cell?_of_block (w := V) (a := ⟨c.d, 3, none⟩) (hm.block c.d hdl fun hw => (h.ne hw).1 rfl)).trans c3, (World.cell?_of_block (w := V) (a := ⟨M, 0, none⟩) (hm.block M hMl hM)).trans hz⟩
  rcases hd with ⟨rfl, S', c', ho, hg⟩ | ⟨ho, rfl, hb⟩
  · have hg' := hg.pre hB
    obtain ⟨D', hp, hs, hm, hgr, hc⟩ := hg'
    exact ⟨key hm, .inl ⟨rfl, _, ho, hide (h.went (hg.pre hB))⟩⟩
  · have hb' : Below V.heap.size V w' := hB.trans hb
    exact ⟨key (Mod.ofBelow hb' _), .inr ⟨ho, rfl, hide ⟨h.stays hb', (h.below hb').err⟩⟩⟩
set_option maxHeartbeats 1000000 in
set_option maxRecDepth 20000 in
theorem ask_P (V : World) (M n cap : Nat) (z : Int) (op : Option DS) (h : DkP V N c D X) (hn : 0 < n) (hz : V.cell? ⟨M, 0, none⟩ = some (.int .i64 z)) (hM : ¬ Wr D M)
    (hC : ∀ W, DkP W N c D X → Calls Tryz.prog 33 #[.pointer (some ⟨D.p, 0, none⟩), .int .i64 z] W fun e W' => DoesOr W W' N D X op e) :
    Calls Tryz.prog 143 #[.pointer (some ⟨c.d, 0, none⟩), .slice (some ⟨M, 0, none⟩) n cap] V fun e V' => TellsOr V V' c D X op [97, 115, 107] e := by
  have hSd : V.drew.cell? ⟨c.d, 3, none⟩ = some (.pointer (some ⟨D.p, 0, none⟩)) ∧ V.drew.cell? ⟨M, 0, none⟩ = some (.int .i64 z) := by simpa using ⟨h.dk.c3, hz⟩
  have HC := hide ((hC V.drew (h.below (Below.refl _ _).drew)).mono fun e w' hd => does_held h hz hM hd)
  have hn' : (0 : Int) < (n : Int) := by omega
  clear h hz hC
  go_enter Tryz.func143, Tryz.ntmps143
  go_wp2_with fail
  refine wp_region_held_drew (S := fun Y => Y.cell? ⟨c.d, 3, none⟩ = some (.pointer (some ⟨D.p, 0, none⟩)) ∧ Y.cell? ⟨M, 0, none⟩ = some (.int .i64 z)) (by kernel_rfl) hSd (fun hHeld => ?_)
  refine wpAnyH_take (i := 0) (oi := _) (v := .pointer (some ⟨c.d, 0, none⟩)) rfl (by kernel_rfl) (by kernel_rfl) (by kernel_rfl) (fun _ _ _ h => h) (Or.inl ⟨by rfl, fun w _ => by go_simp⟩) hHeld ?_
  simp only [Act.put, List.getElem_toArray, List.getElem_cons_zero, List.setIfInBounds_toArray, List.set_cons_succ, List.set_cons_zero]
  refine wpAnyH_take (i := 1) (oi := _) (v := .pointer (some ⟨c.d, 0, none⟩)) rfl (by kernel_rfl) (by kernel_rfl) (by kernel_rfl) (fun _ _ _ h => h) (Or.inl ⟨by rfl, fun w _ => by go_simp⟩) hHeld ?_
  simp only [Act.put, List.getElem_toArray, List.getElem_cons_succ, List.getElem_cons_zero, List.setIfInBounds_toArray, List.set_cons_succ, List.set_cons_zero]
  refine wpAnyH_take (i := 2) (oi := _) (v := .pointer (some ⟨c.d, 3, none⟩)) rfl (by kernel_rfl) (by kernel_rfl) (by kernel_rfl) (fun _ _ _ h => h) (Or.inl ⟨by rfl, fun w _ => by go_simp⟩) hHeld ?_
  simp only [Act.put, List.getElem_toArray, List.getElem_cons_succ, List.getElem_cons_zero, List.setIfInBounds_toArray, List.set_cons_succ, List.set_cons_zero]
  refine wpAnyH_take (i := 3) (oi := _) (v := .pointer (some ⟨D.p, 0, none⟩)) rfl (by kernel_rfl) (by kernel_rfl) (by kernel_rfl) (fun _ _ _ h => h) (Or.inl ⟨by rfl, fun w h => by obtain ⟨h1, h2⟩ := h; go_simp⟩) hHeld ?_
  simp only [Act.put, List.getElem_toArray, List.getElem_cons_succ, List.getElem_cons_zero, List.setIfInBounds_toArray, List.set_cons_succ, List.set_cons_zero]
  refine wpAnyH_take (i := 4) (oi := _) (v := .slice (some ⟨M, 0, none⟩) n cap) rfl (by kernel_rfl) (by kernel_rfl) (by kernel_rfl) (fun _ _ _ h => h) (Or.inl ⟨by rfl, fun w _ => by go_simp⟩) hHeld ?_
  simp only [Act.put, List.getElem_toArray, List.getElem_cons_succ, List.getElem_cons_zero, List.setIfInBounds_toArray, List.set_cons_succ, List.set_cons_zero]
  refine wpAnyH_take (i := 5) (oi := _) (v := .pointer (some ⟨M, 0, none⟩)) rfl (by kernel_rfl) (by kernel_rfl) (by kernel_rfl) (fun _ _ _ h => h) (Or.inl ⟨by rfl, fun w _ => by go_simp⟩) hHeld ?_
  simp only [Act.put, List.getElem_toArray, List.getElem_cons_succ, List.getElem_cons_zero, List.setIfInBounds_toArray, List.set_cons_succ, List.set_cons_zero]
  refine wpAnyH_take (i := 6) (oi := _) (v := .int .i64 z) rfl (by kernel_rfl) (by kernel_rfl) (by kernel_rfl) (fun _ _ _ h => h) (Or.inl ⟨by rfl, fun w h => by obtain ⟨h1, h2⟩ := h; go_simp⟩) hHeld ?_
  simp only [Act.put, List.getElem_toArray, List.getElem_cons_succ, List.getElem_cons_zero, List.setIfInBounds_toArray, List.set_cons_succ, List.set_cons_zero]
  refine wpAnyH_ready (rs := [7]) (by kernel_rfl) (by simp) ?_
  refine AllReadyH.cons (o := _) rfl (fun K hK => ?_) AllReadyH.nil
  rw [if_pos (by rfl)]
  go_simp
  go_at_call 33
  refine HC.out.mono ?_
  rintro e w1 ⟨hS1, ⟨rfl, X', hX', HA⟩ | ⟨hop, rfl, HA⟩⟩
  · dsimp only
    refine hK.out _ _ hS1 (fun hHeld => ?_)
    clear hK K
    refine wpAnyH_ready (rs := [8]) (by kernel_rfl) (by simp) ?_
    refine AllReadyH.cons (o := _) rfl (fun K hK => ?_) AllReadyH.nil
    rw [if_pos (by rfl)]
    go_simp
    go_at_call 159
    refine (throw_nil _).mono ?_
    rintro e w2 ⟨rfl, rfl⟩
    dsimp only
    refine hK.out _ _ hS1 (fun hHeld => ?_)
    clear hK K
    refine wpAnyH_done (by kernel_rfl) ?_ _
    go_wp2
    go_ret
    exact .inl ⟨X', hX', rfl, HA.out⟩
  · dsimp only
    refine hK.out _ _ hS1 (fun hHeld => ?_)
    clear hK K
    refine wpAnyH_ready (rs := [8]) (by kernel_rfl) (by simp) ?_
    refine AllReadyH.cons (o := _) rfl (fun K hK => ?_) AllReadyH.nil
    rw [if_pos (by rfl)]
    go_simp
    go_at_call 159
    refine (throw2 _ HA.out.2).mono ?_
    rintro e w2 ⟨rfl, hB2⟩
    unfold thrown
    dsimp only
    exact ⟨rfl, .inr ⟨hop, rfl, HA.out.1.below hB2⟩⟩
set_option maxHeartbeats 1000000 in
set_option maxRecDepth 20000 in
theorem tick_P (V : World) (M n cap : Nat) (z : Int) (op : Option DS) (h : DkP V N c D X) (hn : 0 < n) (hz : V.cell? ⟨M, 0, none⟩ = some (.int .i64 z)) (hM : ¬ Wr D M)
    (hC : ∀ W, DkP W N c D X → Calls Tryz.prog 32 #[.pointer (some ⟨D.p, 0, none⟩), .int .i64 z] W fun e W' => DoesOr W W' N D X op e) :
    Calls Tryz.prog 156 #[.pointer (some ⟨c.d, 0, none⟩), .slice (some ⟨M, 0, none⟩) n cap] V fun e V' => TellsOr V V' c D X op [116, 105, 99, 107] e := by
  have hSd : V.drew.cell? ⟨c.d, 3, none⟩ = some (.pointer (some ⟨D.p, 0, none⟩)) ∧ V.drew.cell? ⟨M, 0, none⟩ = some (.int .i64 z) := by simpa using ⟨h.dk.c3, hz⟩
  have HC := hide ((hC V.drew (h.below (Below.refl _ _).drew)).mono fun e w' hd => does_held h hz hM hd)
  have hn' : (0 : Int) < (n : Int) := by omega
  clear h hz hC
  go_enter Tryz.func156, Tryz.ntmps156
  go_wp2_with fail
  refine wp_region_held_drew (S := fun Y => Y.cell? ⟨c.d, 3, none⟩ = some (.pointer (some ⟨D.p, 0, none⟩)) ∧ Y.cell? ⟨M, 0, none⟩ = some (.int .i64 z)) (by kernel_rfl) hSd (fun hHeld => ?_)
  refine wpAnyH_take (i := 0) (oi := _) (v := .pointer (some ⟨c.d, 0, none⟩)) rfl (by kernel_rfl) (by kernel_rfl) (by kernel_rfl) (fun _ _ _ h => h) (Or.inl ⟨by rfl, fun w _ => by go_simp⟩) hHeld ?_
  simp only [Act.put, List.getElem_toArray, List.getElem_cons_zero, List.setIfInBounds_toArray, List.set_cons_succ, List.set_cons_zero]
  refine wpAnyH_take (i := 1) (oi := _) (v := .pointer (some ⟨c.d, 0, none⟩)) rfl (by kernel_rfl) (by kernel_rfl) (by kernel_rfl) (fun _ _ _ h => h) (Or.inl ⟨by rfl, fun w _ => by go_simp⟩) hHeld ?_
  simp only [Act.put, List.getElem_toArray, List.getElem_cons_succ, List.getElem_cons_zero, List.setIfInBounds_toArray, List.set_cons_succ, List.set_cons_zero]
  refine wpAnyH_take (i := 2) (oi := _) (v := .pointer (some ⟨c.d, 3, none⟩)) rfl (by kernel_rfl) (by kernel_rfl) (by kernel_rfl) (fun _ _ _ h => h) (Or.inl ⟨by rfl, fun w _ => by go_simp⟩) hHeld ?_
  simp only [Act.put, List.getElem_toArray, List.getElem_cons_succ, List.getElem_cons_zero, List.setIfInBounds_toArray, List.set_cons_succ, List.set_cons_zero]
  refine wpAnyH_take (i := 3) (oi := _) (v := .pointer (some ⟨D.p, 0, none⟩)) rfl (by kernel_rfl) (by kernel_rfl) (by kernel_rfl) (fun _ _ _ h => h) (Or.inl ⟨by rfl, fun w h => by obtain ⟨h1, h2⟩ := h; go_simp⟩) hHeld ?_
  simp only [Act.put, List.getElem_toArray, List.getElem_cons_succ, List.getElem_cons_zero, List.setIfInBounds_toArray, List.set_cons_succ, List.set_cons_zero]
  refine wpAnyH_take (i := 4) (oi := _) (v := .slice (some ⟨M, 0, none⟩) n cap) rfl (by kernel_rfl) (by kernel_rfl) (by kernel_rfl) (fun _ _ _ h => h) (Or.inl ⟨by rfl, fun w _ => by go_simp⟩) hHeld ?_
  simp only [Act.put, List.getElem_toArray, List.getElem_cons_succ, List.getElem_cons_zero, List.setIfInBounds_toArray, List.set_cons_succ, List.set_cons_zero]
  refine wpAnyH_take (i := 5) (oi := _) (v := .pointer (some ⟨M, 0, none⟩)) rfl (by kernel_rfl) (by kernel_rfl) (by kernel_rfl) (fun _ _ _ h => h) (Or.inl ⟨by rfl, fun w _ => by go_simp⟩) hHeld ?_
  simp only [Act.put, List.getElem_toArray, List.getElem_cons_succ, List.getElem_cons_zero, List.setIfInBounds_toArray, List.set_cons_succ, List.set_cons_zero]
  refine wpAnyH_take (i := 6) (oi := _) (v := .int .i64 z) rfl (by kernel_rfl) (by kernel_rfl) (by kernel_rfl) (fun _ _ _ h => h) (Or.inl ⟨by rfl, fun w h => by obtain ⟨h1, h2⟩ := h; go_simp⟩) hHeld ?_
  simp only [Act.put, List.getElem_toArray, List.getElem_cons_succ, List.getElem_cons_zero, List.setIfInBounds_toArray, List.set_cons_succ, List.set_cons_zero]
  refine wpAnyH_ready (rs := [7]) (by kernel_rfl) (by simp) ?_
  refine AllReadyH.cons (o := _) rfl (fun K hK => ?_) AllReadyH.nil
  rw [if_pos (by rfl)]
  go_simp
  go_at_call 32
  refine HC.out.mono ?_
  rintro e w1 ⟨hS1, ⟨rfl, X', hX', HA⟩ | ⟨hop, rfl, HA⟩⟩
  · dsimp only
    refine hK.out _ _ hS1 (fun hHeld => ?_)
    clear hK K
    refine wpAnyH_ready (rs := [8]) (by kernel_rfl) (by simp) ?_
    refine AllReadyH.cons (o := _) rfl (fun K hK => ?_) AllReadyH.nil
    rw [if_pos (by rfl)]
    go_simp
    go_at_call 159
    refine (throw_nil _).mono ?_
    rintro e w2 ⟨rfl, rfl⟩
    dsimp only
    refine hK.out _ _ hS1 (fun hHeld => ?_)
    clear hK K
    refine wpAnyH_done (by kernel_rfl) ?_ _
    go_wp2
    go_ret
    exact .inl ⟨X', hX', rfl, HA.out⟩
  · dsimp only
    refine hK.out _ _ hS1 (fun hHeld => ?_)
    clear hK K
    refine wpAnyH_ready (rs := [8]) (by kernel_rfl) (by simp) ?_
    refine AllReadyH.cons (o := _) rfl (fun K hK => ?_) AllReadyH.nil
    rw [if_pos (by rfl)]
    go_simp
    go_at_call 159
    refine (throw2 _ HA.out.2).mono ?_
    rintro e w2 ⟨rfl, hB2⟩
    unfold thrown
    dsimp only
    exact ⟨rfl, .inr ⟨hop, rfl, HA.out.1.below hB2⟩⟩
set_option maxHeartbeats 1000000 in
set_option maxRecDepth 20000 in
theorem deliver_P (V : World) (M n cap : Nat) (z : Int) (op : Option DS) (h : DkP V N c D X) (hn : 0 < n) (hz : V.cell? ⟨M, 0, none⟩ = some (.int .i64 z)) (hM : ¬ Wr D M)
    (hC : ∀ W, DkP W N c D X → Calls Tryz.prog 34 #[.pointer (some ⟨D.p, 0, none⟩), .int .i64 z] W fun e W' => DoesOr W W' N D X op e) :
    Calls Tryz.prog 147 #[.pointer (some ⟨c.d, 0, none⟩), .slice (some ⟨M, 0, none⟩) n cap] V fun e V' => TellsOr V V' c D X op [100, 101, 108, 105, 118, 101, 114] e := by
  have hSd : V.drew.cell? ⟨c.d, 3, none⟩ = some (.pointer (some ⟨D.p, 0, none⟩)) ∧ V.drew.cell? ⟨M, 0, none⟩ = some (.int .i64 z) := by simpa using ⟨h.dk.c3, hz⟩
  have HC := hide ((hC V.drew (h.below (Below.refl _ _).drew)).mono fun e w' hd => does_held h hz hM hd)
  have hn' : (0 : Int) < (n : Int) := by omega
  clear h hz hC
  go_enter Tryz.func147, Tryz.ntmps147
  go_wp2_with fail
  refine wp_region_held_drew (S := fun Y => Y.cell? ⟨c.d, 3, none⟩ = some (.pointer (some ⟨D.p, 0, none⟩)) ∧ Y.cell? ⟨M, 0, none⟩ = some (.int .i64 z)) (by kernel_rfl) hSd (fun hHeld => ?_)
  refine wpAnyH_take (i := 0) (oi := _) (v := .pointer (some ⟨c.d, 0, none⟩)) rfl (by kernel_rfl) (by kernel_rfl) (by kernel_rfl) (fun _ _ _ h => h) (Or.inl ⟨by rfl, fun w _ => by go_simp⟩) hHeld ?_
  simp only [Act.put, List.getElem_toArray, List.getElem_cons_zero, List.setIfInBounds_toArray, List.set_cons_succ, List.set_cons_zero]
  refine wpAnyH_take (i := 1) (oi := _) (v := .pointer (some ⟨c.d, 0, none⟩)) rfl (by kernel_rfl) (by kernel_rfl) (by kernel_rfl) (fun _ _ _ h => h) (Or.inl ⟨by rfl, fun w _ => by go_simp⟩) hHeld ?_
  simp only [Act.put, List.getElem_toArray, List.getElem_cons_succ, List.getElem_cons_zero, List.setIfInBounds_toArray, List.set_cons_succ, List.set_cons_zero]
  refine wpAnyH_take (i := 2) (oi := _) (v := .pointer (some ⟨c.d, 3, none⟩)) rfl (by kernel_rfl) (by kernel_rfl) (by kernel_rfl) (fun _ _ _ h => h) (Or.inl ⟨by rfl, fun w _ => by go_simp⟩) hHeld ?_
  simp only [Act.put, List.getElem_toArray, List.getElem_cons_succ, List.getElem_cons_zero, List.setIfInBounds_toArray, List.set_cons_succ, List.set_cons_zero]
  refine wpAnyH_take (i := 3) (oi := _) (v := .pointer (some ⟨D.p, 0, none⟩)) rfl (by kernel_rfl) (by kernel_rfl) (by kernel_rfl) (fun _ _ _ h => h) (Or.inl ⟨by rfl, fun w h => by obtain ⟨h1, h2⟩ := h; go_simp⟩) hHeld ?_
  simp only [Act.put, List.getElem_toArray, List.getElem_cons_succ, List.getElem_cons_zero, List.setIfInBounds_toArray, List.set_cons_succ, List.set_cons_zero]
  refine wpAnyH_take (i := 4) (oi := _) (v := .slice (some ⟨M, 0, none⟩) n cap) rfl (by kernel_rfl) (by kernel_rfl) (by kernel_rfl) (fun _ _ _ h => h) (Or.inl ⟨by rfl, fun w _ => by go_simp⟩) hHeld ?_
  simp only [Act.put, List.getElem_toArray, List.getElem_cons_succ, List.getElem_cons_zero, List.setIfInBounds_toArray, List.set_cons_succ, List.set_cons_zero]
  refine wpAnyH_take (i := 5) (oi := _) (v := .pointer (some ⟨M, 0, none⟩)) rfl (by kernel_rfl) (by kernel_rfl) (by kernel_rfl) (fun _ _ _ h => h) (Or.inl ⟨by rfl, fun w _ => by go_simp⟩) hHeld ?_
  simp only [Act.put, List.getElem_toArray, List.getElem_cons_succ, List.getElem_cons_zero, List.setIfInBounds_toArray, List.set_cons_succ, List.set_cons_zero]
  refine wpAnyH_take (i := 6) (oi := _) (v := .int .i64 z) rfl (by kernel_rfl) (by kernel_rfl) (by kernel_rfl) (fun _ _ _ h => h) (Or.inl ⟨by rfl, fun w h => by obtain ⟨h1, h2⟩ := h; go_simp⟩) hHeld ?_
  simp only [Act.put, List.getElem_toArray, List.getElem_cons_succ, List.getElem_cons_zero, List.setIfInBounds_toArray, List.set_cons_succ, List.set_cons_zero]
  refine wpAnyH_ready (rs := [7]) (by kernel_rfl) (by simp) ?_
  refine AllReadyH.cons (o := _) rfl (fun K hK => ?_) AllReadyH.nil
  rw [if_pos (by rfl)]
  go_simp
  go_at_call 34
  refine HC.out.mono ?_
  rintro e w1 ⟨hS1, ⟨rfl, X', hX', HA⟩ | ⟨hop, rfl, HA⟩⟩
  · dsimp only
    refine hK.out _ _ hS1 (fun hHeld => ?_)
    clear hK K
    refine wpAnyH_ready (rs := [8]) (by kernel_rfl) (by simp) ?_
    refine AllReadyH.cons (o := _) rfl (fun K hK => ?_) AllReadyH.nil
    rw [if_pos (by rfl)]
    go_simp
    go_at_call 159
    refine (throw_nil _).mono ?_
    rintro e w2 ⟨rfl, rfl⟩
    dsimp only
    refine hK.out _ _ hS1 (fun hHeld => ?_)
    clear hK K
    refine wpAnyH_done (by kernel_rfl) ?_ _
    go_wp2
    go_ret
    exact .inl ⟨X', hX', rfl, HA.out⟩
  · dsimp only
    refine hK.out _ _ hS1 (fun hHeld => ?_)
    clear hK K
    refine wpAnyH_ready (rs := [8]) (by kernel_rfl) (by simp) ?_
    refine AllReadyH.cons (o := _) rfl (fun K hK => ?_) AllReadyH.nil
    rw [if_pos (by rfl)]
    go_simp
    go_at_call 159
    refine (throw2 _ HA.out.2).mono ?_
    rintro e w2 ⟨rfl, hB2⟩
    unfold thrown
    dsimp only
    exact ⟨rfl, .inr ⟨hop, rfl, HA.out.1.below hB2⟩⟩
set_option maxHeartbeats 1000000 in
set_option maxRecDepth 20000 in
theorem lose_P (V : World) (M n cap : Nat) (z : Int) (op : Option DS) (h : DkP V N c D X) (hn : 0 < n) (hz : V.cell? ⟨M, 0, none⟩ = some (.int .i64 z)) (hM : ¬ Wr D M)
    (hC : ∀ W, DkP W N c D X → Calls Tryz.prog 35 #[.pointer (some ⟨D.p, 0, none⟩), .int .i64 z] W fun e W' => DoesOr W W' N D X op e) :
    Calls Tryz.prog 150 #[.pointer (some ⟨c.d, 0, none⟩), .slice (some ⟨M, 0, none⟩) n cap] V fun e V' => TellsOr V V' c D X op [108, 111, 115, 101] e := by
  have hSd : V.drew.cell? ⟨c.d, 3, none⟩ = some (.pointer (some ⟨D.p, 0, none⟩)) ∧ V.drew.cell? ⟨M, 0, none⟩ = some (.int .i64 z) := by simpa using ⟨h.dk.c3, hz⟩
  have HC := hide ((hC V.drew (h.below (Below.refl _ _).drew)).mono fun e w' hd => does_held h hz hM hd)
  have hn' : (0 : Int) < (n : Int) := by omega
  clear h hz hC
  go_enter Tryz.func150, Tryz.ntmps150
  go_wp2_with fail
  refine wp_region_held_drew (S := fun Y => Y.cell? ⟨c.d, 3, none⟩ = some (.pointer (some ⟨D.p, 0, none⟩)) ∧ Y.cell? ⟨M, 0, none⟩ = some (.int .i64 z)) (by kernel_rfl) hSd (fun hHeld => ?_)
  refine wpAnyH_take (i := 0) (oi := _) (v := .pointer (some ⟨c.d, 0, none⟩)) rfl (by kernel_rfl) (by kernel_rfl) (by kernel_rfl) (fun _ _ _ h => h) (Or.inl ⟨by rfl, fun w _ => by go_simp⟩) hHeld ?_
  simp only [Act.put, List.getElem_toArray, List.getElem_cons_zero, List.setIfInBounds_toArray, List.set_cons_succ, List.set_cons_zero]
  refine wpAnyH_take (i := 1) (oi := _) (v := .pointer (some ⟨c.d, 0, none⟩)) rfl (by kernel_rfl) (by kernel_rfl) (by kernel_rfl) (fun _ _ _ h => h) (Or.inl ⟨by rfl, fun w _ => by go_simp⟩) hHeld ?_
  simp only [Act.put, List.getElem_toArray, List.getElem_cons_succ, List.getElem_cons_zero, List.setIfInBounds_toArray, List.set_cons_succ, List.set_cons_zero]
  refine wpAnyH_take (i := 2) (oi := _) (v := .pointer (some ⟨c.d, 3, none⟩)) rfl (by kernel_rfl) (by kernel_rfl) (by kernel_rfl) (fun _ _ _ h => h) (Or.inl ⟨by rfl, fun w _ => by go_simp⟩) hHeld ?_
  simp only [Act.put, List.getElem_toArray, List.getElem_cons_succ, List.getElem_cons_zero, List.setIfInBounds_toArray, List.set_cons_succ, List.set_cons_zero]
  refine wpAnyH_take (i := 3) (oi := _) (v := .pointer (some ⟨D.p, 0, none⟩)) rfl (by kernel_rfl) (by kernel_rfl) (by kernel_rfl) (fun _ _ _ h => h) (Or.inl ⟨by rfl, fun w h => by obtain ⟨h1, h2⟩ := h; go_simp⟩) hHeld ?_
  simp only [Act.put, List.getElem_toArray, List.getElem_cons_succ, List.getElem_cons_zero, List.setIfInBounds_toArray, List.set_cons_succ, List.set_cons_zero]
  refine wpAnyH_take (i := 4) (oi := _) (v := .slice (some ⟨M, 0, none⟩) n cap) rfl (by kernel_rfl) (by kernel_rfl) (by kernel_rfl) (fun _ _ _ h => h) (Or.inl ⟨by rfl, fun w _ => by go_simp⟩) hHeld ?_
  simp only [Act.put, List.getElem_toArray, List.getElem_cons_succ, List.getElem_cons_zero, List.setIfInBounds_toArray, List.set_cons_succ, List.set_cons_zero]
  refine wpAnyH_take (i := 5) (oi := _) (v := .pointer (some ⟨M, 0, none⟩)) rfl (by kernel_rfl) (by kernel_rfl) (by kernel_rfl) (fun _ _ _ h => h) (Or.inl ⟨by rfl, fun w _ => by go_simp⟩) hHeld ?_
  simp only [Act.put, List.getElem_toArray, List.getElem_cons_succ, List.getElem_cons_zero, List.setIfInBounds_toArray, List.set_cons_succ, List.set_cons_zero]
  refine wpAnyH_take (i := 6) (oi := _) (v := .int .i64 z) rfl (by kernel_rfl) (by kernel_rfl) (by kernel_rfl) (fun _ _ _ h => h) (Or.inl ⟨by rfl, fun w h => by obtain ⟨h1, h2⟩ := h; go_simp⟩) hHeld ?_
  simp only [Act.put, List.getElem_toArray, List.getElem_cons_succ, List.getElem_cons_zero, List.setIfInBounds_toArray, List.set_cons_succ, List.set_cons_zero]
  refine wpAnyH_ready (rs := [7]) (by kernel_rfl) (by simp) ?_
  refine AllReadyH.cons (o := _) rfl (fun K hK => ?_) AllReadyH.nil
  rw [if_pos (by rfl)]
  go_simp
  go_at_call 35
  refine HC.out.mono ?_
  rintro e w1 ⟨hS1, ⟨rfl, X', hX', HA⟩ | ⟨hop, rfl, HA⟩⟩
  · dsimp only
    refine hK.out _ _ hS1 (fun hHeld => ?_)
    clear hK K
    refine wpAnyH_ready (rs := [8]) (by kernel_rfl) (by simp) ?_
    refine AllReadyH.cons (o := _) rfl (fun K hK => ?_) AllReadyH.nil
    rw [if_pos (by rfl)]
    go_simp
    go_at_call 159
    refine (throw_nil _).mono ?_
    rintro e w2 ⟨rfl, rfl⟩
    dsimp only
    refine hK.out _ _ hS1 (fun hHeld => ?_)
    clear hK K
    refine wpAnyH_done (by kernel_rfl) ?_ _
    go_wp2
    go_ret
    exact .inl ⟨X', hX', rfl, HA.out⟩
  · dsimp only
    refine hK.out _ _ hS1 (fun hHeld => ?_)
    clear hK K
    refine wpAnyH_ready (rs := [8]) (by kernel_rfl) (by simp) ?_
    refine AllReadyH.cons (o := _) rfl (fun K hK => ?_) AllReadyH.nil
    rw [if_pos (by rfl)]
    go_simp
    go_at_call 159
    refine (throw2 _ HA.out.2).mono ?_
    rintro e w2 ⟨rfl, hB2⟩
    unfold thrown
    dsimp only
    exact ⟨rfl, .inr ⟨hop, rfl, HA.out.1.below hB2⟩⟩
set_option maxHeartbeats 1000000 in
set_option maxRecDepth 20000 in
theorem twice_P (V : World) (M n cap : Nat) (z : Int) (op : Option DS) (h : DkP V N c D X) (hn : 0 < n) (hz : V.cell? ⟨M, 0, none⟩ = some (.int .i64 z)) (hM : ¬ Wr D M)
    (hC : ∀ W, DkP W N c D X → Calls Tryz.prog 36 #[.pointer (some ⟨D.p, 0, none⟩), .int .i64 z] W fun e W' => DoesOr W W' N D X op e) :
    Calls Tryz.prog 158 #[.pointer (some ⟨c.d, 0, none⟩), .slice (some ⟨M, 0, none⟩) n cap] V fun e V' => TellsOr V V' c D X op [116, 119, 105, 99, 101] e := by
  have hSd : V.drew.cell? ⟨c.d, 3, none⟩ = some (.pointer (some ⟨D.p, 0, none⟩)) ∧ V.drew.cell? ⟨M, 0, none⟩ = some (.int .i64 z) := by simpa using ⟨h.dk.c3, hz⟩
  have HC := hide ((hC V.drew (h.below (Below.refl _ _).drew)).mono fun e w' hd => does_held h hz hM hd)
  have hn' : (0 : Int) < (n : Int) := by omega
  clear h hz hC
  go_enter Tryz.func158, Tryz.ntmps158
  go_wp2_with fail
  refine wp_region_held_drew (S := fun Y => Y.cell? ⟨c.d, 3, none⟩ = some (.pointer (some ⟨D.p, 0, none⟩)) ∧ Y.cell? ⟨M, 0, none⟩ = some (.int .i64 z)) (by kernel_rfl) hSd (fun hHeld => ?_)
  refine wpAnyH_take (i := 0) (oi := _) (v := .pointer (some ⟨c.d, 0, none⟩)) rfl (by kernel_rfl) (by kernel_rfl) (by kernel_rfl) (fun _ _ _ h => h) (Or.inl ⟨by rfl, fun w _ => by go_simp⟩) hHeld ?_
  simp only [Act.put, List.getElem_toArray, List.getElem_cons_zero, List.setIfInBounds_toArray, List.set_cons_succ, List.set_cons_zero]
  refine wpAnyH_take (i := 1) (oi := _) (v := .pointer (some ⟨c.d, 0, none⟩)) rfl (by kernel_rfl) (by kernel_rfl) (by kernel_rfl) (fun _ _ _ h => h) (Or.inl ⟨by rfl, fun w _ => by go_simp⟩) hHeld ?_
  simp only [Act.put, List.getElem_toArray, List.getElem_cons_succ, List.getElem_cons_zero, List.setIfInBounds_toArray, List.set_cons_succ, List.set_cons_zero]
  refine wpAnyH_take (i := 2) (oi := _) (v := .pointer (some ⟨c.d, 3, none⟩)) rfl (by kernel_rfl) (by kernel_rfl) (by kernel_rfl) (fun _ _ _ h => h) (Or.inl ⟨by rfl, fun w _ => by go_simp⟩) hHeld ?_
  simp only [Act.put, List.getElem_toArray, List.getElem_cons_succ, List.getElem_cons_zero, List.setIfInBounds_toArray, List.set_cons_succ, List.set_cons_zero]
  refine wpAnyH_take (i := 3) (oi := _) (v := .pointer (some ⟨D.p, 0, none⟩)) rfl (by kernel_rfl) (by kernel_rfl) (by kernel_rfl) (fun _ _ _ h => h) (Or.inl ⟨by rfl, fun w h => by obtain ⟨h1, h2⟩ := h; go_simp⟩) hHeld ?_
  simp only [Act.put, List.getElem_toArray, List.getElem_cons_succ, List.getElem_cons_zero, List.setIfInBounds_toArray, List.set_cons_succ, List.set_cons_zero]
  refine wpAnyH_take (i := 4) (oi := _) (v := .slice (some ⟨M, 0, none⟩) n cap) rfl (by kernel_rfl) (by kernel_rfl) (by kernel_rfl) (fun _ _ _ h => h) (Or.inl ⟨by rfl, fun w _ => by go_simp⟩) hHeld ?_
  simp only [Act.put, List.getElem_toArray, List.getElem_cons_succ, List.getElem_cons_zero, List.setIfInBounds_toArray, List.set_cons_succ, List.set_cons_zero]
  refine wpAnyH_take (i := 5) (oi := _) (v := .pointer (some ⟨M, 0, none⟩)) rfl (by kernel_rfl) (by kernel_rfl) (by kernel_rfl) (fun _ _ _ h => h) (Or.inl ⟨by rfl, fun w _ => by go_simp⟩) hHeld ?_
  simp only [Act.put, List.getElem_toArray, List.getElem_cons_succ, List.getElem_cons_zero, List.setIfInBounds_toArray, List.set_cons_succ, List.set_cons_zero]
  refine wpAnyH_take (i := 6) (oi := _) (v := .int .i64 z) rfl (by kernel_rfl) (by kernel_rfl) (by kernel_rfl) (fun _ _ _ h => h) (Or.inl ⟨by rfl, fun w h => by obtain ⟨h1, h2⟩ := h; go_simp⟩) hHeld ?_
  simp only [Act.put, List.getElem_toArray, List.getElem_cons_succ, List.getElem_cons_zero, List.setIfInBounds_toArray, List.set_cons_succ, List.set_cons_zero]
  refine wpAnyH_ready (rs := [7]) (by kernel_rfl) (by simp) ?_
  refine AllReadyH.cons (o := _) rfl (fun K hK => ?_) AllReadyH.nil
  rw [if_pos (by rfl)]
  go_simp
  go_at_call 36
  refine HC.out.mono ?_
  rintro e w1 ⟨hS1, ⟨rfl, X', hX', HA⟩ | ⟨hop, rfl, HA⟩⟩
  · dsimp only
    refine hK.out _ _ hS1 (fun hHeld => ?_)
    clear hK K
    refine wpAnyH_ready (rs := [8]) (by kernel_rfl) (by simp) ?_
    refine AllReadyH.cons (o := _) rfl (fun K hK => ?_) AllReadyH.nil
    rw [if_pos (by rfl)]
    go_simp
    go_at_call 159
    refine (throw_nil _).mono ?_
    rintro e w2 ⟨rfl, rfl⟩
    dsimp only
    refine hK.out _ _ hS1 (fun hHeld => ?_)
    clear hK K
    refine wpAnyH_done (by kernel_rfl) ?_ _
    go_wp2
    go_ret
    exact .inl ⟨X', hX', rfl, HA.out⟩
  · dsimp only
    refine hK.out _ _ hS1 (fun hHeld => ?_)
    clear hK K
    refine wpAnyH_ready (rs := [8]) (by kernel_rfl) (by simp) ?_
    refine AllReadyH.cons (o := _) rfl (fun K hK => ?_) AllReadyH.nil
    rw [if_pos (by rfl)]
    go_simp
    go_at_call 159
    refine (throw2 _ HA.out.2).mono ?_
    rintro e w2 ⟨rfl, hB2⟩
    unfold thrown
    dsimp only
    exact ⟨rfl, .inr ⟨hop, rfl, HA.out.1.below hB2⟩⟩
set_option maxHeartbeats 1000000 in
set_option maxRecDepth 20000 in
theorem crash_P (V : World) (M n cap : Nat) (z : Int) (op : Option DS) (h : DkP V N c D X) (hn : 0 < n) (hz : V.cell? ⟨M, 0, none⟩ = some (.int .i64 z)) (hM : ¬ Wr D M)
    (hC : ∀ W, DkP W N c D X → Calls Tryz.prog 38 #[.pointer (some ⟨D.p, 0, none⟩), .int .i64 z] W fun e W' => DoesOr W W' N D X op e) :
    Calls Tryz.prog 146 #[.pointer (some ⟨c.d, 0, none⟩), .slice (some ⟨M, 0, none⟩) n cap] V fun e V' => TellsOr V V' c D X op [99, 114, 97, 115, 104] e := by
  have hSd : V.drew.cell? ⟨c.d, 3, none⟩ = some (.pointer (some ⟨D.p, 0, none⟩)) ∧ V.drew.cell? ⟨M, 0, none⟩ = some (.int .i64 z) := by simpa using ⟨h.dk.c3, hz⟩
  have HC := hide ((hC V.drew (h.below (Below.refl _ _).drew)).mono fun e w' hd => does_held h hz hM hd)
  have hn' : (0 : Int) < (n : Int) := by omega
  clear h hz hC
  go_enter Tryz.func146, Tryz.ntmps146
  go_wp2_with fail
  refine wp_region_held_drew (S := fun Y => Y.cell? ⟨c.d, 3, none⟩ = some (.pointer (some ⟨D.p, 0, none⟩)) ∧ Y.cell? ⟨M, 0, none⟩ = some (.int .i64 z)) (by kernel_rfl) hSd (fun hHeld => ?_)
  refine wpAnyH_take (i := 0) (oi := _) (v := .pointer (some ⟨c.d, 0, none⟩)) rfl (by kernel_rfl) (by kernel_rfl) (by kernel_rfl) (fun _ _ _ h => h) (Or.inl ⟨by rfl, fun w _ => by go_simp⟩) hHeld ?_
  simp only [Act.put, List.getElem_toArray, List.getElem_cons_zero, List.setIfInBounds_toArray, List.set_cons_succ, List.set_cons_zero]
  refine wpAnyH_take (i := 1) (oi := _) (v := .pointer (some ⟨c.d, 0, none⟩)) rfl (by kernel_rfl) (by kernel_rfl) (by kernel_rfl) (fun _ _ _ h => h) (Or.inl ⟨by rfl, fun w _ => by go_simp⟩) hHeld ?_
  simp only [Act.put, List.getElem_toArray, List.getElem_cons_succ, List.getElem_cons_zero, List.setIfInBounds_toArray, List.set_cons_succ, List.set_cons_zero]
  refine wpAnyH_take (i := 2) (oi := _) (v := .pointer (some ⟨c.d, 3, none⟩)) rfl (by kernel_rfl) (by kernel_rfl) (by kernel_rfl) (fun _ _ _ h => h) (Or.inl ⟨by rfl, fun w _ => by go_simp⟩) hHeld ?_
  simp only [Act.put, List.getElem_toArray, List.getElem_cons_succ, List.getElem_cons_zero, List.setIfInBounds_toArray, List.set_cons_succ, List.set_cons_zero]
  refine wpAnyH_take (i := 3) (oi := _) (v := .pointer (some ⟨D.p, 0, none⟩)) rfl (by kernel_rfl) (by kernel_rfl) (by kernel_rfl) (fun _ _ _ h => h) (Or.inl ⟨by rfl, fun w h => by obtain ⟨h1, h2⟩ := h; go_simp⟩) hHeld ?_
  simp only [Act.put, List.getElem_toArray, List.getElem_cons_succ, List.getElem_cons_zero, List.setIfInBounds_toArray, List.set_cons_succ, List.set_cons_zero]
  refine wpAnyH_take (i := 4) (oi := _) (v := .slice (some ⟨M, 0, none⟩) n cap) rfl (by kernel_rfl) (by kernel_rfl) (by kernel_rfl) (fun _ _ _ h => h) (Or.inl ⟨by rfl, fun w _ => by go_simp⟩) hHeld ?_
  simp only [Act.put, List.getElem_toArray, List.getElem_cons_succ, List.getElem_cons_zero, List.setIfInBounds_toArray, List.set_cons_succ, List.set_cons_zero]
  refine wpAnyH_take (i := 5) (oi := _) (v := .pointer (some ⟨M, 0, none⟩)) rfl (by kernel_rfl) (by kernel_rfl) (by kernel_rfl) (fun _ _ _ h => h) (Or.inl ⟨by rfl, fun w _ => by go_simp⟩) hHeld ?_
  simp only [Act.put, List.getElem_toArray, List.getElem_cons_succ, List.getElem_cons_zero, List.setIfInBounds_toArray, List.set_cons_succ, List.set_cons_zero]
  refine wpAnyH_take (i := 6) (oi := _) (v := .int .i64 z) rfl (by kernel_rfl) (by kernel_rfl) (by kernel_rfl) (fun _ _ _ h => h) (Or.inl ⟨by rfl, fun w h => by obtain ⟨h1, h2⟩ := h; go_simp⟩) hHeld ?_
  simp only [Act.put, List.getElem_toArray, List.getElem_cons_succ, List.getElem_cons_zero, List.setIfInBounds_toArray, List.set_cons_succ, List.set_cons_zero]
  refine wpAnyH_ready (rs := [7]) (by kernel_rfl) (by simp) ?_
  refine AllReadyH.cons (o := _) rfl (fun K hK => ?_) AllReadyH.nil
  rw [if_pos (by rfl)]
  go_simp
  go_at_call 38
  refine HC.out.mono ?_
  rintro e w1 ⟨hS1, ⟨rfl, X', hX', HA⟩ | ⟨hop, rfl, HA⟩⟩
  · dsimp only
    refine hK.out _ _ hS1 (fun hHeld => ?_)
    clear hK K
    refine wpAnyH_ready (rs := [8]) (by kernel_rfl) (by simp) ?_
    refine AllReadyH.cons (o := _) rfl (fun K hK => ?_) AllReadyH.nil
    rw [if_pos (by rfl)]
    go_simp
    go_at_call 159
    refine (throw_nil _).mono ?_
    rintro e w2 ⟨rfl, rfl⟩
    dsimp only
    refine hK.out _ _ hS1 (fun hHeld => ?_)
    clear hK K
    refine wpAnyH_done (by kernel_rfl) ?_ _
    go_wp2
    go_ret
    exact .inl ⟨X', hX', rfl, HA.out⟩
  · dsimp only
    refine hK.out _ _ hS1 (fun hHeld => ?_)
    clear hK K
    refine wpAnyH_ready (rs := [8]) (by kernel_rfl) (by simp) ?_
    refine AllReadyH.cons (o := _) rfl (fun K hK => ?_) AllReadyH.nil
    rw [if_pos (by rfl)]
    go_simp
    go_at_call 159
    refine (throw2 _ HA.out.2).mono ?_
    rintro e w2 ⟨rfl, hB2⟩
    unfold thrown
    dsimp only
    exact ⟨rfl, .inr ⟨hop, rfl, HA.out.1.below hB2⟩⟩
end Go.Proofs.YtaablbmgagiajabGreatDoor
