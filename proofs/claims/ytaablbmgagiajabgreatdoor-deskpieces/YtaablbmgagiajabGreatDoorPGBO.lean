import Derived.Great.BuildSlice
import Derived.Deep.RegionHeld3
import Derived.Test.YtaablbmgagiajabGreatDoorPGBN
import Derived.Test.YtaablbmgagiajabGreatDoorPGBM
namespace Go.Proofs.YtaablbmgagiajabGreatDoor
open Go.RowKit Go.Deep
variable {N win : Nat} {c : DkC} {D : SC} {L : RC} {S : SY}
theorem isSl_new (w : World) (xs : List Int) (n : Nat) (hn : xs.length = n) : IsSl (w.alloc (.cells (xs.map (Value.int .i64)).toArray 3)) (some ⟨w.heap.size, 0, none⟩) n n xs := by
  refine ⟨hn, Nat.le_refl _, .inr ⟨w.heap.size, 0, rfl, by simp, fun k hk => ?_⟩⟩
  have hb : (w.alloc (.cells (xs.map (Value.int .i64)).toArray 3)).heap[w.heap.size]? = some (.cells (xs.map (Value.int .i64)).toArray 3 (0, 0)) := World.alloc_heap_new w _
  unfold World.cell?
  rw [hb]
  simp [hk]
def confL (L : RC) : List Int := (List.range L.n).map fun k => ((conf L.zs k : Nat) : Int)
set_option maxHeartbeats 2000000 in
theorem conflicts_ord (V : World) (a : Value) (h : DkIs V N c D L win S) (hL : LOk L) (hc : ∀ z ∈ confL L, IntIn z) :
    Calls Tryz.prog 145 #[.pointer (some ⟨c.d, 0, none⟩), a] V fun e V' => e = .returned (.string (txt (spF (confL L)))) ∧ Below V.heap.size V V' := by
  obtain ⟨c0, c1, c2⟩ := h.c0
  have hf := hL.few
  have HC : Hid (Calls Tryz.prog 178 #[.agg #[.int .i64 (L.s : Int), .slice (some ⟨c.g, c.o, none⟩) L.n c.cp, .int .i64 (L.d : Int)]] V fun e w' => ∃ M, e = .returned (.tuple #[.slice (some ⟨M, 0, none⟩) L.n L.n, .nilIface]) ∧ Hid (Below V.heap.size V w' ∧ IsSl w' (some ⟨M, 0, none⟩) L.n L.n (confL L))) := hide (by
    have hk := conf_ok (L.s : Int) (L.d : Int) c.g c.o c.cp L.zs V hL.ok (Nat.lt_of_lt_of_le h.glt h.le) h.row (by rw [hL.len]; exact h.room)
    rw [hL.len] at hk
    refine hk.mono ?_
    rintro e w' ⟨⟨M, hM, rfl, hrow⟩, hB⟩
    refine ⟨M, rfl, hide ⟨hB, by unfold confL; simp, Nat.le_refl _, .inr ⟨M, 0, rfl, hrow.lt, fun k hk => ?_⟩⟩⟩
    have hk2 : k < L.n := by unfold confL at hk; simpa using hk
    rw [Nat.zero_add, hrow.cell hk2]
    unfold confL
    simp [hk2])
  have HN := hide h.num
  clear h
  go_enter Tryz.func145, Tryz.ntmps145
  go_wp2_with (go_at_call 178; refine HC.out.mono ?_; rintro e w1 ⟨M, rfl, hb⟩)
  go_wp2_with fail
  refine (throw_nil _).mono ?_
  rintro e w2 ⟨rfl, rfl⟩
  have HS := hide (spaced_any (confL L) (some ⟨M, 0, none⟩) L.n L.n _ hb.out.2 hc (by omega) (HN.out.below hb.out.1).pow)
  go_wp2_with (go_at_call 182; refine HS.out.mono ?_; rintro e w3 ⟨rfl, hB3⟩)
  go_ret
  exact ⟨rfl, hb.out.1.trans (hB3.mono hb.out.1.size)⟩
set_option maxHeartbeats 2000000 in
theorem most_ord (V : World) (a : Value) (h : DkIs V N c D L win S) (hL : LOk L) (hc : IntIn ((most (confs L.zs) : Nat) : Int)) :
    Calls Tryz.prog 152 #[.pointer (some ⟨c.d, 0, none⟩), a] V fun e V' => e = .returned (.string (txt (spF [((most (confs L.zs) : Nat) : Int)]))) ∧ Below V.heap.size V V' := by
  obtain ⟨c0, c1, c2⟩ := h.c0
  have HC := hide (most_n (L.s : Int) (L.d : Int) c.g c.o L.n c.cp L.zs V hL.len hL.ok (Nat.lt_of_lt_of_le h.glt h.le) h.row h.room)
  have HN := hide h.num
  clear h
  generalize hq : ((most (confs L.zs) : Nat) : Int) = q at hc HC ⊢
  go_enter Tryz.func152, Tryz.ntmps152
  go_wp2_with (go_at_call 184; refine HC.out.mono ?_; rintro e w1 ⟨rfl, hB1⟩)
  go_wp2_with fail
  refine (throw_nil _).mono ?_
  rintro e w2 ⟨rfl, rfl⟩
  have HS := hide (spaced_any [q] (some ⟨w2.heap.size, 0, none⟩) 1 1 _ (isSl_new w2 [q] 1 rfl) (by intro z hz; simp only [List.mem_cons, List.not_mem_nil, or_false] at hz; rw [hz]; exact hc) (by omega) ((HN.out.below hB1).below ((Below.refl _ _).alloc (Nat.le_refl _) _)).pow)
  have hB2 : Below V.heap.size V (w2.alloc (.cells #[.int .i64 q] 3)) := hB1.trans (((Below.refl _ _).alloc (Nat.le_refl _) _).mono hB1.size)
  go_wp2_with (go_at_call 182; refine HS.out.mono ?_; rintro e w3 ⟨rfl, hB3⟩)
  go_ret
  exact ⟨rfl, hB2.trans (hB3.mono hB2.size)⟩
def showF (v : VS) : List UInt8 := spF [shownF v, (v.out : Int)] ++ [32] ++ Lib.formatBool v.lat
set_option maxHeartbeats 4000000 in
set_option maxRecDepth 100000 in
theorem show_ord (V : World) (a : Value) (h : DkIs V N c D L win S) (hok : VOk win S.v) (hs : IntIn (shownF S.v)) (ho : IntIn (S.v.out : Int)) :
    Calls Tryz.prog 155 #[.pointer (some ⟨c.d, 0, none⟩), a] V fun e V' => e = .returned (.string (txt (showF S.v))) ∧ Below V.heap.size V V' := by
  have HH : Hid (∀ W, Below V.heap.size V W → DkIs W N c D L win S) := hide fun W hB => h.below hB
  have c3 := h.c3
  have hSd : V.drew.cell? ⟨c.d, 3, none⟩ = some (.pointer (some ⟨D.p, 0, none⟩)) := by simpa using c3
  have HOK := hide hok
  obtain ⟨q1, hq1⟩ : ∃ q, Hid (shownF S.v = q) := ⟨_, hide rfl⟩
  obtain ⟨q2, hq2⟩ : ∃ q, Hid ((S.v.out : Int) = q) := ⟨_, hide rfl⟩
  obtain ⟨bl, hbl⟩ : ∃ q, Hid (S.v.lat = q) := ⟨_, hide rfl⟩
  have HI : Hid (∀ z ∈ [q1, q2], IntIn z) := hide (by
    intro z hz
    simp only [List.mem_cons, List.not_mem_nil, or_false] at hz
    rcases hz with rfl | rfl
    · rw [← hq1.out]; exact hs
    · rw [← hq2.out]; exact ho)
  have hl2 : ¬ 9223372036854775807 < (spF [q1, q2]).length + 1 := by
    have := join_few [q1, q2] HI.out
    simp at this
    omega
  have hl3 : ¬ 9223372036854775807 < (spF [q1, q2]).length + 1 + (Lib.formatBool bl).length := by
    have := join_few [q1, q2] HI.out
    simp at this
    have hfb : (Lib.formatBool bl).length ≤ 5 := by cases bl <;> decide
    omega
  have HT : Hid (showF S.v = spF [q1, q2] ++ [32] ++ Lib.formatBool bl) := hide (by unfold showF; rw [hq1.out, hq2.out, hbl.out])
  clear h hok hs ho
  go_enter Tryz.func155, Tryz.ntmps155
  go_wp2
  refine wp_region_held_drew (S := fun W => W.cell? ⟨c.d, 3, none⟩ = some (.pointer (some ⟨D.p, 0, none⟩))) (by kernel_rfl) hSd (fun hHeld => ?_)
  refine wpAnyH_take (i := 0) (oi := _) (v := .pointer (some ⟨c.d, 0, none⟩)) rfl (by kernel_rfl) (by kernel_rfl) (by kernel_rfl) (fun _ _ _ h => h) (Or.inl ⟨by rfl, fun w _ => by go_simp⟩) hHeld ?_
  simp only [Act.put, List.getElem_toArray, List.getElem_cons_zero, List.setIfInBounds_toArray, List.set_cons_succ, List.set_cons_zero]
  refine wpAnyH_take (i := 1) (oi := _) (v := .pointer (some ⟨c.d, 0, none⟩)) rfl (by kernel_rfl) (by kernel_rfl) (by kernel_rfl) (fun _ _ _ h => h) (Or.inl ⟨by rfl, fun w _ => by go_simp⟩) hHeld ?_
  simp only [Act.put, List.getElem_toArray, List.getElem_cons_succ, List.getElem_cons_zero, List.setIfInBounds_toArray, List.set_cons_succ, List.set_cons_zero]
  refine wpAnyH_take (i := 2) (oi := _) (v := .pointer (some ⟨c.d, 3, none⟩)) rfl (by kernel_rfl) (by kernel_rfl) (by kernel_rfl) (fun _ _ _ h => h) (Or.inl ⟨by rfl, fun w _ => by go_simp⟩) hHeld ?_
  simp only [Act.put, List.getElem_toArray, List.getElem_cons_succ, List.getElem_cons_zero, List.setIfInBounds_toArray, List.set_cons_succ, List.set_cons_zero]
  refine wpAnyH_take (i := 3) (oi := _) (v := .pointer (some ⟨D.p, 0, none⟩)) rfl (by kernel_rfl) (by kernel_rfl) (by kernel_rfl) (fun _ _ _ h => h) (Or.inl ⟨by rfl, fun w h => by go_simp⟩) hHeld ?_
  simp only [Act.put, List.getElem_toArray, List.getElem_cons_succ, List.getElem_cons_zero, List.setIfInBounds_toArray, List.set_cons_succ, List.set_cons_zero]
  refine wpAnyH_take (i := 5) (oi := _) (v := .pointer (some ⟨c.d, 0, none⟩)) rfl (by kernel_rfl) (by kernel_rfl) (by kernel_rfl) (fun _ _ _ h => h) (Or.inl ⟨by rfl, fun w _ => by go_simp⟩) hHeld ?_
  simp only [Act.put, List.getElem_toArray, List.getElem_cons_succ, List.getElem_cons_zero, List.setIfInBounds_toArray, List.set_cons_succ, List.set_cons_zero]
  refine wpAnyH_take (i := 6) (oi := _) (v := .pointer (some ⟨c.d, 0, none⟩)) rfl (by kernel_rfl) (by kernel_rfl) (by kernel_rfl) (fun _ _ _ h => h) (Or.inl ⟨by rfl, fun w _ => by go_simp⟩) hHeld ?_
  simp only [Act.put, List.getElem_toArray, List.getElem_cons_succ, List.getElem_cons_zero, List.setIfInBounds_toArray, List.set_cons_succ, List.set_cons_zero]
  refine wpAnyH_take (i := 7) (oi := _) (v := .pointer (some ⟨c.d, 3, none⟩)) rfl (by kernel_rfl) (by kernel_rfl) (by kernel_rfl) (fun _ _ _ h => h) (Or.inl ⟨by rfl, fun w _ => by go_simp⟩) hHeld ?_
  simp only [Act.put, List.getElem_toArray, List.getElem_cons_succ, List.getElem_cons_zero, List.setIfInBounds_toArray, List.set_cons_succ, List.set_cons_zero]
  refine wpAnyH_take (i := 8) (oi := _) (v := .pointer (some ⟨D.p, 0, none⟩)) rfl (by kernel_rfl) (by kernel_rfl) (by kernel_rfl) (fun _ _ _ h => h) (Or.inl ⟨by rfl, fun w h => by go_simp⟩) hHeld ?_
  simp only [Act.put, List.getElem_toArray, List.getElem_cons_succ, List.getElem_cons_zero, List.setIfInBounds_toArray, List.set_cons_succ, List.set_cons_zero]
  refine wpAnyH_take (i := 13) (oi := _) (v := .pointer (some ⟨c.d, 0, none⟩)) rfl (by kernel_rfl) (by kernel_rfl) (by kernel_rfl) (fun _ _ _ h => h) (Or.inl ⟨by rfl, fun w _ => by go_simp⟩) hHeld ?_
  simp only [Act.put, List.getElem_toArray, List.getElem_cons_succ, List.getElem_cons_zero, List.setIfInBounds_toArray, List.set_cons_succ, List.set_cons_zero]
  refine wpAnyH_take (i := 14) (oi := _) (v := .pointer (some ⟨c.d, 0, none⟩)) rfl (by kernel_rfl) (by kernel_rfl) (by kernel_rfl) (fun _ _ _ h => h) (Or.inl ⟨by rfl, fun w _ => by go_simp⟩) hHeld ?_
  simp only [Act.put, List.getElem_toArray, List.getElem_cons_succ, List.getElem_cons_zero, List.setIfInBounds_toArray, List.set_cons_succ, List.set_cons_zero]
  refine wpAnyH_take (i := 15) (oi := _) (v := .pointer (some ⟨c.d, 3, none⟩)) rfl (by kernel_rfl) (by kernel_rfl) (by kernel_rfl) (fun _ _ _ h => h) (Or.inl ⟨by rfl, fun w _ => by go_simp⟩) hHeld ?_
  simp only [Act.put, List.getElem_toArray, List.getElem_cons_succ, List.getElem_cons_zero, List.setIfInBounds_toArray, List.set_cons_succ, List.set_cons_zero]
  refine wpAnyH_take (i := 16) (oi := _) (v := .pointer (some ⟨D.p, 0, none⟩)) rfl (by kernel_rfl) (by kernel_rfl) (by kernel_rfl) (fun _ _ _ h => h) (Or.inl ⟨by rfl, fun w h => by go_simp⟩) hHeld ?_
  simp only [Act.put, List.getElem_toArray, List.getElem_cons_succ, List.getElem_cons_zero, List.setIfInBounds_toArray, List.set_cons_succ, List.set_cons_zero]
  refine wpAnyH_ready (rs := [4]) (by kernel_rfl) (by simp) ?_
  refine AllReadyH.cons (o := _) rfl (fun K hK => ?_) AllReadyH.nil
  rw [if_pos (by rfl)]
  go_simp
  go_at_call 15
  refine (sshown_any N D L win S _ (HH.out _ (Below.refl _ _).drew).sys HOK.out).mono ?_
  rintro e w1 ⟨rfl, hB1⟩
  rw [hq1.out]
  dsimp only
  have HB1 := hide ((Below.refl _ _).drew.trans hB1 : Below V.heap.size V w1)
  clear hB1
  refine hK.out _ _ (HH.out w1 HB1.out).c3 (fun hHeld => ?_)
  clear hK K
  refine wpAnyH_ready (rs := [9]) (by kernel_rfl) (by simp) ?_
  refine AllReadyH.cons (o := _) rfl (fun K hK => ?_) AllReadyH.nil
  rw [if_pos (by rfl)]
  go_simp
  go_at_call 17
  refine (sout_any N D L win S _ (HH.out w1 HB1.out).sys).mono ?_
  rintro e w2 ⟨rfl, rfl⟩
  rw [hq2.out]
  dsimp only
  refine hK.out _ _ (HH.out _ HB1.out).c3 (fun hHeld => ?_)
  clear hK K
  refine wpAnyH_ready (rs := [10]) (by kernel_rfl) (by simp) ?_
  refine AllReadyH.cons (o := _) rfl (fun K hK => ?_) AllReadyH.nil
  rw [if_pos (by rfl)]
  go_simp
  have HB2 : Hid (Below V.heap.size V (w2.alloc (.cells #[.int .i64 q1, .int .i64 q2] 3))) := hide (HB1.out.trans (((Below.refl _ _).alloc (Nat.le_refl _) _).mono HB1.out.size))
  have HP : Hid (Calls Tryz.prog 182 #[.slice (some ⟨w2.heap.size, 0, none⟩) 2 2] (w2.alloc (.cells #[.int .i64 q1, .int .i64 q2] 3)) fun e w' => e = .returned (.string (txt (spF [q1, q2]))) ∧ Hid (Below V.heap.size V w')) := hide (by
    refine (spaced_any [q1, q2] (some ⟨w2.heap.size, 0, none⟩) 2 2 _ (isSl_new w2 [q1, q2] 2 rfl) HI.out (by omega) (HH.out _ HB2.out).num.pow).mono ?_
    rintro e w' ⟨rfl, hB⟩
    exact ⟨rfl, hide (HB2.out.trans (hB.mono HB2.out.size))⟩)
  refine hK.out _ _ (HH.out _ HB2.out).c3 (fun hHeld => ?_)
  clear hK K
  refine wpAnyH_ready (rs := [11]) (by kernel_rfl) (by simp) ?_
  refine AllReadyH.cons (o := _) rfl (fun K hK => ?_) AllReadyH.nil
  rw [if_pos (by rfl)]
  go_simp
  go_at_call 182
  refine HP.out.mono ?_
  rintro e w3 ⟨rfl, HB3⟩
  dsimp only
  refine hK.out _ _ (HH.out _ HB3.out).c3 (fun hHeld => ?_)
  clear hK K HP
  refine wpAnyH_take (i := 12) (oi := _) (v := .string (txt (spF [q1, q2]) ++ ⟨#[32]⟩)) rfl (by kernel_rfl) (by kernel_rfl) (by kernel_rfl) (fun _ _ _ h => h) (Or.inl ⟨by rfl, fun w _ => by go_simp⟩) hHeld ?_
  simp only [Act.put, List.getElem_toArray, List.getElem_cons_succ, List.getElem_cons_zero, List.setIfInBounds_toArray, List.set_cons_succ, List.set_cons_zero]
  refine wpAnyH_ready (rs := [17]) (by kernel_rfl) (by simp) ?_
  refine AllReadyH.cons (o := _) rfl (fun K hK => ?_) AllReadyH.nil
  rw [if_pos (by rfl)]
  go_simp
  go_at_call 14
  refine (slatched_any N D L win S _ (HH.out _ HB3.out).sys).mono ?_
  rintro e w4 ⟨rfl, rfl⟩
  rw [hbl.out]
  dsimp only
  refine hK.out _ _ (HH.out _ HB3.out).c3 (fun hHeld => ?_)
  clear hK K
  refine wpAnyH_ready (rs := [18]) (by kernel_rfl) (by simp) ?_
  refine AllReadyH.cons (o := _) rfl (fun K hK => ?_) AllReadyH.nil
  rw [if_pos (by rfl)]
  go_simp
  go_at_call 185
  refine (Tryz.strconv_FormatBool bl _).mono ?_
  rintro e w5 ⟨rfl, rfl⟩
  dsimp only
  refine hK.out _ _ (HH.out _ HB3.out).c3 (fun hHeld => ?_)
  clear hK K
  refine wpAnyH_take (i := 19) (oi := _) (v := .string (txt (spF [q1, q2]) ++ ⟨#[32]⟩ ++ ⟨(Lib.formatBool bl).toArray⟩)) rfl (by kernel_rfl) (by kernel_rfl) (by kernel_rfl) (fun _ _ _ h => h) (Or.inl ⟨by rfl, fun w _ => by go_simp⟩) hHeld ?_
  simp only [Act.put, List.getElem_toArray, List.getElem_cons_succ, List.getElem_cons_zero, List.setIfInBounds_toArray, List.set_cons_succ, List.set_cons_zero]
  refine wpAnyH_take (i := 20) (oi := _) (v := .string (txt (spF [q1, q2]) ++ ⟨#[32]⟩ ++ ⟨(Lib.formatBool bl).toArray⟩)) rfl (by kernel_rfl) (by kernel_rfl) (by kernel_rfl) (fun _ _ _ h => h) (Or.inl ⟨by rfl, fun w _ => by go_simp⟩) hHeld ?_
  simp only [Act.put, List.getElem_toArray, List.getElem_cons_succ, List.getElem_cons_zero, List.setIfInBounds_toArray, List.set_cons_succ, List.set_cons_zero]
  refine wpAnyH_done (by kernel_rfl) ?_ _
  go_wp2
  go_ret
  refine ⟨?_, HB3.out⟩
  rw [HT.out, ← txt_add, ← txt_add]
  rfl
set_option maxHeartbeats 4000000 in
set_option maxRecDepth 100000 in
theorem newDesk_any (w : World) (hn : HasNum w) (h7 : 7 ≤ w.heap.size) :
    Calls Tryz.prog 58 #[] w fun e w' => ∃ N c D, w.heap.size ≤ c.d ∧ e = .returned (.pointer (some ⟨c.d, 0, none⟩)) ∧ DkIs w' N c D L0 10 (sy0 10) ∧ Below w.heap.size w w' := by
  obtain ⟨V, hV⟩ : ∃ V, Hid (w.alloc (.cells #[.int .i64 0, .slice none 0 0, .int .i64 0, .pointer none, .map none] 167) = V) := ⟨_, hide rfl⟩
  have hB0 : Below w.heap.size w V := by rw [← hV.out]; exact (Below.refl _ _).alloc (Nat.le_refl _) _
  have hb0 : V.heap[w.heap.size]? = some (.cells #[.int .i64 0, .slice none 0 0, .int .i64 0, .pointer none, .map none] 167 (0, 0)) := by rw [← hV.out]; exact blk_new _ _
  have hdl := blk_lt hb0
  obtain ⟨d, hd⟩ : ∃ d, Hid (w.heap.size = d) := ⟨_, hide rfl⟩
  have HA : Hid (Calls Tryz.prog 92 #[.pointer (some ⟨d, 0, none⟩)] V fun e w' => ∃ m, e = .returned (.map (some m)) ∧ (w'.cell? ⟨d, 4, none⟩ = some (.map none) ∧ w'.frozen? ⟨d, 4, none⟩ = false) ∧
      Hid (∃ W, w'.setCell ⟨d, 4, none⟩ (.map (some m)) = W ∧ Below w.heap.size w W ∧ d ≤ m ∧ d < W.heap.size ∧ MpIs W m (ordTab d) ∧ W.heap[d]? = some (.cells #[.int .i64 0, .slice none 0 0, .int .i64 0, .pointer none, .map (some m)] 167 (0, 0)))) := hide (by
    refine (allOrders_any d V).mono ?_
    rintro e w' ⟨m, rfl, hm, hM, hB⟩
    rw [hd.out] at hb0 hdl
    have hbw := (hB.block d hdl).trans hb0
    refine ⟨m, rfl, ⟨blk_cell hbw 4, blk_free hbw 4⟩, hide ⟨_, rfl, ?_, by omega, by rw [World.size_setCell]; exact Nat.lt_of_lt_of_le hdl hB.size, ?_, blk_set hbw 4 _⟩⟩
    · exact (hB0.trans (hB.mono hB0.size)).setCell (by rw [hd.out]; exact Nat.le_refl _) _
    · exact hM.same (((Mod.refl w' (· = d)).set ⟨d, 4, none⟩ _ (fun _ => rfl)).block m hM.lt (by show ¬ m = d; omega)))
  have HN := hide hn
  have H7 := hide h7
  have HS := hide hB0.size
  clear hn h7 hB0 hb0 hdl
  go_enter Tryz.func58, Tryz.ntmps58
  go_wp2_with fail
  rw [hV.out, hd.out]
  refine HA.out.mono ?_
  rintro e w1 ⟨m, rfl, ⟨g0, g1⟩, HW⟩
  obtain ⟨W, hW, hBW, hdm, hdW, hM, hbd⟩ := HW.out
  clear HA HW
  go_wp2_with fail
  have HE : Hid (Calls Tryz.prog 93 #[.pointer (some ⟨d, 0, none⟩), .slice (some ⟨W.heap.size, 0, none⟩) 6 6] (W.alloc (.cells #[.int .i64 10, .int .i64 2, .int .i64 4, .int .i64 3, .int .i64 12, .int .i64 6] 3)) fun e w' => e = .returned (.string (txt [98, 101, 103, 105, 110])) ∧ Hid (∃ N c D, c.d = d ∧ DkIs w' N c D L0 10 (sy0 10) ∧ Below w.heap.size w w')) := hide (by
    have hba : Below W.heap.size W (W.alloc (.cells #[.int .i64 10, .int .i64 2, .int .i64 4, .int .i64 3, .int .i64 12, .int .i64 6] 3)) := (Below.refl _ _).alloc (Nat.le_refl _) _
    have hbn : (W.alloc (.cells #[.int .i64 10, .int .i64 2, .int .i64 4, .int .i64 3, .int .i64 12, .int .i64 6] 3)).heap[W.heap.size]? = some (.cells #[.int .i64 10, .int .i64 2, .int .i64 4, .int .i64 3, .int .i64 12, .int .i64 6] 3 (0, 0)) := blk_new _ _
    have hsl := (isSl_new W [10, 2, 4, 3, 12, 6] 6 rfl).2.2
    have hrow : Row (W.alloc (.cells #[.int .i64 10, .int .i64 2, .int .i64 4, .int .i64 3, .int .i64 12, .int .i64 6] 3)) W.heap.size 0 [10, 2, 4, 3, 12, 6] := by
      rcases hsl with e | ⟨b, o, e1, _, hr⟩
      · cases e
      · simp only [Option.some.injEq, Addr.mk.injEq] at e1
        obtain ⟨rfl, rfl, _⟩ := e1
        exact hr
    generalize (W.alloc (.cells #[.int .i64 10, .int .i64 2, .int .i64 4, .int .i64 3, .int .i64 12, .int .i64 6] 3)) = X at hba hbn hrow ⊢
    refine (begin0 X d m W.heap.size ((hba.block d hdW).trans hbd) (blk_lt hbn) hrow).mono ?_
    rintro e w' ⟨rfl, D, hS, hb', hm'⟩
    have hlo : Below w.heap.size w w' := (hBW.trans (hba.mono hBW.size)).trans (hm'.toBelow (Nat.le_trans hBW.size hba.size) (fun k hk e => by have := hd.out; omega))
    have hX : W.heap.size < X.heap.size := blk_lt hbn
    refine ⟨rfl, hide ⟨X.heap.size, ⟨d, m, W.heap.size, 3, 3⟩, D, rfl, ⟨hb', fun k hk => ?_, Nat.le_refl _, Nat.lt_trans hdW hX, Nat.lt_trans hM.lt hX, hX, ?_, hm'.size, ?_, ?_, hS⟩, hlo⟩⟩
    · have hk3 : k < 3 := hk
      have h1 := hrow (k + 3) (by simp; omega)
      rw [Nat.zero_add, Nat.add_comm] at h1
      refine ((World.cell?_of_block (w := X) (a := ⟨W.heap.size, 3 + k, none⟩) (hm'.block _ hX (by show ¬ W.heap.size = d; omega))).trans h1).trans ?_
      rw [Nat.add_comm]
      rfl
    · have := H7.out; have := hBW.size; omega
    · exact hM.same ((hm'.block m (Nat.lt_trans hM.lt hX) (by show ¬ m = d; intro e; rw [e] at hM; exact hM.notCells hbd)).trans (hba.block m hM.lt))
    · exact HN.out.below hlo)
  refine HE.out.mono ?_
  rintro e w2 ⟨rfl, hg⟩
  go_wp2
  go_ret
  obtain ⟨N, c, D, hc, h1, h2⟩ := hg.out
  exact ⟨N, c, D, by rw [hc, hd.out]; exact Nat.le_refl _, by rw [hc]; rfl, h1, h2⟩
theorem cell_isCells {w : World} {a : Addr} {v : Value} (h : w.cell? a = some v) {o : Obj} (ho : w.heap[a.block]? = some o) : o.isCells = true := by
  unfold World.cell? at h
  rw [ho] at h
  cases o <;> first | rfl | (simp at h)
theorem SyIs.cells {w : World} {N win : Nat} {D : SC} {L : RC} {S : SY} (h : SyIs w N D L win S) (hL : LOk L) {k : Nat} (hk : Wr D k ∨ Sta D k) {o : Obj} (ho : w.heap[k]? = some o) : o.isCells = true := by
  have ty : ∀ {t : TypeId}, TyAt w k t → o.isCells = true := fun ⟨c, f, e⟩ => by rw [e] at ho; cases ho; rfl
  have hf := hL.few
  have hz : 0 < L.zs.length := by rw [hL.len]; omega
  rcases hk with hk | hk
  · rcases hk with rfl | hk | ⟨j, hj, rfl⟩ | rfl | hk
    · exact ty h.tyP
    · exact ty (h.tyN hk)
    · exact ty (h.tyR hj)
    · exact ty h.tyV
    · exact ty (h.tyT hk)
  · rcases hk with rfl | ⟨j, hj, rfl | rfl | rfl | rfl⟩
    · exact cell_isCells (a := ⟨D.g0, 0 + 0, none⟩) (h.row 0 hz) ho
    · have hb := (h.rp j hj).core.blk
      rw [hb] at ho; cases ho; rfl
    · exact cell_isCells (a := ⟨(D.C j).g, 0 + 0, none⟩) ((h.rp j hj).core.row 0 (by rw [(h.ln j hj).zs]; exact hz)) ho
    · exact cell_isCells (a := ⟨(D.C j).M, 0, none⟩) ((h.rp j hj).core.con.cell (by rw [(h.ln j hj).n]; omega)) ho
    · exact cell_isCells (a := ⟨(D.C j).g2, 0 + 0, none⟩) ((h.rp j hj).row 0 (by rw [(h.ln j hj).zs]; exact hz)) ho
theorem BdIs.cells {w : World} {N b : Nat} {v : Value} {l : List UInt8} (h : BdIs w N b v l) {k : Nat} (hk : BdW b v k) {o : Obj} (ho : w.heap[k]? = some o) : o.isCells = true := by
  rcases hk with rfl | hk
  · obtain ⟨p, _, hb⟩ := h.blk
    rw [hb] at ho; cases ho; rfl
  · rcases h.row.2 with ⟨rfl, _⟩ | ⟨g, cap, cur, rfl, _, hg, _⟩
    · simp [Value.ownBlock] at hk
    · simp only [Value.ownBlock, Option.some.injEq] at hk
      subst hk
      rw [hg] at ho; cases ho; rfl
structure SsI (w : World) (B N NB : Nat) (c : DkC) (b bd : Nat) (D : SC) (v : Value) (S : SY) (l : List UInt8) (W : World) : Prop where
  dk : DkIs W N c D L0 10 S
  bl : BdIs W NB b v l
  box : W.heap[bd]? = some (.cells #[.pointer (some ⟨c.d, 0, none⟩)] 100 (0, 0))
  net : S.net = []
  apart : ∀ k, Wr D k ∨ Sta D k → ¬ BdW b v k ∧ k ≠ bd
  own : ¬ BdW b v bd
  lo : N ≤ NB
  low : N ≤ B
  base : NB ≤ W.heap.size
  old : Below w.heap.size w W
  oldB : w.heap.size ≤ B
  oldN : w.heap.size ≤ N
section
variable {w W W' : World} {B N NB b bd : Nat} {c : DkC} {D D' : SC} {v : Value} {S S' : SY} {l : List UInt8}
theorem SsI.bdlt (h : SsI w B N NB c b bd D v S l W) : bd < W.heap.size := blk_lt h.box
theorem SsI.wlt (h : SsI w B N NB c b bd D v S l W) {k : Nat} (hk : BdW b v k) : NB ≤ k ∧ k < W.heap.size := by
  rcases hk with rfl | hk
  · exact ⟨h.bl.ge, h.bl.lt⟩
  · exact h.bl.row.lt k hk
theorem SsI.turn (h : SsI w B N NB c b bd D v S l W) {row : Option Nat} (hg : W.grownBy W' row) (hr : ∀ r, row = some r → B ≤ r ∧ ∃ o : Obj, W.heap[r]? = some o ∧ o.isCells = false) : SsI w B N NB c b bd D v S l W' := by
  have hm : Mod W W' (fun k => row = some k) := ⟨hg.os, hg.tape, hg.output, hg.size, fun k hk ht => hg.block k hk (fun e => ht e.symm)⟩
  have hno : ∀ k, (∀ o : Obj, W.heap[k]? = some o → o.isCells = true) → ¬ row = some k := fun k hc e => by
    obtain ⟨_, o, ho, hf⟩ := hr k e
    rw [hc o ho] at hf
    cases hf
  have hB : ∀ {m : Nat}, m ≤ B → m ≤ W.heap.size → Below m W W' := fun {m} h1 h2 => hm.toBelow h2 fun k hk e => by have := (hr k e).1; omega
  refine ⟨h.dk.others h.net hm (fun k hk => hno k fun o ho => h.dk.sys.cells L0_ok hk ho) (fun k e => Nat.le_trans h.low (hr k e).1), h.bl.mod hm fun k hk => hno k fun o ho => h.bl.cells hk ho, ?_, h.net, h.apart, h.own, h.lo, h.low, Nat.le_trans h.base hg.size, h.old.trans (hB h.oldB h.old.size), h.oldB, h.oldN⟩
  exact (hm.block bd h.bdlt (hno bd fun o ho => by rw [h.box] at ho; cases ho; rfl)).trans h.box
theorem SsI.said (h : SsI w B N NB c b bd D v S l W) (hd : DkIs W' N c D' L0 10 S') (hn : S'.net = []) (hm : Mod W W' (Wr D)) (hg : Gr W.heap.size D D') : SsI w B N NB c b bd D' v S' l W' := by
  refine ⟨hd, h.bl.mod hm fun k hk hw => (h.apart k (.inl hw)).1 hk, (hm.block bd h.bdlt fun hw => (h.apart bd (.inl hw)).2 rfl).trans h.box, hn, fun k hk => ?_, h.own, h.lo, h.low, Nat.le_trans h.base hm.size, h.old.trans (hm.toBelow h.old.size fun k hk hw => by have := h.dk.sys.base k hw; have := h.oldN; omega), h.oldB, h.oldN⟩
  have hor : (Wr D k ∨ Sta D k) ∨ W.heap.size ≤ k := by
    rcases hk with hk | hk
    · exact (hg.wr k hk).imp .inl id
    · exact (hg.st k hk).imp .inr id
  rcases hor with hk | hk
  · exact h.apart k hk
  · exact ⟨fun hw => by have := (h.wlt hw).2; omega, by have := h.bdlt; omega⟩
theorem SsI.wrote (h : SsI w B N NB c b bd D v S l W) {l' : List UInt8} (hg : BdGo W W' NB b v l') : ∃ v', SsI w B N NB c b bd D v' S l' W' := by
  obtain ⟨v', hb, hm, hmv⟩ := hg
  have hw' : ∀ k, BdW b v' k → BdW b v k ∨ W.heap.size ≤ k := fun k hk => by
    rcases hk with rfl | hk
    · exact .inl (.inl rfl)
    · exact (hmv k hk).imp .inr id
  refine ⟨v', h.dk.others h.net hm (fun k hk => (h.apart k hk).1) (fun k hk => Nat.le_trans h.lo (h.wlt hk).1), hb, (hm.block bd h.bdlt h.own).trans h.box, h.net, fun k hk => ⟨fun hw => ?_, (h.apart k hk).2⟩, fun hw => ?_, h.lo, h.low, Nat.le_trans h.base hm.size, h.old.trans (hm.toBelow h.old.size fun k hk hw => by have := (h.wlt hw).1; have := h.oldN; have := h.lo; omega), h.oldB, h.oldN⟩
  · rcases hw' k hw with x | x
    · exact (h.apart k hk).1 x
    · rcases hk with hk | hk
      · have := h.dk.sys.wrLt hk; omega
      · have := h.dk.sys.staLt hk; omega
  · rcases hw' bd hw with x | x
    · exact h.own x
    · have := h.bdlt; omega
end
structure DS where
  L : RC
  win : Nat
  S : SY
  c : Int
structure DkP (w : World) (N : Nat) (c : DkC) (D : SC) (X : DS) : Prop where
  dk : DkIs w N c D X.L X.win X.S
  cnt : cI D X.S X.c
  err : HasErrT w
  lok : LOk X.L
  hi : 7 ≤ c.d
def Occ (c : DkC) (D : SC) (k : Nat) : Prop := k = c.d ∨ k = c.m ∨ k = c.g ∨ Wr D k ∨ Sta D k ∨ By D k
theorem BytesIs.others {w w' : World} {u : Value} {l : List Nat} {T : Nat → Prop} (h : BytesIs w u l) (hm : Mod w w' T) (hT : ∀ k, ByV u k → ¬ T k) : BytesIs w' u l := by
  obtain ⟨h1, a, cap, rfl, h2, h3⟩ := h
  refine ⟨h1, a, cap, rfl, h2, ?_⟩
  rcases h3 with h3 | ⟨g, off, cs, rfl, h4, h5⟩
  · exact .inl h3
  · by_cases h0 : l = []
    · exact .inl h0
    · exact .inr ⟨g, off, cs, rfl, (hm.block g (blk_lt h4) (hT g ⟨_, _, _, rfl, rfl, List.length_pos_iff.2 h0⟩)).trans h4, h5⟩
theorem ByV.lt {w : World} {u : Value} {l : List Nat} {k : Nat} (h : BytesIs w u l) (hk : ByV u k) : k < w.heap.size := by
  obtain ⟨h1, a, cap, rfl, h2, h3⟩ := h
  obtain ⟨a', n, cap', e, rfl, hn⟩ := hk
  simp only [Value.slice.injEq] at e
  obtain ⟨rfl, rfl, rfl⟩ := e
  rcases h3 with h3 | ⟨g, off, cs, e, h4, h5⟩
  · rw [h3] at hn; simp at hn
  · cases e; exact blk_lt h4
section
variable {w w' : World} {N : Nat} {c : DkC} {D : SC} {X : DS}
theorem SyIs.byLt {L : RC} {win : Nat} {S : SY} (h : SyIs w N D L win S) {k : Nat} (hk : By D k) : k < w.heap.size := by
  obtain ⟨u, hu, hv⟩ := hk
  obtain ⟨i, hi, rfl⟩ := List.getElem_of_mem hu
  have hb := h.net.byt i (by rw [← h.net.len]; exact hi)
  rw [List.getElem?_eq_getElem hi] at hb
  exact ByV.lt hb hv
theorem DkP.lt (h : DkP w N c D X) {k : Nat} (hk : Occ c D k) : k < w.heap.size := by
  have hle := h.dk.le
  rcases hk with rfl | rfl | rfl | hk | hk | hk
  · exact Nat.lt_of_lt_of_le h.dk.dlt hle
  · exact Nat.lt_of_lt_of_le h.dk.mlt hle
  · exact Nat.lt_of_lt_of_le h.dk.glt hle
  · exact h.dk.sys.wrLt hk
  · exact h.dk.sys.staLt hk
  · exact h.dk.sys.byLt hk
theorem DkP.ne (h : DkP w N c D X) {k : Nat} (hk : Wr D k) : k ≠ c.d ∧ k ≠ c.m ∧ k ≠ c.g := by
  have h1 := h.dk.sys.base k hk
  have h2 := h.dk.dlt
  have h3 := h.dk.mlt
  have h4 := h.dk.glt
  omega
theorem HasErrT.lo {B : Nat} (h : HasErrT w) (hb : Below B w w') (hB : 7 ≤ B) : HasErrT w' := h.below hb (Nat.lt_of_lt_of_le (by decide) hB)
theorem DkP.others (h : DkP w N c D X) {T : Nat → Prop} (hm : Mod w w' T) (hT : ∀ k, Occ c D k → ¬ T k) (hlo : ∀ k, T k → 7 ≤ k) : DkP w' N c D X := by
  have hd := h.lt (k := c.d) (.inl rfl)
  have hmm := h.lt (k := c.m) (.inr (.inl rfl))
  have hg := h.lt (k := c.g) (.inr (.inr (.inl rfl)))
  have hb : Below 7 w w' := hm.toBelow (Nat.le_trans h.dk.low h.dk.le) fun k hk ht => by have := hlo k ht; omega
  refine ⟨⟨(hm.block _ hd (hT _ (.inl rfl))).trans h.dk.blk, fun k hk => (World.cell?_of_block (w := w) (hm.block _ hg (hT _ (.inr (.inr (.inl rfl)))))).trans (h.dk.row k hk), h.dk.room, h.dk.dlt, h.dk.mlt, h.dk.glt, h.dk.low, Nat.le_trans h.dk.le hm.size, h.dk.map.same (hm.block _ hmm (hT _ (.inr (.inl rfl)))), h.dk.num.lo hb (Nat.le_refl _), ?_⟩, h.cnt, h.err.lo hb (Nat.le_refl _), h.lok, h.hi⟩
  refine h.dk.sys.others hm (fun k hk => hT k (hk.elim (fun x => .inr (.inr (.inr (.inl x)))) fun x => .inr (.inr (.inr (.inr (.inl x)))))) fun i hi => (h.dk.sys.net.byt i hi).others hm fun k hk => hT k (.inr (.inr (.inr (.inr (.inr (by_of_at hk))))))
theorem DkP.below (h : DkP w N c D X) (hB : Below w.heap.size w w') : DkP w' N c D X := ⟨h.dk.below hB, h.cnt, h.err.lo hB (Nat.le_trans h.dk.low h.dk.le), h.lok, h.hi⟩
def AnsP (w w' : World) (c : DkC) (D : SC) (X' : DS) : Prop := ∃ N' c' D', c'.d = c.d ∧ c'.m = c.m ∧ DkP w' N' c' D' X' ∧ Mod w w' (fun k => Wr D k ∨ k = c.d) ∧ ∀ k, Occ c' D' k → Occ c D k ∨ w.heap.size ≤ k
theorem DkP.stays (h : DkP w N c D X) (hB : Below w.heap.size w w') : AnsP w w' c D X := ⟨N, c, D, rfl, rfl, h.below hB, Mod.ofBelow hB _, fun _ x => .inl x⟩
theorem DkP.went (h : DkP w N c D X) {S' : SY} {c' : Int} (hg : SyGoC w w' N D X.L X.win S' c') : AnsP w w' c D ⟨X.L, X.win, S', c'⟩ := by
  obtain ⟨D', hp, hs, hm, hgr, hc⟩ := hg
  have hb : Below N w w' := hm.toBelow h.dk.le fun k hk hw => by have := h.dk.sys.base k hw; omega
  refine ⟨N, c, D', rfl, rfl, ⟨h.dk.lo hb hp hs, hc, h.err.lo hb h.dk.low, h.lok, h.hi⟩, hm.mono fun k _ hk => .inl hk, fun k hk => ?_⟩
  rcases hk with x | x | x | x | x | x
  · exact .inl (.inl x)
  · exact .inl (.inr (.inl x))
  · exact .inl (.inr (.inr (.inl x)))
  · exact (hgr.gr.wr k x).imp (fun y => .inr (.inr (.inr (.inl y)))) id
  · exact (hgr.gr.st k x).imp (fun y => .inr (.inr (.inr (.inr (.inl y))))) id
  · exact (hgr.lies k x).imp (fun y => .inr (.inr (.inr (.inr (.inr y))))) id
theorem AnsP.below {w2 : World} {X' : DS} (h : AnsP w w' c D X') (hB : Below w'.heap.size w' w2) : AnsP w w2 c D X' := by
  obtain ⟨N', c', D', e1, e2, h1, h2, h3⟩ := h
  exact ⟨N', c', D', e1, e2, h1.below hB, h2.below hB, h3⟩
end
end Go.Proofs.YtaablbmgagiajabGreatDoor
