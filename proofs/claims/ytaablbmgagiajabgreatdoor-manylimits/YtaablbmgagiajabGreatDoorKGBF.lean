import Derived.Great.BuildSlice
import Derived.Deep.RegionHeld3
import Derived.Test.YtaablbmgagiajabGreatDoorKGBE
import Derived.Test.YtaablbmgagiajabGreatDoorKGBD
import Derived.RangeFuncCalls
namespace Go.Proofs.YtaablbmgagiajabGreatDoor
open Go.RowKit Go.Deep
variable {N win : Nat} {c : DkC} {D : SC} {L : RC} {S : SY}
theorem isSl_new (w : World) (xs : List Int) (n : Nat) (hn : xs.length = n) : IsSl (w.alloc (.cells (xs.map (Value.int .i64)).toArray 3)) (some ⟨w.heap.size, 0, none⟩) n n xs := by
  refine ⟨hn, Nat.le_refl _, .inr ⟨w.heap.size, 0, rfl, by simp, fun k hk => ?_⟩⟩
  have hb : (w.alloc (.cells (xs.map (Value.int .i64)).toArray 3)).heap[w.heap.size]? = some (.cells (xs.map (Value.int .i64)).toArray 3 (0, 0)) := World.alloc_heap_new w _
  unfold World.cell?
  rw [hb]
  simp [hk]
def confL (L : RC) : List Int := (List.range L.n).map fun k => ((conf L.zs k : Nat) : Int)
set_option maxHeartbeats 2000000 in
theorem conflicts_ord (V : World) (a : Value) (h : DkIs V N c D L win S) (hL : LOk L) (hc : ∀ z ∈ confL L, IntIn z) :
    Calls Tryz.prog 145 #[.pointer (some ⟨c.d, 0, none⟩), a] V fun e V' => e = .returned (.string (txt (spF (confL L)))) ∧ Below V.heap.size V V' := by
  obtain ⟨c0, c1, c2⟩ := h.c0
  have hf := hL.few
  have HC : Hid (Calls Tryz.prog 178 #[.agg #[.int .i64 (L.s : Int), .slice (some ⟨c.g, c.o, none⟩) L.n c.cp, .int .i64 (L.d : Int)]] V fun e w' => ∃ M, e = .returned (.tuple #[.slice (some ⟨M, 0, none⟩) L.n L.n, .nilIface]) ∧ Hid (Below V.heap.size V w' ∧ IsSl w' (some ⟨M, 0, none⟩) L.n L.n (confL L))) := hide (by
    have hk := conf_ok (L.s : Int) (L.d : Int) c.g c.o c.cp L.zs V hL.ok (Nat.lt_of_lt_of_le h.glt h.le) h.row (by rw [hL.len]; exact h.room)
    rw [hL.len] at hk
    refine hk.mono ?_
    rintro e w' ⟨⟨M, hM, rfl, hrow⟩, hB⟩
    refine ⟨M, rfl, hide ⟨hB, by unfold confL; simp, Nat.le_refl _, .inr ⟨M, 0, rfl, hrow.lt, fun k hk => ?_⟩⟩⟩
    have hk2 : k < L.n := by unfold confL at hk; simpa using hk
    rw [Nat.zero_add, hrow.cell hk2]
    unfold confL
    simp [hk2])
  have HN := hide h.num
  clear h
  go_enter Tryz.func145, Tryz.ntmps145
  go_wp2_with (go_at_call 178; refine HC.out.mono ?_; rintro e w1 ⟨M, rfl, hb⟩)
  go_wp2_with fail
  refine (throw_nil _).mono ?_
  rintro e w2 ⟨rfl, rfl⟩
  have HS := hide (spaced_any (confL L) (some ⟨M, 0, none⟩) L.n L.n _ hb.out.2 hc (by omega) (HN.out.below hb.out.1).pow)
  go_wp2_with (go_at_call 182; refine HS.out.mono ?_; rintro e w3 ⟨rfl, hB3⟩)
  go_ret
  exact ⟨rfl, hb.out.1.trans (hB3.mono hb.out.1.size)⟩
set_option maxHeartbeats 2000000 in
theorem most_ord (V : World) (a : Value) (h : DkIs V N c D L win S) (hL : LOk L) (hc : IntIn ((most (confs L.zs) : Nat) : Int)) :
    Calls Tryz.prog 152 #[.pointer (some ⟨c.d, 0, none⟩), a] V fun e V' => e = .returned (.string (txt (spF [((most (confs L.zs) : Nat) : Int)]))) ∧ Below V.heap.size V V' := by
  obtain ⟨c0, c1, c2⟩ := h.c0
  have HC := hide (most_n (L.s : Int) (L.d : Int) c.g c.o L.n c.cp L.zs V hL.len hL.ok (Nat.lt_of_lt_of_le h.glt h.le) h.row h.room)
  have HN := hide h.num
  clear h
  generalize hq : ((most (confs L.zs) : Nat) : Int) = q at hc HC ⊢
  go_enter Tryz.func152, Tryz.ntmps152
  go_wp2_with (go_at_call 184; refine HC.out.mono ?_; rintro e w1 ⟨rfl, hB1⟩)
  go_wp2_with fail
  refine (throw_nil _).mono ?_
  rintro e w2 ⟨rfl, rfl⟩
  have HS := hide (spaced_any [q] (some ⟨w2.heap.size, 0, none⟩) 1 1 _ (isSl_new w2 [q] 1 rfl) (by intro z hz; simp only [List.mem_cons, List.not_mem_nil, or_false] at hz; rw [hz]; exact hc) (by omega) ((HN.out.below hB1).below ((Below.refl _ _).alloc (Nat.le_refl _) _)).pow)
  have hB2 : Below V.heap.size V (w2.alloc (.cells #[.int .i64 q] 3)) := hB1.trans (((Below.refl _ _).alloc (Nat.le_refl _) _).mono hB1.size)
  go_wp2_with (go_at_call 182; refine HS.out.mono ?_; rintro e w3 ⟨rfl, hB3⟩)
  go_ret
  exact ⟨rfl, hB2.trans (hB3.mono hB2.size)⟩
def showF (v : VS) : List UInt8 := spF [shownF v, (v.out : Int)] ++ [32] ++ Lib.formatBool v.lat
set_option maxHeartbeats 4000000 in
set_option maxRecDepth 100000 in
theorem show_ord (V : World) (a : Value) (h : DkIs V N c D L win S) (hok : VOk win S.v) (hs : IntIn (shownF S.v)) (ho : IntIn (S.v.out : Int)) :
    Calls Tryz.prog 155 #[.pointer (some ⟨c.d, 0, none⟩), a] V fun e V' => e = .returned (.string (txt (showF S.v))) ∧ Below V.heap.size V V' := by
  have HH : Hid (∀ W, Below V.heap.size V W → DkIs W N c D L win S) := hide fun W hB => h.below hB
  have c3 := h.c3
  have hSd : V.drew.cell? ⟨c.d, 3, none⟩ = some (.pointer (some ⟨D.p, 0, none⟩)) := by simpa using c3
  have HOK := hide hok
  obtain ⟨q1, hq1⟩ : ∃ q, Hid (shownF S.v = q) := ⟨_, hide rfl⟩
  obtain ⟨q2, hq2⟩ : ∃ q, Hid ((S.v.out : Int) = q) := ⟨_, hide rfl⟩
  obtain ⟨bl, hbl⟩ : ∃ q, Hid (S.v.lat = q) := ⟨_, hide rfl⟩
  have HI : Hid (∀ z ∈ [q1, q2], IntIn z) := hide (by
    intro z hz
    simp only [List.mem_cons, List.not_mem_nil, or_false] at hz
    rcases hz with rfl | rfl
    · rw [← hq1.out]; exact hs
    · rw [← hq2.out]; exact ho)
  have hl2 : ¬ 9223372036854775807 < (spF [q1, q2]).length + 1 := by
    have := join_few [q1, q2] HI.out
    simp at this
    omega
  have hl3 : ¬ 9223372036854775807 < (spF [q1, q2]).length + 1 + (Lib.formatBool bl).length := by
    have := join_few [q1, q2] HI.out
    simp at this
    have hfb : (Lib.formatBool bl).length ≤ 5 := by cases bl <;> decide
    omega
  have HT : Hid (showF S.v = spF [q1, q2] ++ [32] ++ Lib.formatBool bl) := hide (by unfold showF; rw [hq1.out, hq2.out, hbl.out])
  clear h hok hs ho
  go_enter Tryz.func155, Tryz.ntmps155
  go_wp2
  refine wp_region_held_drew (S := fun W => W.cell? ⟨c.d, 3, none⟩ = some (.pointer (some ⟨D.p, 0, none⟩))) (by kernel_rfl) hSd (fun hHeld => ?_)
  refine wpAnyH_take (i := 0) (oi := _) (v := .pointer (some ⟨c.d, 0, none⟩)) rfl (by kernel_rfl) (by kernel_rfl) (by kernel_rfl) (fun _ _ _ h => h) (Or.inl ⟨by rfl, fun w _ => by go_simp⟩) hHeld ?_
  simp only [Act.put, List.getElem_toArray, List.getElem_cons_zero, List.setIfInBounds_toArray, List.set_cons_succ, List.set_cons_zero]
  refine wpAnyH_take (i := 1) (oi := _) (v := .pointer (some ⟨c.d, 0, none⟩)) rfl (by kernel_rfl) (by kernel_rfl) (by kernel_rfl) (fun _ _ _ h => h) (Or.inl ⟨by rfl, fun w _ => by go_simp⟩) hHeld ?_
  simp only [Act.put, List.getElem_toArray, List.getElem_cons_succ, List.getElem_cons_zero, List.setIfInBounds_toArray, List.set_cons_succ, List.set_cons_zero]
  refine wpAnyH_take (i := 2) (oi := _) (v := .pointer (some ⟨c.d, 3, none⟩)) rfl (by kernel_rfl) (by kernel_rfl) (by kernel_rfl) (fun _ _ _ h => h) (Or.inl ⟨by rfl, fun w _ => by go_simp⟩) hHeld ?_
  simp only [Act.put, List.getElem_toArray, List.getElem_cons_succ, List.getElem_cons_zero, List.setIfInBounds_toArray, List.set_cons_succ, List.set_cons_zero]
  refine wpAnyH_take (i := 3) (oi := _) (v := .pointer (some ⟨D.p, 0, none⟩)) rfl (by kernel_rfl) (by kernel_rfl) (by kernel_rfl) (fun _ _ _ h => h) (Or.inl ⟨by rfl, fun w h => by go_simp⟩) hHeld ?_
  simp only [Act.put, List.getElem_toArray, List.getElem_cons_succ, List.getElem_cons_zero, List.setIfInBounds_toArray, List.set_cons_succ, List.set_cons_zero]
  refine wpAnyH_take (i := 5) (oi := _) (v := .pointer (some ⟨c.d, 0, none⟩)) rfl (by kernel_rfl) (by kernel_rfl) (by kernel_rfl) (fun _ _ _ h => h) (Or.inl ⟨by rfl, fun w _ => by go_simp⟩) hHeld ?_
  simp only [Act.put, List.getElem_toArray, List.getElem_cons_succ, List.getElem_cons_zero, List.setIfInBounds_toArray, List.set_cons_succ, List.set_cons_zero]
  refine wpAnyH_take (i := 6) (oi := _) (v := .pointer (some ⟨c.d, 0, none⟩)) rfl (by kernel_rfl) (by kernel_rfl) (by kernel_rfl) (fun _ _ _ h => h) (Or.inl ⟨by rfl, fun w _ => by go_simp⟩) hHeld ?_
  simp only [Act.put, List.getElem_toArray, List.getElem_cons_succ, List.getElem_cons_zero, List.setIfInBounds_toArray, List.set_cons_succ, List.set_cons_zero]
  refine wpAnyH_take (i := 7) (oi := _) (v := .pointer (some ⟨c.d, 3, none⟩)) rfl (by kernel_rfl) (by kernel_rfl) (by kernel_rfl) (fun _ _ _ h => h) (Or.inl ⟨by rfl, fun w _ => by go_simp⟩) hHeld ?_
  simp only [Act.put, List.getElem_toArray, List.getElem_cons_succ, List.getElem_cons_zero, List.setIfInBounds_toArray, List.set_cons_succ, List.set_cons_zero]
  refine wpAnyH_take (i := 8) (oi := _) (v := .pointer (some ⟨D.p, 0, none⟩)) rfl (by kernel_rfl) (by kernel_rfl) (by kernel_rfl) (fun _ _ _ h => h) (Or.inl ⟨by rfl, fun w h => by go_simp⟩) hHeld ?_
  simp only [Act.put, List.getElem_toArray, List.getElem_cons_succ, List.getElem_cons_zero, List.setIfInBounds_toArray, List.set_cons_succ, List.set_cons_zero]
  refine wpAnyH_take (i := 13) (oi := _) (v := .pointer (some ⟨c.d, 0, none⟩)) rfl (by kernel_rfl) (by kernel_rfl) (by kernel_rfl) (fun _ _ _ h => h) (Or.inl ⟨by rfl, fun w _ => by go_simp⟩) hHeld ?_
  simp only [Act.put, List.getElem_toArray, List.getElem_cons_succ, List.getElem_cons_zero, List.setIfInBounds_toArray, List.set_cons_succ, List.set_cons_zero]
  refine wpAnyH_take (i := 14) (oi := _) (v := .pointer (some ⟨c.d, 0, none⟩)) rfl (by kernel_rfl) (by kernel_rfl) (by kernel_rfl) (fun _ _ _ h => h) (Or.inl ⟨by rfl, fun w _ => by go_simp⟩) hHeld ?_
  simp only [Act.put, List.getElem_toArray, List.getElem_cons_succ, List.getElem_cons_zero, List.setIfInBounds_toArray, List.set_cons_succ, List.set_cons_zero]
  refine wpAnyH_take (i := 15) (oi := _) (v := .pointer (some ⟨c.d, 3, none⟩)) rfl (by kernel_rfl) (by kernel_rfl) (by kernel_rfl) (fun _ _ _ h => h) (Or.inl ⟨by rfl, fun w _ => by go_simp⟩) hHeld ?_
  simp only [Act.put, List.getElem_toArray, List.getElem_cons_succ, List.getElem_cons_zero, List.setIfInBounds_toArray, List.set_cons_succ, List.set_cons_zero]
  refine wpAnyH_take (i := 16) (oi := _) (v := .pointer (some ⟨D.p, 0, none⟩)) rfl (by kernel_rfl) (by kernel_rfl) (by kernel_rfl) (fun _ _ _ h => h) (Or.inl ⟨by rfl, fun w h => by go_simp⟩) hHeld ?_
  simp only [Act.put, List.getElem_toArray, List.getElem_cons_succ, List.getElem_cons_zero, List.setIfInBounds_toArray, List.set_cons_succ, List.set_cons_zero]
  refine wpAnyH_ready (rs := [4]) (by kernel_rfl) (by simp) ?_
  refine AllReadyH.cons (o := _) rfl (fun K hK => ?_) AllReadyH.nil
  rw [if_pos (by rfl)]
  go_simp
  go_at_call 15
  refine (sshown_any N D L win S _ (HH.out _ (Below.refl _ _).drew).sys HOK.out).mono ?_
  rintro e w1 ⟨rfl, hB1⟩
  rw [hq1.out]
  dsimp only
  have HB1 := hide ((Below.refl _ _).drew.trans hB1 : Below V.heap.size V w1)
  clear hB1
  refine hK.out _ _ (HH.out w1 HB1.out).c3 (fun hHeld => ?_)
  clear hK K
  refine wpAnyH_ready (rs := [9]) (by kernel_rfl) (by simp) ?_
  refine AllReadyH.cons (o := _) rfl (fun K hK => ?_) AllReadyH.nil
  rw [if_pos (by rfl)]
  go_simp
  go_at_call 17
  refine (sout_any N D L win S _ (HH.out w1 HB1.out).sys).mono ?_
  rintro e w2 ⟨rfl, rfl⟩
  rw [hq2.out]
  dsimp only
  refine hK.out _ _ (HH.out _ HB1.out).c3 (fun hHeld => ?_)
  clear hK K
  refine wpAnyH_ready (rs := [10]) (by kernel_rfl) (by simp) ?_
  refine AllReadyH.cons (o := _) rfl (fun K hK => ?_) AllReadyH.nil
  rw [if_pos (by rfl)]
  go_simp
  have HB2 : Hid (Below V.heap.size V (w2.alloc (.cells #[.int .i64 q1, .int .i64 q2] 3))) := hide (HB1.out.trans (((Below.refl _ _).alloc (Nat.le_refl _) _).mono HB1.out.size))
  have HP : Hid (Calls Tryz.prog 182 #[.slice (some ⟨w2.heap.size, 0, none⟩) 2 2] (w2.alloc (.cells #[.int .i64 q1, .int .i64 q2] 3)) fun e w' => e = .returned (.string (txt (spF [q1, q2]))) ∧ Hid (Below V.heap.size V w')) := hide (by
    refine (spaced_any [q1, q2] (some ⟨w2.heap.size, 0, none⟩) 2 2 _ (isSl_new w2 [q1, q2] 2 rfl) HI.out (by omega) (HH.out _ HB2.out).num.pow).mono ?_
    rintro e w' ⟨rfl, hB⟩
    exact ⟨rfl, hide (HB2.out.trans (hB.mono HB2.out.size))⟩)
  refine hK.out _ _ (HH.out _ HB2.out).c3 (fun hHeld => ?_)
  clear hK K
  refine wpAnyH_ready (rs := [11]) (by kernel_rfl) (by simp) ?_
  refine AllReadyH.cons (o := _) rfl (fun K hK => ?_) AllReadyH.nil
  rw [if_pos (by rfl)]
  go_simp
  go_at_call 182
  refine HP.out.mono ?_
  rintro e w3 ⟨rfl, HB3⟩
  dsimp only
  refine hK.out _ _ (HH.out _ HB3.out).c3 (fun hHeld => ?_)
  clear hK K HP
  refine wpAnyH_take (i := 12) (oi := _) (v := .string (txt (spF [q1, q2]) ++ ⟨#[32]⟩)) rfl (by kernel_rfl) (by kernel_rfl) (by kernel_rfl) (fun _ _ _ h => h) (Or.inl ⟨by rfl, fun w _ => by go_simp⟩) hHeld ?_
  simp only [Act.put, List.getElem_toArray, List.getElem_cons_succ, List.getElem_cons_zero, List.setIfInBounds_toArray, List.set_cons_succ, List.set_cons_zero]
  refine wpAnyH_ready (rs := [17]) (by kernel_rfl) (by simp) ?_
  refine AllReadyH.cons (o := _) rfl (fun K hK => ?_) AllReadyH.nil
  rw [if_pos (by rfl)]
  go_simp
  go_at_call 14
  refine (slatched_any N D L win S _ (HH.out _ HB3.out).sys).mono ?_
  rintro e w4 ⟨rfl, rfl⟩
  rw [hbl.out]
  dsimp only
  refine hK.out _ _ (HH.out _ HB3.out).c3 (fun hHeld => ?_)
  clear hK K
  refine wpAnyH_ready (rs := [18]) (by kernel_rfl) (by simp) ?_
  refine AllReadyH.cons (o := _) rfl (fun K hK => ?_) AllReadyH.nil
  rw [if_pos (by rfl)]
  go_simp
  go_at_call 185
  refine (Tryz.strconv_FormatBool bl _).mono ?_
  rintro e w5 ⟨rfl, rfl⟩
  dsimp only
  refine hK.out _ _ (HH.out _ HB3.out).c3 (fun hHeld => ?_)
  clear hK K
  refine wpAnyH_take (i := 19) (oi := _) (v := .string (txt (spF [q1, q2]) ++ ⟨#[32]⟩ ++ ⟨(Lib.formatBool bl).toArray⟩)) rfl (by kernel_rfl) (by kernel_rfl) (by kernel_rfl) (fun _ _ _ h => h) (Or.inl ⟨by rfl, fun w _ => by go_simp⟩) hHeld ?_
  simp only [Act.put, List.getElem_toArray, List.getElem_cons_succ, List.getElem_cons_zero, List.setIfInBounds_toArray, List.set_cons_succ, List.set_cons_zero]
  refine wpAnyH_take (i := 20) (oi := _) (v := .string (txt (spF [q1, q2]) ++ ⟨#[32]⟩ ++ ⟨(Lib.formatBool bl).toArray⟩)) rfl (by kernel_rfl) (by kernel_rfl) (by kernel_rfl) (fun _ _ _ h => h) (Or.inl ⟨by rfl, fun w _ => by go_simp⟩) hHeld ?_
  simp only [Act.put, List.getElem_toArray, List.getElem_cons_succ, List.getElem_cons_zero, List.setIfInBounds_toArray, List.set_cons_succ, List.set_cons_zero]
  refine wpAnyH_done (by kernel_rfl) ?_ _
  go_wp2
  go_ret
  refine ⟨?_, HB3.out⟩
  rw [HT.out, ← txt_add, ← txt_add]
  rfl
set_option maxHeartbeats 4000000 in
set_option maxRecDepth 100000 in
theorem newDesk_any (w : World) (hn : HasNum w) (h7 : 7 ≤ w.heap.size) :
    Calls Tryz.prog 58 #[] w fun e w' => ∃ N c D, w.heap.size ≤ c.d ∧ e = .returned (.pointer (some ⟨c.d, 0, none⟩)) ∧ DkIs w' N c D L0 10 (sy0 10) ∧ Below w.heap.size w w' := by
  obtain ⟨V, hV⟩ : ∃ V, Hid (w.alloc (.cells #[.int .i64 0, .slice none 0 0, .int .i64 0, .pointer none, .map none] 167) = V) := ⟨_, hide rfl⟩
  have hB0 : Below w.heap.size w V := by rw [← hV.out]; exact (Below.refl _ _).alloc (Nat.le_refl _) _
  have hb0 : V.heap[w.heap.size]? = some (.cells #[.int .i64 0, .slice none 0 0, .int .i64 0, .pointer none, .map none] 167 (0, 0)) := by rw [← hV.out]; exact blk_new _ _
  have hdl := blk_lt hb0
  obtain ⟨d, hd⟩ : ∃ d, Hid (w.heap.size = d) := ⟨_, hide rfl⟩
  have HA : Hid (Calls Tryz.prog 92 #[.pointer (some ⟨d, 0, none⟩)] V fun e w' => ∃ m, e = .returned (.map (some m)) ∧ (w'.cell? ⟨d, 4, none⟩ = some (.map none) ∧ w'.frozen? ⟨d, 4, none⟩ = false) ∧
      Hid (∃ W, w'.setCell ⟨d, 4, none⟩ (.map (some m)) = W ∧ Below w.heap.size w W ∧ d ≤ m ∧ d < W.heap.size ∧ MpIs W m (ordTab d) ∧ W.heap[d]? = some (.cells #[.int .i64 0, .slice none 0 0, .int .i64 0, .pointer none, .map (some m)] 167 (0, 0)))) := hide (by
    refine (allOrders_any d V).mono ?_
    rintro e w' ⟨m, rfl, hm, hM, hB⟩
    rw [hd.out] at hb0 hdl
    have hbw := (hB.block d hdl).trans hb0
    refine ⟨m, rfl, ⟨blk_cell hbw 4, blk_free hbw 4⟩, hide ⟨_, rfl, ?_, by omega, by rw [World.size_setCell]; exact Nat.lt_of_lt_of_le hdl hB.size, ?_, blk_set hbw 4 _⟩⟩
    · exact (hB0.trans (hB.mono hB0.size)).setCell (by rw [hd.out]; exact Nat.le_refl _) _
    · exact hM.same (((Mod.refl w' (· = d)).set ⟨d, 4, none⟩ _ (fun _ => rfl)).block m hM.lt (by show ¬ m = d; omega)))
  have HN := hide hn
  have H7 := hide h7
  have HS := hide hB0.size
  clear hn h7 hB0 hb0 hdl
  go_enter Tryz.func58, Tryz.ntmps58
  go_wp2_with fail
  rw [hV.out, hd.out]
  refine HA.out.mono ?_
  rintro e w1 ⟨m, rfl, ⟨g0, g1⟩, HW⟩
  obtain ⟨W, hW, hBW, hdm, hdW, hM, hbd⟩ := HW.out
  clear HA HW
  go_wp2_with fail
  have HE : Hid (Calls Tryz.prog 93 #[.pointer (some ⟨d, 0, none⟩), .slice (some ⟨W.heap.size, 0, none⟩) 6 6] (W.alloc (.cells #[.int .i64 10, .int .i64 2, .int .i64 4, .int .i64 3, .int .i64 12, .int .i64 6] 3)) fun e w' => e = .returned (.string (txt [98, 101, 103, 105, 110])) ∧ Hid (∃ N c D, c.d = d ∧ DkIs w' N c D L0 10 (sy0 10) ∧ Below w.heap.size w w')) := hide (by
    have hba : Below W.heap.size W (W.alloc (.cells #[.int .i64 10, .int .i64 2, .int .i64 4, .int .i64 3, .int .i64 12, .int .i64 6] 3)) := (Below.refl _ _).alloc (Nat.le_refl _) _
    have hbn : (W.alloc (.cells #[.int .i64 10, .int .i64 2, .int .i64 4, .int .i64 3, .int .i64 12, .int .i64 6] 3)).heap[W.heap.size]? = some (.cells #[.int .i64 10, .int .i64 2, .int .i64 4, .int .i64 3, .int .i64 12, .int .i64 6] 3 (0, 0)) := blk_new _ _
    have hsl := (isSl_new W [10, 2, 4, 3, 12, 6] 6 rfl).2.2
    have hrow : Row (W.alloc (.cells #[.int .i64 10, .int .i64 2, .int .i64 4, .int .i64 3, .int .i64 12, .int .i64 6] 3)) W.heap.size 0 [10, 2, 4, 3, 12, 6] := by
      rcases hsl with e | ⟨b, o, e1, _, hr⟩
      · cases e
      · simp only [Option.some.injEq, Addr.mk.injEq] at e1
        obtain ⟨rfl, rfl, _⟩ := e1
        exact hr
    generalize (W.alloc (.cells #[.int .i64 10, .int .i64 2, .int .i64 4, .int .i64 3, .int .i64 12, .int .i64 6] 3)) = X at hba hbn hrow ⊢
    refine (begin0 X d m W.heap.size ((hba.block d hdW).trans hbd) (blk_lt hbn) hrow).mono ?_
    rintro e w' ⟨rfl, D, hS, hb', hm'⟩
    have hlo : Below w.heap.size w w' := (hBW.trans (hba.mono hBW.size)).trans (hm'.toBelow (Nat.le_trans hBW.size hba.size) (fun k hk e => by have := hd.out; omega))
    have hX : W.heap.size < X.heap.size := blk_lt hbn
    refine ⟨rfl, hide ⟨X.heap.size, ⟨d, m, W.heap.size, 3, 3⟩, D, rfl, ⟨hb', fun k hk => ?_, Nat.le_refl _, Nat.lt_trans hdW hX, Nat.lt_trans hM.lt hX, hX, ?_, hm'.size, ?_, ?_, hS⟩, hlo⟩⟩
    · have hk3 : k < 3 := hk
      have h1 := hrow (k + 3) (by simp; omega)
      rw [Nat.zero_add, Nat.add_comm] at h1
      refine ((World.cell?_of_block (w := X) (a := ⟨W.heap.size, 3 + k, none⟩) (hm'.block _ hX (by show ¬ W.heap.size = d; omega))).trans h1).trans ?_
      rw [Nat.add_comm]
      rfl
    · have := H7.out; have := hBW.size; omega
    · exact hM.same ((hm'.block m (Nat.lt_trans hM.lt hX) (by show ¬ m = d; intro e; rw [e] at hM; exact hM.notCells hbd)).trans (hba.block m hM.lt))
    · exact HN.out.below hlo)
  refine HE.out.mono ?_
  rintro e w2 ⟨rfl, hg⟩
  go_wp2
  go_ret
  obtain ⟨N, c, D, hc, h1, h2⟩ := hg.out
  exact ⟨N, c, D, by rw [hc, hd.out]; exact Nat.le_refl _, by rw [hc]; rfl, h1, h2⟩
theorem cell_isCells {w : World} {a : Addr} {v : Value} (h : w.cell? a = some v) {o : Obj} (ho : w.heap[a.block]? = some o) : o.isCells = true := by
  unfold World.cell? at h
  rw [ho] at h
  cases o <;> first | rfl | (simp at h)
theorem SyIs.cells {w : World} {N win : Nat} {D : SC} {L : RC} {S : SY} (h : SyIs w N D L win S) (hL : LOk L) {k : Nat} (hk : Wr D k ∨ Sta D k) {o : Obj} (ho : w.heap[k]? = some o) : o.isCells = true := by
  have ty : ∀ {t : TypeId}, TyAt w k t → o.isCells = true := fun ⟨c, f, e⟩ => by rw [e] at ho; cases ho; rfl
  have hf := hL.few
  have hz : 0 < L.zs.length := by rw [hL.len]; omega
  rcases hk with hk | hk
  · rcases hk with rfl | hk | ⟨j, hj, rfl⟩ | rfl | hk
    · exact ty h.tyP
    · exact ty (h.tyN hk)
    · exact ty (h.tyR hj)
    · exact ty h.tyV
    · exact ty (h.tyT hk)
  · rcases hk with rfl | ⟨j, hj, rfl | rfl | rfl | rfl⟩
    · exact cell_isCells (a := ⟨D.g0, 0 + 0, none⟩) (h.row 0 hz) ho
    · have hb := (h.rp j hj).core.blk
      rw [hb] at ho; cases ho; rfl
    · exact cell_isCells (a := ⟨(D.C j).g, 0 + 0, none⟩) ((h.rp j hj).core.row 0 (by rw [(h.ln j hj).zs]; exact hz)) ho
    · exact cell_isCells (a := ⟨(D.C j).M, 0, none⟩) ((h.rp j hj).core.con.cell (by rw [(h.ln j hj).n]; omega)) ho
    · exact cell_isCells (a := ⟨(D.C j).g2, 0 + 0, none⟩) ((h.rp j hj).row 0 (by rw [(h.ln j hj).zs]; exact hz)) ho
theorem BdIs.cells {w : World} {N b : Nat} {v : Value} {l : List UInt8} (h : BdIs w N b v l) {k : Nat} (hk : BdW b v k) {o : Obj} (ho : w.heap[k]? = some o) : o.isCells = true := by
  rcases hk with rfl | hk
  · obtain ⟨p, _, hb⟩ := h.blk
    rw [hb] at ho; cases ho; rfl
  · rcases h.row.2 with ⟨rfl, _⟩ | ⟨g, cap, cur, rfl, _, hg, _⟩
    · simp [Value.ownBlock] at hk
    · simp only [Value.ownBlock, Option.some.injEq] at hk
      subst hk
      rw [hg] at ho; cases ho; rfl
structure SsI (w : World) (B N NB : Nat) (c : DkC) (b bd : Nat) (D : SC) (v : Value) (S : SY) (l : List UInt8) (W : World) : Prop where
  dk : DkIs W N c D L0 10 S
  bl : BdIs W NB b v l
  box : W.heap[bd]? = some (.cells #[.pointer (some ⟨c.d, 0, none⟩)] 100 (0, 0))
  net : S.net = []
  apart : ∀ k, Wr D k ∨ Sta D k → ¬ BdW b v k ∧ k ≠ bd
  own : ¬ BdW b v bd
  lo : N ≤ NB
  low : N ≤ B
  base : NB ≤ W.heap.size
  old : Below w.heap.size w W
  oldB : w.heap.size ≤ B
  oldN : w.heap.size ≤ N
section
variable {w W W' : World} {B N NB b bd : Nat} {c : DkC} {D D' : SC} {v : Value} {S S' : SY} {l : List UInt8}
theorem SsI.bdlt (h : SsI w B N NB c b bd D v S l W) : bd < W.heap.size := blk_lt h.box
theorem SsI.wlt (h : SsI w B N NB c b bd D v S l W) {k : Nat} (hk : BdW b v k) : NB ≤ k ∧ k < W.heap.size := by
  rcases hk with rfl | hk
  · exact ⟨h.bl.ge, h.bl.lt⟩
  · exact h.bl.row.lt k hk
theorem SsI.turn (h : SsI w B N NB c b bd D v S l W) {row : Option Nat} (hg : W.grownBy W' row) (hr : ∀ r, row = some r → B ≤ r ∧ ∃ o : Obj, W.heap[r]? = some o ∧ o.isCells = false) : SsI w B N NB c b bd D v S l W' := by
  have hm : Mod W W' (fun k => row = some k) := ⟨hg.os, hg.tape, hg.output, hg.size, fun k hk ht => hg.block k hk (fun e => ht e.symm)⟩
  have hno : ∀ k, (∀ o : Obj, W.heap[k]? = some o → o.isCells = true) → ¬ row = some k := fun k hc e => by
    obtain ⟨_, o, ho, hf⟩ := hr k e
    rw [hc o ho] at hf
    cases hf
  have hB : ∀ {m : Nat}, m ≤ B → m ≤ W.heap.size → Below m W W' := fun {m} h1 h2 => hm.toBelow h2 fun k hk e => by have := (hr k e).1; omega
  refine ⟨h.dk.others h.net hm (fun k hk => hno k fun o ho => h.dk.sys.cells L0_ok hk ho) (fun k e => Nat.le_trans h.low (hr k e).1), h.bl.mod hm fun k hk => hno k fun o ho => h.bl.cells hk ho, ?_, h.net, h.apart, h.own, h.lo, h.low, Nat.le_trans h.base hg.size, h.old.trans (hB h.oldB h.old.size), h.oldB, h.oldN⟩
  exact (hm.block bd h.bdlt (hno bd fun o ho => by rw [h.box] at ho; cases ho; rfl)).trans h.box
theorem SsI.said (h : SsI w B N NB c b bd D v S l W) (hd : DkIs W' N c D' L0 10 S') (hn : S'.net = []) (hm : Mod W W' (Wr D)) (hg : Gr W.heap.size D D') : SsI w B N NB c b bd D' v S' l W' := by
  refine ⟨hd, h.bl.mod hm fun k hk hw => (h.apart k (.inl hw)).1 hk, (hm.block bd h.bdlt fun hw => (h.apart bd (.inl hw)).2 rfl).trans h.box, hn, fun k hk => ?_, h.own, h.lo, h.low, Nat.le_trans h.base hm.size, h.old.trans (hm.toBelow h.old.size fun k hk hw => by have := h.dk.sys.base k hw; have := h.oldN; omega), h.oldB, h.oldN⟩
  have hor : (Wr D k ∨ Sta D k) ∨ W.heap.size ≤ k := by
    rcases hk with hk | hk
    · exact (hg.wr k hk).imp .inl id
    · exact (hg.st k hk).imp .inr id
  rcases hor with hk | hk
  · exact h.apart k hk
  · exact ⟨fun hw => by have := (h.wlt hw).2; omega, by have := h.bdlt; omega⟩
theorem SsI.wrote (h : SsI w B N NB c b bd D v S l W) {l' : List UInt8} (hg : BdGo W W' NB b v l') : ∃ v', SsI w B N NB c b bd D v' S l' W' := by
  obtain ⟨v', hb, hm, hmv⟩ := hg
  have hw' : ∀ k, BdW b v' k → BdW b v k ∨ W.heap.size ≤ k := fun k hk => by
    rcases hk with rfl | hk
    · exact .inl (.inl rfl)
    · exact (hmv k hk).imp .inr id
  refine ⟨v', h.dk.others h.net hm (fun k hk => (h.apart k hk).1) (fun k hk => Nat.le_trans h.lo (h.wlt hk).1), hb, (hm.block bd h.bdlt h.own).trans h.box, h.net, fun k hk => ⟨fun hw => ?_, (h.apart k hk).2⟩, fun hw => ?_, h.lo, h.low, Nat.le_trans h.base hm.size, h.old.trans (hm.toBelow h.old.size fun k hk hw => by have := (h.wlt hw).1; have := h.oldN; have := h.lo; omega), h.oldB, h.oldN⟩
  · rcases hw' k hw with x | x
    · exact (h.apart k hk).1 x
    · rcases hk with hk | hk
      · have := h.dk.sys.wrLt hk; omega
      · have := h.dk.sys.staLt hk; omega
  · rcases hw' bd hw with x | x
    · exact h.own x
    · have := h.bdlt; omega
end
variable {N : Nat} {c : DkC} {D : SC} {S : SY}
def AnsGo (w w' : World) (N : Nat) (c : DkC) (D : SC) (S' : SY) : Prop := ∃ D', DkIs w' N c D' L0 10 S' ∧ Mod w w' (Wr D) ∧ Gr w.heap.size D D'
theorem DkIs.stays {w w' : World} (h : DkIs w N c D L0 10 S) (hB : Below w.heap.size w w') : AnsGo w w' N c D S := ⟨D, h.below hB, Mod.ofBelow hB _, Gr.refl _ _⟩
theorem ans_no {w : World} (line x : List UInt8) (r : List (List UInt8)) (h : DkIs w N c D L0 10 S) (hl : line.length ≤ 1000000) (hw : wordsF line = x :: r) (hk : (ordTab c.d).lookup x = none) :
    Calls Tryz.prog 61 #[.pointer (some ⟨c.d, 0, none⟩), .string (txt line)] w fun e w' => e = .returned (.string (txt (errF 3))) ∧ AnsGo w w' N c D S := by
  refine (answer_no c.d c.m line x r w hl h.atW hw hk).mono ?_
  rintro e w' ⟨he, hB⟩
  exact ⟨he, h.stays hB⟩
theorem ans_tells {w : World} (line x s : List UInt8) (r : List (List UInt8)) (h : DkIs w N c D L0 10 S) (hl : line.length ≤ 1000000) (hw : wordsF line = x :: r) (a b : Int) (f : Nat) (l : List Int) (hk : (ordTab c.d).lookup x = some (ordV c.d a b f)) (ha : a ≤ (r.length : Int)) (hb : (r.length : Int) ≤ b) (hr : sayF r = some l)
    (hef : ∀ args w, (callFunc f args).run Tryz.prog w = .ok (.enter f args) w)
    (hord : ∀ V a, DkIs V N c D L0 10 S → Calls Tryz.prog f #[.pointer (some ⟨c.d, 0, none⟩), a] V fun e V' => e = .returned (.string (txt s)) ∧ Below V.heap.size V V') :
    Calls Tryz.prog 61 #[.pointer (some ⟨c.d, 0, none⟩), .string (txt line)] w fun e w' => e = .returned (.string (txt s)) ∧ AnsGo w w' N c D S := by
  refine (answer_do c.d c.m line x r w hl h.atW hw a b f l hk ha hb hr hef (fun s' V' => s' = s ∧ Below w.heap.size w V') fun V M hB _ _ _ => ?_).mono ?_
  · refine (hord V _ (h.below hB)).mono ?_
    rintro e V' ⟨rfl, hB'⟩
    exact ⟨Mod.ofBelow hB' _, s, ⟨rfl, hB.trans (hB'.mono hB.size)⟩, .inl rfl⟩
  · rintro e w' ⟨s', V', ⟨rfl, hB⟩, rfl, hm⟩
    exact ⟨rfl, h.stays (hB.trans (hm.toBelow hB.size fun k hk e => by omega))⟩
end Go.Proofs.YtaablbmgagiajabGreatDoor
namespace Go.Proofs.YtaablbmgagiajabGreatDoor
open Go.RowKit Go.Deep Go.Shelf
attribute [local go_sem] Oper.semAt_some
def AnsOk (t : List UInt8) (Rel : List {x : List UInt8 // x ∈ linesOf t} → SY → List UInt8 → Prop) : Prop :=
  ∀ pre x S l W N c D, Rel pre S l → pre.length < (linesOf t).length → DkIs W N c D L0 10 S → Calls Tryz.prog 61 #[.pointer (some ⟨c.d, 0, none⟩), .string (txt x.1)] W fun e W' =>
    ∃ s S' D', e = .returned (.string (txt s)) ∧ Rel (pre ++ [x]) S' (l ++ s ++ [10]) ∧ DkIs W' N c D' L0 10 S' ∧ Mod W W' (Wr D) ∧ Gr W.heap.size D D'
theorem keeps_mod {B : Nat} {W W' : World} {T : Nat → Prop} (hm : Mod W W' T) (hc : ∀ k, T k → ∀ o : Obj, W.heap[k]? = some o → o.isCells = true) : KeepsFrom B W W' :=
  ⟨hm.size, fun k o _ hk ho => (hm.block k (Array.getElem?_eq_some_iff.1 hk).1 (fun ht => by rw [hc k ht o hk] at ho; cases ho)).trans hk⟩
set_option maxRecDepth 100000 in
set_option maxHeartbeats 4000000 in
theorem session_any (t : List UInt8) (w : World) (ht : t.length ≤ 20000) (hn : HasNum w) (h7 : 7 ≤ w.heap.size) (Rel : List {x : List UInt8 // x ∈ linesOf t} → SY → List UInt8 → Prop) (h0 : Rel [] (sy0 10) [])
    (hnet : ∀ pre S l, Rel pre S l → S.net = [] ∧ l.length ≤ 10000000) (hans : AnsOk t Rel) :
    Calls Tryz.prog 23 #[.string (txt t)] w fun e w' => (∃ xs S l, xs.map Subtype.val = linesOf t ∧ Rel xs S l ∧ e = .returned (.string (txt l))) ∧ Below w.heap.size w w' := by
  have HND := hide (newDesk_any w hn h7)
  have htl : ¬ (20000 : Int) < (t.length : Int) := by omega
  have htl2 : ¬ 20000 < t.length := by omega
  have htd : decide ((20000 : Int) < (t.length : Int)) = false := decide_eq_false htl
  refine (callsIn_wide (n := 3)).1 ?_
  refine callsIn_of_wp_marks Tryz.func23 rfl trivial ?_ rfl
  simp only [Tryz.ntmps23, List.size_toArray, List.length_cons, List.length_nil, Nat.reduceAdd, Nat.reduceSub, Array.replicate_succ, Array.replicate_zero, List.push_toArray, List.append_toArray, List.nil_append, List.cons_append]
  gi_wp2_with fail
  refine ⟨trivial, ?_⟩
  gi_at_call 58
  refine (callsIn_wide.2 HND.out).mono ?_
  rintro e w1 ⟨N, c, D, hcd, rfl, hdk, hB⟩
  clear HND
  have HDK := hide hdk
  have HB := hide hB
  clear hdk hB
  gi_wp2_with fail
  refine ⟨trivial, ?_⟩
  gi_at_call 59
  refine (lines_in _ t _).mono ?_
  rintro e w2 ⟨rfl, rfl⟩
  gi_wp2_with fail
  obtain ⟨W0, hW0⟩ : ∃ W0, Hid (((w1.alloc (.cells #[.pointer (some ⟨c.d, 0, none⟩)] 100)).alloc (.cells #[.pointer none, .slice none 0 0] 104)).alloc (.cells #[.string (txt t)] 9) = W0) := ⟨_, hide rfl⟩
  rw [hW0.out]
  have hsz : W0.heap.size = w1.heap.size + 3 := by rw [← hW0.out]; simp
  have hbt : W0.cell? ⟨w1.heap.size + 1 + 1, 0, none⟩ = some (.string (txt t)) := by
    have hb3 := blk_new ((w1.alloc (.cells #[.pointer (some ⟨c.d, 0, none⟩)] 100)).alloc (.cells #[.pointer none, .slice none 0 0] 104)) (.cells #[.string (txt t)] 9)
    rw [hW0.out, World.size_alloc, World.size_alloc] at hb3
    exact blk_cell hb3 0
  have HS0 : Hid (SsI w W0.heap.size N (w1.heap.size + 1) c (w1.heap.size + 1) w1.heap.size D (.slice none 0 0) (sy0 10) [] W0) := hide (by
    have hB1 : Below w1.heap.size w1 (w1.alloc (.cells #[.pointer (some ⟨c.d, 0, none⟩)] 100)) := (Below.refl _ _).alloc (Nat.le_refl _) _
    have hx1 := blk_new w1 (.cells #[.pointer (some ⟨c.d, 0, none⟩)] 100)
    have hz1 : (w1.alloc (.cells #[.pointer (some ⟨c.d, 0, none⟩)] 100)).heap.size = w1.heap.size + 1 := World.size_alloc _ _
    generalize w1.alloc (.cells #[.pointer (some ⟨c.d, 0, none⟩)] 100) = x1 at hB1 hx1 hz1 hW0
    have hB2 : Below x1.heap.size x1 (x1.alloc (.cells #[.pointer none, .slice none 0 0] 104)) := (Below.refl _ _).alloc (Nat.le_refl _) _
    have hbd := BdIs.new x1
    generalize x1.alloc (.cells #[.pointer none, .slice none 0 0] 104) = x2 at hB2 hbd hW0
    have hB3 : Below x2.heap.size x2 W0 := by rw [← hW0.out]; exact (Below.refl _ _).alloc (Nat.le_refl _) _
    have hB12 := hB1.trans (hB2.mono hB1.size)
    have hBa := hB12.trans (hB3.mono hB12.size)
    have hB23 := hB2.trans (hB3.mono hB2.size)
    rw [hz1] at hbd
    have hle := HDK.out.le
    have hw1 : w.heap.size ≤ N := by have := HDK.out.dlt; omega
    refine ⟨HDK.out.below hBa, hbd.below hB3, (hB23.block _ (by omega)).trans hx1, rfl, fun k hk => ?_, ?_, by omega, by omega, by omega, HB.out.trans (hBa.mono HB.out.size), by omega, hw1⟩
    · have hkl : k < w1.heap.size := by
        rcases hk with hk | hk
        · exact HDK.out.sys.wrLt hk
        · exact HDK.out.sys.staLt hk
      refine ⟨?_, by omega⟩
      rintro (e | e)
      · omega
      · simp [Value.ownBlock] at e
    · rintro (e | e)
      · omega
      · simp [Value.ownBlock] at e)
  clear HDK HB
  have hlt : w1.heap.size + 1 + 1 < W0.heap.size := by omega
  refine wpIn_rangeFunc_ownG rfl (by omega) (gf := 94) (lb := #[.pointer (some ⟨w1.heap.size + 1 + 1, 0, none⟩)]) rfl trivial (enters_of Tryz.func94 (by kernel_rfl) rfl) (lines_stops _ (by omega) (w1.heap.size + 1 + 1) t (by omega) W0 hlt hbt) (fun _ _ => trivial) (fun _ _ _ _ _ _ _ _ => trivial) (Below.refl _ _) (fun _ => rfl)
    (fun pre W => ∃ S l D v, Rel pre S l ∧ SsI w W0.heap.size N (w1.heap.size + 1) c (w1.heap.size + 1) w1.heap.size D v S l W) (fun _ _ _ => False)
    (fun pre A Bw row hs hg hr => by
      obtain ⟨S, l, D, v, h1, h2⟩ := hs
      exact ⟨S, l, D, v, h1, h2.turn hg hr⟩)
    (fun _ _ _ _ _ hs _ _ => hs)
    ⟨sy0 10, [], D, _, h0, HS0.out⟩
    (fun x => { tmps := #[.string (txt t), undef, .string ⟨#[]⟩, .pointer (some ⟨w1.heap.size, 0, none⟩), .pointer (some ⟨w1.heap.size + 1, 0, none⟩), .string (txt x.1), .string (txt t), .int .i64 (t.length : Int), .bool false, undef, undef, .pointer (some ⟨c.d, 0, none⟩), .string (txt t), .func (.func 94) #[] #[.pointer (some ⟨w1.heap.size + 1 + 1, 0, none⟩)], .string (txt x.1), undef, undef, undef, undef, undef, undef], defers := [] }) ?assign ?body ?done ?stop
  case assign =>
    intro l x W K hK
    gi_wp2
    exact hK
  case body =>
    rintro l pre x W ⟨S, la, D, v, hR, hI⟩ hlen
    have c0 : W.cell? ⟨w1.heap.size, 0, none⟩ = some (.pointer (some ⟨c.d, 0, none⟩)) := blk_cell hI.box 0
    have HA := hide (hans pre x S la W N c D hR hlen hI.dk)
    have HI := hide hI
    clear hI
    gi_wp2_with fail
    refine ⟨trivial, ?_⟩
    gi_at_call 61
    refine (CallsIn.inRound l (callsIn_wide.2 HA.out)).mono ?_
    rintro e W1 ⟨s, S', D', rfl, hR', hdk', hm', hg'⟩
    have hnl := hnet _ _ _ hR'
    have hlen2 : la.length + s.length + 1 ≤ 10000000 := by
      have h2 := hnl.2
      simp only [List.length_append, List.length_cons, List.length_nil] at h2
      omega
    have hI1 := HI.out.said hdk' hnl.1 hm' hg'
    have hk1 : KeepsFrom W0.heap.size W W1 := keeps_mod hm' fun k hk o ho => HI.out.dk.sys.cells L0_ok (.inl hk) ho
    have HWS := hide (writeString_any (w1.heap.size + 1) (w1.heap.size + 1) v la s W1 hI1.bl hI1.base (by omega))
    have HI1 := hide hI1
    have HK1 := hide hk1
    have HR' := hide hR'
    clear hI1 hk1 hR' hdk' hm' hg' hnl HA c0
    gi_wp2_with fail
    refine ⟨trivial, ?_⟩
    gi_at_call 60
    refine (CallsIn.inRound l (callsIn_wide.2 HWS.out)).mono ?_
    rintro e W2 ⟨⟨x2, rfl⟩, hg2⟩
    obtain ⟨v2, hI2⟩ := HI1.out.wrote hg2
    have hk2 : KeepsFrom W0.heap.size W1 W2 := by
      obtain ⟨_, _, hm, _⟩ := hg2
      exact keeps_mod hm fun k hk o ho => HI1.out.bl.cells hk ho
    have HWB : Hid (Calls Tryz.prog 62 #[.pointer (some ⟨w1.heap.size + 1, 0, none⟩), .int .u8 10] W2 fun e w' => (∃ x, e = .returned x) ∧ BdGo W2 w' (w1.heap.size + 1) (w1.heap.size + 1) v2 (la ++ s ++ [10])) := hide (writeByte_any (w1.heap.size + 1) (w1.heap.size + 1) v2 (la ++ s) 10 W2 hI2.bl hI2.base (by rw [List.length_append]; omega))
    have HI2 := hide hI2
    have HK2 := hide (HK1.out.trans hk2)
    clear hI2 hk2 hg2 HWS
    gi_wp2_with fail
    refine ⟨trivial, ?_⟩
    gi_at_call 62
    refine (CallsIn.inRound l (callsIn_wide.2 HWB.out)).mono ?_
    rintro e W3 ⟨⟨x3, rfl⟩, hg3⟩
    obtain ⟨v3, hI3⟩ := HI2.out.wrote hg3
    have hk3 : KeepsFrom W0.heap.size W2 W3 := by
      obtain ⟨_, _, hm, _⟩ := hg3
      exact keeps_mod hm fun k hk o ho => HI2.out.bl.cells hk ho
    have HF : Hid (KeepsFrom W0.heap.size W W3 ∧ True ∧ ∃ S l D v, Rel (pre ++ [x]) S l ∧ SsI w W0.heap.size N (w1.heap.size + 1) c (w1.heap.size + 1) w1.heap.size D v S l W3) := hide ⟨HK2.out.trans hk3, trivial, S', _, D', v3, HR'.out, hI3⟩
    clear hI3 hk3 hg3 HWB
    gi_wp2
    exact HF.out
  case done =>
    rintro Dd xs W hDd hxs ⟨S, la, D, v, hR, hI⟩ hK
    have HST := hide (string_any (w1.heap.size + 1) (w1.heap.size + 1) v la W hI.bl hI.base)
    have HO : Hid (∀ w', Below (w1.heap.size + 1) W w' → Below w.heap.size w w') := hide fun w' hB => hI.old.trans (hB.mono (by have := hI.oldN; have := hI.lo; omega))
    have HR := hide hR
    have HX := hide hxs
    clear hI hR hxs
    gi_wp2_with fail
    refine ⟨trivial, ?_⟩
    gi_at_call 63
    refine (callsIn_wide.2 HST.out).mono ?_
    rintro e W9 ⟨rfl, hB9, hd9⟩
    have hK9 := hd9 Dd _ hK
    have HB9 := hide (HO.out W9 hB9)
    clear hK hB9 hd9 HST HO
    gi_wp2
    refine ⟨by simp, .inl ⟨_, _, rfl, run_takeDeferred hK9, ?_⟩⟩
    have hwd : w.heap.size ≤ Dd := Nat.le_trans HS0.out.oldB hDd
    exact ⟨_, results_tmp rfl _ _ _, ⟨xs, S, la, HX.out, HR.out, rfl⟩, HB9.out.trans ((Below.refl _ W9).grown (grownBy_putObj' W9 Dd _) HB9.out.size (fun k e => by cases e; exact hwd))⟩
  case stop =>
    rintro Dd cc pre W _ _ h _
    exact h.elim
end Go.Proofs.YtaablbmgagiajabGreatDoor
namespace Go.Proofs.YtaablbmgagiajabGreatDoor
open Go.RowKit Go.Deep
def wConf : List UInt8 := [99, 111, 110, 102, 108, 105, 99, 116, 115]
def wMost : List UInt8 := [109, 111, 115, 116]
def wShow : List UInt8 := [115, 104, 111, 119]
def t0 : List UInt8 := wConf ++ [10] ++ wMost ++ [10] ++ wShow ++ [10, 120, 10]
theorem lines_t0 : linesOf t0 = [wConf, wMost, wShow, [120]] := by decide
theorem words_conf : wordsF wConf = [wConf] := by decide
theorem words_most : wordsF wMost = [wMost] := by decide
theorem words_show : wordsF wShow = [wShow] := by decide
theorem words_x : wordsF [120] = [[120]] := by decide
theorem say_nil : sayF [] = some [] := rfl
theorem confL_L0 : confL L0 = [4, 4, 3] := by decide
theorem most_L0 : most (confs L0.zs) = 2 := by decide
def ansT (x : List UInt8) : List UInt8 := if x = wConf then spF (confL L0) else if x = wMost then spF [((most (confs L0.zs) : Nat) : Int)] else if x = wShow then showF (sy0 10).v else errF 3
def RelT (pre : List {x : List UInt8 // x ∈ linesOf t0}) (S : SY) (l : List UInt8) : Prop := S = sy0 10 ∧ l = (pre.map fun x => ansT x.1 ++ [10]).flatten ∧ pre.length ≤ 4
theorem ansT_few (x : List UInt8) (h : x ∈ linesOf t0) : (ansT x).length ≤ 20 := by
  rw [lines_t0] at h
  simp only [List.mem_cons, List.not_mem_nil, or_false] at h
  rcases h with rfl | rfl | rfl | rfl <;> exact of_decide_eq_true (by kernel_rfl)
theorem relT_few (pre : List {x : List UInt8 // x ∈ linesOf t0}) : ((pre.map fun x => ansT x.1 ++ [10]).flatten).length ≤ 21 * pre.length := by
  induction pre with
  | nil => simp
  | cons x pre ih =>
    have := ansT_few x.1 x.2
    simp only [List.map_cons, List.flatten_cons, List.length_append, List.length_cons, List.length_nil] at ih ⊢
    omega
theorem intIn_small {z : Int} (h0 : -1000 ≤ z) (h1 : z ≤ 100000) : IntIn z := ⟨by omega, by omega⟩
set_option maxHeartbeats 1000000 in
theorem talk_ans : AnsOk t0 RelT := by
  rintro pre ⟨x, hx⟩ S l W N c D ⟨rfl, rfl, hp⟩ hlen hdk
  have hx' := hx
  rw [lines_t0] at hx'
  have h4 : (linesOf t0).length = 4 := by decide
  have hlen' : pre.length < 4 := by omega
  have fin : ∀ s, s = ansT x → ∀ (e : Ending) (W' : World), e = Ending.returned (.string (txt s)) ∧ AnsGo W W' N c D (sy0 10) → ∃ s S' D', e = .returned (.string (txt s)) ∧ RelT (pre ++ [⟨x, hx⟩]) S' ((pre.map fun x => ansT x.1 ++ [10]).flatten ++ s ++ [10]) ∧ DkIs W' N c D' L0 10 S' ∧ Mod W W' (Wr D) ∧ Gr W.heap.size D D' := by
    rintro s rfl e W' ⟨rfl, D', h1, h2, h3⟩
    exact ⟨_, _, D', rfl, ⟨rfl, by simp, by simp; omega⟩, h1, h2, h3⟩
  have hvok : VOk 10 (sy0 10).v := (SInv.new (L := L0) (W := fun _ _ _ _ => True) (liar := 3) (T := 0) (by omega) (by omega)).vok
  simp only [List.mem_cons, List.not_mem_nil, or_false] at hx'
  rcases hx' with rfl | rfl | rfl | rfl
  · refine (ans_tells wConf wConf _ [] hdk (by decide) words_conf 0 0 145 [] rfl (by decide) (by decide) say_nil (enters_of Tryz.func145 (by kernel_rfl) rfl) (fun V a h => conflicts_ord V a h L0_ok ?_)).mono (fin _ rfl)
    rw [confL_L0]
    intro z hz
    simp only [List.mem_cons, List.not_mem_nil, or_false] at hz
    rcases hz with rfl | rfl | rfl <;> exact intIn_small (by decide) (by decide)
  · exact (ans_tells wMost wMost _ [] hdk (by decide) words_most 0 0 152 [] rfl (by decide) (by decide) say_nil (enters_of Tryz.func152 (by kernel_rfl) rfl) (fun V a h => most_ord V a h L0_ok (by rw [most_L0]; exact intIn_small (by decide) (by decide)))).mono (fin _ rfl)
  · exact (ans_tells wShow wShow _ [] hdk (by decide) words_show 0 0 155 [] rfl (by decide) (by decide) say_nil (enters_of Tryz.func155 (by kernel_rfl) rfl) (fun V a h => show_ord V a h hvok (by exact intIn_small (by decide) (by decide)) (by exact intIn_small (by decide) (by decide)))).mono (fin _ rfl)
  · exact (ans_no [120] [120] [] hdk (by decide) words_x rfl).mono (fin _ rfl)
theorem talk_session (w : World) (hn : HasNum w) (h7 : 7 ≤ w.heap.size) :
    Calls Tryz.prog 23 #[.string (txt t0)] w fun e w' => e = .returned (.string (txt [52, 32, 52, 32, 51, 10, 50, 10, 48, 32, 48, 32, 102, 97, 108, 115, 101, 10, 101, 114, 114, 111, 114, 32, 51, 10])) ∧ Below w.heap.size w w' := by
  refine (session_any t0 w (by decide) hn h7 RelT ⟨rfl, rfl, by decide⟩ (fun pre S l h => ⟨by rw [h.1]; rfl, by have := relT_few pre; rw [← h.2.1] at this; have := h.2.2; omega⟩) talk_ans).mono ?_
  rintro e w' ⟨⟨xs, S, l, hxs, hR, rfl⟩, hB⟩
  refine ⟨?_, hB⟩
  have e1 : (xs.map fun x => ansT x.1 ++ [10]) = (xs.map Subtype.val).map fun x => ansT x ++ [10] := by rw [List.map_map]; rfl
  have e2 : ([wConf, wMost, wShow, [120]].map fun x => ansT x ++ [10]).flatten = [52, 32, 52, 32, 51, 10, 50, 10, 48, 32, 48, 32, 102, 97, 108, 115, 101, 10, 101, 114, 114, 111, 114, 32, 51, 10] := by kernel_rfl
  rw [hR.2.1, e1, hxs, lines_t0, e2]
end Go.Proofs.YtaablbmgagiajabGreatDoor
