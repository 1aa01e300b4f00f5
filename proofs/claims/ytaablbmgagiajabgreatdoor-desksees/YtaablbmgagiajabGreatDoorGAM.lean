import Derived.Test.YtaablbmgagiajabGreatDoorGAL
import Derived.Great.BuildSlice
import Derived.Deep.RegionHeld3
import Derived.Test.YtaablbmgagiajabGreatDoorDkDo
import Derived.Test.YtaablbmgagiajabGreatDoorDkLn
import Derived.RangeFuncCalls
import Derived.Test.YtaablbmgagiajabGreatDoorGAF
import Derived.BigQuiet
/- A new desk: begin, at what newDesk tells it, and newDesk. -/
namespace Go.Proofs.YtaablbmgagiajabGreatDoor
open Go.RowKit Go.Deep

/-- The line that a session has at first. -/
def L0 : RC := ⟨4, 2, 3, [3, 12, 6], 0, 0, 0, 0, 0, 0⟩
theorem L0_ok : LOk L0 := ⟨by decide, rfl⟩

/-- The four stores of begin. -/
theorem begin_set {V w2 : World} {d m b p : Nat} (h : ∃ D, D.p = p ∧ SyIs w2 V.heap.size D L0 10 (sy0 10) ∧ Below V.heap.size V w2 ∧ w2.heap[d]? = some (.cells #[.int .i64 0, .slice none 0 0, .int .i64 0, .pointer none, .map (some m)] 167 (0, 0)) ∧ d < V.heap.size) :
    ∃ D, SyIs ((((w2.setCell ⟨d, 0, none⟩ (.int .i64 4)).setCell ⟨d, 1, none⟩ (.slice (some ⟨b, 3, none⟩) 3 3)).setCell ⟨d, 2, none⟩ (.int .i64 2)).setCell ⟨d, 3, none⟩ (.pointer (some ⟨p, 0, none⟩))) V.heap.size D L0 10 (sy0 10) ∧
      ((((w2.setCell ⟨d, 0, none⟩ (.int .i64 4)).setCell ⟨d, 1, none⟩ (.slice (some ⟨b, 3, none⟩) 3 3)).setCell ⟨d, 2, none⟩ (.int .i64 2)).setCell ⟨d, 3, none⟩ (.pointer (some ⟨p, 0, none⟩))).heap[d]? = some (.cells #[.int .i64 4, .slice (some ⟨b, 3, none⟩) 3 3, .int .i64 2, .pointer (some ⟨D.p, 0, none⟩), .map (some m)] 167 (0, 0)) ∧
      Mod V ((((w2.setCell ⟨d, 0, none⟩ (.int .i64 4)).setCell ⟨d, 1, none⟩ (.slice (some ⟨b, 3, none⟩) 3 3)).setCell ⟨d, 2, none⟩ (.int .i64 2)).setCell ⟨d, 3, none⟩ (.pointer (some ⟨p, 0, none⟩))) (· = d) := by
  obtain ⟨D, hp, hS, hB, hdw, hdl⟩ := h
  have b1 := blk_set hdw 0 (.int .i64 4)
  have m1 : Mod w2 (w2.setCell ⟨d, 0, none⟩ (.int .i64 4)) (· = d) := (Mod.refl w2 _).set ⟨d, 0, none⟩ _ (fun _ => rfl)
  generalize w2.setCell ⟨d, 0, none⟩ (.int .i64 4) = x1 at b1 m1 ⊢
  have b2 := blk_set b1 1 (.slice (some ⟨b, 3, none⟩) 3 3)
  have m2 : Mod w2 (x1.setCell ⟨d, 1, none⟩ (.slice (some ⟨b, 3, none⟩) 3 3)) (· = d) := m1.set ⟨d, 1, none⟩ _ (fun _ => rfl)
  generalize x1.setCell ⟨d, 1, none⟩ (.slice (some ⟨b, 3, none⟩) 3 3) = x2 at b2 m2 ⊢
  have b3 := blk_set b2 2 (.int .i64 2)
  have m3 : Mod w2 (x2.setCell ⟨d, 2, none⟩ (.int .i64 2)) (· = d) := m2.set ⟨d, 2, none⟩ _ (fun _ => rfl)
  generalize x2.setCell ⟨d, 2, none⟩ (.int .i64 2) = x3 at b3 m3 ⊢
  have b4 := blk_set b3 3 (.pointer (some ⟨p, 0, none⟩))
  have m4 : Mod w2 (x3.setCell ⟨d, 3, none⟩ (.pointer (some ⟨p, 0, none⟩))) (· = d) := m3.set ⟨d, 3, none⟩ _ (fun _ => rfl)
  generalize x3.setCell ⟨d, 3, none⟩ (.pointer (some ⟨p, 0, none⟩)) = x4 at b4 m4 ⊢
  refine ⟨D, hS.others m4 ?_ (fun i hi => absurd hi (Nat.not_lt_zero i)), by rw [hp]; exact b4, (Mod.ofBelow hB _).then m4 (fun _ _ e => e)⟩
  rintro k (hk | hk) e
  · have := hS.base k hk; omega
  · have := hS.sbase k hk; omega
set_option maxHeartbeats 4000000 in
set_option maxRecDepth 100000 in
theorem begin0 (V : World) (d m b : Nat) (hd : V.heap[d]? = some (.cells #[.int .i64 0, .slice none 0 0, .int .i64 0, .pointer none, .map (some m)] 167 (0, 0))) (hb : b < V.heap.size) (hr : Row V b 0 [10, 2, 4, 3, 12, 6]) :
    Calls Tryz.prog 93 #[.pointer (some ⟨d, 0, none⟩), .slice (some ⟨b, 0, none⟩) 6 6] V fun e V' => e = .returned (.string (txt [98, 101, 103, 105, 110])) ∧ ∃ D, SyIs V' V.heap.size D L0 10 (sy0 10) ∧
      V'.heap[d]? = some (.cells #[.int .i64 4, .slice (some ⟨b, 3, none⟩) 3 3, .int .i64 2, .pointer (some ⟨D.p, 0, none⟩), .map (some m)] 167 (0, 0)) ∧ Mod V V' (· = d) := by
  have hdl : d < V.heap.size := blk_lt hd
  have r0 : V.cell? ⟨b, 0, none⟩ = some (.int .i64 10) := hr 0 (by simp)
  have r1 : V.cell? ⟨b, 1, none⟩ = some (.int .i64 2) := hr 1 (by simp)
  have r2 : V.cell? ⟨b, 2, none⟩ = some (.int .i64 4) := hr 2 (by simp)
  obtain ⟨V1, hV1⟩ : ∃ V1, Hid ((V.alloc (.cells #[.int .i64 4, .slice (some ⟨b, 3, none⟩) 3 3, .int .i64 2] 42)).drew = V1) := ⟨_, hide rfl⟩
  have hB1 : Below V.heap.size V V1 := by rw [← hV1.out]; exact ((Below.refl _ _).alloc (Nat.le_refl _) _).drew
  have hbx : V1.heap[V.heap.size]? = some (.cells #[.int .i64 4, .slice (some ⟨b, 3, none⟩) 3 3, .int .i64 2] 42 (0, 0)) := by rw [← hV1.out]; exact World.alloc_heap_new V _
  have x0 : V1.cell? ⟨V.heap.size, 0, none⟩ = some (.int .i64 4) ∧ V1.cell? ⟨V.heap.size, 1, none⟩ = some (.slice (some ⟨b, 3, none⟩) 3 3) ∧ V1.cell? ⟨V.heap.size, 2, none⟩ = some (.int .i64 2) := by refine ⟨?_, ?_, ?_⟩ <;> simp [World.cell?, hbx]
  obtain ⟨y0, y1, y2⟩ := x0
  have r0' : V1.cell? ⟨b, 0, none⟩ = some (.int .i64 10) := (hB1.cell (p := ⟨b, 0, none⟩) hb).trans r0
  have HN : Hid (Calls Tryz.prog 24 #[.agg #[.int .i64 4, .slice (some ⟨b, 3, none⟩) 3 3, .int .i64 2], .int .i64 10] V1.drew fun e w' => ∃ p, e = .returned (.tuple #[.pointer (some ⟨p, 0, none⟩), .nilIface]) ∧
      ((w'.cell? ⟨V.heap.size, 0, none⟩ = some (.int .i64 4) ∧ w'.cell? ⟨V.heap.size, 1, none⟩ = some (.slice (some ⟨b, 3, none⟩) 3 3) ∧ w'.cell? ⟨V.heap.size, 2, none⟩ = some (.int .i64 2)) ∧
       (w'.cell? ⟨d, 0, none⟩ = some (.int .i64 0) ∧ w'.cell? ⟨d, 1, none⟩ = some (.slice none 0 0) ∧ w'.cell? ⟨d, 2, none⟩ = some (.int .i64 0) ∧ w'.cell? ⟨d, 3, none⟩ = some (.pointer none)) ∧
       (w'.frozen? ⟨d, 0, none⟩ = false ∧ w'.frozen? ⟨d, 1, none⟩ = false ∧ w'.frozen? ⟨d, 2, none⟩ = false ∧ w'.frozen? ⟨d, 3, none⟩ = false)) ∧
      Hid (∃ D, D.p = p ∧ SyIs w' V.heap.size D L0 10 (sy0 10) ∧ Below V.heap.size V w' ∧ w'.heap[d]? = some (.cells #[.int .i64 0, .slice none 0 0, .int .i64 0, .pointer none, .map (some m)] 167 (0, 0)) ∧ d < V.heap.size)) := hide (by
    have hrow : Row V1.drew b 3 L0.zs := fun k hk => by
      have hk3 : k < 3 := hk
      have h1 := hr (k + 3) (by simp; omega)
      rw [Nat.zero_add, Nat.add_comm] at h1
      refine ((hB1.drew.cell (p := ⟨b, 3 + k, none⟩) hb).trans h1).trans ?_
      rw [Nat.add_comm]
      rfl
    refine (synew_any V.heap.size L0 10 b 3 3 V1.drew L0_ok (by omega) (by omega) (Nat.lt_of_lt_of_le hb hB1.drew.size) hrow hB1.drew.size).mono ?_
    rintro e w' ⟨⟨D, rfl, _, hS⟩, hB⟩
    have hBv : Below V1.heap.size V1 w' := (Below.refl _ _).drew.trans hB
    have hBw : Below V.heap.size V w' := hB1.trans (hBv.mono hB1.size)
    have hvl : V.heap.size < V1.heap.size := blk_lt hbx
    have hdw : w'.heap[d]? = some (.cells #[.int .i64 0, .slice none 0 0, .int .i64 0, .pointer none, .map (some m)] 167 (0, 0)) := (hBw.block d hdl).trans hd
    refine ⟨D.p, rfl, ⟨⟨(hBv.cell (p := ⟨V.heap.size, 0, none⟩) hvl).trans y0, (hBv.cell (p := ⟨V.heap.size, 1, none⟩) hvl).trans y1, (hBv.cell (p := ⟨V.heap.size, 2, none⟩) hvl).trans y2⟩, ?_, ?_⟩, hide ⟨D, rfl, hS, hBw, hdw, hdl⟩⟩
    · refine ⟨?_, ?_, ?_, ?_⟩ <;> simp [World.cell?, hdw]
    · refine ⟨?_, ?_, ?_, ?_⟩ <;> simp [World.frozen?, hdw])
  clear hr hd hB1 hbx
  go_enter Tryz.func93, Tryz.ntmps93
  go_wp2
  go_region
  all_goals
    go_wp2
    rw [hV1.out]
    go_region_with (go_at_call 24; refine HN.out.mono ?_; rintro e w1 ⟨p, rfl, ⟨⟨z0, z1, z2⟩, ⟨d0, d1, d2, d3⟩, f0, f1, f2, f3⟩, hg⟩)
  all_goals
    go_wp2_with fail
    refine (throw_nil _).mono ?_
    rintro e w2 ⟨rfl, rfl⟩
    go_wp2
    go_ret
    exact ⟨rfl, begin_set hg.out⟩
end Go.Proofs.YtaablbmgagiajabGreatDoor

/- Orders: conflicts, most, show. -/
namespace Go.Proofs.YtaablbmgagiajabGreatDoor
open Go.RowKit Go.Deep
variable {N win : Nat} {c : DkC} {D : SC} {L : RC} {S : SY}

theorem isSl_new (w : World) (xs : List Int) (n : Nat) (hn : xs.length = n) : IsSl (w.alloc (.cells (xs.map (Value.int .i64)).toArray 3)) (some ⟨w.heap.size, 0, none⟩) n n xs := by
  refine ⟨hn, Nat.le_refl _, .inr ⟨w.heap.size, 0, rfl, by simp, fun k hk => ?_⟩⟩
  have hb : (w.alloc (.cells (xs.map (Value.int .i64)).toArray 3)).heap[w.heap.size]? = some (.cells (xs.map (Value.int .i64)).toArray 3 (0, 0)) := World.alloc_heap_new w _
  unfold World.cell?
  rw [hb]
  simp [hk]
/-- What conflicts tells. -/
def confL (L : RC) : List Int := (List.range L.n).map fun k => ((conf L.zs k : Nat) : Int)
set_option maxHeartbeats 2000000 in
theorem conflicts_ord (V : World) (a : Value) (h : DkIs V N c D L win S) (hL : LOk L) (hc : ∀ z ∈ confL L, IntIn z) :
    Calls Tryz.prog 145 #[.pointer (some ⟨c.d, 0, none⟩), a] V fun e V' => e = .returned (.string (txt (spF (confL L)))) ∧ Below V.heap.size V V' := by
  obtain ⟨c0, c1, c2⟩ := h.c0
  have hf := hL.few
  have HC : Hid (Calls Tryz.prog 178 #[.agg #[.int .i64 (L.s : Int), .slice (some ⟨c.g, c.o, none⟩) L.n c.cp, .int .i64 (L.d : Int)]] V fun e w' => ∃ M, e = .returned (.tuple #[.slice (some ⟨M, 0, none⟩) L.n L.n, .nilIface]) ∧ Hid (Below V.heap.size V w' ∧ IsSl w' (some ⟨M, 0, none⟩) L.n L.n (confL L))) := hide (by
    have hk := conf_ok (L.s : Int) (L.d : Int) c.g c.o c.cp L.zs V hL.ok (Nat.lt_of_lt_of_le h.glt h.le) h.row (by rw [hL.len]; exact h.room)
    rw [hL.len] at hk
    refine hk.mono ?_
    rintro e w' ⟨⟨M, hM, rfl, hrow⟩, hB⟩
    refine ⟨M, rfl, hide ⟨hB, by unfold confL; simp, Nat.le_refl _, .inr ⟨M, 0, rfl, hrow.lt, fun k hk => ?_⟩⟩⟩
    have hk2 : k < L.n := by unfold confL at hk; simpa using hk
    rw [Nat.zero_add, hrow.cell hk2]
    unfold confL
    simp [hk2])
  have HN := hide h.num
  clear h
  go_enter Tryz.func145, Tryz.ntmps145
  go_wp2_with (go_at_call 178; refine HC.out.mono ?_; rintro e w1 ⟨M, rfl, hb⟩)
  go_wp2_with fail
  refine (throw_nil _).mono ?_
  rintro e w2 ⟨rfl, rfl⟩
  have HS := hide (spaced_any (confL L) (some ⟨M, 0, none⟩) L.n L.n _ hb.out.2 hc (by omega) (HN.out.below hb.out.1).pow)
  go_wp2_with (go_at_call 182; refine HS.out.mono ?_; rintro e w3 ⟨rfl, hB3⟩)
  go_ret
  exact ⟨rfl, hb.out.1.trans (hB3.mono hb.out.1.size)⟩

set_option maxHeartbeats 2000000 in
theorem most_ord (V : World) (a : Value) (h : DkIs V N c D L win S) (hL : LOk L) (hc : IntIn ((most (confs L.zs) : Nat) : Int)) :
    Calls Tryz.prog 152 #[.pointer (some ⟨c.d, 0, none⟩), a] V fun e V' => e = .returned (.string (txt (spF [((most (confs L.zs) : Nat) : Int)]))) ∧ Below V.heap.size V V' := by
  obtain ⟨c0, c1, c2⟩ := h.c0
  have HC := hide (most_n (L.s : Int) (L.d : Int) c.g c.o L.n c.cp L.zs V hL.len hL.ok (Nat.lt_of_lt_of_le h.glt h.le) h.row h.room)
  have HN := hide h.num
  clear h
  generalize hq : ((most (confs L.zs) : Nat) : Int) = q at hc HC ⊢
  go_enter Tryz.func152, Tryz.ntmps152
  go_wp2_with (go_at_call 184; refine HC.out.mono ?_; rintro e w1 ⟨rfl, hB1⟩)
  go_wp2_with fail
  refine (throw_nil _).mono ?_
  rintro e w2 ⟨rfl, rfl⟩
  have HS := hide (spaced_any [q] (some ⟨w2.heap.size, 0, none⟩) 1 1 _ (isSl_new w2 [q] 1 rfl) (by intro z hz; simp only [List.mem_cons, List.not_mem_nil, or_false] at hz; rw [hz]; exact hc) (by omega) ((HN.out.below hB1).below ((Below.refl _ _).alloc (Nat.le_refl _) _)).pow)
  have hB2 : Below V.heap.size V (w2.alloc (.cells #[.int .i64 q] 3)) := hB1.trans (((Below.refl _ _).alloc (Nat.le_refl _) _).mono hB1.size)
  go_wp2_with (go_at_call 182; refine HS.out.mono ?_; rintro e w3 ⟨rfl, hB3⟩)
  go_ret
  exact ⟨rfl, hB2.trans (hB3.mono hB2.size)⟩

/-- What show tells. -/
def showF (v : VS) : List UInt8 := spF [shownF v, (v.out : Int)] ++ [32] ++ Lib.formatBool v.lat
set_option maxHeartbeats 4000000 in
set_option maxRecDepth 100000 in
theorem show_ord (V : World) (a : Value) (h : DkIs V N c D L win S) (hok : VOk win S.v) (hs : IntIn (shownF S.v)) (ho : IntIn (S.v.out : Int)) :
    Calls Tryz.prog 155 #[.pointer (some ⟨c.d, 0, none⟩), a] V fun e V' => e = .returned (.string (txt (showF S.v))) ∧ Below V.heap.size V V' := by
  have HH : Hid (∀ W, Below V.heap.size V W → DkIs W N c D L win S) := hide fun W hB => h.below hB
  have c3 := h.c3
  have hSd : V.drew.cell? ⟨c.d, 3, none⟩ = some (.pointer (some ⟨D.p, 0, none⟩)) := by simpa using c3
  have HOK := hide hok
  obtain ⟨q1, hq1⟩ : ∃ q, Hid (shownF S.v = q) := ⟨_, hide rfl⟩
  obtain ⟨q2, hq2⟩ : ∃ q, Hid ((S.v.out : Int) = q) := ⟨_, hide rfl⟩
  obtain ⟨bl, hbl⟩ : ∃ q, Hid (S.v.lat = q) := ⟨_, hide rfl⟩
  have HI : Hid (∀ z ∈ [q1, q2], IntIn z) := hide (by
    intro z hz
    simp only [List.mem_cons, List.not_mem_nil, or_false] at hz
    rcases hz with rfl | rfl
    · rw [← hq1.out]; exact hs
    · rw [← hq2.out]; exact ho)
  have hl2 : ¬ 9223372036854775807 < (spF [q1, q2]).length + 1 := by
    have := join_few [q1, q2] HI.out
    simp at this
    omega
  have hl3 : ¬ 9223372036854775807 < (spF [q1, q2]).length + 1 + (Lib.formatBool bl).length := by
    have := join_few [q1, q2] HI.out
    simp at this
    have hfb : (Lib.formatBool bl).length ≤ 5 := by cases bl <;> decide
    omega
  have HT : Hid (showF S.v = spF [q1, q2] ++ [32] ++ Lib.formatBool bl) := hide (by unfold showF; rw [hq1.out, hq2.out, hbl.out])
  clear h hok hs ho
  go_enter Tryz.func155, Tryz.ntmps155
  go_wp2
  refine wp_region_held_drew (S := fun W => W.cell? ⟨c.d, 3, none⟩ = some (.pointer (some ⟨D.p, 0, none⟩))) (by kernel_rfl) hSd (fun hHeld => ?_)
  refine wpAnyH_take (i := 0) (oi := _) (v := .pointer (some ⟨c.d, 0, none⟩)) rfl (by kernel_rfl) (by kernel_rfl) (by kernel_rfl) (fun _ _ _ h => h) (Or.inl ⟨by rfl, fun w _ => by go_simp⟩) hHeld ?_
  simp only [Act.put, List.getElem_toArray, List.getElem_cons_zero, List.setIfInBounds_toArray, List.set_cons_succ, List.set_cons_zero]
  refine wpAnyH_take (i := 1) (oi := _) (v := .pointer (some ⟨c.d, 0, none⟩)) rfl (by kernel_rfl) (by kernel_rfl) (by kernel_rfl) (fun _ _ _ h => h) (Or.inl ⟨by rfl, fun w _ => by go_simp⟩) hHeld ?_
  simp only [Act.put, List.getElem_toArray, List.getElem_cons_succ, List.getElem_cons_zero, List.setIfInBounds_toArray, List.set_cons_succ, List.set_cons_zero]
  refine wpAnyH_take (i := 2) (oi := _) (v := .pointer (some ⟨c.d, 3, none⟩)) rfl (by kernel_rfl) (by kernel_rfl) (by kernel_rfl) (fun _ _ _ h => h) (Or.inl ⟨by rfl, fun w _ => by go_simp⟩) hHeld ?_
  simp only [Act.put, List.getElem_toArray, List.getElem_cons_succ, List.getElem_cons_zero, List.setIfInBounds_toArray, List.set_cons_succ, List.set_cons_zero]
  refine wpAnyH_take (i := 3) (oi := _) (v := .pointer (some ⟨D.p, 0, none⟩)) rfl (by kernel_rfl) (by kernel_rfl) (by kernel_rfl) (fun _ _ _ h => h) (Or.inl ⟨by rfl, fun w h => by go_simp⟩) hHeld ?_
  simp only [Act.put, List.getElem_toArray, List.getElem_cons_succ, List.getElem_cons_zero, List.setIfInBounds_toArray, List.set_cons_succ, List.set_cons_zero]
  refine wpAnyH_take (i := 5) (oi := _) (v := .pointer (some ⟨c.d, 0, none⟩)) rfl (by kernel_rfl) (by kernel_rfl) (by kernel_rfl) (fun _ _ _ h => h) (Or.inl ⟨by rfl, fun w _ => by go_simp⟩) hHeld ?_
  simp only [Act.put, List.getElem_toArray, List.getElem_cons_succ, List.getElem_cons_zero, List.setIfInBounds_toArray, List.set_cons_succ, List.set_cons_zero]
  refine wpAnyH_take (i := 6) (oi := _) (v := .pointer (some ⟨c.d, 0, none⟩)) rfl (by kernel_rfl) (by kernel_rfl) (by kernel_rfl) (fun _ _ _ h => h) (Or.inl ⟨by rfl, fun w _ => by go_simp⟩) hHeld ?_
  simp only [Act.put, List.getElem_toArray, List.getElem_cons_succ, List.getElem_cons_zero, List.setIfInBounds_toArray, List.set_cons_succ, List.set_cons_zero]
  refine wpAnyH_take (i := 7) (oi := _) (v := .pointer (some ⟨c.d, 3, none⟩)) rfl (by kernel_rfl) (by kernel_rfl) (by kernel_rfl) (fun _ _ _ h => h) (Or.inl ⟨by rfl, fun w _ => by go_simp⟩) hHeld ?_
  simp only [Act.put, List.getElem_toArray, List.getElem_cons_succ, List.getElem_cons_zero, List.setIfInBounds_toArray, List.set_cons_succ, List.set_cons_zero]
  refine wpAnyH_take (i := 8) (oi := _) (v := .pointer (some ⟨D.p, 0, none⟩)) rfl (by kernel_rfl) (by kernel_rfl) (by kernel_rfl) (fun _ _ _ h => h) (Or.inl ⟨by rfl, fun w h => by go_simp⟩) hHeld ?_
  simp only [Act.put, List.getElem_toArray, List.getElem_cons_succ, List.getElem_cons_zero, List.setIfInBounds_toArray, List.set_cons_succ, List.set_cons_zero]
  refine wpAnyH_take (i := 13) (oi := _) (v := .pointer (some ⟨c.d, 0, none⟩)) rfl (by kernel_rfl) (by kernel_rfl) (by kernel_rfl) (fun _ _ _ h => h) (Or.inl ⟨by rfl, fun w _ => by go_simp⟩) hHeld ?_
  simp only [Act.put, List.getElem_toArray, List.getElem_cons_succ, List.getElem_cons_zero, List.setIfInBounds_toArray, List.set_cons_succ, List.set_cons_zero]
  refine wpAnyH_take (i := 14) (oi := _) (v := .pointer (some ⟨c.d, 0, none⟩)) rfl (by kernel_rfl) (by kernel_rfl) (by kernel_rfl) (fun _ _ _ h => h) (Or.inl ⟨by rfl, fun w _ => by go_simp⟩) hHeld ?_
  simp only [Act.put, List.getElem_toArray, List.getElem_cons_succ, List.getElem_cons_zero, List.setIfInBounds_toArray, List.set_cons_succ, List.set_cons_zero]
  refine wpAnyH_take (i := 15) (oi := _) (v := .pointer (some ⟨c.d, 3, none⟩)) rfl (by kernel_rfl) (by kernel_rfl) (by kernel_rfl) (fun _ _ _ h => h) (Or.inl ⟨by rfl, fun w _ => by go_simp⟩) hHeld ?_
  simp only [Act.put, List.getElem_toArray, List.getElem_cons_succ, List.getElem_cons_zero, List.setIfInBounds_toArray, List.set_cons_succ, List.set_cons_zero]
  refine wpAnyH_take (i := 16) (oi := _) (v := .pointer (some ⟨D.p, 0, none⟩)) rfl (by kernel_rfl) (by kernel_rfl) (by kernel_rfl) (fun _ _ _ h => h) (Or.inl ⟨by rfl, fun w h => by go_simp⟩) hHeld ?_
  simp only [Act.put, List.getElem_toArray, List.getElem_cons_succ, List.getElem_cons_zero, List.setIfInBounds_toArray, List.set_cons_succ, List.set_cons_zero]
  refine wpAnyH_ready (rs := [4]) (by kernel_rfl) (by simp) ?_
  refine AllReadyH.cons (o := _) rfl (fun K hK => ?_) AllReadyH.nil
  rw [if_pos (by rfl)]
  go_simp
  go_at_call 15
  refine (sshown_any N D L win S _ (HH.out _ (Below.refl _ _).drew).sys HOK.out).mono ?_
  rintro e w1 ⟨rfl, hB1⟩
  rw [hq1.out]
  dsimp only
  have HB1 := hide ((Below.refl _ _).drew.trans hB1 : Below V.heap.size V w1)
  clear hB1
  refine hK.out _ _ (HH.out w1 HB1.out).c3 (fun hHeld => ?_)
  clear hK K
  refine wpAnyH_ready (rs := [9]) (by kernel_rfl) (by simp) ?_
  refine AllReadyH.cons (o := _) rfl (fun K hK => ?_) AllReadyH.nil
  rw [if_pos (by rfl)]
  go_simp
  go_at_call 17
  refine (sout_any N D L win S _ (HH.out w1 HB1.out).sys).mono ?_
  rintro e w2 ⟨rfl, rfl⟩
  rw [hq2.out]
  dsimp only
  refine hK.out _ _ (HH.out _ HB1.out).c3 (fun hHeld => ?_)
  clear hK K
  refine wpAnyH_ready (rs := [10]) (by kernel_rfl) (by simp) ?_
  refine AllReadyH.cons (o := _) rfl (fun K hK => ?_) AllReadyH.nil
  rw [if_pos (by rfl)]
  go_simp
  have HB2 : Hid (Below V.heap.size V (w2.alloc (.cells #[.int .i64 q1, .int .i64 q2] 3))) := hide (HB1.out.trans (((Below.refl _ _).alloc (Nat.le_refl _) _).mono HB1.out.size))
  have HP : Hid (Calls Tryz.prog 182 #[.slice (some ⟨w2.heap.size, 0, none⟩) 2 2] (w2.alloc (.cells #[.int .i64 q1, .int .i64 q2] 3)) fun e w' => e = .returned (.string (txt (spF [q1, q2]))) ∧ Hid (Below V.heap.size V w')) := hide (by
    refine (spaced_any [q1, q2] (some ⟨w2.heap.size, 0, none⟩) 2 2 _ (isSl_new w2 [q1, q2] 2 rfl) HI.out (by omega) (HH.out _ HB2.out).num.pow).mono ?_
    rintro e w' ⟨rfl, hB⟩
    exact ⟨rfl, hide (HB2.out.trans (hB.mono HB2.out.size))⟩)
  refine hK.out _ _ (HH.out _ HB2.out).c3 (fun hHeld => ?_)
  clear hK K
  refine wpAnyH_ready (rs := [11]) (by kernel_rfl) (by simp) ?_
  refine AllReadyH.cons (o := _) rfl (fun K hK => ?_) AllReadyH.nil
  rw [if_pos (by rfl)]
  go_simp
  go_at_call 182
  refine HP.out.mono ?_
  rintro e w3 ⟨rfl, HB3⟩
  dsimp only
  refine hK.out _ _ (HH.out _ HB3.out).c3 (fun hHeld => ?_)
  clear hK K HP
  refine wpAnyH_take (i := 12) (oi := _) (v := .string (txt (spF [q1, q2]) ++ ⟨#[32]⟩)) rfl (by kernel_rfl) (by kernel_rfl) (by kernel_rfl) (fun _ _ _ h => h) (Or.inl ⟨by rfl, fun w _ => by go_simp⟩) hHeld ?_
  simp only [Act.put, List.getElem_toArray, List.getElem_cons_succ, List.getElem_cons_zero, List.setIfInBounds_toArray, List.set_cons_succ, List.set_cons_zero]
  refine wpAnyH_ready (rs := [17]) (by kernel_rfl) (by simp) ?_
  refine AllReadyH.cons (o := _) rfl (fun K hK => ?_) AllReadyH.nil
  rw [if_pos (by rfl)]
  go_simp
  go_at_call 14
  refine (slatched_any N D L win S _ (HH.out _ HB3.out).sys).mono ?_
  rintro e w4 ⟨rfl, rfl⟩
  rw [hbl.out]
  dsimp only
  refine hK.out _ _ (HH.out _ HB3.out).c3 (fun hHeld => ?_)
  clear hK K
  refine wpAnyH_ready (rs := [18]) (by kernel_rfl) (by simp) ?_
  refine AllReadyH.cons (o := _) rfl (fun K hK => ?_) AllReadyH.nil
  rw [if_pos (by rfl)]
  go_simp
  go_at_call 185
  refine (Tryz.strconv_FormatBool bl _).mono ?_
  rintro e w5 ⟨rfl, rfl⟩
  dsimp only
  refine hK.out _ _ (HH.out _ HB3.out).c3 (fun hHeld => ?_)
  clear hK K
  refine wpAnyH_take (i := 19) (oi := _) (v := .string (txt (spF [q1, q2]) ++ ⟨#[32]⟩ ++ ⟨(Lib.formatBool bl).toArray⟩)) rfl (by kernel_rfl) (by kernel_rfl) (by kernel_rfl) (fun _ _ _ h => h) (Or.inl ⟨by rfl, fun w _ => by go_simp⟩) hHeld ?_
  simp only [Act.put, List.getElem_toArray, List.getElem_cons_succ, List.getElem_cons_zero, List.setIfInBounds_toArray, List.set_cons_succ, List.set_cons_zero]
  refine wpAnyH_take (i := 20) (oi := _) (v := .string (txt (spF [q1, q2]) ++ ⟨#[32]⟩ ++ ⟨(Lib.formatBool bl).toArray⟩)) rfl (by kernel_rfl) (by kernel_rfl) (by kernel_rfl) (fun _ _ _ h => h) (Or.inl ⟨by rfl, fun w _ => by go_simp⟩) hHeld ?_
  simp only [Act.put, List.getElem_toArray, List.getElem_cons_succ, List.getElem_cons_zero, List.setIfInBounds_toArray, List.set_cons_succ, List.set_cons_zero]
  refine wpAnyH_done (by kernel_rfl) ?_ _
  go_wp2
  go_ret
  refine ⟨?_, HB3.out⟩
  rw [HT.out, ← txt_add, ← txt_add]
  rfl
end Go.Proofs.YtaablbmgagiajabGreatDoor

/- newDesk. -/
namespace Go.Proofs.YtaablbmgagiajabGreatDoor
open Go.RowKit Go.Deep

set_option maxHeartbeats 4000000 in
set_option maxRecDepth 100000 in
theorem newDesk_any (w : World) (hn : HasNum w) (h7 : 7 ≤ w.heap.size) :
    Calls Tryz.prog 58 #[] w fun e w' => ∃ N c D, w.heap.size ≤ c.d ∧ e = .returned (.pointer (some ⟨c.d, 0, none⟩)) ∧ DkIs w' N c D L0 10 (sy0 10) ∧ Below w.heap.size w w' := by
  obtain ⟨V, hV⟩ : ∃ V, Hid (w.alloc (.cells #[.int .i64 0, .slice none 0 0, .int .i64 0, .pointer none, .map none] 167) = V) := ⟨_, hide rfl⟩
  have hB0 : Below w.heap.size w V := by rw [← hV.out]; exact (Below.refl _ _).alloc (Nat.le_refl _) _
  have hb0 : V.heap[w.heap.size]? = some (.cells #[.int .i64 0, .slice none 0 0, .int .i64 0, .pointer none, .map none] 167 (0, 0)) := by rw [← hV.out]; exact blk_new _ _
  have hdl := blk_lt hb0
  obtain ⟨d, hd⟩ : ∃ d, Hid (w.heap.size = d) := ⟨_, hide rfl⟩
  -- the orders
  have HA : Hid (Calls Tryz.prog 92 #[.pointer (some ⟨d, 0, none⟩)] V fun e w' => ∃ m, e = .returned (.map (some m)) ∧ (w'.cell? ⟨d, 4, none⟩ = some (.map none) ∧ w'.frozen? ⟨d, 4, none⟩ = false) ∧
      Hid (∃ W, w'.setCell ⟨d, 4, none⟩ (.map (some m)) = W ∧ Below w.heap.size w W ∧ d ≤ m ∧ d < W.heap.size ∧ MpIs W m (ordTab d) ∧ W.heap[d]? = some (.cells #[.int .i64 0, .slice none 0 0, .int .i64 0, .pointer none, .map (some m)] 167 (0, 0)))) := hide (by
    refine (allOrders_any d V).mono ?_
    rintro e w' ⟨m, rfl, hm, hM, hB⟩
    rw [hd.out] at hb0 hdl
    have hbw := (hB.block d hdl).trans hb0
    refine ⟨m, rfl, ⟨blk_cell hbw 4, blk_free hbw 4⟩, hide ⟨_, rfl, ?_, by omega, by rw [World.size_setCell]; exact Nat.lt_of_lt_of_le hdl hB.size, ?_, blk_set hbw 4 _⟩⟩
    · exact (hB0.trans (hB.mono hB0.size)).setCell (by rw [hd.out]; exact Nat.le_refl _) _
    · exact hM.same (((Mod.refl w' (· = d)).set ⟨d, 4, none⟩ _ (fun _ => rfl)).block m hM.lt (by show ¬ m = d; omega)))
  have HN := hide hn
  have H7 := hide h7
  have HS := hide hB0.size
  clear hn h7 hB0 hb0 hdl
  go_enter Tryz.func58, Tryz.ntmps58
  go_wp2_with fail
  rw [hV.out, hd.out]
  refine HA.out.mono ?_
  rintro e w1 ⟨m, rfl, ⟨g0, g1⟩, HW⟩
  obtain ⟨W, hW, hBW, hdm, hdW, hM, hbd⟩ := HW.out
  clear HA HW
  go_wp2_with fail
  have HE : Hid (Calls Tryz.prog 93 #[.pointer (some ⟨d, 0, none⟩), .slice (some ⟨W.heap.size, 0, none⟩) 6 6] (W.alloc (.cells #[.int .i64 10, .int .i64 2, .int .i64 4, .int .i64 3, .int .i64 12, .int .i64 6] 3)) fun e w' => e = .returned (.string (txt [98, 101, 103, 105, 110])) ∧ Hid (∃ N c D, c.d = d ∧ DkIs w' N c D L0 10 (sy0 10) ∧ Below w.heap.size w w')) := hide (by
    have hba : Below W.heap.size W (W.alloc (.cells #[.int .i64 10, .int .i64 2, .int .i64 4, .int .i64 3, .int .i64 12, .int .i64 6] 3)) := (Below.refl _ _).alloc (Nat.le_refl _) _
    have hbn : (W.alloc (.cells #[.int .i64 10, .int .i64 2, .int .i64 4, .int .i64 3, .int .i64 12, .int .i64 6] 3)).heap[W.heap.size]? = some (.cells #[.int .i64 10, .int .i64 2, .int .i64 4, .int .i64 3, .int .i64 12, .int .i64 6] 3 (0, 0)) := blk_new _ _
    have hsl := (isSl_new W [10, 2, 4, 3, 12, 6] 6 rfl).2.2
    have hrow : Row (W.alloc (.cells #[.int .i64 10, .int .i64 2, .int .i64 4, .int .i64 3, .int .i64 12, .int .i64 6] 3)) W.heap.size 0 [10, 2, 4, 3, 12, 6] := by
      rcases hsl with e | ⟨b, o, e1, _, hr⟩
      · cases e
      · simp only [Option.some.injEq, Addr.mk.injEq] at e1
        obtain ⟨rfl, rfl, _⟩ := e1
        exact hr
    generalize (W.alloc (.cells #[.int .i64 10, .int .i64 2, .int .i64 4, .int .i64 3, .int .i64 12, .int .i64 6] 3)) = X at hba hbn hrow ⊢
    refine (begin0 X d m W.heap.size ((hba.block d hdW).trans hbd) (blk_lt hbn) hrow).mono ?_
    rintro e w' ⟨rfl, D, hS, hb', hm'⟩
    have hlo : Below w.heap.size w w' := (hBW.trans (hba.mono hBW.size)).trans (hm'.toBelow (Nat.le_trans hBW.size hba.size) (fun k hk e => by have := hd.out; omega))
    have hX : W.heap.size < X.heap.size := blk_lt hbn
    refine ⟨rfl, hide ⟨X.heap.size, ⟨d, m, W.heap.size, 3, 3⟩, D, rfl, ⟨hb', fun k hk => ?_, Nat.le_refl _, Nat.lt_trans hdW hX, Nat.lt_trans hM.lt hX, hX, ?_, hm'.size, ?_, ?_, hS⟩, hlo⟩⟩
    · have hk3 : k < 3 := hk
      have h1 := hrow (k + 3) (by simp; omega)
      rw [Nat.zero_add, Nat.add_comm] at h1
      refine ((World.cell?_of_block (w := X) (a := ⟨W.heap.size, 3 + k, none⟩) (hm'.block _ hX (by show ¬ W.heap.size = d; omega))).trans h1).trans ?_
      rw [Nat.add_comm]
      rfl
    · have := H7.out; have := hBW.size; omega
    · exact hM.same ((hm'.block m (Nat.lt_trans hM.lt hX) (by show ¬ m = d; intro e; rw [e] at hM; exact hM.notCells hbd)).trans (hba.block m hM.lt))
    · exact HN.out.below hlo)
  refine HE.out.mono ?_
  rintro e w2 ⟨rfl, hg⟩
  go_wp2
  go_ret
  obtain ⟨N, c, D, hc, h1, h2⟩ := hg.out
  exact ⟨N, c, D, by rw [hc, hd.out]; exact Nat.le_refl _, by rw [hc]; rfl, h1, h2⟩
end Go.Proofs.YtaablbmgagiajabGreatDoor

/- What holds from line to line of a session. -/
namespace Go.Proofs.YtaablbmgagiajabGreatDoor
open Go.RowKit Go.Deep

theorem cell_isCells {w : World} {a : Addr} {v : Value} (h : w.cell? a = some v) {o : Obj} (ho : w.heap[a.block]? = some o) : o.isCells = true := by
  unfold World.cell? at h
  rw [ho] at h
  cases o <;> first | rfl | (simp at h)
/-- All blocks of a system are cells. -/
theorem SyIs.cells {w : World} {N win : Nat} {D : SC} {L : RC} {S : SY} (h : SyIs w N D L win S) (hL : LOk L) {k : Nat} (hk : Wr D k ∨ Sta D k) {o : Obj} (ho : w.heap[k]? = some o) : o.isCells = true := by
  have ty : ∀ {t : TypeId}, TyAt w k t → o.isCells = true := fun ⟨c, f, e⟩ => by rw [e] at ho; cases ho; rfl
  have hf := hL.few
  have hz : 0 < L.zs.length := by rw [hL.len]; omega
  rcases hk with hk | hk
  · rcases hk with rfl | hk | ⟨j, hj, rfl⟩ | rfl | hk
    · exact ty h.tyP
    · exact ty (h.tyN hk)
    · exact ty (h.tyR hj)
    · exact ty h.tyV
    · exact ty (h.tyT hk)
  · rcases hk with rfl | ⟨j, hj, rfl | rfl | rfl | rfl⟩
    · exact cell_isCells (a := ⟨D.g0, 0 + 0, none⟩) (h.row 0 hz) ho
    · have hb := (h.rp j hj).core.blk
      rw [hb] at ho; cases ho; rfl
    · exact cell_isCells (a := ⟨(D.C j).g, 0 + 0, none⟩) ((h.rp j hj).core.row 0 (by rw [(h.ln j hj).zs]; exact hz)) ho
    · exact cell_isCells (a := ⟨(D.C j).M, 0, none⟩) ((h.rp j hj).core.con.cell (by rw [(h.ln j hj).n]; omega)) ho
    · exact cell_isCells (a := ⟨(D.C j).g2, 0 + 0, none⟩) ((h.rp j hj).row 0 (by rw [(h.ln j hj).zs]; exact hz)) ho
theorem BdIs.cells {w : World} {N b : Nat} {v : Value} {l : List UInt8} (h : BdIs w N b v l) {k : Nat} (hk : BdW b v k) {o : Obj} (ho : w.heap[k]? = some o) : o.isCells = true := by
  rcases hk with rfl | hk
  · obtain ⟨p, _, hb⟩ := h.blk
    rw [hb] at ho; cases ho; rfl
  · rcases h.row.2 with ⟨rfl, _⟩ | ⟨g, cap, cur, rfl, _, hg, _⟩
    · simp [Value.ownBlock] at hk
    · simp only [Value.ownBlock, Option.some.injEq] at hk
      subst hk
      rw [hg] at ho; cases ho; rfl

/-- A session on the way: the desk, the Builder with what is answered, the variable d. -/
structure SsI (w : World) (B N NB : Nat) (c : DkC) (b bd : Nat) (D : SC) (v : Value) (S : SY) (l : List UInt8) (W : World) : Prop where
  dk : DkIs W N c D L0 10 S
  bl : BdIs W NB b v l
  box : W.heap[bd]? = some (.cells #[.pointer (some ⟨c.d, 0, none⟩)] 100 (0, 0))
  net : S.net = []
  apart : ∀ k, Wr D k ∨ Sta D k → ¬ BdW b v k ∧ k ≠ bd
  own : ¬ BdW b v bd
  lo : N ≤ NB
  low : N ≤ B
  base : NB ≤ W.heap.size
  old : Below w.heap.size w W
  oldB : w.heap.size ≤ B
  oldN : w.heap.size ≤ N
section
variable {w W W' : World} {B N NB b bd : Nat} {c : DkC} {D D' : SC} {v : Value} {S S' : SY} {l : List UInt8}
theorem SsI.bdlt (h : SsI w B N NB c b bd D v S l W) : bd < W.heap.size := blk_lt h.box
theorem SsI.wlt (h : SsI w B N NB c b bd D v S l W) {k : Nat} (hk : BdW b v k) : NB ≤ k ∧ k < W.heap.size := by
  rcases hk with rfl | hk
  · exact ⟨h.bl.ge, h.bl.lt⟩
  · exact h.bl.row.lt k hk
/-- Something that is no cells turns. -/
theorem SsI.turn (h : SsI w B N NB c b bd D v S l W) {row : Option Nat} (hg : W.grownBy W' row) (hr : ∀ r, row = some r → B ≤ r ∧ ∃ o : Obj, W.heap[r]? = some o ∧ o.isCells = false) : SsI w B N NB c b bd D v S l W' := by
  have hm : Mod W W' (fun k => row = some k) := ⟨hg.os, hg.tape, hg.output, hg.size, fun k hk ht => hg.block k hk (fun e => ht e.symm)⟩
  have hno : ∀ k, (∀ o : Obj, W.heap[k]? = some o → o.isCells = true) → ¬ row = some k := fun k hc e => by
    obtain ⟨_, o, ho, hf⟩ := hr k e
    rw [hc o ho] at hf
    cases hf
  have hB : ∀ {m : Nat}, m ≤ B → m ≤ W.heap.size → Below m W W' := fun {m} h1 h2 => hm.toBelow h2 fun k hk e => by have := (hr k e).1; omega
  refine ⟨h.dk.others h.net hm (fun k hk => hno k fun o ho => h.dk.sys.cells L0_ok hk ho) (fun k e => Nat.le_trans h.low (hr k e).1), h.bl.mod hm fun k hk => hno k fun o ho => h.bl.cells hk ho, ?_, h.net, h.apart, h.own, h.lo, h.low, Nat.le_trans h.base hg.size, h.old.trans (hB h.oldB h.old.size), h.oldB, h.oldN⟩
  exact (hm.block bd h.bdlt (hno bd fun o ho => by rw [h.box] at ho; cases ho; rfl)).trans h.box
/-- Behind an answer. -/
theorem SsI.said (h : SsI w B N NB c b bd D v S l W) (hd : DkIs W' N c D' L0 10 S') (hn : S'.net = []) (hm : Mod W W' (Wr D)) (hg : Gr W.heap.size D D') : SsI w B N NB c b bd D' v S' l W' := by
  refine ⟨hd, h.bl.mod hm fun k hk hw => (h.apart k (.inl hw)).1 hk, (hm.block bd h.bdlt fun hw => (h.apart bd (.inl hw)).2 rfl).trans h.box, hn, fun k hk => ?_, h.own, h.lo, h.low, Nat.le_trans h.base hm.size, h.old.trans (hm.toBelow h.old.size fun k hk hw => by have := h.dk.sys.base k hw; have := h.oldN; omega), h.oldB, h.oldN⟩
  have hor : (Wr D k ∨ Sta D k) ∨ W.heap.size ≤ k := by
    rcases hk with hk | hk
    · exact (hg.wr k hk).imp .inl id
    · exact (hg.st k hk).imp .inr id
  rcases hor with hk | hk
  · exact h.apart k hk
  · exact ⟨fun hw => by have := (h.wlt hw).2; omega, by have := h.bdlt; omega⟩
/-- Behind a writer. -/
theorem SsI.wrote (h : SsI w B N NB c b bd D v S l W) {l' : List UInt8} (hg : BdGo W W' NB b v l') : ∃ v', SsI w B N NB c b bd D v' S l' W' := by
  obtain ⟨v', hb, hm, hmv⟩ := hg
  have hw' : ∀ k, BdW b v' k → BdW b v k ∨ W.heap.size ≤ k := fun k hk => by
    rcases hk with rfl | hk
    · exact .inl (.inl rfl)
    · exact (hmv k hk).imp .inr id
  refine ⟨v', h.dk.others h.net hm (fun k hk => (h.apart k hk).1) (fun k hk => Nat.le_trans h.lo (h.wlt hk).1), hb, (hm.block bd h.bdlt h.own).trans h.box, h.net, fun k hk => ⟨fun hw => ?_, (h.apart k hk).2⟩, fun hw => ?_, h.lo, h.low, Nat.le_trans h.base hm.size, h.old.trans (hm.toBelow h.old.size fun k hk hw => by have := (h.wlt hw).1; have := h.oldN; have := h.lo; omega), h.oldB, h.oldN⟩
  · rcases hw' k hw with x | x
    · exact (h.apart k hk).1 x
    · rcases hk with hk | hk
      · have := h.dk.sys.wrLt hk; omega
      · have := h.dk.sys.staLt hk; omega
  · rcases hw' bd hw with x | x
    · exact h.own x
    · have := h.bdlt; omega
end
end Go.Proofs.YtaablbmgagiajabGreatDoor

/- Answers, of orders that only tell and of orders that do. -/
namespace Go.Proofs.YtaablbmgagiajabGreatDoor
open Go.RowKit Go.Deep
variable {N : Nat} {c : DkC} {D : SC} {S : SY}

/-- What is left of a desk behind an answer. -/
def AnsGo (w w' : World) (N : Nat) (c : DkC) (D : SC) (S' : SY) : Prop := ∃ D', DkIs w' N c D' L0 10 S' ∧ Mod w w' (Wr D) ∧ Gr w.heap.size D D'
theorem DkIs.stays {w w' : World} (h : DkIs w N c D L0 10 S) (hB : Below w.heap.size w w') : AnsGo w w' N c D S := ⟨D, h.below hB, Mod.ofBelow hB _, Gr.refl _ _⟩

theorem ans_no {w : World} (line x : List UInt8) (r : List (List UInt8)) (h : DkIs w N c D L0 10 S) (hl : line.length ≤ 1000000) (hw : wordsF line = x :: r) (hk : (ordTab c.d).lookup x = none) :
    Calls Tryz.prog 61 #[.pointer (some ⟨c.d, 0, none⟩), .string (txt line)] w fun e w' => e = .returned (.string (txt (errF 3))) ∧ AnsGo w w' N c D S := by
  refine (answer_no c.d c.m line x r w hl h.atW hw hk).mono ?_
  rintro e w' ⟨he, hB⟩
  exact ⟨he, h.stays hB⟩

theorem ans_tells {w : World} (line x s : List UInt8) (r : List (List UInt8)) (h : DkIs w N c D L0 10 S) (hl : line.length ≤ 1000000) (hw : wordsF line = x :: r) (a b : Int) (f : Nat) (l : List Int) (hk : (ordTab c.d).lookup x = some (ordV c.d a b f)) (ha : a ≤ (r.length : Int)) (hb : (r.length : Int) ≤ b) (hr : sayF r = some l)
    (hef : ∀ args w, (callFunc f args).run Tryz.prog w = .ok (.enter f args) w)
    (hord : ∀ V a, DkIs V N c D L0 10 S → Calls Tryz.prog f #[.pointer (some ⟨c.d, 0, none⟩), a] V fun e V' => e = .returned (.string (txt s)) ∧ Below V.heap.size V V') :
    Calls Tryz.prog 61 #[.pointer (some ⟨c.d, 0, none⟩), .string (txt line)] w fun e w' => e = .returned (.string (txt s)) ∧ AnsGo w w' N c D S := by
  refine (answer_do c.d c.m line x r w hl h.atW hw a b f l hk ha hb hr hef (fun s' V' => s' = s ∧ Below w.heap.size w V') fun V M hB _ _ _ => ?_).mono ?_
  · refine (hord V _ (h.below hB)).mono ?_
    rintro e V' ⟨rfl, hB'⟩
    exact ⟨Mod.ofBelow hB' _, s, ⟨rfl, hB.trans (hB'.mono hB.size)⟩, .inl rfl⟩
  · rintro e w' ⟨s', V', ⟨rfl, hB⟩, rfl, hm⟩
    exact ⟨rfl, h.stays (hB.trans (hm.toBelow hB.size fun k hk e => by omega))⟩

theorem ans_does {w : World} (P : SY → Prop) (line x s : List UInt8) (r : List (List UInt8)) (h : DkIs w N c D L0 10 S) (hl : line.length ≤ 1000000) (hw : wordsF line = x :: r) (a b : Int) (f : Nat) (l : List Int) (hk : (ordTab c.d).lookup x = some (ordV c.d a b f)) (ha : a ≤ (r.length : Int)) (hb : (r.length : Int) ≤ b) (hr : sayF r = some l)
    (hef : ∀ args w, (callFunc f args).run Tryz.prog w = .ok (.enter f args) w)
    (hord : ∀ V M, DkIs V N c D L0 10 S → IsSl V (some ⟨M, 0, none⟩) r.length r.length l → Calls Tryz.prog f #[.pointer (some ⟨c.d, 0, none⟩), .slice (some ⟨M, 0, none⟩) r.length r.length] V fun e V' => e = .returned (.string (txt s)) ∧ ∃ S', P S' ∧ S'.net = [] ∧ SyGo V V' N D L0 10 S') :
    Calls Tryz.prog 61 #[.pointer (some ⟨c.d, 0, none⟩), .string (txt line)] w fun e w' => e = .returned (.string (txt s)) ∧ ∃ S', P S' ∧ AnsGo w w' N c D S' := by
  refine (answer_do c.d c.m line x r w hl h.atW hw a b f l hk ha hb hr hef (fun s' V' => s' = s ∧ ∃ S' D', P S' ∧ S'.net = [] ∧ DkIs V' N c D' L0 10 S' ∧ Mod w V' (Wr D) ∧ ∀ k, (Wr D' k → Wr D k ∨ w.heap.size < k) ∧ (Sta D' k → Sta D k ∨ w.heap.size < k)) fun V M hB hlt hsl _ => ?_).mono ?_
  · refine (hord V M (h.below hB) hsl).mono ?_
    rintro e V' ⟨rfl, S', hP, hn, hg⟩
    obtain ⟨D', hd', hm, hgr⟩ := (h.below hB).went hg
    refine ⟨hm.mono fun k _ hk => h.sys.wrLt hk, s, ⟨rfl, S', D', hP, hn, hd', (Mod.ofBelow hB _).then hm (fun _ _ x => x), fun k => ⟨fun hk => (hgr.wr k hk).imp id (fun e => by omega), fun hk => (hgr.st k hk).imp id (fun e => by omega)⟩⟩, .inl rfl⟩
  · rintro e w' ⟨s', V', ⟨rfl, S', D', hP, hn, hd', hm', hk'⟩, rfl, hm⟩
    have hne : ∀ k, Wr D' k ∨ Sta D' k → ¬ k = w.heap.size := fun k hk e => by
      rcases hk with hk | hk
      · rcases (hk' k).1 hk with x | x
        · have := h.sys.wrLt x; omega
        · omega
      · rcases (hk' k).2 hk with x | x
        · have := h.sys.staLt x; omega
        · omega
    refine ⟨rfl, S', hP, D', hd'.others hn hm hne (fun k e => by rw [e]; exact h.le), hm'.then hm (fun k hk e => by omega), ⟨fun k hk => ((hk' k).1 hk).imp id Nat.le_of_lt, fun k hk => ((hk' k).2 hk).imp id Nat.le_of_lt⟩⟩
end Go.Proofs.YtaablbmgagiajabGreatDoor

/- The contract of Session. -/
namespace Go.Proofs.YtaablbmgagiajabGreatDoor
open Go.RowKit Go.Deep Go.Shelf
attribute [local go_sem] Oper.semAt_some

/-- What an answer is to do to a desk. -/
def AnsOk (t : List UInt8) (Rel : List {x : List UInt8 // x ∈ linesOf t} → SY → List UInt8 → Prop) : Prop :=
  ∀ pre x S l W N c D, Rel pre S l → pre.length < (linesOf t).length → DkIs W N c D L0 10 S → Calls Tryz.prog 61 #[.pointer (some ⟨c.d, 0, none⟩), .string (txt x.1)] W fun e W' =>
    ∃ s S' D', e = .returned (.string (txt s)) ∧ Rel (pre ++ [x]) S' (l ++ s ++ [10]) ∧ DkIs W' N c D' L0 10 S' ∧ Mod W W' (Wr D) ∧ Gr W.heap.size D D'

theorem keeps_mod {B : Nat} {W W' : World} {T : Nat → Prop} (hm : Mod W W' T) (hc : ∀ k, T k → ∀ o : Obj, W.heap[k]? = some o → o.isCells = true) : KeepsFrom B W W' :=
  ⟨hm.size, fun k o _ hk ho => (hm.block k (Array.getElem?_eq_some_iff.1 hk).1 (fun ht => by rw [hc k ht o hk] at ho; cases ho)).trans hk⟩
set_option maxRecDepth 100000 in
set_option maxHeartbeats 4000000 in
theorem session_any (t : List UInt8) (w : World) (ht : t.length ≤ 20000) (hn : HasNum w) (h7 : 7 ≤ w.heap.size) (Rel : List {x : List UInt8 // x ∈ linesOf t} → SY → List UInt8 → Prop) (h0 : Rel [] (sy0 10) [])
    (hnet : ∀ pre S l, Rel pre S l → S.net = [] ∧ l.length ≤ 10000000) (hans : AnsOk t Rel) :
    Calls Tryz.prog 23 #[.string (txt t)] w fun e w' => (∃ xs S l, xs.map Subtype.val = linesOf t ∧ Rel xs S l ∧ e = .returned (.string (txt l))) ∧ Below w.heap.size w w' := by
  have HND := hide (newDesk_any w hn h7)
  have htl : ¬ (20000 : Int) < (t.length : Int) := by omega
  have htl2 : ¬ 20000 < t.length := by omega
  have htd : decide ((20000 : Int) < (t.length : Int)) = false := decide_eq_false htl
  refine (callsIn_wide (n := 3)).1 ?_
  refine callsIn_of_wp_marks Tryz.func23 rfl trivial ?_ rfl
  simp only [Tryz.ntmps23, List.size_toArray, List.length_cons, List.length_nil, Nat.reduceAdd, Nat.reduceSub, Array.replicate_succ, Array.replicate_zero, List.push_toArray, List.append_toArray, List.nil_append, List.cons_append]
  gi_wp2_with fail
  refine ⟨trivial, ?_⟩
  gi_at_call 58
  refine (callsIn_wide.2 HND.out).mono ?_
  rintro e w1 ⟨N, c, D, hcd, rfl, hdk, hB⟩
  clear HND
  have HDK := hide hdk
  have HB := hide hB
  clear hdk hB
  gi_wp2_with fail
  refine ⟨trivial, ?_⟩
  gi_at_call 59
  refine (lines_in _ t _).mono ?_
  rintro e w2 ⟨rfl, rfl⟩
  gi_wp2_with fail
  obtain ⟨W0, hW0⟩ : ∃ W0, Hid (((w1.alloc (.cells #[.pointer (some ⟨c.d, 0, none⟩)] 100)).alloc (.cells #[.pointer none, .slice none 0 0] 104)).alloc (.cells #[.string (txt t)] 9) = W0) := ⟨_, hide rfl⟩
  rw [hW0.out]
  have hsz : W0.heap.size = w1.heap.size + 3 := by rw [← hW0.out]; simp
  have hbt : W0.cell? ⟨w1.heap.size + 1 + 1, 0, none⟩ = some (.string (txt t)) := by
    have hb3 := blk_new ((w1.alloc (.cells #[.pointer (some ⟨c.d, 0, none⟩)] 100)).alloc (.cells #[.pointer none, .slice none 0 0] 104)) (.cells #[.string (txt t)] 9)
    rw [hW0.out, World.size_alloc, World.size_alloc] at hb3
    exact blk_cell hb3 0
  have HS0 : Hid (SsI w W0.heap.size N (w1.heap.size + 1) c (w1.heap.size + 1) w1.heap.size D (.slice none 0 0) (sy0 10) [] W0) := hide (by
    have hB1 : Below w1.heap.size w1 (w1.alloc (.cells #[.pointer (some ⟨c.d, 0, none⟩)] 100)) := (Below.refl _ _).alloc (Nat.le_refl _) _
    have hx1 := blk_new w1 (.cells #[.pointer (some ⟨c.d, 0, none⟩)] 100)
    have hz1 : (w1.alloc (.cells #[.pointer (some ⟨c.d, 0, none⟩)] 100)).heap.size = w1.heap.size + 1 := World.size_alloc _ _
    generalize w1.alloc (.cells #[.pointer (some ⟨c.d, 0, none⟩)] 100) = x1 at hB1 hx1 hz1 hW0
    have hB2 : Below x1.heap.size x1 (x1.alloc (.cells #[.pointer none, .slice none 0 0] 104)) := (Below.refl _ _).alloc (Nat.le_refl _) _
    have hbd := BdIs.new x1
    generalize x1.alloc (.cells #[.pointer none, .slice none 0 0] 104) = x2 at hB2 hbd hW0
    have hB3 : Below x2.heap.size x2 W0 := by rw [← hW0.out]; exact (Below.refl _ _).alloc (Nat.le_refl _) _
    have hB12 := hB1.trans (hB2.mono hB1.size)
    have hBa := hB12.trans (hB3.mono hB12.size)
    have hB23 := hB2.trans (hB3.mono hB2.size)
    rw [hz1] at hbd
    have hle := HDK.out.le
    have hw1 : w.heap.size ≤ N := by have := HDK.out.dlt; omega
    refine ⟨HDK.out.below hBa, hbd.below hB3, (hB23.block _ (by omega)).trans hx1, rfl, fun k hk => ?_, ?_, by omega, by omega, by omega, HB.out.trans (hBa.mono HB.out.size), by omega, hw1⟩
    · have hkl : k < w1.heap.size := by
        rcases hk with hk | hk
        · exact HDK.out.sys.wrLt hk
        · exact HDK.out.sys.staLt hk
      refine ⟨?_, by omega⟩
      rintro (e | e)
      · omega
      · simp [Value.ownBlock] at e
    · rintro (e | e)
      · omega
      · simp [Value.ownBlock] at e)
  clear HDK HB
  have hlt : w1.heap.size + 1 + 1 < W0.heap.size := by omega
  refine wpIn_rangeFunc_ownG rfl (by omega) (gf := 94) (lb := #[.pointer (some ⟨w1.heap.size + 1 + 1, 0, none⟩)]) rfl trivial (enters_of Tryz.func94 (by kernel_rfl) rfl) (lines_stops _ (by omega) (w1.heap.size + 1 + 1) t (by omega) W0 hlt hbt) (fun _ _ => trivial) (fun _ _ _ _ _ _ _ _ => trivial) (Below.refl _ _) (fun _ => rfl)
    (fun pre W => ∃ S l D v, Rel pre S l ∧ SsI w W0.heap.size N (w1.heap.size + 1) c (w1.heap.size + 1) w1.heap.size D v S l W) (fun _ _ _ => False)
    (fun pre A Bw row hs hg hr => by
      obtain ⟨S, l, D, v, h1, h2⟩ := hs
      exact ⟨S, l, D, v, h1, h2.turn hg hr⟩)
    (fun _ _ _ _ _ hs _ _ => hs)
    ⟨sy0 10, [], D, _, h0, HS0.out⟩
    (fun x => { tmps := #[.string (txt t), undef, .string ⟨#[]⟩, .pointer (some ⟨w1.heap.size, 0, none⟩), .pointer (some ⟨w1.heap.size + 1, 0, none⟩), .string (txt x.1), .string (txt t), .int .i64 (t.length : Int), .bool false, undef, undef, .pointer (some ⟨c.d, 0, none⟩), .string (txt t), .func (.func 94) #[] #[.pointer (some ⟨w1.heap.size + 1 + 1, 0, none⟩)], .string (txt x.1), undef, undef, undef, undef, undef, undef], defers := [] }) ?assign ?body ?done ?stop
  case assign =>
    intro l x W K hK
    gi_wp2
    exact hK
  case body =>
    rintro l pre x W ⟨S, la, D, v, hR, hI⟩ hlen
    have c0 : W.cell? ⟨w1.heap.size, 0, none⟩ = some (.pointer (some ⟨c.d, 0, none⟩)) := blk_cell hI.box 0
    have HA := hide (hans pre x S la W N c D hR hlen hI.dk)
    have HI := hide hI
    clear hI
    gi_wp2_with fail
    refine ⟨trivial, ?_⟩
    gi_at_call 61
    refine (CallsIn.inRound l (callsIn_wide.2 HA.out)).mono ?_
    rintro e W1 ⟨s, S', D', rfl, hR', hdk', hm', hg'⟩
    have hnl := hnet _ _ _ hR'
    have hlen2 : la.length + s.length + 1 ≤ 10000000 := by
      have h2 := hnl.2
      simp only [List.length_append, List.length_cons, List.length_nil] at h2
      omega
    have hI1 := HI.out.said hdk' hnl.1 hm' hg'
    have hk1 : KeepsFrom W0.heap.size W W1 := keeps_mod hm' fun k hk o ho => HI.out.dk.sys.cells L0_ok (.inl hk) ho
    have HWS := hide (writeString_any (w1.heap.size + 1) (w1.heap.size + 1) v la s W1 hI1.bl hI1.base (by omega))
    have HI1 := hide hI1
    have HK1 := hide hk1
    have HR' := hide hR'
    clear hI1 hk1 hR' hdk' hm' hg' hnl HA c0
    gi_wp2_with fail
    refine ⟨trivial, ?_⟩
    gi_at_call 60
    refine (CallsIn.inRound l (callsIn_wide.2 HWS.out)).mono ?_
    rintro e W2 ⟨⟨x2, rfl⟩, hg2⟩
    obtain ⟨v2, hI2⟩ := HI1.out.wrote hg2
    have hk2 : KeepsFrom W0.heap.size W1 W2 := by
      obtain ⟨_, _, hm, _⟩ := hg2
      exact keeps_mod hm fun k hk o ho => HI1.out.bl.cells hk ho
    have HWB : Hid (Calls Tryz.prog 62 #[.pointer (some ⟨w1.heap.size + 1, 0, none⟩), .int .u8 10] W2 fun e w' => (∃ x, e = .returned x) ∧ BdGo W2 w' (w1.heap.size + 1) (w1.heap.size + 1) v2 (la ++ s ++ [10])) := hide (writeByte_any (w1.heap.size + 1) (w1.heap.size + 1) v2 (la ++ s) 10 W2 hI2.bl hI2.base (by rw [List.length_append]; omega))
    have HI2 := hide hI2
    have HK2 := hide (HK1.out.trans hk2)
    clear hI2 hk2 hg2 HWS
    gi_wp2_with fail
    refine ⟨trivial, ?_⟩
    gi_at_call 62
    refine (CallsIn.inRound l (callsIn_wide.2 HWB.out)).mono ?_
    rintro e W3 ⟨⟨x3, rfl⟩, hg3⟩
    obtain ⟨v3, hI3⟩ := HI2.out.wrote hg3
    have hk3 : KeepsFrom W0.heap.size W2 W3 := by
      obtain ⟨_, _, hm, _⟩ := hg3
      exact keeps_mod hm fun k hk o ho => HI2.out.bl.cells hk ho
    have HF : Hid (KeepsFrom W0.heap.size W W3 ∧ True ∧ ∃ S l D v, Rel (pre ++ [x]) S l ∧ SsI w W0.heap.size N (w1.heap.size + 1) c (w1.heap.size + 1) w1.heap.size D v S l W3) := hide ⟨HK2.out.trans hk3, trivial, S', _, D', v3, HR'.out, hI3⟩
    clear hI3 hk3 hg3 HWB
    gi_wp2
    exact HF.out
  case done =>
    rintro Dd xs W hDd hxs ⟨S, la, D, v, hR, hI⟩ hK
    have HST := hide (string_any (w1.heap.size + 1) (w1.heap.size + 1) v la W hI.bl hI.base)
    have HO : Hid (∀ w', Below (w1.heap.size + 1) W w' → Below w.heap.size w w') := hide fun w' hB => hI.old.trans (hB.mono (by have := hI.oldN; have := hI.lo; omega))
    have HR := hide hR
    have HX := hide hxs
    clear hI hR hxs
    gi_wp2_with fail
    refine ⟨trivial, ?_⟩
    gi_at_call 63
    refine (callsIn_wide.2 HST.out).mono ?_
    rintro e W9 ⟨rfl, hB9, hd9⟩
    have hK9 := hd9 Dd _ hK
    have HB9 := hide (HO.out W9 hB9)
    clear hK hB9 hd9 HST HO
    gi_wp2
    refine ⟨by simp, .inl ⟨_, _, rfl, run_takeDeferred hK9, ?_⟩⟩
    have hwd : w.heap.size ≤ Dd := Nat.le_trans HS0.out.oldB hDd
    exact ⟨_, results_tmp rfl _ _ _, ⟨xs, S, la, HX.out, HR.out, rfl⟩, HB9.out.trans ((Below.refl _ W9).grown (grownBy_putObj' W9 Dd _) HB9.out.size (fun k e => by cases e; exact hwd))⟩
  case stop =>
    rintro Dd cc pre W _ _ h _
    exact h.elim
end Go.Proofs.YtaablbmgagiajabGreatDoor

/- Lists of bytes that a call itself made. -/
namespace Go.Proofs.YtaablbmgagiajabGreatDoor
open Go.RowKit Go.Deep

/-- A list of bytes that the call itself made. -/
structure OwnB (w : World) (base g n cp : Nat) (l : List Nat) : Prop where
  own : w.ownsRow base 5 1 (.slice (some ⟨g, 0, none⟩) n cp) n (u8s l)
  len : l.length = n
  lt : ∀ c ∈ l, c < 256
theorem OwnB.parts {w : World} {base g n cp : Nat} {l : List Nat} (h : OwnB w base g n cp l) : base ≤ g ∧ g < w.heap.size ∧ n ≤ cp := by
  rcases h.own.2 with ⟨h', _⟩ | ⟨g', cap', cur, h', hb, hg, hnc, _⟩
  · simp at h'
  · simp only [Value.slice.injEq, Option.some.injEq, Addr.mk.injEq, and_true, true_and] at h'
    obtain ⟨rfl, rfl⟩ := h'
    exact ⟨hb, blk_lt hg, hnc⟩
theorem OwnB.at {w : World} {base g n cp : Nat} {l : List Nat} (h : OwnB w base g n cp l) {k : Nat} (hk : k < n) : w.cell? ⟨g, k, none⟩ = some (.int .u8 ((l[k]?.getD 0 : Nat) : Int)) := by
  rw [h.own.cellAt k (by omega)]
  simp [u8s, show k < l.length by rw [h.len]; exact hk]
theorem OwnB.isB {w : World} {base g n cp : Nat} {l : List Nat} (h : OwnB w base g n cp l) : IsB w (some ⟨g, 0, none⟩) n cp l := by
  obtain ⟨_, h2, h3⟩ := h.parts
  refine ⟨h.len, h3, h.lt, .inr ⟨g, 0, rfl, h2, fun k hk => ?_⟩⟩
  rw [Nat.zero_add]
  exact h.at (by rw [← h.len]; exact hk)
theorem OwnB.below {w wx : World} {base g n cp : Nat} {l : List Nat} (h : OwnB w base g n cp l) (hB : Below w.heap.size w wx) : OwnB wx base g n cp l := ⟨owns_below h.own hB, h.len, h.lt⟩
theorem OwnB.free {w : World} {base g n cp : Nat} {l : List Nat} (h : OwnB w base g n cp l) (k : Nat) : w.frozen? ⟨g, k, none⟩ = false := h.own.frozenAt k
theorem OwnB.set {w : World} {base g n cp : Nat} {l : List Nat} (h : OwnB w base g n cp l) (k c : Nat) (hc : c < 256) : OwnB (w.setCell ⟨g, k, none⟩ (.int .u8 (c : Int))) base g n cp (l.set k c) := by
  refine ⟨?_, by rw [List.length_set]; exact h.len, fun d hd => ?_⟩
  · have := (h.own.stored k (.int .u8 (c : Int))).1
    unfold u8s at this ⊢
    rwa [List.map_set]
  · rcases List.mem_or_eq_of_mem_set hd with q | q
    · exact h.lt d q
    · omega
theorem ownB_of {w : World} {base : Nat} {v : Value} {F : FR} (h : w.ownsRow base 5 1 v (encF F).length (u8s (encF F))) : ∃ g cp, v = .slice (some ⟨g, 0, none⟩) (encF F).length cp ∧ OwnB w base g (encF F).length cp (encF F) := by
  have ho := h
  rcases h.2 with ⟨_, h0⟩ | ⟨g, cap, cur, rfl, _⟩
  · have := enc_len F; omega
  · exact ⟨g, cap, rfl, ho, rfl, encF_lt F⟩

end Go.Proofs.YtaablbmgagiajabGreatDoor

/- Bits within 32 are other ones: plain facts. -/
namespace Go.Proofs.YtaablbmgagiajabGreatDoor
open Go.RowKit Go.Deep

/-- Is bit i (the greatest one first) of 32 set? -/
def wBit (what i : Nat) : Bool := what.testBit (31 - i)
/-- The bytes behind i rounds. -/
def flipTo (l : List Nat) (a what : Nat) : Nat → List Nat
  | 0 => l
  | i + 1 => if (wBit what i && decide (a + i < 8 * l.length)) = true then flipB (flipTo l a what i) (a + i) else flipTo l a what i
def someTo (l : List Nat) (a what : Nat) : Nat → Bool
  | 0 => false
  | i + 1 => if (wBit what i && decide (a + i < 8 * l.length)) = true then true else someTo l a what i
theorem flipTo_length (l : List Nat) (a what i : Nat) : (flipTo l a what i).length = l.length := by
  induction i with
  | zero => rfl
  | succ i ih => unfold flipTo; split <;> simp [flipB_length, ih]
theorem flipTo_lt {l : List Nat} (a what i : Nat) (h : ∀ c ∈ l, c < 256) : ∀ c ∈ flipTo l a what i, c < 256 := by
  induction i with
  | zero => exact h
  | succ i ih =>
    unfold flipTo
    split
    · exact flipB_lt _ ih
    · exact ih
theorem bitAt_flipTo (l : List Nat) (a what i k : Nat) (hk : k < 8 * l.length) : bitAt (flipTo l a what i) k = (bitAt l k ^^ (decide (a ≤ k) && (decide (k < a + i) && wBit what (k - a)))) := by
  induction i with
  | zero =>
    unfold flipTo
    have e : (decide (a ≤ k) && (decide (k < a + 0) && wBit what (k - a))) = false := by
      by_cases h : a ≤ k
      · rw [decide_eq_false (show ¬ k < a + 0 by omega)]; simp
      · rw [decide_eq_false h]; rfl
    rw [e, Bool.xor_false]
  | succ i ih =>
    unfold flipTo
    by_cases hki : k = a + i
    · subst hki
      have e : a + i - a = i := by omega
      rw [e] at ih ⊢
      rw [decide_eq_true (show a ≤ a + i by omega), decide_eq_true (show a + i < a + (i + 1) by omega)]
      rw [decide_eq_false (show ¬ a + i < a + i by omega)] at ih
      rw [decide_eq_true hk, Bool.and_true]
      cases hw : wBit what i
      · rw [if_neg (by decide), ih]; simp
      · rw [if_pos rfl, bitAt_flip _ _ _ (by rw [flipTo_length]; exact hk), ih]; simp
    · have e1 : decide (k < a + (i + 1)) = decide (k < a + i) := by
        rw [Bool.eq_iff_iff, decide_eq_true_iff, decide_eq_true_iff]; omega
      rw [e1]
      split
      · rename_i hc
        have : a + i < 8 * l.length := by
          simp only [Bool.and_eq_true, decide_eq_true_eq] at hc
          exact hc.2
        rw [bitAt_flip _ _ _ (by rw [flipTo_length]; exact this), ih, decide_eq_false hki, Bool.xor_false]
      · exact ih
theorem someTo_ex {l : List Nat} {a what i : Nat} (h : someTo l a what i = true) : ∃ j, j < i ∧ wBit what j = true ∧ a + j < 8 * l.length := by
  induction i with
  | zero => exact absurd h (by simp [someTo])
  | succ i ih =>
    unfold someTo at h
    split at h
    · rename_i hc
      simp only [Bool.and_eq_true, decide_eq_true_eq] at hc
      exact ⟨i, by omega, hc.1, hc.2⟩
    · obtain ⟨j, h1, h2, h3⟩ := ih h
      exact ⟨j, by omega, h2, h3⟩
/-- A burst is refused. -/
theorem dec_flip (F : FR) (a what : Nat) (h : someTo (encF F) a what 32 = true) : (decF (flipTo (encF F) a what 32)).1 ≠ 0 ∧ (decF (flipTo (encF F) a what 32)).2 = fr0 := by
  refine dec_burst F _ a (flipTo_lt a what 32 (encF_lt F)) (flipTo_length _ _ _ _) (fun j hj ho => ?_) ?_
  · rw [flipTo_length] at hj
    rw [bitAt_flipTo _ _ _ _ _ hj]
    rcases ho with ho | ho
    · rw [decide_eq_false (show ¬ a ≤ j by omega)]; simp
    · rw [decide_eq_false (show ¬ j < a + 32 by omega)]; simp
  · obtain ⟨j, h1, h2, h3⟩ := someTo_ex h
    refine ⟨a + j, by rw [flipTo_length]; exact h3, ?_⟩
    rw [bitAt_flipTo _ _ _ _ _ h3, decide_eq_true (show a ≤ a + j by omega), decide_eq_true (show a + j < a + 32 by omega), show a + j - a = j by omega, h2]
    cases bitAt (encF F) (a + j) <;> decide

theorem and32_one (x : Nat) (h : x < 4294967296) : bits .and .u32 (x : Int) 1 = ((x % 2 : Nat) : Int) := by
  show IntKind.u32.wrap (((BitVec.ofInt 32 _ &&& BitVec.ofInt 32 _).toNat : Nat) : Int) = _
  rw [BitVec.toNat_and, show (BitVec.ofInt 32 (x : Int)).toNat = x by rw [BitVec.toNat_ofInt]; omega, show (BitVec.ofInt 32 1).toNat = 1 by decide, Nat.and_one_is_mod]
  exact wrap_u32 _ (by omega)
theorem what_bit (what k : Nat) (h : what < 4294967296) (b : Bool) (hb : wBit what k = b) : bits .and .u32 ((what : Int) / 2 ^ (31 - k)) 1 = if b then 1 else 0 := by
  have e : (what : Int) / 2 ^ (31 - k) = ((what / 2 ^ (31 - k) : Nat) : Int) := by simp
  rw [e, and32_one _ (Nat.lt_of_le_of_lt (Nat.div_le_self _ _) h), testBit_eq]
  unfold wBit at hb
  rw [hb]
  cases b <;> rfl
theorem flip_no {l : List Nat} {a what k : Nat} (h : (wBit what k && decide (a + k < 8 * l.length)) = false) : flipTo l a what (k + 1) = flipTo l a what k ∧ someTo l a what (k + 1) = someTo l a what k := by
  constructor
  · rw [flipTo, h]; simp
  · rw [someTo, h]; simp
theorem flip_yes {l : List Nat} {a what k : Nat} (h : (wBit what k && decide (a + k < 8 * l.length)) = true) : flipTo l a what (k + 1) = flipB (flipTo l a what k) (a + k) ∧ someTo l a what (k + 1) = true := by
  constructor
  · rw [flipTo, if_pos h]
  · rw [someTo, if_pos h]

theorem shr128 (r p : Nat) (h : r < 8) (hp : 2 ^ (7 - r) = p) : (128 : Int) / 2 ^ min r 8 = (p : Int) := by
  subst hp
  rcases (by omega : r = 0 ∨ r = 1 ∨ r = 2 ∨ r = 3 ∨ r = 4 ∨ r = 5 ∨ r = 6 ∨ r = 7) with rfl | rfl | rfl | rfl | rfl | rfl | rfl | rfl <;> decide
theorem xor8 (a b : Nat) (ha : a < 2 ^ 8) (hb : b < 2 ^ 8) : bits .xor .u8 (a : Int) (b : Int) = ((a ^^^ b : Nat) : Int) := by
  show IntKind.u8.wrap (((BitVec.ofInt 8 _ ^^^ BitVec.ofInt 8 _).toNat : Nat) : Int) = _
  rw [BitVec.toNat_xor, show (BitVec.ofInt 8 (a : Int)).toNat = a by rw [BitVec.toNat_ofInt]; omega, show (BitVec.ofInt 8 (b : Int)).toNat = b by rw [BitVec.toNat_ofInt]; omega]
  have := Nat.xor_lt_two_pow ha hb
  simp [IntKind.wrap, IntKind.bits, IntKind.signed]
  omega
theorem OwnB.get_lt {w : World} {base g n cp : Nat} {l : List Nat} (h : OwnB w base g n cp l) (k : Nat) : l[k]?.getD 0 < 256 := by
  by_cases hk : k < l.length
  · rw [List.getElem?_eq_getElem hk]; exact h.lt _ (List.getElem_mem hk)
  · rw [List.getElem?_eq_none (by omega)]; decide

end Go.Proofs.YtaablbmgagiajabGreatDoor

/- The contracts of bits.TrailingZeros32 and of burst.within. -/
namespace Go.Proofs.YtaablbmgagiajabGreatDoor
open Go.RowKit Go.Deep

/-- The table that the program's text lays. -/
def tabL : List Nat := [0, 1, 28, 2, 29, 14, 24, 3, 30, 22, 20, 15, 25, 17, 4, 8, 31, 27, 13, 23, 21, 19, 16, 7, 26, 12, 18, 6, 11, 5, 10, 9]
def HasTab (w : World) : Prop := ∀ k, k < 32 → w.cell? ⟨1, k, none⟩ = some (.int .u8 ((tabL[k]?.getD 0 : Nat) : Int))
theorem HasTab.below {w w' : World} (h : HasTab w) (hB : Below w.heap.size w w') (_ : 0 < w.heap.size) : HasTab w' := fun k hk => (hB.cell (p := ⟨1, k, none⟩) (World.block_lt_of_cell? _ _ (h k hk))).trans (h k hk)
theorem low_bit (x : Nat) (h : x ≠ 0) : ∃ t m, x = 2 ^ (t + 1) * m + 2 ^ t := by
  induction x using Nat.strongRecOn with
  | _ x ih =>
    by_cases e : x % 2 = 1
    · exact ⟨0, x / 2, by simp; omega⟩
    · obtain ⟨t, m, hm⟩ := ih (x / 2) (by omega) (by omega)
      refine ⟨t + 1, m, ?_⟩
      have hx : x = 2 * (x / 2) := by omega
      rw [hx, hm, Nat.mul_add, Nat.pow_succ 2 (t + 1), Nat.pow_succ 2 t]
      have : 2 * (2 ^ t * 2 * m) = 2 ^ t * 2 * 2 * m := by rw [Nat.mul_comm 2, Nat.mul_assoc, Nat.mul_assoc, Nat.mul_assoc, Nat.mul_assoc, Nat.mul_comm m 2]
      rw [this, Nat.mul_comm 2 (2 ^ t)]
theorem low_lt {x t m : Nat} (hx : x < 4294967296) (h : x = 2 ^ (t + 1) * m + 2 ^ t) : t < 32 := by
  refine Nat.lt_of_not_le fun hge => ?_
  have : 2 ^ 32 ≤ 2 ^ t := Nat.pow_le_pow_right (by decide) hge
  omega
theorem low_bits {x t m : Nat} (h : x = 2 ^ (t + 1) * m + 2 ^ t) (i : Nat) : x.testBit i = if i < t + 1 then decide (i = t) else m.testBit (i - (t + 1)) := by
  rw [h, Nat.testBit_two_pow_mul_add m (Nat.pow_lt_pow_right (by decide) (Nat.lt_succ_self t)), Nat.testBit_two_pow]
  split
  · congr 1; rw [eq_iff_iff]; omega
  · rfl
theorem low_pred {x t m : Nat} (h : x = 2 ^ (t + 1) * m + 2 ^ t) (i : Nat) : (x - 1).testBit i = if i < t + 1 then decide (i < t) else m.testBit (i - (t + 1)) := by
  have hp := Nat.two_pow_pos t
  have e : x - 1 = 2 ^ (t + 1) * m + (2 ^ t - 1) := by omega
  have hl : 2 ^ t - 1 < 2 ^ (t + 1) := by have := Nat.pow_lt_pow_right (a := 2) (by decide) (Nat.lt_succ_self t); omega
  rw [e, Nat.testBit_two_pow_mul_add m hl, Nat.testBit_two_pow_sub_one]
/-- x & -x. -/
theorem low_and {x t m : Nat} (hx : x < 4294967296) (h : x = 2 ^ (t + 1) * m + 2 ^ t) : x &&& (4294967296 - x) = 2 ^ t := by
  have hp := Nat.two_pow_pos t
  have h0 : 0 < x := by omega
  have e : 4294967296 - x = 2 ^ 32 - ((x - 1) + 1) := by omega
  apply Nat.eq_of_testBit_eq
  intro i
  rw [Nat.testBit_and, e, Nat.testBit_two_pow_sub_succ (by omega), low_bits h i, low_pred h i, Nat.testBit_two_pow]
  have ht := low_lt hx h
  by_cases hi : i < t + 1
  · rw [if_pos hi, if_pos hi]
    by_cases hit : i = t
    · subst hit; simp; omega
    · have h1 : decide (t = i) = false := decide_eq_false (fun e => hit e.symm)
      rw [decide_eq_false hit, h1]; rfl
  · have h1 : decide (t = i) = false := decide_eq_false (by omega)
    rw [if_neg hi, if_neg hi, h1]
    cases m.testBit (i - (t + 1)) <;> simp
theorem tab_at {t : Nat} (ht : t < 32) : (2 ^ t * 125613361 % 4294967296) / 134217728 < 32 ∧ tabL[(2 ^ t * 125613361 % 4294967296) / 134217728]?.getD 0 = t := by
  have : ∀ t : Fin 32, (2 ^ t.val * 125613361 % 4294967296) / 134217728 < 32 ∧ tabL[(2 ^ t.val * 125613361 % 4294967296) / 134217728]?.getD 0 = t.val := by decide +kernel
  exact this ⟨t, ht⟩
theorem and32 (a b : Nat) (ha : a < 4294967296) (hb : b < 4294967296) : bits .and .u32 (a : Int) (b : Int) = ((a &&& b : Nat) : Int) := by
  show IntKind.u32.wrap (((BitVec.ofInt 32 _ &&& BitVec.ofInt 32 _).toNat : Nat) : Int) = _
  rw [BitVec.toNat_and, show (BitVec.ofInt 32 (a : Int)).toNat = a by rw [BitVec.toNat_ofInt]; omega, show (BitVec.ofInt 32 (b : Int)).toNat = b by rw [BitVec.toNat_ofInt]; omega]
  exact wrap_u32 _ (Nat.lt_of_le_of_lt Nat.and_le_left ha)

theorem neg32 {x : Nat} (hx : x < 4294967296) (h0 : x ≠ 0) : IntKind.u32.wrap (-(x : Int)) = ((4294967296 - x : Nat) : Int) := by
  simp [IntKind.wrap, IntKind.bits, IntKind.signed]
  omega
theorem mul32 (z : Nat) : IntKind.u32.wrap ((z : Int) * 125613361) = ((z * 125613361 % 4294967296 : Nat) : Int) := by
  simp [IntKind.wrap, IntKind.bits, IntKind.signed]
theorem tz_facts {x t m : Nat} (hx : x < 4294967296) (h : x = 2 ^ (t + 1) * m + 2 ^ t) : ∃ y z u v : Nat, IntKind.u32.wrap (-(x : Int)) = (y : Int) ∧ bits .and .u32 (x : Int) (y : Int) = (z : Int) ∧ IntKind.u32.wrap ((z : Int) * 125613361) = (u : Int) ∧ (u : Int) / 134217728 = (v : Int) ∧ v < 32 ∧ tabL[v]?.getD 0 = t := by
  have ht := low_lt hx h
  have hx0 : x ≠ 0 := by have := Nat.two_pow_pos t; omega
  refine ⟨4294967296 - x, 2 ^ t, 2 ^ t * 125613361 % 4294967296, 2 ^ t * 125613361 % 4294967296 / 134217728, neg32 hx hx0, ?_, mul32 _, by simp, (tab_at ht).1, (tab_at ht).2⟩
  rw [and32 _ _ hx (by omega), low_and hx h]

set_option maxHeartbeats 1000000 in
set_option maxRecDepth 20000 in
theorem tz_walk (x t y z u v : Nat) (w : World) (hx0' : ((x : Int) == 0) = false) (e7 : IntKind.u32.wrap (-(x : Int)) = (y : Int)) (e8 : bits .and .u32 (x : Int) (y : Int) = (z : Int)) (e9 : IntKind.u32.wrap ((z : Int) * 125613361) = (u : Int)) (e10 : (u : Int) / 134217728 = (v : Int)) (hv' : (v : Int) < 32) (ct : w.cell? ⟨1, v, none⟩ = some (.int .u8 (t : Int))) :
    Calls Tryz.prog 177 #[.int .u32 (x : Int)] w fun e w' => e = .returned (.int .i64 (wrap64 (t : Int))) ∧ w' = w := by
  go_enter Tryz.func177, Tryz.ntmps177
  go_wp2
  go_ret
  exact ⟨rfl, rfl⟩
theorem tz_any (x t m : Nat) (w : World) (hx : x < 4294967296) (h : x = 2 ^ (t + 1) * m + 2 ^ t) (hT : HasTab w) :
    Calls Tryz.prog 177 #[.int .u32 (x : Int)] w fun e w' => e = .returned (.int .i64 (t : Int)) ∧ w' = w := by
  have ht := low_lt hx h
  have hx0 : x ≠ 0 := by have := Nat.two_pow_pos t; omega
  obtain ⟨y, z, u, v, e7, e8, e9, e10, hv, htv⟩ := tz_facts hx h
  have := tz_walk x t y z u v w (by simpa using hx0) e7 e8 e9 e10 (by omega) (by rw [hT v hv, htv])
  rw [IntWalk.wrap64_in _ ⟨by omega, by omega⟩] at this
  exact this
end Go.Proofs.YtaablbmgagiajabGreatDoor

/- The contract of burst.Of. -/
namespace Go.Proofs.YtaablbmgagiajabGreatDoor
open Go.RowKit Go.Deep

set_option maxHeartbeats 1000000 in
set_option maxRecDepth 20000 in
theorem bwithin_any (many a what t m : Nat) (w : World) (hw : what < 4294967296) (h : what = 2 ^ (t + 1) * m + 2 ^ t) (hm : many ≤ 100000) (ha : a ≤ 100000) (hT : HasTab w) :
    Calls Tryz.prog 129 #[.int .i64 (many : Int), .int .i64 (a : Int), .int .u32 (what : Int)] w fun e w' => e = .returned (.bool (decide (a + (31 - t) < many))) ∧ w' = w := by
  have ht := low_lt hw h
  have h0 : what ≠ 0 := by have := Nat.two_pow_pos t; omega
  have h0' : ((what : Int) == 0) = false := by simpa using h0
  have ha0 : ¬ (a : Int) < 0 := by omega
  have HTZ := hide (tz_any what t m w hw h hT)
  by_cases ham : many ≤ a
  · have ham' : (many : Int) ≤ (a : Int) := by omega
    have e : decide (a + (31 - t) < many) = false := decide_eq_false (by omega)
    rw [e]
    clear h hT e
    go_enter Tryz.func129, Tryz.ntmps129
    go_wp2
    go_ret
    exact ⟨rfl, rfl⟩
  · have ham' : ¬ (many : Int) ≤ (a : Int) := by omega
    have e1 : IntKind.i64.wrap ((a : Int) + 32) = (a : Int) + 32 := by rw [IntKind.wrap_i64]; omega
    have e2 : IntKind.i64.wrap ((a : Int) + 32 - 1) = (a : Int) + 31 := by rw [IntKind.wrap_i64]; omega
    have e3 : IntKind.i64.wrap ((a : Int) + 31 - (t : Int)) = ((a + (31 - t) : Nat) : Int) := by rw [IntKind.wrap_i64]; omega
    obtain ⟨q, hq⟩ : ∃ q, Hid (a + (31 - t) = q) := ⟨_, hide rfl⟩
    rw [hq.out] at e3
    clear h hT
    go_enter Tryz.func129, Tryz.ntmps129
    go_wp2_with fail
    refine HTZ.out.mono ?_
    rintro e wz ⟨rfl, rfl⟩
    go_wp2
    go_ret
    exact ⟨by rw [hq.out]; rfl, rfl⟩

theorem wBit_le {what t m k : Nat} (h : what = 2 ^ (t + 1) * m + 2 ^ t) (hk : k < 32) (hb : wBit what k = true) : k + t ≤ 31 := by
  unfold wBit at hb
  rw [low_bits h] at hb
  split at hb
  · have := of_decide_eq_true hb; omega
  · omega
theorem some_flip {l : List Nat} {a what t m : Nat} (h : what = 2 ^ (t + 1) * m + 2 ^ t) (ht : t < 32) (hin : a + (31 - t) < 8 * l.length) : someTo l a what 32 = true := by
  have key : ∀ n, 31 - t < n → n ≤ 32 → someTo l a what n = true := by
    intro n
    induction n with
    | zero => intro h; omega
    | succ n ih =>
      intro h1 h2
      unfold someTo
      by_cases e : n = 31 - t
      · rw [if_pos]
        rw [e]
        unfold wBit
        rw [show 31 - (31 - t) = t by omega, low_bits h, if_pos (by omega), decide_eq_true rfl, decide_eq_true hin]
        rfl
      · split
        · rfl
        · exact ih (by omega) (by omega)
  exact key 32 (by omega) (Nat.le_refl _)
theorem shl_bit {what k : Nat} (hk : k < 32) (b : Bool) (hb : wBit what k = b) : (what * 2 ^ k % 4294967296) / 2147483648 = if b then 1 else 0 := by
  unfold wBit at hb
  have e1 : what * 2 ^ k % 4294967296 / 2147483648 = what / 2 ^ (31 - k) % 2 := by
    have h1 : (4294967296 : Nat) = 2 ^ k * 2 ^ (32 - k) := by rw [← Nat.pow_add, show k + (32 - k) = 32 by omega]
    have h2 : (2147483648 : Nat) = 2 ^ k * 2 ^ (31 - k) := by rw [← Nat.pow_add, show k + (31 - k) = 31 by omega]
    rw [h1, Nat.mul_comm what, Nat.mul_mod_mul_left, h2, Nat.mul_div_mul_left _ _ (Nat.two_pow_pos k), show 32 - k = (31 - k) + 1 by omega, Nat.pow_succ, Nat.mod_mul_right_div_self]
  rw [e1, testBit_eq, hb]
theorem shl_test {what k : Nat} (hk : k < 32) {b : Bool} (hb : wBit what k = b) : ((what : Int) * 2 ^ k % 4294967296 / 2147483648 == 1) = b := by
  have e : (what : Int) * 2 ^ k % 4294967296 / 2147483648 = ((what * 2 ^ k % 4294967296 / 2147483648 : Nat) : Int) := by simp
  rw [e, shl_bit hk b hb]
  cases b <;> rfl
theorem ownB_at {w : World} {base : Nat} {v : Value} {l : List Nat} (hlt : ∀ c ∈ l, c < 256) (h0 : 0 < l.length) (h : w.ownsRow base 5 1 v l.length (u8s l)) : ∃ g cp, v = .slice (some ⟨g, 0, none⟩) l.length cp ∧ OwnB w base g l.length cp l := by
  have ho := h
  rcases h.2 with ⟨_, h0'⟩ | ⟨g, cap, cur, rfl, _⟩
  · omega
  · exact ⟨g, cap, rfl, ho, rfl, hlt⟩

set_option maxHeartbeats 1000000 in
set_option maxRecDepth 20000 in
theorem bof_no (ba : Option Addr) (n cap : Nat) (a what t m : Nat) (w : World) (hn : n ≤ 200) (hw : what < 4294967296) (h : what = 2 ^ (t + 1) * m + 2 ^ t) (ha : a ≤ 100000) (hT : HasTab w) (hin : ¬ a + (31 - t) < 8 * n) :
    Calls Tryz.prog 78 #[.slice ba n cap, .int .i64 (a : Int), .int .u32 (what : Int)] w fun e w' => e = .returned (.tuple #[.slice none 0 0, .iface 74 (.int .i64 1)]) ∧ w' = w := by
  have HWI := hide (bwithin_any (8 * n) a what t m w hw h (by omega) ha hT)
  have e8 : IntKind.i64.wrap (8 * (n : Int)) = ((8 * n : Nat) : Int) := by rw [IntKind.wrap_i64]; omega
  rw [decide_eq_false hin] at HWI
  clear h hT hin
  generalize 8 * n = n8 at HWI e8
  go_enter Tryz.func78, Tryz.ntmps78
  go_wp2_with fail
  refine HWI.out.mono ?_
  rintro e wz ⟨rfl, rfl⟩
  go_wp2
  go_ret2
  exact ⟨rfl, rfl⟩

set_option maxHeartbeats 4000000 in
set_option maxRecDepth 20000 in
theorem bof_in (ba : Option Addr) (n cap : Nat) (l : List Nat) (a what t m : Nat) (w : World) (hb : IsB w ba n cap l) (hn : n ≤ 200) (hw : what < 4294967296) (h : what = 2 ^ (t + 1) * m + 2 ^ t) (ha : a ≤ 100000) (hT : HasTab w) (hin : a + (31 - t) < 8 * n) :
    Calls Tryz.prog 78 #[.slice ba n cap, .int .i64 (a : Int), .int .u32 (what : Int)] w fun e w' => (∃ v, e = .returned (.tuple #[v, .nilIface]) ∧ w'.ownsRow w.heap.size 5 1 v n (u8s (flipTo l a what 32))) ∧ Below w.heap.size w w' := by
  have HWI := hide (bwithin_any (8 * n) a what t m w hw h (by omega) ha hT)
  have e8 : IntKind.i64.wrap (8 * (n : Int)) = ((8 * n : Nat) : Int) := by rw [IntKind.wrap_i64]; omega
  rw [decide_eq_true hin] at HWI
  have HCL := hide (cloneB_any ba n cap l w hb (by omega))
  have hln := hb.1
  have hlt := hb.2.2.1
  have HH := hide h
  have HLT := hide hlt
  have HLN := hide hln
  have hn0 : 0 < n := by omega
  have HIN : Hid (∀ k, k < 32 → wBit what k = true → a + k < 8 * n) := hide fun k hk hb => by have := wBit_le h hk hb; have := low_lt hw h; omega
  clear hb h hT hlt hln hin
  generalize hn8 : 8 * n = n8 at HWI e8
  have HN8 := hide hn8
  clear hn8
  go_enter Tryz.func78, Tryz.ntmps78
  go_wp2_with fail
  refine HWI.out.mono ?_
  rintro e wz ⟨rfl, rfl⟩
  go_wp2_with fail
  refine HCL.out.mono ?_
  rintro e w1 ⟨⟨v, rfl, hv⟩, hB1⟩
  obtain ⟨g, cp, rfl, hO⟩ := ownB_at (l := l) HLT.out (by rw [HLN.out]; exact hn0) (by rw [HLN.out]; exact hv)
  rw [HLN.out] at hO ⊢
  have hgs := hO.parts
  have HST : Hid (Below wz.heap.size wz w1 ∧ OwnB w1 wz.heap.size g n cp (flipTo l a what 0)) := hide ⟨hB1, hO⟩
  have hs1 := hB1.size
  clear HWI HCL hv hO hB1
  go_wp2_with fail
  go_loopw [20] (fun j wr => ∃ k : Nat, k ≤ 32 ∧ j = .int .i64 k ∧ Below wz.heap.size wz wr ∧ OwnB wr wz.heap.size g n cp (flipTo l a what k)) (fun j _ => 32 - (intOf j).toNat)
  case atStart => exact ⟨0, by omega, rfl, HST.out⟩
  case round =>
    obtain ⟨k, hk, rfl, hB, hI⟩ := hrel
    clear HST
    by_cases hk3 : k < 32
    · have hk' : (k : Int) < 32 := by omega
      cases hwk : wBit what k
      · have hsb := shl_test hk3 hwk
        have HNO : Hid (flipTo l a what (k + 1) = flipTo l a what k) := hide (flip_no (l := l) (a := a) (what := what) (k := k) (by rw [hwk]; rfl)).1
        have HB := hide hB
        have HI := hide hI
        clear hB hI hwk
        go_wp2
        go_roundw
        case rel => exact ⟨k + 1, by omega, by go_num, HB.out, by rw [HNO.out]; exact HI.out⟩
        case measure => simp [intOf]; omega
      · have hsb := shl_test hk3 hwk
        have hin : a + k < 8 * n := HIN.out k hk3 hwk
        have HYES : Hid (flipTo l a what (k + 1) = flipB (flipTo l a what k) (a + k)) := hide (flip_yes (l := l) (a := a) (what := what) (k := k) (by rw [hwk, HLN.out, decide_eq_true hin]; rfl)).1
        have hq : (a + k) / 8 < n := by omega
        have hc := hI.at (k := (a + k) / 8) hq
        have hf := hI.free ((a + k) / 8)
        obtain ⟨c, hcc⟩ : ∃ c, Hid ((flipTo l a what k)[(a + k) / 8]?.getD 0 = c) := ⟨_, hide rfl⟩
        rw [hcc.out] at hc
        obtain ⟨q, hqq⟩ : ∃ q, Hid ((a + k) / 8 = q) := ⟨_, hide rfl⟩
        rw [hqq.out] at hq hc hf
        obtain ⟨j, hj⟩ : ∃ j, Hid (a + k = j) := ⟨_, hide rfl⟩
        have e1 : IntKind.i64.wrap ((a : Int) + (k : Int)) = (j : Int) := by have := wrap_small (a + k) (by omega); rw [Int.natCast_add] at this; rw [this, ← hj.out]; omega
        obtain ⟨r, hr⟩ : ∃ r, Hid (j % 8 = r) := ⟨_, hide rfl⟩
        obtain ⟨p, hp⟩ : ∃ p, Hid (2 ^ (7 - r) = p) := ⟨_, hide rfl⟩
        obtain ⟨c2, hc2⟩ : ∃ c2, Hid (c ^^^ p = c2) := ⟨_, hide rfl⟩
        have e2 : IntKind.i64.wrap ((j : Int) / 8) = (q : Int) := by
          have := wrap_small (j / 8) (by have := hj.out; omega)
          rw [Int.natCast_ediv] at this
          rw [← hqq.out, hj.out]
          exact this
        have e3 : (j : Int).tmod 8 = (r : Int) := by rw [Int.tmod_eq_emod_of_nonneg (by omega), ← hr.out]; omega
        have e4 : (128 : Int) / 2 ^ min r 8 = (p : Int) := shr128 r p (by have := hr.out; omega) hp.out
        have e5 : bits BinOp.xor IntKind.u8 (c : Int) (p : Int) = (c2 : Int) := by
          rw [← hc2.out]
          exact xor8 c p (by rw [← hcc.out]; exact hI.get_lt _) (by rw [← hp.out]; exact Nat.pow_lt_pow_right (by decide) (by omega))
        have d0 : (0 : Int) ≤ (q : Int) := by omega
        have d1 : (q : Int) < (n : Int) := by omega
        have hc2l : c2 < 256 := by
          rw [← hc2.out]
          exact Nat.xor_lt_two_pow (n := 8) (by rw [← hcc.out]; exact hI.get_lt _) (by rw [← hp.out]; exact Nat.pow_lt_pow_right (by decide) (by omega))
        have R : Below wz.heap.size wz (wr.setCell ⟨g, q, none⟩ (.int .u8 (c2 : Int))).drew ∧ OwnB (wr.setCell ⟨g, q, none⟩ (.int .u8 (c2 : Int))).drew wz.heap.size g n cp (flipTo l a what (k + 1)) := by
          have ho := hI.set q c2 hc2l
          rw [HYES.out, flipB, hcc.out, hj.out, hr.out, hp.out, hc2.out, ← hj.out, hqq.out]
          exact ⟨(hB.setCell (p := ⟨g, q, none⟩) (by show wz.heap.size ≤ g; omega) _).drew, ⟨ho.own.drew, ho.len, ho.lt⟩⟩
        have HR := hide R
        clear R hI hB hwk hin
        go_wp2_with fail
        go_region
        clear hc hf e1 e2 e3 e4 e5
        go_wp2
        go_roundw
        case rel => exact ⟨k + 1, by omega, by go_num, HR.out⟩
        case measure => simp [intOf]; omega
    · have e3 : k = 32 := by omega
      subst e3
      have HE : Hid (wr.ownsRow wz.heap.size 5 1 (.slice (some ⟨g, 0, none⟩) n cp) n (u8s (flipTo l a what 32)) ∧ Below wz.heap.size wz wr) := hide ⟨hI.own, hB⟩
      clear hI hB
      go_wp2
      go_ret2
      exact ⟨⟨_, rfl, HE.out.1⟩, HE.out.2⟩
end Go.Proofs.YtaablbmgagiajabGreatDoor
