/- The reference's voter in memory; the contracts of triumvirref.NewVoter, and of its Tick and Shown. -/
import Derived.Test.YtbiacknbaefccaaDoorVtMaps
import Derived.Test.YtbiacknbaefccaaDoorVtSmall
namespace Go.Proofs.YtbiacknbaefccaaDoor
open Go.RowKit Go.Deep

def rCells (tv : Value) (mv mo win : Nat) (S : VS) : Array Value := #[.int .i64 (win : Int), .int .i64 (S.left : Int), tv, .map (some mv), .map (some mo), .bool S.lat]
structure RIs (w : World) (N q win : Nat) (tv : Value) (mv mo : Nat) (S : VS) : Prop where
  blk : w.heap[q]? = some (.cells (rCells tv mv mo win S) 105 (0, 0))
  row : TIs w N tv S.tr
  votes : Votes w mv S.b S.x
  outs : OSet w mo S.out
  ne : mv ≠ mo
  nq : N ≤ q
  nv : N ≤ mv
  no : N ≤ mo
/-- The blocks of the reference's voter. -/
def RB (q : Nat) (tv : Value) (mv mo k : Nat) : Prop := k = q ∨ tv.ownBlock = some k ∨ k = mv ∨ k = mo
section
variable {w w' : World} {N q win mv mo : Nat} {tv : Value} {S S' : VS}
theorem RIs.at (h : RIs w N q win tv mv mo S) (k : Nat) : w.cell? ⟨q, k, none⟩ = (rCells tv mv mo win S)[k]? := blk_cell h.blk k
theorem RIs.free (h : RIs w N q win tv mv mo S) (k : Nat) : w.frozen? ⟨q, k, none⟩ = false := blk_free h.blk k
theorem RIs.lt (h : RIs w N q win tv mv mo S) : q < w.heap.size := blk_lt h.blk
theorem RIs.own_ne (h : RIs w N q win tv mv mo S) {g : Nat} (hg : tv.ownBlock = some g) : g ≠ q ∧ g ≠ mv ∧ g ≠ mo ∧ g < w.heap.size ∧ N ≤ g := by
  obtain ⟨hN, cur, hc⟩ := h.row.own hg
  exact ⟨type_ne hc h.blk (by decide), fun e => h.votes.notCells (by rw [← e]; exact hc), fun e => h.outs.notCells (by rw [← e]; exact hc), blk_lt hc, hN⟩
theorem RIs.q_ne (h : RIs w N q win tv mv mo S) : mv ≠ q ∧ mo ≠ q := ⟨fun e => h.votes.notCells (by rw [e]; exact h.blk), fun e => h.outs.notCells (by rw [e]; exact h.blk)⟩
theorem RIs.move (h : RIs w N q win tv mv mo S) {T : Nat → Prop} (hm : Mod w w' T) (hT : ∀ k, RB q tv mv mo k → ¬ T k) : RIs w' N q win tv mv mo S :=
  ⟨(hm.block q h.lt (hT q (.inl rfl))).trans h.blk, h.row.same fun g hg => hm.block g (h.own_ne hg).2.2.2.1 (hT g (.inr (.inl hg))), h.votes.same (hm.block mv h.votes.lt (hT mv (.inr (.inr (.inl rfl))))), h.outs.same (hm.block mo h.outs.lt (hT mo (.inr (.inr (.inr rfl))))), h.ne, h.nq, h.nv, h.no⟩
theorem RIs.below (h : RIs w N q win tv mv mo S) (hB : Below w.heap.size w w') : RIs w' N q win tv mv mo S := h.move (Mod.ofBelow hB (fun _ => False)) (fun _ _ hf => hf)
theorem RIs.drewN (h : RIs w N q win tv mv mo S) (n : Nat) : RIs (w.drewN n) N q win tv mv mo S := ⟨h.blk, h.row, h.votes, h.outs, h.ne, h.nq, h.nv, h.no⟩
theorem RIs.put (h : RIs w N q win tv mv mo S) (i : Nat) (u : Value) (he : (rCells tv mv mo win S).setIfInBounds i u = rCells tv mv mo win S') (ht : S'.tr = S.tr) (hb : S'.b = S.b) (hx : S'.x = S.x) (ho : S'.out = S.out) : RIs (w.setCell ⟨q, i, none⟩ u) N q win tv mv mo S' :=
  ⟨(blk_set h.blk i u).trans (by rw [he]), by rw [ht]; exact h.row.same fun g hg => Below.heap_setCell _ _ _ _ (h.own_ne hg).1, by rw [hb, hx]; exact h.votes.same (Below.heap_setCell _ _ _ _ h.q_ne.1), by rw [ho]; exact h.outs.same (Below.heap_setCell _ _ _ _ h.q_ne.2), h.ne, h.nq, h.nv, h.no⟩
end

set_option maxHeartbeats 1000000 in
theorem newVoter_any (win : Nat) (w : World) (_ : win ≤ 20) :
    Calls Tryd.prog 39 #[.int .i64 (win : Int)] w fun e w' => e = .returned (.pointer (some ⟨w.heap.size + 2, 0, none⟩)) ∧ RIs w' w.heap.size (w.heap.size + 2) win (.slice none 0 0) w.heap.size (w.heap.size + 1) (vs0 win) ∧ Below w.heap.size w w' := by
  have hmm := @run_makeMap Tryd.prog
  go_enter Tryd.func39, Tryd.ntmps39
  go_wp2
  go_ret
  refine ⟨rfl, ⟨?_, World.ownsRow_nil _ _ _ _, ?_, ?_, by omega, by omega, by omega, by omega⟩, (((Below.refl _ _).alloc (Nat.le_refl _) _).alloc (by simp) _).alloc (by simp; omega) _⟩
  · have := blk_new ((w.alloc (.map #[] 0)).alloc (.map #[] 0)) (.cells (rCells (.slice none 0 0) w.heap.size (w.heap.size + 1) win (vs0 win)) 105)
    rw [show ((w.alloc (.map #[] 0)).alloc (.map #[] 0)).heap.size = w.heap.size + 2 by simp] at this
    exact this
  · exact (Votes.made w _).same ((Below.heap_alloc _ _ _ (by simp; omega)).trans (Below.heap_alloc _ _ _ (by simp)))
  · have := (OSet.made (w.alloc (.map #[] 0)))
    rw [show (w.alloc (.map #[] 0)).heap.size = w.heap.size + 1 by simp] at this
    exact this.same (Below.heap_alloc _ _ _ (by simp))

set_option maxHeartbeats 1000000 in
theorem refTick_any (N q win : Nat) (tv : Value) (mv mo : Nat) (S : VS) (w : World) (h : RIs w N q win tv mv mo S) (hok : VOk win S) :
    Calls Tryd.prog 44 #[.pointer (some ⟨q, 0, none⟩)] w fun e w' => e = .returned (.tuple #[]) ∧ RIs w' N q win tv mv mo (tickF S) ∧ Mod w w' (RB q tv mv mo) := by
  have hc : w.cell? ⟨q, 5, none⟩ = some (.bool S.lat) := (h.at 5).trans rfl
  cases hl : S.lat
  · have hp := hok.pos hl
    have hf := hok.left
    have h1 := h.put (S' := ⟨S.tr, S.b, S.x, S.left - 1, S.out, S.lat⟩) 1 (.int .i64 ((S.left - 1 : Nat) : Int)) rfl rfl rfl rfl rfl
    have et : tickF S = ⟨S.tr, S.b, S.x, S.left - 1, S.out, S.left - 1 == 0⟩ := by unfold tickF; rw [hl]; rfl
    have h2 := h1.put (S' := ⟨S.tr, S.b, S.x, S.left - 1, S.out, S.left - 1 == 0⟩) 5 (.bool (S.left - 1 == 0)) rfl rfl rfl rfl rfl
    rw [← et] at h2
    have M := hide (((Mod.refl w (RB q tv mv mo)).set ⟨q, 1, none⟩ (.int .i64 ((S.left - 1 : Nat) : Int)) (fun _ => .inl rfl)).set ⟨q, 5, none⟩ (.bool (S.left - 1 == 0)) (fun _ => .inl rfl))
    have c3 : w.cell? ⟨q, 1, none⟩ = some (.int .i64 (S.left : Int)) := (h.at 1).trans rfl
    have f3 := h.free 1
    have f6 := h.free 5
    obtain ⟨m, hm⟩ : ∃ m : Nat, S.left = m + 1 := ⟨S.left - 1, by omega⟩
    rw [hm] at c3 h2 M hf
    rw [hl] at hc
    simp only [Nat.add_sub_cancel] at h2 M
    have H2 := hide h2
    clear h h1 h2 hok hp hm hl et
    have hz : (m == 0) = ((m : Int) == 0) := by rw [Bool.eq_iff_iff]; simp
    rw [hz] at H2 M
    clear hz
    go_enter Tryd.func44, Tryd.ntmps44
    go_wp2
    go_end0
    exact ⟨rfl, H2.out, M.out⟩
  · rw [hl] at hc
    have e : tickF S = S := by unfold tickF; rw [hl]; rfl
    rw [e]
    have H := hide h
    clear h hl hok e
    go_enter Tryd.func44, Tryd.ntmps44
    go_wp2
    go_end0
    exact ⟨rfl, H.out, Mod.refl _ _⟩

set_option maxHeartbeats 1000000 in
theorem refShown_any (N q win : Nat) (tv : Value) (mv mo : Nat) (S : VS) (w : World) (h : RIs w N q win tv mv mo S) (hok : VOk win S) :
    Calls Tryd.prog 49 #[.pointer (some ⟨q, 0, none⟩)] w fun e w' => e = .returned (.int .i64 (shownF S)) ∧ w' = w := by
  have hc : w.cell? ⟨q, 5, none⟩ = some (.bool S.lat) := (h.at 5).trans rfl
  have c0 : w.cell? ⟨q, 2, none⟩ = some tv := (h.at 2).trans rfl
  have hf := hok.few
  by_cases h0 : S.tr.length = 0
  · have e : shownF S = 0 := by unfold shownF; rw [h0]; simp
    rw [e]
    obtain ⟨a, cap, rfl⟩ := h.row.shape
    rw [h0] at c0
    clear h hok e
    go_enter Tryd.func49, Tryd.ntmps49
    go_wp2
    go_ret
    exact ⟨rfl, rfl⟩
  · obtain ⟨g, cap, rfl, _, _, hcap⟩ := h.row.has (by omega)
    obtain ⟨m, hm⟩ : ∃ m, S.tr.length = m + 1 := ⟨S.tr.length - 1, by omega⟩
    have c1 := h.row.range (k := m) (by omega) 2 _ rfl
    cases hl : S.lat
    · rw [hl] at hc
      have e : shownF S = (cmAt S.tr m).o := by unfold shownF; rw [hl, hm]; rfl
      rw [e]
      rw [hm] at c0 hcap hf
      generalize (cmAt S.tr m).o = z at c1
      clear h hl hok e hm h0
      go_enter Tryd.func49, Tryd.ntmps49
      go_wp2
      go_ret
      exact ⟨rfl, rfl⟩
    · rw [hl] at hc
      have e : shownF S = 0 := by unfold shownF; rw [hl]; rfl
      rw [e]
      rw [hm] at c0 hcap hf
      clear h hl hok e hm h0 c1
      go_enter Tryd.func49, Tryd.ntmps49
      go_wp2
      go_ret
      exact ⟨rfl, rfl⟩
end Go.Proofs.YtbiacknbaefccaaDoor
