import Derived.Deep.RegionWith
import Derived.Deep.CutRange
import Derived.BigRegion
import Derived.Deep.RegionHeld3
import Derived.Test.YtaablbmgagiajaaGreatDoorRGAM
namespace Go.Proofs.YtaablbmgagiajaaGreatDoor
open Go.RowKit Go.Deep
def fuseC (R : RS) : Nat := two3 (R.smp 0).c (R.smp 1).c (R.smp 2).c
def fuseV (R : RS) : Nat := two3 (R.smp 0).v (R.smp 1).v (R.smp 2).v
structure SmpOk (R : RS) : Prop where
  c : ∀ k, k < 3 → (R.smp k).c < 4096
  v : ∀ k, k < 3 → (R.smp k).v < 256
def InIs (w : World) (b c v : Nat) : Prop := w.heap[b]? = some (.cells #[.int .i64 (c : Int), .int .i64 (v : Int)] 30 (0, 0))
theorem three_in (W : World) (a b c d e f : Nat) :
    let w3 := (((W.alloc (.cells #[.int .i64 (a : Int), .int .i64 (b : Int)] 30)).alloc (.cells #[.int .i64 (c : Int), .int .i64 (d : Int)] 30)).alloc (.cells #[.int .i64 (e : Int), .int .i64 (f : Int)] 30)).drew
    InIs w3 W.heap.size a b ∧ InIs w3 (W.heap.size + 1) c d ∧ InIs w3 (W.heap.size + 1 + 1) e f ∧ Below W.heap.size W w3 := by
  refine ⟨?_, ?_, ?_, ?_⟩
  · exact (Below.heap_alloc _ _ _ (by simp; omega)).trans ((Below.heap_alloc _ _ _ (by simp)).trans (blk_new _ _))
  · refine (Below.heap_alloc _ _ _ (by simp)).trans ?_
    have := blk_new (W.alloc (.cells #[.int .i64 (a : Int), .int .i64 (b : Int)] 30)) (.cells #[.int .i64 (c : Int), .int .i64 (d : Int)] 30)
    simpa using this
  · have := blk_new ((W.alloc (.cells #[.int .i64 (a : Int), .int .i64 (b : Int)] 30)).alloc (.cells #[.int .i64 (c : Int), .int .i64 (d : Int)] 30)) (.cells #[.int .i64 (e : Int), .int .i64 (f : Int)] 30)
    show (((W.alloc (.cells #[.int .i64 (a : Int), .int .i64 (b : Int)] 30)).alloc (.cells #[.int .i64 (c : Int), .int .i64 (d : Int)] 30)).alloc (.cells #[.int .i64 (e : Int), .int .i64 (f : Int)] 30)).heap[W.heap.size + 1 + 1]? = _
    simpa using this
  · exact ((((Below.refl _ _).alloc (Nat.le_refl _) _).alloc (by simp) _).alloc (by simp; omega) _).drew
set_option maxHeartbeats 4000000 in
set_option maxRecDepth 20000 in
theorem fused_any (p : Nat) (C : RC) (R : RS) (w : World) (h : RpIs w p C R) (hok : SmpOk R) :
    Calls Tryz.prog 98 #[.pointer (some ⟨p, 0, none⟩)] w fun e w' => e = .returned (.agg #[.int .i64 ((fuseC R : Nat) : Int), .int .i64 ((fuseV R : Nat) : Int)]) ∧ Below w.heap.size w w' := by
  obtain ⟨W, hW⟩ : ∃ W, Hid (w.alloc (.cells #[.int .i64 0, .int .i64 0] 30) = W) := ⟨_, hide rfl⟩
  have hB0 : Below w.heap.size w W := by rw [← hW.out]; exact (Below.refl _ _).alloc (Nat.le_refl _) _
  have b0 : InIs W w.heap.size 0 0 := by rw [← hW.out]; exact blk_new _ _
  have h0 := h.below hB0
  have k1 := h0.s2 (k := 0) (by omega)
  have k2 := h0.s3 (k := 0) (by omega)
  have k3 := h0.s2 (k := 1) (by omega)
  have k4 := h0.s3 (k := 1) (by omega)
  have k5 := h0.s2 (k := 2) (by omega)
  have k6 := h0.s3 (k := 2) (by omega)
  simp only [Nat.zero_mul, Nat.one_mul, Nat.add_zero, Nat.reduceMul, Nat.reduceAdd] at k1 k2 k3 k4 k5 k6
  have o1 := hok.c 0 (by omega)
  have o2 := hok.c 1 (by omega)
  have o3 := hok.c 2 (by omega)
  have o4 := hok.v 0 (by omega)
  have o5 := hok.v 1 (by omega)
  have o6 := hok.v 2 (by omega)
  unfold fuseC fuseV
  obtain ⟨c0, e1⟩ : ∃ c, (R.smp 0).c = c := ⟨_, rfl⟩
  obtain ⟨c1, e2⟩ : ∃ c, (R.smp 1).c = c := ⟨_, rfl⟩
  obtain ⟨c2, e3⟩ : ∃ c, (R.smp 2).c = c := ⟨_, rfl⟩
  obtain ⟨v0, e4⟩ : ∃ c, (R.smp 0).v = c := ⟨_, rfl⟩
  obtain ⟨v1, e5⟩ : ∃ c, (R.smp 1).v = c := ⟨_, rfl⟩
  obtain ⟨v2, e6⟩ : ∃ c, (R.smp 2).v = c := ⟨_, rfl⟩
  rw [e1] at k1 o1 ⊢
  rw [e2] at k3 o2 ⊢
  rw [e3] at k5 o3 ⊢
  rw [e4] at k2 o4 ⊢
  rw [e5] at k4 o5 ⊢
  rw [e6] at k6 o6 ⊢
  have hpl := h0.lt
  have hp1 : p < W.heap.size + 1 := by omega
  have hp2 : p < W.heap.size + 1 + 1 := by omega
  have hp3 : p < W.heap.size + 1 + 1 + 1 := by omega
  have hn0 : p ≠ W.heap.size := by omega
  have hn1 : p ≠ W.heap.size + 1 := by omega
  have hn2 : p ≠ W.heap.size + 1 + 1 := by omega
  have B0 := hide b0
  have HB0 := hide hB0
  clear h h0 hok e1 e2 e3 e4 e5 e6 b0 hB0
  go_enter Tryz.func98, Tryz.ntmps98
  go_wp2_with fail
  rw [show w.alloc (.cells #[.int .i64 0, .int .i64 0] 30) = W from hW.out]
  clear hW
  go_cut [3, 4, 5] from 6 to 23 (fun s3 s4 s5 wc => ∃ a b c, s3 = .pointer (some ⟨a, 0, none⟩) ∧ s4 = .pointer (some ⟨b, 0, none⟩) ∧ s5 = .pointer (some ⟨c, 0, none⟩) ∧ InIs wc a c0 v0 ∧ InIs wc b c1 v1 ∧ InIs wc c c2 v2 ∧ Below W.heap.size W wc ∧ W.heap.size ≤ a ∧ W.heap.size ≤ b ∧ W.heap.size ≤ c)
  case first =>
    go_region
    all_goals
      go_wp2_with fail
      go_meet
      first
        | (exact ⟨_, _, _, rfl, rfl, rfl, (three_in W c0 v0 c1 v1 c2 v2).1, (three_in W c0 v0 c1 v1 c2 v2).2.1, (three_in W c0 v0 c1 v1 c2 v2).2.2.1, (three_in W c0 v0 c1 v1 c2 v2).2.2.2, by omega, by omega, by omega⟩)
        | (exact ⟨_, _, _, rfl, rfl, rfl, (three_in W c0 v0 c2 v2 c1 v1).1, (three_in W c0 v0 c2 v2 c1 v1).2.2.1, (three_in W c0 v0 c2 v2 c1 v1).2.1, (three_in W c0 v0 c2 v2 c1 v1).2.2.2, by omega, by omega, by omega⟩)
        | (exact ⟨_, _, _, rfl, rfl, rfl, (three_in W c1 v1 c0 v0 c2 v2).2.1, (three_in W c1 v1 c0 v0 c2 v2).1, (three_in W c1 v1 c0 v0 c2 v2).2.2.1, (three_in W c1 v1 c0 v0 c2 v2).2.2.2, by omega, by omega, by omega⟩)
        | (exact ⟨_, _, _, rfl, rfl, rfl, (three_in W c1 v1 c2 v2 c0 v0).2.2.1, (three_in W c1 v1 c2 v2 c0 v0).1, (three_in W c1 v1 c2 v2 c0 v0).2.1, (three_in W c1 v1 c2 v2 c0 v0).2.2.2, by omega, by omega, by omega⟩)
        | (exact ⟨_, _, _, rfl, rfl, rfl, (three_in W c2 v2 c0 v0 c1 v1).2.1, (three_in W c2 v2 c0 v0 c1 v1).2.2.1, (three_in W c2 v2 c0 v0 c1 v1).1, (three_in W c2 v2 c0 v0 c1 v1).2.2.2, by omega, by omega, by omega⟩)
        | (exact ⟨_, _, _, rfl, rfl, rfl, (three_in W c2 v2 c1 v1 c0 v0).2.2.1, (three_in W c2 v2 c1 v1 c0 v0).2.1, (three_in W c2 v2 c1 v1 c0 v0).1, (three_in W c2 v2 c1 v1 c0 v0).2.2.2, by omega, by omega, by omega⟩)
  case rest =>
    obtain ⟨a, b, c, rfl, rfl, rfl, ia, ib, ic, hB, ga, gb, gc⟩ := hcut
    have hNl := blk_lt B0.out
    have n1 : ¬ (a = w.heap.size) := by omega
    have n2 : ¬ (b = w.heap.size) := by omega
    have n3 : ¬ (c = w.heap.size) := by omega
    have n4 : ¬ (w.heap.size = a) := by omega
    have n5 : ¬ (w.heap.size = b) := by omega
    have n6 : ¬ (w.heap.size = c) := by omega
    have r0 : InIs wc w.heap.size 0 0 := (hB.block _ (blk_lt B0.out)).trans B0.out
    have y0 : wc.cell? ⟨a, 0, none⟩ = some (.int .i64 (c0 : Int)) := (blk_cell ia 0).trans rfl
    have y1 : wc.cell? ⟨a, 1, none⟩ = some (.int .i64 (v0 : Int)) := (blk_cell ia 1).trans rfl
    have y2 : wc.cell? ⟨b, 0, none⟩ = some (.int .i64 (c1 : Int)) := (blk_cell ib 0).trans rfl
    have y3 : wc.cell? ⟨b, 1, none⟩ = some (.int .i64 (v1 : Int)) := (blk_cell ib 1).trans rfl
    have y4 : wc.cell? ⟨c, 0, none⟩ = some (.int .i64 (c2 : Int)) := (blk_cell ic 0).trans rfl
    have y5 : wc.cell? ⟨c, 1, none⟩ = some (.int .i64 (v2 : Int)) := (blk_cell ic 1).trans rfl
    have y6 : wc.cell? ⟨w.heap.size, 0, none⟩ = some (.int .i64 0) := (blk_cell r0 0).trans rfl
    have y7 : wc.cell? ⟨w.heap.size, 1, none⟩ = some (.int .i64 0) := (blk_cell r0 1).trans rfl
    have f6 := blk_free r0 0
    have f7 := blk_free r0 1
    have HB := hide (HB0.out.trans (hB.mono (by have := blk_lt B0.out; omega)))
    clear ia ib ic hB r0 k1 k2 k3 k4 k5 k6 hpl hp1 hp2 hp3 hn0 hn1 hn2 B0 HB0
    go_wp2_with fail
    go_region_held3 (fun w' => w'.cell? ⟨a, 0, none⟩ = some (.int .i64 (c0 : Int)) ∧ w'.cell? ⟨a, 1, none⟩ = some (.int .i64 (v0 : Int)) ∧ w'.cell? ⟨b, 0, none⟩ = some (.int .i64 (c1 : Int)) ∧ w'.cell? ⟨b, 1, none⟩ = some (.int .i64 (v1 : Int)) ∧ w'.cell? ⟨c, 0, none⟩ = some (.int .i64 (c2 : Int)) ∧ w'.cell? ⟨c, 1, none⟩ = some (.int .i64 (v2 : Int))) (go_keep) (first | (go_at_call 106; refine (twoOf_any _ _ _ _ (by omega) (by omega) (by omega)).mono ?_; rintro e w' ⟨rfl, rfl⟩))
    all_goals go_wp2
    all_goals refine bodyPost_ret (v := .agg #[.int .i64 ((two3 c0 c1 c2 : Nat) : Int), .int .i64 ((two3 v0 v1 v2 : Nat) : Int)]) (by simp [results, Tryz.results98, go_sem, y6, y7]) rfl ⟨rfl, ?_⟩
    all_goals exact (two_sets HB.out (Nat.le_refl _) _ _).drew
end Go.Proofs.YtaablbmgagiajaaGreatDoor
