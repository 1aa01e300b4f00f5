import Derived.Deep.RegionWith
import Derived.WalkSmall
import Derived.Deep.RegionHeld3
import Derived.Test.YtaablbmgagiajaaGreatDoorRGAH
namespace Go.Proofs.YtaablbmgagiajaaGreatDoor
open Go.RowKit Go.Deep
theorem two_sets {w w1 : World} {N B : Nat} (h : Below B w w1) (hN : B ≤ N) (u v : Value) : Below B w ((w1.setCell ⟨N, 0, none⟩ u).setCell ⟨N, 1, none⟩ v) := (h.setCell hN _).setCell hN _
set_option maxHeartbeats 600000 in
theorem fit_ok (s d x0 x1 : Int) (b off cap : Nat) (zs : List Int) (w : World) (hok : checkF s zs d = (0, -1)) (hb : b < w.heap.size) (hc : Row w b off zs) (hcap : zs.length ≤ cap) :
    Calls Tryz.prog 42 #[.agg #[.int .i64 s, .slice (some ⟨b, off, none⟩) zs.length cap, .int .i64 d], .agg #[.int .i64 x0, .int .i64 x1]] w fun e w' =>
      e = .returned (.tuple #[.agg #[.int .i64 (bits .and .i64 x0 (top s)), .int .i64 (bits .and .i64 x1 (top (zs.length : Int)))], .nilIface]) ∧ Below w.heap.size w w' := by
  have hr := range_pos hok
  unfold rangeB at hr
  simp only [Bool.and_eq_true, inB_iff] at hr
  obtain ⟨⟨⟨b11, b12⟩, b21, b22⟩, _⟩ := hr
  have hB0 : Below w.heap.size w (((w.alloc (.cells #[.int .i64 s, .slice (some ⟨b, off, none⟩) zs.length cap, .int .i64 d] 41)).alloc (.cells #[.int .i64 x0, .int .i64 x1] 30)).alloc (.cells #[.int .i64 0, .int .i64 0] 30)) := (((Below.refl _ _).alloc (Nat.le_refl _) _).alloc (by simp) _).alloc (by simp; omega) _
  have hck := check_any s d (some ⟨b, off, none⟩) zs.length cap zs _ (IsSl.below ⟨rfl, hcap, .inr ⟨b, off, rfl, hb, hc⟩⟩ hB0)
  have HCK := hide hck
  have HOK := hide hok
  clear hck hok hc
  go_enter Tryz.func42, Tryz.ntmps42
  go_wp2_with fail
  refine HCK.out.mono ?_
  rintro e w1 ⟨⟨v, rfl, hv⟩, hB⟩
  rw [HOK.out] at hv
  have hv' := hv.ok
  subst hv'
  have hl : ∀ i, w1.cell? ⟨w.heap.size, i, none⟩ = (#[.int .i64 s, .slice (some ⟨b, off, none⟩) zs.length cap, .int .i64 d] : Array Value)[i]? := fun i => (hB.cell (p := ⟨w.heap.size, i, none⟩) (by simp; omega)).trans (by rw [World.cell?_alloc_past _ _ _ (by simp; omega), World.cell?_alloc_past _ _ _ (by simp), World.cell?_alloc_at _ _ _ _ rfl])
  have hx : ∀ i, w1.cell? ⟨w.heap.size + 1, i, none⟩ = (#[.int .i64 x0, .int .i64 x1] : Array Value)[i]? := fun i => (hB.cell (p := ⟨w.heap.size + 1, i, none⟩) (by simp)).trans (by rw [World.cell?_alloc_past _ _ _ (by simp), World.cell?_alloc_at _ _ _ _ (by simp)])
  have hbx : ∀ i, w1.cell? ⟨w.heap.size + 2, i, none⟩ = (#[.int .i64 0, .int .i64 0] : Array Value)[i]? := fun i => (hB.cell (p := ⟨w.heap.size + 2, i, none⟩) (by simp)).trans (World.cell?_alloc_at _ _ _ _ (by simp))
  have c0 : w1.cell? ⟨w.heap.size + 2, 0, none⟩ = some (.int .i64 0) := hbx 0
  have c1 : w1.cell? ⟨w.heap.size + 2, 1, none⟩ = some (.int .i64 0) := hbx 1
  have l0 : w1.cell? ⟨w.heap.size, 0, none⟩ = some (.int .i64 s) := hl 0
  have l1 : w1.cell? ⟨w.heap.size, 1, none⟩ = some (.slice (some ⟨b, off, none⟩) zs.length cap) := hl 1
  have i0 : w1.cell? ⟨w.heap.size + 1, 0, none⟩ = some (.int .i64 x0) := hx 0
  have i1 : w1.cell? ⟨w.heap.size + 1, 1, none⟩ = some (.int .i64 x1) := hx 1
  have hfz : ∀ i, w1.frozen? ⟨w.heap.size + 2, i, none⟩ = false := fun i => (hB.frozen (p := ⟨w.heap.size + 2, i, none⟩) (by simp)).trans (World.frozen?_alloc_at _ _ _ _ (by simp))
  have f0 := hfz 0
  have f1 := hfz 1
  have HB := hide (hB0.trans (hB.mono (by simp; omega)))
  clear hv hB hB0 HCK hfz hbx hl hx HOK
  have hn1 : ¬ (w.heap.size = w.heap.size + 1 + 1) := by omega
  have hn2 : ¬ (w.heap.size + 1 + 1 = w.heap.size) := by omega
  go_wp2_with fail
  go_region_held3 (fun w' => w'.cell? ⟨w.heap.size, 0, none⟩ = some (.int .i64 s) ∧ w'.cell? ⟨w.heap.size, 1, none⟩ = some (.slice (some ⟨b, off, none⟩) zs.length cap) ∧ w'.cell? ⟨w.heap.size + 1, 0, none⟩ = some (.int .i64 x0) ∧ w'.cell? ⟨w.heap.size + 1, 1, none⟩ = some (.int .i64 x1)) (go_keep) (first | (go_at_call 69; refine (allBits_any _ _ ?_ ?_).mono ?_; omega; omega; rintro e w' ⟨rfl, rfl⟩))
  all_goals go_wp2
  all_goals refine bodyPost_ret (v := .tuple #[.agg #[.int .i64 (bits .and .i64 x0 (top s)), .int .i64 (bits .and .i64 x1 (top (zs.length : Int)))], .nilIface]) (by simp [results, Tryz.results42, go_sem, c0, c1]) rfl ⟨rfl, ?_⟩
  all_goals exact (two_sets HB.out (by omega) _ _).drew
end Go.Proofs.YtaablbmgagiajaaGreatDoor
