/- The contracts of triumvirref.Fit and triumvirlaw.same. -/
import Derived.Test.YtpkfgpagkgmpcaaDoorRefSet
import Derived.Deep.RegionHeld3
import Derived.Deep.RegionWith
import Derived.Deep.QuietTactic
import Derived.BigQuiet
namespace Go.Proofs.YtpkfgpagkgmpcaaDoor
open Go.RowKit

theorem two_stores {w w1 : World} {N B : Nat} (h : Below B w w1) (hN : B ≤ N) (u v : Value) : Below B w ((w1.setCell ⟨N, 0, none⟩ u).setCell ⟨N, 1, none⟩ v) := (h.setCell hN _).setCell hN _

set_option maxHeartbeats 1000000 in
theorem refFit_any (sn : Nat) (d x0 x1 : Int) (a : Option Addr) (n cap : Nat) (w : World) (hs : sn ≤ 12) (hl : n ≤ 8) (h01 : -9223372036854775808 ≤ x0) (h02 : x0 < 9223372036854775808) (h11 : -9223372036854775808 ≤ x1) (h12 : x1 < 9223372036854775808) :
    Calls Tryd.prog 14 #[.agg #[.int .i64 (sn : Int), .slice a n cap, .int .i64 d], .agg #[.int .i64 x0, .int .i64 x1]] w fun e w' =>
      e = .returned (.agg #[.int .i64 ((setTo (fun i => (u64 x0).testBit i) sn : Nat) : Int), .int .i64 ((setTo (fun i => (u64 x1).testBit i) n : Nat) : Int)]) ∧ Below w.heap.size w w' := by
  obtain ⟨q0, hq0⟩ : ∃ q, Hid (setTo (fun i => (u64 x0).testBit i) sn = q) := ⟨_, hide rfl⟩
  obtain ⟨q1, hq1⟩ : ∃ q, Hid (setTo (fun i => (u64 x1).testBit i) n = q) := ⟨_, hide rfl⟩
  have h1 := fun (wx : World) (hx : wx.cell? ⟨w.heap.size + 1, 0, none⟩ = some (.int .i64 x0)) => set_fit1 sn (.pointer (some ⟨w.heap.size + 1, 0, none⟩)) (fun i => (u64 x0).testBit i) wx hs (fun i hi => fit1_any i x0 (w.heap.size + 1) wx (by omega) h01 h02 hx)
  have h2 := fun (wx : World) (hx : wx.cell? ⟨w.heap.size + 1, 1, none⟩ = some (.int .i64 x1)) => set_fit2 n (.pointer (some ⟨w.heap.size + 1, 0, none⟩)) (fun i => (u64 x1).testBit i) wx (by omega) (fun i hi => fit2_any i x1 (w.heap.size + 1) wx (by omega) h11 h12 hx)
  rw [hq0.out] at h1 ⊢
  rw [hq1.out] at h2 ⊢
  have H1 := hide h1
  have H2 := hide h2
  clear h1 h2 hq0 hq1 h01 h02 h11 h12
  have hB0 : Below w.heap.size w (((w.alloc (.cells #[.int .i64 (sn : Int), .slice a n cap, .int .i64 d] 24)).alloc (.cells #[.int .i64 x0, .int .i64 x1] 26)).alloc (.cells #[.int .i64 0, .int .i64 0] 26)) := (((Below.refl _ _).alloc (Nat.le_refl _) _).alloc (by simp) _).alloc (by simp; omega) _
  go_enter Tryd.func14, Tryd.ntmps14
  go_wp2
  have hl : ∀ i, (((w.alloc (.cells #[.int .i64 (sn : Int), .slice a n cap, .int .i64 d] 24)).alloc (.cells #[.int .i64 x0, .int .i64 x1] 26)).alloc (.cells #[.int .i64 0, .int .i64 0] 26)).cell? ⟨w.heap.size, i, none⟩ = (#[.int .i64 (sn : Int), .slice a n cap, .int .i64 d] : Array Value)[i]? := fun i => by rw [World.cell?_alloc_past _ _ _ (by simp; omega), World.cell?_alloc_past _ _ _ (by simp), World.cell?_alloc_at _ _ _ _ rfl]
  have hx : ∀ i, (((w.alloc (.cells #[.int .i64 (sn : Int), .slice a n cap, .int .i64 d] 24)).alloc (.cells #[.int .i64 x0, .int .i64 x1] 26)).alloc (.cells #[.int .i64 0, .int .i64 0] 26)).cell? ⟨w.heap.size + 1, i, none⟩ = (#[.int .i64 x0, .int .i64 x1] : Array Value)[i]? := fun i => by rw [World.cell?_alloc_past _ _ _ (by simp), World.cell?_alloc_at _ _ _ _ (by simp)]
  have hr : ∀ i, (((w.alloc (.cells #[.int .i64 (sn : Int), .slice a n cap, .int .i64 d] 24)).alloc (.cells #[.int .i64 x0, .int .i64 x1] 26)).alloc (.cells #[.int .i64 0, .int .i64 0] 26)).cell? ⟨w.heap.size + 2, i, none⟩ = (#[.int .i64 0, .int .i64 0] : Array Value)[i]? := fun i => World.cell?_alloc_at _ _ _ _ (by simp)
  have hf : ∀ i, (((w.alloc (.cells #[.int .i64 (sn : Int), .slice a n cap, .int .i64 d] 24)).alloc (.cells #[.int .i64 x0, .int .i64 x1] 26)).alloc (.cells #[.int .i64 0, .int .i64 0] 26)).frozen? ⟨w.heap.size + 2, i, none⟩ = false := fun i => World.frozen?_alloc_at _ _ _ _ (by simp)
  generalize (((w.alloc (.cells #[.int .i64 (sn : Int), .slice a n cap, .int .i64 d] 24)).alloc (.cells #[.int .i64 x0, .int .i64 x1] 26)).alloc (.cells #[.int .i64 0, .int .i64 0] 26)) = w1 at *
  have HB := hide hB0
  have l0 : w1.cell? ⟨w.heap.size, 0, none⟩ = some (.int .i64 (sn : Int)) := hl 0
  have l1 : w1.cell? ⟨w.heap.size, 1, none⟩ = some (.slice a n cap) := hl 1
  have i0 : w1.cell? ⟨w.heap.size + 1, 0, none⟩ = some (.int .i64 x0) := hx 0
  have i1 : w1.cell? ⟨w.heap.size + 1, 1, none⟩ = some (.int .i64 x1) := hx 1
  have c0 : w1.cell? ⟨w.heap.size + 2, 0, none⟩ = some (.int .i64 0) := hr 0
  have c1 : w1.cell? ⟨w.heap.size + 2, 1, none⟩ = some (.int .i64 0) := hr 1
  have f0 := hf 0
  have f1 := hf 1
  have hn1 : ¬ (w.heap.size = w.heap.size + 1 + 1) := by omega
  have hn2 : ¬ (w.heap.size + 1 + 1 = w.heap.size) := by omega
  clear hl hx hr hf hB0
  go_region_held3 (fun w' => w'.cell? ⟨w.heap.size, 0, none⟩ = some (.int .i64 (sn : Int)) ∧ w'.cell? ⟨w.heap.size, 1, none⟩ = some (.slice a n cap) ∧ w'.cell? ⟨w.heap.size + 1, 0, none⟩ = some (.int .i64 x0) ∧ w'.cell? ⟨w.heap.size + 1, 1, none⟩ = some (.int .i64 x1)) (go_keep) (first | (go_at_call_of 31 (Value.int IntKind.i64 (sn : Int)); refine (unhide H1 _ ?_).mono ?_; (simp [*]); rintro e w' ⟨rfl, rfl⟩) | (go_at_call_of 31 (Value.int IntKind.i64 (n : Int)); refine (unhide H2 _ ?_).mono ?_; (simp [*]); rintro e w' ⟨rfl, rfl⟩))
  all_goals go_wp2
  all_goals refine bodyPost_ret (v := .agg #[.int .i64 (q0 : Int), .int .i64 (q1 : Int)]) (by simp [results, Tryd.results14, go_sem, c0, c1]) rfl ⟨rfl, ?_⟩
  all_goals exact (two_stores HB.out (by omega) _ _).drew

structure SInv (w wr : World) (g1 g2 : Nat) (c : List Nat) : Prop where
  old : Below w.heap.size w wr
  one : NRow wr g1 0 c
  two : NRow wr g2 0 c
theorem SInv.drewN {w wr : World} {g1 g2 : Nat} {c : List Nat} (h : SInv w wr g1 g2 c) (n : Nat) : SInv w (wr.drewN n) g1 g2 c := ⟨below_drewN h.old n, h.one, h.two⟩

set_option maxHeartbeats 1000000 in
theorem same_any (g1 g2 c1 c2 n : Nat) (c : List Nat) (w : World) (hn : c.length = n) (h8 : n ≤ 8) (hr1 : NRow w g1 0 c) (hr2 : NRow w g2 0 c) :
    Calls Tryd.prog 11 #[.slice (some ⟨g1, 0, none⟩) n c1, .slice (some ⟨g2, 0, none⟩) n c2] w fun e w' => e = .returned (.bool true) ∧ Below w.heap.size w w' := by
  have hI0 : SInv w w g1 g2 c := ⟨Below.refl _ _, hr1, hr2⟩
  clear hr1 hr2
  go_enter Tryd.func11, Tryd.ntmps11
  go_wp2
  go_loopw [5] (fun i wr => SInv w wr g1 g2 c ∧ ∃ k : Nat, k ≤ n ∧ i = .int .i64 k) (fun i _ => n - (intOf i).toNat)
  case atStart => exact ⟨hI0, 0, Nat.zero_le _, rfl⟩
  case round =>
    clear hI0
    obtain ⟨hI, k, hk, rfl⟩ := hrel
    by_cases hlt : k < n
    · obtain ⟨z, hz, e1⟩ := NRow.at hI.one (show k < c.length by omega)
      have e2 := hI.two k (by omega)
      rw [hz.out] at e2
      rw [Nat.zero_add] at e1 e2
      have hzz : ((z : Int) != (z : Int)) = false := by simp
      go_wp2_with fail
      go_quiet (fail)
      go_wp2
      go_roundw
      case rel => exact ⟨hI.drewN _, k + 1, by omega, by go_num⟩
      case measure => simp [intOf]; omega
    · go_wp2
      go_ret
      exact ⟨rfl, hI.old⟩

end Go.Proofs.YtpkfgpagkgmpcaaDoor
