/- The contract of (*core.Core).Layout. -/
import Derived.Test.YtpkfgpagkgmpcaaDoorCoreNew
namespace Go.Proofs.YtpkfgpagkgmpcaaDoor
open Go.RowKit Go.Deep

set_option maxHeartbeats 2000000 in
theorem layout_any (p : Nat) (s d : Int) (n : Nat) (zs : List Int) (g cg M : Nat) (w : World) (hK : CoreIs w p s d n zs g cg M) :
    Calls Tryd.prog 22 #[.pointer (some ⟨p, 0, none⟩)] w fun e w' =>
      (∃ g2 c2, w.heap.size ≤ g2 ∧ n ≤ c2 ∧ e = .returned (.agg #[.int .i64 s, .slice (some ⟨g2, 0, none⟩) n c2, .int .i64 d]) ∧ g2 < w'.heap.size ∧ Row w' g2 0 zs) ∧ Below w.heap.size w w' := by
  obtain ⟨f1, f8, fs1, fs2, fd1, fd2⟩ := hK.few
  have hpl := hK.plt
  have k0 : w.cell? ⟨p, 0, none⟩ = some (.int .i64 s) := by rw [blk_cell hK.blk]; rfl
  have k1 : w.cell? ⟨p, 1, none⟩ = some (.slice (some ⟨g, 0, none⟩) n cg) := by rw [blk_cell hK.blk]; rfl
  have k2 : w.cell? ⟨p, 2, none⟩ = some (.int .i64 d) := by rw [blk_cell hK.blk]; rfl
  have hcl : ∀ wx, Below w.heap.size w wx → Calls Tryd.prog 37 #[.slice (some ⟨g, 0, none⟩) n cg] wx fun e w' =>
      (∃ g2 c2, wx.heap.size ≤ g2 ∧ g2 < w'.heap.size ∧ n ≤ c2 ∧ e = .returned (.slice (some ⟨g2, 0, none⟩) n c2) ∧ Row w' g2 0 zs) ∧ Below wx.heap.size wx w' :=
    fun wx hx => clone_any g 0 n cg zs wx hK.len (by omega) f8 (Nat.lt_of_lt_of_le hK.glt hx.size) (hK.row.below hK.glt hx)
  have HCL := hide hcl
  clear hcl hK
  go_enter Tryd.func22, Tryd.ntmps22
  go_wp2_with fail
  have hB0 : Below w.heap.size w ((w.alloc (.cells #[.int .i64 0, .slice none 0 0, .int .i64 0] 24)).alloc (.cells #[.int .i64 s, .slice (some ⟨g, 0, none⟩) n cg, .int .i64 d] 24)) := ((Below.refl _ _).alloc (Nat.le_refl _) _).alloc (by simp) _
  refine (unhide HCL _ hB0).mono ?_
  rintro e w2 ⟨⟨g2, c2, h1, h2, h3, rfl, hrow⟩, hB2⟩
  have hn2 : w.heap.size + 2 ≤ w2.heap.size := by have := hB2.size; simp at this; omega
  have q0 : w2.heap[w.heap.size]? = some (.cells #[.int .i64 0, .slice none 0 0, .int .i64 0] 24 (0, 0)) := (hB2.block _ (by simp; omega)).trans ((Below.heap_alloc _ _ _ (by simp)).trans (blk_new _ _))
  have q1 : w2.heap[w.heap.size + 1]? = some (.cells #[.int .i64 s, .slice (some ⟨g, 0, none⟩) n cg, .int .i64 d] 24 (0, 0)) := by
    refine (hB2.block _ (by simp)).trans ?_
    have := blk_new (w.alloc (.cells #[.int .i64 0, .slice none 0 0, .int .i64 0] 24)) (.cells #[.int .i64 s, .slice (some ⟨g, 0, none⟩) n cg, .int .i64 d] 24)
    simpa using this
  have r0 : w2.cell? ⟨w.heap.size, 0, none⟩ = some (.int .i64 0) := by rw [blk_cell q0]; rfl
  have r1 : w2.cell? ⟨w.heap.size, 1, none⟩ = some (.slice none 0 0) := by rw [blk_cell q0]; rfl
  have r2 : w2.cell? ⟨w.heap.size, 2, none⟩ = some (.int .i64 0) := by rw [blk_cell q0]; rfl
  have l0 : w2.cell? ⟨w.heap.size + 1, 0, none⟩ = some (.int .i64 s) := by rw [blk_cell q1]; rfl
  have l1 : w2.cell? ⟨w.heap.size + 1, 1, none⟩ = some (.slice (some ⟨g, 0, none⟩) n cg) := by rw [blk_cell q1]; rfl
  have l2 : w2.cell? ⟨w.heap.size + 1, 2, none⟩ = some (.int .i64 d) := by rw [blk_cell q1]; rfl
  have fr0 : w2.frozen? ⟨w.heap.size, 0, none⟩ = false := blk_free q0 0
  have fr1 : w2.frozen? ⟨w.heap.size, 1, none⟩ = false := blk_free q0 1
  have fr2 : w2.frozen? ⟨w.heap.size, 2, none⟩ = false := blk_free q0 2
  have fl1 : w2.frozen? ⟨w.heap.size + 1, 1, none⟩ = false := blk_free q1 1
  have HB2 := hide (hB0.trans (hB2.mono (by simp; omega)))
  have HROW := hide hrow
  have h1' : w.heap.size + 2 ≤ g2 := by simp at h1; omega
  clear hB0 hB2 hrow HCL q0 q1 h1
  go_wp2
  refine bodyPost_ret (v := .agg #[.int .i64 s, .slice (some ⟨g2, 0, none⟩) n c2, .int .i64 d]) (by simp [results, Tryd.results22, go_sem, r0, r1, r2]) rfl ⟨⟨g2, c2, by omega, h3, rfl, ?_, ?_⟩, ?_⟩
  · simp [World.setCell]; exact h2
  · intro k hk
    refine Eq.trans (World.cell?_of_block (w := w2) ?_) (HROW.out k hk)
    rw [Below.heap_setCell _ _ _ _ (by show g2 ≠ w.heap.size; omega), Below.heap_setCell _ _ _ _ (by show g2 ≠ w.heap.size; omega), Below.heap_setCell _ _ _ _ (by show g2 ≠ w.heap.size; omega), Below.heap_setCell _ _ _ _ (by show g2 ≠ w.heap.size + 1; omega)]
  · exact (((HB2.out.setCell (by show w.heap.size ≤ w.heap.size + 1; omega) _).setCell (Nat.le_refl _) _).setCell (Nat.le_refl _) _).setCell (Nat.le_refl _) _

end Go.Proofs.YtpkfgpagkgmpcaaDoor
