/- A list of one frame that is written out; one of what was committed. -/
import Derived.Test.YtbiacknbaefccaaDoorVtRow
import Derived.Great.BuildSlice
namespace Go.Proofs.YtbiacknbaefccaaDoor
open Go.RowKit Go.Deep

theorem fill_one (F : FR) : Instr.fill (fun i => some (i * 23, 23)) ((Array.range (1 * 23)).map ((fCells fr0)[· % (fCells fr0).size]!)) [(0, .agg (fCells F))] = some (fCells F) := by
  have h := Great.fill_whole (s := 23) (by decide) [.agg (fCells F)] ((Array.range (1 * 23)).map ((fCells fr0)[· % (fCells fr0).size]!)) (by intro v hv; simp at hv; subst hv; rfl) (by simp)
  have e : (List.flatMap (fun v : Value => v.cells.toList) [Value.agg (fCells F)]).toArray = fCells F := by
    rw [List.flatMap_cons, List.flatMap_nil, List.append_nil]
    rfl
  rw [e] at h
  exact h
section
variable {ops : Array Oper} {rest : List Oper} {op : Oper} {a : Act} {w : World} {Q : Exit → Act → World → Prop}
theorem wpList_one_f (hgd : op.guard = none) (x : Operand) (ho : op.op = .buildSlice 92 1 #[(0, x)]) (F : FR) (hx : a.eval x = .agg (fCells F)) (H : Nat) (hH : w.heap.size = H)
    (h : ∀ w', Hid (w'.heap[H]? = some (.cells (fCells F) 63 (0, 0)) ∧ w'.heap.size = H + 1 ∧ Below H w w') → wpList Tryd.prog ops Q rest (a.put op.dst (.slice (some ⟨H, 0, none⟩) 1 1)) w') : wpList Tryd.prog ops Q (op :: rest) a w := by
  obtain ⟨i0, hi, hz0, hz1, hz2⟩ := info_parts infoFrameZ
  subst hH
  refine wpList_buildSlice hgd _ 63 1 _ ho (fCells F) i0 (.agg (fCells fr0)) Tryd.underlying92 hi hz0 (by rw [hz1]; decide) (by rw [hz1]; decide) ?_ (h _ ⟨blk_new _ _, by simp, (Below.refl _ _).alloc (Nat.le_refl _) _⟩)
  rw [hz1]
  simp only [List.map_toArray, List.map_cons, List.map_nil, hx]
  exact fill_one F
theorem wpList_one_r (hgd : op.guard = none) (x : Operand) (ho : op.op = .buildSlice 95 1 #[(0, x)]) (F : FR) (hx : a.eval x = .agg (fCells F)) (H : Nat) (hH : w.heap.size = H)
    (h : ∀ w', Hid (w'.heap[H]? = some (.cells (fCells F) 67 (0, 0)) ∧ w'.heap.size = H + 1 ∧ Below H w w') → wpList Tryd.prog ops Q rest (a.put op.dst (.slice (some ⟨H, 0, none⟩) 1 1)) w') : wpList Tryd.prog ops Q (op :: rest) a w := by
  obtain ⟨i0, hi, hz0, hz1, hz2⟩ := info_parts infoRefZ
  subst hH
  refine wpList_buildSlice hgd _ 67 1 _ ho (fCells F) i0 (.agg (fCells fr0)) Tryd.underlying95 hi hz0 (by rw [hz1]; decide) (by rw [hz1]; decide) ?_ (h _ ⟨blk_new _ _, by simp, (Below.refl _ _).alloc (Nat.le_refl _) _⟩)
  rw [hz1]
  simp only [List.map_toArray, List.map_cons, List.map_nil, hx]
  exact fill_one F
end
end Go.Proofs.YtbiacknbaefccaaDoor
