/- Frames that are told, in memory. -/
import Derived.Test.YtonkapgbcnkjcaaGreatDoorVtMem
namespace Go.Proofs.YtonkapgbcnkjcaaGreatDoor
open Go.RowKit Go.Deep

/-- Frames that are told, in memory. -/
def FRow (w : World) (t : TypeId) (v : Value) (L : List FR) : Prop :=
  (L = [] ∧ v = .slice none 0 0) ∨ ∃ g cap, v = .slice (some ⟨g, 0, none⟩) L.length cap ∧ L.length ≤ cap ∧ ∃ cs, w.heap[g]? = some (.cells cs t (0, 0)) ∧ ∀ i, i < L.length → ∀ j, j < 23 → cs[i * 23 + j]? = some (.int .i64 ((L[i]?.getD fr0) j))
theorem FRow.one {w : World} {t g : Nat} {F : FR} (h : w.heap[g]? = some (.cells (fCells F) t (0, 0))) : FRow w t (.slice (some ⟨g, 0, none⟩) 1 1) [F] :=
  .inr ⟨g, 1, rfl, Nat.le_refl _, fCells F, h, fun i hi j hj => by
    have : i = 0 := by simpa using hi
    subst this
    rw [Nat.zero_mul, Nat.zero_add]
    exact fCells_at F j hj⟩
theorem FRow.two {w : World} {t base g cap : Nat} {F G : FR} (h : w.ownsRow base t 23 (.slice (some ⟨g, 0, none⟩) 2 cap) 2 ((fCells F).toList ++ (fCells G).toList)) : FRow w t (.slice (some ⟨g, 0, none⟩) 2 cap) [F, G] := by
  rcases h.2 with ⟨e, _⟩ | ⟨g', cap', cur, e, _, hg, hc, _, _, ht⟩
  · simp at e
  simp only [Value.slice.injEq, Option.some.injEq, Addr.mk.injEq, and_true, true_and] at e
  obtain ⟨rfl, rfl⟩ := e
  refine .inr ⟨g, cap, rfl, hc, cur, hg, fun i hi j hj => ?_⟩
  have hi2 : i < 2 := by simpa using hi
  have e1 : cur[i * 23 + j]? = ((fCells F).toList ++ (fCells G).toList)[i * 23 + j]? := by
    rw [← ht, List.getElem?_take, if_pos (by omega), Array.getElem?_toList]
  rw [e1]
  match i, hi2 with
  | 0, _ => rw [List.getElem?_append_left (by simp [fCells_size]; omega), Array.getElem?_toList, Nat.zero_mul, Nat.zero_add]; exact fCells_at F j hj
  | 1, _ => rw [List.getElem?_append_right (by simp [fCells_size]), Array.getElem?_toList, show 1 * 23 + j - (fCells F).toList.length = j by simp [fCells_size]]; exact fCells_at G j hj
theorem FRow.range {w : World} {t g n cap : Nat} {L : List FR} (h : FRow w t (.slice (some ⟨g, 0, none⟩) n cap) L) {i : Nat} (hi : i < L.length) : w.rangeAt g (i * 23) (fCells (L[i]?.getD fr0)).toList := by
  rcases h with ⟨_, e⟩ | ⟨g', cap', e, _, cs, hg, hc⟩
  · simp at e
  simp only [Value.slice.injEq, Option.some.injEq, Addr.mk.injEq, and_true] at e
  obtain ⟨rfl, _⟩ := e
  intro j v hv
  have hj : j < 23 := by have := (List.getElem?_eq_some_iff.1 hv).1; simpa [fCells_size] using this
  have e2 := fCells_at (L[i]?.getD fr0) j hj
  rw [← Array.getElem?_toList, hv] at e2
  rw [blk_cell hg, hc i hi j hj, e2]
theorem FRow.below {w w' : World} {t : TypeId} {v : Value} {L : List FR} (h : FRow w t v L) (hB : Below w.heap.size w w') : FRow w' t v L := by
  rcases h with h | ⟨g, cap, rfl, h1, cs, hg, hc⟩
  · exact .inl h
  · exact .inr ⟨g, cap, rfl, h1, cs, (hB.block g (blk_lt hg)).trans hg, hc⟩

theorem infoFrameZ : (Tryz.prog.info? 35).map (fun i => (i.zero, i.size, i.bytes)) = some (some (.agg (fCells fr0)), 23, 184) := by kernel_rfl
end Go.Proofs.YtonkapgbcnkjcaaGreatDoor
