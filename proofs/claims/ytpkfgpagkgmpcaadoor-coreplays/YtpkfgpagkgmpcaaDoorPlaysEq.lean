/- Two states that hold the same are equal, as Go compares them. -/
import Derived.Test.YtpkfgpagkgmpcaaDoorPlayRight
import Derived.Laws.StructEq
import Derived.ChangeKeysEq
namespace Go.Proofs.YtpkfgpagkgmpcaaDoor
open Go.RowKit Go.Deep

theorem eqInt (w : World) (d : Nat) (a : Int) : (Op.equalIn (d + 1) 3 (.int .i64 a) (.int .i64 a)).run Tryd.prog w = .ok true w := by
  simp [Op.equalIn, run_underlying Tryd.underlying3]
theorem partInt (w : World) (xs : Array Value) (k : Nat) (v : Value) (h : xs[k]? = some v) : (part 3 xs k).run Tryd.prog w = .ok v w := by
  simp [part, isAgg, run_underlying Tryd.underlying3, h]
theorem eqIts (w : World) (d : Nat) (xs : Array Value) : ∀ is : List Nat, (∀ i ∈ is, ∃ a : Int, xs[i]? = some (.int .i64 a)) → (Op.eqItems (d + 1) 3 1 xs xs is).run Tryd.prog w = .ok true w
  | [], _ => by simp [Op.eqItems]
  | i :: is, h => by
    obtain ⟨a, ha⟩ := h i (by simp)
    have ih := eqIts w d xs is fun j hj => h j (by simp [hj])
    simp only [Op.eqItems, Sem.run_bind, Nat.mul_one, partInt w xs i _ ha, Result.andThen_ok, eqInt]
    simpa using ih
theorem eqInts (w : World) (d : Nat) (xs : Array Value) (h : ∀ i, i < 8 → ∃ a : Int, xs[i]? = some (.int .i64 a)) : (Op.equalIn (d + 1 + 1) 47 (.agg xs) (.agg xs)).run Tryd.prog w = .ok true w := by
  obtain ⟨i0, hi, hz0, hz1, hz2⟩ := info_parts infoInt
  rw [run_equalIn_array w (d + 1) xs xs Tryd.underlying47 hi, show Tryd.prog.cellsOf 3 = 1 by kernel_rfl]
  exact eqIts w d xs _ fun i hi => h i (by simpa using hi)
theorem partInts (w : World) (xs : Array Value) (k : Nat) : (part 47 xs k).run Tryd.prog w = .ok (.agg (xs.extract k (k + 8))) w := by
  simp [part, isAgg, run_underlying Tryd.underlying47]
theorem fields3 : (Tryd.prog.fieldsOf 49).toList.map (fun f => (f.type, f.offset, f.name != "_")) = [(3, 0, true), (47, 1, true), (47, 9, true)] := by kernel_rfl

theorem three {α : Type} {l : List α} (h : l.length = 3) : ∃ a b c, l = [a, b, c] := by
  match l, h with
  | [a, b, c], _ => exact ⟨a, b, c, rfl⟩

theorem eqState (w : World) (G : GS) : (Op.equalIn (9997 + 1 + 1 + 1) 49 (.agg (gCells G)) (.agg (gCells G))).run Tryd.prog w = .ok true w := by
  rw [run_equalIn_struct w _ _ _ _ (by kernel_rfl) (by kernel_rfl)]
  have hf := fields3
  generalize (Tryd.prog.fieldsOf 49).toList = fs at hf
  obtain ⟨f0, f1, f2, rfl⟩ : ∃ f0 f1 f2, fs = [f0, f1, f2] := three (by simpa using congrArg List.length hf)
  simp only [List.map_cons, List.map_nil, List.cons.injEq, Prod.mk.injEq, and_true] at hf
  obtain ⟨⟨a1, a2, a3⟩, ⟨b1, b2, b3⟩, c1, c2, c3⟩ := hf
  have n0 : f0.name ≠ "_" := by simpa using a3
  have n1 : f1.name ≠ "_" := by simpa using b3
  have n2 : f2.name ≠ "_" := by simpa using c3
  have e1 : ∀ i, i < 8 → ∃ a : Int, ((gCells G).extract 1 (1 + 8))[i]? = some (.int .i64 a) := fun i hi => ⟨G.used i, by
    match i, hi with
    | 0, _ => rfl | 1, _ => rfl | 2, _ => rfl | 3, _ => rfl | 4, _ => rfl | 5, _ => rfl | 6, _ => rfl | 7, _ => rfl⟩
  have e2 : ∀ i, i < 8 → ∃ a : Int, ((gCells G).extract 9 (9 + 8))[i]? = some (.int .i64 a) := fun i hi => ⟨G.idle i, by
    match i, hi with
    | 0, _ => rfl | 1, _ => rfl | 2, _ => rfl | 3, _ => rfl | 4, _ => rfl | 5, _ => rfl | 6, _ => rfl | 7, _ => rfl⟩
  simp only [Op.eqFields, n0, n1, n2, ne_eq, not_false_eq_true, if_true, Sem.run_bind, a1, a2, b1, b2, c1, c2]
  rw [partInt w (gCells G) 0 (.int .i64 G.set) rfl]
  simp only [Result.andThen_ok, partInt w (gCells G) 0 (.int .i64 G.set) rfl, eqInt, Bool.not_true, Bool.false_eq_true, if_false, Sem.run_bind, partInts, eqInts w 9997 _ e1, eqInts w 9997 _ e2]
  rfl

theorem neqState (w : World) (G : GS) : (binOp .neq 49 (.agg (gCells G)) (.agg (gCells G))).run Tryd.prog w = .ok (.bool false) w := by
  have h := eqState w G
  simp only [binOp]
  simp [Op.equal, Op.maxDepth, h]

end Go.Proofs.YtpkfgpagkgmpcaaDoor
