/- A frame as 23 numbers: its cells in memory, and what comparing two comes to. -/
import Derived.Test.YtaablbmgagiajabGreatDoorFrSum
import Derived.Test.YtaablbmgagiajabGreatDoorFrDef
import Derived.Test.YtaablbmgagiajabGreatDoorCoreF
import Derived.Laws.StructEq
import Derived.ChangeKeysEq
import Derived.Deep.MidRow
import Derived.Deep.OwnRows
namespace Go.Proofs.YtaablbmgagiajabGreatDoor
open Go.RowKit Go.Deep

/-- A frame: Kind, From, Cycle, Clear, Wanted, Out, Set, eight times Used, eight times Idle. -/
abbrev FR := Nat → Int
def fCells (F : FR) : Array Value := #[.int .i64 (F 0), .int .i64 (F 1), .int .i64 (F 2), .int .i64 (F 3), .int .i64 (F 4), .int .i64 (F 5), .int .i64 (F 6), .int .i64 (F 7), .int .i64 (F 8), .int .i64 (F 9), .int .i64 (F 10), .int .i64 (F 11), .int .i64 (F 12), .int .i64 (F 13), .int .i64 (F 14), .int .i64 (F 15), .int .i64 (F 16), .int .i64 (F 17), .int .i64 (F 18), .int .i64 (F 19), .int .i64 (F 20), .int .i64 (F 21), .int .i64 (F 22)]
def fr0 : FR := fun _ => 0
theorem fCells_size (F : FR) : (fCells F).size = 23 := rfl
theorem fCells_at (F : FR) (k : Nat) (h : k < 23) : (fCells F)[k]? = some (.int .i64 (F k)) := by
  match k, h with
  | 0, _ => rfl | 1, _ => rfl | 2, _ => rfl | 3, _ => rfl | 4, _ => rfl | 5, _ => rfl | 6, _ => rfl | 7, _ => rfl | 8, _ => rfl | 9, _ => rfl | 10, _ => rfl | 11, _ => rfl | 12, _ => rfl | 13, _ => rfl | 14, _ => rfl | 15, _ => rfl | 16, _ => rfl | 17, _ => rfl | 18, _ => rfl | 19, _ => rfl | 20, _ => rfl | 21, _ => rfl | 22, _ => rfl | n + 23, h => omega
theorem fCells_congr {F G : FR} (h : ∀ k, k < 23 → F k = G k) : fCells F = fCells G := by
  apply Array.ext_getElem?
  intro i
  by_cases hi : i < 23
  · rw [fCells_at F i hi, fCells_at G i hi, h i hi]
  · rw [Array.getElem?_eq_none (by rw [fCells_size]; omega), Array.getElem?_eq_none (by rw [fCells_size]; omega)]
theorem fCells_put (F : FR) (k : Nat) (v : Int) (h : k < 23) : (fCells F).setIfInBounds k (.int .i64 v) = fCells (upd F k v) := by
  apply Array.ext_getElem?
  intro i
  rw [Array.getElem?_setIfInBounds]
  by_cases hi : i < 23
  · rw [fCells_at (upd F k v) i hi, fCells_at F i hi, fCells_size]
    by_cases e : k = i
    · subst e; simp [upd, h]
    · rw [if_neg e, upd_other F v (fun h => e h.symm)]
  · rw [Array.getElem?_eq_none (by rw [fCells_size]; omega), Array.getElem?_eq_none (by rw [fCells_size]; omega)]
    rw [if_neg (by omega)]
theorem fOne (F : FR) : (fCells F).all (·.oneCell') = true := by simp [fCells, Value.oneCell']

/-- A frame in memory. -/
def FIs (w : World) (q t : Nat) (F : FR) : Prop := w.heap[q]? = some (.cells (fCells F) t (0, 0))
theorem FIs.at {w : World} {q t : Nat} {F : FR} (h : FIs w q t F) {k : Nat} (hk : k < 23) : w.cell? ⟨q, k, none⟩ = some (.int .i64 (F k)) := (blk_cell h k).trans (fCells_at F k hk)
theorem FIs.free {w : World} {q t : Nat} {F : FR} (h : FIs w q t F) (k : Nat) : w.frozen? ⟨q, k, none⟩ = false := blk_free h k
theorem FIs.lt {w : World} {q t : Nat} {F : FR} (h : FIs w q t F) : q < w.heap.size := blk_lt h
theorem FIs.below {w wx : World} {q t B : Nat} {F : FR} (h : FIs w q t F) (hq : q < B) (hB : Below B w wx) : FIs wx q t F := (hB.block q hq).trans h
theorem FIs.put {w : World} {q t : Nat} {F : FR} (h : FIs w q t F) {k : Nat} (hk : k < 23) (v : Int) : FIs (w.setCell ⟨q, k, none⟩ (.int .i64 v)) q t (upd F k v) := (blk_set h _ _).trans (by rw [fCells_put F k v hk])
theorem FIs.row {w : World} {q t : Nat} {F : FR} (h : FIs w q t F) (G : FR) : FIs (w.setRow q (fCells G)) q t G := setRow_heap w q _ _ _ _ h
theorem row_otherF (w : World) (g k : Nat) (cs : Array Value) (h : k ≠ g) : (w.setRow g cs).heap[k]? = w.heap[k]? := by
  simp only [World.setRow]
  rw [Array.getElem?_modify, if_neg (fun e => h e.symm)]
theorem below_rowF {B : Nat} {a w : World} (h : Below B a w) {g : Nat} (hg : B ≤ g) (cs : Array Value) : Below B a (w.setRow g cs) :=
  h.trans ⟨rfl, rfl, rfl, by simp [World.setRow], fun k hk => row_otherF _ _ _ _ (by omega)⟩

theorem infoFrame : (Tryz.prog.info? 36).map (·.size) = some 23 := by kernel_rfl
section
variable {ops : Array Oper} {rest : List Oper} {op : Oper} {a : Act} {w : World} {Q : Exit → Act → World → Prop}
theorem wpList_load_f (hgd : op.guard = none) (x : Operand) (ho : op.op = .load 36 x) (b : Nat) (hx : a.eval x = .pointer (some ⟨b, 0, none⟩)) (F : FR) (hS : FIs w b 36 F)
    (h : wpList Tryz.prog ops Q rest (a.put op.dst (.agg (fCells F))) w) : wpList Tryz.prog ops Q (op :: rest) a w :=
  wpList_plain hgd fun _ hK => wp_load_row _ x ho b hx _ _ _ _ hS Tryz.underlying36 rfl (by rw [infoFrame]; rfl) (hK _ _ h)
theorem wpList_store_f (hgd : op.guard = none) (x y : Operand) (ho : op.op = .store 36 x y) (b : Nat) (G : FR) (hx : a.eval x = .pointer (some ⟨b, 0, none⟩)) (hy : a.eval y = .agg (fCells G)) (F : FR) (hS : FIs w b 36 F)
    (h : wpList Tryz.prog ops Q rest (a.put op.dst undef) (w.setRow b (fCells G))) : wpList Tryz.prog ops Q (op :: rest) a w :=
  wpList_plain hgd fun _ hK => wp_store_row _ x y ho b _ hx hy _ _ hS (by rw [infoFrame]; rfl) rfl (fOne G) (hK _ _ h)
theorem wpList_store_fl (hgd : op.guard = none) (x y : Operand) (ho : op.op = .store 36 x y) (b : Nat) (G : FR) (hx : a.eval x = .pointer (some ⟨b, 0, none⟩)) (hy : a.eval y = .agg (fCells G)) (F : FR) (hS : FIs w b 36 F)
    (h : ∀ w', Hid (FIs w' b 36 G ∧ (∀ k, k ≠ b → w'.heap[k]? = w.heap[k]?) ∧ (∀ B, B ≤ b → Below B w w')) → wpList Tryz.prog ops Q rest (a.put op.dst undef) w') : wpList Tryz.prog ops Q (op :: rest) a w :=
  wpList_store_f hgd x y ho b G hx hy F hS (h _ ⟨hS.row G, fun _ hk => row_otherF _ _ _ _ hk, fun _ hB => below_rowF (Below.refl _ _) hB _⟩)
end
theorem load_f {w : World} {q : Nat} {F : FR} (h : FIs w q 36 F) : (loadVar 36 ⟨q, 0, none⟩).run Tryz.prog w = .ok (.agg (fCells F)) w :=
  run_loadVar_row (P := Tryz.prog) _ _ _ 36 _ _ _ h Tryz.underlying36 rfl (by rw [infoFrame]; rfl)
/-! ### Comparing -/
theorem infoIntF : (Tryz.prog.info? 3).map (fun i => (i.zero, i.size, i.bytes)) = some (some (.int .i64 0), 1, 8) := by kernel_rfl
theorem eqInt (w : World) (d : Nat) (a b : Int) : (Op.equalIn (d + 1) 3 (.int .i64 a) (.int .i64 b)).run Tryz.prog w = .ok (a == b) w := by
  simp [Op.equalIn, run_underlying Tryz.underlying3]
theorem partInt (w : World) (xs : Array Value) (k : Nat) (v : Value) (h : xs[k]? = some v) : (part 3 xs k).run Tryz.prog w = .ok v w := by
  simp [part, isAgg, run_underlying Tryz.underlying3, h]
theorem eqIts (w : World) (d : Nat) (xs ys : Array Value) (f g : Nat → Int) : ∀ is : List Nat, (∀ i ∈ is, xs[i]? = some (.int .i64 (f i)) ∧ ys[i]? = some (.int .i64 (g i))) → (Op.eqItems (d + 1) 3 1 xs ys is).run Tryz.prog w = .ok (is.all fun i => f i == g i) w
  | [], _ => by simp [Op.eqItems]
  | i :: is, h => by
    obtain ⟨ha, hb⟩ := h i (by simp)
    have ih := eqIts w d xs ys f g is fun j hj => h j (by simp [hj])
    simp only [Op.eqItems, Sem.run_bind, Nat.mul_one, partInt w xs i _ ha, partInt w ys i _ hb, Result.andThen_ok, eqInt, List.all_cons]
    cases f i == g i
    · simp
    · simpa using ih
theorem eqInts (w : World) (d : Nat) (xs ys : Array Value) (f g : Nat → Int) (h : ∀ i, i < 8 → xs[i]? = some (.int .i64 (f i)) ∧ ys[i]? = some (.int .i64 (g i))) : (Op.equalIn (d + 1 + 1) 32 (.agg xs) (.agg ys)).run Tryz.prog w = .ok ((List.range 8).all fun i => f i == g i) w := by
  obtain ⟨i0, hi, hz0, hz1, hz2⟩ := info_parts infoIntF
  rw [run_equalIn_array w (d + 1) xs ys Tryz.underlying32 hi, show Tryz.prog.cellsOf 3 = 1 by kernel_rfl]
  exact eqIts w d xs ys f g _ fun i hi => h i (by simpa using hi)
theorem partInts (w : World) (xs : Array Value) (k : Nat) : (part 32 xs k).run Tryz.prog w = .ok (.agg (xs.extract k (k + 8))) w := by
  simp [part, isAgg, run_underlying Tryz.underlying32]
theorem fields3 : (Tryz.prog.fieldsOf 34).toList.map (fun f => (f.type, f.offset, f.name != "_")) = [(3, 0, true), (32, 1, true), (32, 9, true)] := by kernel_rfl
theorem fields2 : (Tryz.prog.fieldsOf 31).toList.map (fun f => (f.type, f.offset, f.name != "_")) = [(3, 0, true), (3, 1, true)] := by kernel_rfl
theorem fields6 : (Tryz.prog.fieldsOf 36).toList.map (fun f => (f.type, f.offset, f.name != "_")) = [(3, 0, true), (3, 1, true), (3, 2, true), (31, 3, true), (3, 5, true), (34, 6, true)] := by kernel_rfl
theorem two {α : Type} {l : List α} (h : l.length = 2) : ∃ a b, l = [a, b] := by
  match l, h with
  | [a, b], _ => exact ⟨a, b, rfl⟩
theorem three {α : Type} {l : List α} (h : l.length = 3) : ∃ a b c, l = [a, b, c] := by
  match l, h with
  | [a, b, c], _ => exact ⟨a, b, c, rfl⟩
theorem six {α : Type} {l : List α} (h : l.length = 6) : ∃ a b c d e f, l = [a, b, c, d, e, f] := by
  match l, h with
  | [a, b, c, d, e, f], _ => exact ⟨a, b, c, d, e, f, rfl⟩

theorem extract_at (xs : Array Value) (o n i : Nat) (v : Value) (hs : o + n ≤ xs.size) (hi : i < n) (h : xs[o + i]? = some v) : (xs.extract o (o + n))[i]? = some v := by
  rw [Array.getElem?_extract, if_pos (by omega)]
  exact h

theorem eqInput (w : World) (d : Nat) (xs ys : Array Value) (f g : Nat → Int) (h : ∀ i, i < 2 → xs[i]? = some (.int .i64 (f i)) ∧ ys[i]? = some (.int .i64 (g i))) :
    (Op.equalIn (d + 1 + 1) 31 (.agg xs) (.agg ys)).run Tryz.prog w = .ok (f 0 == g 0 && f 1 == g 1) w := by
  rw [run_equalIn_struct w _ _ _ _ (by kernel_rfl) (by kernel_rfl)]
  have hf := fields2
  generalize (Tryz.prog.fieldsOf 31).toList = fs at hf
  obtain ⟨f0, f1, rfl⟩ : ∃ f0 f1, fs = [f0, f1] := two (by simpa using congrArg List.length hf)
  simp only [List.map_cons, List.map_nil, List.cons.injEq, Prod.mk.injEq, and_true] at hf
  obtain ⟨⟨a1, a2, a3⟩, b1, b2, b3⟩ := hf
  have n0 : f0.name ≠ "_" := by simpa using a3
  have n1 : f1.name ≠ "_" := by simpa using b3
  obtain ⟨x0, y0⟩ := h 0 (by omega)
  obtain ⟨x1, y1⟩ := h 1 (by omega)
  simp only [Op.eqFields, n0, n1, ne_eq, not_false_eq_true, if_true, Sem.run_bind, a1, a2, b1, b2]
  simp only [partInt w xs 0 _ x0, partInt w ys 0 _ y0, Result.andThen_ok, eqInt]
  cases f 0 == g 0
  · simp
  · simp only [Bool.not_true, Bool.false_eq_true, if_false, Sem.run_bind, partInt w xs 1 _ x1, partInt w ys 1 _ y1, Result.andThen_ok, eqInt]
    cases f 1 == g 1
    · simp
    · simp

theorem eqState (w : World) (d : Nat) (xs ys : Array Value) (f g : Nat → Int) (hx : xs.size = 17) (hy : ys.size = 17) (h : ∀ i, i < 17 → xs[i]? = some (.int .i64 (f i)) ∧ ys[i]? = some (.int .i64 (g i))) :
    (Op.equalIn (d + 1 + 1 + 1) 34 (.agg xs) (.agg ys)).run Tryz.prog w = .ok (f 0 == g 0 && (((List.range 8).all fun i => f (1 + i) == g (1 + i)) && ((List.range 8).all fun i => f (9 + i) == g (9 + i)))) w := by
  rw [run_equalIn_struct w _ _ _ _ (by kernel_rfl) (by kernel_rfl)]
  have hf := fields3
  generalize (Tryz.prog.fieldsOf 34).toList = fs at hf
  obtain ⟨f0, f1, f2, rfl⟩ : ∃ f0 f1 f2, fs = [f0, f1, f2] := three (by simpa using congrArg List.length hf)
  simp only [List.map_cons, List.map_nil, List.cons.injEq, Prod.mk.injEq, and_true] at hf
  obtain ⟨⟨a1, a2, a3⟩, ⟨b1, b2, b3⟩, c1, c2, c3⟩ := hf
  have n0 : f0.name ≠ "_" := by simpa using a3
  have n1 : f1.name ≠ "_" := by simpa using b3
  have n2 : f2.name ≠ "_" := by simpa using c3
  obtain ⟨x0, y0⟩ := h 0 (by omega)
  have e1 : ∀ i, i < 8 → (xs.extract 1 (1 + 8))[i]? = some (.int .i64 (f (1 + i))) ∧ (ys.extract 1 (1 + 8))[i]? = some (.int .i64 (g (1 + i))) := fun i hi =>
    ⟨extract_at _ _ _ _ _ (by omega) hi (h (1 + i) (by omega)).1, extract_at _ _ _ _ _ (by omega) hi (h (1 + i) (by omega)).2⟩
  have e2 : ∀ i, i < 8 → (xs.extract 9 (9 + 8))[i]? = some (.int .i64 (f (9 + i))) ∧ (ys.extract 9 (9 + 8))[i]? = some (.int .i64 (g (9 + i))) := fun i hi =>
    ⟨extract_at _ _ _ _ _ (by omega) hi (h (9 + i) (by omega)).1, extract_at _ _ _ _ _ (by omega) hi (h (9 + i) (by omega)).2⟩
  have q1 := eqInts w d _ _ _ _ e1
  have q2 := eqInts w d _ _ _ _ e2
  simp only [Op.eqFields, n0, n1, n2, ne_eq, not_false_eq_true, if_true, Sem.run_bind, a1, a2, b1, b2, c1, c2]
  simp only [partInt w xs 0 _ x0, partInt w ys 0 _ y0, Result.andThen_ok, eqInt]
  cases f 0 == g 0
  · simp
  · simp only [Bool.not_true, Bool.false_eq_true, if_false, Sem.run_bind, partInts, Result.andThen_ok, q1]
    cases ((List.range 8).all fun i => f (1 + i) == g (1 + i))
    · simp
    · simp only [Bool.not_true, Bool.false_eq_true, if_false, Sem.run_bind, partInts, Result.andThen_ok, q2]
      cases ((List.range 8).all fun i => f (9 + i) == g (9 + i))
      · simp
      · simp

theorem partInput (w : World) (xs : Array Value) (k : Nat) : (part 31 xs k).run Tryz.prog w = .ok (.agg (xs.extract k (k + 2))) w := by
  simp [part, isAgg, run_underlying Tryz.underlying31]
theorem partState (w : World) (xs : Array Value) (k : Nat) : (part 34 xs k).run Tryz.prog w = .ok (.agg (xs.extract k (k + 17))) w := by
  simp [part, isAgg, run_underlying Tryz.underlying34]

def eqC (F G : FR) : Bool := F 0 == G 0 && (F 1 == G 1 && (F 2 == G 2 && ((F 3 == G 3 && F 4 == G 4) && (F 5 == G 5 && (F 6 == G 6 && (((List.range 8).all fun i => F (6 + (1 + i)) == G (6 + (1 + i))) && ((List.range 8).all fun i => F (6 + (9 + i)) == G (6 + (9 + i)))))))))
theorem eqC_eq (F G : FR) : eqC F G = eqB F G := by
  rw [Bool.eq_iff_iff, eqB_iff]
  unfold eqC
  simp only [Bool.and_eq_true, beq_iff_eq, List.all_eq_true, List.mem_range]
  constructor
  · rintro ⟨h0, h1, h2, ⟨h3, h4⟩, h5, h6, h7, h8⟩ k hk
    rcases (by omega : k = 0 ∨ k = 1 ∨ k = 2 ∨ k = 3 ∨ k = 4 ∨ k = 5 ∨ k = 6 ∨ (7 ≤ k ∧ k < 15) ∨ 15 ≤ k) with rfl | rfl | rfl | rfl | rfl | rfl | rfl | h | h
    · exact h0
    · exact h1
    · exact h2
    · exact h3
    · exact h4
    · exact h5
    · exact h6
    · have := h7 (k - 7) (by omega)
      rwa [show 6 + (1 + (k - 7)) = k by omega] at this
    · have := h8 (k - 15) (by omega)
      rwa [show 6 + (9 + (k - 15)) = k by omega] at this
  · intro h
    exact ⟨h 0 (by omega), h 1 (by omega), h 2 (by omega), ⟨h 3 (by omega), h 4 (by omega)⟩, h 5 (by omega), h 6 (by omega), fun i hi => h _ (by omega), fun i hi => h _ (by omega)⟩

theorem eqF_cons (w : World) (d : Nat) (xs ys : Array Value) (f : Field) (fs : List Field) (hn : f.name ≠ "_") {v u : Value} {b c : Bool} (hx : (part f.type xs f.offset).run Tryz.prog w = .ok v w) (hy : (part f.type ys f.offset).run Tryz.prog w = .ok u w)
    (he : (Op.equalIn d f.type v u).run Tryz.prog w = .ok b w) (hr : (Op.eqFields d xs ys fs).run Tryz.prog w = .ok c w) : (Op.eqFields d xs ys (f :: fs)).run Tryz.prog w = .ok (b && c) w := by
  simp only [Op.eqFields, hn, ne_eq, not_false_eq_true, if_true, Sem.run_bind, hx, hy, Result.andThen_ok, he]
  cases b
  · simp
  · simpa using hr

theorem eqFields6 (w : World) (d : Nat) (F G : FR) (fs : List Field) (hf : fs.map (fun f => (f.type, f.offset, f.name != "_")) = [(3, 0, true), (3, 1, true), (3, 2, true), (31, 3, true), (3, 5, true), (34, 6, true)]) :
    (Op.eqFields (d + 1 + 1 + 1) (fCells F) (fCells G) fs).run Tryz.prog w = .ok (eqC F G) w := by
  obtain ⟨f0, f1, f2, f3, f4, f5, rfl⟩ : ∃ a b c d e f, fs = [a, b, c, d, e, f] := six (by simpa using congrArg List.length hf)
  simp only [List.map_cons, List.map_nil, List.cons.injEq, Prod.mk.injEq, and_true] at hf
  obtain ⟨⟨a1, a2, a3⟩, ⟨b1, b2, b3⟩, ⟨c1, c2, c3⟩, ⟨d1, d2, d3⟩, ⟨e1, e2, e3⟩, g1, g2, g3⟩ := hf
  have n0 : f0.name ≠ "_" := by simpa using a3
  have n1 : f1.name ≠ "_" := by simpa using b3
  have n2 : f2.name ≠ "_" := by simpa using c3
  have n3 : f3.name ≠ "_" := by simpa using d3
  have n4 : f4.name ≠ "_" := by simpa using e3
  have n5 : f5.name ≠ "_" := by simpa using g3
  have q3 := eqInput w (d + 1) ((fCells F).extract 3 (3 + 2)) ((fCells G).extract 3 (3 + 2)) (fun i => F (3 + i)) (fun i => G (3 + i)) (fun i hi =>
    ⟨extract_at _ _ _ _ _ (by rw [fCells_size]; omega) hi (fCells_at F _ (by omega)), extract_at _ _ _ _ _ (by rw [fCells_size]; omega) hi (fCells_at G _ (by omega))⟩)
  have q5 := eqState w d ((fCells F).extract 6 (6 + 17)) ((fCells G).extract 6 (6 + 17)) (fun i => F (6 + i)) (fun i => G (6 + i)) (by rw [Array.size_extract, fCells_size]; decide) (by rw [Array.size_extract, fCells_size]; decide) (fun i hi =>
    ⟨extract_at _ _ _ _ _ (by rw [fCells_size]; omega) hi (fCells_at F _ (by omega)), extract_at _ _ _ _ _ (by rw [fCells_size]; omega) hi (fCells_at G _ (by omega))⟩)
  unfold eqC
  refine eqF_cons w _ _ _ f0 _ n0 (v := .int .i64 (F 0)) (u := .int .i64 (G 0)) (by rw [a1, a2]; exact partInt w _ 0 _ (fCells_at F 0 (by omega))) (by rw [a1, a2]; exact partInt w _ 0 _ (fCells_at G 0 (by omega))) (by rw [a1]; exact eqInt w _ _ _) ?_
  refine eqF_cons w _ _ _ f1 _ n1 (v := .int .i64 (F 1)) (u := .int .i64 (G 1)) (by rw [b1, b2]; exact partInt w _ 1 _ (fCells_at F 1 (by omega))) (by rw [b1, b2]; exact partInt w _ 1 _ (fCells_at G 1 (by omega))) (by rw [b1]; exact eqInt w _ _ _) ?_
  refine eqF_cons w _ _ _ f2 _ n2 (v := .int .i64 (F 2)) (u := .int .i64 (G 2)) (by rw [c1, c2]; exact partInt w _ 2 _ (fCells_at F 2 (by omega))) (by rw [c1, c2]; exact partInt w _ 2 _ (fCells_at G 2 (by omega))) (by rw [c1]; exact eqInt w _ _ _) ?_
  refine eqF_cons w _ _ _ f3 _ n3 (by rw [d1, d2]; exact partInput w _ 3) (by rw [d1, d2]; exact partInput w _ 3) (by rw [d1]; exact q3) ?_
  refine eqF_cons w _ _ _ f4 _ n4 (v := .int .i64 (F 5)) (u := .int .i64 (G 5)) (by rw [e1, e2]; exact partInt w _ 5 _ (fCells_at F 5 (by omega))) (by rw [e1, e2]; exact partInt w _ 5 _ (fCells_at G 5 (by omega))) (by rw [e1]; exact eqInt w _ _ _) ?_
  have := eqF_cons w _ (fCells F) (fCells G) f5 [] n5 (by rw [g1, g2]; exact partState w _ 6) (by rw [g1, g2]; exact partState w _ 6) (by rw [g1]; exact q5) (c := true) (by simp [Op.eqFields])
  rw [Bool.and_true] at this
  exact this

theorem eqFrame (w : World) (F G : FR) : (Op.equalIn (9996 + 1 + 1 + 1 + 1) 36 (.agg (fCells F)) (.agg (fCells G))).run Tryz.prog w = .ok (eqB F G) w := by
  rw [run_equalIn_struct w _ _ _ _ (by kernel_rfl) (by kernel_rfl), eqFields6 w 9996 F G _ fields6, eqC_eq]
theorem eql_f (w : World) (F G : FR) : (binOp .eql 36 (.agg (fCells F)) (.agg (fCells G))).run Tryz.prog w = .ok (.bool (eqB F G)) w := by
  have h := eqFrame w F G
  simp only [binOp]
  simp [Op.equal, Op.maxDepth, h]
theorem neq_f (w : World) (F G : FR) : (binOp .neq 36 (.agg (fCells F)) (.agg (fCells G))).run Tryz.prog w = .ok (.bool (!eqB F G)) w := by
  have h := eqFrame w F G
  simp only [binOp]
  simp [Op.equal, Op.maxDepth, h]
end Go.Proofs.YtaablbmgagiajabGreatDoor
