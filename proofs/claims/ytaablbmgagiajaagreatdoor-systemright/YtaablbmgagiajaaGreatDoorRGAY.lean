import Derived.Test.YtaablbmgagiajaaGreatDoorRGAG
namespace Go.Proofs.YtaablbmgagiajaaGreatDoor
open Go.RowKit Go.Deep
def cmA (d : Cm) : Array Value := #[.int .i64 d.c, .int .i64 d.v, .int .i64 d.o]
def vtA (b : Bool) (d : Cm) : Array Value := #[.bool b, .int .i64 d.c, .int .i64 d.v, .int .i64 d.o]
theorem fieldsCommit : (Tryz.prog.fieldsOf 59).toList.map (fun f => (f.type, f.offset, f.name != "_")) = [(30, 0, true), (3, 2, true)] := by kernel_rfl
theorem fieldsVote : (Tryz.prog.fieldsOf 113).toList.map (fun f => (f.type, f.offset, f.name != "_")) = [(4, 0, true), (59, 1, true)] := by kernel_rfl
theorem eqInput2 (w : World) (d : Nat) (a b : Cm) (xs ys : Array Value) (hx : xs = #[.int .i64 a.c, .int .i64 a.v]) (hy : ys = #[.int .i64 b.c, .int .i64 b.v]) :
    (Op.equalIn (d + 1 + 1) 30 (.agg xs) (.agg ys)).run Tryz.prog w = .ok (eqIn a b) w := by
  subst hx hy
  exact eqInput w d _ _ (fun i => if i = 0 then a.c else a.v) (fun i => if i = 0 then b.c else b.v) (fun i hi => by
    match i, hi with
    | 0, _ => exact ⟨rfl, rfl⟩
    | 1, _ => exact ⟨rfl, rfl⟩)
theorem eqCommit (w : World) (d : Nat) (a b : Cm) : (Op.equalIn (d + 1 + 1 + 1) 59 (.agg (cmA a)) (.agg (cmA b))).run Tryz.prog w = .ok (eqCm a b) w := by
  rw [run_equalIn_struct w _ _ _ _ (by kernel_rfl) (by kernel_rfl)]
  have hf := fieldsCommit
  generalize (Tryz.prog.fieldsOf 59).toList = fs at hf
  obtain ⟨f0, f1, rfl⟩ : ∃ f0 f1, fs = [f0, f1] := two (by simpa using congrArg List.length hf)
  simp only [List.map_cons, List.map_nil, List.cons.injEq, Prod.mk.injEq, and_true] at hf
  obtain ⟨⟨a1, a2, a3⟩, b1, b2, b3⟩ := hf
  have n0 : f0.name ≠ "_" := by simpa using a3
  have n1 : f1.name ≠ "_" := by simpa using b3
  unfold eqCm
  refine eqF_cons w _ _ _ f0 _ n0 (by rw [a1, a2]; exact partInput w _ 0) (by rw [a1, a2]; exact partInput w _ 0) (by rw [a1]; exact eqInput2 w d a b _ _ rfl rfl) ?_
  have := eqF_cons w (d + 1 + 1) (cmA a) (cmA b) f1 [] n1 (v := .int .i64 a.o) (u := .int .i64 b.o) (by rw [b1, b2]; exact partInt w _ 2 _ rfl) (by rw [b1, b2]; exact partInt w _ 2 _ rfl) (by rw [b1]; exact eqInt w _ _ _) (c := true) (by simp [Op.eqFields])
  rw [Bool.and_true] at this
  exact this
theorem eqBool (w : World) (d : Nat) (a b : Bool) : (Op.equalIn (d + 1) 4 (.bool a) (.bool b)).run Tryz.prog w = .ok (a == b) w := by
  simp [Op.equalIn, run_underlying Tryz.underlying4]
theorem partBool (w : World) (xs : Array Value) (k : Nat) (v : Value) (h : xs[k]? = some v) : (part 4 xs k).run Tryz.prog w = .ok v w := by
  simp [part, isAgg, run_underlying Tryz.underlying4, h]
theorem partCommit (w : World) (xs : Array Value) (k : Nat) : (part 59 xs k).run Tryz.prog w = .ok (.agg (xs.extract k (k + 3))) w := by
  simp [part, isAgg, run_underlying Tryz.underlying59]
theorem eqVote (w : World) (d : Nat) (x y : Bool) (a b : Cm) : (Op.equalIn (d + 1 + 1 + 1 + 1) 113 (.agg (vtA x a)) (.agg (vtA y b))).run Tryz.prog w = .ok ((x == y) && eqCm a b) w := by
  rw [run_equalIn_struct w _ _ _ _ (by kernel_rfl) (by kernel_rfl)]
  have hf := fieldsVote
  generalize (Tryz.prog.fieldsOf 113).toList = fs at hf
  obtain ⟨f0, f1, rfl⟩ : ∃ f0 f1, fs = [f0, f1] := two (by simpa using congrArg List.length hf)
  simp only [List.map_cons, List.map_nil, List.cons.injEq, Prod.mk.injEq, and_true] at hf
  obtain ⟨⟨a1, a2, a3⟩, b1, b2, b3⟩ := hf
  have n0 : f0.name ≠ "_" := by simpa using a3
  have n1 : f1.name ≠ "_" := by simpa using b3
  refine eqF_cons w _ _ _ f0 _ n0 (v := .bool x) (u := .bool y) (by rw [a1, a2]; exact partBool w _ 0 _ rfl) (by rw [a1, a2]; exact partBool w _ 0 _ rfl) (by rw [a1]; exact eqBool w _ _ _) ?_
  have := eqF_cons w (d + 1 + 1 + 1) (vtA x a) (vtA y b) f1 [] n1 (by rw [b1, b2]; exact partCommit w _ 1) (by rw [b1, b2]; exact partCommit w _ 1) (by rw [b1]; exact eqCommit w d a b) (c := true) (by simp [Op.eqFields])
  rw [Bool.and_true] at this
  exact this
theorem eql_vote (w : World) (x y : Bool) (a1 a2 a3 b1 b2 b3 : Int) : (binOp .eql 113 (.agg #[.bool x, .int .i64 a1, .int .i64 a2, .int .i64 a3]) (.agg #[.bool y, .int .i64 b1, .int .i64 b2, .int .i64 b3])).run Tryz.prog w = .ok (.bool ((x == y) && eqCm ⟨a1, a2, a3⟩ ⟨b1, b2, b3⟩)) w := by
  have h := eqVote w 9996 x y ⟨a1, a2, a3⟩ ⟨b1, b2, b3⟩
  unfold vtA at h
  simp only [binOp]
  simp [Op.equal, Op.maxDepth, h]
def eqI (a1 a2 b1 b2 : Int) : Bool := a1 == b1 && a2 == b2
theorem eql_input (w : World) (a1 a2 b1 b2 : Int) : (binOp .eql 30 (.agg #[.int .i64 a1, .int .i64 a2]) (.agg #[.int .i64 b1, .int .i64 b2])).run Tryz.prog w = .ok (.bool (eqI a1 a2 b1 b2)) w := by
  have h := eqInput2 w 9998 ⟨a1, a2, 0⟩ ⟨b1, b2, 0⟩ _ _ rfl rfl
  simp only [binOp]
  simp [Op.equal, Op.maxDepth, h, eqIn, eqI]
end Go.Proofs.YtaablbmgagiajaaGreatDoor
