import Derived.Test.YtaablbmgagiajabGreatDoorKGAW
namespace Go.Proofs.YtaablbmgagiajabGreatDoor.Ren
open Go Go.Conc
open Go.ConcR (KK WgAt stA smA rd wr mk)
variable (pG : Program)
section
variable (Wg : Nat) (cs : List Frame)
set_option maxRecDepth 100000
def y0 : Goroutine := { frame := Frame.enter pG 70 #[ptr Wg] .normal, callers := cs, status := .running, dying := none }
def y1 : Goroutine := (nxts pG) true 3 (y0 pG Wg cs)
theorem sil_y0 : SilP true 3 (y0 Tryz.prog Wg cs) := by
  iterate 3 (refine ⟨⟨by kernel_rfl, fun w => by kernel_rfl⟩, ?_⟩)
  trivial
theorem dis_y1 (w : World) : stepG Tryz.prog true (y1 Tryz.prog Wg cs) w = .go (nxt Tryz.prog true (y1 Tryz.prog Wg cs)) w #[mk .disable] := by kernel_rfl
def c2 : Code → Code
  | .seq _ b => b
  | c => c
def ci : Code → Code
  | .loop c => c
  | .block _ c => c
  | c => c
def lb : Code := ci (ci (c2 ((((pG.funcs[70]?).getD default).body.getD .skip))))
def aw (J : Nat → Value) : Goroutine := { frame := { fn := 70, tmps := #[ptr Wg, J 1, J 2, J 3, J 4, J 5, J 6, J 7, J 8, J 9, J 10, J 11, J 12, J 13, J 14, J 15, J 16, J 17, J 18, J 19, J 20, J 21, J 22, J 23, J 24, J 25, J 26, J 27, J 28, J 29, J 30, J 31, J 32, J 33, J 34, J 35, J 36, J 37, J 38, J 39, J 40, J 41, J 42, J 43, J 44, J 45, J 46, J 47, J 48, J 49, J 50, J 51, J 52, J 53, J 54, J 55, J 56, J 57, J 58, J 59, J 60, J 61, J 62, J 63, J 64, J 65, J 66, J 67, J 68, J 69, J 70, J 71, J 72, J 73, J 74, J 75, J 76, J 77, J 78, J 79, J 80, J 81, J 82, J 83], todo := [.code (lb pG), .inLoop (lb pG), .inBlock 0], defers := [], mode := .run, kind := .normal }, callers := cs, status := .running, dying := none }
theorem sil_y1 : SilP true 3 (nxt Tryz.prog true (y1 Tryz.prog Wg cs)) := by
  iterate 3 (refine ⟨⟨by kernel_rfl, fun w => by kernel_rfl⟩, ?_⟩)
  trivial
theorem aw_y1 : (nxts Tryz.prog) true 3 (nxt Tryz.prog true (y1 Tryz.prog Wg cs)) = (aw Tryz.prog) Wg cs fun k => (nxts Tryz.prog true 3 (nxt Tryz.prog true (y1 Tryz.prog Wg cs))).frame.tmps.getD k undef := by kernel_rfl
def y2 (J : Nat → Value) : Goroutine := (nxts pG) true 16 (aw pG Wg cs J)
theorem sil_aw (J : Nat → Value) : SilP true 16 (aw Tryz.prog Wg cs J) := by
  iterate 16 (refine ⟨⟨by kernel_rfl, fun w => by kernel_rfl⟩, ?_⟩)
  trivial
theorem load_y2 (J : Nat → Value) {w : World} {v : Int} (hc : w.cell? (stA Wg) = some (.int .u64 v)) : stepG Tryz.prog true (y2 Tryz.prog Wg cs J) w = .go (fin (y2 Tryz.prog Wg cs J) (.int .u64 v)) w #[rd (stA Wg)] :=
  k_load (x := .tmp 5) (by kernel_rfl) Tryz.func166 (by kernel_rfl) (by kernel_rfl) (by kernel_rfl) (by kernel_rfl) (by kernel_rfl) (by kernel_rfl) hc
def y3 (J : Nat → Value) (X : Int) : Goroutine := (nxts pG) true 9 (fin (y2 pG Wg cs J) (.int .u64 X))
theorem sil_y3 (J : Nat → Value) (X : Int) : SilP true 9 (fin (y2 Tryz.prog Wg cs J) (.int .u64 X)) := by
  iterate 9 (refine ⟨⟨by kernel_rfl, fun w => by kernel_rfl⟩, ?_⟩)
  trivial
theorem sym_y3 (J : Nat → Value) (X : Int) (w : World) : stepG Tryz.prog true (y3 Tryz.prog Wg cs J X) w = .go (fin (y3 Tryz.prog Wg cs J X) (.int .u64 (X.fdiv 4294967296))) w #[] := by kernel_rfl
theorem sym_y3b (J : Nat → Value) (X V : Int) (w : World) : stepG Tryz.prog true (fin (y3 Tryz.prog Wg cs J X) (.int .u64 V)) w = .go (fin (fin (y3 Tryz.prog Wg cs J X) (.int .u64 V)) (.int .i32 (IntKind.i32.wrap V))) w #[] := by kernel_rfl
def y4 (J : Nat → Value) (X V : Int) : Goroutine := (nxts pG) true 5 (fin (fin (y3 pG Wg cs J X) (.int .u64 V)) (.int .i32 V))
theorem sil_y4 (J : Nat → Value) (X V : Int) : SilP true 5 (fin (fin (y3 Tryz.prog Wg cs J X) (.int .u64 V)) (.int .i32 V)) := by
  iterate 5 (refine ⟨⟨by kernel_rfl, fun w => by kernel_rfl⟩, ?_⟩)
  trivial
theorem sym_y4 (J : Nat → Value) (X V : Int) (w : World) : stepG Tryz.prog true (y4 Tryz.prog Wg cs J X V) w = .go (fin (y4 Tryz.prog Wg cs J X V) (.int .u64 (bits .and .u64 X 2147483647))) w #[] := by kernel_rfl
def y5 (J : Nat → Value) (X V : Int) : Goroutine := (nxts pG) true 7 (fin (y4 pG Wg cs J X V) (.int .u64 0))
theorem sil_y5 (J : Nat → Value) (X V : Int) : SilP true 7 (fin (y4 Tryz.prog Wg cs J X V) (.int .u64 0)) := by
  iterate 7 (refine ⟨⟨by kernel_rfl, fun w => by kernel_rfl⟩, ?_⟩)
  trivial
theorem sym_y5 (J : Nat → Value) (X V : Int) (w : World) : stepG Tryz.prog true (y5 Tryz.prog Wg cs J X V) w = .go (fin (y5 Tryz.prog Wg cs J X V) (.bool (V == 0))) w #[] := by kernel_rfl
def g0 (J : Nat → Value) : Goroutine := (nxts pG) true 6 (fin (y5 pG Wg cs J 0 0) (.bool true))
theorem sil_g0 (J : Nat → Value) : SilP true 6 (fin (y5 Tryz.prog Wg cs J 0 0) (.bool true)) := by
  iterate 6 (refine ⟨⟨by kernel_rfl, fun w => by kernel_rfl⟩, ?_⟩)
  trivial
theorem ena_g0 (J : Nat → Value) (w : World) : stepG Tryz.prog true (g0 Tryz.prog Wg cs J) w = .go (nxt Tryz.prog true (g0 Tryz.prog Wg cs J)) w #[mk .enable] := by kernel_rfl
def g1 (J : Nat → Value) : Goroutine := (nxts pG) true 3 (nxt pG true (g0 pG Wg cs J))
theorem sil_g1 (J : Nat → Value) : SilP true 3 (nxt Tryz.prog true (g0 Tryz.prog Wg cs J)) := by
  iterate 3 (refine ⟨⟨by kernel_rfl, fun w => by kernel_rfl⟩, ?_⟩)
  trivial
theorem cv_g1 (J : Nat → Value) (w : World) : atOp (g1 Tryz.prog Wg cs J) = true ∧ (execOp (g1 Tryz.prog Wg cs J).frame.eval (opAt (g1 Tryz.prog Wg cs J))).runT Tryz.prog w #[] = (cvS 182 184 (.pointer (some (stA Wg)))).runT Tryz.prog w #[] := ⟨by kernel_rfl, by kernel_rfl⟩
def g2 (J : Nat → Value) : Goroutine := fin (g1 pG Wg cs J) (ptr Wg)
theorem acq_g2 (J : Nat → Value) (w : World) : stepG Tryz.prog true (g2 Tryz.prog Wg cs J) w = .go (nxt Tryz.prog true (g2 Tryz.prog Wg cs J)) w #[mk (.acquire (stA Wg))] := by kernel_rfl
theorem sil_g2 (J : Nat → Value) : SilP true 19 (nxt Tryz.prog true (g2 Tryz.prog Wg cs J)) := by
  iterate 19 (refine ⟨⟨by kernel_rfl, fun w => by kernel_rfl⟩, ?_⟩)
  trivial
def h0 (J : Nat → Value) (X V : Int) : Goroutine := (nxts pG) true 10 (fin (y5 pG Wg cs J X V) (.bool false))
theorem sil_h0 (J : Nat → Value) (X V : Int) : SilP true 10 (fin (y5 Tryz.prog Wg cs J X V) (.bool false)) := by
  iterate 10 (refine ⟨⟨by kernel_rfl, fun w => by kernel_rfl⟩, ?_⟩)
  trivial
theorem sym_h0 (J : Nat → Value) (X V : Int) (w : World) : stepG Tryz.prog true (h0 Tryz.prog Wg cs J X V) w = .go (fin (h0 Tryz.prog Wg cs J X V) (.int .u64 (IntKind.u64.wrap (X + 1)))) w #[] := by kernel_rfl
def h1 (J : Nat → Value) (X V Y : Int) : Goroutine := (nxts pG) true 12 (fin (h0 pG Wg cs J X V) (.int .u64 Y))
theorem sil_h1 (J : Nat → Value) (X V Y : Int) : SilP true 12 (fin (h0 Tryz.prog Wg cs J X V) (.int .u64 Y)) := by
  iterate 12 (refine ⟨⟨by kernel_rfl, fun w => by kernel_rfl⟩, ?_⟩)
  trivial
theorem at_h1 (J : Nat → Value) (X V Y : Int) : atOp (h1 Tryz.prog Wg cs J X V Y) = true ∧ (h1 Tryz.prog Wg cs J X V Y).frame.eval (.tmp 9) = .pointer (some (stA Wg)) ∧ (h1 Tryz.prog Wg cs J X V Y).frame.eval (.tmp 10) = .int .u64 X ∧ (h1 Tryz.prog Wg cs J X V Y).frame.eval (.tmp 11) = .int .u64 Y := ⟨by kernel_rfl, by kernel_rfl, by kernel_rfl, by kernel_rfl⟩
theorem op_h1 (J : Nat → Value) (X V Y : Int) : (opAt (h1 Tryz.prog Wg cs J X V Y)).op = .call { callee := .value (.func 168), args := #[.tmp 9, .tmp 10, .tmp 11], argTypes := typesOf (opAt (h1 Tryz.prog Wg cs J X V Y)).op } := by kernel_rfl
theorem hit_h1 (J : Nat → Value) (X V Y : Int) {w : World} (hc : w.cell? (stA Wg) = some (.int .u64 X)) (hz : w.frozen? (stA Wg) = false) : stepG Tryz.prog true (h1 Tryz.prog Wg cs J X V Y) w = .go (fin (h1 Tryz.prog Wg cs J X V Y) (.bool true)) (w.setCell (stA Wg) (.int .u64 Y)) #[rd (stA Wg), wr (stA Wg)] :=
  k_hit (at_h1 Wg cs J X V Y).1 Tryz.func168 (by kernel_rfl) (by kernel_rfl) (by kernel_rfl) (op_h1 Wg cs J X V Y) (by kernel_rfl) (at_h1 Wg cs J X V Y).2.1 (at_h1 Wg cs J X V Y).2.2.1 (at_h1 Wg cs J X V Y).2.2.2 hc hz
theorem miss_h1 (J : Nat → Value) (X V Y : Int) {w : World} {v : Int} (hc : w.cell? (stA Wg) = some (.int .u64 v)) (hz : w.frozen? (stA Wg) = false) (hne : ¬ v = X) : stepG Tryz.prog true (h1 Tryz.prog Wg cs J X V Y) w = .go (fin (h1 Tryz.prog Wg cs J X V Y) (.bool false)) w #[rd (stA Wg)] :=
  k_miss (at_h1 Wg cs J X V Y).1 Tryz.func168 (by kernel_rfl) (by kernel_rfl) (by kernel_rfl) (op_h1 Wg cs J X V Y) (by kernel_rfl) (at_h1 Wg cs J X V Y).2.1 (at_h1 Wg cs J X V Y).2.2.1 (at_h1 Wg cs J X V Y).2.2.2 hc hz hne
theorem sil_miss (J : Nat → Value) (X V Y : Int) : SilP true 9 (fin (h1 Tryz.prog Wg cs J X V Y) (.bool false)) := by
  iterate 9 (refine ⟨⟨by kernel_rfl, fun w => by kernel_rfl⟩, ?_⟩)
  trivial
theorem aw_miss (J : Nat → Value) (X V Y : Int) : (nxts Tryz.prog) true 9 (fin (h1 Tryz.prog Wg cs J X V Y) (.bool false)) = (aw Tryz.prog) Wg cs fun k => (nxts Tryz.prog true 9 (fin (h1 Tryz.prog Wg cs J X V Y) (.bool false))).frame.tmps.getD k undef := by kernel_rfl
def h2 (J : Nat → Value) (X V Y : Int) : Goroutine := (nxts pG) true 19 (fin (h1 pG Wg cs J X V Y) (.bool true))
theorem sil_h2 (J : Nat → Value) (X V Y : Int) : SilP true 19 (fin (h1 Tryz.prog Wg cs J X V Y) (.bool true)) := by
  iterate 19 (refine ⟨⟨by kernel_rfl, fun w => by kernel_rfl⟩, ?_⟩)
  trivial
theorem cv_h2 (J : Nat → Value) (X V Y : Int) (w : World) : atOp (h2 Tryz.prog Wg cs J X V Y) = true ∧ (execOp (h2 Tryz.prog Wg cs J X V Y).frame.eval (opAt (h2 Tryz.prog Wg cs J X V Y))).runT Tryz.prog w #[] = (cvS 189 184 (.pointer (some (smA Wg)))).runT Tryz.prog w #[] := ⟨by kernel_rfl, by kernel_rfl⟩
def h3 (J : Nat → Value) (X V Y : Int) : Goroutine := fin (h2 pG Wg cs J X V Y) (.pointer (some (smA Wg)))
theorem wr_h3 (J : Nat → Value) (X V Y : Int) (w : World) : stepG Tryz.prog true (h3 Tryz.prog Wg cs J X V Y) w = .go (nxt Tryz.prog true (h3 Tryz.prog Wg cs J X V Y)) w #[mk (.write (smA Wg))] := by kernel_rfl
def h4 (J : Nat → Value) (X V Y : Int) : Goroutine := (nxts pG) true 9 (nxt pG true (h3 pG Wg cs J X V Y))
theorem sil_h4 (J : Nat → Value) (X V Y : Int) : SilP true 9 (nxt Tryz.prog true (h3 Tryz.prog Wg cs J X V Y)) := by
  iterate 9 (refine ⟨⟨by kernel_rfl, fun w => by kernel_rfl⟩, ?_⟩)
  trivial
theorem sym_h4 (J : Nat → Value) (X V Y : Int) (w : World) : stepG Tryz.prog true (h4 Tryz.prog Wg cs J X V Y) w = .go (fin (h4 Tryz.prog Wg cs J X V Y) (.int .u64 (bits .and .u64 X 2147483648))) w #[] := by kernel_rfl
def h5 (J : Nat → Value) (X V Y : Int) : Goroutine := (nxts pG) true 13 (fin (h4 pG Wg cs J X V Y) (.int .u64 0))
theorem sil_h5 (J : Nat → Value) (X V Y : Int) : SilP true 13 (fin (h4 Tryz.prog Wg cs J X V Y) (.int .u64 0)) := by
  iterate 13 (refine ⟨⟨by kernel_rfl, fun w => by kernel_rfl⟩, ?_⟩)
  trivial
theorem at_h5 (J : Nat → Value) (X V Y : Int) : atOp (h5 Tryz.prog Wg cs J X V Y) = true ∧ (opAt (h5 Tryz.prog Wg cs J X V Y)).op = .call { callee := .value (.func 119), args := #[.tmp 70, .tmp 71], argTypes := typesOf (opAt (h5 Tryz.prog Wg cs J X V Y)).op } ∧ ((#[.tmp 70, .tmp 71] : Array Operand).map (h5 Tryz.prog Wg cs J X V Y).frame.eval)[0]? = some (.pointer (some (smA Wg))) ∧ (h5 Tryz.prog Wg cs J X V Y).offers = none := ⟨by kernel_rfl, by kernel_rfl, by kernel_rfl, by kernel_rfl⟩
theorem wait_h5 (J : Nat → Value) (X V Y : Int) {w : World} (hc : w.cell? (smA Wg) = some (.int .u32 0)) : stepG Tryz.prog true (h5 Tryz.prog Wg cs J X V Y) w = .go { (h5 Tryz.prog) Wg cs J X V Y with status := .blocked } w #[] :=
  k_waits (at_h5 Wg cs J X V Y).1 Tryz.func119 (by kernel_rfl) (by kernel_rfl) (by kernel_rfl) (at_h5 Wg cs J X V Y).2.1 (by kernel_rfl) (at_h5 Wg cs J X V Y).2.2.1 hc
theorem acq_h5 (J : Nat → Value) (X V Y : Int) {w : World} (hc : w.cell? (smA Wg) = some (.int .u32 1)) (hz : w.frozen? (smA Wg) = false) : stepG Tryz.prog true (h5 Tryz.prog Wg cs J X V Y) w = .go (fin (h5 Tryz.prog Wg cs J X V Y) (.tuple #[])) (w.setCell (smA Wg) (.int .u32 0)) (semEvents (smA Wg)) :=
  k_acquire (at_h5 Wg cs J X V Y).1 Tryz.func119 (by kernel_rfl) (by kernel_rfl) (by kernel_rfl) (at_h5 Wg cs J X V Y).2.1 (by kernel_rfl) (at_h5 Wg cs J X V Y).2.2.1 hc hz
def h6 (J : Nat → Value) (X V Y : Int) : Goroutine := (nxts pG) true 16 (fin (h5 pG Wg cs J X V Y) (.tuple #[]))
theorem sil_h6 (J : Nat → Value) (X V Y : Int) : SilP true 16 (fin (h5 Tryz.prog Wg cs J X V Y) (.tuple #[])) := by
  iterate 16 (refine ⟨⟨by kernel_rfl, fun w => by kernel_rfl⟩, ?_⟩)
  trivial
theorem load_h6 (J : Nat → Value) (X V Y : Int) {w : World} {v : Int} (hc : w.cell? (stA Wg) = some (.int .u64 v)) : stepG Tryz.prog true (h6 Tryz.prog Wg cs J X V Y) w = .go (fin (h6 Tryz.prog Wg cs J X V Y) (.int .u64 v)) w #[rd (stA Wg)] :=
  k_load (x := .tmp 5) (by kernel_rfl) Tryz.func166 (by kernel_rfl) (by kernel_rfl) (by kernel_rfl) (by kernel_rfl) (by kernel_rfl) (by kernel_rfl) hc
def h7 (J : Nat → Value) (X V Y : Int) : Goroutine := (nxts pG) true 11 (fin (h6 pG Wg cs J X V Y) (.int .u64 0))
theorem sil_h7 (J : Nat → Value) (X V Y : Int) : SilP true 11 (fin (h6 Tryz.prog Wg cs J X V Y) (.int .u64 0)) := by
  iterate 11 (refine ⟨⟨by kernel_rfl, fun w => by kernel_rfl⟩, ?_⟩)
  trivial
theorem ena_h7 (J : Nat → Value) (X V Y : Int) (w : World) : stepG Tryz.prog true (h7 Tryz.prog Wg cs J X V Y) w = .go (nxt Tryz.prog true (h7 Tryz.prog Wg cs J X V Y)) w #[mk .enable] := by kernel_rfl
def h8 (J : Nat → Value) (X V Y : Int) : Goroutine := (nxts pG) true 3 (nxt pG true (h7 pG Wg cs J X V Y))
theorem sil_h8 (J : Nat → Value) (X V Y : Int) : SilP true 3 (nxt Tryz.prog true (h7 Tryz.prog Wg cs J X V Y)) := by
  iterate 3 (refine ⟨⟨by kernel_rfl, fun w => by kernel_rfl⟩, ?_⟩)
  trivial
theorem cv_h8 (J : Nat → Value) (X V Y : Int) (w : World) : atOp (h8 Tryz.prog Wg cs J X V Y) = true ∧ (execOp (h8 Tryz.prog Wg cs J X V Y).frame.eval (opAt (h8 Tryz.prog Wg cs J X V Y))).runT Tryz.prog w #[] = (cvS 182 184 (.pointer (some (stA Wg)))).runT Tryz.prog w #[] := ⟨by kernel_rfl, by kernel_rfl⟩
def h9 (J : Nat → Value) (X V Y : Int) : Goroutine := fin (h8 pG Wg cs J X V Y) (ptr Wg)
theorem acq_h9 (J : Nat → Value) (X V Y : Int) (w : World) : stepG Tryz.prog true (h9 Tryz.prog Wg cs J X V Y) w = .go (nxt Tryz.prog true (h9 Tryz.prog Wg cs J X V Y)) w #[mk (.acquire (stA Wg))] := by kernel_rfl
theorem sil_h9 (J : Nat → Value) (X V Y : Int) : SilP true 9 (nxt Tryz.prog true (h9 Tryz.prog Wg cs J X V Y)) := by
  iterate 9 (refine ⟨⟨by kernel_rfl, fun w => by kernel_rfl⟩, ?_⟩)
  trivial
theorem run_y (J : Nat → Value) (X V Y : Int) : (y1 Tryz.prog Wg cs).status = .running ∧ (y2 Tryz.prog Wg cs J).status = .running ∧ (y3 Tryz.prog Wg cs J X).status = .running ∧ (y4 Tryz.prog Wg cs J X V).status = .running ∧ (y5 Tryz.prog Wg cs J X V).status = .running ∧ (g0 Tryz.prog Wg cs J).status = .running ∧ (g1 Tryz.prog Wg cs J).status = .running ∧ (g2 Tryz.prog Wg cs J).status = .running ∧ (h0 Tryz.prog Wg cs J X V).status = .running ∧ (h1 Tryz.prog Wg cs J X V Y).status = .running ∧ (h2 Tryz.prog Wg cs J X V Y).status = .running ∧ (h3 Tryz.prog Wg cs J X V Y).status = .running ∧ (h4 Tryz.prog Wg cs J X V Y).status = .running ∧ (h5 Tryz.prog Wg cs J X V Y).status = .running ∧ (h6 Tryz.prog Wg cs J X V Y).status = .running ∧ (h7 Tryz.prog Wg cs J X V Y).status = .running ∧ (h8 Tryz.prog Wg cs J X V Y).status = .running ∧ (h9 Tryz.prog Wg cs J X V Y).status = .running := ⟨by kernel_rfl, by kernel_rfl, by kernel_rfl, by kernel_rfl, by kernel_rfl, by kernel_rfl, by kernel_rfl, by kernel_rfl, by kernel_rfl, by kernel_rfl, by kernel_rfl, by kernel_rfl, by kernel_rfl, by kernel_rfl, by kernel_rfl, by kernel_rfl, by kernel_rfl, by kernel_rfl⟩
end
section
variable (Wg : Nat) (z : Frame) (zs : List Frame)
set_option maxRecDepth 100000
theorem out_g2 (J : Nat → Value) : (nxts Tryz.prog true 19 (nxt Tryz.prog true (g2 Tryz.prog Wg (z :: zs) J))).status = .running ∧ ∀ w, stepG Tryz.prog true (nxts Tryz.prog true 19 (nxt Tryz.prog true (g2 Tryz.prog Wg (z :: zs) J))) w = .go (back z zs) w #[] := ⟨by kernel_rfl, fun w => by kernel_rfl⟩
theorem out_h9 (J : Nat → Value) (X V Y : Int) : (nxts Tryz.prog true 9 (nxt Tryz.prog true (h9 Tryz.prog Wg (z :: zs) J X V Y))).status = .running ∧ ∀ w, stepG Tryz.prog true (nxts Tryz.prog true 9 (nxt Tryz.prog true (h9 Tryz.prog Wg (z :: zs) J X V Y))) w = .go (back z zs) w #[] := ⟨by kernel_rfl, fun w => by kernel_rfl⟩
end
end Go.Proofs.YtaablbmgagiajabGreatDoor.Ren
