import Derived.Test.YtaablbmgagiajabGreatDoorKGAW
namespace Go.Proofs.YtaablbmgagiajabGreatDoor.Ren
open Go Go.Conc
open Go.ConcR (KK WgAt stA smA rd wr mk)
variable (pG : Program)
section
variable (Wg : Nat) (cs : List Frame)
set_option maxRecDepth 100000
def q0 : Goroutine := { frame := Frame.enter pG 66 #[ptr Wg, .int .i64 1] .normal, callers := cs, status := .running, dying := none }
def q1 : Goroutine := (nxts pG) true 12 (q0 pG Wg cs)
theorem sil_q0 : SilP true 12 (q0 Tryz.prog Wg cs) := by
  iterate 12 (refine ⟨⟨by kernel_rfl, fun w => by kernel_rfl⟩, ?_⟩)
  trivial
theorem dis_q1 (w : World) : stepG Tryz.prog true (q1 Tryz.prog Wg cs) w = .go (nxt Tryz.prog true (q1 Tryz.prog Wg cs)) w #[mk .disable] := by kernel_rfl
def q2 : Goroutine := (nxts pG) true 34 (nxt pG true (q1 pG Wg cs))
theorem sil_q2 : SilP true 34 (nxt Tryz.prog true (q1 Tryz.prog Wg cs)) := by
  iterate 34 (refine ⟨⟨by kernel_rfl, fun w => by kernel_rfl⟩, ?_⟩)
  trivial
theorem add_q2 {w : World} {v d : Int} (hc : w.cell? (stA Wg) = some (.int .u64 v)) (hz : w.frozen? (stA Wg) = false) (hs : IntKind.u64.wrap (v + 4294967296) = d) : stepG Tryz.prog true (q2 Tryz.prog Wg cs) w = .go (fin (q2 Tryz.prog Wg cs) (.int .u64 d)) (w.setCell (stA Wg) (.int .u64 d)) #[rd (stA Wg), wr (stA Wg)] :=
  k_add (x := .tmp 7) (y := .tmp 8) (d := 4294967296) (by kernel_rfl) Tryz.func165 (by kernel_rfl) (by kernel_rfl) (by kernel_rfl) (by kernel_rfl) (by kernel_rfl) (by kernel_rfl) (by kernel_rfl) hc hz hs
def r0 (X : Int) : Goroutine := fin (q2 pG Wg cs) (.int .u64 X)
def r1 (X : Int) : Goroutine := (nxts pG) true 10 (r0 pG Wg cs X)
theorem sil_r0 (X : Int) : SilP true 10 (r0 Tryz.prog Wg cs X) := by
  iterate 10 (refine ⟨⟨by kernel_rfl, fun w => by kernel_rfl⟩, ?_⟩)
  trivial
theorem sym_r1 (X : Int) (w : World) : stepG Tryz.prog true (r1 Tryz.prog Wg cs X) w = .go (fin (r1 Tryz.prog Wg cs X) (.int .u64 (bits .and .u64 X 2147483648))) w #[] := by kernel_rfl
def r2 (X : Int) : Goroutine := (nxts pG) true 11 (fin (r1 pG Wg cs X) (.int .u64 0))
theorem sil_r2 (X : Int) : SilP true 11 (fin (r1 Tryz.prog Wg cs X) (.int .u64 0)) := by
  iterate 11 (refine ⟨⟨by kernel_rfl, fun w => by kernel_rfl⟩, ?_⟩)
  trivial
theorem sym_r2 (X : Int) (w : World) : stepG Tryz.prog true (r2 Tryz.prog Wg cs X) w = .go (fin (r2 Tryz.prog Wg cs X) (.int .u64 (X.fdiv 4294967296))) w #[] := by kernel_rfl
theorem sym_r2b (X V : Int) (w : World) : stepG Tryz.prog true (fin (r2 Tryz.prog Wg cs X) (.int .u64 V)) w = .go (fin (fin (r2 Tryz.prog Wg cs X) (.int .u64 V)) (.int .i32 (IntKind.i32.wrap V))) w #[] := by kernel_rfl
def r3 (X V : Int) : Goroutine := (nxts pG) true 5 (fin (fin (r2 pG Wg cs X) (.int .u64 V)) (.int .i32 V))
theorem sil_r3 (X V : Int) : SilP true 5 (fin (fin (r2 Tryz.prog Wg cs X) (.int .u64 V)) (.int .i32 V)) := by
  iterate 5 (refine ⟨⟨by kernel_rfl, fun w => by kernel_rfl⟩, ?_⟩)
  trivial
theorem sym_r3 (X V : Int) (w : World) : stepG Tryz.prog true (r3 Tryz.prog Wg cs X V) w = .go (fin (r3 Tryz.prog Wg cs X V) (.int .u64 (bits .and .u64 X 2147483647))) w #[] := by kernel_rfl
def r4 (X V : Int) : Goroutine := (nxts pG) true 14 (fin (r3 pG Wg cs X V) (.int .u64 0))
theorem sil_r4 (X V : Int) : SilP true 14 (fin (r3 Tryz.prog Wg cs X V) (.int .u64 0)) := by
  iterate 14 (refine ⟨⟨by kernel_rfl, fun w => by kernel_rfl⟩, ?_⟩)
  trivial
theorem sym_r4 (X V : Int) (w : World) : stepG Tryz.prog true (r4 Tryz.prog Wg cs X V) w = .go (fin (r4 Tryz.prog Wg cs X V) (.bool (V == 1))) w #[] := by kernel_rfl
def r5 (X V : Int) : Goroutine := (nxts pG) true 8 (fin (r4 pG Wg cs X V) (.bool false))
theorem sil_r5 (X V : Int) : SilP true 8 (fin (r4 Tryz.prog Wg cs X V) (.bool false)) := by
  iterate 8 (refine ⟨⟨by kernel_rfl, fun w => by kernel_rfl⟩, ?_⟩)
  trivial
theorem sym_r5 (X V : Int) (w : World) : stepG Tryz.prog true (r5 Tryz.prog Wg cs X V) w = .go (fin (r5 Tryz.prog Wg cs X V) (.bool (decide (V < 0)))) w #[] := by kernel_rfl
def r6 (X V : Int) : Goroutine := (nxts pG) true 25 (fin (r5 pG Wg cs X V) (.bool false))
theorem sil_r6 (X V : Int) : SilP true 25 (fin (r5 Tryz.prog Wg cs X V) (.bool false)) := by
  iterate 25 (refine ⟨⟨by kernel_rfl, fun w => by kernel_rfl⟩, ?_⟩)
  trivial
theorem sym_r6 (X V : Int) (w : World) : stepG Tryz.prog true (r6 Tryz.prog Wg cs X V) w = .go (fin (r6 Tryz.prog Wg cs X V) (.bool (decide (V > 0)))) w #[] := by kernel_rfl
def r7 (X V : Int) : Goroutine := (nxts pG) true 7 (fin (r6 pG Wg cs X V) (.bool true))
theorem sil_r7 (X V : Int) : SilP true 7 (fin (r6 Tryz.prog Wg cs X V) (.bool true)) := by
  iterate 7 (refine ⟨⟨by kernel_rfl, fun w => by kernel_rfl⟩, ?_⟩)
  trivial
theorem ena_r7 (X V : Int) (w : World) : stepG Tryz.prog true (r7 Tryz.prog Wg cs X V) w = .go (nxt Tryz.prog true (r7 Tryz.prog Wg cs X V)) w #[mk .enable] := by kernel_rfl
theorem run_r (X V : Int) : (q1 Tryz.prog Wg cs).status = .running ∧ (q2 Tryz.prog Wg cs).status = .running ∧ (r1 Tryz.prog Wg cs X).status = .running ∧ (r2 Tryz.prog Wg cs X).status = .running ∧ (r3 Tryz.prog Wg cs X V).status = .running ∧ (r4 Tryz.prog Wg cs X V).status = .running ∧ (r5 Tryz.prog Wg cs X V).status = .running ∧ (r6 Tryz.prog Wg cs X V).status = .running ∧ (r7 Tryz.prog Wg cs X V).status = .running := ⟨by kernel_rfl, by kernel_rfl, by kernel_rfl, by kernel_rfl, by kernel_rfl, by kernel_rfl, by kernel_rfl, by kernel_rfl, by kernel_rfl⟩
def u0 : Goroutine := (nxts pG) true 7 (fin (r4 pG Wg cs 4294967296 1) (.bool true))
theorem sil_u0 : SilP true 7 (fin (r4 Tryz.prog Wg cs 4294967296 1) (.bool true)) := by
  iterate 7 (refine ⟨⟨by kernel_rfl, fun w => by kernel_rfl⟩, ?_⟩)
  trivial
theorem cv_u0 (w : World) : atOp (u0 Tryz.prog Wg cs) = true ∧ (execOp (u0 Tryz.prog Wg cs).frame.eval (opAt (u0 Tryz.prog Wg cs))).runT Tryz.prog w #[] = (cvS 189 184 (.pointer (some (smA Wg)))).runT Tryz.prog w #[] := ⟨by kernel_rfl, by kernel_rfl⟩
def u1 : Goroutine := fin (u0 pG Wg cs) (.pointer (some (smA Wg)))
theorem rd_u1 (w : World) : stepG Tryz.prog true (u1 Tryz.prog Wg cs) w = .go (nxt Tryz.prog true (u1 Tryz.prog Wg cs)) w #[mk (.read (smA Wg))] := by kernel_rfl
def u2 : Goroutine := (nxts pG) true 39 (nxt pG true (u1 pG Wg cs))
theorem sil_u2 : SilP true 39 (nxt Tryz.prog true (u1 Tryz.prog Wg cs)) := by
  iterate 39 (refine ⟨⟨by kernel_rfl, fun w => by kernel_rfl⟩, ?_⟩)
  trivial
theorem ena_u2 (w : World) : stepG Tryz.prog true (u2 Tryz.prog Wg cs) w = .go (nxt Tryz.prog true (u2 Tryz.prog Wg cs)) w #[mk .enable] := by kernel_rfl
theorem run_u : (u0 Tryz.prog Wg cs).status = .running ∧ (u1 Tryz.prog Wg cs).status = .running ∧ (u2 Tryz.prog Wg cs).status = .running := ⟨by kernel_rfl, by kernel_rfl, by kernel_rfl⟩
end
section
variable (Wg : Nat) (z : Frame) (zs : List Frame)
set_option maxRecDepth 100000
theorem out_r7 (X V : Int) : (nxt Tryz.prog true (r7 Tryz.prog Wg (z :: zs) X V)).status = .running ∧ ∀ w, stepG Tryz.prog true (nxt Tryz.prog true (r7 Tryz.prog Wg (z :: zs) X V)) w = .go (back z zs) w #[] := ⟨by kernel_rfl, fun w => by kernel_rfl⟩
theorem out_u2 : (nxt Tryz.prog true (u2 Tryz.prog Wg (z :: zs))).status = .running ∧ ∀ w, stepG Tryz.prog true (nxt Tryz.prog true (u2 Tryz.prog Wg (z :: zs))) w = .go (back z zs) w #[] := ⟨by kernel_rfl, fun w => by kernel_rfl⟩
end
end Go.Proofs.YtaablbmgagiajabGreatDoor.Ren
