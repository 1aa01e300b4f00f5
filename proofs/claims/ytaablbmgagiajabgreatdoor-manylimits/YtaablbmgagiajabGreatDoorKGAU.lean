import Derived.Conc.WgArith
import Derived.Test.YtaablbmgagiajabGreatDoorKGAT
namespace Go.Proofs.YtaablbmgagiajabGreatDoor.Ren
open Go Go.Conc
open Go.ConcR (KK WgAt stA smA rd wr mk)
open Go.ConcN (st_flag st_waiters)
variable (pG : Program)
def ptr (b : Nat) : Value := .pointer (some ⟨b, 0, none⟩)
section
variable (Wg : Nat) (cs : List Frame)
set_option maxRecDepth 100000
def n0 : Goroutine := { frame := Frame.enter pG 66 #[ptr Wg, .int .i64 (-1)] .normal, callers := cs, status := .running, dying := none }
def n1 : Goroutine := (nxts pG) false 11 (n0 pG Wg cs)
theorem sil_n0 : SilP false 11 (n0 Tryz.prog Wg cs) := by
  iterate 11 (refine ⟨⟨by kernel_rfl, fun w => by kernel_rfl⟩, ?_⟩)
  trivial
def n2 : Goroutine := fin (n1 pG Wg cs) (ptr Wg)
theorem rel_n2 (w : World) : stepG Tryz.prog false (n2 Tryz.prog Wg cs) w = .go (nxt Tryz.prog false (n2 Tryz.prog Wg cs)) w #[mk (.releaseMerge (stA Wg))] := by kernel_rfl
def n3 : Goroutine := (nxts pG) false 3 (nxt pG false (n2 pG Wg cs))
theorem sil_n3 : SilP false 3 (nxt Tryz.prog false (n2 Tryz.prog Wg cs)) := by
  iterate 3 (refine ⟨⟨by kernel_rfl, fun w => by kernel_rfl⟩, ?_⟩)
  trivial
theorem dis_n3 (w : World) : stepG Tryz.prog false (n3 Tryz.prog Wg cs) w = .go (nxt Tryz.prog false (n3 Tryz.prog Wg cs)) w #[mk .disable] := by kernel_rfl
def n4 : Goroutine := (nxts pG) false 34 (nxt pG false (n3 pG Wg cs))
theorem sil_n4 : SilP false 34 (nxt Tryz.prog false (n3 Tryz.prog Wg cs)) := by
  iterate 34 (refine ⟨⟨by kernel_rfl, fun w => by kernel_rfl⟩, ?_⟩)
  trivial
theorem at_n4 : atOp (n4 Tryz.prog Wg cs) = true ∧ (n4 Tryz.prog Wg cs).frame.eval (.tmp 7) = .pointer (some (stA Wg)) ∧ (n4 Tryz.prog Wg cs).frame.eval (.tmp 8) = .int .u64 18446744069414584320 := ⟨by kernel_rfl, by kernel_rfl, by kernel_rfl⟩
theorem op_n4 : (opAt (n4 Tryz.prog Wg cs)).op = .call { callee := .value (.func 165), args := #[.tmp 7, .tmp 8], argTypes := typesOf (opAt (n4 Tryz.prog Wg cs)).op } := by kernel_rfl
theorem add_n4 {w : World} {v d : Int} (hc : w.cell? (stA Wg) = some (.int .u64 v)) (hz : w.frozen? (stA Wg) = false) (hs : IntKind.u64.wrap (v + 18446744069414584320) = d) : stepG Tryz.prog false (n4 Tryz.prog Wg cs) w = .go (fin (n4 Tryz.prog Wg cs) (.int .u64 d)) (w.setCell (stA Wg) (.int .u64 d)) #[rd (stA Wg), wr (stA Wg)] :=
  k_add (at_n4 Wg cs).1 Tryz.func165 (by kernel_rfl) (by kernel_rfl) (by kernel_rfl) (op_n4 Wg cs) (by kernel_rfl) (at_n4 Wg cs).2.1 (at_n4 Wg cs).2.2 hc hz hs
def m0 (X : Int) : Goroutine := fin (n4 pG Wg cs) (.int .u64 X)
def m1 (X : Int) : Goroutine := (nxts pG) false 10 (m0 pG Wg cs X)
theorem sil_m0 (X : Int) : SilP false 10 (m0 Tryz.prog Wg cs X) := by
  iterate 10 (refine ⟨⟨by kernel_rfl, fun w => by kernel_rfl⟩, ?_⟩)
  trivial
theorem sym_m1 (X : Int) (w : World) : stepG Tryz.prog false (m1 Tryz.prog Wg cs X) w = .go (fin (m1 Tryz.prog Wg cs X) (.int .u64 (bits .and .u64 X 2147483648))) w #[] := by kernel_rfl
def m2 (X : Int) : Goroutine := (nxts pG) false 11 (fin (m1 pG Wg cs X) (.int .u64 0))
theorem sil_m2 (X : Int) : SilP false 11 (fin (m1 Tryz.prog Wg cs X) (.int .u64 0)) := by
  iterate 11 (refine ⟨⟨by kernel_rfl, fun w => by kernel_rfl⟩, ?_⟩)
  trivial
theorem sym_m2 (X : Int) (w : World) : stepG Tryz.prog false (m2 Tryz.prog Wg cs X) w = .go (fin (m2 Tryz.prog Wg cs X) (.int .u64 (X.fdiv 4294967296))) w #[] := by kernel_rfl
theorem sym_m2b (X V : Int) (w : World) : stepG Tryz.prog false (fin (m2 Tryz.prog Wg cs X) (.int .u64 V)) w = .go (fin (fin (m2 Tryz.prog Wg cs X) (.int .u64 V)) (.int .i32 (IntKind.i32.wrap V))) w #[] := by kernel_rfl
def m3 (X V : Int) : Goroutine := (nxts pG) false 5 (fin (fin (m2 pG Wg cs X) (.int .u64 V)) (.int .i32 V))
theorem sil_m3 (X V : Int) : SilP false 5 (fin (fin (m2 Tryz.prog Wg cs X) (.int .u64 V)) (.int .i32 V)) := by
  iterate 5 (refine ⟨⟨by kernel_rfl, fun w => by kernel_rfl⟩, ?_⟩)
  trivial
theorem sym_m3 (X V : Int) (w : World) : stepG Tryz.prog false (m3 Tryz.prog Wg cs X V) w = .go (fin (m3 Tryz.prog Wg cs X V) (.int .u64 (bits .and .u64 X 2147483647))) w #[] := by kernel_rfl
def m40 (X V : Int) : Goroutine := (nxts pG) false 23 (fin (m3 pG Wg cs X V) (.int .u64 0))
theorem sil_m40 (X V : Int) : SilP false 23 (fin (m3 Tryz.prog Wg cs X V) (.int .u64 0)) := by
  iterate 23 (refine ⟨⟨by kernel_rfl, fun w => by kernel_rfl⟩, ?_⟩)
  trivial
theorem sym_m40 (X V : Int) (w : World) : stepG Tryz.prog false (m40 Tryz.prog Wg cs X V) w = .go (fin (m40 Tryz.prog Wg cs X V) (.bool (decide (V < 0)))) w #[] := by kernel_rfl
def m50 (X V : Int) : Goroutine := (nxts pG) false 25 (fin (m40 pG Wg cs X V) (.bool false))
theorem sil_m50 (X V : Int) : SilP false 25 (fin (m40 Tryz.prog Wg cs X V) (.bool false)) := by
  iterate 25 (refine ⟨⟨by kernel_rfl, fun w => by kernel_rfl⟩, ?_⟩)
  trivial
theorem sym_m50 (X V : Int) (w : World) : stepG Tryz.prog false (m50 Tryz.prog Wg cs X V) w = .go (fin (m50 Tryz.prog Wg cs X V) (.bool (decide (V > 0)))) w #[] := by kernel_rfl
def m60t (X V : Int) : Goroutine := (nxts pG) false 7 (fin (m50 pG Wg cs X V) (.bool true))
theorem sil_m60t (X V : Int) : SilP false 7 (fin (m50 Tryz.prog Wg cs X V) (.bool true)) := by
  iterate 7 (refine ⟨⟨by kernel_rfl, fun w => by kernel_rfl⟩, ?_⟩)
  trivial
theorem ena_m60t (X V : Int) (w : World) : stepG Tryz.prog false (m60t Tryz.prog Wg cs X V) w = .go (nxt Tryz.prog false (m60t Tryz.prog Wg cs X V)) w #[mk .enable] := by kernel_rfl
def m60f (X V : Int) : Goroutine := (nxts pG) false 7 (fin (m50 pG Wg cs X V) (.bool false))
theorem sil_m60f (X V : Int) : SilP false 7 (fin (m50 Tryz.prog Wg cs X V) (.bool false)) := by
  iterate 7 (refine ⟨⟨by kernel_rfl, fun w => by kernel_rfl⟩, ?_⟩)
  trivial
theorem ena_m60f (X V : Int) (w : World) : stepG Tryz.prog false (m60f Tryz.prog Wg cs X V) w = .go (nxt Tryz.prog false (m60f Tryz.prog Wg cs X V)) w #[mk .enable] := by kernel_rfl
def m41 (X V : Int) : Goroutine := (nxts pG) false 23 (fin (m3 pG Wg cs X V) (.int .u64 1))
theorem sil_m41 (X V : Int) : SilP false 23 (fin (m3 Tryz.prog Wg cs X V) (.int .u64 1)) := by
  iterate 23 (refine ⟨⟨by kernel_rfl, fun w => by kernel_rfl⟩, ?_⟩)
  trivial
theorem sym_m41 (X V : Int) (w : World) : stepG Tryz.prog false (m41 Tryz.prog Wg cs X V) w = .go (fin (m41 Tryz.prog Wg cs X V) (.bool (decide (V < 0)))) w #[] := by kernel_rfl
def m51 (X V : Int) : Goroutine := (nxts pG) false 25 (fin (m41 pG Wg cs X V) (.bool false))
theorem sil_m51 (X V : Int) : SilP false 25 (fin (m41 Tryz.prog Wg cs X V) (.bool false)) := by
  iterate 25 (refine ⟨⟨by kernel_rfl, fun w => by kernel_rfl⟩, ?_⟩)
  trivial
theorem sym_m51 (X V : Int) (w : World) : stepG Tryz.prog false (m51 Tryz.prog Wg cs X V) w = .go (fin (m51 Tryz.prog Wg cs X V) (.bool (decide (V > 0)))) w #[] := by kernel_rfl
def m61t (X V : Int) : Goroutine := (nxts pG) false 7 (fin (m51 pG Wg cs X V) (.bool true))
theorem sil_m61t (X V : Int) : SilP false 7 (fin (m51 Tryz.prog Wg cs X V) (.bool true)) := by
  iterate 7 (refine ⟨⟨by kernel_rfl, fun w => by kernel_rfl⟩, ?_⟩)
  trivial
theorem ena_m61t (X V : Int) (w : World) : stepG Tryz.prog false (m61t Tryz.prog Wg cs X V) w = .go (nxt Tryz.prog false (m61t Tryz.prog Wg cs X V)) w #[mk .enable] := by kernel_rfl
def p0 : Goroutine := (nxts pG) false 23 (fin (m51 pG Wg cs 1 0) (.bool false))
theorem sil_p0 : SilP false 23 (fin (m51 Tryz.prog Wg cs 1 0) (.bool false)) := by
  iterate 23 (refine ⟨⟨by kernel_rfl, fun w => by kernel_rfl⟩, ?_⟩)
  trivial
theorem load_p0 {w : World} {v : Int} (hc : w.cell? (stA Wg) = some (.int .u64 v)) : stepG Tryz.prog false (p0 Tryz.prog Wg cs) w = .go (fin (p0 Tryz.prog Wg cs) (.int .u64 v)) w #[rd (stA Wg)] :=
  k_load (x := .tmp 5) (by kernel_rfl) Tryz.func166 (by kernel_rfl) (by kernel_rfl) (by kernel_rfl) (by kernel_rfl) (by kernel_rfl) (by kernel_rfl) hc
def p1 : Goroutine := (nxts pG) false 20 (fin (p0 pG Wg cs) (.int .u64 1))
theorem sil_p1 : SilP false 20 (fin (p0 Tryz.prog Wg cs) (.int .u64 1)) := by
  iterate 20 (refine ⟨⟨by kernel_rfl, fun w => by kernel_rfl⟩, ?_⟩)
  trivial
theorem store_p1 {w : World} {v : Value} (hc : w.cell? (stA Wg) = some v) (hz : w.frozen? (stA Wg) = false) : stepG Tryz.prog false (p1 Tryz.prog Wg cs) w = .go (fin (p1 Tryz.prog Wg cs) (.tuple #[])) (w.setCell (stA Wg) (.int .u64 0)) #[wr (stA Wg)] :=
  k_store (x := .tmp 6) (y := .tmp 7) (by kernel_rfl) Tryz.func167 (by kernel_rfl) (by kernel_rfl) (by kernel_rfl) (by kernel_rfl) (by kernel_rfl) (by kernel_rfl) (by kernel_rfl) hc hz
def p2 : Goroutine := (nxts pG) false 27 (fin (p1 pG Wg cs) (.tuple #[]))
theorem sil_p2 : SilP false 27 (fin (p1 Tryz.prog Wg cs) (.tuple #[])) := by
  iterate 27 (refine ⟨⟨by kernel_rfl, fun w => by kernel_rfl⟩, ?_⟩)
  trivial
theorem rel_p2 {w : World} (hc : w.cell? (smA Wg) = some (.int .u32 0)) (hz : w.frozen? (smA Wg) = false) : stepG Tryz.prog false (p2 Tryz.prog Wg cs) w = .go (fin (p2 Tryz.prog Wg cs) (.tuple #[])) (w.setCell (smA Wg) (.int .u32 1)) (semEvents (smA Wg)) :=
  k_release (xs := #[.tmp 115, .const (.bool false), .const (.int .i64 0)]) (by kernel_rfl) Tryz.func114 (by kernel_rfl) (by kernel_rfl) (by kernel_rfl) (by kernel_rfl) (by kernel_rfl) (by kernel_rfl) hc hz
theorem wake_p2 : mayWake Tryz.prog (p2 Tryz.prog Wg cs) = true := by kernel_rfl
def p3 : Goroutine := (nxts pG) false 17 (fin (p2 pG Wg cs) (.tuple #[]))
theorem sil_p3 : SilP false 17 (fin (p2 Tryz.prog Wg cs) (.tuple #[])) := by
  iterate 17 (refine ⟨⟨by kernel_rfl, fun w => by kernel_rfl⟩, ?_⟩)
  trivial
theorem ena_p3 (w : World) : stepG Tryz.prog false (p3 Tryz.prog Wg cs) w = .go (nxt Tryz.prog false (p3 Tryz.prog Wg cs)) w #[mk .enable] := by kernel_rfl
end
end Go.Proofs.YtaablbmgagiajabGreatDoor.Ren
