import Derived.Test.YtaablbmgagiajabGreatDoorSGAX
namespace Go.Proofs.YtaablbmgagiajabGreatDoor
open Go.RowKit Go.Deep
structure SD where
  wh : Int
  k : Int
  n : Int
  x : Int
  y : Int
  F : FR
  ba : Option Addr
  bl : Nat
  bc : Nat
  bs : List Nat
def sdL (X : SD) : List Value := [.int .i64 X.wh, .int .i64 X.k, .int .i64 X.n, .int .i64 X.x, .int .i64 X.y] ++ (fCells X.F).toList ++ [.slice X.ba X.bl X.bc]
def StepAt (w : World) (al : Option Addr) (ll : Nat) : Prop := ∀ i, i < ll → ∃ (b off : Nat) (X : SD), al = some ⟨b, off, none⟩ ∧ b < w.heap.size ∧ w.rangeAt b (off + i * 29) (sdL X) ∧ IsB w X.ba X.bl X.bc X.bs ∧ X.bl ≤ maxLen
theorem StepAt.below {w wx : World} {al : Option Addr} {ll : Nat} (h : StepAt w al ll) (hB : Below w.heap.size w wx) : StepAt wx al ll := fun i hi => by
  obtain ⟨b, off, X, h1, h2, h3, h4, h5⟩ := h i hi
  exact ⟨b, off, X, h1, Nat.lt_of_lt_of_le h2 hB.size, fun j v hv => (hB.cell (p := ⟨b, off + i * 29 + j, none⟩) h2).trans (h3 j v hv), h4.below hB, h5⟩
end Go.Proofs.YtaablbmgagiajabGreatDoor
