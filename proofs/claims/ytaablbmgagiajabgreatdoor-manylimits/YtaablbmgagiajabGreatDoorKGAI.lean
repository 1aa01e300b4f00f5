import Derived.Test.YtaablbmgagiajabGreatDoorKGAH
import Derived.Great.BuildSlice
import Derived.Test.YtaablbmgagiajabGreatDoorKGAG
namespace Go.Proofs.YtaablbmgagiajabGreatDoor
open Go.RowKit Go.Deep
def toldN (l : List Nat) : List Nat := l.take (l.length - 4)
def lastN (l : List Nat) : List Nat := l.drop (l.length - 4)
def decF (l : List Nat) : Nat × FR :=
  if l.length < 7 ∨ 80 < l.length then (3, fr0)
  else if b4 (crc (toldN l)).toNat = lastN l then
    (if mayB (framedF (readF (toldN l))) = true ∧ encF (framedF (readF (toldN l))) = l then (0, framedF (readF (toldN l))) else (3, fr0))
  else (15, fr0)
def isRep (x : Int) : Bool := decide (0 ≤ x) && decide (x < 3)
set_option maxHeartbeats 1000000 in
theorem isReplica_any (x : Int) (w : World) :
    Calls Tryz.prog 134 #[.int .i64 x] w fun e w' => e = .returned (.bool (isRep x)) ∧ w' = w := by
  by_cases h1 : 0 ≤ x
  · by_cases h2 : x < 3
    · have he : isRep x = true := by simp [isRep, h1, h2]
      rw [he]
      clear he
      go_enter Tryz.func134, Tryz.ntmps134
      go_wp2
      go_ret
      exact ⟨rfl, rfl⟩
    · have he : isRep x = false := by simp [isRep, h2]
      rw [he]
      clear he
      go_enter Tryz.func134, Tryz.ntmps134
      go_wp2
      go_ret
      exact ⟨rfl, rfl⟩
  · have he : isRep x = false := by simp [isRep, h1]
    rw [he]
    clear he
    go_enter Tryz.func134, Tryz.ntmps134
    go_wp2
    go_ret
    exact ⟨rfl, rfl⟩
end Go.Proofs.YtaablbmgagiajabGreatDoor
