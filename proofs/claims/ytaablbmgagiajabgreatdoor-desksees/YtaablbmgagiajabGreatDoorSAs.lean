import Derived.Test.YtaablbmgagiajabGreatDoorRows
import Derived.WalkKit
import Derived.WalkSpells
import Derived.WalkLawsBesides
import Derived.LaidEql
import Derived.Stop.Asserts
import Derived.RowKitTokens
namespace Go.Proofs.YtaablbmgagiajabGreatDoor
open Go.RowKit Go.Extern.Stop Go.Stop Go.Extern
def HasErrT (w : World) : Prop := w.cell? ⟨0, 0, none⟩ = some (.iface 237 (.agg #[.pointer (some ⟨7, 54, none⟩)]))
theorem HasErrT.pos {w : World} (h : HasErrT w) : 0 < w.heap.size := by
  rcases Nat.eq_zero_or_pos w.heap.size with h0 | h1
  · unfold HasErrT at h; simp [World.cell?, h0] at h
  · exact h1
theorem HasErrT.below {w wx : World} {B : Nat} (h : HasErrT w) (hb : Below B w wx) (hB : 0 < B) : HasErrT wx := (hb.cell (p := ⟨0, 0, none⟩) hB).trans h
end Go.Proofs.YtaablbmgagiajabGreatDoor
