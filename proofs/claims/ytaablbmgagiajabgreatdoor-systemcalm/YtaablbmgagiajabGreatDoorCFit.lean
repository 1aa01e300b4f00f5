import Derived.Deep.RegionWith
import Derived.WalkSmall
import Derived.Test.YtaablbmgagiajabGreatDoorCConf
namespace Go.Proofs.YtaablbmgagiajabGreatDoor
open Go.RowKit Go.Deep
theorem IsErr.other {w w' : World} {lo : Nat} {f : Nat × Int} {v : Value} (h : IsErr w lo f v) (hh : ∀ k, lo ≤ k → w'.heap[k]? = w.heap[k]?) (hs : w.heap.size ≤ w'.heap.size) : IsErr w' lo f v := by
  rcases h with h | h | ⟨h0, h1, nb, h2, h3, h4, h5, h6⟩
  · exact .inl h
  · exact .inr (.inl h)
  · exact .inr (.inr ⟨h0, h1, nb, h2, Nat.lt_of_lt_of_le h3 hs, h4, (World.cell?_of_block (w := w) (hh nb h2)).trans h5, (World.cell?_of_block (w := w) (hh nb h2)).trans h6⟩)
end Go.Proofs.YtaablbmgagiajabGreatDoor
