import Derived.Deep.RegionWith
import Derived.WalkSmall
import Derived.Test.YtaablbmgagiajabGreatDoorQMost
namespace Go.Proofs.YtaablbmgagiajabGreatDoor
open Go.RowKit Go.Deep
theorem IsErr.bad {w' : World} {lo : Nat} {f : Nat × Int} {v : Value} (h : IsErr w' lo f v) (hf : f ≠ (0, -1)) : ∃ t x, v = .iface t x ∧ (t = 74 ∨ t = 161) := by
  rcases h with ⟨h, _⟩ | ⟨_, _, h⟩ | ⟨_, _, nb, _, _, h, _⟩
  · exact absurd h hf
  · exact ⟨_, _, h, .inl rfl⟩
  · exact ⟨_, _, h, .inr rfl⟩
theorem IsErr.lower {w : World} {lo lo' : Nat} {f : Nat × Int} {v : Value} (h : IsErr w lo f v) (hl : lo' ≤ lo) : IsErr w lo' f v := by
  rcases h with h | h | ⟨h0, h1, nb, h2, h3⟩
  · exact .inl h
  · exact .inr (.inl h)
  · exact .inr (.inr ⟨h0, h1, nb, Nat.le_trans hl h2, h3⟩)
theorem IsErr.other {w w' : World} {lo : Nat} {f : Nat × Int} {v : Value} (h : IsErr w lo f v) (hh : ∀ k, lo ≤ k → w'.heap[k]? = w.heap[k]?) (hs : w.heap.size ≤ w'.heap.size) : IsErr w' lo f v := by
  rcases h with h | h | ⟨h0, h1, nb, h2, h3, h4, h5, h6⟩
  · exact .inl h
  · exact .inr (.inl h)
  · exact .inr (.inr ⟨h0, h1, nb, h2, Nat.lt_of_lt_of_le h3 hs, h4, (World.cell?_of_block (w := w) (hh nb h2)).trans h5, (World.cell?_of_block (w := w) (hh nb h2)).trans h6⟩)
set_option maxHeartbeats 1000000 in
theorem conf_bad (s d : Int) (a : Option Addr) (len cap : Nat) (zs : List Int) (w : World) (h : IsSl w a len cap zs) (hbad : checkF s zs d ≠ (0, -1)) :
    Calls Tryz.prog 178 #[.agg #[.int .i64 s, .slice a len cap, .int .i64 d]] w fun e w' => (∃ v, e = .returned (.tuple #[.slice none 0 0, v]) ∧ IsErr w' w.heap.size (checkF s zs d) v) ∧ Below w.heap.size w w' := by
  have hB0 : Below w.heap.size w (w.alloc (.cells #[.int .i64 s, .slice a len cap, .int .i64 d] 42)) := (Below.refl _ _).alloc (Nat.le_refl _) _
  have hck := check_any s d a len cap zs _ (h.below hB0)
  have HCK := hide hck
  have HBAD := hide hbad
  clear hck hbad
  go_enter Tryz.func178, Tryz.ntmps178
  go_wp2_with fail
  refine HCK.out.mono ?_
  rintro e w1 ⟨⟨v, rfl, hv⟩, hB⟩
  have hv' : IsErr w1 w.heap.size (checkF s zs d) v := hv.lower (by simp)
  have HV := hide hv'
  have HB := hide (hB0.trans (hB.mono (by simp)))
  obtain ⟨t, x, rfl, _⟩ := hv.bad HBAD.out
  clear hv hv' hB hB0 HCK
  go_wp2
  go_ret2
  exact ⟨⟨_, rfl, HV.out⟩, HB.out⟩
end Go.Proofs.YtaablbmgagiajabGreatDoor
