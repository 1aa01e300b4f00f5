/- The contracts of layout.Fit, and of layout's functions at a layout with which something is wrong. -/
import Derived.Test.YtaablbmgagiajabGreatDoorMost
import Derived.Deep.RegionWith
import Derived.WalkSmall
namespace Go.Proofs.YtaablbmgagiajabGreatDoor
open Go.RowKit Go.Deep

theorem IsErr.bad {w' : World} {lo : Nat} {f : Nat × Int} {v : Value} (h : IsErr w' lo f v) (hf : f ≠ (0, -1)) : ∃ t x, v = .iface t x ∧ (t = 74 ∨ t = 161) := by
  rcases h with ⟨h, _⟩ | ⟨_, _, h⟩ | ⟨_, _, nb, _, _, h, _⟩
  · exact absurd h hf
  · exact ⟨_, _, h, .inl rfl⟩
  · exact ⟨_, _, h, .inr rfl⟩

theorem IsErr.lower {w : World} {lo lo' : Nat} {f : Nat × Int} {v : Value} (h : IsErr w lo f v) (hl : lo' ≤ lo) : IsErr w lo' f v := by
  rcases h with h | h | ⟨h0, h1, nb, h2, h3⟩
  · exact .inl h
  · exact .inr (.inl h)
  · exact .inr (.inr ⟨h0, h1, nb, Nat.le_trans hl h2, h3⟩)
theorem IsErr.other {w w' : World} {lo : Nat} {f : Nat × Int} {v : Value} (h : IsErr w lo f v) (hh : ∀ k, lo ≤ k → w'.heap[k]? = w.heap[k]?) (hs : w.heap.size ≤ w'.heap.size) : IsErr w' lo f v := by
  rcases h with h | h | ⟨h0, h1, nb, h2, h3, h4, h5, h6⟩
  · exact .inl h
  · exact .inr (.inl h)
  · exact .inr (.inr ⟨h0, h1, nb, h2, Nat.lt_of_lt_of_le h3 hs, h4, (World.cell?_of_block (w := w) (hh nb h2)).trans h5, (World.cell?_of_block (w := w) (hh nb h2)).trans h6⟩)

set_option maxHeartbeats 1000000 in
theorem conf_bad (s d : Int) (a : Option Addr) (len cap : Nat) (zs : List Int) (w : World) (h : IsSl w a len cap zs) (hbad : checkF s zs d ≠ (0, -1)) :
    Calls Tryz.prog 178 #[.agg #[.int .i64 s, .slice a len cap, .int .i64 d]] w fun e w' => (∃ v, e = .returned (.tuple #[.slice none 0 0, v]) ∧ IsErr w' w.heap.size (checkF s zs d) v) ∧ Below w.heap.size w w' := by
  have hB0 : Below w.heap.size w (w.alloc (.cells #[.int .i64 s, .slice a len cap, .int .i64 d] 42)) := (Below.refl _ _).alloc (Nat.le_refl _) _
  have hck := check_any s d a len cap zs _ (h.below hB0)
  have HCK := hide hck
  have HBAD := hide hbad
  clear hck hbad
  go_enter Tryz.func178, Tryz.ntmps178
  go_wp2_with fail
  refine HCK.out.mono ?_
  rintro e w1 ⟨⟨v, rfl, hv⟩, hB⟩
  have hv' : IsErr w1 w.heap.size (checkF s zs d) v := hv.lower (by simp)
  have HV := hide hv'
  have HB := hide (hB0.trans (hB.mono (by simp)))
  obtain ⟨t, x, rfl, _⟩ := hv.bad HBAD.out
  clear hv hv' hB hB0 HCK
  go_wp2
  go_ret2
  exact ⟨⟨_, rfl, HV.out⟩, HB.out⟩

set_option maxHeartbeats 1000000 in
theorem most_bad (s d : Int) (a : Option Addr) (len cap : Nat) (zs : List Int) (w : World) (h : IsSl w a len cap zs) (hbad : checkF s zs d ≠ (0, -1)) :
    Calls Tryz.prog 184 #[.agg #[.int .i64 s, .slice a len cap, .int .i64 d]] w fun e w' => (∃ v, e = .returned (.tuple #[.int .i64 0, v]) ∧ IsErr w' w.heap.size (checkF s zs d) v) ∧ Below w.heap.size w w' := by
  have hB0 : Below w.heap.size w (w.alloc (.cells #[.int .i64 s, .slice a len cap, .int .i64 d] 42)) := (Below.refl _ _).alloc (Nat.le_refl _) _
  have hck := conf_bad s d a len cap zs _ (h.below hB0) hbad
  have HCK := hide hck
  have HBAD := hide hbad
  clear hck hbad
  go_enter Tryz.func184, Tryz.ntmps184
  go_wp2_with fail
  refine HCK.out.mono ?_
  rintro e w1 ⟨⟨v, rfl, hv⟩, hB⟩
  have hv' : IsErr w1 w.heap.size (checkF s zs d) v := hv.lower (by simp)
  have HV := hide hv'
  have HB := hide (hB0.trans (hB.mono (by simp)))
  obtain ⟨t, x, rfl, _⟩ := hv.bad HBAD.out
  clear hv hv' hB hB0 HCK
  go_wp2
  go_ret2
  exact ⟨⟨_, rfl, HV.out⟩, HB.out⟩

set_option maxHeartbeats 2000000 in
theorem fit_bad (s d x0 x1 : Int) (a : Option Addr) (len cap : Nat) (zs : List Int) (w : World) (h : IsSl w a len cap zs) (hbad : checkF s zs d ≠ (0, -1)) :
    Calls Tryz.prog 19 #[.agg #[.int .i64 s, .slice a len cap, .int .i64 d], .agg #[.int .i64 x0, .int .i64 x1]] w fun e w' => (∃ v, e = .returned (.tuple #[.agg #[.int .i64 0, .int .i64 0], v]) ∧ IsErr w' w.heap.size (checkF s zs d) v) ∧ Below w.heap.size w w' := by
  have hB0 : Below w.heap.size w (((w.alloc (.cells #[.int .i64 s, .slice a len cap, .int .i64 d] 42)).alloc (.cells #[.int .i64 x0, .int .i64 x1] 31)).alloc (.cells #[.int .i64 0, .int .i64 0] 31)) := (((Below.refl _ _).alloc (Nat.le_refl _) _).alloc (by simp) _).alloc (by simp; omega) _
  have hck := check_any s d a len cap zs _ (h.below hB0)
  have HCK := hide hck
  have HBAD := hide hbad
  clear hck hbad
  go_enter Tryz.func19, Tryz.ntmps19
  go_wp2_with fail
  refine HCK.out.mono ?_
  rintro e w1 ⟨⟨v, rfl, hv⟩, hB⟩
  have hsz : w.heap.size + 3 ≤ w1.heap.size := by have := hB.size; simp at this; omega
  have hbx : ∀ i, w1.cell? ⟨w.heap.size + 2, i, none⟩ = (#[.int .i64 0, .int .i64 0] : Array Value)[i]? := fun i => (hB.cell (p := ⟨w.heap.size + 2, i, none⟩) (by simp)).trans (World.cell?_alloc_at _ _ _ _ (by simp))
  have c0 : w1.cell? ⟨w.heap.size + 2, 0, none⟩ = some (.int .i64 0) := hbx 0
  have c1 : w1.cell? ⟨w.heap.size + 2, 1, none⟩ = some (.int .i64 0) := hbx 1
  have hfz : ∀ i, w1.frozen? ⟨w.heap.size + 2, i, none⟩ = false := fun i => (hB.frozen (p := ⟨w.heap.size + 2, i, none⟩) (by simp)).trans (World.frozen?_alloc_at _ _ _ _ (by simp))
  have f0 := hfz 0
  have f1 := hfz 1
  have hv' : IsErr w1 (w.heap.size + 3) (checkF s zs d) v := hv.lower (by simp)
  have HV := hide hv'
  have HB := hide (hB0.trans (hB.mono (by simp; omega)))
  obtain ⟨t, x, rfl, _⟩ := hv.bad HBAD.out
  clear hv hv' hB hB0 HCK hfz hbx
  go_wp2
  refine bodyPost_ret (v := .tuple #[.agg #[.int .i64 0, .int .i64 0], .iface t x]) (by simp [results, Tryz.results19, go_sem, c0, c1]) rfl ⟨⟨_, rfl, ?_⟩, ?_⟩
  · have h1 : ∀ k, w.heap.size + 3 ≤ k → ((w1.setCell ⟨w.heap.size + 2, 0, none⟩ (.int .i64 0)).setCell ⟨w.heap.size + 2, 1, none⟩ (.int .i64 0)).heap[k]? = w1.heap[k]? := fun k hk => by
      rw [Below.heap_setCell _ _ _ _ (by show k ≠ w.heap.size + 2; omega), Below.heap_setCell _ _ _ _ (by show k ≠ w.heap.size + 2; omega)]
    exact (HV.out.other h1 (by simp [World.setCell])).lower (by omega)
  · exact (HB.out.setCell (by show w.heap.size ≤ w.heap.size + 2; omega) _).setCell (by show w.heap.size ≤ w.heap.size + 2; omega) _

end Go.Proofs.YtaablbmgagiajabGreatDoor
