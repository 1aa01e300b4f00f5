/- What is said, as it is handed in. -/
import Derived.Test.YtbiacknbaefccaaDoorFrOpen
import Derived.Test.YtbiacknbaefccaaDoorVtWalk
import Derived.Deep.SlicePairs
namespace Go.Proofs.YtbiacknbaefccaaDoor
open Go.ChangeShapes Go.WideShapes Go.RowKit Go.Deep

section
variable {H : Type} {enc : TypeId × Value → H} {W : World} {base : Nat} {spare : Nat → Bool} {held : Bool}
set_option maxRecDepth 10000 in
theorem frame_of_trod {cs : Array Value} {fuel : Nat} {x : DataW H × List MemPlace} (hsz : cs.size = 23) (hf : DataW.trod enc Tryd.prog W base spare held fuel 63 cs.toList = some x) : cs = fCells (numAt cs) := by
  have c17 : Tryd.prog.cellsOf 49 = 17 := by kernel_rfl
  have c2 : Tryd.prog.cellsOf 26 = 2 := by kernel_rfl
  have c8 : Tryd.prog.cellsOf 47 = 8 := by kernel_rfl
  have c1 : Tryd.prog.cellsOf 3 = 1 := by kernel_rfl
  obtain ⟨xs, n, _, _, _, hlen, hx⟩ := DataW.trod_struct Tryd.underlying63 hf
  have hl6 : xs.length = 6 := hlen
  obtain ⟨y0, y1, y2, y3, y4, y5, rfl⟩ := six hl6
  have h0 : DataW.trod enc Tryd.prog W base spare held n 3 ((cs.toList.drop 0).take (Tryd.prog.cellsOf 3)) = some y0 := hx 0 _ rfl
  have h1 : DataW.trod enc Tryd.prog W base spare held n 3 ((cs.toList.drop 1).take (Tryd.prog.cellsOf 3)) = some y1 := hx 1 _ rfl
  have h2 : DataW.trod enc Tryd.prog W base spare held n 3 ((cs.toList.drop 2).take (Tryd.prog.cellsOf 3)) = some y2 := hx 2 _ rfl
  have h3 : DataW.trod enc Tryd.prog W base spare held n 26 ((cs.toList.drop 3).take (Tryd.prog.cellsOf 26)) = some y3 := hx 3 _ rfl
  have h4 : DataW.trod enc Tryd.prog W base spare held n 3 ((cs.toList.drop 5).take (Tryd.prog.cellsOf 3)) = some y4 := hx 4 _ rfl
  have h5 : DataW.trod enc Tryd.prog W base spare held n 49 ((cs.toList.drop 6).take (Tryd.prog.cellsOf 49)) = some y5 := hx 5 _ rfl
  clear hx
  rw [c1] at h0 h1 h2 h4
  rw [c2] at h3
  rw [c17] at h5
  obtain ⟨xi, ni, _, _, _, hleni, hxi⟩ := DataW.trod_struct Tryd.underlying26 h3
  have hl2 : xi.length = 2 := hleni
  obtain ⟨i0, i1, rfl⟩ := two hl2
  have g0 : DataW.trod enc Tryd.prog W base spare held ni 3 ((((cs.toList.drop 3).take 2).drop 0).take (Tryd.prog.cellsOf 3)) = some i0 := hxi 0 _ rfl
  have g1 : DataW.trod enc Tryd.prog W base spare held ni 3 ((((cs.toList.drop 3).take 2).drop 1).take (Tryd.prog.cellsOf 3)) = some i1 := hxi 1 _ rfl
  rw [c1, cut_mid _ _ _ _ _ (by omega)] at g0 g1
  clear hxi
  obtain ⟨xt, nt, _, _, _, hlent, hxt⟩ := DataW.trod_struct Tryd.underlying49 h5
  have hl3 : xt.length = 3 := hlent
  obtain ⟨s0, s1, s2, rfl⟩ := three hl3
  have q0 : DataW.trod enc Tryd.prog W base spare held nt 3 ((((cs.toList.drop 6).take 17).drop 0).take (Tryd.prog.cellsOf 3)) = some s0 := hxt 0 _ rfl
  have q1 : DataW.trod enc Tryd.prog W base spare held nt 47 ((((cs.toList.drop 6).take 17).drop 1).take (Tryd.prog.cellsOf 47)) = some s1 := hxt 1 _ rfl
  have q2 : DataW.trod enc Tryd.prog W base spare held nt 47 ((((cs.toList.drop 6).take 17).drop 9).take (Tryd.prog.cellsOf 47)) = some s2 := hxt 2 _ rfl
  rw [c1, cut_mid _ _ _ _ _ (by omega)] at q0
  rw [c8, cut_mid _ _ _ _ _ (by omega)] at q1 q2
  clear hxt
  refine fOf_cells cs hsz fun i hi => ?_
  rcases (by omega : i = 0 ∨ i = 1 ∨ i = 2 ∨ i = 3 ∨ i = 4 ∨ i = 5 ∨ i = 6 ∨ (7 ≤ i ∧ i < 15) ∨ 15 ≤ i) with rfl | rfl | rfl | rfl | rfl | rfl | rfl | hj | hj
  · exact int_at h0
  · exact int_at h1
  · exact int_at h2
  · exact int_at g0
  · exact int_at g1
  · exact int_at h4
  · exact int_at q0
  · have := ints_at8 q1 (i - 7) (by omega)
    rwa [show 6 + 1 + (i - 7) = i by omega] at this
  · have := ints_at8 q2 (i - 15) (by omega)
    rwa [show 6 + 9 + (i - 15) = i by omega] at this

theorem open_says {a : Option Addr} {len cap : Nat} {fuel : Nat} {x : DataW H × List MemPlace} (hf : DataW.trod enc Tryd.prog W base spare held fuel 86 [.slice a len cap] = some x) : len ≤ maxLen ∧ SayAt W a len := by
  have c24 : Tryd.prog.cellsOf 100 = 24 := by kernel_rfl
  have c23 : Tryd.prog.cellsOf 63 = 23 := by kernel_rfl
  have c1 : Tryd.prog.cellsOf 3 = 1 := by kernel_rfl
  rcases open_slice Tryd.underlying86 hf with ⟨hcs, _⟩ | ⟨ad, l, c, m, n, D, Pl, hcs, hb, hl, hm, hmm, _, hx⟩
  · simp at hcs
    obtain ⟨rfl, rfl, rfl⟩ := hcs
    exact ⟨by unfold maxLen; omega, fun i hi => by omega⟩
  · simp at hcs
    obtain ⟨rfl, rfl, rfl⟩ := hcs
    refine ⟨by omega, fun i hi => ?_⟩
    have each : ∀ j, j < len → ∃ cs : List Value, cs.length = 24 ∧ (∀ k, k < 24 → W.cell? (ad.add (j * 24 + k)) = cs[k]?) ∧ ∃ z : Int, ∃ F : FR, cs = .int .i64 z :: (fCells F).toList := fun j hj => by
      obtain ⟨cs, e1, e2⟩ := hx j (by rw [hmm]; split <;> omega)
      rw [c24] at e1
      obtain ⟨_, hlen, hcell⟩ := World.cells?_some e1
      obtain ⟨xs, k, _, _, _, hxl, hfi⟩ := DataW.trod_struct Tryd.underlying100 e2
      have hl2 : xs.length = 2 := hxl
      obtain ⟨y0, y1, rfl⟩ := two hl2
      have g0 : DataW.trod enc Tryd.prog W base spare held k 3 ((cs.drop 0).take (Tryd.prog.cellsOf 3)) = some y0 := hfi 0 _ rfl
      have g1 : DataW.trod enc Tryd.prog W base spare held k 63 ((cs.drop 1).take (Tryd.prog.cellsOf 63)) = some y1 := hfi 1 _ rfl
      rw [c1] at g0
      rw [c23] at g1
      obtain ⟨z, ez, _, _⟩ := DataW.trod_int Tryd.underlying3 g0
      have h23 : ((cs.drop 1).take 23).toArray.size = 23 := by simp; omega
      have hfr := frame_of_trod (cs := ((cs.drop 1).take 23).toArray) h23 (by simpa using g1)
      refine ⟨cs, hlen, fun k hk => by rw [← hcell k hk, add_add], z, numAt ((cs.drop 1).take 23).toArray, ?_⟩
      have hd : cs = (cs.drop 0).take 1 ++ (cs.drop 1).take 23 := by
        rw [List.drop_zero, List.take_of_length_le (l := cs.drop 1) (by rw [List.length_drop]; omega), List.take_append_drop]
      have e3 : (cs.drop 1).take 23 = (fCells (numAt ((cs.drop 1).take 23).toArray)).toList := by
        have := congrArg Array.toList hfr
        simpa using this
      conv => lhs; rw [hd, ez]
      rw [← e3]
      rfl
    obtain ⟨cs, hlen, hcell, z, F, rfl⟩ := each i hi
    obtain ⟨cs0, hlen0, hcell0, z0, F0, rfl⟩ := each 0 (by omega)
    obtain ⟨b, off, spot⟩ := ad
    have hspot : spot = none := by
      have := hcell0 0 (by omega)
      simpa [Addr.add] using World.cell?_spot this
    subst hspot
    have hc : ∀ k, k < 24 → W.cell? ⟨b, off + (i * 24 + k), none⟩ = (Value.int .i64 z :: (fCells F).toList)[k]? := fun k hk => by rw [← hcell k hk, add_plain]
    refine ⟨b, off, z, F, rfl, World.block_lt_of_cell? _ _ (hc 0 (by omega)), hc 0 (by omega), fun j v hv => ?_⟩
    have hj : j < 23 := by have := (List.getElem?_eq_some_iff.1 hv).1; simpa [fCells_size] using this
    have := hc (j + 1) (by omega)
    rw [List.getElem?_cons_succ, hv] at this
    rw [show off + i * 24 + 1 + j = off + (i * 24 + (j + 1)) by omega]
    exact this
end
/-- The walk, whatever is handed in. -/
theorem vplays_any (x many : Int) (al : Option Addr) (ll cl : Nat) (w : World) (hm : ll ≤ maxLen) (hs : SayAt w al ll) (hg : HasErrT w) :
    Calls Tryd.prog 9 #[.int .i64 x, .slice al ll cl, .int .i64 many] w fun e w' => e = .returned (.bool true) ∧ Below w.heap.size w w' := by
  by_cases hl : 120 < ll
  · exact vplays_many x many al ll cl w hl hm
  · by_cases hb : x < 1 ∨ 20 < x
    · exact vplays_bad x many al ll cl w (by omega) hb hg
    · obtain ⟨win, rfl⟩ := Int.eq_ofNat_of_zero_le (show 0 ≤ x by omega)
      exact vplays_ok win many al ll cl w (by omega) (by omega) (by omega) hs
end Go.Proofs.YtbiacknbaefccaaDoor
