/- A frame that is handed in is 23 numbers. -/
import Derived.Test.YtbiacknbaefccaaDoorFrF
import Derived.OpenShut
import Derived.ChangeSame
import Derived.ChangeArms
import Derived.WideShapes
namespace Go.Proofs.YtbiacknbaefccaaDoor
open Go.ChangeShapes Go.WideShapes Go.RowKit

/-- The number that a list of cells holds at a place. -/
def numAt (cs : Array Value) (i : Nat) : Int :=
  match cs[i]? with
  | some (.int _ z) => z
  | _ => 0
theorem fOf_cells (cs : Array Value) (hs : cs.size = 23) (h : ∀ i, i < 23 → ∃ z : Int, cs[i]? = some (.int .i64 z)) : cs = fCells (numAt cs) := by
  apply Array.ext_getElem?
  intro i
  by_cases hi : i < 23
  · obtain ⟨z, hz⟩ := h i hi
    rw [fCells_at _ i hi, hz]
    unfold numAt
    rw [hz]
  · rw [Array.getElem?_eq_none (by omega), Array.getElem?_eq_none (by rw [fCells_size]; omega)]

theorem cut_mid (l : List Value) (a b k n : Nat) (hk : k + n ≤ b) : ((((l.drop a).take b).drop k).take n) = (l.drop (a + k)).take n := by
  rw [List.drop_take, List.drop_drop, List.take_take, show min n (b - k) = n by omega]

section
variable {H : Type} {enc : TypeId × Value → H} {W : World} {base : Nat} {spare : Nat → Bool} {held : Bool}
theorem one_at {cs : Array Value} {i : Nat} {z : Int} (h : (cs.toList.drop i).take 1 = [.int .i64 z]) : cs[i]? = some (.int .i64 z) := by
  have := congrArg (fun l => l[0]?) h
  simpa [List.getElem?_take, List.getElem?_drop] using this
theorem int_at {cs : Array Value} {fuel i : Nat} {y : DataW H × List MemPlace} (h : DataW.trod enc Tryd.prog W base spare held fuel 3 ((cs.toList.drop i).take 1) = some y) : ∃ z : Int, cs[i]? = some (.int .i64 z) := by
  obtain ⟨z, e, _, _⟩ := DataW.trod_int Tryd.underlying3 h
  exact ⟨z, one_at e⟩
theorem ints_at8 {cs : Array Value} {fuel i : Nat} {y : DataW H × List MemPlace} (h : DataW.trod enc Tryd.prog W base spare held fuel 47 ((cs.toList.drop i).take 8) = some y) (k : Nat) (hk : k < 8) : ∃ z : Int, cs[i + k]? = some (.int .i64 z) := by
  have c1 : Tryd.prog.cellsOf 3 = 1 := by kernel_rfl
  obtain ⟨ys, m, _, _, _, hy, hz⟩ := DataW.trod_array Tryd.underlying47 h
  have hk' := hz k (by omega)
  obtain ⟨y, hy'⟩ : ∃ y, ys[k]? = some y := ⟨_, List.getElem?_eq_getElem (by omega)⟩
  rw [hy', c1, Nat.mul_one, cut_mid _ _ _ _ _ (by omega)] at hk'
  exact int_at hk'
end

set_option maxRecDepth 10000 in
theorem open_frame {H : Type} {enc : TypeId × Value → H} {W : World} {base b0 : Nat} {spare : Nat → Bool} {held : Bool} {r : Reach} {v : Value} {d : DataW H} {p : List MemPlace} (hv : Value.okWide Tryd.prog W r b0 63 v)
    (h : DataW.Trod enc Tryd.prog W base spare held 63 v d p) : ∃ F : FR, v = .agg (fCells F) := by
  have c23 : Tryd.prog.cellsOf 63 = 23 := by kernel_rfl
  have c17 : Tryd.prog.cellsOf 49 = 17 := by kernel_rfl
  have c2 : Tryd.prog.cellsOf 26 = 2 := by kernel_rfl
  have c8 : Tryd.prog.cellsOf 47 = 8 := by kernel_rfl
  have c1 : Tryd.prog.cellsOf 3 = 1 := by kernel_rfl
  obtain ⟨cs, rfl, hsz⟩ := okWide_struct Tryd.underlying63 hv
  rw [c23] at hsz
  obtain ⟨fuel, hf⟩ := h
  obtain ⟨xs, n, _, _, _, hlen, hx⟩ := DataW.trod_struct Tryd.underlying63 hf
  have hl6 : xs.length = 6 := hlen
  obtain ⟨y0, y1, y2, y3, y4, y5, rfl⟩ := six hl6
  have h0 : DataW.trod enc Tryd.prog W base spare held n 3 ((cs.toList.drop 0).take (Tryd.prog.cellsOf 3)) = some y0 := hx 0 _ rfl
  have h1 : DataW.trod enc Tryd.prog W base spare held n 3 ((cs.toList.drop 1).take (Tryd.prog.cellsOf 3)) = some y1 := hx 1 _ rfl
  have h2 : DataW.trod enc Tryd.prog W base spare held n 3 ((cs.toList.drop 2).take (Tryd.prog.cellsOf 3)) = some y2 := hx 2 _ rfl
  have h3 : DataW.trod enc Tryd.prog W base spare held n 26 ((cs.toList.drop 3).take (Tryd.prog.cellsOf 26)) = some y3 := hx 3 _ rfl
  have h4 : DataW.trod enc Tryd.prog W base spare held n 3 ((cs.toList.drop 5).take (Tryd.prog.cellsOf 3)) = some y4 := hx 4 _ rfl
  have h5 : DataW.trod enc Tryd.prog W base spare held n 49 ((cs.toList.drop 6).take (Tryd.prog.cellsOf 49)) = some y5 := hx 5 _ rfl
  clear hx
  rw [c1] at h0 h1 h2 h4
  rw [c2] at h3
  rw [c17] at h5
  obtain ⟨xi, ni, _, _, _, hleni, hxi⟩ := DataW.trod_struct Tryd.underlying26 h3
  have hl2 : xi.length = 2 := hleni
  obtain ⟨i0, i1, rfl⟩ := two hl2
  have g0 : DataW.trod enc Tryd.prog W base spare held ni 3 ((((cs.toList.drop 3).take 2).drop 0).take (Tryd.prog.cellsOf 3)) = some i0 := hxi 0 _ rfl
  have g1 : DataW.trod enc Tryd.prog W base spare held ni 3 ((((cs.toList.drop 3).take 2).drop 1).take (Tryd.prog.cellsOf 3)) = some i1 := hxi 1 _ rfl
  rw [c1, cut_mid _ _ _ _ _ (by omega)] at g0 g1
  clear hxi
  obtain ⟨xt, nt, _, _, _, hlent, hxt⟩ := DataW.trod_struct Tryd.underlying49 h5
  have hl3 : xt.length = 3 := hlent
  obtain ⟨s0, s1, s2, rfl⟩ := three hl3
  have q0 : DataW.trod enc Tryd.prog W base spare held nt 3 ((((cs.toList.drop 6).take 17).drop 0).take (Tryd.prog.cellsOf 3)) = some s0 := hxt 0 _ rfl
  have q1 : DataW.trod enc Tryd.prog W base spare held nt 47 ((((cs.toList.drop 6).take 17).drop 1).take (Tryd.prog.cellsOf 47)) = some s1 := hxt 1 _ rfl
  have q2 : DataW.trod enc Tryd.prog W base spare held nt 47 ((((cs.toList.drop 6).take 17).drop 9).take (Tryd.prog.cellsOf 47)) = some s2 := hxt 2 _ rfl
  rw [c1, cut_mid _ _ _ _ _ (by omega)] at q0
  rw [c8, cut_mid _ _ _ _ _ (by omega)] at q1 q2
  clear hxt
  refine ⟨numAt cs, congrArg _ (fOf_cells cs hsz fun i hi => ?_)⟩
  rcases (by omega : i = 0 ∨ i = 1 ∨ i = 2 ∨ i = 3 ∨ i = 4 ∨ i = 5 ∨ i = 6 ∨ (7 ≤ i ∧ i < 15) ∨ 15 ≤ i) with rfl | rfl | rfl | rfl | rfl | rfl | rfl | hj | hj
  · exact int_at h0
  · exact int_at h1
  · exact int_at h2
  · exact int_at g0
  · exact int_at g1
  · exact int_at h4
  · exact int_at q0
  · have := ints_at8 q1 (i - 7) (by omega)
    rwa [show 6 + 1 + (i - 7) = i by omega] at this
  · have := ints_at8 q2 (i - 15) (by omega)
    rwa [show 6 + 9 + (i - 15) = i by omega] at this
end Go.Proofs.YtbiacknbaefccaaDoor
