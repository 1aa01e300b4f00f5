import Derived.Test.YtpkfgpagkgmpcaaDoorRefLoad
import Derived.OpenShut
import Derived.ChangeSame
import Derived.ChangeArms
import Derived.WideShapes
namespace Go.Proofs.YtpkfgpagkgmpcaaDoor
open Go.ChangeShapes Go.WideShapes

/-- The number that a list of cells holds at a place. -/
def numAt (cs : Array Value) (i : Nat) : Int :=
  match cs[i]? with
  | some (.int _ z) => z
  | _ => 0
def gOf (cs : Array Value) : GS := ⟨numAt cs 0, fun k => if k < 8 then numAt cs (1 + k) else 0, fun k => if k < 8 then numAt cs (9 + k) else 0⟩

/-- A list of 17 numbers is a state's. -/
theorem gOf_cells (cs : Array Value) (hs : cs.size = 17) (h : ∀ i, i < 17 → cs[i]? = some (.int .i64 (numAt cs i))) : cs = gCells (gOf cs) := by
  apply Array.ext_getElem?
  intro i
  by_cases hi : i < 17
  · rw [h i hi]
    by_cases h0 : i = 0
    · subst h0; rfl
    · by_cases h9 : i < 9
      · obtain ⟨k, rfl⟩ : ∃ k, i = 1 + k := ⟨i - 1, by omega⟩
        rw [gCells_used _ k (by omega)]
        show _ = some (Value.int .i64 (if k < 8 then numAt cs (1 + k) else 0))
        rw [if_pos (by omega)]
      · obtain ⟨k, rfl⟩ : ∃ k, i = 9 + k := ⟨i - 9, by omega⟩
        rw [gCells_idle _ k (by omega)]
        show _ = some (Value.int .i64 (if k < 8 then numAt cs (9 + k) else 0))
        rw [if_pos (by omega)]
  · rw [Array.getElem?_eq_none (by omega), Array.getElem?_eq_none (by show 17 ≤ i; omega)]

theorem cut_one (l : List Value) (a b k : Nat) (hk : k < b) : ((((l.drop a).take b).drop (k * 1)).take 1) = (l.drop (a + k)).take 1 := by
  rw [Nat.mul_one, List.drop_take, List.drop_drop, List.take_take, show min 1 (b - k) = 1 by omega]

set_option maxRecDepth 10000 in
/-- A state that is handed in is 17 numbers. -/
theorem open_state {H : Type} {enc : TypeId × Value → H} {W : World} {base b0 : Nat} {spare : Nat → Bool} {held : Bool} {r : Reach} {v : Value} {d : DataW H} {p : List MemPlace} (hv : Value.okWide Tryd.prog W r b0 49 v)
    (h : DataW.Trod enc Tryd.prog W base spare held 49 v d p) : ∃ G : GS, GIn G ∧ (∀ k, 8 ≤ k → G.used k = 0 ∧ G.idle k = 0) ∧ v = .agg (gCells G) := by
  have c17 : Tryd.prog.cellsOf 49 = 17 := by kernel_rfl
  have c8 : Tryd.prog.cellsOf 47 = 8 := by kernel_rfl
  have c1 : Tryd.prog.cellsOf 3 = 1 := by kernel_rfl
  obtain ⟨cs, rfl, hsz⟩ := okWide_struct Tryd.underlying49 hv
  rw [c17] at hsz
  obtain ⟨fuel, hf⟩ := h
  obtain ⟨xs, n, _, _, _, hlen, hx⟩ := DataW.trod_struct Tryd.underlying49 hf
  have hl3 : xs.length = 3 := hlen
  obtain ⟨y0, y1, y2, rfl⟩ : ∃ y0 y1 y2, xs = [y0, y1, y2] := by
    match xs, hl3 with
    | [y0, y1, y2], _ => exact ⟨y0, y1, y2, rfl⟩
  have h0 : DataW.trod enc Tryd.prog W base spare held n 3 ((cs.toList.drop 0).take (Tryd.prog.cellsOf 3)) = some y0 := hx 0 _ rfl
  have h1 : DataW.trod enc Tryd.prog W base spare held n 47 ((cs.toList.drop 1).take (Tryd.prog.cellsOf 47)) = some y1 := hx 1 _ rfl
  have h2 : DataW.trod enc Tryd.prog W base spare held n 47 ((cs.toList.drop 9).take (Tryd.prog.cellsOf 47)) = some y2 := hx 2 _ rfl
  clear hx
  rw [c1] at h0
  rw [c8] at h1 h2
  have one : ∀ (i : Nat), i < 17 → ∀ z : Int, (cs.toList.drop i).take 1 = [.int .i64 z] → cs[i]? = some (.int .i64 z) := fun i hi z hz => by
    have := congrArg (fun l => l[0]?) hz
    simpa [List.getElem?_take, List.getElem?_drop] using this
  have each : ∀ i, i < 17 → ∃ z : Int, cs[i]? = some (.int .i64 z) ∧ -9223372036854775808 ≤ z ∧ z ≤ 9223372036854775807 := fun i hi => by
    by_cases hi0 : i = 0
    · subst hi0
      obtain ⟨z, e, _, wz⟩ := DataW.trod_int Tryd.underlying3 h0
      exact ⟨z, one 0 hi z e, bounds_i64 wz⟩
    · by_cases hi8 : i < 9
      · obtain ⟨ys, m, _, _, _, hy, hz⟩ := DataW.trod_array Tryd.underlying47 h1
        have hk := hz (i - 1) (by omega)
        obtain ⟨y, hy'⟩ : ∃ y, ys[i - 1]? = some y := ⟨_, List.getElem?_eq_getElem (by omega)⟩
        rw [hy', c1, cut_one _ _ _ _ (by omega)] at hk
        obtain ⟨z, e, _, wz⟩ := DataW.trod_int Tryd.underlying3 hk
        exact ⟨z, one i hi z (by rw [← e, show 1 + (i - 1) = i by omega]), bounds_i64 wz⟩
      · obtain ⟨ys, m, _, _, _, hy, hz⟩ := DataW.trod_array Tryd.underlying47 h2
        have hk := hz (i - 9) (by omega)
        obtain ⟨y, hy'⟩ : ∃ y, ys[i - 9]? = some y := ⟨_, List.getElem?_eq_getElem (by omega)⟩
        rw [hy', c1, cut_one _ _ _ _ (by omega)] at hk
        obtain ⟨z, e, _, wz⟩ := DataW.trod_int Tryd.underlying3 hk
        exact ⟨z, one i hi z (by rw [← e, show 9 + (i - 9) = i by omega]), bounds_i64 wz⟩
  have num : ∀ i, i < 17 → cs[i]? = some (.int .i64 (numAt cs i)) ∧ -9223372036854775808 ≤ numAt cs i ∧ numAt cs i < 9223372036854775808 := fun i hi => by
    obtain ⟨z, e, b1, b2⟩ := each i hi
    have : numAt cs i = z := by unfold numAt; rw [e]
    rw [this]
    exact ⟨e, b1, by omega⟩
  refine ⟨gOf cs, ⟨(num 0 (by omega)).2, fun k => ?_, fun k => ?_⟩, fun k hk => ?_, congrArg _ (gOf_cells cs hsz fun i hi => (num i hi).1)⟩
  · show _ ≤ (if k < 8 then numAt cs (1 + k) else 0) ∧ (if k < 8 then numAt cs (1 + k) else 0) < _
    split
    · exact (num (1 + k) (by omega)).2
    · omega
  · show _ ≤ (if k < 8 then numAt cs (9 + k) else 0) ∧ (if k < 8 then numAt cs (9 + k) else 0) < _
    split
    · exact (num (9 + k) (by omega)).2
    · omega
  · exact ⟨if_neg (by omega), if_neg (by omega)⟩
end Go.Proofs.YtpkfgpagkgmpcaaDoor
