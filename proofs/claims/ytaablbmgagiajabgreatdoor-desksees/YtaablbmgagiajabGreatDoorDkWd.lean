/- The words of a line. -/
import Derived.Test.YtaablbmgagiajabGreatDoorDkCatch
import Derived.Test.YtaablbmgagiajabGreatDoorDkMap
namespace Go.Proofs.YtaablbmgagiajabGreatDoor
open Go.RowKit Go.Deep Go.Shelf

def wordsF (line : List UInt8) : List (List UInt8) := (Lib.goFieldsP isB (txt line)).map (·.data.toList)
theorem txt_back (b : ByteArray) : txt b.data.toList = b := by
  cases b; simp [txt]
theorem spans_few (p : Nat → Bool) (s : ByteArray) : ∀ (f pos : Nat) (st : Option Nat) (acc : List (Nat × Nat)), (Lib.spansFromP p s f pos st acc).1.length ≤ acc.length + f
  | 0, _, _, acc => by simp [Lib.spansFromP]
  | f + 1, pos, st, acc => by
    unfold Lib.spansFromP
    split
    · split
      · split
        · exact Nat.le_trans (spans_few p s f _ _ _) (by simp; omega)
        · exact Nat.le_trans (spans_few p s f _ _ _) (by omega)
      · split
        · exact Nat.le_trans (spans_few p s f _ _ _) (by omega)
        · exact Nat.le_trans (spans_few p s f _ _ _) (by omega)
    · simp
theorem words_few (line : List UInt8) : (wordsF line).length ≤ line.length + 1 := by
  unfold wordsF Lib.goFieldsP Lib.spansOfP
  rw [List.length_map, List.length_map]
  have h := spans_few isB (txt line) (txt line).size 0 none []
  generalize Lib.spansFromP isB (txt line) (txt line).size 0 none [] = r at h
  rw [txt_size] at h
  unfold Lib.closeSpans
  simp only [List.length_nil] at h
  split
  · simp only [List.length_append, List.length_cons, List.length_nil]; omega
  · omega
theorem words_short {line x : List UInt8} (h : x ∈ wordsF line) : x.length ≤ line.length := by
  unfold wordsF Lib.goFieldsP at h
  rw [List.map_map] at h
  obtain ⟨a, _, rfl⟩ := List.mem_map.1 h
  have := Lib.extract_eq (txt line) a.1 a.2
  simp only [Function.comp]
  rw [this]
  show (List.take _ (List.drop _ line)).length ≤ line.length
  rw [List.length_take, List.length_drop]
  omega
set_option maxHeartbeats 1000000 in
theorem fields_any (line : List UInt8) (w : World) (hl : line.length ≤ 1000000) :
    Calls Tryz.prog 99 #[.string (txt line), .func (.func 100) #[] #[]] w fun e w' => ∃ A n, n = (wordsF line).length ∧ e = .returned (.slice (some ⟨A, 0, none⟩) n n) ∧ w.heap.size ≤ A ∧ A < w'.heap.size ∧ (∀ (j : Nat) x, (wordsF line)[j]? = some x → w'.cell? ⟨A, j, none⟩ = some (.string (txt x))) ∧ Below w.heap.size w w' := by
  refine (Tryz.strings_FieldsFunc 100 #[] (enters_of Tryz.func100 (by kernel_rfl) rfl) isB (txt line) w (by rw [txt_size]; omega) (isBlank_at w)).mono ?_
  rintro e w' ⟨A, rfl, hA, hown, hB⟩
  refine ⟨A, _, by unfold wordsF; rw [List.length_map], rfl, hA, (hown.lt A rfl).2, fun j x hx => ?_, hB⟩
  unfold wordsF at hx
  rw [List.getElem?_map] at hx
  obtain ⟨b, hb, rfl⟩ := Option.map_eq_some_iff.1 hx
  rw [txt_back]
  have hc := hown.cells (g := A) rfl j (.string b) (by rw [List.getElem?_map, hb]; rfl)
  by_cases hj : j = 0
  · subst hj; simpa [Addr.add] using hc
  · simpa [Addr.add, hj] using hc
end Go.Proofs.YtaablbmgagiajabGreatDoor
