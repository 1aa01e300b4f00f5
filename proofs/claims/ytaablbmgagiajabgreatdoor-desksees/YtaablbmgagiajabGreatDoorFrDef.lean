/- What frames are as numbers and as bytes: the document's 3.2, as functions. No program is named here. -/
import Derived.Test.YtaablbmgagiajabGreatDoorFrBits
import Derived.Test.YtaablbmgagiajabGreatDoorCoreF
namespace Go.Proofs.YtaablbmgagiajabGreatDoor

/-- Used and Idle of the first k routes, in turn. -/
def stNums (F : Nat → Int) : Nat → List Int
  | 0 => []
  | k + 1 => stNums F k ++ [F (7 + k), F (15 + k)]
theorem stNums_length (F : Nat → Int) (k : Nat) : (stNums F k).length = 2 * k := by
  induction k with
  | zero => rfl
  | succ k ih => unfold stNums; rw [List.length_append, ih]; simp; omega

/-- The numbers that a frame's kind has. -/
def numsF (F : Nat → Int) : List Int :=
  if F 0 = 1 then [F 0, F 1, F 2, F 3, F 4]
  else if F 0 = 2 ∨ F 0 = 3 then [F 0, F 1, F 2, F 3, F 4, F 5]
  else if F 0 = 5 then [F 0, F 1, F 2, F 6] ++ stNums F 8
  else [F 0, F 1, F 2]

theorem nums_one {F : Nat → Int} (h : F 0 = 1) : numsF F = [F 0, F 1, F 2, F 3, F 4] := by unfold numsF; rw [if_pos h]
theorem nums_mid {F : Nat → Int} (h : F 0 = 2 ∨ F 0 = 3) : numsF F = [F 0, F 1, F 2, F 3, F 4, F 5] := by
  unfold numsF; rw [if_neg (by omega), if_pos h]
theorem nums_known {F : Nat → Int} (h : F 0 = 5) : numsF F = [F 0, F 1, F 2, F 6] ++ stNums F 8 := by
  unfold numsF; rw [if_neg (by omega), if_neg (by omega), if_pos h]
theorem nums_else {F : Nat → Int} (h1 : F 0 ≠ 1) (h2 : F 0 ≠ 2) (h3 : F 0 ≠ 3) (h5 : F 0 ≠ 5) : numsF F = [F 0, F 1, F 2] := by
  unfold numsF; rw [if_neg h1, if_neg (by omega), if_neg h5]

theorem nums_length_le (F : Nat → Int) : (numsF F).length ≤ 20 := by
  unfold numsF
  split
  · simp
  · split
    · simp
    · split
      · rw [List.length_append, stNums_length]; simp
      · simp
theorem nums_length_ge (F : Nat → Int) : 3 ≤ (numsF F).length := by
  unfold numsF
  split
  · simp
  · split
    · simp
    · split
      · rw [List.length_append, stNums_length]; simp
      · simp

/-- A number of a list; 0, if it is missing. -/
def at0 (l : List Int) (k : Nat) : Int := l[k]?.getD 0
def startF (a b c : Int) : Nat → Int := fun k => if k = 0 then a else if k = 1 then b else if k = 2 then c else 0
def inF (a b c x y : Int) : Nat → Int := fun k => if k = 0 then a else if k = 1 then b else if k = 2 then c else if k = 3 then x else if k = 4 then y else 0
def votF (a b c x y z : Int) : Nat → Int := fun k => if k = 0 then a else if k = 1 then b else if k = 2 then c else if k = 3 then x else if k = 4 then y else if k = 5 then z else 0
def knownF (l : List Int) (n : Nat) : Nat → Int := fun k => if k < 3 then at0 l k else if k = 6 then at0 l 3 else if 7 ≤ k ∧ k < 7 + n then at0 l (4 + 2 * (k - 7)) else if 15 ≤ k ∧ k < 15 + n then at0 l (5 + 2 * (k - 15)) else 0
/-- The frame that numbers tell. -/
def framedF (l : List Int) : Nat → Int :=
  if at0 l 0 = 1 then inF (at0 l 0) (at0 l 1) (at0 l 2) (at0 l 3) (at0 l 4)
  else if at0 l 0 = 2 ∨ at0 l 0 = 3 then votF (at0 l 0) (at0 l 1) (at0 l 2) (at0 l 3) (at0 l 4) (at0 l 5)
  else if at0 l 0 = 5 then knownF l 8
  else startF (at0 l 0) (at0 l 1) (at0 l 2)
theorem framed_one {l : List Int} (h : at0 l 0 = 1) : framedF l = inF (at0 l 0) (at0 l 1) (at0 l 2) (at0 l 3) (at0 l 4) := by unfold framedF; rw [if_pos h]
theorem framed_mid {l : List Int} (h : at0 l 0 = 2 ∨ at0 l 0 = 3) : framedF l = votF (at0 l 0) (at0 l 1) (at0 l 2) (at0 l 3) (at0 l 4) (at0 l 5) := by
  unfold framedF; rw [if_neg (by omega), if_pos h]
theorem framed_known {l : List Int} (h : at0 l 0 = 5) : framedF l = knownF l 8 := by
  unfold framedF; rw [if_neg (by omega), if_neg (by omega), if_pos h]
theorem framed_else {l : List Int} (h1 : at0 l 0 ≠ 1) (h2 : at0 l 0 ≠ 2) (h3 : at0 l 0 ≠ 3) (h5 : at0 l 0 ≠ 5) : framedF l = startF (at0 l 0) (at0 l 1) (at0 l 2) := by
  unfold framedF; rw [if_neg h1, if_neg (by omega), if_neg h5]
theorem startF_in (a b c x y : Int) : upd (upd (startF a b c) 3 x) 4 y = inF a b c x y := by
  funext k
  unfold upd startF inF
  rcases (by omega : k = 0 ∨ k = 1 ∨ k = 2 ∨ k = 3 ∨ k = 4 ∨ 5 ≤ k) with rfl | rfl | rfl | rfl | rfl | h
  · rfl
  · rfl
  · rfl
  · rfl
  · rfl
  · rw [if_neg (by omega), if_neg (by omega), if_neg (by omega), if_neg (by omega), if_neg (by omega), if_neg (by omega), if_neg (by omega), if_neg (by omega), if_neg (by omega), if_neg (by omega)]
theorem inF_out (a b c x y z : Int) : upd (inF a b c x y) 5 z = votF a b c x y z := by
  funext k
  unfold upd inF votF
  rcases (by omega : k = 0 ∨ k = 1 ∨ k = 2 ∨ k = 3 ∨ k = 4 ∨ k = 5 ∨ 6 ≤ k) with rfl | rfl | rfl | rfl | rfl | rfl | h
  · rfl
  · rfl
  · rfl
  · rfl
  · rfl
  · rfl
  · rw [if_neg (by omega), if_neg (by omega), if_neg (by omega), if_neg (by omega), if_neg (by omega), if_neg (by omega), if_neg (by omega), if_neg (by omega), if_neg (by omega), if_neg (by omega), if_neg (by omega), if_neg (by omega)]
theorem known_start (l : List Int) : upd (startF (at0 l 0) (at0 l 1) (at0 l 2)) 6 (at0 l 3) = knownF l 0 := by
  funext k
  unfold upd startF knownF
  rcases (by omega : k = 0 ∨ k = 1 ∨ k = 2 ∨ k = 6 ∨ (3 ≤ k ∧ k ≠ 6)) with rfl | rfl | rfl | rfl | h
  · rfl
  · rfl
  · rfl
  · rfl
  · rw [if_neg (by omega), if_neg (by omega), if_neg (by omega), if_neg (by omega), if_neg (by omega), if_neg (by omega), if_neg (by omega), if_neg (by omega)]
theorem known_next (l : List Int) (n : Nat) (hn : n < 8) : upd (upd (knownF l n) (7 + n) (at0 l (4 + 2 * n))) (15 + n) (at0 l (5 + 2 * n)) = knownF l (n + 1) := by
  funext k
  unfold upd knownF
  by_cases h1 : k = 15 + n
  · subst h1
    rw [if_pos rfl, if_neg (by omega), if_neg (by omega), if_neg (by omega), if_pos (by omega), show 15 + n - 15 = n by omega]
  · rw [if_neg h1]
    by_cases h2 : k = 7 + n
    · subst h2
      rw [if_pos rfl, if_neg (by omega), if_neg (by omega), if_pos (by omega), show 7 + n - 7 = n by omega]
    · rw [if_neg h2]
      by_cases h3 : k < 3
      · rw [if_pos h3, if_pos h3]
      · rw [if_neg h3, if_neg h3]
        by_cases h4 : k = 6
        · rw [if_pos h4, if_pos h4]
        · rw [if_neg h4, if_neg h4]
          by_cases h5 : 7 ≤ k ∧ k < 7 + n
          · rw [if_pos h5, if_pos (show 7 ≤ k ∧ k < 7 + (n + 1) by omega)]
          · rw [if_neg h5, if_neg (show ¬ (7 ≤ k ∧ k < 7 + (n + 1)) by omega)]
            by_cases h6 : 15 ≤ k ∧ k < 15 + n
            · rw [if_pos h6, if_pos (show 15 ≤ k ∧ k < 15 + (n + 1) by omega)]
            · rw [if_neg h6, if_neg (show ¬ (15 ≤ k ∧ k < 15 + (n + 1)) by omega)]
theorem known_swap (l : List Int) (n : Nat) (hn : n < 8) : upd (upd (knownF l n) (15 + n) (at0 l (5 + 2 * n))) (7 + n) (at0 l (4 + 2 * n)) = knownF l (n + 1) := by
  rw [← known_next l n hn]
  funext k
  unfold upd
  by_cases h1 : k = 15 + n
  · rw [if_neg (by omega), if_pos h1, if_pos h1]
  · rw [if_neg h1, if_neg h1]

/-- Two frames are the same. -/
def eqB (F G : Nat → Int) : Bool := (List.range 23).all fun k => F k == G k
theorem eqB_iff (F G : Nat → Int) : eqB F G = true ↔ ∀ k, k < 23 → F k = G k := by simp [eqB]
def headB (F : Nat → Int) : Bool := (decide (1 ≤ F 0) && decide (F 0 ≤ 5)) && (decide (0 ≤ F 1) && decide (F 1 ≤ 3))
def fitsB (n : Int) : Bool := decide (0 ≤ n) && decide (n ≤ 1048576)
/-- May a frame be? -/
def mayB (F : Nat → Int) : Bool := headB F && ((numsF F).all fitsB && eqB F (framedF (numsF F)))
theorem all_take_false {l : List Int} {k : Nat} (hk : k < l.length) (h : fitsB (l[k]?.getD 0) = false) : l.all fitsB = false := by
  rw [List.all_eq_false]
  exact ⟨l[k], List.getElem_mem hk, by rw [List.getElem?_eq_getElem hk] at h; simpa using h⟩
theorem all_take_next {l : List Int} {k : Nat} (hk : k < l.length) (h0 : (l.take k).all fitsB = true) (h : fitsB (l[k]?.getD 0) = true) : (l.take (k + 1)).all fitsB = true := by
  rw [List.take_add_one, List.getElem?_eq_getElem hk, List.all_append, h0]
  rw [List.getElem?_eq_getElem hk] at h
  simpa using h
end Go.Proofs.YtaablbmgagiajabGreatDoor
