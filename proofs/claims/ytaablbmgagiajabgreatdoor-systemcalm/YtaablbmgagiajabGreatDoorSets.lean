/- What the conflicts of routes, and the greatest number of them that are apart, have to do with each other. No program is walked here. -/
import Derived.Test.YtaablbmgagiajabGreatDoorMost
namespace Go.Proofs.YtaablbmgagiajabGreatDoor
open Go.RowKit

theorem meets_comm (zs : List Int) (i j : Nat) : meets zs i j = meets zs j i := by
  unfold meets bits
  simp only [BitVec.and_comm]

theorem confTo_bit (zs : List Int) (i j k : Nat) : (confTo zs i j).testBit k = (decide (k < j) && (i != k && meets zs i k)) := by
  induction j with
  | zero => simp [confTo]
  | succ j ih =>
    unfold confTo
    by_cases e : k = j
    · subst e
      have h0 : (confTo zs i k).testBit k = false := by rw [ih]; simp
      split
      · rename_i h
        rw [Nat.testBit_or, h0, Nat.testBit_two_pow_self, h]; simp
      · rename_i h
        rw [h0]
        simp only [Bool.not_eq_true] at h
        rw [h]; simp
    · have hd : decide (k < j + 1) = decide (k < j) := by rw [decide_eq_decide]; omega
      rw [hd]
      split
      · rw [Nat.testBit_or, Nat.testBit_two_pow_of_ne (Ne.symm e), ih]; simp
      · exact ih

theorem conf_bit (zs : List Int) (i k : Nat) (hk : k < zs.length) : (conf zs i).testBit k = (i != k && meets zs i k) := by
  unfold conf; rw [confTo_bit]; simp [hk]

theorem conf_sym (zs : List Int) (i k : Nat) (hi : i < zs.length) (hk : k < zs.length) : (conf zs i).testBit k = (conf zs k).testBit i := by
  rw [conf_bit zs i k hk, conf_bit zs k i hi, meets_comm]
  congr 1
  rw [Bool.eq_iff_iff, bne_iff_ne, bne_iff_ne]
  exact ⟨Ne.symm, Ne.symm⟩

theorem conf_self (zs : List Int) (i : Nat) (hi : i < zs.length) : (conf zs i).testBit i = false := by
  rw [conf_bit zs i i hi]; simp

theorem mostTo_ge (c : List Nat) (m n : Nat) (h : m < n) (ha : apartB m c = true) : pop 8 m ≤ mostTo c n := by
  induction n with
  | zero => omega
  | succ n ih =>
    unfold mostTo
    by_cases e : m = n
    · subst e; rw [if_pos ha]; omega
    · have := ih (by omega)
      split <;> omega

theorem mostTo_few (c : List Nat) (L m : Nat) (hL : L ≤ 8) (h : m ≤ 2 ^ L) : mostTo c m ≤ L := by
  induction m with
  | zero => simp [mostTo]
  | succ m ih =>
    unfold mostTo
    have h1 := ih (by omega)
    have h2 : pop 8 m ≤ L := by rw [pop_more L 8 m (by omega) hL]; exact pop_le L m
    split <;> omega

theorem apartTo_of (s : Nat) (c : List Nat) (n : Nat) (h : ∀ i, i < n → clash s c i = false) : apartTo s c n = true := by
  induction n with
  | zero => rfl
  | succ n ih => unfold apartTo; rw [ih fun i hi => h i (by omega), h n (by omega)]; rfl

theorem most_one (zs : List Int) (h1 : 1 ≤ zs.length) : 1 ≤ most (confs zs) := by
  have ha : apartB 1 (confs zs) = true := by
    apply apartTo_of
    intro i hi
    unfold clash
    rw [confs_length] at hi
    by_cases e : i = 0
    · subst e
      have h0 := conf_self zs 0 hi
      rw [confs_get zs 0 hi, Nat.and_comm, Nat.and_one_is_mod]
      have := (testBit_eq (conf zs 0) 0)
      rw [h0] at this
      simp at this
      simp [this]
    · have : (1 : Nat).testBit i = false := by rw [Bool.eq_false_iff]; exact fun h => e (Nat.testBit_one_eq_true_iff_self_eq_zero.1 h)
      simp [this]
  have := mostTo_ge (confs zs) 1 (2 ^ zs.length) (Nat.lt_of_lt_of_le (by decide : 1 < 2 ^ 1) (Nat.pow_le_pow_right (by decide) h1)) ha
  unfold most
  rw [confs_length]
  exact Nat.le_trans (by decide) this

theorem most_few (zs : List Int) (h8 : zs.length ≤ 8) : most (confs zs) ≤ zs.length := by
  unfold most; rw [confs_length]; exact mostTo_few _ _ _ h8 (Nat.le_refl _)

/-- Of the routes of a set below i none is in conflict with one of the set. -/
def freeTo (zs : List Int) (S : Nat) : Nat → Bool
  | 0 => true
  | i + 1 => if S.testBit i then freeTo zs S i && (conf zs i &&& S == 0) else freeTo zs S i

theorem freeTo_at (zs : List Int) (S n i : Nat) (h : freeTo zs S n = true) (hi : i < n) (hs : S.testBit i = true) : conf zs i &&& S = 0 := by
  induction n with
  | zero => omega
  | succ n ih =>
    unfold freeTo at h
    by_cases e : i = n
    · subst e; rw [if_pos hs] at h; simp at h; exact h.2
    · split at h
      · simp at h; exact ih h.1 (by omega)
      · exact ih h (by omega)

theorem and_low (a S L : Nat) (h : a < 2 ^ L) : a &&& S % 2 ^ L = a &&& S := by
  apply Nat.eq_of_testBit_eq
  intro i
  rw [Nat.testBit_and, Nat.testBit_and, Nat.testBit_mod_two_pow]
  by_cases e : i < L
  · simp [e]
  · rw [Nat.testBit_lt_two_pow (Nat.lt_of_lt_of_le h (Nat.pow_le_pow_right (by decide) (by omega)))]; simp

/-- No more routes than Most says are without conflicts. -/
theorem free_few (zs : List Int) (S : Nat) (h8 : zs.length ≤ 8) (h : freeTo zs S zs.length = true) : pop zs.length S ≤ most (confs zs) := by
  have hlt : S % 2 ^ zs.length < 2 ^ zs.length := Nat.mod_lt _ (Nat.two_pow_pos _)
  have hbit : ∀ i, i < zs.length → (S % 2 ^ zs.length).testBit i = S.testBit i := fun i hi => by rw [Nat.testBit_mod_two_pow]; simp [hi]
  have ha : apartB (S % 2 ^ zs.length) (confs zs) = true := by
    apply apartTo_of
    intro i hi
    rw [confs_length] at hi
    unfold clash
    rw [hbit i hi, confs_get zs i hi, Nat.and_comm, and_low (conf zs i) _ _ (confTo_lt zs i zs.length)]
    cases hs : S.testBit i
    · rfl
    · rw [freeTo_at zs S _ i h hi hs]; rfl
  have := mostTo_ge (confs zs) _ _ hlt ha
  rw [pop_more zs.length 8 _ hlt h8, pop_congr zs.length _ S hbit] at this
  unfold most; rw [confs_length]; exact this

end Go.Proofs.YtaablbmgagiajabGreatDoor
