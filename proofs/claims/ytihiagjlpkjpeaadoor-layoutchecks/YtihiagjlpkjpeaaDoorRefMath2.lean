/- The document's greatest number of routes, with each or without, is that of the sets that are apart. No program is walked here. -/
import Derived.Test.YtihiagjlpkjpeaaDoorRefMath
namespace Go.Proofs.YtihiagjlpkjpeaaDoor
open Go.RowKit

theorem pop_head (k S : Nat) : pop (k + 1) S = (if S.testBit 0 then 1 else 0) + pop k (S / 2) := by
  induction k with
  | zero => simp [pop]
  | succ k ih =>
    rw [pop, ih, pop, Nat.testBit_succ]
    omega

/-- A set of routes of which no two meet, and none meets what is used. -/
def Fine (l : List Nat) (u S : Nat) : Prop :=
  (∀ i, i < l.length → S.testBit i = true → l[i]?.getD 0 &&& u = 0) ∧ (∀ i j, i < j → j < l.length → S.testBit i = true → S.testBit j = true → l[i]?.getD 0 &&& l[j]?.getD 0 = 0)

theorem and_or_zero (a u r : Nat) (h1 : a &&& u = 0) (h2 : a &&& r = 0) : a &&& (u ||| r) = 0 := by rw [Nat.and_or_distrib_left, h1, h2]; rfl
theorem and_or_left (a u r : Nat) (h : a &&& (u ||| r) = 0) : a &&& u = 0 := by
  rw [Nat.and_or_distrib_left] at h; exact (Nat.or_eq_zero_iff.1 h).1
theorem and_or_right (a u r : Nat) (h : a &&& (u ||| r) = 0) : a &&& r = 0 := by
  rw [Nat.and_or_distrib_left] at h; exact (Nat.or_eq_zero_iff.1 h).2

theorem fine_le (l : List Nat) : ∀ (u S : Nat), Fine l u S → pop l.length S ≤ rm l u := by
  induction l with
  | nil => intro u S _; simp [pop]
  | cons r l ih =>
    intro u S ⟨h1, h2⟩
    rw [List.length_cons, pop_head]
    have hf : Fine l u (S / 2) := by
      refine ⟨fun i hi hs => ?_, fun i j hij hj hs ht => ?_⟩
      · have := h1 (i + 1) (by simp; omega) (by rw [Nat.testBit_succ]; exact hs)
        simpa using this
      · have := h2 (i + 1) (j + 1) (by omega) (by simp; omega) (by rw [Nat.testBit_succ]; exact hs) (by rw [Nat.testBit_succ]; exact ht)
        simpa using this
    unfold rm
    cases hb : S.testBit 0
    · have := ih u (S / 2) hf
      simp only [Bool.false_eq_true, if_false]
      split <;> omega
    · have hr : r &&& u = 0 := by simpa using h1 0 (by simp) hb
      have hf2 : Fine l (u ||| r) (S / 2) := by
        refine ⟨fun i hi hs => and_or_zero _ _ _ (hf.1 i hi hs) ?_, hf.2⟩
        have := h2 0 (i + 1) (by omega) (by simp; omega) hb (by rw [Nat.testBit_succ]; exact hs)
        rw [Nat.and_comm]
        simpa using this
      have := ih (u ||| r) (S / 2) hf2
      rw [if_pos rfl, if_pos (by rw [Nat.and_comm]; exact hr)]
      omega

theorem bit0_double (S : Nat) : (2 * S).testBit 0 = false ∧ (2 * S + 1).testBit 0 = true := by
  constructor
  · rw [Nat.testBit_zero]; simp
  · rw [Nat.testBit_zero]; simp
theorem bits_double (S i : Nat) : (2 * S).testBit (i + 1) = S.testBit i ∧ (2 * S + 1).testBit (i + 1) = S.testBit i := by
  constructor
  · rw [Nat.testBit_succ]; congr 1; omega
  · rw [Nat.testBit_succ]; congr 1; omega

theorem fine_without {l : List Nat} {r u S : Nat} (h : Fine l u S) : Fine (r :: l) u (2 * S) := by
  refine ⟨fun i hi hs => ?_, fun i j hij hj hs ht => ?_⟩
  · cases i with
    | zero => rw [(bit0_double S).1] at hs; exact absurd hs (by decide)
    | succ i =>
      rw [(bits_double S i).1] at hs
      simpa using h.1 i (by simpa using hi) hs
  · cases i with
    | zero => rw [(bit0_double S).1] at hs; exact absurd hs (by decide)
    | succ i =>
      cases j with
      | zero => omega
      | succ j =>
        rw [(bits_double S i).1] at hs
        rw [(bits_double S j).1] at ht
        simpa using h.2 i j (by omega) (by simpa using hj) hs ht

theorem fine_with {l : List Nat} {r u S : Nat} (h : Fine l (u ||| r) S) (hr : u &&& r = 0) : Fine (r :: l) u (2 * S + 1) := by
  refine ⟨fun i hi hs => ?_, fun i j hij hj hs ht => ?_⟩
  · cases i with
    | zero => rw [Nat.and_comm] at hr; simpa using hr
    | succ i =>
      rw [(bits_double S i).2] at hs
      simpa using and_or_left _ _ _ (h.1 i (by simpa using hi) hs)
  · cases j with
    | zero => omega
    | succ j =>
      rw [(bits_double S j).2] at ht
      cases i with
      | zero =>
        have := and_or_right _ _ _ (h.1 j (by simpa using hj) ht)
        rw [Nat.and_comm] at this
        simpa using this
      | succ i =>
        rw [(bits_double S i).2] at hs
        simpa using h.2 i j (by omega) (by simpa using hj) hs ht

theorem fine_ex (l : List Nat) : ∀ (u : Nat), ∃ S, S < 2 ^ l.length ∧ Fine l u S ∧ pop l.length S = rm l u := by
  induction l with
  | nil => intro u; exact ⟨0, by simp, ⟨fun i hi _ => by simp at hi, fun i j _ hj _ _ => by simp at hj⟩, rfl⟩
  | cons r l ih =>
    intro u
    have hdiv : ∀ S, 2 * S / 2 = S ∧ (2 * S + 1) / 2 = S := fun S => by omega
    obtain ⟨S1, b1, f1, p1⟩ := ih u
    have without : ∃ S, S < 2 ^ (l.length + 1) ∧ Fine (r :: l) u S ∧ pop (l.length + 1) S = rm l u :=
      ⟨2 * S1, by rw [Nat.pow_succ]; omega, fine_without f1, by rw [pop_head, (bit0_double S1).1, (hdiv S1).1, p1]; simp⟩
    rw [List.length_cons]
    unfold rm
    by_cases hz : u &&& r = 0
    · rw [if_pos hz]
      obtain ⟨S2, b2, f2, p2⟩ := ih (u ||| r)
      by_cases hm : rm l u ≤ 1 + rm l (u ||| r)
      · rw [Nat.max_eq_right hm]
        exact ⟨2 * S2 + 1, by rw [Nat.pow_succ]; omega, fine_with f2 hz, by rw [pop_head, (bit0_double S2).2, (hdiv S2).2, p2]; simp⟩
      · rw [Nat.max_eq_left (by omega)]
        exact without
    · rw [if_neg hz]
      exact without

theorem apartTo_at (s : Nat) (c : List Nat) (n i : Nat) (h : apartTo s c n = true) (hi : i < n) : clash s c i = false := by
  cases hc : clash s c i
  · rfl
  · rw [apartTo_false s c i n hc hi] at h; exact absurd h (by decide)

theorem apart_iff {s : Nat} {zs : List Int} {d : Int} (h : checkF s zs d = (0, -1)) (hs : s ≤ 12) (S : Nat) (hS : S < 2 ^ zs.length) : apartB S (confs zs) = true ↔ Fine (routes zs) 0 S := by
  constructor
  · intro ha
    refine ⟨fun i hi _ => by simp, fun i j hij hj hs' ht => ?_⟩
    rw [routes_length] at hj
    have hc := apartTo_at S (confs zs) _ i ha (by rw [confs_length]; omega)
    unfold clash at hc
    rw [hs', confs_get zs i (by omega), Bool.true_and] at hc
    have hz : S &&& conf zs i = 0 := by simpa using hc
    have hb : (S &&& conf zs i).testBit j = false := by rw [hz]; simp
    rw [Nat.testBit_and, ht, Bool.true_and, conf_bit zs i j hj, meets_routes h hs i j (by omega) hj] at hb
    have hne : (i != j) = true := by simp; omega
    rw [hne, Bool.true_and] at hb
    simpa using hb
  · intro ⟨_, h2⟩
    apply apartTo_of
    intro i hi
    rw [confs_length] at hi
    unfold clash
    cases hsi : S.testBit i
    · rfl
    · rw [confs_get zs i hi, Bool.true_and]
      have hz : S &&& conf zs i = 0 := by
        apply Nat.eq_of_testBit_eq
        intro k
        rw [Nat.testBit_and, Nat.zero_testBit]
        by_cases hk : k < zs.length
        · rw [conf_bit zs i k hk, meets_routes h hs i k hi hk]
          cases hsk : S.testBit k
          · rfl
          · by_cases e : i = k
            · subst e; simp
            · have hz : (routes zs)[i]?.getD 0 &&& (routes zs)[k]?.getD 0 = 0 := by
                rcases Nat.lt_or_gt_of_ne e with hlt | hgt
                · exact h2 i k hlt (by rw [routes_length]; exact hk) hsi hsk
                · rw [Nat.and_comm]; exact h2 k i hgt (by rw [routes_length]; exact hi) hsk hsi
              rw [hz]; simp
        · rw [Nat.testBit_lt_two_pow (Nat.lt_of_lt_of_le hS (Nat.pow_le_pow_right (by decide) (by omega)))]; rfl
      rw [hz]; rfl

/-- The document's Most is the program's. -/
theorem rm_most {s : Nat} {zs : List Int} {d : Int} (h : checkF s zs d = (0, -1)) (hs : s ≤ 12) (h8 : zs.length ≤ 8) : rm (routes zs) 0 = most (confs zs) := by
  apply Nat.le_antisymm
  · obtain ⟨S, hS, hf, hp⟩ := fine_ex (routes zs) 0
    rw [routes_length] at hS hp
    have := mostTo_ge (confs zs) S (2 ^ zs.length) hS ((apart_iff h hs S hS).2 hf)
    rw [pop_more zs.length 8 S hS h8, hp] at this
    unfold most
    rw [confs_length]
    exact this
  · unfold most
    rw [confs_length]
    have : ∀ m, m ≤ 2 ^ zs.length → mostTo (confs zs) m ≤ rm (routes zs) 0 := by
      intro m
      induction m with
      | zero => intro _; simp [mostTo]
      | succ m ih =>
        intro hm
        have h1 := ih (by omega)
        unfold mostTo
        split
        · rename_i ha
          have hf := fine_le (routes zs) 0 m ((apart_iff h hs m (by omega)).1 ha)
          rw [routes_length] at hf
          rw [pop_more zs.length 8 m (by omega) h8]
          omega
        · exact h1
    exact this _ (Nat.le_refl _)

end Go.Proofs.YtihiagjlpkjpeaaDoor
