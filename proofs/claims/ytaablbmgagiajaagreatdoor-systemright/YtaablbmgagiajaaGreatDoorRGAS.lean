import Derived.Test.YtaablbmgagiajaaGreatDoorRGAI
namespace Go.Proofs.YtaablbmgagiajaaGreatDoor
open Go.RowKit
theorem confTo_bit (zs : List Int) (i j k : Nat) : (confTo zs i j).testBit k = (decide (k < j) && (i != k && meets zs i k)) := by
  induction j with
  | zero => simp [confTo]
  | succ j ih =>
    unfold confTo
    by_cases e : k = j
    · subst e
      have h0 : (confTo zs i k).testBit k = false := by rw [ih]; simp
      split
      · rename_i h
        rw [Nat.testBit_or, h0, Nat.testBit_two_pow_self, h]; simp
      · rename_i h
        rw [h0]
        simp only [Bool.not_eq_true] at h
        rw [h]; simp
    · have hd : decide (k < j + 1) = decide (k < j) := by rw [decide_eq_decide]; omega
      rw [hd]
      split
      · rw [Nat.testBit_or, Nat.testBit_two_pow_of_ne (Ne.symm e), ih]; simp
      · exact ih
theorem conf_bit (zs : List Int) (i k : Nat) (hk : k < zs.length) : (conf zs i).testBit k = (i != k && meets zs i k) := by
  unfold conf; rw [confTo_bit]; simp [hk]
structure Good (R : Nat → Nat) (n : Nat) (B : Int) (S : St) : Prop where
  set : S.set < 2 ^ n
  apart : ∀ i k, i < n → k < n → i ≠ k → S.set.testBit i = true → S.set.testBit k = true → R i &&& R k = 0
  used : ∀ k, k < n → wo (S.used k) (R k) = 0
  rest : ∀ k, (n ≤ k ∨ S.set.testBit k = false) → S.used k = 0 ∧ S.idle k = 0
  idle : ∀ k, 0 ≤ S.idle k ∧ S.idle k ≤ B
theorem or_sub {a b r : Nat} (h1 : wo a r = 0) (h2 : wo b r = 0) : wo (a ||| b) r = 0 := by
  rw [wo_zero] at *
  intro k hk
  rw [Nat.testBit_or, Bool.or_eq_true] at hk
  rcases hk with hk | hk
  · exact h1 k hk
  · exact h2 k hk
theorem wo_sub (r c : Nat) : wo (wo r c) r = 0 := by
  rw [wo_zero]
  intro k hk
  rw [wo_bit, Bool.and_eq_true] at hk
  exact hk.1
theorem or_eq_zero {a b : Nat} (h : a ||| b = 0) : a = 0 ∧ b = 0 := by
  constructor
  · apply Nat.eq_of_testBit_eq
    intro k
    have := congrArg (fun x => x.testBit k) h
    simp only [Nat.testBit_or, Nat.zero_testBit, Bool.or_eq_false_iff] at this
    rw [this.1, Nat.zero_testBit]
  · apply Nat.eq_of_testBit_eq
    intro k
    have := congrArg (fun x => x.testBit k) h
    simp only [Nat.testBit_or, Nat.zero_testBit, Bool.or_eq_false_iff] at this
    rw [this.2, Nat.zero_testBit]
theorem leaves_clear {r c u : Nat} {d t : Int} (h : leavesB r c (usedOf r c u) d t = true) : wo r c = 0 := by
  unfold leavesB usedOf at h
  simp only [Bool.or_eq_true, Bool.and_eq_true, beq_iff_eq] at h
  rcases h with ⟨_, h⟩ | ⟨h, _⟩
  · exact h
  · exact (or_eq_zero h).2
theorem idleOf_in {v i : Nat} {t B : Int} (h : 0 ≤ t ∧ t ≤ B) : 0 ≤ idleOf v i t ∧ idleOf v i t ≤ B + 1 := by
  unfold idleOf
  split <;> omega
theorem let_good {R : Nat → Nat} {n d c v : Nat} {B : Int} {S : St} (h : Good R n B S) : Good R n (B + 1) (letTo R d c v S n) := by
  refine ⟨letTo_set_lt _ _ _ _ _ _ _ h.set, fun i k hi hk e h1 h2 => h.apart i k hi hk e (letTo_sub _ _ _ _ _ _ _ h1) (letTo_sub _ _ _ _ _ _ _ h2), ?_, ?_, ?_⟩
  · intro k hk
    rw [(letTo_at R d c v S n k hk).2.1]
    unfold letOne
    split
    · split
      · show wo (upd _ _ _ _) _ = 0; rw [upd_same]; simp [wo]
      · show wo (upd _ _ _ _) _ = 0; rw [upd_same]; exact or_sub (h.used k hk) (wo_sub _ _)
    · exact h.used k hk
  · intro k hk
    by_cases hkn : k < n
    · obtain ⟨h1, h2, h3⟩ := letTo_at R d c v S n k hkn
      have hb : (letTo R d c v S n).set.testBit k = false := by rcases hk with h | h; omega; exact h
      rw [h1] at hb
      rw [h2, h3]
      unfold letOne at hb ⊢
      by_cases hs : S.set.testBit k = true
      · rw [if_pos hs] at hb ⊢
        split
        · exact ⟨upd_same _ _ _, upd_same _ _ _⟩
        · rename_i hl
          rw [if_neg hl] at hb
          exact absurd (hs.symm.trans hb) (by decide)
      · rw [if_neg hs]
        exact h.rest k (.inr (by simpa using hs))
    · obtain ⟨h1, h2, h3⟩ := letTo_other R d c v S n k (by omega)
      rw [h2, h3]
      exact h.rest k (.inl (by omega))
  · intro k
    have hi := h.idle k
    by_cases hkn : k < n
    · rw [(letTo_at R d c v S n k hkn).2.2]
      unfold letOne
      split
      · split
        · show 0 ≤ upd _ _ _ _ ∧ upd _ _ _ _ ≤ _; rw [upd_same]; omega
        · show 0 ≤ upd _ _ _ _ ∧ upd _ _ _ _ ≤ _; rw [upd_same]; exact idleOf_in hi
      · omega
    · rw [(letTo_other R d c v S n k (by omega)).2.2]; omega
def Conf (R C : Nat → Nat) (n : Nat) : Prop := ∀ i k, i < n → k < n → ((C i).testBit k = true ↔ i ≠ k ∧ R i &&& R k ≠ 0)
theorem put_apart {R C : Nat → Nat} {n c v set : Nat} (hC : Conf R C n) (h : ∀ i k, i < n → k < n → i ≠ k → set.testBit i = true → set.testBit k = true → R i &&& R k = 0) :
    ∀ m, m ≤ n → ∀ i k, i < n → k < n → i ≠ k → (putTo R C c v set m).testBit i = true → (putTo R C c v set m).testBit k = true → R i &&& R k = 0 := by
  intro m
  induction m with
  | zero => intro _; exact h
  | succ m ih =>
    intro hm i k hi hk e h1 h2
    have ih' := ih (by omega)
    rw [show putTo R C c v set (m + 1) = (if freeB (R m) (C m) c v m (putTo R C c v set m) then putTo R C c v set m ||| 2 ^ m else putTo R C c v set m) from rfl] at h1 h2
    split at h1
    · rename_i hf
      rw [if_pos hf] at h2
      unfold freeB at hf
      simp only [Bool.and_eq_true, beq_iff_eq] at hf
      have hz := hf.2.1
      have key : ∀ j, j < n → j ≠ m → (putTo R C c v set m).testBit j = true → R m &&& R j = 0 := by
        intro j hj hjm hb
        have hcm : (C m).testBit j = false := by
          cases hc : (C m).testBit j
          · rfl
          · have := congrArg (fun x => x.testBit j) hz
            simp only [Nat.testBit_and, hb, hc, Nat.zero_testBit] at this
            exact absurd this (by decide)
        by_cases h0 : R m &&& R j = 0
        · exact h0
        · have := (hC m j (by omega) hj).2 ⟨fun e => hjm e.symm, h0⟩
          exact absurd (this.symm.trans hcm) (by decide)
      rw [Nat.testBit_or, two_bit, Bool.or_eq_true, decide_eq_true_eq] at h1 h2
      rcases h1 with h1 | h1
      · rcases h2 with h2 | h2
        · exact ih' i k hi hk e h1 h2
        · subst h2; rw [Nat.and_comm]; exact key i hi e h1
      · subst h1
        rcases h2 with h2 | h2
        · exact key k hk (fun e' => e e'.symm) h2
        · exact absurd h2 e
    · rename_i hf
      rw [if_neg hf] at h2
      exact ih' i k hi hk e h1 h2
theorem next_good {R C : Nat → Nat} {n d c v : Nat} {B : Int} {S : St} (hC : Conf R C n) (h : Good R n B S) : Good R n (B + 1) (nextF R C n d c v S) := by
  have hL := let_good (d := d) (c := c) (v := v) h
  refine ⟨putTo_lt _ _ _ _ _ _ _ hL.set (Nat.le_refl _), put_apart hC hL.apart n (Nat.le_refl _), hL.used, ?_, hL.idle⟩
  intro k hk
  refine hL.rest k ?_
  rcases hk with hk | hk
  · exact .inl hk
  · right
    cases hb : (letTo R d c v S n).set.testBit k
    · rfl
    · have := putTo_more R C c v _ n k hb
      exact absurd (this.symm.trans hk) (by decide)
theorem conf_conf {s d : Int} {zs : List Int} (h : checkF s zs d = (0, -1)) : Conf (rt zs) (conf zs) zs.length := by
  intro i k hi hk
  rw [conf_bit zs i k hk, Bool.and_eq_true, bne_iff_ne]
  obtain ⟨h1, _, h3, _⟩ := rt_in h hi
  obtain ⟨h4, _, h6, _⟩ := rt_in h hk
  unfold meets
  rw [h1, h4, and_nat _ _ (by omega) (by omega), bne_iff_ne]
  constructor
  · rintro ⟨a, b⟩; exact ⟨a, fun e => b (by rw [e]; rfl)⟩
  · rintro ⟨a, b⟩; exact ⟨a, fun e => b (by omega)⟩
theorem good_ok {zs : List Int} {s d : Int} {B : Int} {S : St} (hc : checkF s zs d = (0, -1)) (h : Good (rt zs) zs.length B S) (hB : B ≤ 1000000000) : StOk S := by
  have hr := range_pos hc
  unfold rangeB at hr
  simp only [Bool.and_eq_true, inB_iff] at hr
  refine ⟨Nat.lt_of_lt_of_le h.set (Nat.pow_le_pow_right (n := 2) (by decide) (show zs.length ≤ 8 by omega)), fun k => ?_, fun k => by have := h.idle k; omega⟩
  by_cases hk : k < zs.length
  · have := h.used k hk
    have h2 : S.used k ≤ rt zs k := by
      rw [wo_zero] at this
      have e : S.used k &&& rt zs k = S.used k := by
        apply Nat.eq_of_testBit_eq
        intro j
        rw [Nat.testBit_and]
        cases hj : (S.used k).testBit j
        · rfl
        · rw [this j hj]; rfl
      rw [← e]; exact Nat.and_le_right
    have := (rt_in hc hk).2.2.1
    omega
  · rw [(h.rest k (.inl (by omega))).1]; decide
end Go.Proofs.YtaablbmgagiajaaGreatDoor
