/- A set of sections, kept in memory as a map of ints to bools: how it is made, put to, asked, counted. -/
import Derived.Test.YtaablbmgagiajabGreatDoorCoreMath
import Derived.Test.YtaablbmgagiajabGreatDoorCoreStep
import Derived.Maps.OwnSet
namespace Go.Proofs.YtaablbmgagiajabGreatDoor
open Go.RowKit Go.Deep Go.Maps

theorem keyInt : Keyed Tryz.prog 3 := int_keyed Tryz.underlying3
theorem zeroBool (w : World) : (zeroValue 4).run Tryz.prog w = .ok (.bool false) w := by kernel_rfl

theorem pop_or (n U k : Nat) (hk : k < n) : pop n (U ||| 2 ^ k) = pop n U + (if U.testBit k then 0 else 1) := by
  induction n with
  | zero => omega
  | succ n ih =>
    unfold pop
    rw [Nat.testBit_or, two_bit]
    by_cases e : k = n
    · subst e
      have h : pop k (U ||| 2 ^ k) = pop k U := pop_congr k _ _ fun i hi => by rw [Nat.testBit_or, two_bit, decide_eq_false (by omega)]; simp
      rw [h]
      cases U.testBit k <;> simp
    · rw [ih (by omega), decide_eq_false e, Bool.or_false]
      omega
theorem pop_zero (n : Nat) : pop n 0 = 0 := by
  induction n with
  | zero => rfl
  | succ n ih => unfold pop; rw [ih]; simp
theorem pop_none {n U : Nat} (hU : U < 2 ^ n) : (pop n U == 0) = (U == 0) := by
  rw [Bool.eq_iff_iff, beq_iff_eq, beq_iff_eq]
  constructor
  · intro h
    have hb : ∀ m, pop m U = 0 → ∀ k, k < m → U.testBit k = false := by
      intro m
      induction m with
      | zero => intro _ k hk; omega
      | succ m ih =>
        intro hm k hk
        unfold pop at hm
        by_cases e : k = m
        · subst e
          cases hc : U.testBit k
          · rfl
          · rw [hc] at hm; simp at hm
        · exact ih (by omega) k (by omega)
    apply Nat.eq_of_testBit_eq
    intro k
    rw [Nat.zero_testBit]
    by_cases hk : k < n
    · exact hb n h k hk
    · exact Nat.testBit_lt_two_pow (Nat.lt_of_lt_of_le hU (Nat.pow_le_pow_right (by decide) (by omega)))
  · intro h; rw [h]; exact pop_zero n

/-- Block b is a map that holds just the sections of a set. -/
def IsSet (w : World) (b U : Nat) : Prop := ∃ D : DataW Unit, w.ownsMap Tryz.prog 3 (plainElem Tryz.prog 4) b 12 D ∧
  (∀ k : Nat, k < 12 → D.atKey (.int .i64 (k : Int)) (.lit (.bool false)) = .lit (.bool (U.testBit k)) ∧ Maps.has D (.int .i64 (k : Int)) = U.testBit k) ∧ Maps.size D = pop 12 U

theorem IsSet.lt {w : World} {b U : Nat} (h : IsSet w b U) : b < w.heap.size := by obtain ⟨D, h1, _⟩ := h; exact h1.lt
theorem IsSet.same {w w' : World} {b U : Nat} (h : IsSet w b U) (hb : w'.heap[b]? = w.heap[b]?) : IsSet w' b U := by
  obtain ⟨D, ⟨es, clock, h0, h1⟩, h2⟩ := h
  exact ⟨D, ⟨es, clock, hb.trans h0, h1⟩, h2⟩
theorem IsSet.made (w : World) : IsSet (w.alloc (.map #[] 0)) w.heap.size 0 := by
  refine ⟨.map [], (World.ownsMap_made w _ _ _).mono (by decide), fun k _ => ?_, rfl⟩
  rw [Nat.zero_testBit]
  exact ⟨rfl, rfl⟩

theorem lit_ne {k j : Nat} (h : j ≠ k) : (Lit.int .i64 (j : Int)) ≠ .int .i64 (k : Int) := by
  intro e
  injection e with _ e2
  omega

theorem IsSet.put {w w' : World} {b U k : Nat} {D : DataW Unit} (hw : w.ownsMap Tryz.prog 3 (plainElem Tryz.prog 4) b 12 D) (hD : ∀ k : Nat, k < 12 → D.atKey (.int .i64 (k : Int)) (.lit (.bool false)) = .lit (.bool (U.testBit k)) ∧ Maps.has D (.int .i64 (k : Int)) = U.testBit k) (hs : Maps.size D = pop 12 U) (hk : k < 12)
    (h' : w'.ownsMap Tryz.prog 3 (plainElem Tryz.prog 4) b 13 (D.put (.int .i64 (k : Int)) (.lit (.bool true)))) : IsSet w' b (U ||| 2 ^ k) := by
  have hsz : Maps.size (D.put (.int .i64 (k : Int)) (.lit (.bool true))) = pop 12 (U ||| 2 ^ k) := by
    rw [Maps.size_put (hw.tidy keyInt), (hD k hk).2, hs, pop_or 12 U k hk]
    cases U.testBit k <;> rfl
  refine ⟨_, ?_, fun j hj => ?_, hsz⟩
  · obtain ⟨es, clock, h0, h1, _, h3⟩ := h'
    refine ⟨es, clock, h0, h1, ?_, h3⟩
    have e1 : Maps.size (D.put (.int .i64 (k : Int)) (.lit (.bool true))) = es.size := by rw [h3]; simp [Maps.size, length_sorted]
    rw [← e1, hsz]
    exact pop_le 12 _
  · rw [Nat.testBit_or, two_bit]
    by_cases e : j = k
    · subst e
      rw [Maps.atKey_put_same hw.isMap (by trivial), Maps.has_put_same hw.isMap (by trivial)]
      simp
    · rw [Maps.atKey_put_other (lit_ne e), Maps.has_put_other (lit_ne e), (hD j hj).1, (hD j hj).2, decide_eq_false (by omega)]
      simp

theorem keyAt (k : Nat) (hk : k < 12) : keyOf Tryz.prog 3 (.int .i64 (k : Int)) = some (.int .i64 (k : Int)) := keyOf_int_mk Tryz.underlying3 (WalkArith.wf_i64 (by omega))

theorem plainElem_bool_inv {P : Program} {e : TypeId} (he : P.underlying e = some .bool) {v : Value} {x : Bool} {ps : List MemPlace} (h : plainElem (H := Unit) P e v = some (.lit (.bool x), ps)) : v = .bool x := by
  unfold plainElem at h
  rw [he] at h
  cases v <;> simp at h
  rw [h.1]

end Go.Proofs.YtaablbmgagiajabGreatDoor
