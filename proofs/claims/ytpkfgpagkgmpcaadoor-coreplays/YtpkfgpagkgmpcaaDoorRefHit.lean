/- Routes that meet others that are set; what the reference's set of signals is. -/
import Derived.Test.YtpkfgpagkgmpcaaDoorRefInv
import Derived.Test.YtpkfgpagkgmpcaaDoorRefMeet
import Derived.Test.YtpkfgpagkgmpcaaDoorRefMath
namespace Go.Proofs.YtpkfgpagkgmpcaaDoor
open Go.RowKit Go.Deep

/-- Routes that are set, and meet route i. -/
def hitTo (zs : List Int) (m i : Nat) : Nat → Bool
  | 0 => false
  | k + 1 => hitTo zs m i k || (m.testBit k && (k != i && (rt zs i &&& rt zs k != 0)))
theorem hit_iff (zs : List Int) (m i n : Nat) : hitTo zs m i n = true ↔ ∃ k, k < n ∧ m.testBit k = true ∧ k ≠ i ∧ rt zs i &&& rt zs k ≠ 0 := by
  induction n with
  | zero => simp [hitTo]
  | succ n ih =>
    unfold hitTo
    rw [Bool.or_eq_true, ih]
    simp only [Bool.and_eq_true, bne_iff_ne]
    constructor
    · rintro (⟨k, h1, h2⟩ | ⟨h1, h2, h3⟩)
      · exact ⟨k, by omega, h2⟩
      · exact ⟨n, by omega, h1, h2, h3⟩
    · rintro ⟨k, h1, h2, h3, h4⟩
      by_cases e : k = n
      · subst e; exact .inr ⟨h2, h3, h4⟩
      · exact .inl ⟨k, by omega, h2, h3, h4⟩
theorem free_same {zs : List Int} {s d : Int} {c v i m : Nat} (hok : checkF s zs d = (0, -1)) (hi : i < zs.length) (hm : m < 2 ^ zs.length) :
    (if freeB (rt zs i) (conf zs i) c v i m then m ||| 2 ^ i else m) = if ((v.testBit i && !m.testBit i) && (wo (rt zs i) c == 0)) && !hitTo zs m i zs.length then m ||| 2 ^ i else m := by
  have hc : (m &&& conf zs i == 0) = !hitTo zs m i zs.length := by
    rw [Bool.eq_iff_iff, beq_iff_eq, Bool.not_eq_true', ← Bool.not_eq_true, hit_iff]
    constructor
    · rintro h0 ⟨k, hk, h1, h2, h3⟩
      have := congrArg (fun x => x.testBit k) h0
      simp only [Nat.testBit_and, Nat.zero_testBit, h1, Bool.true_and] at this
      have h4 := (conf_conf hok i k hi hk).2 ⟨fun e => h2 e.symm, h3⟩
      exact absurd (h4.symm.trans this) (by decide)
    · intro h
      apply Nat.eq_of_testBit_eq
      intro k
      rw [Nat.testBit_and, Nat.zero_testBit]
      by_cases hk : k < zs.length
      · cases h1 : m.testBit k
        · rfl
        · cases h2 : (conf zs i).testBit k
          · rfl
          · obtain ⟨a1, a2⟩ := (conf_conf hok i k hi hk).1 h2
            exact absurd ⟨k, hk, h1, fun e => a1 e.symm, a2⟩ h
      · rw [Nat.testBit_lt_two_pow (Nat.lt_of_lt_of_le hm (Nat.pow_le_pow_right (by decide) (by omega)))]; rfl
  unfold freeB
  rw [hc]
  cases hb : m.testBit i
  · cases v.testBit i <;> cases (wo (rt zs i) c == 0) <;> cases hitTo zs m i zs.length <;> rfl
  · have e : m ||| 2 ^ i = m := by
      apply Nat.eq_of_testBit_eq
      intro k
      rw [Nat.testBit_or, two_bit]
      by_cases ek : i = k
      · subst ek; rw [hb]; rfl
      · rw [decide_eq_false ek]; simp
    rw [e]
    split <;> split <;> rfl

theorem meet_core {sn d n b off cp i k : Nat} {zs : List Int} {w : World} (hok : checkF (sn : Int) zs (d : Int) = (0, -1)) (hn : zs.length = n) (hi : i < n) (hk : k < n) (hb : b < w.heap.size) (hc : Row w b off zs) :
    Calls Tryd.prog 33 #[.agg #[.int .i64 (sn : Int), .slice (some ⟨b, off, none⟩) n cp, .int .i64 (d : Int)], .int .i64 (i : Int), .int .i64 (k : Int)] w fun e w' => e = .returned (.bool (rt zs i &&& rt zs k != 0)) ∧ Below w.heap.size w w' := by
  have hr := range_pos hok
  unfold rangeB at hr
  simp only [Bool.and_eq_true, inB_iff] at hr
  obtain ⟨h1, h2, h3, _⟩ := rt_in hok (show i < zs.length by omega)
  obtain ⟨h4, _, h6, _⟩ := rt_in hok (show k < zs.length by omega)
  have hw : InI64 zs := fun j hj => by have := (rt_in hok hj); omega
  have := meet_any sn (d : Int) b off cp zs i k w (by omega) (by omega) (by omega) hb hc hw
  rw [h1, h4, u64_nat _ (by omega), u64_nat _ (by omega), commonTo_iff _ _ _ (by rw [Int.toNat_natCast] at h2; exact h2), hn] at this
  exact this
theorem show_same {sn d n c v : Nat} {B : Int} {zs : List Int} {X : St} (hok : checkF (sn : Int) zs (d : Int) = (0, -1)) (hn : zs.length = n) (hX : Good (rt zs) n B X) (hB : B ≤ 1000000000) :
    setTo (fun j => ((X.set.testBit j && v.testBit j) && (((pop 12 (X.used j) : Nat) : Int) == 0)) && (((pop sn (wo (rt zs j) c) : Nat) : Int) == 0)) n = showTo (rt zs) c v X n := by
  apply Nat.eq_of_testBit_eq
  intro j
  rw [setTo_bit, showTo_bit]
  by_cases hj : j < n
  · have h2 := (rt_in hok (show j < zs.length by omega)).2.1
    rw [Int.toNat_natCast] at h2
    have hu : X.used j < 2 ^ 12 := (good_ok hok (by rw [hn]; exact hX) hB).used j
    unfold showB
    rw [nat_beq, nat_beq, pop_none (wo_lt _ h2), pop_none hu, Nat.testBit_and, Bool.and_assoc (_ && _)]
  · rw [decide_eq_false hj]; rfl

theorem nat_beq2 (a b : Nat) : ((a : Int) == (b : Int)) = (a == b) := by rw [Bool.eq_iff_iff, beq_iff_eq, beq_iff_eq]; omega

end Go.Proofs.YtpkfgpagkgmpcaaDoor
