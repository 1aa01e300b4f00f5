import Derived.WalkKit
namespace Go.Proofs.YtaablbmgagiajabGreatDoor
open Go.RowKit
def u64 (x : Int) : Nat := (x % 18446744073709551616).toNat
theorem u64_nat (n : Nat) (h : n < 9223372036854775808) : u64 (n : Int) = n := by unfold u64; omega
theorem u64_lt (x : Int) : u64 x < 18446744073709551616 := by unfold u64; omega
theorem ofInt64 (x : Int) : (BitVec.ofInt 64 x).toNat = u64 x := by simp [u64, BitVec.toNat_ofInt]
theorem wrap_small (n : Nat) (h : n < 9223372036854775808) : IntKind.i64.wrap (n : Int) = n := by
  simp [IntKind.wrap, IntKind.bits, IntKind.signed]
  omega
theorem and_left (x y : Int) (h : u64 x < 9223372036854775808) : bits .and .i64 x y = ((u64 x &&& u64 y : Nat) : Int) := by
  show IntKind.i64.wrap (((BitVec.ofInt 64 _ &&& BitVec.ofInt 64 _).toNat : Nat) : Int) = _
  rw [BitVec.toNat_and, ofInt64, ofInt64]
  exact wrap_small _ (Nat.lt_of_le_of_lt Nat.and_le_left h)
theorem and_right (x y : Int) (h : u64 y < 9223372036854775808) : bits .and .i64 x y = ((u64 x &&& u64 y : Nat) : Int) := by
  show IntKind.i64.wrap (((BitVec.ofInt 64 _ &&& BitVec.ofInt 64 _).toNat : Nat) : Int) = _
  rw [BitVec.toNat_and, ofInt64, ofInt64]
  exact wrap_small _ (Nat.lt_of_le_of_lt Nat.and_le_right h)
theorem or_nat (a b : Nat) (ha : a < 9223372036854775808) (hb : b < 9223372036854775808) : bits .or .i64 (a : Int) (b : Int) = ((a ||| b : Nat) : Int) := by
  show IntKind.i64.wrap (((BitVec.ofInt 64 _ ||| BitVec.ofInt 64 _).toNat : Nat) : Int) = _
  rw [BitVec.toNat_or, ofInt64, ofInt64]
  rw [u64_nat a ha, u64_nat b hb]
  exact wrap_small _ (Nat.or_lt_two_pow (n := 63) ha hb)
theorem and_nat (a b : Nat) (ha : a < 9223372036854775808) (hb : b < 9223372036854775808) : bits .and .i64 (a : Int) (b : Int) = ((a &&& b : Nat) : Int) := by
  rw [and_left _ _ (by rw [u64_nat a ha]; exact ha), u64_nat a ha, u64_nat b hb]
theorem two_pow_lt (n : Nat) (h : n ≤ 62) : 2 ^ n < 9223372036854775808 := Nat.lt_of_le_of_lt (Nat.pow_le_pow_right (by decide) h) (by decide)
theorem wrap_two_pow (n : Nat) (h : n ≤ 62) : wrap64 (2 ^ n) = ((2 ^ n : Nat) : Int) := by
  have hl := two_pow_lt n h
  have e : ((2 : Int) ^ n) = ((2 ^ n : Nat) : Int) := by simp
  rw [e]
  generalize 2 ^ n = p at *
  exact IntWalk.wrap64_in _ ⟨by omega, by omega⟩
theorem shr_bit (x : Int) (i : Nat) (h : i ≤ 62) : bits .and .i64 (x / 2 ^ i) 1 = ((u64 x / 2 ^ i % 2 : Nat) : Int) := by
  rw [and_right _ _ (by decide)]
  have e1 : u64 1 = 1 := by decide
  rw [e1, Nat.and_one_is_mod]
  have hb : ((2 : Int) ^ i) = ((2 ^ i : Nat) : Int) := by simp
  have hp : 0 < 2 ^ i := Nat.two_pow_pos i
  have hk : (18446744073709551616 : Nat) = 2 ^ i * (2 * 2 ^ (63 - i)) := by
    rw [show 2 * 2 ^ (63 - i) = 2 ^ (64 - i) by rw [show 64 - i = 63 - i + 1 by omega, Nat.pow_succ, Nat.mul_comm], ← Nat.pow_add, show i + (64 - i) = 64 by omega]
  rw [hb]
  generalize 2 ^ (63 - i) = m at *
  generalize 2 ^ i = p at *
  have hx : x = ((u64 x : Nat) : Int) + (p : Int) * (2 * ((m : Int) * (x / 18446744073709551616))) := by
    have h1 : x = ((u64 x : Nat) : Int) + 18446744073709551616 * (x / 18446744073709551616) := by unfold u64; omega
    have h2 : (18446744073709551616 : Int) = (p : Int) * (2 * (m : Int)) := by
      rw [show ((2 : Int) * (m : Int)) = ((2 * m : Nat) : Int) by omega, ← Int.natCast_mul, ← hk]
      omega
    calc x = ((u64 x : Nat) : Int) + 18446744073709551616 * (x / 18446744073709551616) := h1
      _ = ((u64 x : Nat) : Int) + (p : Int) * (2 * (m : Int)) * (x / 18446744073709551616) := by rw [← h2]
      _ = _ := by rw [Int.mul_assoc, Int.mul_assoc]
  have hd : x / (p : Int) = ((u64 x / p : Nat) : Int) + 2 * ((m : Int) * (x / 18446744073709551616)) := by
    conv => lhs; rw [hx]
    rw [Int.add_mul_ediv_left _ _ (by omega)]
    simp
  rw [hd]
  generalize (m : Int) * (x / 18446744073709551616) = q
  generalize u64 x / p = r
  unfold u64
  omega
def pop : Nat → Nat → Nat
  | 0, _ => 0
  | k + 1, s => pop k s + (if s.testBit k then 1 else 0)
theorem pop_le (k s : Nat) : pop k s ≤ k := by
  induction k with
  | zero => exact Nat.le_refl _
  | succ k ih => unfold pop; split <;> omega
theorem pop_congr (k s t : Nat) (h : ∀ i, i < k → s.testBit i = t.testBit i) : pop k s = pop k t := by
  induction k with
  | zero => rfl
  | succ k ih => unfold pop; rw [ih fun i hi => h i (by omega), h k (by omega)]
theorem testBit_eq (s i : Nat) : s / 2 ^ i % 2 = if s.testBit i then 1 else 0 := by
  rw [Nat.testBit_eq_decide_div_mod_eq]
  have := Nat.mod_two_eq_zero_or_one (s / 2 ^ i)
  split <;> simp_all
end Go.Proofs.YtaablbmgagiajabGreatDoor
