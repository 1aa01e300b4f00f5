/- The contracts of triumvirref.Has and of triumvirref.Set over each of the document's closures. -/
import Derived.Test.YtbiacknbaefccaaDoorLeaf
import Derived.WalkSmall
namespace Go.Proofs.YtbiacknbaefccaaDoor
open Go.RowKit

theorem div_two_pow (m k : Nat) : m / 2 ^ k / 2 = m / 2 ^ (k + 1) := by rw [Nat.div_div_eq_div_mul, Nat.pow_succ]

set_option maxHeartbeats 400000 in
theorem has_nat (m i : Nat) (w : World) (hm : m < 9223372036854775808) (hi : i ≤ 62) :
    Calls Tryd.prog 64 #[.int .i64 (m : Int), .int .i64 (i : Int)] w fun e w' => e = .returned (.bool (m.testBit i)) ∧ w' = w := by
  go_enter Tryd.func64, Tryd.ntmps64
  go_wp2
  go_loop [0, 14] (fun n j => ∃ k : Nat, k ≤ i ∧ j = .int .i64 k ∧ ∃ q : Nat, q < 9223372036854775808 ∧ n = .int .i64 q ∧ Hid (m / 2 ^ k = q)) (fun _ j => i - (intOf j).toNat)
  case atStart => exact ⟨0, Nat.zero_le _, rfl, m, hm, rfl, by simp [Hid]⟩
  case round =>
    obtain ⟨k, hk, rfl, q, hq, rfl, Hq⟩ := hrel
    by_cases hlt : k < i
    · go_wp2
      go_round
      case rel => exact ⟨k + 1, by omega, by go_num, q / 2, by omega, by go_num, by rw [Hid, ← div_two_pow, Hq.out]⟩
      case measure => simp [intOf]; omega
    · have hki : k = i := by omega
      have ht : m.testBit i = decide (q % 2 = 1) := by rw [Nat.testBit_eq_decide_div_mod_eq, ← hki, Hq.out]
      have HT := hide ht
      clear ht hki Hq
      go_wp2
      go_ret
      refine ⟨ret_bool ?_, rfl⟩
      rw [HT.out, Bool.eq_iff_iff]
      simp
      omega

theorem u64_neg (n : Int) (h0 : n < 0) (h1 : -9223372036854775808 ≤ n) (i : Nat) (hi : i ≤ 62) : (u64 n).testBit i = !(((-(n + 1)).toNat).testBit i) := by
  have e : u64 n = 2 ^ 64 - ((-(n + 1)).toNat + 1) := by unfold u64; omega
  rw [e, Nat.testBit_two_pow_sub_succ (by omega)]
  simp [show i < 64 by omega]

set_option maxHeartbeats 400000 in
theorem has_any (n : Int) (i : Nat) (w : World) (h1 : -9223372036854775808 ≤ n) (h2 : n < 9223372036854775808) (hi : i ≤ 62) :
    Calls Tryd.prog 64 #[.int .i64 n, .int .i64 (i : Int)] w fun e w' => e = .returned (.bool ((u64 n).testBit i)) ∧ w' = w := by
  by_cases h0 : n < 0
  · obtain ⟨m, hm⟩ := Int.eq_ofNat_of_zero_le (show 0 ≤ -(n + 1) by omega)
    have hu := u64_neg n h0 h1 i hi
    rw [hm, Int.toNat_natCast] at hu
    have HU := hide hu
    have hn : n = -(m : Int) - 1 := by omega
    subst hn
    have hc := has_nat m i w (by omega) hi
    have HC := hide hc
    clear hc hu hm
    go_enter Tryd.func64, Tryd.ntmps64
    go_wp2_with fail
    refine HC.out.mono ?_
    rintro e w' ⟨rfl, hw'⟩
    subst w'
    go_wp2
    go_ret
    exact ⟨ret_bool HU.out.symm, rfl⟩
  · obtain ⟨m, rfl⟩ := Int.eq_ofNat_of_zero_le (show 0 ≤ n by omega)
    rw [u64_nat m (by omega)]
    exact has_nat m i w (by omega) hi

/-- A set of those that are so. -/
def setTo (p : Nat → Bool) : Nat → Nat
  | 0 => 0
  | k + 1 => if p k then setTo p k + 2 ^ k else setTo p k
theorem setTo_lt (p : Nat → Bool) (k : Nat) : setTo p k < 2 ^ k := by
  induction k with
  | zero => simp [setTo]
  | succ k ih => unfold setTo; rw [Nat.pow_succ]; split <;> omega

set_option maxHeartbeats 400000 in
theorem fit1_any (i : Nat) (x : Int) (bx : Nat) (w : World) (hi : i ≤ 62) (h1 : -9223372036854775808 ≤ x) (h2 : x < 9223372036854775808) (hc : w.cell? ⟨bx, 0, none⟩ = some (.int .i64 x)) :
    Calls Tryd.prog 63 #[.int .i64 (i : Int), .pointer (some ⟨bx, 0, none⟩)] w fun e w' => e = .returned (.bool ((u64 x).testBit i)) ∧ w' = w := by
  go_enter Tryd.func63, Tryd.ntmps63
  go_wp2_with (go_at_call 64; refine (has_any _ _ _ h1 h2 hi).mono ?_; rintro e w' ⟨rfl, hw'⟩; subst w')
  go_ret
  exact ⟨rfl, rfl⟩

set_option maxHeartbeats 400000 in
theorem fit2_any (i : Nat) (x : Int) (bx : Nat) (w : World) (hi : i ≤ 62) (h1 : -9223372036854775808 ≤ x) (h2 : x < 9223372036854775808) (hc : w.cell? ⟨bx, 1, none⟩ = some (.int .i64 x)) :
    Calls Tryd.prog 65 #[.int .i64 (i : Int), .pointer (some ⟨bx, 0, none⟩)] w fun e w' => e = .returned (.bool ((u64 x).testBit i)) ∧ w' = w := by
  go_enter Tryd.func65, Tryd.ntmps65
  go_wp2_with (go_at_call 64; refine (has_any _ _ _ h1 h2 hi).mono ?_; rintro e w' ⟨rfl, hw'⟩; subst w')
  go_ret
  exact ⟨rfl, rfl⟩

set_option maxHeartbeats 1000000 in
theorem set_conf (n : Nat) (c1 c2 : Value) (p : Nat → Bool) (w : World) (hn : n ≤ 12) (H : ∀ (i : Nat) (wx : World), i < n → Below w.heap.size w wx → Calls Tryd.prog 61 #[.int .i64 (i : Int), c1, c2] wx fun e w' => e = .returned (.bool (p i)) ∧ Below wx.heap.size wx w') :
    Calls Tryd.prog 46 #[.int .i64 (n : Int), .func (Fn.func 61) #[] #[c1, c2]] w fun e w' => e = .returned (.int .i64 ((setTo p n : Nat) : Int)) ∧ Below w.heap.size w w' := by
  have HH := hide H
  clear H
  go_enter Tryd.func46, Tryd.ntmps46
  go_wp2
  go_loopw [5, 6, 9] (fun m v i wr => Below w.heap.size w wr ∧ ∃ k : Nat, k ≤ n ∧ i = .int .i64 k ∧ (∃ a : Nat, a < 4096 ∧ m = .int .i64 a ∧ Hid (setTo p k = a)) ∧ ∃ b : Nat, b ≤ 4096 ∧ v = .int .i64 b ∧ Hid (2 ^ k = b)) (fun _ _ i _ => n - (intOf i).toNat)
  case atStart => exact ⟨Below.refl _ _, 0, Nat.zero_le _, rfl, ⟨0, by omega, rfl, rfl⟩, 1, by omega, rfl, rfl⟩
  case round =>
    obtain ⟨hB, k, hk, rfl, ⟨a, ha, rfl, Ha⟩, b, hb, rfl, Hb⟩ := hrel
    have HB := hide hB
    clear hB
    by_cases hlt : k < n
    · have hb2 : b * 2 ≤ 4096 := by
        have h1 : 2 ^ (k + 1) ≤ 2 ^ 12 := Nat.pow_le_pow_right (by decide) (by omega)
        have h2 : 2 ^ (k + 1) = b * 2 := by rw [Nat.pow_succ, Hb.out]
        omega
      have hab : a < b := by have := setTo_lt p k; rw [Ha.out, Hb.out] at this; exact this
      cases hp : p k
      · have HP := hide hp
        have hcall := HH.out k _ hlt HB.out
        rw [hp] at hcall
        have HC := hide hcall
        clear hcall hp
        go_wp2_with fail
        refine HC.out.mono ?_
        rintro e w1 ⟨rfl, hB1⟩
        have HB1 := hide (HB.out.trans (hB1.mono HB.out.size))
        clear hB1 HC HB
        go_wp2
        go_roundw
        case rel => exact ⟨HB1.out, k + 1, by omega, by go_num, ⟨a, ha, rfl, by rw [Hid, setTo, HP.out, ← Ha.out]; rfl⟩, b * 2, hb2, by go_num, by rw [Hid, Nat.pow_succ, Hb.out]⟩
        case measure => simp [intOf]; omega
      · have HP := hide hp
        have hcall := HH.out k _ hlt HB.out
        rw [hp] at hcall
        have HC := hide hcall
        clear hcall hp
        go_wp2_with fail
        refine HC.out.mono ?_
        rintro e w1 ⟨rfl, hB1⟩
        have HB1 := hide (HB.out.trans (hB1.mono HB.out.size))
        clear hB1 HC HB
        go_wp2
        go_roundw
        case rel => exact ⟨HB1.out, k + 1, by omega, by go_num, ⟨a + b, by omega, by go_num, by rw [Hid, setTo, HP.out, if_pos rfl, Ha.out, Hb.out]⟩, b * 2, hb2, by go_num, by rw [Hid, Nat.pow_succ, Hb.out]⟩
        case measure => simp [intOf]; omega
    · have hkn : k = n := by omega
      subst hkn
      go_wp2
      go_ret
      exact ⟨ret_int (by rw [Ha.out]), HB.out⟩

set_option maxHeartbeats 1000000 in
theorem set_fit1 (n : Nat) (c1 : Value) (p : Nat → Bool) (w : World) (hn : n ≤ 12) (H : ∀ (i : Nat), i < n → Calls Tryd.prog 63 #[.int .i64 (i : Int), c1] w fun e w' => e = .returned (.bool (p i)) ∧ w' = w) :
    Calls Tryd.prog 46 #[.int .i64 (n : Int), .func (Fn.func 63) #[] #[c1]] w fun e w' => e = .returned (.int .i64 ((setTo p n : Nat) : Int)) ∧ w' = w := by
  have HH := hide H
  clear H
  go_enter Tryd.func46, Tryd.ntmps46
  go_wp2
  go_loopw [5, 6, 9] (fun m v i wr => wr = w ∧ ∃ k : Nat, k ≤ n ∧ i = .int .i64 k ∧ (∃ a : Nat, a < 4096 ∧ m = .int .i64 a ∧ Hid (setTo p k = a)) ∧ ∃ b : Nat, b ≤ 4096 ∧ v = .int .i64 b ∧ Hid (2 ^ k = b)) (fun _ _ i _ => n - (intOf i).toNat)
  case atStart => exact ⟨rfl, 0, Nat.zero_le _, rfl, ⟨0, by omega, rfl, rfl⟩, 1, by omega, rfl, rfl⟩
  case round =>
    obtain ⟨rfl, k, hk, rfl, ⟨a, ha, rfl, Ha⟩, b, hb, rfl, Hb⟩ := hrel
    by_cases hlt : k < n
    · have hb2 : b * 2 ≤ 4096 := by
        have h1 : 2 ^ (k + 1) ≤ 2 ^ 12 := Nat.pow_le_pow_right (by decide) (by omega)
        have h2 : 2 ^ (k + 1) = b * 2 := by rw [Nat.pow_succ, Hb.out]
        omega
      have hab : a < b := by have := setTo_lt p k; rw [Ha.out, Hb.out] at this; exact this
      cases hp : p k
      · have HP := hide hp
        have hcall := HH.out k hlt
        rw [hp] at hcall
        have HC := hide hcall
        clear hcall hp
        go_wp2_with fail
        refine HC.out.mono ?_
        rintro e w1 ⟨rfl, hw1⟩
        subst w1
        clear HC
        go_wp2
        go_roundw
        case rel => exact ⟨trivial, k + 1, by omega, by go_num, ⟨a, ha, rfl, by rw [Hid, setTo, HP.out, ← Ha.out]; rfl⟩, b * 2, hb2, by go_num, by rw [Hid, Nat.pow_succ, Hb.out]⟩
        case measure => simp [intOf]; omega
      · have HP := hide hp
        have hcall := HH.out k hlt
        rw [hp] at hcall
        have HC := hide hcall
        clear hcall hp
        go_wp2_with fail
        refine HC.out.mono ?_
        rintro e w1 ⟨rfl, hw1⟩
        subst w1
        clear HC
        go_wp2
        go_roundw
        case rel => exact ⟨trivial, k + 1, by omega, by go_num, ⟨a + b, by omega, by go_num, by rw [Hid, setTo, HP.out, if_pos rfl, Ha.out, Hb.out]⟩, b * 2, hb2, by go_num, by rw [Hid, Nat.pow_succ, Hb.out]⟩
        case measure => simp [intOf]; omega
    · have hkn : k = n := by omega
      subst hkn
      go_wp2
      go_ret
      exact ⟨ret_int (by rw [Ha.out]), rfl⟩

set_option maxHeartbeats 1000000 in
theorem set_fit2 (n : Nat) (c1 : Value) (p : Nat → Bool) (w : World) (hn : n ≤ 12) (H : ∀ (i : Nat), i < n → Calls Tryd.prog 65 #[.int .i64 (i : Int), c1] w fun e w' => e = .returned (.bool (p i)) ∧ w' = w) :
    Calls Tryd.prog 46 #[.int .i64 (n : Int), .func (Fn.func 65) #[] #[c1]] w fun e w' => e = .returned (.int .i64 ((setTo p n : Nat) : Int)) ∧ w' = w := by
  have HH := hide H
  clear H
  go_enter Tryd.func46, Tryd.ntmps46
  go_wp2
  go_loopw [5, 6, 9] (fun m v i wr => wr = w ∧ ∃ k : Nat, k ≤ n ∧ i = .int .i64 k ∧ (∃ a : Nat, a < 4096 ∧ m = .int .i64 a ∧ Hid (setTo p k = a)) ∧ ∃ b : Nat, b ≤ 4096 ∧ v = .int .i64 b ∧ Hid (2 ^ k = b)) (fun _ _ i _ => n - (intOf i).toNat)
  case atStart => exact ⟨rfl, 0, Nat.zero_le _, rfl, ⟨0, by omega, rfl, rfl⟩, 1, by omega, rfl, rfl⟩
  case round =>
    obtain ⟨rfl, k, hk, rfl, ⟨a, ha, rfl, Ha⟩, b, hb, rfl, Hb⟩ := hrel
    by_cases hlt : k < n
    · have hb2 : b * 2 ≤ 4096 := by
        have h1 : 2 ^ (k + 1) ≤ 2 ^ 12 := Nat.pow_le_pow_right (by decide) (by omega)
        have h2 : 2 ^ (k + 1) = b * 2 := by rw [Nat.pow_succ, Hb.out]
        omega
      have hab : a < b := by have := setTo_lt p k; rw [Ha.out, Hb.out] at this; exact this
      cases hp : p k
      · have HP := hide hp
        have hcall := HH.out k hlt
        rw [hp] at hcall
        have HC := hide hcall
        clear hcall hp
        go_wp2_with fail
        refine HC.out.mono ?_
        rintro e w1 ⟨rfl, hw1⟩
        subst w1
        clear HC
        go_wp2
        go_roundw
        case rel => exact ⟨trivial, k + 1, by omega, by go_num, ⟨a, ha, rfl, by rw [Hid, setTo, HP.out, ← Ha.out]; rfl⟩, b * 2, hb2, by go_num, by rw [Hid, Nat.pow_succ, Hb.out]⟩
        case measure => simp [intOf]; omega
      · have HP := hide hp
        have hcall := HH.out k hlt
        rw [hp] at hcall
        have HC := hide hcall
        clear hcall hp
        go_wp2_with fail
        refine HC.out.mono ?_
        rintro e w1 ⟨rfl, hw1⟩
        subst w1
        clear HC
        go_wp2
        go_roundw
        case rel => exact ⟨trivial, k + 1, by omega, by go_num, ⟨a + b, by omega, by go_num, by rw [Hid, setTo, HP.out, if_pos rfl, Ha.out, Hb.out]⟩, b * 2, hb2, by go_num, by rw [Hid, Nat.pow_succ, Hb.out]⟩
        case measure => simp [intOf]; omega
    · have hkn : k = n := by omega
      subst hkn
      go_wp2
      go_ret
      exact ⟨ret_int (by rw [Ha.out]), rfl⟩

end Go.Proofs.YtbiacknbaefccaaDoor
