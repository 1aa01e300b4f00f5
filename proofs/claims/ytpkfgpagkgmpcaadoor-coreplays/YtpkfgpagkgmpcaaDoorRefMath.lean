/- The document's sets, conflicts and greatest number of routes are the program's. No program is walked here. -/
import Derived.Test.YtpkfgpagkgmpcaaDoorSets
import Derived.Test.YtpkfgpagkgmpcaaDoorRefConf
import Derived.Test.YtpkfgpagkgmpcaaDoorRefMost
namespace Go.Proofs.YtpkfgpagkgmpcaaDoor
open Go.RowKit

theorem setTo_bit (p : Nat → Bool) (n k : Nat) : (setTo p n).testBit k = (decide (k < n) && p k) := by
  induction n with
  | zero => simp [setTo]
  | succ n ih =>
    have hlt := setTo_lt p n
    have hd : k ≠ n → decide (k < n + 1) = decide (k < n) := fun h => by rw [decide_eq_decide]; omega
    unfold setTo
    cases hp : p n
    · simp only [Bool.false_eq_true, if_false]
      by_cases e : k = n
      · subst e; rw [ih, hp]; simp
      · rw [ih, hd e]
    · rw [if_pos rfl, Nat.add_comm, ← nat_join n (2 ^ n) (setTo p n) (Nat.mod_self _) hlt, Nat.testBit_or, ih]
      by_cases e : k = n
      · subst e; rw [Nat.testBit_two_pow_self, hp]; simp
      · rw [Nat.testBit_two_pow_of_ne (Ne.symm e), hd e]; simp

theorem fit_bits (x : Int) (n : Nat) (h : n ≤ 12) : bits .and .i64 x (top (n : Int)) = ((setTo (fun i => (u64 x).testBit i) n : Nat) : Int) := by
  have hp : 2 ^ n ≤ 2 ^ 12 := Nat.pow_le_pow_right (by decide) h
  have hq : 0 < 2 ^ n := Nat.two_pow_pos n
  have ht : u64 (top (n : Int)) = 2 ^ n - 1 := by
    unfold top
    rw [Int.toNat_natCast]
    exact u64_nat _ (by omega)
  rw [and_right _ _ (by rw [ht]; omega), ht]
  congr 1
  apply Nat.eq_of_testBit_eq
  intro i
  rw [Nat.testBit_and, Nat.testBit_two_pow_sub_one, setTo_bit, Bool.and_comm]

theorem commonTo_iff (a b n : Nat) (ha : a < 2 ^ n) : commonTo a b n = (a &&& b != 0) := by
  rw [Bool.eq_iff_iff, bne_iff_ne]
  constructor
  · intro h e
    have : ∀ m, commonTo a b m = false := by
      intro m
      induction m with
      | zero => rfl
      | succ m ih =>
        unfold commonTo
        rw [ih, ← Nat.testBit_and, e]
        simp
    rw [this n] at h
    exact absurd h (by decide)
  · intro h
    obtain ⟨i, hi⟩ := Nat.exists_testBit_of_ne_zero h
    rw [Nat.testBit_and] at hi
    by_cases hin : i < n
    · exact commonTo_at a b i n hi hin
    · rw [Nat.testBit_lt_two_pow (Nat.lt_of_lt_of_le ha (Nat.pow_le_pow_right (by decide) (by omega)))] at hi
      simp at hi

/-- The routes as sets. -/
def routes (zs : List Int) : List Nat := zs.map Int.toNat
theorem routes_length (zs : List Int) : (routes zs).length = zs.length := by simp [routes]
theorem routes_get (zs : List Int) (k : Nat) : (routes zs)[k]?.getD 0 = (zs[k]?.getD 0).toNat := by
  unfold routes
  rw [List.getElem?_map]
  cases zs[k]? <;> rfl

/-- What Check says of the routes. -/
theorem good_routes {s : Int} {zs : List Int} {d : Int} (h : checkF s zs d = (0, -1)) (k : Nat) (hk : k < zs.length) : 1 ≤ zs[k]?.getD 0 ∧ zs[k]?.getD 0 ≤ top s := by
  have hr := range_pos h
  unfold checkF at h
  rw [if_pos hr] at h
  have hn : firstTo (badAt s zs) zs.length = none := by
    cases hf : firstTo (badAt s zs) zs.length with
    | none => rfl
    | some i => rw [hf] at h; simp at h
  have hall : ∀ n, firstTo (badAt s zs) n = none → ∀ k, k < n → badAt s zs k = false := by
    intro n
    induction n with
    | zero => intro _ k hk; omega
    | succ n ih =>
      intro hn k hk
      unfold firstTo at hn
      cases hf : firstTo (badAt s zs) n with
      | some i => rw [hf] at hn; simp at hn
      | none =>
        rw [hf] at hn
        by_cases e : k = n
        · subst e
          cases hb : badAt s zs k
          · rfl
          · rw [hb] at hn; simp at hn
        · exact ih hf k (by omega)
  have := hall _ hn k hk
  unfold badAt at this
  exact (inB_iff _ _ _).1 (by simpa using this)

theorem top_nat (s : Nat) : top (s : Int) = ((2 ^ s - 1 : Nat) : Int) := by unfold top; rw [Int.toNat_natCast]

theorem route_u64 {s : Nat} {zs : List Int} {d : Int} (h : checkF s zs d = (0, -1)) (hs : s ≤ 12) (k : Nat) (hk : k < zs.length) : u64 (zs[k]?.getD 0) = (routes zs)[k]?.getD 0 ∧ (routes zs)[k]?.getD 0 < 2 ^ s := by
  have hg := good_routes h k hk
  have hp : 2 ^ s ≤ 2 ^ 12 := Nat.pow_le_pow_right (by decide) hs
  have hq : 0 < 2 ^ s := Nat.two_pow_pos s
  rw [routes_get, top_nat] at *
  generalize zs[k]?.getD 0 = z at *
  generalize 2 ^ s = p at *
  unfold u64
  omega

theorem meets_routes {s : Nat} {zs : List Int} {d : Int} (h : checkF s zs d = (0, -1)) (hs : s ≤ 12) (i k : Nat) (hi : i < zs.length) (hk : k < zs.length) : meets zs i k = ((routes zs)[i]?.getD 0 &&& (routes zs)[k]?.getD 0 != 0) := by
  obtain ⟨a1, a2⟩ := route_u64 h hs i hi
  obtain ⟨b1, b2⟩ := route_u64 h hs k hk
  have hp : 2 ^ s ≤ 2 ^ 12 := Nat.pow_le_pow_right (by decide) hs
  unfold meets
  rw [and_left _ _ (by rw [a1]; omega), a1, b1]
  generalize (routes zs)[i]?.getD 0 &&& (routes zs)[k]?.getD 0 = m
  rw [Bool.eq_iff_iff, bne_iff_ne, bne_iff_ne]
  omega

/-- The document's conflicts are the program's. -/
theorem hits_conf {s : Nat} {zs : List Int} {d : Int} (h : checkF s zs d = (0, -1)) (hs : s ≤ 12) (i : Nat) (hi : i < zs.length) : hits s zs i = conf zs i := by
  apply Nat.eq_of_testBit_eq
  intro k
  unfold hits conf
  rw [setTo_bit, confTo_bit]
  by_cases hk : k < zs.length
  · obtain ⟨a1, a2⟩ := route_u64 h hs i hi
    obtain ⟨b1, _⟩ := route_u64 h hs k hk
    unfold hitB
    rw [meets_routes h hs i k hi hk, a1, b1, commonTo_iff _ _ _ a2]
    congr 2
    rw [Bool.eq_iff_iff, bne_iff_ne, bne_iff_ne]
    exact ⟨Ne.symm, Ne.symm⟩
  · simp [hk]

theorem hitsTo_confs {s : Nat} {zs : List Int} {d : Int} (h : checkF s zs d = (0, -1)) (hs : s ≤ 12) : hitsTo s zs zs.length = confs zs := by
  unfold hitsTo confs
  exact List.map_congr_left fun i hi => hits_conf h hs i (List.mem_range.1 hi)

end Go.Proofs.YtpkfgpagkgmpcaaDoor
