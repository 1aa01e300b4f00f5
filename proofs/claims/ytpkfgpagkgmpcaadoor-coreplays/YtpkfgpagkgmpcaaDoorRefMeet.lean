/- The contracts of triumvirref.Meet and of the closure in triumvirref.Conflicts. -/
import Derived.Test.YtpkfgpagkgmpcaaDoorRefSet
namespace Go.Proofs.YtpkfgpagkgmpcaaDoor
open Go.RowKit

/-- Two sets have one of the first n bits in common. -/
def commonTo (a b : Nat) : Nat → Bool
  | 0 => false
  | j + 1 => commonTo a b j || (a.testBit j && b.testBit j)
theorem commonTo_at (a b j n : Nat) (h : (a.testBit j && b.testBit j) = true) (hj : j < n) : commonTo a b n = true := by
  induction n with
  | zero => omega
  | succ n ih =>
    unfold commonTo
    by_cases e : j = n
    · subst e; rw [h]; simp
    · rw [ih (by omega)]; rfl

def InI64 (zs : List Int) : Prop := ∀ k : Nat, k < zs.length → -9223372036854775808 ≤ zs[k]?.getD 0 ∧ zs[k]?.getD 0 < 9223372036854775808

set_option maxHeartbeats 1000000 in
theorem meet_any (sn : Nat) (d : Int) (b off cap : Nat) (zs : List Int) (i k : Nat) (w : World) (hs : sn ≤ 12) (hi : i < zs.length) (hk : k < zs.length) (hb : b < w.heap.size) (hc : Row w b off zs) (hw : InI64 zs) :
    Calls Tryd.prog 33 #[.agg #[.int .i64 (sn : Int), .slice (some ⟨b, off, none⟩) zs.length cap, .int .i64 d], .int .i64 (i : Int), .int .i64 (k : Int)] w fun e w' => e = .returned (.bool (commonTo (u64 (zs[i]?.getD 0)) (u64 (zs[k]?.getD 0)) sn)) ∧ Below w.heap.size w w' := by
  obtain ⟨z, hz, hcz⟩ := Row.at hc hi
  obtain ⟨y, hy, hcy⟩ := Row.at hc hk
  have wz := hw i hi
  have wy := hw k hk
  rw [hz.out] at wz ⊢
  rw [hy.out] at wy ⊢
  obtain ⟨wz1, wz2⟩ := wz
  obtain ⟨wy1, wy2⟩ := wy
  have hhz := fun (wx : World) (j : Nat) (hj : j ≤ 62) => has_any z j wx wz1 wz2 hj
  have hhy := fun (wx : World) (j : Nat) (hj : j ≤ 62) => has_any y j wx wy1 wy2 hj
  have HZ := hide hhz
  have HY := hide hhy
  clear hc hw hhz hhy wz1 wz2 wy1 wy2
  go_enter Tryd.func33, Tryd.ntmps33
  go_wp2
  go_loop [10] (fun t => ∃ j : Nat, j ≤ sn ∧ t = .int .i64 j ∧ commonTo (u64 z) (u64 y) j = false) (fun t => sn - (intOf t).toNat)
  case atStart => exact ⟨0, Nat.zero_le _, rfl, rfl⟩
  case round =>
    obtain ⟨j, hj, rfl, hf⟩ := hrel
    have HF := hide hf
    clear hf
    by_cases hlt : j < sn
    · have hstep : commonTo (u64 z) (u64 y) (j + 1) = ((u64 z).testBit j && (u64 y).testBit j) := by rw [commonTo, HF.out, Bool.false_or]
      have HS := hide hstep
      have hat := fun h => commonTo_at (u64 z) (u64 y) j sn h hlt
      have HA := hide hat
      have h1 := fun (wx : World) => HZ.out wx j (by omega)
      have h2 := fun (wx : World) => HY.out wx j (by omega)
      clear hstep hat
      cases hb1 : (u64 z).testBit j
      · rw [hb1] at h1
        have H1 := hide h1
        have HB1 := hide hb1
        clear h1 h2 hb1
        go_wp2_with fail
        refine (H1.out _).mono ?_
        rintro e w' ⟨rfl, rfl⟩
        go_wp2
        go_round
        case rel => exact ⟨j + 1, by omega, by go_num, by rw [HS.out, HB1.out]; rfl⟩
        case measure => simp [intOf]; omega
      · cases hb2 : (u64 y).testBit j
        · rw [hb1] at h1
          rw [hb2] at h2
          have H1 := hide h1
          have H2 := hide h2
          have HB1 := hide hb1
          have HB2 := hide hb2
          clear h1 h2 hb1 hb2
          go_wp2_with fail
          refine (H1.out _).mono ?_
          rintro e w' ⟨rfl, rfl⟩
          go_wp2_with fail
          refine (H2.out _).mono ?_
          rintro e w' ⟨rfl, rfl⟩
          go_wp2
          go_round
          case rel => exact ⟨j + 1, by omega, by go_num, by rw [HS.out, HB1.out, HB2.out]; rfl⟩
          case measure => simp [intOf]; omega
        · rw [hb1] at h1
          rw [hb2] at h2
          have H1 := hide h1
          have H2 := hide h2
          have HB1 := hide hb1
          have HB2 := hide hb2
          clear h1 h2 hb1 hb2
          go_wp2_with fail
          refine (H1.out _).mono ?_
          rintro e w' ⟨rfl, rfl⟩
          go_wp2_with fail
          refine (H2.out _).mono ?_
          rintro e w' ⟨rfl, rfl⟩
          go_wp2
          go_ret
          exact ⟨ret_bool (HA.out (by rw [HB1.out, HB2.out]; rfl)).symm, (Below.refl _ _).alloc (Nat.le_refl _) _⟩
    · have hjs : sn = j := by omega
      have HF2 : Hid (commonTo (u64 z) (u64 y) sn = false) := by rw [hjs]; exact HF.out
      clear hjs HF
      go_wp2
      go_ret
      exact ⟨ret_bool HF2.out.symm, (Below.refl _ _).alloc (Nat.le_refl _) _⟩

/-- Route k is in conflict with route i. -/
def hitB (sn : Nat) (zs : List Int) (i k : Nat) : Bool := k != i && commonTo (u64 (zs[i]?.getD 0)) (u64 (zs[k]?.getD 0)) sn

set_option maxHeartbeats 1000000 in
theorem conf1_any (sn : Nat) (d : Int) (b off cap : Nat) (zs : List Int) (i k pi pl : Nat) (w : World) (hs : sn ≤ 12) (hi : i < zs.length) (hk : k < zs.length) (hb : b < w.heap.size) (hc : Row w b off zs) (hw : InI64 zs)
    (h0 : w.cell? ⟨pi, 0, none⟩ = some (.int .i64 (i : Int))) (l0 : w.cell? ⟨pl, 0, none⟩ = some (.int .i64 (sn : Int))) (l1 : w.cell? ⟨pl, 1, none⟩ = some (.slice (some ⟨b, off, none⟩) zs.length cap)) (l2 : w.cell? ⟨pl, 2, none⟩ = some (.int .i64 d)) :
    Calls Tryd.prog 32 #[.int .i64 (k : Int), .pointer (some ⟨pi, 0, none⟩), .pointer (some ⟨pl, 0, none⟩)] w fun e w' => e = .returned (.bool (hitB sn zs i k)) ∧ Below w.heap.size w w' := by
  have hm := meet_any sn d b off cap zs i k w hs hi hk hb hc hw
  have hh : hitB sn zs i k = (k != i && commonTo (u64 (zs[i]?.getD 0)) (u64 (zs[k]?.getD 0)) sn) := rfl
  obtain ⟨cb, hcb⟩ : ∃ cb, Hid (commonTo (u64 (zs[i]?.getD 0)) (u64 (zs[k]?.getD 0)) sn = cb) := ⟨_, hide rfl⟩
  rw [hcb.out] at hm hh
  have HM := hide hm
  clear hm
  have HH := hide hh
  clear hh hw hc
  cases hki : ((k : Int) != (i : Int))
  · have hki' : (k != i) = false := by (have h := hki; simp at h ⊢; omega)
    have HK := hide hki'
    clear hki'
    go_enter Tryd.func32, Tryd.ntmps32
    go_wp2
    go_ret
    exact ⟨ret_bool (by rw [HH.out, HK.out]; rfl), Below.refl _ _⟩
  · have hki' : (k != i) = true := by (have h := hki; simp at h ⊢; omega)
    have HK := hide hki'
    clear hki'
    go_enter Tryd.func32, Tryd.ntmps32
    go_wp2_with fail
    refine HM.out.mono ?_
    rintro e w1 ⟨rfl, hB⟩
    have HB := hide hB
    clear hB
    go_wp2
    go_ret
    exact ⟨ret_bool (by rw [HH.out, HK.out, Bool.true_and]), HB.out⟩

end Go.Proofs.YtpkfgpagkgmpcaaDoor
