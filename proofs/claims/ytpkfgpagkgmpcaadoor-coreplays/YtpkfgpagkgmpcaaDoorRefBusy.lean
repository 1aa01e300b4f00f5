/- The contracts of the closures of the reference's Step: how many sections of a route are busy; whether a signal shows proceed. -/
import Derived.Test.YtpkfgpagkgmpcaaDoorRefState
namespace Go.Proofs.YtpkfgpagkgmpcaaDoor
open Go.RowKit Go.Deep

/-- What the reference's Step reads: its core, and its input, each behind a block of its own. -/
structure Sees (w : World) (bc bx pr sn n b off cp r i c : Nat) : Prop where
  pc : w.cell? ⟨bc, 0, none⟩ = some (.pointer (some ⟨pr, 0, none⟩))
  p0 : w.cell? ⟨pr, 0, none⟩ = some (.int .i64 (sn : Int))
  p1 : w.cell? ⟨pr, 1, none⟩ = some (.slice (some ⟨b, off, none⟩) n cp)
  rc : w.cell? ⟨b, off + i, none⟩ = some (.int .i64 (r : Int))
  xc : w.cell? ⟨bx, 0, none⟩ = some (.int .i64 (c : Int))

theorem pop_step' (k U : Nat) : pop (k + 1) U = pop k U + (if U.testBit k then 1 else 0) := rfl

set_option maxHeartbeats 2000000 in
theorem busy_any (i bc bx pr sn n b off cp r c : Nat) (w : World) (h : Sees w bc bx pr sn n b off cp r i c) (hi : i < n) (hs : sn ≤ 12) (hr : r < 4096) (hc : c < 4096) :
    Calls Tryd.prog 40 #[.int .i64 (i : Int), .pointer (some ⟨bc, 0, none⟩), .pointer (some ⟨bx, 0, none⟩)] w fun e w' => e = .returned (.tuple #[.int .i64 ((pop sn (wo r c) : Nat) : Int), .int .i64 ((pop sn r : Nat) : Int)]) ∧ w' = w := by
  obtain ⟨pc, p0, p1, rc, xc⟩ := h
  go_enter Tryd.func40, Tryd.ntmps40
  go_wp2
  go_loopw [4, 5, 12] (fun m t j wr => wr = w ∧ ∃ k : Nat, k ≤ sn ∧ j = .int .i64 k ∧ (∃ a : Nat, a ≤ 12 ∧ m = .int .i64 a ∧ Hid (pop k (wo r c) = a)) ∧ ∃ a : Nat, a ≤ 12 ∧ t = .int .i64 a ∧ Hid (pop k r = a)) (fun _ _ j _ => sn - (intOf j).toNat)
  case atStart => exact ⟨rfl, 0, Nat.zero_le _, rfl, ⟨0, by omega, rfl, rfl⟩, 0, by omega, rfl, rfl⟩
  case round =>
    obtain ⟨rfl, k, hk, rfl, ⟨m, hm, rfl, Hm⟩, t, ht, rfl, Ht⟩ := hrel
    by_cases hlt : k < sn
    · have h1 := fun wx => has_nat r k wx (by omega) (by omega)
      have h2 := fun wx => has_nat c k wx (by omega) (by omega)
      have s1 := pop_step' k (wo r c)
      rw [wo_bit, Hm.out] at s1
      have s2 := pop_step' k r
      rw [Ht.out] at s2
      have l1 := pop_le (k + 1) (wo r c)
      have l2 := pop_le (k + 1) r
      cases hb : r.testBit k
      · rw [hb] at h1 s1 s2
        simp only [Bool.false_and, Bool.false_eq_true, if_false, Nat.add_zero] at s1 s2
        have H1 := hide h1
        have S1 := hide s1
        have S2 := hide s2
        clear h1 h2 s1 s2 hb l1 l2
        go_wp2_with (go_at_call 35; refine (unhide H1 _).mono ?_; rintro e w' ⟨rfl, hw⟩; obtain rfl := hw.symm)
        go_roundw
        case rel => exact ⟨trivial, k + 1, by omega, by go_num, ⟨m, hm, rfl, S1.out⟩, t, ht, rfl, S2.out⟩
        case measure => simp [intOf]; omega
      · cases hcb : c.testBit k
        · rw [hb] at h1 s1 s2
          rw [hcb] at h2 s1
          simp only [Bool.not_false, Bool.and_self, if_true] at s1 s2
          have H1 := hide h1
          have H2 := hide h2
          have S1 := hide s1
          have S2 := hide s2
          rw [s1] at l1
          rw [s2] at l2
          clear h1 h2 s1 s2 hb hcb
          go_wp2_with (first
            | (go_at_call_of 35 (Value.int IntKind.i64 (r : Int)); refine (unhide H1 _).mono ?_; rintro e w' ⟨rfl, hw⟩; obtain rfl := hw.symm)
            | (go_at_call 35; refine (unhide H2 _).mono ?_; rintro e w' ⟨rfl, hw⟩; obtain rfl := hw.symm))
          go_roundw
          case rel => exact ⟨trivial, k + 1, by omega, by go_num, ⟨m + 1, by omega, by go_num, S1.out⟩, t + 1, by omega, by go_num, S2.out⟩
          case measure => simp [intOf]; omega
        · rw [hb] at h1 s1 s2
          rw [hcb] at h2 s1
          simp only [Bool.not_true, Bool.and_false, Bool.false_eq_true, if_false, if_true, Nat.add_zero] at s1 s2
          have H1 := hide h1
          have H2 := hide h2
          have S1 := hide s1
          have S2 := hide s2
          rw [s2] at l2
          clear h1 h2 s1 s2 hb hcb
          go_wp2_with (first
            | (go_at_call_of 35 (Value.int IntKind.i64 (r : Int)); refine (unhide H1 _).mono ?_; rintro e w' ⟨rfl, hw⟩; obtain rfl := hw.symm)
            | (go_at_call 35; refine (unhide H2 _).mono ?_; rintro e w' ⟨rfl, hw⟩; obtain rfl := hw.symm))
          go_roundw
          case rel => exact ⟨trivial, k + 1, by omega, by go_num, ⟨m, hm, rfl, S1.out⟩, t + 1, by omega, by go_num, S2.out⟩
          case measure => simp [intOf]; omega
    · have hks : k = sn := by omega
      subst hks
      go_wp2
      go_ret2
      exact ⟨by rw [Hm.out, Ht.out]; rfl, rfl⟩

set_option maxHeartbeats 1000000 in
theorem set_step (n : Nat) (c1 c2 c3 : Value) (p : Nat → Bool) (w : World) (hn : n ≤ 12) (H : ∀ (i : Nat), i < n → Calls Tryd.prog 41 #[.int .i64 (i : Int), c1, c2, c3] w fun e w' => e = .returned (.bool (p i)) ∧ w' = w) :
    Calls Tryd.prog 31 #[.int .i64 (n : Int), .func (Fn.func 41) #[] #[c1, c2, c3]] w fun e w' => e = .returned (.int .i64 ((setTo p n : Nat) : Int)) ∧ w' = w := by
  have HH := hide H
  clear H
  go_enter Tryd.func31, Tryd.ntmps31
  go_wp2
  go_loopw [5, 6, 9] (fun m v i wr => wr = w ∧ ∃ k : Nat, k ≤ n ∧ i = .int .i64 k ∧ (∃ a : Nat, a < 4096 ∧ m = .int .i64 a ∧ Hid (setTo p k = a)) ∧ ∃ b : Nat, b ≤ 4096 ∧ v = .int .i64 b ∧ Hid (2 ^ k = b)) (fun _ _ i _ => n - (intOf i).toNat)
  case atStart => exact ⟨rfl, 0, Nat.zero_le _, rfl, ⟨0, by omega, rfl, rfl⟩, 1, by omega, rfl, rfl⟩
  case round =>
    obtain ⟨rfl, k, hk, rfl, ⟨a, ha, rfl, Ha⟩, b, hb, rfl, Hb⟩ := hrel
    by_cases hlt : k < n
    · have hb2 : b * 2 ≤ 4096 := by
        have h1 : 2 ^ (k + 1) ≤ 2 ^ 12 := Nat.pow_le_pow_right (by decide) (by omega)
        have h2 : 2 ^ (k + 1) = b * 2 := by rw [Nat.pow_succ, Hb.out]
        omega
      have hab : a < b := by have := setTo_lt p k; rw [Ha.out, Hb.out] at this; exact this
      cases hp : p k
      · have HP := hide hp
        have hcall := HH.out k hlt
        rw [hp] at hcall
        have HC := hide hcall
        clear hcall hp
        go_wp2_with fail
        refine HC.out.mono ?_
        rintro e w1 ⟨rfl, hw1⟩
        subst w1
        clear HC
        go_wp2
        go_roundw
        case rel => exact ⟨trivial, k + 1, by omega, by go_num, ⟨a, ha, rfl, by rw [Hid, setTo, HP.out, ← Ha.out]; rfl⟩, b * 2, hb2, by go_num, by rw [Hid, Nat.pow_succ, Hb.out]⟩
        case measure => simp [intOf]; omega
      · have HP := hide hp
        have hcall := HH.out k hlt
        rw [hp] at hcall
        have HC := hide hcall
        clear hcall hp
        go_wp2_with fail
        refine HC.out.mono ?_
        rintro e w1 ⟨rfl, hw1⟩
        subst w1
        clear HC
        go_wp2
        go_roundw
        case rel => exact ⟨trivial, k + 1, by omega, by go_num, ⟨a + b, by omega, by go_num, by rw [Hid, setTo, HP.out, if_pos rfl, Ha.out, Hb.out]⟩, b * 2, hb2, by go_num, by rw [Hid, Nat.pow_succ, Hb.out]⟩
        case measure => simp [intOf]; omega
    · have hkn : k = n := by omega
      subst hkn
      go_wp2
      go_ret
      exact ⟨ret_int (by rw [Ha.out]), rfl⟩


set_option maxHeartbeats 2000000 in
theorem proceeds_any (i bf bc bx pr sn n b off cp gr cr r c v bmi U : Nat) (sb : Bool) (w : World) (h : Sees w bc bx pr sn n b off cp r i c) (hi : i < n) (hn : n ≤ 8) (hs : sn ≤ 12) (hr : r < 4096) (hc : c < 4096) (hv : v < 256)
    (hf : w.cell? ⟨bf, 0, none⟩ = some (.func (Fn.func 40) #[] #[.pointer (some ⟨bc, 0, none⟩), .pointer (some ⟨bx, 0, none⟩)]))
    (p3 : w.cell? ⟨pr, 3, none⟩ = some (.slice (some ⟨gr, 0, none⟩) n cr)) (q0 : w.cell? ⟨gr, i * 3, none⟩ = some (.bool sb)) (q1 : w.cell? ⟨gr, i * 3 + 1, none⟩ = some (.map (some bmi))) (x1 : w.cell? ⟨bx, 1, none⟩ = some (.int .i64 (v : Int))) (hS : IsSet w bmi U) :
    Calls Tryd.prog 41 #[.int .i64 (i : Int), .pointer (some ⟨bf, 0, none⟩), .pointer (some ⟨bc, 0, none⟩), .pointer (some ⟨bx, 0, none⟩)] w fun e w' =>
      e = .returned (.bool (((sb && v.testBit i) && (((pop 12 U : Nat) : Int) == 0)) && (((pop sn (wo r c) : Nat) : Int) == 0))) ∧ w' = w := by
  have hb := busy_any i bc bx pr sn n b off cp r c w h hi hs hr hc
  obtain ⟨P, hP⟩ : ∃ P, Hid (pop 12 U = P) := ⟨_, hide rfl⟩
  obtain ⟨Z, hZ⟩ : ∃ Z, Hid (pop sn (wo r c) = Z) := ⟨_, hide rfl⟩
  obtain ⟨vb, hvb'⟩ : ∃ vb, Hid (v.testBit i = vb) := ⟨_, hide rfl⟩
  have hl := hS.len
  have hh := fun wx => has_nat v i wx (by omega) (by omega)
  rw [hZ.out] at hb ⊢
  rw [hP.out] at hl ⊢
  rw [hvb'.out] at hh ⊢
  have HB := hide hb
  have HH := hide hh
  obtain ⟨pc, p0, p1, rc, xc⟩ := h
  clear hb hS hh
  cases hsb : sb
  · rw [hsb] at q0
    go_enter Tryd.func41, Tryd.ntmps41
    go_wp2_with (first
      | (go_at_call 40; refine HB.out.mono ?_; rintro e w' ⟨rfl, hw⟩; obtain rfl := hw.symm)
      | (go_at_call 35; refine (unhide HH _).mono ?_; rintro e w' ⟨rfl, hw⟩; obtain rfl := hw.symm))
    go_ret
    exact ⟨ret_bool (by simp), rfl⟩
  · rw [hsb] at q0
    cases hvb : vb
    · rw [hvb] at HH
      go_enter Tryd.func41, Tryd.ntmps41
      go_wp2_with (first
        | (go_at_call 40; refine HB.out.mono ?_; rintro e w' ⟨rfl, hw⟩; obtain rfl := hw.symm)
        | (go_at_call 35; refine (unhide HH _).mono ?_; rintro e w' ⟨rfl, hw⟩; obtain rfl := hw.symm))
      go_ret
      exact ⟨ret_bool (by simp), rfl⟩
    · rw [hvb] at HH
      cases hu : ((P : Int) == 0)
      · go_enter Tryd.func41, Tryd.ntmps41
        go_wp2_with (first
          | (go_at_call 40; refine HB.out.mono ?_; rintro e w' ⟨rfl, hw⟩; obtain rfl := hw.symm)
          | (go_at_call 35; refine (unhide HH _).mono ?_; rintro e w' ⟨rfl, hw⟩; obtain rfl := hw.symm))
        go_ret
        exact ⟨ret_bool (by simp), rfl⟩
      · cases hz : ((Z : Int) == 0)
        · go_enter Tryd.func41, Tryd.ntmps41
          go_wp2_with (first
            | (go_at_call 40; refine HB.out.mono ?_; rintro e w' ⟨rfl, hw⟩; obtain rfl := hw.symm)
            | (go_at_call 35; refine (unhide HH _).mono ?_; rintro e w' ⟨rfl, hw⟩; obtain rfl := hw.symm))
          go_ret
          exact ⟨ret_bool (by simp), rfl⟩
        · go_enter Tryd.func41, Tryd.ntmps41
          go_wp2_with (first
            | (go_at_call 40; refine HB.out.mono ?_; rintro e w' ⟨rfl, hw⟩; obtain rfl := hw.symm)
            | (go_at_call 35; refine (unhide HH _).mono ?_; rintro e w' ⟨rfl, hw⟩; obtain rfl := hw.symm))
          go_ret
          exact ⟨ret_bool (by simp), rfl⟩

end Go.Proofs.YtpkfgpagkgmpcaaDoor
