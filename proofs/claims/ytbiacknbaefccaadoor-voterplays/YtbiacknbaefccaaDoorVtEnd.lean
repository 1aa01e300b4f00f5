/- The contracts of a voter's Trace, of slices.Clone, and of triumvirref.Set over who is out. -/
import Derived.Test.YtbiacknbaefccaaDoorVrMem
import Derived.Test.YtbiacknbaefccaaDoorVtDone
import Derived.Test.YtbiacknbaefccaaDoorRefSet
namespace Go.Proofs.YtbiacknbaefccaaDoor
open Go.RowKit Go.Deep Go.Maps

set_option maxHeartbeats 1000000 in
theorem cloneC_any (N : Nat) (tv : Value) (l : List Cm) (w : World) (h : TIs w N tv l) (hl : l.length ≤ 1000) :
    Calls Tryd.prog 91 #[tv] w fun e w' => (∃ v, e = .returned v ∧ TIs w' w.heap.size v l) ∧ Below w.heap.size w w' := by
  rcases h.2 with ⟨rfl, h0⟩ | ⟨g, cap, cur, rfl, h1, h2, h3, h4, h5, h6⟩
  · have e : l = [] := List.length_eq_zero_iff.1 h0
    subst e
    clear h h0
    have hq : ∀ wx : World, (binOp .eql 101 (.slice none 0 0) (.slice none 0 0)).run Tryd.prog wx = .ok (.bool true) wx := fun wx => by kernel_rfl
    go_enter Tryd.func91, Tryd.ntmps91
    go_wp2
    go_ret
    exact ⟨⟨_, rfl, World.ownsRow_nil _ _ _ _⟩, Below.refl _ _⟩
  · obtain ⟨i0, hi, hz0, hz1, hz2⟩ := info_parts infoCommit
    have HI := hide hi
    have HZ0 := hide hz0
    have HZ1 := hide hz1
    have HZ2 := hide hz2
    have HT := hide h6
    have HG := hide h2
    have hgl := blk_lt h2
    have hq : ∀ wx : World, (binOp .eql 101 (.slice (some ⟨g, 0, none⟩) l.length cap) (.slice none 0 0)).run Tryd.prog wx = .ok (.bool false) wx := fun wx => Lib.run_eql_slice_nil wx _ _ _ _ _ _ _ Tryd.underlying101
    clear hi hz0 hz1 hz2 h h6 h2 h5 h4
    go_enter Tryd.func91, Tryd.ntmps91
    go_wp2_with (at_builtin; refine wpList_append_own _ rfl _ _ 101 rfl w.heap.size 111 i0 (.agg #[.int .i64 0, .int .i64 0, .int .i64 0]) 3 24 Tryd.underlying101 HI.out HZ0.out HZ1.out HZ2.out rfl (by decide) _ _ _ rfl (World.ownsRow_made w #[] 0 (Nat.le_refl _) (by unfold maxLen; omega) rfl) ⟨g, 0, none⟩ l.length cap (cmL l) rfl (cmL_length l) ?c1 ?c2 ?c3 ?c4 ?c5 ?_)
    case c1 =>
      intro j u hj
      have hj' : j < l.length * 3 := by
        have := (List.getElem?_eq_some_iff.1 hj).1
        rw [cmL_length] at this
        exact this
      have e : (⟨g, 0, none⟩ : Addr).add j = ⟨g, j, none⟩ := by unfold Addr.add; split <;> simp_all
      rw [e, World.cell?_alloc_past _ _ _ hgl, blk_cell HG.out, ← Array.getElem?_toList]
      have := HT.out
      rw [← this, List.getElem?_take, if_pos hj'] at hj
      exact hj
    case c2 => exact cmL_one l
    case c3 => unfold maxLen; omega
    case c4 => omega
    case c5 => simp
    intro v' w1 hown hgrow _
    have hold : Below w.heap.size w w1 := ((Below.refl _ _).alloc (Nat.le_refl _) _).grown hgrow (by simp) (fun j hj => by
      have : w.heap.size = j := by simpa [Value.ownBlock] using hj
      omega)
    have ht : TIs w1 w.heap.size v' l := by
      unfold TIs
      simpa using hown
    have HT1 := hide ht
    have HOLD := hide hold
    clear ht hold hown hgrow
    go_wp2
    go_ret
    exact ⟨⟨_, rfl, HT1.out⟩, HOLD.out⟩

set_option maxHeartbeats 1000000 in
theorem trace_any (N p win : Nat) (tv : Value) (S : VS) (w : World) (h : VIs w N p win tv S) (hok : VOk win S) :
    Calls Tryd.prog 52 #[.pointer (some ⟨p, 0, none⟩)] w fun e w' => (∃ v, e = .returned v ∧ TIs w' w.heap.size v S.tr) ∧ Below w.heap.size w w' := by
  have c0 : w.cell? ⟨p, 0, none⟩ = some tv := (h.at 0).trans rfl
  have HC := hide (cloneC_any N tv S.tr w h.row hok.few)
  clear h hok
  go_enter Tryd.func52, Tryd.ntmps52
  go_wp2_with (go_at_call 91; refine HC.out.mono ?_; rintro e w' ⟨⟨v, rfl, ht⟩, hB⟩)
  go_ret
  exact ⟨⟨_, rfl, ht⟩, hB⟩

set_option maxHeartbeats 400000 in
theorem isOut_any (i : Nat) (bq q mo U : Nat) (w : World) (hi : i < 8) (hb : w.cell? ⟨bq, 0, none⟩ = some (.pointer (some ⟨q, 0, none⟩))) (hq : w.cell? ⟨q, 4, none⟩ = some (.map (some mo))) (ho : OSet w mo U) :
    Calls Tryd.prog 47 #[.int .i64 (i : Int), .pointer (some ⟨bq, 0, none⟩)] w fun e w' => e = .returned (.bool (U.testBit i)) ∧ w' = w := by
  have hl := ho.look hi
  clear ho
  go_enter Tryd.func47, Tryd.ntmps47
  go_wp2
  go_ret
  exact ⟨rfl, rfl⟩

set_option maxHeartbeats 1000000 in
theorem set_votes (n : Nat) (c1 : Value) (p : Nat → Bool) (w : World) (hn : n ≤ 12) (H : ∀ (i : Nat), i < n → Calls Tryd.prog 47 #[.int .i64 (i : Int), c1] w fun e w' => e = .returned (.bool (p i)) ∧ w' = w) :
    Calls Tryd.prog 46 #[.int .i64 (n : Int), .func (Fn.func 47) #[] #[c1]] w fun e w' => e = .returned (.int .i64 ((setTo p n : Nat) : Int)) ∧ w' = w := by
  have HH := hide H
  clear H
  go_enter Tryd.func46, Tryd.ntmps46
  go_wp2
  go_loopw [5, 6, 9] (fun m v i wr => wr = w ∧ ∃ k : Nat, k ≤ n ∧ i = .int .i64 k ∧ (∃ a : Nat, a < 4096 ∧ m = .int .i64 a ∧ Hid (setTo p k = a)) ∧ ∃ b : Nat, b ≤ 4096 ∧ v = .int .i64 b ∧ Hid (2 ^ k = b)) (fun _ _ i _ => n - (intOf i).toNat)
  case atStart => exact ⟨rfl, 0, Nat.zero_le _, rfl, ⟨0, by omega, rfl, rfl⟩, 1, by omega, rfl, rfl⟩
  case round =>
    obtain ⟨rfl, k, hk, rfl, ⟨a, ha, rfl, Ha⟩, b, hb, rfl, Hb⟩ := hrel
    by_cases hlt : k < n
    · have hb2 : b * 2 ≤ 4096 := by
        have h1 : 2 ^ (k + 1) ≤ 2 ^ 12 := Nat.pow_le_pow_right (by decide) (by omega)
        have h2 : 2 ^ (k + 1) = b * 2 := by rw [Nat.pow_succ, Hb.out]
        omega
      have hab : a < b := by have := setTo_lt p k; rw [Ha.out, Hb.out] at this; exact this
      cases hp : p k
      · have HP := hide hp
        have hcall := HH.out k hlt
        rw [hp] at hcall
        have HC := hide hcall
        clear hcall hp
        go_wp2_with fail
        refine HC.out.mono ?_
        rintro e w1 ⟨rfl, hw1⟩
        subst w1
        clear HC
        go_wp2
        go_roundw
        case rel => exact ⟨trivial, k + 1, by omega, by go_num, ⟨a, ha, rfl, by rw [Hid, setTo, HP.out, ← Ha.out]; rfl⟩, b * 2, hb2, by go_num, by rw [Hid, Nat.pow_succ, Hb.out]⟩
        case measure => simp [intOf]; omega
      · have HP := hide hp
        have hcall := HH.out k hlt
        rw [hp] at hcall
        have HC := hide hcall
        clear hcall hp
        go_wp2_with fail
        refine HC.out.mono ?_
        rintro e w1 ⟨rfl, hw1⟩
        subst w1
        clear HC
        go_wp2
        go_roundw
        case rel => exact ⟨trivial, k + 1, by omega, by go_num, ⟨a + b, by omega, by go_num, by rw [Hid, setTo, HP.out, if_pos rfl, Ha.out, Hb.out]⟩, b * 2, hb2, by go_num, by rw [Hid, Nat.pow_succ, Hb.out]⟩
        case measure => simp [intOf]; omega
    · have hkn : k = n := by omega
      subst hkn
      go_wp2
      go_ret
      exact ⟨ret_int (by rw [Ha.out]), rfl⟩

theorem setTo_eq : ∀ m : Fin 8, setTo (fun i => m.val.testBit i) 3 = m.val := by decide
theorem outs_any (bq q mo U : Nat) (w : World) (hU : U < 8) (hb : w.cell? ⟨bq, 0, none⟩ = some (.pointer (some ⟨q, 0, none⟩))) (hq : w.cell? ⟨q, 4, none⟩ = some (.map (some mo))) (ho : OSet w mo U) :
    Calls Tryd.prog 46 #[.int .i64 3, .func (Fn.func 47) #[] #[.pointer (some ⟨bq, 0, none⟩)]] w fun e w' => e = .returned (.int .i64 (U : Int)) ∧ w' = w := by
  have := set_votes 3 (.pointer (some ⟨bq, 0, none⟩)) (fun i => U.testBit i) w (by omega) (fun i hi => isOut_any i bq q mo U w (by omega) hb hq ho)
  rw [show setTo (fun i => U.testBit i) 3 = U from setTo_eq ⟨U, hU⟩] at this
  exact this
end Go.Proofs.YtbiacknbaefccaaDoor
