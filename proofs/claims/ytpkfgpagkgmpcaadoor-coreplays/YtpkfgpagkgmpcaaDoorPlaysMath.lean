/- A state that may be, taken over; what a step leaves may be; triumvirlaw.same at two lists. -/
import Derived.Test.YtpkfgpagkgmpcaaDoorRefLoad
import Derived.Test.YtpkfgpagkgmpcaaDoorRefFit
namespace Go.Proofs.YtpkfgpagkgmpcaaDoor
open Go.RowKit Go.Deep

theorem gCells_congr {G G' : GS} (h0 : G.set = G'.set) (h : ∀ k, k < 8 → G.used k = G'.used k ∧ G.idle k = G'.idle k) : gCells G = gCells G' := by
  unfold gCells
  rw [h0, (h 0 (by decide)).1, (h 1 (by decide)).1, (h 2 (by decide)).1, (h 3 (by decide)).1, (h 4 (by decide)).1, (h 5 (by decide)).1, (h 6 (by decide)).1, (h 7 (by decide)).1,
    (h 0 (by decide)).2, (h 1 (by decide)).2, (h 2 (by decide)).2, (h 3 (by decide)).2, (h 4 (by decide)).2, (h 5 (by decide)).2, (h 6 (by decide)).2, (h 7 (by decide)).2]

/-- What is asked of a route that is set, taken apart. -/
theorem rs_parts {zs : List Int} {sn d i m : Nat} {G : GS} (hok : checkF (sn : Int) zs (d : Int) = (0, -1)) (hi : i < zs.length) (hz : G.set = (m : Int)) (hm : m < 2 ^ zs.length) (h1 : -9223372036854775808 ≤ G.used i) (h2 : G.used i < 9223372036854775808) :
    rsB (rt zs i) (conf zs i) d G i = true ↔ hitTo zs m i zs.length = false ∧ 0 ≤ G.used i ∧ wo (G.used i).toNat (rt zs i) = 0 ∧ (0 ≤ G.idle i ∧ G.idle i ≤ 1000) ∧ (G.used i = 0 → G.idle i ≤ (d : Int)) := by
  have hr := range_pos hok
  unfold rangeB at hr
  simp only [Bool.and_eq_true, inB_iff] at hr
  obtain ⟨_, hr2, hr3, _⟩ := rt_in hok hi
  rw [Int.toNat_natCast] at hr2
  rw [rs_same hok hi hz hm h1 h2, ← sub_same h1 h2 hr2 (by omega)]
  simp only [Bool.and_eq_true, Bool.not_eq_true', inB_iff, beq_iff_eq, Bool.and_eq_false_iff, decide_eq_false_iff_not, beq_eq_false_iff_ne]
  constructor
  · rintro ⟨⟨⟨a, b⟩, c⟩, e⟩
    have hs := sub_same h1 h2 hr2 (by omega)
    rw [b] at hs
    simp only [beq_self_eq_true] at hs
    have hs' := hs.symm
    simp only [Bool.and_eq_true, decide_eq_true_eq] at hs'
    have hu : u64 (G.used i) = (G.used i).toNat := by unfold u64; omega
    rw [hu] at b
    refine ⟨a, hs'.1.1, b, c, fun h0 => ?_⟩
    rcases e with e | e
    · exact absurd h0 e
    · omega
  · rintro ⟨a, h0, b, c, e⟩
    have hu : u64 (G.used i) = (G.used i).toNat := by unfold u64; omega
    refine ⟨⟨⟨a, by rw [hu]; exact b⟩, c⟩, ?_⟩
    by_cases h : G.used i = 0
    · right; have := e h; omega
    · left; exact h

theorem right_state {zs : List Int} {sn d n : Nat} {G : GS} (hok : checkF (sn : Int) zs (d : Int) = (0, -1)) (hn : zs.length = n) (hg : GIn G) (h8 : ∀ k, 8 ≤ k → G.used k = 0 ∧ G.idle k = 0) (hR : rightB zs d G = true) : gCells G = stCells (gSt G) ∧ Good (rt zs) n 1000 (gSt G) := by
  have hr := range_pos hok
  unfold rangeB at hr
  simp only [Bool.and_eq_true, inB_iff] at hr
  unfold rightB at hR
  simp only [Bool.and_eq_true, decide_eq_true_eq] at hR
  obtain ⟨⟨h1, h2⟩, h3⟩ := hR
  obtain ⟨m, hm⟩ := Int.eq_ofNat_of_zero_le h1
  have hm2 : m < 2 ^ zs.length := by omega
  have hp : 2 ^ zs.length ≤ 2 ^ 8 := Nat.pow_le_pow_right (by decide) (by omega)
  have hgm : (gSt G).set = m := by show G.set.toNat = m; rw [hm]; rfl
  have hu64 : u64 G.set = m := by rw [hm, u64_nat m (by omega)]
  have hset : ∀ k, m.testBit k = true → k < zs.length ∧ (hitTo zs m k zs.length = false ∧ 0 ≤ G.used k ∧ wo (G.used k).toNat (rt zs k) = 0 ∧ (0 ≤ G.idle k ∧ G.idle k ≤ 1000) ∧ (G.used k = 0 → G.idle k ≤ (d : Int))) := by
    intro k hk
    have hkz : k < zs.length := by
      refine Nat.lt_of_not_le fun hge => ?_
      rw [Nat.testBit_lt_two_pow (Nat.lt_of_lt_of_le hm2 (Nat.pow_le_pow_right (by decide) hge))] at hk
      exact absurd hk (by decide)
    have := allTo_of h3 (show k < 8 by omega)
    unfold rightAt at this
    rw [hu64, hk, if_pos rfl] at this
    exact ⟨hkz, (rs_parts hok hkz hm hm2 (hg.used k).1 (hg.used k).2).1 this⟩
  have hun : ∀ k, m.testBit k = false → G.used k = 0 ∧ G.idle k = 0 := by
    intro k hk
    by_cases hk8 : k < 8
    · have := allTo_of h3 hk8
      unfold rightAt at this
      rw [hu64, hk, if_neg (by decide)] at this
      simpa using this
    · exact h8 k (by omega)
  refine ⟨?_, ?_, ?_, ?_, ?_, ?_⟩
  · rw [← stG_cells]
    refine gCells_congr ?_ fun k hk => ⟨?_, rfl⟩
    · show G.set = ((G.set.toNat : Nat) : Int); omega
    · show G.used k = (((G.used k).toNat : Nat) : Int)
      cases hb : m.testBit k
      · rw [(hun k hb).1]; rfl
      · have := (hset k hb).2.2.1; omega
  · rw [hgm, ← hn]; exact hm2
  · intro i k hi hk hik h4 h5
    rw [hgm] at h4 h5
    have := (hset i h4).2.1
    by_cases h0 : rt zs i &&& rt zs k = 0
    · exact h0
    · have := (hit_iff zs m i zs.length).2 ⟨k, by omega, h5, fun e => hik e.symm, h0⟩
      rw [(hset i h4).2.1] at this
      exact absurd this (by decide)
  · intro k _
    show wo (G.used k).toNat (rt zs k) = 0
    cases hb : m.testBit k
    · rw [(hun k hb).1]; simp [wo]
    · exact (hset k hb).2.2.2.1
  · intro k hk
    have hb : m.testBit k = false := by
      rcases hk with hk | hk
      · exact Nat.testBit_lt_two_pow (Nat.lt_of_lt_of_le hm2 (Nat.pow_le_pow_right (by decide) (by omega)))
      · rw [hgm] at hk; exact hk
    exact ⟨by show (G.used k).toNat = 0; rw [(hun k hb).1]; rfl, (hun k hb).2⟩
  · intro k
    show 0 ≤ G.idle k ∧ G.idle k ≤ 1000
    cases hb : m.testBit k
    · rw [(hun k hb).2]; omega
    · exact (hset k hb).2.2.2.2.1

/-- A route that is set, and was not used: it is not idle beyond the Delay. -/
theorem next_idle {R C : Nat → Nat} {n d c v : Nat} {B : Int} {S : St} (h : Good R n B S) {k : Nat} (hk : k < n) (hu : (nextF R C n d c v S).used k = 0) : (nextF R C n d c v S).idle k ≤ (d : Int) := by
  have hu' : (letTo R d c v S n).used k = 0 := hu
  show (letTo R d c v S n).idle k ≤ (d : Int)
  rw [(letTo_at R d c v S n k hk).2.1] at hu'
  rw [(letTo_at R d c v S n k hk).2.2]
  unfold letOne at hu' ⊢
  by_cases hs : S.set.testBit k = true
  · rw [if_pos hs] at hu' ⊢
    cases hl : leavesB (R k) c (usedOf (R k) c (S.used k)) d (idleOf v k (S.idle k))
    · rw [hl, if_neg (by decide)] at hu'
      rw [if_neg (by decide)]
      have e : usedOf (R k) c (S.used k) = 0 := by rw [← upd_same S.used k (usedOf (R k) c (S.used k))]; exact hu'
      show upd _ _ _ _ ≤ _
      rw [upd_same]
      unfold leavesB at hl
      rw [e] at hl
      simp at hl
      omega
    · rw [if_pos rfl]
      show upd _ _ _ _ ≤ _
      rw [upd_same]; omega
  · rw [if_neg hs]
    have := (h.rest k (.inr (by simpa using hs))).2
    omega

theorem next_right {zs : List Int} {sn d n c v : Nat} {B : Int} {S : St} (hok : checkF (sn : Int) zs (d : Int) = (0, -1)) (hn : zs.length = n) (hG : Good (rt zs) n B S) (hi : ∀ k, k < n → (nextF (rt zs) (conf zs) n d c v S).idle k < 1000) : rightB zs d (stG (nextF (rt zs) (conf zs) n d c v S)) = true := by
  have hN := next_good (d := d) (c := c) (v := v) (by rw [← hn]; exact conf_conf hok) hG
  have hx := fun k hk => next_idle (C := conf zs) (d := d) (c := c) (v := v) hG (k := k) hk
  generalize nextF (rt zs) (conf zs) n d c v S = X at hN hx hi ⊢
  have hr := range_pos hok
  unfold rangeB at hr
  simp only [Bool.and_eq_true, inB_iff] at hr
  have hs := hN.set
  have hp : 2 ^ n ≤ 2 ^ 8 := Nat.pow_le_pow_right (by decide) (by omega)
  unfold rightB
  have e0 : (stG X).set = (X.set : Int) := rfl
  rw [e0, decide_eq_true (show 0 ≤ (X.set : Int) by omega), decide_eq_true (show (X.set : Int) < ((2 ^ zs.length : Nat) : Int) by rw [hn]; omega)]
  have hall : ∀ m, m ≤ 8 → allTo (rightAt zs d (stG X)) m = true := by
    intro m
    induction m with
    | zero => intro _; rfl
    | succ m ih =>
      intro hm
      unfold allTo
      rw [ih (by omega)]
      unfold rightAt
      rw [e0, u64_nat _ (by omega)]
      cases hb : X.set.testBit m
      · have := hN.rest m (.inr hb)
        rw [if_neg (by decide)]
        show (true && (((X.used m : Nat) : Int) == 0 && X.idle m == 0)) = true
        rw [this.1, this.2]; rfl
      · have hmn : m < n := by
          refine Nat.lt_of_not_le fun hge => ?_
          rw [Nat.testBit_lt_two_pow (Nat.lt_of_lt_of_le hs (Nat.pow_le_pow_right (by decide) hge))] at hb
          exact absurd hb (by decide)
        rw [if_pos rfl, Bool.true_and]
        have hul : X.used m < 4096 := (good_ok hok (B := 1000000000) (by rw [hn]; exact ⟨hN.set, hN.apart, hN.used, hN.rest, fun k => by
          by_cases hk : k < n
          · have := hi k hk; have := hN.idle k; omega
          · have := (hN.rest k (.inl (by omega))).2; omega⟩) (Int.le_refl _)).used m
        refine (rs_parts hok (by omega) e0 (by rw [hn]; exact hs) (by show -9223372036854775808 ≤ ((X.used m : Nat) : Int); omega) (by show ((X.used m : Nat) : Int) < _; omega)).2 ⟨?_, by show 0 ≤ ((X.used m : Nat) : Int); omega, ?_, ⟨(hN.idle m).1, by have := hi m hmn; show X.idle m ≤ 1000; omega⟩, fun h0 => hx m hmn ?_⟩
        · cases hh : hitTo zs X.set m zs.length
          · rfl
          · obtain ⟨k, a1, a2, a3, a4⟩ := (hit_iff _ _ _ _).1 hh
            exact absurd (hN.apart m k hmn (by omega) (fun e => a3 e.symm) hb a2) a4
        · show wo (((X.used m : Nat) : Int)).toNat (rt zs m) = 0
          rw [Int.toNat_natCast]; exact hN.used m hmn
        · have : ((X.used m : Nat) : Int) = 0 := h0
          omega
  rw [hall 8 (Nat.le_refl _)]
  rfl

/-- Two lists that hold the same. -/
structure EInv (w wr : World) (g1 o1 g2 o2 : Nat) (zs : List Int) : Prop where
  old : Below w.heap.size w wr
  one : Row wr g1 o1 zs
  two : Row wr g2 o2 zs
theorem EInv.drewN {w wr : World} {g1 o1 g2 o2 : Nat} {zs : List Int} (h : EInv w wr g1 o1 g2 o2 zs) (n : Nat) : EInv w (wr.drewN n) g1 o1 g2 o2 zs := ⟨below_drewN h.old n, h.one, h.two⟩

set_option maxHeartbeats 1000000 in
theorem same_rows (g1 o1 g2 o2 c1 c2 n : Nat) (zs : List Int) (w : World) (hn : zs.length = n) (h8 : n ≤ 8) (hr1 : Row w g1 o1 zs) (hr2 : Row w g2 o2 zs) :
    Calls Tryd.prog 11 #[.slice (some ⟨g1, o1, none⟩) n c1, .slice (some ⟨g2, o2, none⟩) n c2] w fun e w' => e = .returned (.bool true) ∧ Below w.heap.size w w' := by
  have hI0 : EInv w w g1 o1 g2 o2 zs := ⟨Below.refl _ _, hr1, hr2⟩
  clear hr1 hr2
  go_enter Tryd.func11, Tryd.ntmps11
  go_wp2
  go_loopw [5] (fun i wr => EInv w wr g1 o1 g2 o2 zs ∧ ∃ k : Nat, k ≤ n ∧ i = .int .i64 k) (fun i _ => n - (intOf i).toNat)
  case atStart => exact ⟨hI0, 0, Nat.zero_le _, rfl⟩
  case round =>
    clear hI0
    obtain ⟨hI, k, hk, rfl⟩ := hrel
    by_cases hlt : k < n
    · obtain ⟨z, hz, e1⟩ := Row.at hI.one (show k < zs.length by omega)
      have e2 := hI.two k (by omega)
      rw [hz.out] at e2
      have hzz : (z != z) = false := by simp
      go_wp2_with fail
      go_quiet (fail)
      go_wp2
      go_roundw
      case rel => exact ⟨hI.drewN _, k + 1, by omega, by go_num⟩
      case measure => simp [intOf]; omega
    · go_wp2
      go_ret
      exact ⟨rfl, hI.old⟩

end Go.Proofs.YtpkfgpagkgmpcaaDoor
