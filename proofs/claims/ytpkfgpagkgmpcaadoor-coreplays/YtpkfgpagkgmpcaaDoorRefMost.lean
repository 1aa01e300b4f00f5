/- The contract of triumvirref.Most: route by route, with it, or without. -/
import Derived.Test.YtpkfgpagkgmpcaaDoorLeaf
import Derived.Deep.RegionWith
import Derived.WalkSmall
namespace Go.Proofs.YtpkfgpagkgmpcaaDoor
open Go.RowKit

/-- The document's Most: route by route, with it, or without. -/
def rm : List Nat → Nat → Nat
  | [], _ => 0
  | r :: l, u => if u &&& r = 0 then max (rm l u) (1 + rm l (u ||| r)) else rm l u
theorem rm_le (l : List Nat) (u : Nat) : rm l u ≤ l.length := by
  induction l generalizing u with
  | nil => simp [rm]
  | cons r l ih =>
    unfold rm
    have h1 := ih u
    have h2 := ih (u ||| r)
    simp only [List.length_cons]
    split <;> omega
theorem rm_drop (rs : List Nat) (k u : Nat) (h : k < rs.length) : rm (rs.drop k) u = if u &&& rs[k]?.getD 0 = 0 then max (rm (rs.drop (k + 1)) u) (1 + rm (rs.drop (k + 1)) (u ||| rs[k]?.getD 0)) else rm (rs.drop (k + 1)) u := by
  rw [List.drop_eq_getElem_cons h, rm, List.getElem?_eq_getElem h, Option.getD_some]

theorem and_zero (u r : Nat) (hu : u < 4096) (hr : r < 4096) (b : Bool) (h : decide (u &&& r = 0) = b) : (bits BinOp.and IntKind.i64 (u : Int) (r : Int) == 0) = b := by
  rw [and_nat u r (by omega) (by omega), ← h]
  generalize u &&& r = m
  rw [Bool.eq_iff_iff, beq_iff_eq, decide_eq_true_eq]
  omega

set_option maxHeartbeats 2000000 in
theorem refMost_any (s d : Int) (b off cap n : Nat) (rs : List Nat) (hn : rs.length = n) (h8 : n ≤ 8) (hr : ∀ k : Nat, rs[k]?.getD 0 < 4096) (m : Nat) :
    ∀ (k u : Nat) (w : World), k + m = n → u < 4096 → b < w.heap.size → NRow w b off rs →
    Calls Tryd.prog 13 #[.agg #[.int .i64 s, .slice (some ⟨b, off, none⟩) n cap, .int .i64 d], .int .i64 (k : Int), .int .i64 (u : Int)] w fun e w' => e = .returned (.int .i64 ((rm (rs.drop k) u : Nat) : Int)) ∧ Below w.heap.size w w' := by
  induction m with
  | zero =>
    intro k u w hkm hu hb hc
    have hk : k = n := by omega
    subst hk
    have h0 : rm (rs.drop k) u = 0 := by rw [List.drop_of_length_le (by omega)]; rfl
    have H0 := hide h0
    clear h0 hc
    go_enter Tryd.func13, Tryd.ntmps13
    go_wp2
    go_ret
    exact ⟨ret_int (by rw [H0.out]; rfl), (Below.refl _ _).alloc (Nat.le_refl _) _⟩
  | succ m ih =>
    intro k u w hkm hu hb hc
    have hk : k < n := by omega
    obtain ⟨r, hr1, hcell⟩ := NRow.at hc (show k < rs.length by omega)
    have hrb : r < 4096 := by have := hr k; rw [hr1.out] at this; exact this
    have hd := rm_drop rs k u (by omega)
    rw [hr1.out] at hd
    have HD := hide hd
    have HIH := hide ih
    clear ih hd
    have hne : ((k : Int) == (n : Int)) = false := by simp; omega
    have hb1 : Below w.heap.size w (w.alloc (.cells #[.int .i64 s, .slice (some ⟨b, off, none⟩) n cap, .int .i64 d] 24)) := (Below.refl _ _).alloc (Nat.le_refl _) _
    have hih1 := HIH.out (k + 1) u _ (by omega) hu (Nat.lt_of_lt_of_le hb hb1.size) (hc.below hb hb1)
    have hle1 := rm_le (rs.drop (k + 1)) u
    have hle2 := rm_le (rs.drop (k + 1)) (u ||| r)
    rw [List.length_drop, hn] at hle1 hle2
    obtain ⟨q1, hq1⟩ : ∃ q, Hid (rm (rs.drop (k + 1)) u = q) := ⟨_, hide rfl⟩
    obtain ⟨q2, hq2⟩ : ∃ q, Hid (rm (rs.drop (k + 1)) (u ||| r) = q) := ⟨_, hide rfl⟩
    rw [hq1.out] at hih1 hle1 HD
    rw [hq2.out] at hle2 HD
    rw [show ((k + 1 : Nat) : Int) = (k : Int) + 1 by omega] at hih1
    have H1 := hide hih1
    clear hih1
    have HC := hide hc
    clear hc
    cases hz : decide (u &&& r = 0)
    · have ht := and_zero u r hu hrb _ hz
      have hz' : ¬ (u &&& r = 0) := of_decide_eq_false hz
      have HZ := hide hz'
      clear hz hz'
      go_enter Tryd.func13, Tryd.ntmps13
      go_wp2_with fail
      refine H1.out.mono ?_
      rintro e w2 ⟨rfl, hB2⟩
      have hB2' : Below w.heap.size w w2 := hb1.trans (hB2.mono (by simp))
      have c1 : w2.cell? ⟨w.heap.size, 1, none⟩ = some (.slice (some ⟨b, off, none⟩) n cap) := (hB2.cell (p := ⟨w.heap.size, 1, none⟩) (by simp)).trans (by simp)
      have c2 : w2.cell? ⟨b, off + k, none⟩ = some (.int .i64 (r : Int)) := (hB2'.cell (p := ⟨b, off + k, none⟩) hb).trans hcell
      have HB := hide hB2'
      clear hB2 hB2' hb1 H1 hcell
      go_wp2
      go_ret
      exact ⟨ret_int (by rw [HD.out, if_neg HZ.out]), HB.out⟩
    · have ht := and_zero u r hu hrb _ hz
      have hz' : u &&& r = 0 := of_decide_eq_true hz
      have HZ := hide hz'
      clear hz hz'
      have hor : bits .or .i64 (u : Int) (r : Int) = ((u ||| r : Nat) : Int) := or_nat u r (by omega) (by omega)
      have hul : u ||| r < 4096 := Nat.or_lt_two_pow (n := 12) hu hrb
      go_enter Tryd.func13, Tryd.ntmps13
      go_wp2_with fail
      refine H1.out.mono ?_
      rintro e w2 ⟨rfl, hB2⟩
      have hB2' : Below w.heap.size w w2 := hb1.trans (hB2.mono (by simp))
      have hbx : ∀ i, w2.cell? ⟨w.heap.size, i, none⟩ = (#[.int .i64 s, .slice (some ⟨b, off, none⟩) n cap, .int .i64 d] : Array Value)[i]? := fun i => (hB2.cell (p := ⟨w.heap.size, i, none⟩) (by simp)).trans (World.cell?_alloc_at _ _ _ _ rfl)
      have c0 : w2.cell? ⟨w.heap.size, 0, none⟩ = some (.int .i64 s) := hbx 0
      have c1 : w2.cell? ⟨w.heap.size, 1, none⟩ = some (.slice (some ⟨b, off, none⟩) n cap) := hbx 1
      have c3 : w2.cell? ⟨w.heap.size, 2, none⟩ = some (.int .i64 d) := hbx 2
      have c2 : w2.cell? ⟨b, off + k, none⟩ = some (.int .i64 (r : Int)) := (hB2'.cell (p := ⟨b, off + k, none⟩) hb).trans hcell
      have HB := hide hB2'
      have hih2 := fun (wx : World) (hx : Below w.heap.size w wx) => HIH.out (k + 1) (u ||| r) wx (by omega) hul (Nat.lt_of_lt_of_le hb hx.size) (HC.out.below hb hx)
      have hk1 : IntKind.i64.wrap ((k : Int) + 1) = ((k + 1 : Nat) : Int) := wrap_small (k + 1) (by omega)
      rw [hq2.out, ← hk1, ← hor] at hih2
      clear hk1
      have H2 := hide hih2
      clear hB2 hB2' hb1 H1 hcell hbx hih2 hor
      go_wp2_with fail
      go_region_with (go_at_call 13; refine (unhide H2 _ HB.out.drew).mono ?_; rintro e w3 ⟨rfl, hB3⟩)
      all_goals go_wp2
      all_goals go_ret
      all_goals exact ⟨ret_int (by rw [HD.out, if_pos HZ.out]; omega), HB.out.drew.trans (hB3.mono HB.out.size)⟩

end Go.Proofs.YtpkfgpagkgmpcaaDoor
