/- What the reference's core becomes when something of a route is written. -/
import Derived.Test.YtpkfgpagkgmpcaaDoorRefState
namespace Go.Proofs.YtpkfgpagkgmpcaaDoor
open Go.RowKit Go.Deep

/-- Of what was there nothing has turned but the routes' row and their maps. -/
structure Turns (w w' : World) (gr n : Nat) (bm : Nat → Nat) : Prop where
  os : w'.os = w.os
  tape : w'.tape = w.tape
  output : w'.output = w.output
  size : w.heap.size ≤ w'.heap.size
  block : ∀ k, k < w.heap.size → k ≠ gr → (∀ i, i < n → bm i ≠ k) → w'.heap[k]? = w.heap[k]?
theorem Turns.refl (w : World) (gr n : Nat) (bm : Nat → Nat) : Turns w w gr n bm := ⟨rfl, rfl, rfl, Nat.le_refl _, fun _ _ _ _ => rfl⟩
theorem Turns.drew {w w' : World} {gr n : Nat} {bm : Nat → Nat} (h : Turns w w' gr n bm) : Turns w w'.drew gr n bm := ⟨h.os, h.tape, h.output, h.size, h.block⟩
theorem Turns.drewN {w w' : World} {gr n : Nat} {bm : Nat → Nat} (h : Turns w w' gr n bm) (k : Nat) : Turns w (w'.drewN k) gr n bm := ⟨h.os, h.tape, h.output, h.size, h.block⟩
theorem Turns.below {w w' wx : World} {gr n : Nat} {bm : Nat → Nat} (h : Turns w w' gr n bm) (hB : Below w'.heap.size w' wx) : Turns w wx gr n bm :=
  ⟨hB.os.trans h.os, hB.tape.trans h.tape, hB.output.trans h.output, Nat.le_trans h.size hB.size, fun k hk h1 h2 => (hB.block k (Nat.lt_of_lt_of_le hk h.size)).trans (h.block k hk h1 h2)⟩
theorem Turns.setRow {w w' : World} {gr n : Nat} {bm : Nat → Nat} (h : Turns w w' gr n bm) (i : Nat) (u : Value) : Turns w (w'.setCell ⟨gr, i, none⟩ u) gr n bm :=
  ⟨h.os, h.tape, h.output, by simpa [World.setCell] using h.size, fun k hk h1 h2 => (Below.heap_setCell _ _ _ _ h1).trans (h.block k hk h1 h2)⟩
theorem Turns.map {w w' wx : World} {gr n : Nat} {bm : Nat → Nat} (h : Turns w w' gr n bm) {q : Nat} (hg : w'.grownBy wx (some q)) (hq : (∃ i, i < n ∧ q = bm i) ∨ w.heap.size ≤ q) : Turns w wx gr n bm :=
  ⟨hg.os.trans h.os, hg.tape.trans h.tape, hg.output.trans h.output, Nat.le_trans h.size hg.size, fun k hk h1 h2 => (hg.block k (Nat.lt_of_lt_of_le hk h.size) (by
    intro e
    simp only [Option.some.injEq] at e
    rcases hq with ⟨i, hi, rfl⟩ | hq
    · exact h2 i hi e.symm
    · omega)).trans (h.block k hk h1 h2)⟩

/-- The routes' cells behind a write. -/
theorem RefIs.putBit {w : World} {pr : Nat} {s d : Int} {n b off cp gr cr : Nat} {bm : Nat → Nat} {S : St} (h : RefIs w pr s d n b off cp gr cr bm S) {i : Nat} (hi : i < n) :
    RefIs (w.setCell ⟨gr, i * 3, none⟩ (.bool true)) pr s d n b off cp gr cr bm ⟨S.set ||| 2 ^ i, S.used, S.idle⟩ := by
  obtain ⟨cs, h0, h1⟩ := h.row
  have hpg : pr ≠ gr := fun e => by have := h.blk; rw [e, h0] at this; injection this with e1; injection e1 with _ e2; exact absurd e2 (by decide)
  have hsz : i * 3 + 2 < cs.size := by have := (h1 i hi).2.2; exact (Array.getElem?_eq_some_iff.1 this).1
  refine ⟨(Below.heap_setCell _ _ _ _ hpg).trans h.blk, ⟨_, blk_set h0 _ _, fun j hj => ?_⟩, h.cap, fun j hj => (h.maps j hj).same (Below.heap_setCell _ _ _ _ (fun e => by have := h.maps j hj; rw [show bm j = gr from e] at this; exact this.notCells h0)), h.inj⟩
  obtain ⟨e1, e2, e3⟩ := h1 j hj
  rw [Array.getElem?_setIfInBounds, Array.getElem?_setIfInBounds, Array.getElem?_setIfInBounds]
  rw [if_neg (show ¬ i * 3 = j * 3 + 1 by omega), if_neg (show ¬ i * 3 = j * 3 + 2 by omega), Nat.testBit_or, two_bit]
  refine ⟨?_, e2, e3⟩
  by_cases e : i = j
  · subst e
    rw [if_pos rfl, if_pos (by omega)]; simp
  · rw [if_neg (by omega), e1, decide_eq_false e]; simp
theorem RefIs.putIdle {w : World} {pr : Nat} {s d : Int} {n b off cp gr cr : Nat} {bm : Nat → Nat} {S : St} (h : RefIs w pr s d n b off cp gr cr bm S) {i : Nat} (hi : i < n) (t : Int) :
    RefIs (w.setCell ⟨gr, i * 3 + 2, none⟩ (.int .i64 t)) pr s d n b off cp gr cr bm ⟨S.set, S.used, upd S.idle i t⟩ := by
  obtain ⟨cs, h0, h1⟩ := h.row
  have hpg : pr ≠ gr := fun e => by have := h.blk; rw [e, h0] at this; injection this with e1; injection e1 with _ e2; exact absurd e2 (by decide)
  have hsz : i * 3 + 2 < cs.size := by have := (h1 i hi).2.2; exact (Array.getElem?_eq_some_iff.1 this).1
  refine ⟨(Below.heap_setCell _ _ _ _ hpg).trans h.blk, ⟨_, blk_set h0 _ _, fun j hj => ?_⟩, h.cap, fun j hj => (h.maps j hj).same (Below.heap_setCell _ _ _ _ (fun e => by have := h.maps j hj; rw [show bm j = gr from e] at this; exact this.notCells h0)), h.inj⟩
  obtain ⟨e1, e2, e3⟩ := h1 j hj
  rw [Array.getElem?_setIfInBounds, Array.getElem?_setIfInBounds, Array.getElem?_setIfInBounds]
  rw [if_neg (show ¬ i * 3 + 2 = j * 3 by omega), if_neg (show ¬ i * 3 + 2 = j * 3 + 1 by omega)]
  refine ⟨e1, e2, ?_⟩
  by_cases e : i = j
  · subst e
    rw [if_pos rfl, if_pos (by omega)]; simp [upd]
  · rw [if_neg (by omega), e3]; simp [upd, Ne.symm e]
theorem RefIs.putMap {w wx : World} {pr : Nat} {s d : Int} {n b off cp gr cr : Nat} {bm : Nat → Nat} {S : St} (h : RefIs w pr s d n b off cp gr cr bm S) {i : Nat} (hi : i < n) (U : Nat) (hg : w.grownBy wx (some (bm i))) (hU : IsSet wx (bm i) U) :
    RefIs wx pr s d n b off cp gr cr bm ⟨S.set, upd S.used i U, S.idle⟩ := by
  obtain ⟨cs, h0, h1⟩ := h.row
  have hne : ∀ {k : Nat} {c : Array Value} {t : TypeId} {f : Nat × Nat}, w.heap[k]? = some (.cells c t f) → some k ≠ some (bm i) := fun hk e => by
    simp only [Option.some.injEq] at e
    rw [e] at hk
    exact (h.maps i hi).notCells hk
  refine ⟨(hg.block _ h.plt (hne h.blk)).trans h.blk, ⟨cs, (hg.block _ h.glt (hne h0)).trans h0, h1⟩, h.cap, fun j hj => ?_, h.inj⟩
  by_cases e : j = i
  · subst e; simp [upd]; exact hU
  · simp only [upd, e, if_false]
    exact (h.maps j hj).same (hg.block _ (h.maps j hj).lt (by simp only [ne_eq, Option.some.injEq]; exact h.inj j i hj hi e))
/-- A route that is let go: a new map is laid, and its three cells are written. -/
theorem RefIs.reset {w : World} {pr : Nat} {s d : Int} {n b off cp gr cr : Nat} {bm : Nat → Nat} {S : St} (h : RefIs w pr s d n b off cp gr cr bm S) {i : Nat} (hi : i < n) :
    RefIs ((((w.alloc (.map #[] 0)).setCell ⟨gr, i * 3, none⟩ (.bool false)).setCell ⟨gr, i * 3 + 1, none⟩ (.map (some w.heap.size))).setCell ⟨gr, i * 3 + 2, none⟩ (.int .i64 0)) pr s d n b off cp gr cr (upd bm i w.heap.size) ⟨wo S.set (2 ^ i), upd S.used i 0, upd S.idle i 0⟩ := by
  obtain ⟨cs, h0, h1⟩ := h.row
  have hgl := h.glt
  have hpg : pr ≠ gr := fun e => by have := h.blk; rw [e, h0] at this; injection this with e1; injection e1 with _ e2; exact absurd e2 (by decide)
  have hsz : i * 3 + 2 < cs.size := by have := (h1 i hi).2.2; exact (Array.getElem?_eq_some_iff.1 this).1
  have h0' : (w.alloc (.map #[] 0)).heap[gr]? = some (.cells cs 85 (0, 0)) := (Below.heap_alloc _ _ _ hgl).trans h0
  have hne : ∀ k, k ≠ gr → ((((w.alloc (.map #[] 0)).setCell ⟨gr, i * 3, none⟩ (.bool false)).setCell ⟨gr, i * 3 + 1, none⟩ (.map (some w.heap.size))).setCell ⟨gr, i * 3 + 2, none⟩ (.int .i64 0)).heap[k]? = (w.alloc (.map #[] 0)).heap[k]? := fun k hk => by
    rw [Below.heap_setCell _ _ _ _ hk, Below.heap_setCell _ _ _ _ hk, Below.heap_setCell _ _ _ _ hk]
  have hmg : ∀ j, j < n → bm j ≠ gr := fun j hj e => by have := h.maps j hj; rw [e] at this; exact this.notCells h0
  refine ⟨(hne _ hpg).trans ((Below.heap_alloc _ _ _ h.plt).trans h.blk), ⟨_, blk_set (blk_set (blk_set h0' _ _) _ _) _ _, fun j hj => ?_⟩, h.cap, fun j hj => ?_, ?_⟩
  · obtain ⟨e1, e2, e3⟩ := h1 j hj
    simp only [Array.getElem?_setIfInBounds, Array.size_setIfInBounds]
    by_cases e : i = j
    · subst e
      have a1 : ¬ i * 3 + 2 = i * 3 := by omega
      have a2 : ¬ i * 3 + 1 = i * 3 := by omega
      have a3 : i * 3 < cs.size := by omega
      have a4 : i * 3 + 1 < cs.size := by omega
      simp [hsz, upd, wo_bit, a3, a4]
    · have a1 : ¬ i * 3 + 2 = j * 3 := by omega
      have a2 : ¬ i * 3 + 1 = j * 3 := by omega
      have a3 : ¬ i * 3 = j * 3 := by omega
      have b1 : ¬ i * 3 + 2 = j * 3 + 1 := by omega
      have b2 : ¬ i * 3 + 1 = j * 3 + 1 := by omega
      have b3 : ¬ i * 3 = j * 3 + 1 := by omega
      have c1 : ¬ i * 3 + 2 = j * 3 + 2 := by omega
      have c2 : ¬ i * 3 + 1 = j * 3 + 2 := by omega
      have c3 : ¬ i * 3 = j * 3 + 2 := by omega
      rw [if_neg a1, if_neg a2, if_neg a3, if_neg b1, if_neg b2, if_neg b3, if_neg c1, if_neg c2, if_neg c3, e1, e2, e3]
      simp [upd, Ne.symm e, wo_bit, e]
  · by_cases e : j = i
    · subst e
      simp only [upd, if_true]
      exact (IsSet.made w).same (hne _ (by omega))
    · simp only [upd, e, if_false]
      exact (h.maps j hj).same ((hne _ (hmg j hj)).trans (Below.heap_alloc _ _ _ (h.maps j hj).lt))
  · intro j k hj hk hjk
    have hjl := (h.maps j hj).lt
    have hkl := (h.maps k hk).lt
    unfold upd
    by_cases ej : j = i
    · rw [if_pos ej, if_neg (by omega)]; omega
    · rw [if_neg ej]
      by_cases ek : k = i
      · rw [if_pos ek]; omega
      · rw [if_neg ek]; exact h.inj j k hj hk hjk

/-- The sections of a route that are busy, put to what was used, one by one. -/
def uTo (r c U : Nat) : Nat → Nat
  | 0 => U
  | k + 1 => if r.testBit k && !c.testBit k then uTo r c U k ||| 2 ^ k else uTo r c U k
theorem uTo_bit (r c U n k : Nat) : (uTo r c U n).testBit k = (U.testBit k || (decide (k < n) && (r.testBit k && !c.testBit k))) := by
  induction n with
  | zero => simp [uTo]
  | succ n ih =>
    unfold uTo
    by_cases e : k = n
    · subst e
      split
      · rename_i h; rw [Nat.testBit_or, ih, two_bit, h]; simp
      · rename_i h; rw [ih, Bool.eq_false_iff.2 h]; simp
    · have hd : decide (k < n + 1) = decide (k < n) := by rw [decide_eq_decide]; omega
      split
      · rw [Nat.testBit_or, ih, two_bit, decide_eq_false (by omega : ¬ n = k), hd]; simp
      · rw [ih, hd]
theorem uTo_all (r c U n : Nat) (hr : r < 2 ^ n) : uTo r c U n = usedOf r c U := by
  apply Nat.eq_of_testBit_eq
  intro k
  unfold usedOf
  rw [uTo_bit, Nat.testBit_or, wo_bit]
  by_cases hk : k < n
  · rw [decide_eq_true hk]; simp
  · rw [decide_eq_false hk, Nat.testBit_lt_two_pow (Nat.lt_of_lt_of_le hr (Nat.pow_le_pow_right (by decide) (by omega)))]; simp

theorem pop_mono {n U V : Nat} (h : ∀ k, U.testBit k = true → V.testBit k = true) : pop n U ≤ pop n V := by
  induction n with
  | zero => exact Nat.le_refl _
  | succ n ih =>
    unfold pop
    have := h n
    cases hu : U.testBit n
    · simp; omega
    · rw [this hu]; simp; omega
/-- A part of a set has as many as the set just if it is the set. -/
theorem pop_full {n U V : Nat} (h : wo U V = 0) (hV : V < 2 ^ n) : (pop n U == pop n V) = (wo V U == 0) := by
  rw [Bool.eq_iff_iff, beq_iff_eq, beq_iff_eq]
  rw [wo_zero] at h
  constructor
  · intro he
    have key : ∀ m, pop m U = pop m V → ∀ k, k < m → V.testBit k = true → U.testBit k = true := by
      intro m
      induction m with
      | zero => intro _ k hk; omega
      | succ m ih =>
        intro hm k hk hv
        unfold pop at hm
        have hle := pop_mono (n := m) h
        have hb := h m
        by_cases e : k = m
        · subst e
          cases hu : U.testBit k
          · rw [hu, hv] at hm; simp at hm; omega
          · rfl
        · refine ih ?_ k (by omega) hv
          cases hu : U.testBit m <;> cases hv2 : V.testBit m <;> rw [hu, hv2] at hm <;> simp at hm
          · exact hm
          · omega
          · exact absurd (hb hu) (by rw [hv2]; decide)
          · exact hm
    rw [wo_zero]
    intro k hk
    refine key n he k ?_ hk
    refine Nat.lt_of_not_le fun hge => ?_
    rw [Nat.testBit_lt_two_pow (Nat.lt_of_lt_of_le hV (Nat.pow_le_pow_right (by decide) hge))] at hk
    exact absurd hk (by decide)
  · intro hz
    rw [wo_zero] at hz
    exact Nat.le_antisymm (pop_mono h) (pop_mono hz)

end Go.Proofs.YtpkfgpagkgmpcaaDoor
