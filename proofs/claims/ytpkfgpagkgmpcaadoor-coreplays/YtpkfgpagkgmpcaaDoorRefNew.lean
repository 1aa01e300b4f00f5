/- The reference's core in memory; the contract of triumvirref.NewCore. -/
import Derived.Test.YtpkfgpagkgmpcaaDoorPlaySet
import Derived.OwnWalk
import Derived.Laws.OwnMore
namespace Go.Proofs.YtpkfgpagkgmpcaaDoor
open Go.RowKit Go.Deep

theorem infoRoute : (Tryd.prog.info? 85).map (fun i => (i.zero, i.size, i.bytes)) = some (some (.agg #[.bool false, .map none, .int .i64 0]), 3, 24) := by kernel_rfl

/-- The reference's core in memory: what is known of each route: whether it is set, a map of what was used, for how long it was not wanted. -/
structure RefIs (w : World) (pr : Nat) (s d : Int) (n b off cp gr cr : Nat) (bm : Nat → Nat) (S : St) : Prop where
  blk : w.heap[pr]? = some (.cells #[.int .i64 s, .slice (some ⟨b, off, none⟩) n cp, .int .i64 d, .slice (some ⟨gr, 0, none⟩) n cr] 82 (0, 0))
  row : ∃ cs, w.heap[gr]? = some (.cells cs 85 (0, 0)) ∧ ∀ i, i < n → cs[i * 3]? = some (.bool (S.set.testBit i)) ∧ cs[i * 3 + 1]? = some (.map (some (bm i))) ∧ cs[i * 3 + 2]? = some (.int .i64 (S.idle i))
  cap : n ≤ cr
  maps : ∀ i, i < n → IsSet w (bm i) (S.used i)
  inj : ∀ i j, i < n → j < n → i ≠ j → bm i ≠ bm j

/-- A route's cells, of which nothing is known yet. -/
def freshCells (bm : Nat → Nat) : Nat → List Value
  | 0 => []
  | k + 1 => freshCells bm k ++ [.bool false, .map (some (bm k)), .int .i64 0]
theorem fresh_length (bm : Nat → Nat) (k : Nat) : (freshCells bm k).length = k * 3 := by
  induction k with
  | zero => rfl
  | succ k ih => unfold freshCells; rw [List.length_append, ih]; simp; omega
theorem fresh_congr {bm bm' : Nat → Nat} {k : Nat} (h : ∀ i, i < k → bm i = bm' i) : freshCells bm k = freshCells bm' k := by
  induction k with
  | zero => rfl
  | succ k ih => unfold freshCells; rw [ih fun i hi => h i (by omega), h k (by omega)]
theorem fresh_at (bm : Nat → Nat) (k i : Nat) (hi : i < k) : (freshCells bm k)[i * 3]? = some (.bool false) ∧ (freshCells bm k)[i * 3 + 1]? = some (.map (some (bm i))) ∧ (freshCells bm k)[i * 3 + 2]? = some (.int .i64 0) := by
  induction k with
  | zero => omega
  | succ k ih =>
    unfold freshCells
    have hl := fresh_length bm k
    by_cases e : i = k
    · subst e
      rw [List.getElem?_append_right (by omega), List.getElem?_append_right (by omega), List.getElem?_append_right (by omega), hl]
      simp
    · obtain ⟨h1, h2, h3⟩ := ih (by omega)
      rw [List.getElem?_append_left (by omega), List.getElem?_append_left (by omega), List.getElem?_append_left (by omega)]
      exact ⟨h1, h2, h3⟩

/-- What holds while the routes are laid. -/
structure NInv (w wr : World) (N : Nat) (s d : Int) (n b off cp : Nat) (v : Value) (bm : Nat → Nat) (k : Nat) : Prop where
  old : Below N w wr
  blk : wr.heap[N + 1]? = some (.cells #[.int .i64 s, .slice (some ⟨b, off, none⟩) n cp, .int .i64 d, v] 82 (0, 0))
  own : wr.ownsRow (N + 2) 85 3 v k (freshCells bm k)
  maps : ∀ i, i < k → IsSet wr (bm i) 0 ∧ N + 2 ≤ bm i
  inj : ∀ i j, i < k → j < k → i ≠ j → bm i ≠ bm j

theorem IsSet.notCells {w : World} {b U : Nat} {cs : Array Value} {t : TypeId} {f : Nat × Nat} (h : IsSet w b U) (hc : w.heap[b]? = some (.cells cs t f)) : False := by
  obtain ⟨D, ⟨es, clock, h0, _⟩, _⟩ := h
  rw [h0] at hc
  cases hc

theorem NInv.put {w wr w1 : World} {N : Nat} {s d : Int} {n b off cp : Nat} {v v' : Value} {bm : Nat → Nat} {k : Nat} {cs : Array Value} (h : NInv w wr N s d n b off cp v bm k)
    (hown : w1.ownsRow (N + 2) 85 3 v' (k + 1) (freshCells bm k ++ [.bool false, .map (some wr.heap.size), .int .i64 0]))
    (hg : ((wr.alloc (.map #[] 0)).alloc (.cells cs 85)).grownBy w1 v.ownBlock) :
    NInv w (w1.setCell ⟨N + 1, 3, none⟩ v') N s d n b off cp v' (fun i => if i = k then wr.heap.size else bm i) (k + 1) := by
  have hN1 : N + 1 < wr.heap.size := blk_lt h.blk
  have hlt := h.own.lt
  have hW : ((wr.alloc (.map #[] 0)).alloc (.cells cs 85)).heap.size = wr.heap.size + 2 := by simp
  have hb : ∀ j, j < wr.heap.size → some j ≠ v.ownBlock → w1.heap[j]? = wr.heap[j]? := fun j hj hne =>
    (hg.block j (by rw [hW]; omega) hne).trans ((Below.heap_alloc _ _ _ (by simp; omega)).trans (Below.heap_alloc _ _ _ hj))
  have hnew : w1.heap[wr.heap.size]? = (wr.alloc (.map #[] 0)).heap[wr.heap.size]? :=
    (hg.block _ (by rw [hW]; omega) (fun e => by have := hlt _ e.symm; omega)).trans (Below.heap_alloc _ _ _ (by simp))
  have hmne : ∀ i, i < k → some (bm i) ≠ v.ownBlock := by
    intro i hi e
    obtain ⟨hm, _⟩ := h.maps i hi
    rcases h.own.2 with ⟨rfl, _⟩ | ⟨g, cap, cur, rfl, _, hh, _⟩
    · simp [Value.ownBlock] at e
    · simp only [Value.ownBlock, Option.some.injEq] at e
      rw [← e] at hh
      exact hm.notCells hh
  have hset : ∀ j, j ≠ N + 1 → (w1.setCell ⟨N + 1, 3, none⟩ v').heap[j]? = w1.heap[j]? := fun j hj => Below.heap_setCell _ _ _ _ hj
  have hbox := hb (N + 1) hN1 (fun e => by have := hlt _ e.symm; omega)
  have old1 : Below N w w1 := ((h.old.alloc (by omega) _).alloc (by simp; omega) _).grown hg (by rw [hW]; omega) (fun j hj => by have := (hlt j hj).1; omega)
  refine ⟨old1.setCell (by show N ≤ N + 1; omega) _, ?_, ?_, ?_, ?_⟩
  · exact (blk_set (hbox.trans h.blk) 3 v').trans rfl
  · have e : freshCells (fun i => if i = k then wr.heap.size else bm i) (k + 1) = freshCells bm k ++ [.bool false, .map (some wr.heap.size), .int .i64 0] := by
      rw [freshCells, if_pos rfl, fresh_congr (bm' := bm) fun i hi => if_neg (by omega)]
    rw [e]
    obtain ⟨ho1, ho2⟩ := hown
    refine ⟨ho1, ?_⟩
    rcases ho2 with ho | ⟨g, cap, cur, h1, h2, h3, h4⟩
    · exact .inl ho
    · exact .inr ⟨g, cap, cur, h1, h2, (hset g (by omega)).trans h3, h4⟩
  · intro i hi
    by_cases e : i = k
    · subst e
      rw [if_pos rfl]
      exact ⟨(IsSet.made wr).same ((hset _ (by omega)).trans hnew), by omega⟩
    · rw [if_neg e]
      obtain ⟨hm, hm2⟩ := h.maps i (by omega)
      exact ⟨hm.same ((hset _ (by omega)).trans (hb _ hm.lt (hmne i (by omega)))), hm2⟩
  · intro i j hi hj hij
    by_cases ei : i = k
    · rw [if_pos ei, if_neg (by omega)]
      have := (h.maps j (by omega)).1.lt
      omega
    · rw [if_neg ei]
      by_cases ej : j = k
      · rw [if_pos ej]
        have := (h.maps i (by omega)).1.lt
        omega
      · rw [if_neg ej]; exact h.inj i j (by omega) (by omega) hij

set_option maxHeartbeats 2000000 in
theorem newCore_any (s d : Int) (n b off cp : Nat) (w : World) (h1 : 1 ≤ n) (h8 : n ≤ 8) :
    Calls Tryd.prog 16 #[.agg #[.int .i64 s, .slice (some ⟨b, off, none⟩) n cp, .int .i64 d]] w fun e w' =>
      (∃ pr gr cr bm, w.heap.size ≤ pr ∧ w.heap.size ≤ gr ∧ (∀ i, i < n → w.heap.size ≤ bm i) ∧ e = .returned (.pointer (some ⟨pr, 0, none⟩)) ∧ RefIs w' pr s d n b off cp gr cr bm st0) ∧ Below w.heap.size w w' := by
  obtain ⟨i0, hi, hz0, hz1, hz2⟩ := info_parts infoRoute
  have HI := hide hi
  have HZ0 := hide hz0
  have HZ1 := hide hz1
  have HZ2 := hide hz2
  clear hi hz0 hz1 hz2
  have hmm := @run_makeMap Tryd.prog
  have hI0 : NInv w ((w.alloc (.cells #[.int .i64 s, .slice (some ⟨b, off, none⟩) n cp, .int .i64 d] 24)).alloc (.cells #[.int .i64 s, .slice (some ⟨b, off, none⟩) n cp, .int .i64 d, .slice none 0 0] 82)) w.heap.size s d n b off cp (.slice none 0 0) (fun _ => 0) 0 := by
    refine ⟨((Below.refl _ _).alloc (Nat.le_refl _) _).alloc (by simp) _, ?_, World.ownsRow_nil _ _ _ _, fun i hi => by omega, fun i j hi => by omega⟩
    have := blk_new (w.alloc (.cells #[.int .i64 s, .slice (some ⟨b, off, none⟩) n cp, .int .i64 d] 24)) (.cells #[.int .i64 s, .slice (some ⟨b, off, none⟩) n cp, .int .i64 d, .slice none 0 0] 82)
    simpa using this
  have HI0 := hide hI0
  clear hI0
  go_enter Tryd.func16, Tryd.ntmps16
  go_wp2
  go_loopw [10] (fun i wr => ∃ k : Nat, k ≤ n ∧ i = .int .i64 k ∧ ∃ v bm, NInv w wr w.heap.size s d n b off cp v bm k) (fun i _ => n - (intOf i).toNat)
  case atStart => exact ⟨0, Nat.zero_le _, rfl, _, _, HI0.out⟩
  case round =>
    clear HI0
    obtain ⟨k, hk, rfl, v, bm, hI⟩ := hrel
    by_cases hlt : k < n
    · have hb3 : wr.cell? ⟨w.heap.size + 1, 3, none⟩ = some v := by rw [blk_cell hI.blk]; rfl
      have hbf : wr.frozen? ⟨w.heap.size + 1, 3, none⟩ = false := blk_free hI.blk 3
      obtain ⟨a, cv, rfl⟩ : ∃ a cv, v = .slice a k cv := by
        rcases hI.own.2 with ⟨rfl, h0⟩ | ⟨g, cap, cur, rfl, _⟩
        · exact ⟨none, 0, by rw [h0]⟩
        · exact ⟨_, _, rfl⟩
      have hs2 : w.heap.size + 2 ≤ wr.heap.size := by have := blk_lt hI.blk; omega
      go_wp2_with (at_builtin; refine wpList_append_own _ rfl _ _ 80 rfl (w.heap.size + 2) 85 i0 (.agg #[.bool false, .map none, .int .i64 0]) 3 24 Tryd.underlying80 HI.out HZ0.out HZ1.out HZ2.out rfl (by decide) _ _ _ rfl ((hI.own.alloc _).alloc _) ⟨_, 0, none⟩ 1 1 [.bool false, .map (some wr.heap.size), .int .i64 0] rfl rfl ?c1 ?c2 ?c3 ?c4 ?c5 ?_)
      case c1 =>
        intro j u hj
        have hj3 : j < 3 := (List.getElem?_eq_some_iff.1 hj).1
        have q := blk_new (wr.alloc (.map #[] 0)) (.cells #[.bool false, .map (some wr.heap.size), .int .i64 0] 85)
        rw [show (wr.alloc (.map #[] 0)).heap.size = wr.heap.size + 1 by simp] at q
        match j, hj3, hj with
        | 0, _, hj => simp at hj; subst hj; exact (blk_cell q 0).trans rfl
        | 1, _, hj => simp at hj; subst hj; exact (blk_cell q 1).trans rfl
        | 2, _, hj => simp at hj; subst hj; exact (blk_cell q 2).trans rfl
      case c2 =>
        intro u hu
        simp at hu
        rcases hu with rfl | rfl | rfl <;> rfl
      case c3 => unfold maxLen; omega
      case c4 => omega
      case c5 => simp; omega
      intro v' w1 hown hgrow _
      obtain ⟨g', cap', rfl⟩ : ∃ g' cap', v' = .slice (some ⟨g', 0, none⟩) (k + 1) cap' := by
        rcases hown.2 with ⟨_, h0⟩ | ⟨g', cap', _, h0, _⟩
        · omega
        · exact ⟨g', cap', h0⟩
      have R := hI.put hown hgrow
      have hx : w1.heap[w.heap.size + 1]? = wr.heap[w.heap.size + 1]? := (hgrow.block _ (by simp; omega) (fun e => by have := hI.own.lt _ e.symm; omega)).trans ((Below.heap_alloc _ _ _ (by simp; omega)).trans (Below.heap_alloc _ _ _ (by omega)))
      have hx1 : w1.cell? ⟨w.heap.size + 1, 3, none⟩ = some (.slice a k cv) := (World.cell?_of_block (w := wr) hx).trans hb3
      have hx2 : w1.frozen? ⟨w.heap.size + 1, 3, none⟩ = false := (World.frozen?_of_block (w := wr) hx).trans hbf
      have HR := hide R
      clear R hx hown hgrow hb3 hbf
      go_wp2
      go_roundw
      case rel => exact ⟨k + 1, by omega, by go_num, _, _, HR.out⟩
      case measure => simp [intOf]; omega
    · have hkn : k = n := by omega
      subst hkn
      go_wp2
      go_ret
      obtain ⟨ho1, ho2⟩ := hI.own
      rcases ho2 with ⟨_, h0⟩ | ⟨g, cap, cur, rfl, hg1, hg2, hg3, hg4, hg5, hg6⟩
      · omega
      refine ⟨⟨w.heap.size + 1, g, cap, bm, by omega, by omega, fun i hi => by have := (hI.maps i hi).2; omega, rfl, hI.blk, ⟨cur, hg2, fun i hi => ?_⟩, hg3, fun i hi => (hI.maps i hi).1, hI.inj⟩, hI.old⟩
      have ht : ∀ j, j < k * 3 → cur[j]? = (freshCells bm k)[j]? := fun j hj => by
        rw [← hg6, List.getElem?_take, if_pos hj, Array.getElem?_toList]
      obtain ⟨e1, e2, e3⟩ := fresh_at bm k i hi
      rw [ht _ (by omega), ht _ (by omega), ht _ (by omega), e1, e2, e3]
      exact ⟨by simp [st0], rfl, rfl⟩

end Go.Proofs.YtpkfgpagkgmpcaaDoor
