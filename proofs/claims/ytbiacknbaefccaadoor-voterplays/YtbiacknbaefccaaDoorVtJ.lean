/- The voter and the reference's, side by side. -/
import Derived.Test.YtbiacknbaefccaaDoorVrCast
import Derived.Test.YtbiacknbaefccaaDoorVtTold
import Derived.Test.YtbiacknbaefccaaDoorVtEnd
namespace Go.Proofs.YtbiacknbaefccaaDoor
open Go.RowKit Go.Deep Go.Maps

/-- Both voters in memory: S is what the one knows, SR what the other does. -/
structure Jn (w wr : World) (N p q bq mo win : Nat) (tv tvr : Value) (mv : Nat) (S SR : VS) : Prop where
  v : VIs wr N p win tv S
  r : RIs wr N q win tvr mv mo SR
  sep : ∀ g, tv.ownBlock = some g → tvr.ownBlock ≠ some g
  bc : wr.heap[bq]? = some (.cells #[.pointer (some ⟨q, 0, none⟩)] 90 (0, 0))
  okS : VOk win S
  okR : VOk win SR
  old : Below N w wr
  nb : N ≤ bq
  hN : N = w.heap.size
section
variable {w wr w' : World} {N p q bq mo win mv : Nat} {tv tvr : Value} {S SR : VS}
theorem Jn.hsz (h : Jn w wr N p q bq mo win tv tvr mv S SR) : N ≤ wr.heap.size := by rw [h.hN]; exact h.old.size
/-- A block of another kind is none of the voter's. -/
theorem Jn.far_v (h : Jn w wr N p q bq mo win tv tvr mv S SR) (hm : Mod wr w' (VB p tv)) {k : Nat} {cs : Array Value} {t : TypeId} {f : Nat × Nat} (hk : wr.heap[k]? = some (.cells cs t f)) (h1 : t ≠ 156) (h2 : t ≠ 111) : w'.heap[k]? = wr.heap[k]? :=
  hm.block k (blk_lt hk) (fun e => by
    rcases e with e | e
    · exact type_ne hk h.v.blk h1 e
    · obtain ⟨_, cur, hc⟩ := h.v.row.own e
      exact type_ne hk hc h2 rfl)
theorem Jn.far_r (h : Jn w wr N p q bq mo win tv tvr mv S SR) (hm : Mod wr w' (RB q tvr mv mo)) {k : Nat} {cs : Array Value} {t : TypeId} {f : Nat × Nat} (hk : wr.heap[k]? = some (.cells cs t f)) (h1 : t ≠ 105) (h2 : t ≠ 111) : w'.heap[k]? = wr.heap[k]? :=
  hm.block k (blk_lt hk) (fun e => by
    rcases e with e | e | e | e
    · exact type_ne hk h.r.blk h1 e
    · obtain ⟨_, cur, hc⟩ := h.r.row.own e
      exact type_ne hk hc h2 rfl
    · exact h.r.votes.notCells (by rw [← e]; exact hk)
    · exact h.r.outs.notCells (by rw [← e]; exact hk))
theorem Jn.apart (h : Jn w wr N p q bq mo win tv tvr mv S SR) : ∀ k, RB q tvr mv mo k → ¬ VB p tv k := by
  intro k hr hv
  rcases hv with hv | hv
  · subst hv
    rcases hr with e | e | e | e
    · exact type_ne h.v.blk h.r.blk (by decide) e
    · obtain ⟨_, cur, hc⟩ := h.r.row.own e
      exact type_ne h.v.blk hc (by decide) rfl
    · exact h.r.votes.notCells (by rw [← e]; exact h.v.blk)
    · exact h.r.outs.notCells (by rw [← e]; exact h.v.blk)
  · obtain ⟨_, cur, hc⟩ := h.v.row.own hv
    rcases hr with e | e | e | e
    · exact type_ne hc h.r.blk (by decide) e
    · exact h.sep k hv e
    · exact h.r.votes.notCells (by rw [← e]; exact hc)
    · exact h.r.outs.notCells (by rw [← e]; exact hc)
theorem Jn.low_v (h : Jn w wr N p q bq mo win tv tvr mv S SR) : ∀ k, k < N → ¬ VB p tv k := fun k hk e => by
  rcases e with e | e
  · have := h.v.np; omega
  · have := (h.v.row.own e).1; omega
theorem Jn.low_r (h : Jn w wr N p q bq mo win tv tvr mv S SR) : ∀ k, k < N → ¬ RB q tvr mv mo k := fun k hk e => by
  rcases e with e | e | e | e
  · have := h.r.nq; omega
  · have := (h.r.row.own e).1; omega
  · have := h.r.nv; omega
  · have := h.r.no; omega
theorem Jn.below (h : Jn w wr N p q bq mo win tv tvr mv S SR) (hB : Below wr.heap.size wr w') : Jn w w' N p q bq mo win tv tvr mv S SR :=
  ⟨h.v.below hB, h.r.below hB, h.sep, (hB.block _ (blk_lt h.bc)).trans h.bc, h.okS, h.okR, h.old.trans (hB.mono h.hsz), h.nb, h.hN⟩
theorem Jn.drewN (h : Jn w wr N p q bq mo win tv tvr mv S SR) (n : Nat) : Jn w (wr.drewN n) N p q bq mo win tv tvr mv S SR :=
  h.below ⟨rfl, rfl, rfl, Nat.le_refl _, fun _ _ => rfl⟩
/-- The voter has turned. -/
theorem Jn.turn_v {tv' : Value} {S' : VS} (h : Jn w wr N p q bq mo win tv tvr mv S SR) (hv : VIs w' N p win tv' S') (hmv : Moved wr tv tv') (hm : Mod wr w' (VB p tv)) (hok : VOk win S') : Jn w w' N p q bq mo win tv' tvr mv S' SR :=
  ⟨hv, h.r.move hm h.apart, fun g hg e => by
    rcases hmv g hg with h1 | h1
    · exact h.sep g h1 e
    · have := (h.r.own_ne e).2.2.2.1; omega, (h.far_v hm h.bc (by decide) (by decide)).trans h.bc, hok, h.okR, h.old.trans (hm.toBelow h.hsz h.low_v), h.nb, h.hN⟩
theorem Jn.turn_r {tvr' : Value} {mv' : Nat} {S' : VS} (h : Jn w wr N p q bq mo win tv tvr mv S SR) (hr : RIs w' N q win tvr' mv' mo S') (hmv : Moved wr tvr tvr') (hm : Mod wr w' (RB q tvr mv mo)) (hok : VOk win S') : Jn w w' N p q bq mo win tv tvr' mv' S S' :=
  ⟨h.v.move hm (fun k hv hr => h.apart k hr hv), hr, fun g hg e => by
    rcases hmv g e with h1 | h1
    · exact h.sep g hg h1
    · obtain ⟨_, _, hc⟩ := h.v.row.own hg
      have := blk_lt hc; omega, (h.far_r hm h.bc (by decide) (by decide)).trans h.bc, h.okS, hok, h.old.trans (hm.toBelow h.hsz h.low_r), h.nb, h.hN⟩
end
theorem take_few (win : Nat) (S : VS) (F : FR) : (takeF win S F).2.1.length ≤ 2 := by
  unfold takeF
  split
  · simp
  · split
    · show (pastF _ _).length ≤ 2
      unfold pastF
      split <;> simp
    · split
      · simp
      · split <;> simp
theorem FRow.far {w w' : World} {t : TypeId} {v : Value} {L : List FR} (h : FRow w t v L) (hs : ∀ (g : Nat) (cs : Array Value), w.heap[g]? = some (.cells cs t (0, 0)) → w'.heap[g]? = w.heap[g]?) : FRow w' t v L := by
  rcases h with h | ⟨g, cap, rfl, h1, cs, hg, hc⟩
  · exact .inl h
  · exact .inr ⟨g, cap, rfl, h1, cs, (hs g cs hg).trans hg, hc⟩

/-- Between the two: what the one told, of a frame. -/
structure Jm (w wr : World) (N p q bq mo win : Nat) (F : FR) (v : Value) (z : Bool) : Prop where
  j : ∃ tv tvr mv S, Jn w wr N p q bq mo win tv tvr mv (takeF win S F).1 S ∧ FRow wr 63 v (takeF win S F).2.1 ∧ z = (takeF win S F).2.2
/-- Both voters know the same. -/
def Js (w wr : World) (N p q bq mo win : Nat) : Prop := ∃ tv tvr mv S, Jn w wr N p q bq mo win tv tvr mv S S
section
variable {w wr w' : World} {N p q bq mo win : Nat}
theorem Js.below (h : Js w wr N p q bq mo win) (hB : Below wr.heap.size wr w') : Js w w' N p q bq mo win := by
  obtain ⟨tv, tvr, mv, S, h⟩ := h
  exact ⟨tv, tvr, mv, S, h.below hB⟩
theorem Js.bc (h : Js w wr N p q bq mo win) : wr.heap[bq]? = some (.cells #[.pointer (some ⟨q, 0, none⟩)] 90 (0, 0)) := by
  obtain ⟨tv, tvr, mv, S, h⟩ := h
  exact h.bc
theorem Js.old (h : Js w wr N p q bq mo win) : Below N w wr := by
  obtain ⟨tv, tvr, mv, S, h⟩ := h
  exact h.old
theorem Js.hN (h : Js w wr N p q bq mo win) : N = w.heap.size := by
  obtain ⟨tv, tvr, mv, S, h⟩ := h
  exact h.hN
theorem Jm.below {F : FR} {v : Value} {z : Bool} (h : Jm w wr N p q bq mo win F v z) (hB : Below wr.heap.size wr w') : Jm w w' N p q bq mo win F v z := by
  obtain ⟨tv, tvr, mv, S, h1, h2, h3⟩ := h.j
  exact ⟨tv, tvr, mv, S, h1.below hB, h2.below hB, h3⟩
theorem Jm.bc {F : FR} {v : Value} {z : Bool} (h : Jm w wr N p q bq mo win F v z) : wr.heap[bq]? = some (.cells #[.pointer (some ⟨q, 0, none⟩)] 90 (0, 0)) := by
  obtain ⟨tv, tvr, mv, S, h1, _⟩ := h.j
  exact h1.bc
theorem Jm.old {F : FR} {v : Value} {z : Bool} (h : Jm w wr N p q bq mo win F v z) : Below N w wr := by
  obtain ⟨tv, tvr, mv, S, h1, _⟩ := h.j
  exact h1.old
/-- A frame's block is written. -/
theorem Js.far (h : Js w wr N p q bq mo win) {bf : Nat} {cs : Array Value} {f : Nat × Nat} (hb : wr.heap[bf]? = some (.cells cs 63 f)) (hm : Mod wr w' (fun k => k = bf)) (hN : N ≤ bf) : Js w w' N p q bq mo win := by
  obtain ⟨tv, tvr, mv, S, h⟩ := h
  have hv : ∀ k, VB p tv k → ¬ k = bf := fun k hk e => by
    subst e
    rcases hk with e | e
    · exact type_ne hb h.v.blk (by decide) e
    · obtain ⟨_, cur, hc⟩ := h.v.row.own e
      exact type_ne hb hc (by decide) rfl
  have hr : ∀ k, RB q tvr mv mo k → ¬ k = bf := fun k hk e => by
    subst e
    rcases hk with e | e | e | e
    · exact type_ne hb h.r.blk (by decide) e
    · obtain ⟨_, cur, hc⟩ := h.r.row.own e
      exact type_ne hb hc (by decide) rfl
    · exact h.r.votes.notCells (by rw [← e]; exact hb)
    · exact h.r.outs.notCells (by rw [← e]; exact hb)
  exact ⟨tv, tvr, mv, S, h.v.move hm hv, h.r.move hm hr, h.sep, (hm.block bq (blk_lt h.bc) (fun e => type_ne hb h.bc (by decide) e.symm)).trans h.bc, h.okS, h.okR, h.old.trans (hm.toBelow h.hsz (fun k hk e => by omega)), h.nb, h.hN⟩
/-- A frame is told to the one. -/
theorem Js.take (h : Js w wr N p q bq mo win) (F : FR) : Calls Tryd.prog 40 #[.pointer (some ⟨p, 0, none⟩), .agg (fCells F)] wr fun e w' =>
    ∃ v z, e = .returned (.tuple #[v, .bool z]) ∧ Jm w w' N p q bq mo win F v z ∧ Below N w w' ∧ wr.heap.size ≤ w'.heap.size ∧ (∀ (k : Nat) (cs : Array Value) (f : Nat × Nat), wr.heap[k]? = some (.cells cs 63 f) → w'.heap[k]? = wr.heap[k]?) := by
  obtain ⟨tv, tvr, mv, S, h⟩ := h
  refine (take_any N p win tv S wr F h.v h.okS h.hsz).mono ?_
  rintro e w' ⟨v, tv', he, hf, hv, hmv, hm⟩
  have hj := h.turn_v hv hmv hm (h.okS.take F)
  exact ⟨v, _, he, ⟨tv', tvr, mv, S, hj, hf, rfl⟩, hj.old, hm.size, fun k cs f hk => h.far_v hm hk (by decide) (by decide)⟩
/-- And to the other. -/
theorem Jm.take {F : FR} {v : Value} {z : Bool} (h : Jm w wr N p q bq mo win F v z) : Calls Tryd.prog 41 #[.pointer (some ⟨q, 0, none⟩), .agg (fCells F)] wr fun e w' =>
    ∃ v', e = .returned (.tuple #[v', .bool z]) ∧ Js w w' N p q bq mo win ∧ (∃ L, L.length ≤ 2 ∧ FRow w' 63 v L ∧ FRow w' 67 v' L) ∧ wr.heap.size ≤ w'.heap.size ∧ (∀ (k : Nat) (cs : Array Value) (f : Nat × Nat), wr.heap[k]? = some (.cells cs 63 f) → w'.heap[k]? = wr.heap[k]?) := by
  obtain ⟨tv, tvr, mv, S, h, hf, hz⟩ := h.j
  refine (rtake_any N q win tvr mv mo S wr F h.r h.okR h.hsz).mono ?_
  rintro e w' ⟨v', tvr', mv', he, hf', hr, hmv, _, hm⟩
  have hj := h.turn_r hr hmv hm (h.okR.take F)
  exact ⟨v', by rw [he, hz], ⟨tv, tvr', mv', _, hj⟩, ⟨_, take_few win S F, hf.far (fun g cs hg => h.far_r hm hg (by decide) (by decide)), hf'⟩, hm.size, fun k cs f hk => h.far_r hm hk (by decide) (by decide)⟩
end
end Go.Proofs.YtbiacknbaefccaaDoor
