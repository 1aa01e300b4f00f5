/- What holds while the reference makes a step. -/
import Derived.Test.YtpkfgpagkgmpcaaDoorRefOps
import Derived.Test.YtpkfgpagkgmpcaaDoorRefBusy
import Derived.Test.YtpkfgpagkgmpcaaDoorRefMeet
namespace Go.Proofs.YtpkfgpagkgmpcaaDoor
open Go.RowKit Go.Deep

/-- What holds while the reference makes a step: N is the heap's size at its beginning. -/
structure PInv (w wr : World) (N pr sn d n b off cp gr cr : Nat) (bm0 bm : Nat → Nat) (zs : List Int) (c v : Nat) (X : St) : Prop where
  tn : Turns w wr gr n bm0
  ref : RefIs wr pr (sn : Int) (d : Int) n b off cp gr cr bm X
  own : ∀ i, i < n → (∃ j, j < n ∧ bm i = bm0 j) ∨ N ≤ bm i
  x0 : wr.heap[N]? = some (.cells #[.pointer (some ⟨pr, 0, none⟩)] 53 (0, 0))
  x1 : wr.heap[N + 1]? = some (.cells #[.int .i64 (c : Int), .int .i64 (v : Int)] 26 (0, 0))
  x2 : wr.heap[N + 1 + 1]? = some (.cells #[.func (Fn.func 40) #[] #[.pointer (some ⟨N, 0, none⟩), .pointer (some ⟨N + 1, 0, none⟩)]] 87 (0, 0))
  row : Row wr b off zs

/-- What was there, and is not the reference's. -/
structure Far (N gr n b : Nat) (bm0 : Nat → Nat) : Prop where
  bN : b < N
  gN : gr < N
  bg : b ≠ gr
  bmb : ∀ i, i < n → bm0 i ≠ b
  bmN : ∀ i, i < n → bm0 i < N

theorem PInv.move {w wr wx : World} {N pr sn d n b off cp gr cr : Nat} {bm0 bm bm' : Nat → Nat} {zs : List Int} {c v : Nat} {X Y : St} (h : PInv w wr N pr sn d n b off cp gr cr bm0 bm zs c v X) (ht : Turns w wx gr n bm0) (hr : RefIs wx pr (sn : Int) (d : Int) n b off cp gr cr bm' Y)
    (ho : ∀ i, i < n → (∃ j, j < n ∧ bm' i = bm0 j) ∨ N ≤ bm' i) (hs : ∀ k, k = N ∨ k = N + 1 ∨ k = N + 1 + 1 ∨ k = b → wx.heap[k]? = wr.heap[k]?) : PInv w wx N pr sn d n b off cp gr cr bm0 bm' zs c v Y :=
  ⟨ht, hr, ho, (hs _ (.inl rfl)).trans h.x0, (hs _ (.inr (.inl rfl))).trans h.x1, (hs _ (.inr (.inr (.inl rfl)))).trans h.x2, fun k hk => (World.cell?_of_block (w := wr) (hs b (.inr (.inr (.inr rfl))))).trans (h.row k hk)⟩

theorem PInv.putMap {w wr wx : World} {N pr sn d n b off cp gr cr : Nat} {bm0 bm : Nat → Nat} {zs : List Int} {c v : Nat} {X : St} (h : PInv w wr N pr sn d n b off cp gr cr bm0 bm zs c v X) (hN : N = w.heap.size) (hf : Far N gr n b bm0) {i : Nat} (hi : i < n) (U : Nat) (hg : wr.grownBy wx (some (bm i))) (hU : IsSet wx (bm i) U) :
    PInv w wx N pr sn d n b off cp gr cr bm0 bm zs c v ⟨X.set, upd X.used i U, X.idle⟩ := by
  have hm := h.ref.maps i hi
  have hne : ∀ {k : Nat} {c : Array Value} {t : TypeId} {f : Nat × Nat}, wr.heap[k]? = some (.cells c t f) → wx.heap[k]? = wr.heap[k]? := fun {k} _ _ _ hk => hg.block k (blk_lt hk) (fun e => by
    simp only [Option.some.injEq] at e
    rw [e] at hk
    exact hm.notCells hk)
  refine h.move (h.tn.map hg ?_) (h.ref.putMap hi U hg hU) h.own ?_
  · rcases h.own i hi with ⟨j, hj, e⟩ | e
    · exact .inl ⟨j, hj, e⟩
    · exact .inr (by omega)
  · rintro k (rfl | rfl | rfl | rfl)
    · exact hne h.x0
    · exact hne h.x1
    · exact hne h.x2
    · refine hg.block _ (Nat.lt_of_lt_of_le (by have := hf.bN; omega) h.tn.size) (fun e => ?_)
      simp only [Option.some.injEq] at e
      rcases h.own i hi with ⟨j, hj, e2⟩ | e2
      · exact hf.bmb j hj (by omega)
      · have := hf.bN; omega

theorem PInv.far {w wr : World} {N pr sn d n b off cp gr cr : Nat} {bm0 bm : Nat → Nat} {zs : List Int} {c v : Nat} {X : St} (_ : PInv w wr N pr sn d n b off cp gr cr bm0 bm zs c v X) (hf : Far N gr n b bm0) (i : Nat) (u : Value) :
    ∀ k, k = N ∨ k = N + 1 ∨ k = N + 1 + 1 ∨ k = b → (wr.setCell ⟨gr, i, none⟩ u).heap[k]? = wr.heap[k]? := by
  have h1 := hf.gN
  have h2 := hf.bg
  rintro k (rfl | rfl | rfl | rfl)
  · exact Below.heap_setCell _ _ _ _ (by show _ ≠ gr; omega)
  · exact Below.heap_setCell _ _ _ _ (by show _ ≠ gr; omega)
  · exact Below.heap_setCell _ _ _ _ (by show _ ≠ gr; omega)
  · exact Below.heap_setCell _ _ _ _ h2
theorem PInv.putIdle {w wr : World} {N pr sn d n b off cp gr cr : Nat} {bm0 bm : Nat → Nat} {zs : List Int} {c v : Nat} {X : St} (h : PInv w wr N pr sn d n b off cp gr cr bm0 bm zs c v X) (hf : Far N gr n b bm0) {i : Nat} (hi : i < n) (t : Int) :
    PInv w (wr.setCell ⟨gr, i * 3 + 2, none⟩ (.int .i64 t)) N pr sn d n b off cp gr cr bm0 bm zs c v ⟨X.set, X.used, upd X.idle i t⟩ := h.move (h.tn.setRow _ _) (h.ref.putIdle hi t) h.own (h.far hf _ _)
theorem PInv.putBit {w wr : World} {N pr sn d n b off cp gr cr : Nat} {bm0 bm : Nat → Nat} {zs : List Int} {c v : Nat} {X : St} (h : PInv w wr N pr sn d n b off cp gr cr bm0 bm zs c v X) (hf : Far N gr n b bm0) {i : Nat} (hi : i < n) :
    PInv w (wr.setCell ⟨gr, i * 3, none⟩ (.bool true)) N pr sn d n b off cp gr cr bm0 bm zs c v ⟨X.set ||| 2 ^ i, X.used, X.idle⟩ := h.move (h.tn.setRow _ _) (h.ref.putBit hi) h.own (h.far hf _ _)
theorem PInv.below {w wr wx : World} {N pr sn d n b off cp gr cr : Nat} {bm0 bm : Nat → Nat} {zs : List Int} {c v : Nat} {X : St} (h : PInv w wr N pr sn d n b off cp gr cr bm0 bm zs c v X) (hN : N = w.heap.size) (hf : Far N gr n b bm0) (hB : Below wr.heap.size wr wx) : PInv w wx N pr sn d n b off cp gr cr bm0 bm zs c v X := by
  refine h.move (h.tn.below hB) (h.ref.below hB) h.own ?_
  rintro k (rfl | rfl | rfl | rfl)
  · exact hB.block _ (blk_lt h.x0)
  · exact hB.block _ (blk_lt h.x1)
  · exact hB.block _ (blk_lt h.x2)
  · exact hB.block _ (Nat.lt_of_lt_of_le (by have := hf.bN; omega) h.tn.size)
theorem PInv.drewN {w wr : World} {N pr sn d n b off cp gr cr : Nat} {bm0 bm : Nat → Nat} {zs : List Int} {c v : Nat} {X : St} (h : PInv w wr N pr sn d n b off cp gr cr bm0 bm zs c v X) (k : Nat) : PInv w (wr.drewN k) N pr sn d n b off cp gr cr bm0 bm zs c v X :=
  h.move (h.tn.drewN k) (h.ref.same fun _ _ => rfl) h.own fun _ _ => rfl
theorem PInv.reset {w wr : World} {N pr sn d n b off cp gr cr : Nat} {bm0 bm : Nat → Nat} {zs : List Int} {c v : Nat} {X : St} (h : PInv w wr N pr sn d n b off cp gr cr bm0 bm zs c v X) (hN : N = w.heap.size) (hf : Far N gr n b bm0) {i : Nat} (hi : i < n) :
    PInv w ((((wr.alloc (.map #[] 0)).setCell ⟨gr, i * 3, none⟩ (.bool false)).setCell ⟨gr, i * 3 + 1, none⟩ (.map (some wr.heap.size))).setCell ⟨gr, i * 3 + 2, none⟩ (.int .i64 0)) N pr sn d n b off cp gr cr bm0 (upd bm i wr.heap.size) zs c v ⟨wo X.set (2 ^ i), upd X.used i 0, upd X.idle i 0⟩ := by
  have h1 := hf.gN
  have h2 := hf.bg
  have hs := h.tn.size
  refine h.move ((((h.tn.below ((Below.refl _ _).alloc (Nat.le_refl _) _)).setRow _ _).setRow _ _).setRow _ _) (h.ref.reset hi) (fun j hj => ?_) ?_
  · unfold upd
    split
    · exact .inr (by omega)
    · exact h.own j hj
  · have key : ∀ k, k ≠ gr → k < wr.heap.size → ((((wr.alloc (.map #[] 0)).setCell ⟨gr, i * 3, none⟩ (.bool false)).setCell ⟨gr, i * 3 + 1, none⟩ (.map (some wr.heap.size))).setCell ⟨gr, i * 3 + 2, none⟩ (.int .i64 0)).heap[k]? = wr.heap[k]? := fun k hk hl => by
      rw [Below.heap_setCell _ _ _ _ hk, Below.heap_setCell _ _ _ _ hk, Below.heap_setCell _ _ _ _ hk, Below.heap_alloc _ _ _ hl]
    rintro k (rfl | rfl | rfl | rfl)
    · exact key _ (by omega) (blk_lt h.x0)
    · exact key _ (by omega) (blk_lt h.x1)
    · exact key _ (by omega) (blk_lt h.x2)
    · exact key _ h2 (Nat.lt_of_lt_of_le (by have := hf.bN; omega) hs)

theorem PInv.sees {w wr : World} {N pr sn d n b off cp gr cr : Nat} {bm0 bm : Nat → Nat} {zs : List Int} {c v : Nat} {X : St} (h : PInv w wr N pr sn d n b off cp gr cr bm0 bm zs c v X) (hok : checkF (sn : Int) zs (d : Int) = (0, -1)) (hn : zs.length = n) {i : Nat} (hi : i < n) : Sees wr N (N + 1) pr sn n b off cp (rt zs i) i c := by
  refine ⟨(blk_cell h.x0 0).trans rfl, (blk_cell h.ref.blk 0).trans rfl, (blk_cell h.ref.blk 1).trans rfl, ?_, (blk_cell h.x1 0).trans rfl⟩
  have := h.row i (by omega)
  rw [(rt_in hok (show i < zs.length by omega)).1] at this
  exact this

end Go.Proofs.YtpkfgpagkgmpcaaDoor
