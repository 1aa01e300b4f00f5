import Derived.Laws.StructEq
import Derived.ChangeKeysEq
import Derived.Deep.MidRow
import Derived.Deep.OwnRows
import Derived.Test.YtaablbmgagiajabGreatDoorKGAA
import Derived.OwnWalk
import Derived.Laws.OwnMore
import Derived.Deep.AppendLies
namespace Go.Proofs.YtaablbmgagiajabGreatDoor
open Go.RowKit Go.Deep
abbrev FR := Nat → Int
def fr0 : FR := fun _ => 0
structure Cm where
  c : Int
  v : Int
  o : Int
def cm0 : Cm := ⟨0, 0, 0⟩
structure VS where
  tr : List Cm
  b : Nat → Bool
  x : Nat → Cm
  left : Nat
  out : Nat
  lat : Bool
def vs0 (win : Nat) : VS := ⟨[], fun _ => false, fun _ => cm0, win, 0, false⟩
structure VOk (win : Nat) (S : VS) : Prop where
  w1 : 1 ≤ win
  w2 : win ≤ 20
  few : S.tr.length ≤ 1000
  full : S.tr.length = 1000 → S.lat = true
  out : S.out < 8
  left : S.left ≤ 20
  pos : S.lat = false → 1 ≤ S.left
theorem VOk.new {win : Nat} (h1 : 1 ≤ win) (h2 : win ≤ 20) : VOk win (vs0 win) := ⟨h1, h2, by simp [vs0], by simp [vs0], by simp [vs0], h2, fun _ => h1⟩
def cmAt (l : List Cm) (k : Nat) : Cm := l[k]?.getD cm0
def cmF (F : FR) : Cm := ⟨F 3, F 4, F 5⟩
def shownF (S : VS) : Int := if S.lat || S.tr.length == 0 then 0 else (cmAt S.tr (S.tr.length - 1)).o
structure Mod (w w' : World) (T : Nat → Prop) : Prop where
  os : w'.os = w.os
  tape : w'.tape = w.tape
  output : w'.output = w.output
  size : w.heap.size ≤ w'.heap.size
  block : ∀ k, k < w.heap.size → ¬ T k → w'.heap[k]? = w.heap[k]?
theorem Mod.refl (w : World) (T : Nat → Prop) : Mod w w T := ⟨rfl, rfl, rfl, Nat.le_refl _, fun _ _ _ => rfl⟩
theorem Mod.then {w w1 w2 : World} {T U : Nat → Prop} (h : Mod w w1 T) (k : Mod w1 w2 U) (hU : ∀ i, i < w.heap.size → U i → T i) : Mod w w2 T :=
  ⟨k.os.trans h.os, k.tape.trans h.tape, k.output.trans h.output, Nat.le_trans h.size k.size, fun i hi ht => (k.block i (Nat.lt_of_lt_of_le hi h.size) (fun hu => ht (hU i hi hu))).trans (h.block i hi ht)⟩
theorem Mod.mono {w w1 : World} {T U : Nat → Prop} (h : Mod w w1 T) (hU : ∀ i, i < w.heap.size → T i → U i) : Mod w w1 U := ⟨h.os, h.tape, h.output, h.size, fun i hi hu => h.block i hi (fun ht => hu (hU i hi ht))⟩
theorem Mod.ofBelow {w w1 : World} (h : Below w.heap.size w w1) (T : Nat → Prop) : Mod w w1 T := ⟨h.os, h.tape, h.output, h.size, fun i hi _ => h.block i hi⟩
theorem Mod.below {w w1 w2 : World} {T : Nat → Prop} (h : Mod w w1 T) (k : Below w1.heap.size w1 w2) : Mod w w2 T := h.then (U := fun _ => False) (Mod.ofBelow k _) (fun _ _ hf => hf.elim)
theorem Mod.toBelow {w w1 : World} {T : Nat → Prop} {B : Nat} (h : Mod w w1 T) (hB : B ≤ w.heap.size) (hT : ∀ k, k < B → ¬ T k) : Below B w w1 := ⟨h.os, h.tape, h.output, h.size, fun k hk => h.block k (by omega) (hT k hk)⟩
theorem Mod.set {w w1 : World} {T : Nat → Prop} (h : Mod w w1 T) (a : Addr) (v : Value) (ha : a.block < w.heap.size → T a.block) : Mod w (w1.setCell a v) T :=
  ⟨h.os, h.tape, h.output, by simpa [World.setCell] using h.size, fun k hk ht => (Below.heap_setCell _ _ _ _ (fun e => ht (by subst e; exact ha hk))).trans (h.block k hk ht)⟩
theorem Mod.grown {w w1 w2 : World} {T : Nat → Prop} {row : Option Nat} (h : Mod w w1 T) (g : w1.grownBy w2 row) (hr : ∀ k, k < w.heap.size → row = some k → T k) : Mod w w2 T :=
  ⟨g.os.trans h.os, g.tape.trans h.tape, g.output.trans h.output, Nat.le_trans h.size g.size, fun i hi ht => (g.block i (Nat.lt_of_lt_of_le hi h.size) (fun e => ht (hr i hi e.symm))).trans (h.block i hi ht)⟩
def cmC (d : Cm) : List Value := [.int .i64 d.c, .int .i64 d.v, .int .i64 d.o]
def cmL : List Cm → List Value
  | [] => []
  | d :: r => cmC d ++ cmL r
theorem cmL_at (l : List Cm) (k : Nat) (hk : k < l.length) (j : Nat) (hj : j < 3) : (cmL l)[k * 3 + j]? = (cmC (cmAt l k))[j]? := by
  induction l generalizing k with
  | nil => simp at hk
  | cons d r ih =>
    cases k with
    | zero =>
      rw [cmL, List.getElem?_append_left (by simp [cmC]; omega), Nat.zero_mul, Nat.zero_add]
      rfl
    | succ k =>
      rw [cmL, List.getElem?_append_right (by simp [cmC]; omega), show (k + 1) * 3 + j - (cmC d).length = k * 3 + j by simp [cmC]; omega, ih k (by simpa using hk)]
      rfl
def vCells (tv : Value) (win : Nat) (S : VS) : Array Value := #[tv, .bool (S.b 0), .int .i64 (S.x 0).c, .int .i64 (S.x 0).v, .int .i64 (S.x 0).o, .bool (S.b 1), .int .i64 (S.x 1).c, .int .i64 (S.x 1).v, .int .i64 (S.x 1).o, .bool (S.b 2), .int .i64 (S.x 2).c, .int .i64 (S.x 2).v, .int .i64 (S.x 2).o, .int .i64 (win : Int), .int .i64 (S.left : Int), .int .i64 (S.out : Int), .bool S.lat]
def TIs (w : World) (N : Nat) (tv : Value) (l : List Cm) : Prop := w.ownsRow N 49 3 tv l.length (cmL l)
structure VIs (w : World) (N p win : Nat) (tv : Value) (S : VS) : Prop where
  blk : w.heap[p]? = some (.cells (vCells tv win S) 148 (0, 0))
  row : TIs w N tv S.tr
  np : N ≤ p
theorem TIs.shape {w : World} {N : Nat} {tv : Value} {l : List Cm} (h : TIs w N tv l) : ∃ a cap, tv = .slice a l.length cap := by
  rcases h.2 with ⟨rfl, h0⟩ | ⟨g, cap, cur, rfl, _⟩
  · exact ⟨none, 0, by rw [h0]⟩
  · exact ⟨_, _, rfl⟩
theorem TIs.has {w : World} {N : Nat} {tv : Value} {l : List Cm} (h : TIs w N tv l) (h0 : 0 < l.length) : ∃ g cap, tv = .slice (some ⟨g, 0, none⟩) l.length cap ∧ N ≤ g ∧ g < w.heap.size ∧ l.length ≤ cap := by
  rcases h.2 with ⟨rfl, h1⟩ | ⟨g, cap, cur, rfl, h1, h2, h3, _⟩
  · omega
  · exact ⟨g, cap, rfl, h1, blk_lt h2, h3⟩
theorem TIs.own {w : World} {N : Nat} {tv : Value} {l : List Cm} (h : TIs w N tv l) {g : Nat} (hg : tv.ownBlock = some g) : N ≤ g ∧ ∃ cur, w.heap[g]? = some (.cells cur 49 (0, 0)) := by
  rcases h.2 with ⟨rfl, h1⟩ | ⟨g', cap, cur, rfl, h1, h2, h3, _⟩
  · simp [Value.ownBlock] at hg
  · simp only [Value.ownBlock, Option.some.injEq] at hg
    subst hg
    exact ⟨h1, cur, h2⟩
theorem TIs.same {w w' : World} {N : Nat} {tv : Value} {l : List Cm} (h : TIs w N tv l) (hs : ∀ g, tv.ownBlock = some g → w'.heap[g]? = w.heap[g]?) : TIs w' N tv l := by
  obtain ⟨h1, h2⟩ := h
  refine ⟨h1, ?_⟩
  rcases h2 with h2 | ⟨g, cap, cur, rfl, h3, h4, h5⟩
  · exact .inl h2
  · exact .inr ⟨g, cap, cur, rfl, h3, (hs g rfl).trans h4, h5⟩
theorem TIs.range {w : World} {N : Nat} {l : List Cm} {g n cap : Nat} (h : TIs w N (.slice (some ⟨g, 0, none⟩) n cap) l) {k : Nat} (hk : k < l.length) : w.rangeAt g (k * 3) [.int .i64 (cmAt l k).c, .int .i64 (cmAt l k).v, .int .i64 (cmAt l k).o] := by
  intro j v hv
  have hj : j < 3 := by have := (List.getElem?_eq_some_iff.1 hv).1; simpa using this
  rcases h.2 with ⟨e, _⟩ | ⟨g', cap', cur, e, _, hg, _, _, _, ht⟩
  · simp at e
  · simp only [Value.slice.injEq, Option.some.injEq, Addr.mk.injEq, and_true] at e
    obtain ⟨rfl, _, _⟩ := e
    rw [blk_cell hg, ← Array.getElem?_toList]
    have e2 := cmL_at l k hk j hj
    rw [← ht, List.getElem?_take, if_pos (by omega)] at e2
    rw [e2]
    exact hv
theorem type_ne {w : World} {a b : Nat} {x y : Array Value} {s t : TypeId} {f g : Nat × Nat} (h1 : w.heap[a]? = some (.cells x s f)) (h2 : w.heap[b]? = some (.cells y t g)) (hst : s ≠ t) : a ≠ b := by
  intro e
  rw [e, h2] at h1
  injection h1 with h1
  injection h1 with _ h1
  exact hst h1.symm
theorem VIs.at {w : World} {N p win : Nat} {tv : Value} {S : VS} (h : VIs w N p win tv S) (k : Nat) : w.cell? ⟨p, k, none⟩ = (vCells tv win S)[k]? := blk_cell h.blk k
theorem VIs.lt {w : World} {N p win : Nat} {tv : Value} {S : VS} (h : VIs w N p win tv S) : p < w.heap.size := blk_lt h.blk
def VB (p : Nat) (tv : Value) (k : Nat) : Prop := k = p ∨ tv.ownBlock = some k
theorem VIs.move {w w' : World} {N p win : Nat} {tv : Value} {S : VS} (h : VIs w N p win tv S) {T : Nat → Prop} (hm : Mod w w' T) (hT : ∀ k, VB p tv k → ¬ T k) : VIs w' N p win tv S :=
  ⟨(hm.block p h.lt (hT p (.inl rfl))).trans h.blk, h.row.same fun g hg => hm.block g (by obtain ⟨_, _, hc⟩ := h.row.own hg; exact blk_lt hc) (hT g (.inr hg)), h.np⟩
def Moved (w : World) (tv tv' : Value) : Prop := ∀ g, tv'.ownBlock = some g → tv.ownBlock = some g ∨ w.heap.size ≤ g
end Go.Proofs.YtaablbmgagiajabGreatDoor
