import Derived.Test.YtaablbmgagiajabGreatDoorVtMem
import Derived.Test.YtaablbmgagiajabGreatDoorCoreStep
import Derived.Test.YtaablbmgagiajabGreatDoorFrF
import Derived.Deep.MidRow
import Derived.Deep.Upon
import Derived.Great.BuildSlice
import Derived.Test.YtaablbmgagiajabGreatDoorFrDef
import Derived.Test.YtaablbmgagiajabGreatDoorFrMay
import Derived.Laws.BytesArg
import Derived.Laws.Strings
import Derived.Deep.AppendLies
import Derived.Deep.RegionHeld3
/- A replica: what it knows, and where that lies in memory. -/
namespace Go.Proofs.YtaablbmgagiajabGreatDoor
open Go.RowKit Go.Deep

/-! ### A block, cell by cell -/
def BIs (w : World) (p t n : Nat) (f : Nat → Value) : Prop := ∃ cs : Array Value, w.heap[p]? = some (.cells cs t (0, 0)) ∧ cs.size = n ∧ ∀ k, k < n → cs[k]? = some (f k)
section
variable {w w' : World} {p t n : Nat} {f g : Nat → Value}
theorem BIs.at (h : BIs w p t n f) {k : Nat} (hk : k < n) : w.cell? ⟨p, k, none⟩ = some (f k) := by
  obtain ⟨cs, h1, _, h3⟩ := h
  rw [blk_cell h1]
  exact h3 k hk
theorem BIs.free (h : BIs w p t n f) (k : Nat) : w.frozen? ⟨p, k, none⟩ = false := by
  obtain ⟨cs, h1, _⟩ := h
  exact blk_free h1 k
theorem BIs.lt (h : BIs w p t n f) : p < w.heap.size := by
  obtain ⟨cs, h1, _⟩ := h
  exact blk_lt h1
theorem BIs.same (h : BIs w p t n f) (hb : w'.heap[p]? = w.heap[p]?) : BIs w' p t n f := by
  obtain ⟨cs, h1, h2⟩ := h
  exact ⟨cs, hb.trans h1, h2⟩
theorem BIs.congr (h : BIs w p t n f) (e : ∀ k, k < n → f k = g k) : BIs w p t n g := by
  obtain ⟨cs, h1, h2, h3⟩ := h
  exact ⟨cs, h1, h2, fun k hk => by rw [h3 k hk, e k hk]⟩
theorem BIs.set (h : BIs w p t n f) {k : Nat} (hk : k < n) (v : Value) : BIs (w.setCell ⟨p, k, none⟩ v) p t n (upd f k v) := by
  obtain ⟨cs, h1, h2, h3⟩ := h
  refine ⟨_, blk_set h1 k v, by simpa using h2, fun j hj => ?_⟩
  rw [Array.getElem?_setIfInBounds]
  by_cases e : k = j
  · subst e; simp [h2, hk, upd_same]
  · rw [if_neg e, upd_other f v (fun h => e h.symm)]; exact h3 j hj
theorem BIs.sets : ∀ (vs : List Value) (o : Nat) (w : World) (f : Nat → Value), BIs w p t n f → o + vs.length ≤ n → BIs (w.setCells p o vs) p t n (fun k => if o ≤ k then (vs[k - o]?).getD (f k) else f k)
  | [], o, w, f, h, _ => h.congr fun k _ => by simp
  | v :: r, o, w, f, h, hl => by
    simp only [List.length_cons] at hl
    refine (BIs.sets r (o + 1) (w.setCell ⟨p, o, none⟩ v) (upd f o v) (h.set (by omega) v) (by omega)).congr fun k _ => ?_
    by_cases h1 : k < o
    · rw [if_neg (by omega), if_neg (by omega), upd_other _ _ (by omega)]
    · by_cases h2 : k = o
      · subst h2; rw [if_neg (by omega), if_pos (Nat.le_refl _)]; simp [upd_same]
      · rw [if_pos (by omega), if_pos (by omega), upd_other _ _ h2, show k - o = (k - (o + 1)) + 1 by omega, List.getElem?_cons_succ]
theorem BIs.range (h : BIs w p t n f) {o : Nat} {cs : List Value} (hl : o + cs.length ≤ n) (hc : ∀ j, j < cs.length → cs[j]? = some (f (o + j))) : w.rangeAt p o cs := by
  intro j v hv
  have hj : j < cs.length := (List.getElem?_eq_some_iff.1 hv).1
  rw [h.at (by omega), ← hc j hj, hv]
theorem BIs.there (h : BIs w p t n f) {o m : Nat} (hl : o + m ≤ n) : w.there p o m := fun j hj => ⟨by rw [h.at (by omega)]; rfl, h.free _⟩
end

/-! ### What a replica knows -/
structure Smp where
  there : Bool
  came : Int
  c : Nat
  v : Nat
def smp0 : Smp := ⟨false, 0, 0, 0⟩
def smpC (x : Smp) : List Value := [.bool x.there, .int .i64 x.came, .int .i64 (x.c : Int), .int .i64 (x.v : Int)]
structure RS where
  id : Nat
  cycle : Int
  ticks : Int
  ahead : Int
  st : St
  sx : Int
  sy : Int
  smp : Nat → Smp
  told : Nat → Nat → Int
/-- What another one told: the cycle, and the state. -/
def tlC (T : Nat → Int) : Array Value := #[.int .i64 (T 0), .int .i64 (T 1), .int .i64 (T 2), .int .i64 (T 3), .int .i64 (T 4), .int .i64 (T 5), .int .i64 (T 6), .int .i64 (T 7), .int .i64 (T 8), .int .i64 (T 9), .int .i64 (T 10), .int .i64 (T 11), .int .i64 (T 12), .int .i64 (T 13), .int .i64 (T 14), .int .i64 (T 15), .int .i64 (T 16), .int .i64 (T 17)]
theorem tlC_at (T : Nat → Int) (k : Nat) (h : k < 18) : (tlC T)[k]? = some (.int .i64 (T k)) := by
  match k, h with
  | 0, _ => rfl | 1, _ => rfl | 2, _ => rfl | 3, _ => rfl | 4, _ => rfl | 5, _ => rfl | 6, _ => rfl | 7, _ => rfl | 8, _ => rfl | 9, _ => rfl | 10, _ => rfl | 11, _ => rfl | 12, _ => rfl | 13, _ => rfl | 14, _ => rfl | 15, _ => rfl | 16, _ => rfl | 17, _ => rfl
  | _ + 18, h => exact absurd h (by omega)
/-- A line: its numbers, the core's blocks, the list's. -/
structure RC where
  s : Nat
  d : Nat
  n : Nat
  zs : List Int
  pc : Nat
  g : Nat
  cg : Nat
  M : Nat
  g2 : Nat
  c2 : Nat
def rpF (C : RC) (R : RS) (k : Nat) : Value :=
  if k = 0 then .int .i64 (R.id : Int) else if k = 1 then .int .i64 (C.s : Int) else if k = 2 then .slice (some ⟨C.g2, 0, none⟩) C.n C.c2 else if k = 3 then .int .i64 (C.d : Int) else if k = 4 then .pointer (some ⟨C.pc, 0, none⟩)
  else if k = 5 then .int .i64 R.cycle else if k = 6 then .int .i64 R.ticks else if k = 7 then .int .i64 R.ahead
  else if k < 25 then ((stCells R.st)[k - 8]?).getD undef
  else if k = 25 then .int .i64 R.sx else if k = 26 then .int .i64 R.sy
  else if k < 39 then ((smpC (R.smp ((k - 27) / 4)))[(k - 27) % 4]?).getD undef
  else .int .i64 (R.told ((k - 39) / 18) ((k - 39) % 18))

structure RpIs (w : World) (p : Nat) (C : RC) (R : RS) : Prop where
  blk : BIs w p 160 93 (rpF C R)
  core : CoreIs w C.pc (C.s : Int) (C.d : Int) C.n C.zs C.g C.cg C.M
  row : Row w C.g2 0 C.zs
  lt2 : C.g2 < w.heap.size
  cap2 : C.n ≤ C.c2
  ap : p ≠ C.pc ∧ p ≠ C.g ∧ p ≠ C.M ∧ p ≠ C.g2

theorem CoreIs.blocks {w wx : World} {p : Nat} {s d : Int} {n : Nat} {zs : List Int} {g cg M : Nat} (h : CoreIs w p s d n zs g cg M) (hs : w.heap.size ≤ wx.heap.size) (hb : ∀ k, k = p ∨ k = g ∨ k = M → wx.heap[k]? = w.heap[k]?) : CoreIs wx p s d n zs g cg M :=
  ⟨(hb p (.inl rfl)).trans h.blk, h.len, h.cap, Nat.lt_of_lt_of_le h.glt hs, fun k hk => (World.cell?_of_block (w := w) (hb g (.inr (.inl rfl)))).trans (h.row k hk), h.con.of_block (hb M (.inr (.inr rfl))), h.ok⟩
section
variable {w w' : World} {p : Nat} {C : RC} {R R' : RS}
theorem RpIs.lt (h : RpIs w p C R) : p < w.heap.size := h.blk.lt
theorem RpIs.mod (h : RpIs w p C R) (hm : Mod w w' (· = p)) (hb : BIs w' p 160 93 (rpF C R')) : RpIs w' p C R' := by
  have e : ∀ k, k < w.heap.size → k ≠ p → w'.heap[k]? = w.heap[k]? := fun k hk hp => hm.block k hk hp
  obtain ⟨a1, a2, a3, a4⟩ := h.ap
  refine ⟨hb, h.core.blocks hm.size ?_, fun k hk => (World.cell?_of_block (w := w) (e _ h.lt2 (fun x => a4 x.symm))).trans (h.row k hk), Nat.lt_of_lt_of_le h.lt2 hm.size, h.cap2, h.ap⟩
  rintro k (rfl | rfl | rfl)
  · exact e _ h.core.plt (fun x => a1 x.symm)
  · exact e _ h.core.glt (fun x => a2 x.symm)
  · exact e _ h.core.mlt (fun x => a3 x.symm)
theorem RpIs.below (h : RpIs w p C R) (hB : Below w.heap.size w w') : RpIs w' p C R := h.mod (Mod.ofBelow hB _) (h.blk.same (hB.block _ h.lt))
theorem RpIs.other (h : RpIs w p C R) {q : Nat} (hm : Mod w w' (· = q)) (hq : q ≠ p ∧ q ≠ C.pc ∧ q ≠ C.g ∧ q ≠ C.M ∧ q ≠ C.g2) : RpIs w' p C R := by
  have e : ∀ k, k < w.heap.size → k ≠ q → w'.heap[k]? = w.heap[k]? := fun k hk hp => hm.block k hk hp
  obtain ⟨a0, a1, a2, a3, a4⟩ := hq
  refine ⟨h.blk.same (e _ h.lt (fun x => a0 x.symm)), h.core.blocks hm.size ?_, fun k hk => (World.cell?_of_block (w := w) (e _ h.lt2 (fun x => a4 x.symm))).trans (h.row k hk), Nat.lt_of_lt_of_le h.lt2 hm.size, h.cap2, h.ap⟩
  rintro k (rfl | rfl | rfl)
  · exact e _ h.core.plt (fun x => a1 x.symm)
  · exact e _ h.core.glt (fun x => a2 x.symm)
  · exact e _ h.core.mlt (fun x => a3 x.symm)

/-! ### One cell -/
theorem RpIs.put (h : RpIs w p C R) {k : Nat} (hk : k < 93) (v : Value) (e : ∀ j, j < 93 → upd (rpF C R) k v j = rpF C R' j) : RpIs (w.setCell ⟨p, k, none⟩ v) p C R' :=
  h.mod ((Mod.refl w _).set ⟨p, k, none⟩ v (fun _ => rfl)) ((h.blk.set hk v).congr e)
theorem Mod.sets {T : Nat → Prop} {w w1 : World} (h : Mod w w1 T) (p o : Nat) (vs : List Value) (hp : T p) : Mod w (w1.setCells p o vs) T := by
  refine ⟨(World.os_setCells _ _ _ _).trans h.os, ?_, (World.output_setCells _ _ _ _).trans h.output, ?_, fun k hk ht => ?_⟩
  · have : ∀ (vs : List Value) (o : Nat) (x : World), (x.setCells p o vs).tape = x.tape := by
      intro vs
      induction vs with
      | nil => intro _ _; rfl
      | cons v r ih => intro o x; exact ih (o + 1) (x.setCell ⟨p, o, none⟩ v)
    rw [this]; exact h.tape
  · have : ∀ (vs : List Value) (o : Nat) (x : World), (x.setCells p o vs).heap.size = x.heap.size := by
      intro vs
      induction vs with
      | nil => intro _ _; rfl
      | cons v r ih => intro o x; exact (ih (o + 1) (x.setCell ⟨p, o, none⟩ v)).trans (by simp [World.setCell])
    rw [this]; exact h.size
  · have hne : k ≠ p := fun e => ht (e ▸ hp)
    exact (World.heap_setCells_other w1 p o vs (Nat.lt_of_lt_of_le hk h.size) hne).trans (h.block k hk ht)
theorem RpIs.puts (h : RpIs w p C R) (o : Nat) (vs : List Value) (hl : o + vs.length ≤ 93) (e : ∀ j, j < 93 → (if o ≤ j then (vs[j - o]?).getD (rpF C R j) else rpF C R j) = rpF C R' j) : RpIs (w.setCells p o vs) p C R' :=
  h.mod ((Mod.refl w _).sets p o vs rfl) ((BIs.sets vs o w _ h.blk hl).congr e)

theorem RpIs.c0 (h : RpIs w p C R) : w.cell? ⟨p, 0, none⟩ = some (.int .i64 (R.id : Int)) := h.blk.at (by decide)
theorem RpIs.c1 (h : RpIs w p C R) : w.cell? ⟨p, 1, none⟩ = some (.int .i64 (C.s : Int)) := h.blk.at (by decide)
theorem RpIs.c2 (h : RpIs w p C R) : w.cell? ⟨p, 2, none⟩ = some (.slice (some ⟨C.g2, 0, none⟩) C.n C.c2) := h.blk.at (by decide)
theorem RpIs.c3 (h : RpIs w p C R) : w.cell? ⟨p, 3, none⟩ = some (.int .i64 (C.d : Int)) := h.blk.at (by decide)
theorem RpIs.c4 (h : RpIs w p C R) : w.cell? ⟨p, 4, none⟩ = some (.pointer (some ⟨C.pc, 0, none⟩)) := h.blk.at (by decide)
theorem RpIs.c5 (h : RpIs w p C R) : w.cell? ⟨p, 5, none⟩ = some (.int .i64 R.cycle) := h.blk.at (by decide)
theorem RpIs.c6 (h : RpIs w p C R) : w.cell? ⟨p, 6, none⟩ = some (.int .i64 R.ticks) := h.blk.at (by decide)
theorem RpIs.c7 (h : RpIs w p C R) : w.cell? ⟨p, 7, none⟩ = some (.int .i64 R.ahead) := h.blk.at (by decide)
theorem RpIs.c25 (h : RpIs w p C R) : w.cell? ⟨p, 25, none⟩ = some (.int .i64 R.sx) := h.blk.at (by decide)
theorem RpIs.c26 (h : RpIs w p C R) : w.cell? ⟨p, 26, none⟩ = some (.int .i64 R.sy) := h.blk.at (by decide)
theorem RpIs.state (h : RpIs w p C R) : w.rangeAt p 8 (stCells R.st).toList := by
  refine h.blk.range (by show 8 + 17 ≤ 93; omega) fun j hj => ?_
  have hj' : j < 17 := hj
  unfold rpF
  rw [if_neg (by omega), if_neg (by omega), if_neg (by omega), if_neg (by omega), if_neg (by omega), if_neg (by omega), if_neg (by omega), if_neg (by omega), if_pos (by omega), show 8 + j - 8 = j by omega]
  have hs : j < (stCells R.st).size := hj'
  rw [Array.getElem?_toList, Array.getElem?_eq_getElem hs]
  rfl
theorem rpF_smp {k j : Nat} (hk : k < 3) (hj : j < 4) : rpF C R (27 + k * 4 + j) = ((smpC (R.smp k))[j]?).getD undef := by
  unfold rpF
  rw [if_neg (by omega), if_neg (by omega), if_neg (by omega), if_neg (by omega), if_neg (by omega), if_neg (by omega), if_neg (by omega), if_neg (by omega), if_neg (by omega), if_neg (by omega), if_neg (by omega), if_pos (by omega), show (27 + k * 4 + j - 27) / 4 = k by omega, show (27 + k * 4 + j - 27) % 4 = j by omega]
theorem rpF_told {k j : Nat} (hk : k < 3) (hj : j < 18) : rpF C R (39 + k * 18 + j) = .int .i64 (R.told k j) := by
  unfold rpF
  rw [if_neg (by omega), if_neg (by omega), if_neg (by omega), if_neg (by omega), if_neg (by omega), if_neg (by omega), if_neg (by omega), if_neg (by omega), if_neg (by omega), if_neg (by omega), if_neg (by omega), if_neg (by omega), show (39 + k * 18 + j - 39) / 18 = k by omega, show (39 + k * 18 + j - 39) % 18 = j by omega]
theorem RpIs.s0 (h : RpIs w p C R) {k : Nat} (hk : k < 3) : w.cell? ⟨p, 27 + k * 4, none⟩ = some (.bool (R.smp k).there) := (h.blk.at (by omega)).trans (congrArg some (rpF_smp (j := 0) hk (by omega)))
theorem RpIs.s1 (h : RpIs w p C R) {k : Nat} (hk : k < 3) : w.cell? ⟨p, 27 + k * 4 + 1, none⟩ = some (.int .i64 (R.smp k).came) := (h.blk.at (by omega)).trans (congrArg some (rpF_smp (j := 1) hk (by omega)))
theorem RpIs.s2 (h : RpIs w p C R) {k : Nat} (hk : k < 3) : w.cell? ⟨p, 27 + k * 4 + 2, none⟩ = some (.int .i64 ((R.smp k).c : Int)) := (h.blk.at (by omega)).trans (congrArg some (rpF_smp (j := 2) hk (by omega)))
theorem RpIs.s3 (h : RpIs w p C R) {k : Nat} (hk : k < 3) : w.cell? ⟨p, 27 + k * 4 + 3, none⟩ = some (.int .i64 ((R.smp k).v : Int)) := (h.blk.at (by omega)).trans (congrArg some (rpF_smp (j := 3) hk (by omega)))
/-- All samples; all that was told. -/
def smpL (f : Nat → Smp) : List Value := smpC (f 0) ++ smpC (f 1) ++ smpC (f 2)
theorem RpIs.samples (h : RpIs w p C R) : w.rangeAt p 27 (smpL R.smp) := by
  refine h.blk.range (by show 27 + 12 ≤ 93; omega) fun j hj => ?_
  have hj' : j < 12 := hj
  rcases (by omega : j < 4 ∨ (4 ≤ j ∧ j < 8) ∨ (8 ≤ j ∧ j < 12)) with h1 | h1 | h1
  · have := rpF_smp (C := C) (R := R) (k := 0) (j := j) (by omega) h1
    rw [show 27 + 0 * 4 + j = 27 + j by omega] at this
    rw [this]
    rcases (by omega : j = 0 ∨ j = 1 ∨ j = 2 ∨ j = 3) with rfl | rfl | rfl | rfl <;> rfl
  · have := rpF_smp (C := C) (R := R) (k := 1) (j := j - 4) (by omega) (by omega)
    rw [show 27 + 1 * 4 + (j - 4) = 27 + j by omega] at this
    rw [this]
    rcases (by omega : j = 4 ∨ j = 5 ∨ j = 6 ∨ j = 7) with rfl | rfl | rfl | rfl <;> rfl
  · have := rpF_smp (C := C) (R := R) (k := 2) (j := j - 8) (by omega) (by omega)
    rw [show 27 + 2 * 4 + (j - 8) = 27 + j by omega] at this
    rw [this]
    rcases (by omega : j = 8 ∨ j = 9 ∨ j = 10 ∨ j = 11) with rfl | rfl | rfl | rfl <;> rfl
def tlL (f : Nat → Nat → Int) : List Value := (tlC (f 0)).toList ++ (tlC (f 1)).toList ++ (tlC (f 2)).toList
theorem tlL_at (f : Nat → Nat → Int) {k j : Nat} (hk : k < 3) (hj : j < 18) : (tlL f)[k * 18 + j]? = some (.int .i64 (f k j)) := by
  have a : ∀ i, (tlC (f i)).toList[j]? = some (.int .i64 (f i j)) := fun i => by rw [Array.getElem?_toList]; exact tlC_at _ _ hj
  have l : ∀ i, (tlC (f i)).toList.length = 18 := fun _ => rfl
  unfold tlL
  rcases (by omega : k = 0 ∨ k = 1 ∨ k = 2) with rfl | rfl | rfl
  · rw [List.append_assoc, List.getElem?_append_left (by rw [l]; omega), Nat.zero_mul, Nat.zero_add, a]
  · rw [List.append_assoc, List.getElem?_append_right (by rw [l]; omega), List.getElem?_append_left (by rw [l, l]; omega), l, show 1 * 18 + j - 18 = j by omega, a]
  · rw [List.getElem?_append_right (by rw [List.length_append, l, l]; omega), List.length_append, l, l, show 2 * 18 + j - (18 + 18) = j by omega, a]
theorem RpIs.tolds (h : RpIs w p C R) : w.rangeAt p 39 (tlL R.told) := by
  refine h.blk.range (by show 39 + 54 ≤ 93; omega) fun j hj => ?_
  have hj' : j < 54 := hj
  have e := tlL_at R.told (k := j / 18) (j := j % 18) (by omega) (by omega)
  have e2 := rpF_told (C := C) (R := R) (k := j / 18) (j := j % 18) (by omega) (by omega)
  rw [show j / 18 * 18 + j % 18 = j by omega] at e
  rw [show 39 + j / 18 * 18 + j % 18 = 39 + j by omega] at e2
  rw [e, e2]
end
end Go.Proofs.YtaablbmgagiajabGreatDoor

/- What a store into a replica leaves of its cells. -/
namespace Go.Proofs.YtaablbmgagiajabGreatDoor
open Go.RowKit Go.Deep
section
variable {C : RC} {R : RS}
theorem rpF_putS {k : Nat} (x : Smp) (hk : k < 3) {j : Nat} (hj : j < 93) : (if 27 + k * 4 ≤ j then ((smpC x)[j - (27 + k * 4)]?).getD (rpF C R j) else rpF C R j) = rpF C { R with smp := upd R.smp k x } j := by
  by_cases hr : 27 + k * 4 ≤ j ∧ j < 27 + k * 4 + 4
  · obtain ⟨i, rfl⟩ : ∃ i, j = 27 + k * 4 + i := ⟨j - (27 + k * 4), by omega⟩
    have hi : i < 4 := by omega
    rw [if_pos (by omega), rpF_smp hk hi, rpF_smp hk hi, show 27 + k * 4 + i - (27 + k * 4) = i by omega]
    show _ = ((smpC (upd R.smp k x k))[i]?).getD undef
    rw [upd_same]
    rcases (by omega : i = 0 ∨ i = 1 ∨ i = 2 ∨ i = 3) with rfl | rfl | rfl | rfl <;> rfl
  · have e : (if 27 + k * 4 ≤ j then ((smpC x)[j - (27 + k * 4)]?).getD (rpF C R j) else rpF C R j) = rpF C R j := by
      split
      · rw [List.getElem?_eq_none (by show 4 ≤ _; omega)]; rfl
      · rfl
    rw [e]
    unfold rpF
    refine ite_congr rfl (fun _ => rfl) fun h0 => ?_
    refine ite_congr rfl (fun _ => rfl) fun h1 => ?_
    refine ite_congr rfl (fun _ => rfl) fun h2 => ?_
    refine ite_congr rfl (fun _ => rfl) fun h3 => ?_
    refine ite_congr rfl (fun _ => rfl) fun h4 => ?_
    refine ite_congr rfl (fun _ => rfl) fun h5 => ?_
    refine ite_congr rfl (fun _ => rfl) fun h6 => ?_
    refine ite_congr rfl (fun _ => rfl) fun h7 => ?_
    refine ite_congr rfl (fun _ => rfl) fun h8 => ?_
    refine ite_congr rfl (fun _ => rfl) fun h9 => ?_
    refine ite_congr rfl (fun _ => rfl) fun h10 => ?_
    refine ite_congr rfl (fun h11 => ?_) fun _ => rfl
    show _ = ((smpC (upd R.smp k x ((j - 27) / 4)))[(j - 27) % 4]?).getD undef
    rw [upd_other _ _ (by omega)]
theorem rpF_putT {k : Nat} (T : Nat → Int) (hk : k < 3) {j : Nat} (hj : j < 93) : (if 39 + k * 18 ≤ j then ((tlC T).toList[j - (39 + k * 18)]?).getD (rpF C R j) else rpF C R j) = rpF C { R with told := upd R.told k T } j := by
  by_cases hr : 39 + k * 18 ≤ j ∧ j < 39 + k * 18 + 18
  · obtain ⟨i, rfl⟩ : ∃ i, j = 39 + k * 18 + i := ⟨j - (39 + k * 18), by omega⟩
    have hi : i < 18 := by omega
    rw [if_pos (by omega), rpF_told hk hi, rpF_told hk hi, show 39 + k * 18 + i - (39 + k * 18) = i by omega, Array.getElem?_toList, tlC_at T i hi]
    show _ = Value.int .i64 (upd R.told k T k i)
    rw [upd_same]
    rfl
  · have e : (if 39 + k * 18 ≤ j then ((tlC T).toList[j - (39 + k * 18)]?).getD (rpF C R j) else rpF C R j) = rpF C R j := by
      split
      · rw [List.getElem?_eq_none (by show 18 ≤ _; omega)]; rfl
      · rfl
    rw [e]
    unfold rpF
    refine ite_congr rfl (fun _ => rfl) fun h0 => ?_
    refine ite_congr rfl (fun _ => rfl) fun h1 => ?_
    refine ite_congr rfl (fun _ => rfl) fun h2 => ?_
    refine ite_congr rfl (fun _ => rfl) fun h3 => ?_
    refine ite_congr rfl (fun _ => rfl) fun h4 => ?_
    refine ite_congr rfl (fun _ => rfl) fun h5 => ?_
    refine ite_congr rfl (fun _ => rfl) fun h6 => ?_
    refine ite_congr rfl (fun _ => rfl) fun h7 => ?_
    refine ite_congr rfl (fun _ => rfl) fun h8 => ?_
    refine ite_congr rfl (fun _ => rfl) fun h9 => ?_
    refine ite_congr rfl (fun _ => rfl) fun h10 => ?_
    refine ite_congr rfl (fun _ => rfl) fun h11 => ?_
    have : upd R.told k T ((j - 39) / 18) = R.told ((j - 39) / 18) := upd_other _ _ (by omega)
    show _ = Value.int .i64 (upd R.told k T ((j - 39) / 18) ((j - 39) % 18))
    rw [this]
theorem rpF_putSt (X : St) {j : Nat} : (if 8 ≤ j then ((stCells X).toList[j - 8]?).getD (rpF C R j) else rpF C R j) = rpF C { R with st := X } j := by
  by_cases hr : 8 ≤ j ∧ j < 25
  · rw [if_pos hr.1]
    have hs : j - 8 < (stCells X).size := by show j - 8 < 17; omega
    unfold rpF
    rw [if_neg (by omega), if_neg (by omega), if_neg (by omega), if_neg (by omega), if_neg (by omega), if_neg (by omega), if_neg (by omega), if_neg (by omega), if_pos hr.2]
    rw [if_neg (by omega), if_neg (by omega), if_neg (by omega), if_neg (by omega), if_neg (by omega), if_neg (by omega), if_neg (by omega), if_neg (by omega), if_pos hr.2]
    rw [Array.getElem?_toList, Array.getElem?_eq_getElem hs]
    rfl
  · have e : (if 8 ≤ j then ((stCells X).toList[j - 8]?).getD (rpF C R j) else rpF C R j) = rpF C R j := by
      split
      · rw [List.getElem?_eq_none (by show 17 ≤ _; omega)]; rfl
      · rfl
    rw [e]
    unfold rpF
    refine ite_congr rfl (fun _ => rfl) fun h0 => ?_
    refine ite_congr rfl (fun _ => rfl) fun h1 => ?_
    refine ite_congr rfl (fun _ => rfl) fun h2 => ?_
    refine ite_congr rfl (fun _ => rfl) fun h3 => ?_
    refine ite_congr rfl (fun _ => rfl) fun h4 => ?_
    refine ite_congr rfl (fun _ => rfl) fun h5 => ?_
    refine ite_congr rfl (fun _ => rfl) fun h6 => ?_
    refine ite_congr rfl (fun _ => rfl) fun h7 => ?_
    exact ite_congr rfl (fun h8 => absurd h8 (by omega)) fun _ => rfl
theorem rpF_wipeS {j : Nat} (hj : j < 93) : (if 27 ≤ j then ((smpL fun _ => smp0)[j - 27]?).getD (rpF C R j) else rpF C R j) = rpF C { R with smp := fun _ => smp0 } j := by
  by_cases hr : 27 ≤ j ∧ j < 39
  · obtain ⟨i, rfl⟩ : ∃ i, j = 27 + i := ⟨j - 27, by omega⟩
    have hi : i < 12 := by omega
    rw [if_pos (by omega), show 27 + i - 27 = i by omega]
    have e := rpF_smp (C := C) (R := { R with smp := fun _ => smp0 }) (k := i / 4) (j := i % 4) (by omega) (by omega)
    rw [show 27 + i / 4 * 4 + i % 4 = 27 + i by omega] at e
    rw [e]
    show ((smpL fun _ => smp0)[i]?).getD _ = ((smpC smp0)[i % 4]?).getD undef
    rcases (by omega : i = 0 ∨ i = 1 ∨ i = 2 ∨ i = 3 ∨ i = 4 ∨ i = 5 ∨ i = 6 ∨ i = 7 ∨ i = 8 ∨ i = 9 ∨ i = 10 ∨ i = 11) with rfl | rfl | rfl | rfl | rfl | rfl | rfl | rfl | rfl | rfl | rfl | rfl <;> rfl
  · have e : (if 27 ≤ j then ((smpL fun _ => smp0)[j - 27]?).getD (rpF C R j) else rpF C R j) = rpF C R j := by
      split
      · rw [List.getElem?_eq_none (by show 12 ≤ _; omega)]; rfl
      · rfl
    rw [e]
    unfold rpF
    refine ite_congr rfl (fun _ => rfl) fun h0 => ?_
    refine ite_congr rfl (fun _ => rfl) fun h1 => ?_
    refine ite_congr rfl (fun _ => rfl) fun h2 => ?_
    refine ite_congr rfl (fun _ => rfl) fun h3 => ?_
    refine ite_congr rfl (fun _ => rfl) fun h4 => ?_
    refine ite_congr rfl (fun _ => rfl) fun h5 => ?_
    refine ite_congr rfl (fun _ => rfl) fun h6 => ?_
    refine ite_congr rfl (fun _ => rfl) fun h7 => ?_
    refine ite_congr rfl (fun _ => rfl) fun h8 => ?_
    refine ite_congr rfl (fun _ => rfl) fun h9 => ?_
    refine ite_congr rfl (fun _ => rfl) fun h10 => ?_
    exact ite_congr rfl (fun h11 => absurd h11 (by omega)) fun _ => rfl
theorem rpF_wipeT {j : Nat} (hj : j < 93) : (if 39 ≤ j then ((tlL fun _ _ => 0)[j - 39]?).getD (rpF C R j) else rpF C R j) = rpF C { R with told := fun _ _ => 0 } j := by
  by_cases hr : 39 ≤ j
  · obtain ⟨i, rfl⟩ : ∃ i, j = 39 + i := ⟨j - 39, by omega⟩
    have hi : i < 54 := by omega
    rw [if_pos (by omega), show 39 + i - 39 = i by omega]
    have e := rpF_told (C := C) (R := { R with told := fun _ _ => 0 }) (k := i / 18) (j := i % 18) (by omega) (by omega)
    have e2 := tlL_at (fun _ _ => 0) (k := i / 18) (j := i % 18) (by omega) (by omega)
    rw [show 39 + i / 18 * 18 + i % 18 = 39 + i by omega] at e
    rw [show i / 18 * 18 + i % 18 = i by omega] at e2
    rw [e, e2]
    rfl
  · rw [if_neg hr]
    unfold rpF
    refine ite_congr rfl (fun _ => rfl) fun h0 => ?_
    refine ite_congr rfl (fun _ => rfl) fun h1 => ?_
    refine ite_congr rfl (fun _ => rfl) fun h2 => ?_
    refine ite_congr rfl (fun _ => rfl) fun h3 => ?_
    refine ite_congr rfl (fun _ => rfl) fun h4 => ?_
    refine ite_congr rfl (fun _ => rfl) fun h5 => ?_
    refine ite_congr rfl (fun _ => rfl) fun h6 => ?_
    refine ite_congr rfl (fun _ => rfl) fun h7 => ?_
    refine ite_congr rfl (fun _ => rfl) fun h8 => ?_
    refine ite_congr rfl (fun _ => rfl) fun h9 => ?_
    refine ite_congr rfl (fun _ => rfl) fun h10 => ?_
    exact ite_congr rfl (fun _ => rfl) fun h11 => absurd hj (by omega)
theorem rpF_cyc (c : Int) {j : Nat} : upd (rpF C R) 5 (.int .i64 c) j = rpF C { R with cycle := c } j := by
  unfold upd rpF
  by_cases e : j = 5
  · subst e; rfl
  · simp [e]
theorem rpF_tick (c : Int) {j : Nat} : upd (rpF C R) 6 (.int .i64 c) j = rpF C { R with ticks := c } j := by
  unfold upd rpF
  by_cases e : j = 6
  · subst e; rfl
  · simp [e]
theorem rpF_ahead (c : Int) {j : Nat} : upd (rpF C R) 7 (.int .i64 c) j = rpF C { R with ahead := c } j := by
  unfold upd rpF
  by_cases e : j = 7
  · subst e; rfl
  · simp [e]
end
section
variable {w : World} {p : Nat} {C : RC} {R : RS}
theorem RpIs.putS (h : RpIs w p C R) {k : Nat} (hk : k < 3) (x : Smp) : RpIs (w.setCells p (27 + k * 4) (smpC x)) p C { R with smp := upd R.smp k x } :=
  h.puts _ _ (by show 27 + k * 4 + 4 ≤ 93; omega) fun _ hj => rpF_putS x hk hj
theorem RpIs.putT (h : RpIs w p C R) {k : Nat} (hk : k < 3) (T : Nat → Int) : RpIs (w.setCells p (39 + k * 18) (tlC T).toList) p C { R with told := upd R.told k T } :=
  h.puts _ _ (by show 39 + k * 18 + 18 ≤ 93; omega) fun _ hj => rpF_putT T hk hj
theorem RpIs.putSt (h : RpIs w p C R) (X : St) : RpIs (w.setCells p 8 (stCells X).toList) p C { R with st := X } :=
  h.puts _ _ (by show 8 + 17 ≤ 93; omega) fun _ _ => rpF_putSt X
theorem RpIs.wipeS (h : RpIs w p C R) : RpIs (w.setCells p 27 (smpL fun _ => smp0)) p C { R with smp := fun _ => smp0 } :=
  h.puts _ _ (by show 27 + 12 ≤ 93; omega) fun _ hj => rpF_wipeS hj
theorem RpIs.wipeT (h : RpIs w p C R) : RpIs (w.setCells p 39 (tlL fun _ _ => 0)) p C { R with told := fun _ _ => 0 } :=
  h.puts _ _ (by show 39 + 54 ≤ 93; omega) fun _ hj => rpF_wipeT hj
theorem RpIs.cyc (h : RpIs w p C R) (c : Int) : RpIs (w.setCell ⟨p, 5, none⟩ (.int .i64 c)) p C { R with cycle := c } := h.put (by decide) _ fun _ _ => rpF_cyc c
theorem RpIs.tick (h : RpIs w p C R) (c : Int) : RpIs (w.setCell ⟨p, 6, none⟩ (.int .i64 c)) p C { R with ticks := c } := h.put (by decide) _ fun _ _ => rpF_tick c
theorem RpIs.aheads (h : RpIs w p C R) (c : Int) : RpIs (w.setCell ⟨p, 7, none⟩ (.int .i64 c)) p C { R with ahead := c } := h.put (by decide) _ fun _ _ => rpF_ahead c
theorem RpIs.drew (h : RpIs w p C R) : RpIs w.drew p C R := h.below (Below.refl _ _).drew
end
end Go.Proofs.YtaablbmgagiajabGreatDoor

/- Frames that are told, in memory. -/
namespace Go.Proofs.YtaablbmgagiajabGreatDoor
open Go.RowKit Go.Deep

/-- Frames that are told, in memory. -/
def FRow (w : World) (t : TypeId) (v : Value) (L : List FR) : Prop :=
  (L = [] ∧ v = .slice none 0 0) ∨ ∃ g cap, v = .slice (some ⟨g, 0, none⟩) L.length cap ∧ L.length ≤ cap ∧ ∃ cs, w.heap[g]? = some (.cells cs t (0, 0)) ∧ ∀ i, i < L.length → ∀ j, j < 23 → cs[i * 23 + j]? = some (.int .i64 ((L[i]?.getD fr0) j))
theorem FRow.one {w : World} {t g : Nat} {F : FR} (h : w.heap[g]? = some (.cells (fCells F) t (0, 0))) : FRow w t (.slice (some ⟨g, 0, none⟩) 1 1) [F] :=
  .inr ⟨g, 1, rfl, Nat.le_refl _, fCells F, h, fun i hi j hj => by
    have : i = 0 := by simpa using hi
    subst this
    rw [Nat.zero_mul, Nat.zero_add]
    exact fCells_at F j hj⟩
theorem FRow.two {w : World} {t base g cap : Nat} {F G : FR} (h : w.ownsRow base t 23 (.slice (some ⟨g, 0, none⟩) 2 cap) 2 ((fCells F).toList ++ (fCells G).toList)) : FRow w t (.slice (some ⟨g, 0, none⟩) 2 cap) [F, G] := by
  rcases h.2 with ⟨e, _⟩ | ⟨g', cap', cur, e, _, hg, hc, _, _, ht⟩
  · simp at e
  simp only [Value.slice.injEq, Option.some.injEq, Addr.mk.injEq, and_true, true_and] at e
  obtain ⟨rfl, rfl⟩ := e
  refine .inr ⟨g, cap, rfl, hc, cur, hg, fun i hi j hj => ?_⟩
  have hi2 : i < 2 := by simpa using hi
  have e1 : cur[i * 23 + j]? = ((fCells F).toList ++ (fCells G).toList)[i * 23 + j]? := by
    rw [← ht, List.getElem?_take, if_pos (by omega), Array.getElem?_toList]
  rw [e1]
  match i, hi2 with
  | 0, _ => rw [List.getElem?_append_left (by simp [fCells_size]; omega), Array.getElem?_toList, Nat.zero_mul, Nat.zero_add]; exact fCells_at F j hj
  | 1, _ => rw [List.getElem?_append_right (by simp [fCells_size]), Array.getElem?_toList, show 1 * 23 + j - (fCells F).toList.length = j by simp [fCells_size]]; exact fCells_at G j hj
theorem FRow.range {w : World} {t g n cap : Nat} {L : List FR} (h : FRow w t (.slice (some ⟨g, 0, none⟩) n cap) L) {i : Nat} (hi : i < L.length) : w.rangeAt g (i * 23) (fCells (L[i]?.getD fr0)).toList := by
  rcases h with ⟨_, e⟩ | ⟨g', cap', e, _, cs, hg, hc⟩
  · simp at e
  simp only [Value.slice.injEq, Option.some.injEq, Addr.mk.injEq, and_true] at e
  obtain ⟨rfl, _⟩ := e
  intro j v hv
  have hj : j < 23 := by have := (List.getElem?_eq_some_iff.1 hv).1; simpa [fCells_size] using this
  have e2 := fCells_at (L[i]?.getD fr0) j hj
  rw [← Array.getElem?_toList, hv] at e2
  rw [blk_cell hg, hc i hi j hj, e2]
theorem FRow.below {w w' : World} {t : TypeId} {v : Value} {L : List FR} (h : FRow w t v L) (hB : Below w.heap.size w w') : FRow w' t v L := by
  rcases h with h | ⟨g, cap, rfl, h1, cs, hg, hc⟩
  · exact .inl h
  · exact .inr ⟨g, cap, rfl, h1, cs, (hB.block g (blk_lt hg)).trans hg, hc⟩

theorem infoFrameZ : (Tryz.prog.info? 36).map (fun i => (i.zero, i.size, i.bytes)) = some (some (.agg (fCells fr0)), 23, 184) := by kernel_rfl
end Go.Proofs.YtaablbmgagiajabGreatDoor

/- A list of one frame that is written out; one of what was committed. -/
namespace Go.Proofs.YtaablbmgagiajabGreatDoor
open Go.RowKit Go.Deep

theorem fill_one (F : FR) : Instr.fill (fun i => some (i * 23, 23)) ((Array.range (1 * 23)).map ((fCells fr0)[· % (fCells fr0).size]!)) [(0, .agg (fCells F))] = some (fCells F) := by
  have h := Great.fill_whole (s := 23) (by decide) [.agg (fCells F)] ((Array.range (1 * 23)).map ((fCells fr0)[· % (fCells fr0).size]!)) (by intro v hv; simp at hv; subst hv; rfl) (by simp)
  have e : (List.flatMap (fun v : Value => v.cells.toList) [Value.agg (fCells F)]).toArray = fCells F := by
    rw [List.flatMap_cons, List.flatMap_nil, List.append_nil]
    rfl
  rw [e] at h
  exact h
section
variable {ops : Array Oper} {rest : List Oper} {op : Oper} {a : Act} {w : World} {Q : Exit → Act → World → Prop}
theorem wpList_one_f (hgd : op.guard = none) (x : Operand) (ho : op.op = .buildSlice 211 1 #[(0, x)]) (F : FR) (hx : a.eval x = .agg (fCells F)) (H : Nat) (hH : w.heap.size = H)
    (h : ∀ w', Hid (w'.heap[H]? = some (.cells (fCells F) 36 (0, 0)) ∧ w'.heap.size = H + 1 ∧ Below H w w') → wpList Tryz.prog ops Q rest (a.put op.dst (.slice (some ⟨H, 0, none⟩) 1 1)) w') : wpList Tryz.prog ops Q (op :: rest) a w := by
  obtain ⟨i0, hi, hz0, hz1, hz2⟩ := info_parts infoFrameZ
  subst hH
  refine wpList_buildSlice hgd _ 36 1 _ ho (fCells F) i0 (.agg (fCells fr0)) Tryz.underlying211 hi hz0 (by rw [hz1]; decide) (by rw [hz1]; decide) ?_ (h _ ⟨blk_new _ _, by simp, (Below.refl _ _).alloc (Nat.le_refl _) _⟩)
  rw [hz1]
  simp only [List.map_toArray, List.map_cons, List.map_nil, hx]
  exact fill_one F
end
end Go.Proofs.YtaablbmgagiajabGreatDoor

/- A frame's bytes. No program is named here. -/
namespace Go.Proofs.YtaablbmgagiajabGreatDoor

/-- A number's three bytes; a sum's four. -/
def b3 (n : Nat) : List Nat := [n / 65536 % 256, n / 256 % 256, n % 256]
def b4 (n : Nat) : List Nat := [n / 16777216 % 256, n / 65536 % 256, n / 256 % 256, n % 256]
def bytesN (l : List Int) : List Nat := l.flatMap fun x => b3 x.toNat
def withSum (l : List Nat) : List Nat := l ++ b4 (crc l).toNat
/-- What a frame is told as. -/
def encF (F : Nat → Int) : List Nat := withSum (bytesN (numsF F))
theorem bytesN_take (l : List Int) (k : Nat) (h : k < l.length) : bytesN (l.take (k + 1)) = bytesN (l.take k) ++ b3 (l[k]?.getD 0).toNat := by
  unfold bytesN
  rw [List.take_add_one, List.getElem?_eq_getElem h, List.flatMap_append]
  rfl
theorem bytesN_length (l : List Int) : (bytesN l).length = 3 * l.length := by
  induction l with
  | nil => rfl
  | cons x l ih =>
    show (b3 x.toNat ++ bytesN l).length = _
    rw [List.length_append, ih]
    simp [b3]; omega
theorem b3_lt (n : Nat) : ∀ c ∈ b3 n, c < 256 := by
  intro c hc
  simp only [b3, List.mem_cons, List.not_mem_nil, or_false] at hc
  omega
theorem b4_lt (n : Nat) : ∀ c ∈ b4 n, c < 256 := by
  intro c hc
  simp only [b4, List.mem_cons, List.not_mem_nil, or_false] at hc
  omega
theorem bytesN_lt (l : List Int) : ∀ c ∈ bytesN l, c < 256 := by
  intro c hc
  obtain ⟨x, _, hx⟩ := List.mem_flatMap.1 hc
  exact b3_lt _ _ hx
theorem withSum_length (l : List Nat) : (withSum l).length = l.length + 4 := by unfold withSum; rw [List.length_append]; rfl
theorem withSum_lt {l : List Nat} (h : ∀ c ∈ l, c < 256) : ∀ c ∈ withSum l, c < 256 := by
  intro c hc
  rcases List.mem_append.1 hc with hc | hc
  · exact h c hc
  · exact b4_lt _ _ hc
theorem encF_lt (F : Nat → Int) : ∀ c ∈ encF F, c < 256 := withSum_lt (bytesN_lt _)
theorem encF_length (F : Nat → Int) : (encF F).length = 3 * (numsF F).length + 4 := by unfold encF; rw [withSum_length, bytesN_length]
end Go.Proofs.YtaablbmgagiajabGreatDoor

/- The contracts of frame.sumBytes and frame.Encode. -/
namespace Go.Proofs.YtaablbmgagiajabGreatDoor
open Go.RowKit Go.Deep

def u8s (l : List Nat) : List Value := l.map fun (c : Nat) => Value.int .u8 (c : Int)
theorem u8s_one (l : List Nat) : ∀ u ∈ u8s l, u.oneCell' = true := by
  intro u hu
  obtain ⟨c, _, rfl⟩ := List.mem_map.1 hu
  rfl
theorem infoByte : (Tryz.prog.info? 5).map (fun i => (i.zero, i.size, i.bytes)) = some (some (.int .u8 0), 1, 1) := by kernel_rfl

theorem sum_cells (m : Nat) (h : m < 4294967296) : #[Value.int .u8 ((m : Int) / 16777216), .int .u8 ((m : Int) / 65536 % 256), .int .u8 ((m : Int) / 256 % 256), .int .u8 ((m : Int) % 256)] = (u8s (b4 m)).toArray := by
  have e : (m : Int) / 16777216 = ((m / 16777216 % 256 : Nat) : Int) := by omega
  rw [e]
  simp [u8s, b4]
theorem num_cells (m : Nat) (h : m ≤ 1048576) : [Value.int .u8 ((m : Int) / 65536), .int .u8 ((m : Int) / 256 % 256), .int .u8 ((m : Int) % 256)] = u8s (b3 m) := by
  have e : (m : Int) / 65536 = ((m / 65536 % 256 : Nat) : Int) := by omega
  rw [e]
  simp [u8s, b3]

set_option maxHeartbeats 1000000 in
set_option maxRecDepth 20000 in
theorem sumBytes_any (a : Option Addr) (len cap : Nat) (l : List Nat) (w : World) (hl : len ≤ 1000) (h : IsB w a len cap l) :
    Calls Tryz.prog 83 #[.slice a len cap] w fun e w' => e = .returned (.slice (some ⟨w.heap.size, 0, none⟩) 4 4) ∧ w' = w.alloc (.cells (u8s (b4 (crc l).toNat)).toArray 5) := by
  have HS := hide (sum_any a len cap l w hl h)
  clear h
  obtain ⟨x, hx⟩ : ∃ x, Hid (crc l = x) := ⟨_, hide rfl⟩
  rw [hx.out] at HS
  have hlt : x.toNat < 4294967296 := x.isLt
  obtain ⟨m, hm⟩ : ∃ m, Hid (x.toNat = m) := ⟨_, hide rfl⟩
  rw [hm.out] at HS hlt
  go_enter Tryz.func83, Tryz.ntmps83
  go_wp2_with (go_at_call 136; refine HS.out.mono ?_; rintro e w' ⟨rfl, rfl⟩)
  go_ret
  exact ⟨rfl, by rw [hx.out, hm.out, sum_cells m hlt]⟩

/-- What holds while the bytes are gathered. -/
structure EInv (w wr : World) (v : Value) (l : List Nat) : Prop where
  old : Below w.heap.size w wr
  own : wr.ownsRow w.heap.size 5 1 v l.length (u8s l)
theorem EInv.put {w wr w3 : World} {v v' : Value} {l ms : List Nat} {m : Nat} {p : Obj} (h : EInv w wr v l) (hm : ms.length = m)
    (hown : w3.ownsRow w.heap.size 5 1 v' (l.length + m) (u8s l ++ u8s ms)) (hg : (wr.alloc p).grownBy w3 v.ownBlock) : EInv w w3 v' (l ++ ms) := by
  have hb2 : Below wr.heap.size wr (wr.alloc p) := (Below.refl _ _).alloc (Nat.le_refl _) _
  have hs := h.old.size
  refine ⟨(h.old.trans (hb2.mono hs)).grown hg (by simp; omega) (fun k hk => by have := (h.own.lt k hk).1; omega), ?_⟩
  rw [List.length_append, hm]
  simpa [u8s] using hown
theorem EInv.isB {w wr : World} {v : Value} {l : List Nat} (h : EInv w wr v l) (hl : l ≠ []) (hb : ∀ c ∈ l, c < 256) : ∃ g cp, v = .slice (some ⟨g, 0, none⟩) l.length cp ∧ w.heap.size ≤ g ∧ g < wr.heap.size ∧ IsB wr (some ⟨g, 0, none⟩) l.length cp l := by
  have ho := h.own
  obtain ⟨_, ho2⟩ := h.own
  rcases ho2 with ⟨_, h0⟩ | ⟨g, cp, cur, rfl, hg, hh, hcc, hm, hsz, ht⟩
  · exact absurd (List.length_eq_zero_iff.1 h0) hl
  · refine ⟨g, cp, rfl, hg, blk_lt hh, rfl, hcc, hb, .inr ⟨g, 0, rfl, blk_lt hh, fun k hk => ?_⟩⟩
    rw [Nat.zero_add, ho.cellAt k (by omega)]
    simp [u8s, hk]

theorem grown_of_below {w wx : World} (h : Below w.heap.size w wx) : w.grownBy wx none := ⟨h.os, h.tape, h.output, h.size, fun k hk _ => h.block k hk⟩
theorem owns_below {w wx : World} {base : Nat} {e : TypeId} {size : Nat} {v : Value} {n : Nat} {xs : List Value} (h : w.ownsRow base e size v n xs) (hB : Below w.heap.size w wx) : wx.ownsRow base e size v n xs :=
  h.kept (grown_of_below hB) (by cases hv : v.ownBlock with | none => exact .inl rfl | some k => exact .inr (by simp))

theorem owns_lower {w : World} {base b2 : Nat} {e : TypeId} {size : Nat} {v : Value} {n : Nat} {xs : List Value} (h : w.ownsRow base e size v n xs) (hb : b2 ≤ base) : w.ownsRow b2 e size v n xs := by
  obtain ⟨h1, h2⟩ := h
  refine ⟨h1, ?_⟩
  rcases h2 with h2 | ⟨g, cp, cur, h3, h4, h5⟩
  · exact .inl h2
  · exact .inr ⟨g, cp, cur, h3, Nat.le_trans hb h4, h5⟩

set_option maxHeartbeats 2000000 in
set_option maxRecDepth 20000 in
theorem encode_bad (F : FR) (w : World) (h : mayB F = false) :
    Calls Tryz.prog 39 #[.agg (fCells F)] w fun e w' => e = .returned (.tuple #[.slice none 0 0, .iface 74 (.int .i64 1)]) ∧ Below w.heap.size w w' := by
  have hB : Below w.heap.size w (w.alloc (.cells (fCells F) 36)) := (Below.refl w.heap.size w).alloc (Nat.le_refl _) _
  have hbox : FIs (w.alloc (.cells (fCells F) 36)) w.heap.size 36 F := blk_new _ _
  have hmay := mayBe_any F (w.alloc (.cells (fCells F) 36))
  rw [h] at hmay
  have HB := hide hB
  have HBOX := hide hbox
  have HM := hide hmay
  clear hB hbox hmay h
  go_enter Tryz.func39, Tryz.ntmps39
  go_wp2_with (first
    | (refine wpList_load_f rfl _ rfl w.heap.size rfl F HBOX.out ?_)
    | (go_at_call 81; refine HM.out.mono ?_))
  rintro e w1 ⟨rfl, hB1⟩
  have HB1 := hide (HB.out.trans (hB1.mono (by simp)))
  clear hB1 HM HBOX HB
  go_wp2
  go_ret2
  exact ⟨rfl, HB1.out⟩

set_option maxHeartbeats 4000000 in
set_option maxRecDepth 20000 in
theorem encode_ok (F : FR) (w : World) (h : mayB F = true) :
    Calls Tryz.prog 39 #[.agg (fCells F)] w fun e w' => (∃ v, e = .returned (.tuple #[v, .nilIface]) ∧ w'.ownsRow w.heap.size 5 1 v (encF F).length (u8s (encF F))) ∧ Below w.heap.size w w' := by
  have hB : Below w.heap.size w (w.alloc (.cells (fCells F) 36)) := (Below.refl w.heap.size w).alloc (Nat.le_refl _) _
  have hbox : FIs (w.alloc (.cells (fCells F) 36)) w.heap.size 36 F := blk_new _ _
  have hmay := mayBe_any F (w.alloc (.cells (fCells F) 36))
  rw [h] at hmay
  have hfit : ∀ k, k < (numsF F).length → ∃ m : Nat, Hid ((numsF F)[k]?.getD 0 = (m : Int)) ∧ m ≤ 1048576 := fun k hk => by
    unfold mayB at h
    simp only [Bool.and_eq_true, List.all_eq_true] at h
    have := h.2.1 _ (List.getElem_mem hk)
    unfold fitsB at this
    simp only [Bool.and_eq_true, decide_eq_true_eq] at this
    obtain ⟨m, hm⟩ := Int.eq_ofNat_of_zero_le this.1
    exact ⟨m, by rw [Hid, List.getElem?_eq_getElem hk]; exact hm, by omega⟩
  have HB := hide hB
  have HBOX := hide hbox
  have HM := hide hmay
  have hlen := nums_length_le F
  have hge := nums_length_ge F
  obtain ⟨l, hl⟩ : ∃ l, Hid (numsF F = l) := ⟨_, hide rfl⟩
  have HNUM := fun wx => hide (numbers_any F wx)
  have HE : Hid (encF F = withSum (bytesN l)) := by rw [Hid, encF, hl.out]
  rw [hl.out] at hfit hlen hge HNUM
  clear hB hbox hmay h
  obtain ⟨i0, hi, hz0, hz1, hz2⟩ := info_parts infoByte
  have HI := hide hi
  have HZ0 := hide hz0
  have HZ1 := hide hz1
  have HZ2 := hide hz2
  clear hi hz0 hz1 hz2
  go_enter Tryz.func39, Tryz.ntmps39
  go_wp2_with (first
    | (refine wpList_load_f rfl _ rfl w.heap.size rfl F HBOX.out ?_)
    | (go_at_call 81; refine HM.out.mono ?_))
  rintro e w1 ⟨rfl, hB1⟩
  have hold1 := HB.out.trans (hB1.mono (by simp))
  have hbox1 : FIs w1 w.heap.size 36 F := HBOX.out.below (by simp) hB1
  have HOLD1 := hide hold1
  have HBOX1 := hide hbox1
  clear hold1 hbox1 hB1 HM HBOX HB
  go_wp2_with (first
    | (refine wpList_load_f rfl _ rfl w.heap.size rfl F HBOX1.out ?_)
    | (go_at_call 82; refine (HNUM w1).out.mono ?_))
  rintro e w2 ⟨⟨v, rfl, g, cp, rfl, hg1, hg2, hcp, hrow⟩, hB2⟩
  have HOLD2 := hide (HOLD1.out.trans (hB2.mono HOLD1.out.size))
  have HROW := hide hrow
  clear hB2 hrow HOLD1 HBOX1 HNUM
  obtain ⟨n, hn⟩ : ∃ n, Hid (l.length = n) := ⟨_, hide rfl⟩
  rw [hn.out] at hlen hcp hge hfit ⊢
  go_wp2
  go_loopw [4, 14] (fun v i wr => ∃ k : Nat, k ≤ n ∧ i = .int .i64 k ∧ EInv w2 wr v (bytesN (l.take k))) (fun _ i _ => n - (intOf i).toNat)
  case atStart => exact ⟨0, Nat.zero_le _, rfl, Below.refl _ _, World.ownsRow_nil _ _ _ _⟩
  case round =>
    obtain ⟨k, hk, rfl, hI⟩ := hrel
    have hbl : (bytesN (l.take k)).length = 3 * k := by rw [bytesN_length, List.length_take, hn.out, Nat.min_eq_left hk]
    have HBL := hide hbl
    clear hbl
    by_cases hlt : k < n
    · obtain ⟨m, hm, hmb⟩ := hfit k hlt
      have hcell : wr.cell? ⟨g, k, none⟩ = some (.int .i64 (m : Int)) := by
        have := HROW.out.below hg2 hI.old k (by rw [hn.out]; exact hlt)
        rw [hm.out, Nat.zero_add] at this
        exact this
      have hs2 := hI.old.size
      go_wp2_with (at_builtin; refine wpList_append_own _ rfl _ _ 37 rfl w2.heap.size 5 i0 (.int .u8 0) 1 1 Tryz.underlying37 HI.out HZ0.out HZ1.out HZ2.out rfl (by decide) _ _ _ rfl (hI.own.alloc _) ⟨_, 0, none⟩ 3 3 (u8s (b3 m)) rfl rfl ?c1 (u8s_one _) ?c3 ?c4 ?c5 ?_)
      case c1 =>
        rw [← num_cells m hmb]
        exact app_cells _ _ _ _ rfl
      case c3 => have := HBL.out; unfold maxLen; omega
      case c4 => have := HBL.out; omega
      case c5 => simp; omega
      intro v1 w3 hown hgrow _
      have R := EInv.put hI (ms := b3 m) rfl hown hgrow
      clear hown hgrow hcell
      go_wp2
      go_roundw
      case rel => exact ⟨k + 1, by omega, by go_num, by rw [bytesN_take l k (by rw [hn.out]; exact hlt), hm.out]; exact R⟩
      case measure => simp [intOf]; omega
    · have hkn : k = n := by omega
      subst hkn
      rw [List.take_of_length_le (by rw [hn.out]; omega)] at hI HBL
      obtain ⟨bs, hbs⟩ : ∃ bs, Hid (bytesN l = bs) := ⟨_, hide rfl⟩
      have hbl := bytesN_lt l
      rw [hbs.out] at hI HBL hbl
      have hbl3 := HBL.out
      obtain ⟨g4, cp4, rfl, hg41, hg42, hIs⟩ := hI.isB (by intro e; rw [e] at hbl3; simp at hbl3; omega) hbl
      rw [hbl3] at hIs ⊢
      have HSB := hide (sumBytes_any _ _ _ bs wr (by omega) hIs)
      have hown0 := hI.own
      rw [hbl3] at hown0
      have HOWN := hide hown0
      have HOLD3 := hide hI.old
      have hs2 := hI.old.size
      obtain ⟨x, hx⟩ : ∃ x, Hid ((crc bs).toNat = x) := ⟨_, hide rfl⟩
      rw [hx.out] at HSB
      clear hI hIs hbl hown0
      go_wp2_with (first
        | (go_at_call 83; refine HSB.out.mono ?_; rintro e w4 ⟨rfl, rfl⟩)
        | (at_builtin; refine wpList_append_own _ rfl _ _ 37 rfl w2.heap.size 5 i0 (.int .u8 0) 1 1 Tryz.underlying37 HI.out HZ0.out HZ1.out HZ2.out rfl (by decide) _ _ _ rfl (HOWN.out.alloc _) ⟨_, 0, none⟩ 4 4 (u8s (b4 x)) rfl rfl ?c1 (u8s_one _) ?c3 ?c4 ?c5 ?_))
      case c1 => exact app_cells _ _ _ _ rfl
      case c3 => unfold maxLen; omega
      case c4 => omega
      case c5 => simp; omega
      intro v1 w3 hown hgrow _
      have R := EInv.put (⟨HOLD3.out, by rw [hbl3]; exact HOWN.out⟩ : EInv w2 wr (.slice (some ⟨g4, 0, none⟩) (3 * k) cp4) bs) (ms := b4 x) rfl (by rw [hbl3]; exact hown) hgrow
      have HR := hide R
      clear hown hgrow R HOWN HSB
      go_wp2
      go_ret2
      refine ⟨⟨v1, rfl, ?_⟩, HOLD2.out.trans (HR.out.old.mono HOLD2.out.size)⟩
      have he : encF F = bs ++ b4 x := by rw [HE.out, withSum, hbs.out, hx.out]
      rw [he]
      exact owns_lower HR.out.own HOLD2.out.size
end Go.Proofs.YtaablbmgagiajabGreatDoor

/- The contracts of bytes.Equal and frame.read. -/
namespace Go.Proofs.YtaablbmgagiajabGreatDoor
open Go.RowKit Go.Deep

/-- Bytes as a string. -/
def strN (l : List Nat) : ByteArray := strOfNums (l.map fun (c : Nat) => (c : Int))
theorem strN_toList (l : List Nat) : (strN l).toList = l.map UInt8.ofNat := by
  unfold strN
  rw [ByteArray.toList_eq, strOfNums_data, List.map_map]
  apply List.map_congr_left
  intro c _
  simp
theorem map_u8_inj : ∀ (l m : List Nat), (∀ c ∈ l, c < 256) → (∀ c ∈ m, c < 256) → l.map UInt8.ofNat = m.map UInt8.ofNat → l = m
  | [], [], _, _, _ => rfl
  | [], _ :: _, _, _, h => by simp at h
  | _ :: _, [], _, _, h => by simp at h
  | a :: l, b :: m, hl, hm, h => by
    simp only [List.map_cons, List.cons.injEq] at h
    have e : a = b := by
      have h1 := congrArg UInt8.toNat h.1
      have ha := hl a (by simp)
      have hb := hm b (by simp)
      simp only [UInt8.toNat_ofNat'] at h1
      omega
    rw [e, map_u8_inj l m (fun c hc => hl c (by simp [hc])) (fun c hc => hm c (by simp [hc])) h.2]
theorem strN_eq (l m : List Nat) (hl : ∀ c ∈ l, c < 256) (hm : ∀ c ∈ m, c < 256) : ((strN l).toList == (strN m).toList) = decide (l = m) := by
  rw [strN_toList, strN_toList, Bool.eq_iff_iff, beq_iff_eq, decide_eq_true_iff]
  exact ⟨map_u8_inj l m hl hm, fun h => by rw [h]⟩

theorem conv_any {w : World} {a : Option Addr} {len cap : Nat} {l : List Nat} (h : IsB w a len cap l) : (convert 37 9 (.slice a len cap)).run Tryz.prog w = .ok (.string (strN l)) w := by
  obtain ⟨h1, h2, h3, h4⟩ := h
  rcases h4 with h4 | ⟨b, off, rfl, hb, hr⟩
  · subst h4
    have h0 : len = 0 := by simpa using h1.symm
    subst h0
    cases a with
    | none => exact run_convert_bytes_nil w 37 5 Tryz.underlying37 Tryz.underlying5 _ _ 9 Tryz.underlying9
    | some a =>
      rw [run_convert_bytes_string w 37 9 5 _ 0 cap Tryz.underlying37 Tryz.underlying5 Tryz.underlying9]
      rw [run_bytesToString w a 0 cap [] (by simpa using run_loadCells_list (P := Tryz.prog) w a [] (by simp))]
      rfl
  · refine run_convert_bytes_arg w 37 5 Tryz.underlying37 Tryz.underlying5 b off len cap _ (by simpa using h1) (fun i hi => ?_) 9 Tryz.underlying9
    rw [hr i (by omega)]
    simp [List.getD, show i < l.length by omega]

set_option maxHeartbeats 1000000 in
theorem equal_any (a1 a2 : Option Addr) (n1 n2 c1 c2 : Nat) (l m : List Nat) (w : World) (h1 : IsB w a1 n1 c1 l) (h2 : IsB w a2 n2 c2 m) :
    Calls Tryz.prog 130 #[.slice a1 n1 c1, .slice a2 n2 c2] w fun e w' => e = .returned (.bool (decide (l = m))) ∧ w' = w := by
  have q1 := conv_any h1
  have q2 := conv_any h2
  have HE := hide (strN_eq l m h1.2.2.1 h2.2.2.1)
  clear h1 h2
  go_enter Tryz.func130, Tryz.ntmps130
  go_wp2
  go_ret
  exact ⟨ret_bool (by rw [HE.out]), rfl⟩

/-- The numbers of bytes. -/
def num3 (l : List Nat) (i : Nat) : Nat := l[3 * i]?.getD 0 * 65536 + l[3 * i + 1]?.getD 0 * 256 + l[3 * i + 2]?.getD 0
def readN (l : List Nat) (k : Nat) : List Int := (List.range k).map fun i => ((num3 l i : Nat) : Int)
theorem readN_succ (l : List Nat) (k : Nat) : readN l (k + 1) = readN l k ++ [((num3 l k : Nat) : Int)] := by simp [readN, List.range_succ]
theorem readN_length (l : List Nat) (k : Nat) : (readN l k).length = k := by simp [readN]
def readF (l : List Nat) : List Int := readN l (l.length / 3)

theorem or_low (a b i : Nat) (h : b < 2 ^ i) : a * 2 ^ i ||| b = a * 2 ^ i + b := by
  have := Nat.shiftLeft_add_eq_or_of_lt h a
  rw [Nat.shiftLeft_eq] at this
  exact this.symm
theorem or3 (a b c : Nat) (ha : a < 256) (hb : b < 256) (hc : c < 256) : bits .or .i64 (bits .or .i64 ((a : Int) * 65536) ((b : Int) * 256)) (c : Int) = ((a * 65536 + b * 256 + c : Nat) : Int) := by
  have e1 : (a : Int) * 65536 = ((a * 65536 : Nat) : Int) := by omega
  have e2 : (b : Int) * 256 = ((b * 256 : Nat) : Int) := by omega
  have p16 : (2 : Nat) ^ 16 = 65536 := by decide
  have p8 : (2 : Nat) ^ 8 = 256 := by decide
  have o1 := or_low a (b * 256) 16 (by rw [p16]; omega)
  have o2 := or_low (a * 256 + b) c 8 (by rw [p8]; omega)
  rw [p16] at o1
  rw [p8, show (a * 256 + b) * 256 = a * 65536 + b * 256 by omega] at o2
  rw [e1, e2, or_nat (a * 65536) (b * 256) (by omega) (by omega), o1, or_nat (a * 65536 + b * 256) c (by omega) (by omega), o2]

/-- What holds while the numbers are read. -/
structure RInv (w wr : World) (v : Value) (l : List Int) : Prop where
  old : Below w.heap.size w wr
  own : wr.ownsRow w.heap.size 3 1 v l.length (ints l)
theorem RInv.put {w wr w3 : World} {v v' : Value} {l ms : List Int} {m : Nat} {p : Obj} (h : RInv w wr v l) (hm : ms.length = m)
    (hown : w3.ownsRow w.heap.size 3 1 v' (l.length + m) (ints l ++ ints ms)) (hg : (wr.alloc p).grownBy w3 v.ownBlock) : RInv w w3 v' (l ++ ms) := by
  have hb2 : Below wr.heap.size wr (wr.alloc p) := (Below.refl _ _).alloc (Nat.le_refl _) _
  have hs := h.old.size
  refine ⟨(h.old.trans (hb2.mono hs)).grown hg (by simp; omega) (fun k hk => by have := (h.own.lt k hk).1; omega), ?_⟩
  rw [List.length_append, hm]
  simpa [ints] using hown
theorem RInv.drewN {w wr : World} {v : Value} {l : List Int} (h : RInv w wr v l) (n : Nat) : RInv w (wr.drewN n) v l := ⟨below_drewN h.old n, h.own⟩
theorem RInv.drew {w wr : World} {v : Value} {l : List Int} (h : RInv w wr v l) : RInv w wr.drew v l := ⟨h.old.drew, h.own⟩

set_option maxHeartbeats 4000000 in
set_option maxRecDepth 100000 in
theorem read_any (b off len cap : Nat) (l : List Nat) (w : World) (h3 : 3 ≤ len) (hl : len ≤ 100) (hcap : len + 4 ≤ cap) (h : IsB w (some ⟨b, off, none⟩) len cap l) :
    Calls Tryz.prog 132 #[.slice (some ⟨b, off, none⟩) len cap] w fun e w' => (∃ v, e = .returned v ∧ IsNums w w' (readF l) v) ∧ Below w.heap.size w w' := by
  have HX := hide h
  have hlen := h.1
  have hbw : b < w.heap.size := by
    obtain ⟨b', o', _, e', hb', _⟩ := h.at (k := 0) (by omega)
    have : b = b' := by simp at e'; exact e'.1
    omega
  clear h
  obtain ⟨i0, hi, hz0, hz1, hz2⟩ := info_parts infoIntF
  have HI := hide hi
  have HZ0 := hide hz0
  have HZ1 := hide hz1
  have HZ2 := hide hz2
  clear hi hz0 hz1 hz2
  go_enter Tryz.func132, Tryz.ntmps132
  go_wp2
  go_loopw [0, 3] (fun s v wr => ∃ k : Nat, 3 * k ≤ len ∧ s = .slice (some ⟨b, off + 3 * k, none⟩) (len - 3 * k) (cap - 3 * k) ∧ RInv w wr v (readN l k)) (fun s _ _ => match s with | .slice _ n _ => n | _ => 0)
  case atStart => exact ⟨0, by omega, rfl, Below.refl _ _, World.ownsRow_nil _ _ _ _⟩
  case round =>
    obtain ⟨k, hk, rfl, hI⟩ := hrel
    obtain ⟨o, ho⟩ : ∃ o, Hid (off + 3 * k = o) := ⟨_, hide rfl⟩
    obtain ⟨n, hn⟩ : ∃ n, Hid (len - 3 * k = n) := ⟨_, hide rfl⟩
    obtain ⟨c, hc⟩ : ∃ c, Hid (cap - 3 * k = c) := ⟨_, hide rfl⟩
    have hnc : n + 4 ≤ c := by have := hn.out; have := hc.out; omega
    have hn1 : n ≤ 100 := by have := hn.out; omega
    rw [ho.out, hn.out, hc.out]
    by_cases h3n : 3 ≤ n
    · obtain ⟨_, _, x0, e0, hb0, hx0, hxx0, hc0⟩ := (HX.out.below (w := w) (wx := wr) hI.old).at (k := 3 * k) (by have := hn.out; omega)
      obtain ⟨_, _, x1, e1, hb1, hx1, hxx1, hc1⟩ := (HX.out.below (w := w) (wx := wr) hI.old).at (k := 3 * k + 1) (by have := hn.out; omega)
      obtain ⟨_, _, x2, e2, hb2, hx2, hxx2, hc2⟩ := (HX.out.below (w := w) (wx := wr) hI.old).at (k := 3 * k + 2) (by have := hn.out; omega)
      obtain ⟨rfl, rfl⟩ : b = _ ∧ off = _ := by simpa using e0
      obtain ⟨rfl, rfl⟩ : b = _ ∧ off = _ := by simpa using e1
      obtain ⟨rfl, rfl⟩ : b = _ ∧ off = _ := by simpa using e2
      rw [← Nat.add_assoc, ho.out] at hc1 hc2
      rw [ho.out] at hc0
      clear e0 e1 e2 hb1 hb2
      have hor := or3 x0 x1 x2 hx0 hx1 hx2
      obtain ⟨y, hy⟩ : ∃ y, Hid (x0 * 65536 + x1 * 256 + x2 = y) := ⟨_, hide rfl⟩
      rw [hy.out] at hor
      have d0 : (0 : Int) < (n : Int) := by omega
      have d1 : (1 : Int) < (n : Int) := by omega
      have d2 : (2 : Int) < (n : Int) := by omega
      have r0 : IntKind.i64.wrap (x0 : Int) = x0 := wrap_small x0 (by omega)
      have r1 : IntKind.i64.wrap (x1 : Int) = x1 := wrap_small x1 (by omega)
      have r2 : IntKind.i64.wrap (x2 : Int) = x2 := wrap_small x2 (by omega)
      have r3 : IntKind.i64.wrap ((x0 : Int) * 65536) = (x0 : Int) * 65536 := by have := wrap_small (x0 * 65536) (by omega); rwa [Int.natCast_mul] at this
      have r4 : IntKind.i64.wrap ((x1 : Int) * 256) = (x1 : Int) * 256 := by have := wrap_small (x1 * 256) (by omega); rwa [Int.natCast_mul] at this
      have d00 : 0 < n := by omega
      have hown0 := hI.own
      rw [readN_length] at hown0
      have HOWN := hide hown0
      have hne : some b ≠ u3.ownBlock := fun e => by have := (hown0.lt b e.symm).1; omega
      have HK1 : Hid (k + 1 ≤ maxLen) := by rw [Hid]; unfold maxLen; omega
      have HK2 : Hid ((k + 1) * 8 ≤ 140737488355328) := by rw [Hid]; omega
      have hs1 := hI.old.size
      have HK3 : Hid (w.heap.size ≤ (wr.alloc (.cells #[.int .i64 (y : Int)] 3)).drew.heap.size) := by rw [Hid]; simp; omega
      clear hown0
      go_wp2_with fail
      go_region_held3 (fun w' => w'.cell? ⟨b, o, none⟩ = some (.int .u8 (x0 : Int)) ∧ w'.cell? ⟨b, o + 1, none⟩ = some (.int .u8 (x1 : Int)) ∧ w'.cell? ⟨b, o + 2, none⟩ = some (.int .u8 (x2 : Int)))
        (first
          | go_keep
          | (go_split_ands
             refine ⟨?_, ?_, ?_⟩
             · (rw [hgrow.cell_far _ (by simp; omega) hne]; assumption)
             · (rw [hgrow.cell_far _ (by simp; omega) hne]; assumption)
             · (rw [hgrow.cell_far _ (by simp; omega) hne]; assumption)))
        ((refine step_append_lies _ (by rfl) _ _ _ (by rfl) w.heap.size 3 i0 _ 1 8 Tryz.underlying22 HI.out HZ0.out HZ1.out HZ2.out rfl (by omega) u3 k (ints (readN l k)) (by rfl) ((HOWN.out.alloc _).drew)
            ⟨wr.heap.size, 0, none⟩ 1 1 (ints [(y : Int)]) (by rfl) (by rfl) (World.news_of_block (cs := #[.int .i64 (y : Int)]) (t := 3) (fr := (0, 0)) (heap_alloc_new wr _)) (ints_one _)
            (by omega) HK1.out HK2.out HK3.out (wr.heap.size + 1) (by simp) ?_; intro gg cap' w1 hown1 hgrow hat hlt))
      have R := RInv.put hI (ms := [(y : Int)]) rfl (by rw [readN_length]; exact hown1) (show (wr.alloc (.cells #[.int .i64 (y : Int)] 3)).grownBy w1 u3.ownBlock from ⟨hgrow.os, hgrow.tape, hgrow.output, hgrow.size, hgrow.block⟩)
      have hnum : num3 l k = y := by unfold num3; rw [hxx0.out, hxx1.out, hxx2.out, hy.out]
      have HR := hide R
      have HNUM := hide hnum
      clear R hnum hgrow hown1 hat hlt hc0 hc1 hc2 hor r0 r1 r2 r3 r4 HOWN HK1 HK2 HK3
      have hc3 : ¬ c = 3 := by omega
      go_wp2
      go_roundw
      case rel =>
        refine ⟨k + 1, by have := hn.out; omega, ?_, by rw [readN_succ, HNUM.out]; exact HR.out⟩
        have := hn.out
        have := hc.out
        have := ho.out
        rw [show off + 3 * (k + 1) = o + 3 by omega, show len - 3 * (k + 1) = n - 3 by omega, show cap - 3 * (k + 1) = c - 3 by omega]
      case measure => show n - 3 < n; omega
    · have hkk : k = l.length / 3 := by have := hn.out; omega
      have HD := hide hI
      clear hI
      have hne : readN l k ≠ [] := by
        intro e
        have := congrArg List.length e
        rw [readN_length] at this
        simp at this
        omega
      have HF : Hid (readF l = readN l k) := by rw [Hid, readF, ← hkk]
      have HD2 : Hid (IsNums w wr (readN l k) u3) := by
        have ho := HD.out.own
        obtain ⟨_, ho2⟩ := HD.out.own
        rcases ho2 with ⟨_, h0⟩ | ⟨g, cp, cur, rfl, hg, hh, hcc, hm, hsz, ht⟩
        · exact absurd (List.length_eq_zero_iff.1 h0) hne
        · refine ⟨g, cp, rfl, hg, blk_lt hh, hcc, fun k hk => ?_⟩
          rw [Nat.zero_add, ho.cellAt k (by omega)]
          simp [ints, hk]
      clear hne hkk
      go_wp2
      go_ret
      exact ⟨⟨_, rfl, by rw [HF.out]; exact HD2.out⟩, HD.out.old⟩
end Go.Proofs.YtaablbmgagiajabGreatDoor

/- The contract of frame.Decode. -/
namespace Go.Proofs.YtaablbmgagiajabGreatDoor
open Go.RowKit Go.Deep

/-- What is told, and its sum. -/
def toldN (l : List Nat) : List Nat := l.take (l.length - 4)
def lastN (l : List Nat) : List Nat := l.drop (l.length - 4)
/-- What bytes are: an error (0: none), and the frame. -/
def decF (l : List Nat) : Nat × FR :=
  if l.length < 7 ∨ 80 < l.length then (3, fr0)
  else if b4 (crc (toldN l)).toNat = lastN l then
    (if mayB (framedF (readF (toldN l))) = true ∧ encF (framedF (readF (toldN l))) = l then (0, framedF (readF (toldN l))) else (3, fr0))
  else (15, fr0)
def errV (e : Nat) : Value := if e = 0 then .nilIface else .iface 74 (.int .i64 (e : Int))

theorem dec_form {l : List Nat} (h : l.length < 7 ∨ 80 < l.length) : decF l = (3, fr0) := by unfold decF; rw [if_pos h]
theorem dec_spoilt {l : List Nat} (h1 : 7 ≤ l.length) (h2 : l.length ≤ 80) (h : ¬ b4 (crc (toldN l)).toNat = lastN l) : decF l = (15, fr0) := by unfold decF; rw [if_neg (by omega), if_neg h]
theorem dec_not {l : List Nat} (h1 : 7 ≤ l.length) (h2 : l.length ≤ 80) (h : b4 (crc (toldN l)).toNat = lastN l) (hn : ¬ (mayB (framedF (readF (toldN l))) = true ∧ encF (framedF (readF (toldN l))) = l)) : decF l = (3, fr0) := by unfold decF; rw [if_neg (by omega), if_pos h, if_neg hn]
theorem dec_ok {l : List Nat} (h1 : 7 ≤ l.length) (h2 : l.length ≤ 80) (h : b4 (crc (toldN l)).toNat = lastN l) (hn : mayB (framedF (readF (toldN l))) = true ∧ encF (framedF (readF (toldN l))) = l) : decF l = (0, framedF (readF (toldN l))) := by unfold decF; rw [if_neg (by omega), if_pos h, if_pos hn]

theorem IsB.row {w : World} {a : Option Addr} {len cap : Nat} {l : List Nat} (h : IsB w a len cap l) (h0 : 0 < len) : ∃ b off, a = some ⟨b, off, none⟩ ∧ b < w.heap.size ∧ BRow w b off l := by
  obtain ⟨h1, _, _, h4⟩ := h
  rcases h4 with h4 | h4
  · subst h4; simp at h1; omega
  · exact h4
theorem told_isB {w : World} {b off len cap m : Nat} {l : List Nat} (h : IsB w (some ⟨b, off, none⟩) len cap l) (h0 : 4 ≤ len) (hm : m + 4 = len) : IsB w (some ⟨b, off, none⟩) m cap (toldN l) := by
  obtain ⟨b', off', e, hb, hr⟩ := h.row (by omega)
  obtain ⟨rfl, rfl⟩ : b = b' ∧ off = off' := by simpa using e
  obtain ⟨h1, h2, h3, _⟩ := h
  refine ⟨by unfold toldN; rw [List.length_take]; omega, by omega, fun c hc => h3 c (List.mem_of_mem_take hc), .inr ⟨b, off, rfl, hb, fun k hk => ?_⟩⟩
  unfold toldN at hk ⊢
  rw [List.length_take] at hk
  rw [hr k (by omega), List.getElem?_take, if_pos (by omega)]
theorem last_isB {w : World} {b off len cap m : Nat} {l : List Nat} (h : IsB w (some ⟨b, off, none⟩) len cap l) (h0 : 4 ≤ len) (hm : m + 4 = len) : IsB w (some ⟨b, off + m, none⟩) 4 (cap - m) (lastN l) := by
  obtain ⟨b', off', e, hb, hr⟩ := h.row (by omega)
  obtain ⟨rfl, rfl⟩ : b = b' ∧ off = off' := by simpa using e
  obtain ⟨h1, h2, h3, _⟩ := h
  refine ⟨by unfold lastN; rw [List.length_drop]; omega, by omega, fun c hc => h3 c (List.mem_of_mem_drop hc), .inr ⟨b, off + m, rfl, hb, fun k hk => ?_⟩⟩
  unfold lastN at hk ⊢
  rw [List.length_drop] at hk
  rw [Nat.add_assoc, hr (m + k) (by omega), List.getElem?_drop, show l.length - 4 + k = m + k by omega]
theorem slice_from (b off len cap m : Nat) (hm : m ≤ len) (hc : m < cap) (wx : World) : (Instr.slice 37 (.slice (some ⟨b, off, none⟩) len cap) (some (.int .i64 (m : Int))) none none).run Tryz.prog wx = .ok (.slice (some ⟨b, off + m, none⟩) (len - m) (cap - m)) wx := by
  have ht : Tryz.prog.underlying 37 = some (.slice (Tryz.prog.elem 37)) := by simp [Program.elem, Tryz.underlying37]
  have he : Tryz.prog.elem 37 = 5 := by simp [Program.elem, Tryz.underlying37]
  have hz : (Go.sizeOf 5).run Tryz.prog wx = .ok 1 wx := by kernel_rfl
  rw [run_slice_l wx _ _ _ _ ht .i64 _ (by omega) (by omega), he, hz]
  have hne : ¬ cap = m := by omega
  have ha : (⟨b, off, none⟩ : Addr).add m = ⟨b, off + m, none⟩ := by unfold Addr.add; split <;> simp_all
  simp [Result.andThen, sliced, hne, ha]
theorem sum_isB (w : World) (l : List Nat) (hl : l.length = 4) (hb : ∀ c ∈ l, c < 256) : IsB (w.alloc (.cells (u8s l).toArray 5)) (some ⟨w.heap.size, 0, none⟩) 4 4 l := by
  refine ⟨hl, by omega, hb, .inr ⟨w.heap.size, 0, rfl, by simp, fun k hk => ?_⟩⟩
  rw [Nat.zero_add, blk_cell (blk_new _ _)]
  simp [u8s, hk]

set_option maxHeartbeats 2000000 in
set_option maxRecDepth 20000 in
theorem decode_form (a : Option Addr) (len cap : Nat) (l : List Nat) (w : World) (hlen : l.length = len) (hl : len ≤ 1000) (h : len < 7 ∨ 80 < len) :
    Calls Tryz.prog 79 #[.slice a len cap] w fun e w' => e = .returned (.tuple #[.agg (fCells (decF l).2), errV (decF l).1]) ∧ Below w.heap.size w w' := by
  have HD := hide (dec_form (l := l) (by omega))
  rw [HD.out]
  have hres : FIs (w.alloc (.cells (fCells fr0) 36)) w.heap.size 36 fr0 := blk_new _ _
  have HB := hide ((Below.refl w.heap.size w).alloc (Nat.le_refl _) (.cells (fCells fr0) 36))
  have HRES := hide hres
  clear hres hlen
  by_cases h1 : len < 7
  · clear h
    go_enter Tryz.func79, Tryz.ntmps79
    go_wp2_with (refine wpList_store_fl rfl _ _ rfl w.heap.size fr0 rfl rfl fr0 HRES.out ?_)
    intro w9 HF9
    go_wp2
    refine bodyPost_ret (v := .tuple #[.agg (fCells fr0), errV 3]) ?_ rfl ⟨rfl, HB.out.trans (HF9.out.2.2 _ (Nat.le_refl _))⟩
    exact results_cell2F Tryz.results79 rfl (load_f HF9.out.1)
  · have h2 : 80 < len := by omega
    clear h
    go_enter Tryz.func79, Tryz.ntmps79
    go_wp2_with (refine wpList_store_fl rfl _ _ rfl w.heap.size fr0 rfl rfl fr0 HRES.out ?_)
    intro w9 HF9
    go_wp2
    refine bodyPost_ret (v := .tuple #[.agg (fCells fr0), errV 3]) ?_ rfl ⟨rfl, HB.out.trans (HF9.out.2.2 _ (Nat.le_refl _))⟩
    exact results_cell2F Tryz.results79 rfl (load_f HF9.out.1)

set_option maxHeartbeats 4000000 in
set_option maxRecDepth 20000 in
theorem decode_main (b off len cap : Nat) (l : List Nat) (w : World) (h : IsB w (some ⟨b, off, none⟩) len cap l) (h7 : 7 ≤ len) (h80 : len ≤ 80) :
    Calls Tryz.prog 79 #[.slice (some ⟨b, off, none⟩) len cap] w fun e w' => e = .returned (.tuple #[.agg (fCells (decF l).2), errV (decF l).1]) ∧ Below w.heap.size w w' := by
  obtain ⟨m, hm⟩ : ∃ m, m + 4 = len := ⟨len - 4, by omega⟩
  have hlen := h.1
  have hcl := h.2.1
  have hB0 : Below w.heap.size w (w.alloc (.cells (fCells fr0) 36)) := (Below.refl w.heap.size w).alloc (Nat.le_refl _) _
  have hres : FIs (w.alloc (.cells (fCells fr0) 36)) w.heap.size 36 fr0 := blk_new _ _
  have HX := hide h
  obtain ⟨wA, hwA⟩ : ∃ wA, Hid (w.alloc (.cells (fCells fr0) 36) = wA) := ⟨_, hide rfl⟩
  rw [hwA.out] at hB0 hres
  have hXA := h.below hB0
  have hN : w.heap.size < wA.heap.size := hres.lt
  have HB0 := hide hB0
  have HRES := hide hres
  have HXA := hide hXA
  clear h hB0 hres hXA
  have t1 : wrap64 ((len : Int) - 4) = (m : Int) := by rw [IntWalk.wrap64_in _ ⟨by omega, by omega⟩]; omega
  go_enter Tryz.func79, Tryz.ntmps79
  go_wp2_with fail
  rw [show w.alloc (.cells #[.int .i64 0, .int .i64 0, .int .i64 0, .int .i64 0, .int .i64 0, .int .i64 0, .int .i64 0, .int .i64 0, .int .i64 0, .int .i64 0, .int .i64 0, .int .i64 0, .int .i64 0, .int .i64 0, .int .i64 0, .int .i64 0, .int .i64 0, .int .i64 0, .int .i64 0, .int .i64 0, .int .i64 0, .int .i64 0, .int .i64 0] 36) = wA from hwA.out, show len - 4 = m by omega]
  have hsl : ∀ wx : World, (Instr.slice 37 (.slice (some ⟨b, off, none⟩) len cap) (some (.int .i64 (m : Int))) none none).run Tryz.prog wx = .ok (.slice (some ⟨b, off + m, none⟩) 4 (cap - m)) wx := by
    intro wx
    have := slice_from b off len cap m (by omega) (by omega) wx
    rwa [show len - m = 4 by omega] at this
  have hsb : ∀ wx, Below wA.heap.size wA wx → Calls Tryz.prog 83 #[.slice (some ⟨b, off, none⟩) m cap] wx fun e w' => e = .returned (.slice (some ⟨wx.heap.size, 0, none⟩) 4 4) ∧ Hid (w' = wx.alloc (.cells (u8s (b4 (crc (toldN l)).toNat)).toArray 5)) :=
    fun wx hx => sumBytes_any _ m cap (toldN l) wx (by omega) (told_isB (HXA.out.below hx) (by omega) hm)
  have heq : ∀ wx, Below wA.heap.size wA wx → Calls Tryz.prog 130 #[.slice (some ⟨wx.heap.size, 0, none⟩) 4 4, .slice (some ⟨b, off + m, none⟩) 4 (cap - m)] (wx.alloc (.cells (u8s (b4 (crc (toldN l)).toNat)).toArray 5)) fun e w' => e = .returned (.bool (decide (b4 (crc (toldN l)).toNat = lastN l))) ∧ Hid (w' = wx.alloc (.cells (u8s (b4 (crc (toldN l)).toNat)).toArray 5)) :=
    fun wx hx => equal_any _ _ _ _ _ _ _ _ _ (sum_isB wx _ rfl (b4_lt _)) (last_isB (HXA.out.below (hx.alloc hx.size _)) (by omega) hm)
  have HSB := hide hsb
  have HEQ := hide heq
  clear hsb heq
  refine wp_region_held_drew (S := fun w' => Below wA.heap.size wA w') (by kernel_rfl) (Below.refl _ _).drew (fun hHeld => ?_)
  refine wpAnyH_take (i := 0) (oi := _) (v := .slice (some ⟨b, off, none⟩) m cap) rfl (by kernel_rfl) (by kernel_rfl) (by kernel_rfl) (fun _ _ _ h => h) (Or.inl ⟨by rfl, fun w _ => by go_simp⟩) hHeld ?_
  simp only [Act.put]
  refine wpAnyH_take (i := 2) (oi := _) (v := .slice (some ⟨b, off, none⟩) len cap) rfl (by kernel_rfl) (by kernel_rfl) (by kernel_rfl) (fun _ _ _ h => h) (Or.inl ⟨by rfl, fun w _ => by go_simp⟩) hHeld ?_
  simp only [Act.put]
  refine wpAnyH_take (i := 3) (oi := _) (v := .slice (some ⟨b, off, none⟩) m cap) rfl (by kernel_rfl) (by kernel_rfl) (by kernel_rfl) (fun _ _ _ h => h) (Or.inl ⟨by rfl, fun w _ => by go_simp⟩) hHeld ?_
  simp only [Act.put]
  refine wpAnyH_take (i := 4) (oi := _) (v := .int .i64 (m : Int)) rfl (by kernel_rfl) (by kernel_rfl) (by kernel_rfl) (fun _ _ _ h => h) (Or.inl ⟨by rfl, fun w _ => by go_simp⟩) hHeld ?_
  simp only [Act.put]
  refine wpAnyH_take (i := 5) (oi := _) (v := .slice (some ⟨b, off + m, none⟩) 4 (cap - m)) rfl (by kernel_rfl) (by kernel_rfl) (by kernel_rfl) (fun _ _ _ h => h) (Or.inl ⟨by rfl, fun w _ => by go_simp⟩) hHeld ?_
  simp only [Act.put]
  refine wpAnyH_ready (rs := [1]) (by kernel_rfl) (by simp) ?_
  refine AllReadyH.cons (o := _) rfl (fun K hK => ?_) AllReadyH.nil
  rw [if_pos (by rfl)]
  go_simp
  go_at_call 83
  refine (unhide HSB _ (Below.refl _ _).drew).mono ?_
  rintro e w5 ⟨rfl, HW5⟩
  dsimp only
  have hB5 : Below wA.heap.size wA w5 := by rw [HW5.out]; exact (Below.refl wA.heap.size wA).drew.alloc (Nat.le_refl _) _
  refine hK.out _ _ hB5 (fun hHeld => ?_)
  clear hK K
  refine wpAnyH_ready (rs := [6]) (by kernel_rfl) (by simp) ?_
  refine AllReadyH.cons (o := _) rfl (fun K hK => ?_) AllReadyH.nil
  rw [if_pos (by rfl)]
  go_simp
  go_at_call 130
  have heq5 := unhide HEQ _ ((Below.refl _ _).drew)
  rw [← HW5.out] at heq5
  refine heq5.mono ?_
  rintro e w6 ⟨rfl, HW6⟩
  dsimp only
  clear heq5
  have hw6 : w6 = w5 := HW6.out
  subst hw6
  refine hK.out _ _ hB5 (fun hHeld => ?_)
  clear hK K HW6
  obtain ⟨r, hr⟩ : ∃ r, Hid (decide (b4 (crc (toldN l)).toNat = lastN l) = r) := ⟨_, hide rfl⟩
  rw [hr.out]
  refine wpAnyH_take (i := 7) (oi := _) (v := .bool (!r)) rfl (by kernel_rfl) (by kernel_rfl) (by kernel_rfl) (fun _ _ _ h => h) (Or.inl ⟨by rfl, fun w _ => by go_simp⟩) hHeld ?_
  simp only [Act.put, List.getElem_toArray, List.getElem_cons_succ, List.getElem_cons_zero, List.setIfInBounds_toArray, List.set_cons_succ, List.set_cons_zero]
  refine wpAnyH_done (by kernel_rfl) ?_ _
  have HX6 := hide (HXA.out.below hB5)
  have HRS := hide (HRES.out.below hN hB5)
  have HOL := hide (HB0.out.trans (hB5.mono (by omega)))
  have hs6 := hB5.size
  clear hHeld hB5 HW5 HSB HEQ hsl HRES HXA HX
  cases r
  · have HD := hide (dec_spoilt (l := l) (by omega) (by omega) (of_decide_eq_false hr.out))
    go_wp2_with (refine wpList_store_fl rfl _ _ rfl w.heap.size fr0 rfl rfl fr0 HRS.out ?_)
    intro w9 HF9
    go_wp2
    refine bodyPost_ret (v := .tuple #[.agg (fCells fr0), errV 15]) ?_ rfl ⟨by rw [HD.out], HOL.out.trans (HF9.out.2.2 _ (Nat.le_refl _))⟩
    exact results_cell2F Tryz.results79 rfl (load_f HF9.out.1)
  · have hsum := of_decide_eq_true hr.out
    have HRD := hide (read_any b off m cap (toldN l) w6 (by omega) (by omega) (by omega) (told_isB HX6.out (by omega) hm))
    go_wp2_with (go_at_call 132; refine HRD.out.mono ?_)
    rintro e w7 ⟨⟨v7, rfl, g7, cp7, rfl, hg71, hg72, hcp7, hrow7⟩, hB7⟩
    have HFR := hide (framed_any g7 0 _ cp7 (readF (toldN l)) w7 rfl hg72 hrow7)
    have HX7 := hide (HX6.out.below hB7)
    have HRS7 := hide (HRS.out.below (by omega) hB7)
    have HOL7 := hide (HOL.out.trans (hB7.mono (by omega)))
    have hs7 := hB7.size
    clear hB7 HRD hrow7 HX6 HRS HOL hg71 hg72
    obtain ⟨G, hG⟩ : ∃ G, Hid (framedF (readF (toldN l)) = G) := ⟨_, hide rfl⟩
    rw [hG.out] at HFR
    go_wp2_with (go_at_call 131; refine HFR.out.mono ?_)
    rintro e w8 ⟨rfl, hB8⟩
    have HX8 := hide (HX7.out.below hB8)
    have HRS8 := hide (HRS7.out.below (by omega) hB8)
    have HOL8 := hide (HOL7.out.trans (hB8.mono (by omega)))
    have hs8 := hB8.size
    clear hB8 HFR HX7 HRS7 HOL7
    go_wp2_with (refine wpList_store_fl rfl _ _ rfl w8.heap.size G rfl rfl fr0 (blk_new _ _) ?_)
    intro wB HFB
    have hBB : Below w8.heap.size w8 wB := ((Below.refl _ _).alloc (Nat.le_refl _) _).trans (HFB.out.2.2 _ (Nat.le_refl _))
    have HFQ := hide HFB.out.1
    have HXB := hide (HX8.out.below hBB)
    have HRSB := hide (HRS8.out.below (by omega) hBB)
    have HOLB := hide (HOL8.out.trans (hBB.mono (by omega)))
    have hsB := HFQ.out.lt
    clear hBB HFB HX8 HRS8 HOL8
    generalize w8.heap.size = Q at HFQ hsB hs8 ⊢
    cases hmay : mayB G
    · have HEN := hide (encode_bad G wB hmay)
      have HD := hide (dec_not (l := l) (by omega) (by omega) hsum (by rw [hG.out, hmay]; simp))
      go_wp2_with (first
        | (refine wpList_load_f rfl _ rfl Q rfl G HFQ.out ?_)
        | (go_at_call 39; refine HEN.out.mono ?_))
      rintro e wC ⟨rfl, hBC⟩
      have HRS := hide (HRSB.out.below (by omega) hBC)
      have HOL := hide (HOLB.out.trans (hBC.mono (by omega)))
      clear hBC HEN HRSB HOLB HXB HFQ
      go_wp2_with (refine wpList_store_fl rfl _ _ rfl w.heap.size fr0 rfl rfl fr0 HRS.out ?_)
      intro w9 HF9
      go_wp2
      refine bodyPost_ret (v := .tuple #[.agg (fCells fr0), errV 3]) ?_ rfl ⟨by rw [HD.out], HOL.out.trans (HF9.out.2.2 _ (Nat.le_refl _))⟩
      exact results_cell2F Tryz.results79 rfl (load_f HF9.out.1)
    · have HEN := hide (encode_ok G wB hmay)
      go_wp2_with (first
        | (refine wpList_load_f rfl _ rfl Q rfl G HFQ.out ?_)
        | (go_at_call 39; refine HEN.out.mono ?_))
      rintro e wC ⟨⟨v, rfl, hown⟩, hBC⟩
      obtain ⟨gE, cE, rfl, _, _, hIsE⟩ := EInv.isB (⟨hBC, hown⟩ : EInv wB wC v (encF G)) (fun e => by have := encF_length G; rw [e] at this; simp at this) (encF_lt G)
      have HEQ := hide (equal_any _ _ _ _ _ _ _ _ _ hIsE (HXB.out.below hBC))
      have HRS := hide (HRSB.out.below (by omega) hBC)
      have HOL := hide (HOLB.out.trans (hBC.mono (by omega)))
      have HFQC := hide (HFQ.out.below hsB hBC)
      clear hBC HEN HRSB HOLB HXB HFQ hown hIsE
      cases hqe : decide (encF G = l)
      · rw [hqe] at HEQ
        have HD := hide (dec_not (l := l) (by omega) (by omega) hsum (by rw [hG.out]; exact fun h => of_decide_eq_false hqe h.2))
        go_wp2_with (first
          | (go_at_call 130; refine HEQ.out.mono ?_; rintro e wD ⟨rfl, rfl⟩)
          | (refine wpList_store_fl rfl _ _ rfl w.heap.size fr0 rfl rfl fr0 HRS.out ?_))
        intro w9 HF9
        go_wp2
        refine bodyPost_ret (v := .tuple #[.agg (fCells fr0), errV 3]) ?_ rfl ⟨by rw [HD.out], HOL.out.trans (HF9.out.2.2 _ (Nat.le_refl _))⟩
        exact results_cell2F Tryz.results79 rfl (load_f HF9.out.1)
      · rw [hqe] at HEQ
        have HD := hide (dec_ok (l := l) (by omega) (by omega) hsum (by rw [hG.out]; exact ⟨hmay, of_decide_eq_true hqe⟩))
        go_wp2_with (first
          | (go_at_call 130; refine HEQ.out.mono ?_; rintro e wD ⟨rfl, rfl⟩)
          | (refine wpList_load_f rfl _ rfl Q rfl G HFQC.out ?_)
          | (refine wpList_store_fl rfl _ _ rfl w.heap.size G rfl rfl fr0 HRS.out ?_))
        intro w9 HF9
        go_wp2
        refine bodyPost_ret (v := .tuple #[.agg (fCells G), errV 0]) ?_ rfl ⟨by rw [HD.out, hG.out], HOL.out.trans (HF9.out.2.2 _ (Nat.le_refl _))⟩
        exact results_cell2F Tryz.results79 rfl (load_f HF9.out.1)

theorem decode_any (a : Option Addr) (len cap : Nat) (l : List Nat) (w : World) (hl : len ≤ 1000) (h : IsB w a len cap l) :
    Calls Tryz.prog 79 #[.slice a len cap] w fun e w' => e = .returned (.tuple #[.agg (fCells (decF l).2), errV (decF l).1]) ∧ Below w.heap.size w w' := by
  by_cases hf : len < 7 ∨ 80 < len
  · exact decode_form a len cap l w h.1 hl hf
  · obtain ⟨b, off, rfl, _, _⟩ := h.row (by omega)
    exact decode_main b off len cap l w h (by omega) (by omega)
end Go.Proofs.YtaablbmgagiajabGreatDoor

/- The contracts of a replica's Cycle, State, See, frame and Asks; of isReplica and twoOf. -/
namespace Go.Proofs.YtaablbmgagiajabGreatDoor
open Go.RowKit Go.Deep

set_option maxHeartbeats 1000000 in
theorem cycle_any (p : Nat) (C : RC) (R : RS) (w : World) (h : RpIs w p C R) :
    Calls Tryz.prog 53 #[.pointer (some ⟨p, 0, none⟩)] w fun e w' => e = .returned (.int .i64 R.cycle) ∧ w' = w := by
  have hc := h.c5
  clear h
  go_enter Tryz.func53, Tryz.ntmps53
  go_wp2
  go_ret
  exact ⟨rfl, rfl⟩

section
variable {ops : Array Oper} {rest : List Oper} {op : Oper} {a : Act} {w : World} {Q : Exit → Act → World → Prop}
theorem wpList_store_s (hgd : op.guard = none) (x y : Operand) (ho : op.op = .store 34 x y) (b : Nat) (S X : St) (hx : a.eval x = .pointer (some ⟨b, 0, none⟩)) (hy : a.eval y = .agg (stCells X)) (hS : StIs w b S)
    (h : ∀ w', Hid (StIs w' b X ∧ (∀ k, k ≠ b → w'.heap[k]? = w.heap[k]?) ∧ (∀ B, B ≤ b → Below B w w')) → wpList Tryz.prog ops Q rest (a.put op.dst undef) w') : wpList Tryz.prog ops Q (op :: rest) a w :=
  wpList_plain hgd fun _ hK => wp_store_row _ x y ho b _ hx hy _ _ hS (by rw [stateInfo]; rfl) rfl (oneCells X) (hK _ _ (h _ ⟨row_same hS X, fun _ hk => row_other _ _ _ _ hk, fun _ hB => below_row (Below.refl _ _) hB _⟩))
end
theorem load_s {w : World} {q : Nat} {S : St} (h : StIs w q S) : (loadVar 34 ⟨q, 0, none⟩).run Tryz.prog w = .ok (.agg (stCells S)) w :=
  run_loadVar_row (P := Tryz.prog) _ _ _ 34 _ _ _ h Tryz.underlying34 rfl (by rw [stateInfo]; rfl)

set_option maxHeartbeats 1000000 in
set_option maxRecDepth 20000 in
theorem rstate_any (p : Nat) (C : RC) (R : RS) (w : World) (h : RpIs w p C R) :
    Calls Tryz.prog 54 #[.pointer (some ⟨p, 0, none⟩)] w fun e w' => e = .returned (.agg (stCells R.st)) ∧ Below w.heap.size w w' := by
  have hB : Below w.heap.size w (w.alloc (.cells (stCells st0) 34)) := (Below.refl _ _).alloc (Nat.le_refl _) _
  have hS : StIs (w.alloc (.cells (stCells st0) 34)) w.heap.size st0 := blk_new _ _
  have hr := (h.below hB).state
  have HR := hide hr
  have HS := hide hS
  have HB := hide hB
  have hpl := h.lt
  clear h hr hS hB
  go_enter Tryz.func54, Tryz.ntmps54
  go_wp2_with (first
    | (refine wpList_load_mid rfl 34 _ rfl p 8 rfl (stCells R.st).toList _ HR.out Tryz.underlying34 rfl (by rw [stateInfo]; rfl) ?_)
    | (refine wpList_store_s rfl _ _ rfl w.heap.size st0 R.st rfl rfl HS.out ?_))
  intro w9 HF9
  go_wp2
  refine bodyPost_ret (v := .agg (stCells R.st)) ?_ rfl ⟨rfl, HB.out.trans (HF9.out.2.2 _ (Nat.le_refl _))⟩
  exact results_cell1 Tryz.results54 rfl (load_s HF9.out.1)

def seeR (x y : Int) (R : RS) : RS := { R with sx := x, sy := y }
set_option maxHeartbeats 1000000 in
theorem see_any (p : Nat) (C : RC) (R : RS) (x y : Int) (w : World) (h : RpIs w p C R) :
    Calls Tryz.prog 50 #[.pointer (some ⟨p, 0, none⟩), .agg #[.int .i64 x, .int .i64 y]] w fun e w' => e = .returned (.tuple #[]) ∧ RpIs w' p C (seeR x y R) ∧ Mod w w' (· = p) := by
  have h1 := h.put (R' := { R with sx := x }) (k := 25) (by decide) (.int .i64 x) (fun j _ => by
    unfold upd rpF
    by_cases e : j = 25
    · subst e; rfl
    · simp [e])
  have h2 := h1.put (R' := seeR x y R) (k := 26) (by decide) (.int .i64 y) (fun j _ => by
    unfold upd rpF seeR
    by_cases e : j = 26
    · subst e; rfl
    · simp [e])
  have hB := (Below.refl ((w.setCell ⟨p, 25, none⟩ (.int .i64 x)).setCell ⟨p, 26, none⟩ (.int .i64 y)).heap.size ((w.setCell ⟨p, 25, none⟩ (.int .i64 x)).setCell ⟨p, 26, none⟩ (.int .i64 y))).alloc (Nat.le_refl _) (.cells #[.int .i64 x, .int .i64 y] 31)
  have h3 := h2.below hB
  have hm := (((Mod.refl w (· = p)).set ⟨p, 25, none⟩ (.int .i64 x) (fun _ => rfl)).set ⟨p, 26, none⟩ (.int .i64 y) (fun _ => rfl)).below hB
  have c25 := h.c25
  have c26 := h.c26
  have f25 := h.blk.free 25
  have f26 := h.blk.free 26
  have hpl := h.lt
  have H2 := hide h3
  have HM := hide hm
  clear h h1 h2 h3 hm hB
  go_enter Tryz.func50, Tryz.ntmps50
  go_wp2
  go_end0
  exact ⟨rfl, H2.out, HM.out⟩

def isRep (x : Int) : Bool := decide (0 ≤ x) && decide (x < 3)
set_option maxHeartbeats 1000000 in
theorem isReplica_any (x : Int) (w : World) :
    Calls Tryz.prog 134 #[.int .i64 x] w fun e w' => e = .returned (.bool (isRep x)) ∧ w' = w := by
  by_cases h1 : 0 ≤ x
  · by_cases h2 : x < 3
    · have he : isRep x = true := by simp [isRep, h1, h2]
      rw [he]
      clear he
      go_enter Tryz.func134, Tryz.ntmps134
      go_wp2
      go_ret
      exact ⟨rfl, rfl⟩
    · have he : isRep x = false := by simp [isRep, h2]
      rw [he]
      clear he
      go_enter Tryz.func134, Tryz.ntmps134
      go_wp2
      go_ret
      exact ⟨rfl, rfl⟩
  · have he : isRep x = false := by simp [isRep, h1]
    rw [he]
    clear he
    go_enter Tryz.func134, Tryz.ntmps134
    go_wp2
    go_ret
    exact ⟨rfl, rfl⟩

/-- The bits that two of three have. -/
def two3 (a b c : Nat) : Nat := a &&& b ||| b &&& c ||| c &&& a
theorem two3_lt {a b c m : Nat} (ha : a < 2 ^ m) (hb : b < 2 ^ m) : two3 a b c < 2 ^ m :=
  Nat.or_lt_two_pow (Nat.or_lt_two_pow (Nat.lt_of_le_of_lt Nat.and_le_left ha) (Nat.lt_of_le_of_lt Nat.and_le_left hb)) (Nat.lt_of_le_of_lt Nat.and_le_right ha)
set_option maxHeartbeats 1000000 in
theorem twoOf_any (a b c : Nat) (w : World) (ha : a < 4096) (hb : b < 4096) (hc : c < 4096) :
    Calls Tryz.prog 199 #[.int .i64 (a : Int), .int .i64 (b : Int), .int .i64 (c : Int)] w fun e w' => e = .returned (.int .i64 ((two3 a b c : Nat) : Int)) ∧ w' = w := by
  have h1 : a &&& b < 4096 := Nat.lt_of_le_of_lt Nat.and_le_left ha
  have h2 : b &&& c < 4096 := Nat.lt_of_le_of_lt Nat.and_le_left hb
  have h3 : c &&& a < 4096 := Nat.lt_of_le_of_lt Nat.and_le_left hc
  have h4 : a &&& b ||| b &&& c < 4096 := Nat.or_lt_two_pow (n := 12) h1 h2
  have e1 := and_nat a b (by omega) (by omega)
  have e2 := and_nat b c (by omega) (by omega)
  have e3 := and_nat c a (by omega) (by omega)
  have e4 := or_nat (a &&& b) (b &&& c) (by omega) (by omega)
  have e5 := or_nat (a &&& b ||| b &&& c) (c &&& a) (by omega) (by omega)
  have he : two3 a b c = a &&& b ||| b &&& c ||| c &&& a := rfl
  have HE := hide he
  clear he
  go_enter Tryz.func199, Tryz.ntmps199
  go_wp2
  go_ret
  rw [HE.out]
  exact ⟨rfl, rfl⟩
end Go.Proofs.YtaablbmgagiajabGreatDoor
