/- A replica: what it knows, and where that lies in memory. -/
import Derived.Test.YtonkapgbcnkjcaaGreatDoorVtMem
import Derived.Test.YtonkapgbcnkjcaaGreatDoorCoreStep
import Derived.Test.YtonkapgbcnkjcaaGreatDoorFrF
import Derived.Deep.MidRow
import Derived.Deep.Upon
namespace Go.Proofs.YtonkapgbcnkjcaaGreatDoor
open Go.RowKit Go.Deep

/-! ### A block, cell by cell -/
def BIs (w : World) (p t n : Nat) (f : Nat → Value) : Prop := ∃ cs : Array Value, w.heap[p]? = some (.cells cs t (0, 0)) ∧ cs.size = n ∧ ∀ k, k < n → cs[k]? = some (f k)
section
variable {w w' : World} {p t n : Nat} {f g : Nat → Value}
theorem BIs.at (h : BIs w p t n f) {k : Nat} (hk : k < n) : w.cell? ⟨p, k, none⟩ = some (f k) := by
  obtain ⟨cs, h1, _, h3⟩ := h
  rw [blk_cell h1]
  exact h3 k hk
theorem BIs.free (h : BIs w p t n f) (k : Nat) : w.frozen? ⟨p, k, none⟩ = false := by
  obtain ⟨cs, h1, _⟩ := h
  exact blk_free h1 k
theorem BIs.lt (h : BIs w p t n f) : p < w.heap.size := by
  obtain ⟨cs, h1, _⟩ := h
  exact blk_lt h1
theorem BIs.same (h : BIs w p t n f) (hb : w'.heap[p]? = w.heap[p]?) : BIs w' p t n f := by
  obtain ⟨cs, h1, h2⟩ := h
  exact ⟨cs, hb.trans h1, h2⟩
theorem BIs.congr (h : BIs w p t n f) (e : ∀ k, k < n → f k = g k) : BIs w p t n g := by
  obtain ⟨cs, h1, h2, h3⟩ := h
  exact ⟨cs, h1, h2, fun k hk => by rw [h3 k hk, e k hk]⟩
theorem BIs.set (h : BIs w p t n f) {k : Nat} (hk : k < n) (v : Value) : BIs (w.setCell ⟨p, k, none⟩ v) p t n (upd f k v) := by
  obtain ⟨cs, h1, h2, h3⟩ := h
  refine ⟨_, blk_set h1 k v, by simpa using h2, fun j hj => ?_⟩
  rw [Array.getElem?_setIfInBounds]
  by_cases e : k = j
  · subst e; simp [h2, hk, upd_same]
  · rw [if_neg e, upd_other f v (fun h => e h.symm)]; exact h3 j hj
theorem BIs.sets : ∀ (vs : List Value) (o : Nat) (w : World) (f : Nat → Value), BIs w p t n f → o + vs.length ≤ n → BIs (w.setCells p o vs) p t n (fun k => if o ≤ k then (vs[k - o]?).getD (f k) else f k)
  | [], o, w, f, h, _ => h.congr fun k _ => by simp
  | v :: r, o, w, f, h, hl => by
    simp only [List.length_cons] at hl
    refine (BIs.sets r (o + 1) (w.setCell ⟨p, o, none⟩ v) (upd f o v) (h.set (by omega) v) (by omega)).congr fun k _ => ?_
    by_cases h1 : k < o
    · rw [if_neg (by omega), if_neg (by omega), upd_other _ _ (by omega)]
    · by_cases h2 : k = o
      · subst h2; rw [if_neg (by omega), if_pos (Nat.le_refl _)]; simp [upd_same]
      · rw [if_pos (by omega), if_pos (by omega), upd_other _ _ h2, show k - o = (k - (o + 1)) + 1 by omega, List.getElem?_cons_succ]
theorem BIs.range (h : BIs w p t n f) {o : Nat} {cs : List Value} (hl : o + cs.length ≤ n) (hc : ∀ j, j < cs.length → cs[j]? = some (f (o + j))) : w.rangeAt p o cs := by
  intro j v hv
  have hj : j < cs.length := (List.getElem?_eq_some_iff.1 hv).1
  rw [h.at (by omega), ← hc j hj, hv]
theorem BIs.there (h : BIs w p t n f) {o m : Nat} (hl : o + m ≤ n) : w.there p o m := fun j hj => ⟨by rw [h.at (by omega)]; rfl, h.free _⟩
end

/-! ### What a replica knows -/
structure Smp where
  there : Bool
  came : Int
  c : Nat
  v : Nat
def smp0 : Smp := ⟨false, 0, 0, 0⟩
def smpC (x : Smp) : List Value := [.bool x.there, .int .i64 x.came, .int .i64 (x.c : Int), .int .i64 (x.v : Int)]
structure RS where
  id : Nat
  cycle : Int
  ticks : Int
  ahead : Int
  st : St
  sx : Int
  sy : Int
  smp : Nat → Smp
  told : Nat → Nat → Int
/-- What another one told: the cycle, and the state. -/
def tlC (T : Nat → Int) : Array Value := #[.int .i64 (T 0), .int .i64 (T 1), .int .i64 (T 2), .int .i64 (T 3), .int .i64 (T 4), .int .i64 (T 5), .int .i64 (T 6), .int .i64 (T 7), .int .i64 (T 8), .int .i64 (T 9), .int .i64 (T 10), .int .i64 (T 11), .int .i64 (T 12), .int .i64 (T 13), .int .i64 (T 14), .int .i64 (T 15), .int .i64 (T 16), .int .i64 (T 17)]
theorem tlC_at (T : Nat → Int) (k : Nat) (h : k < 18) : (tlC T)[k]? = some (.int .i64 (T k)) := by
  match k, h with
  | 0, _ => rfl | 1, _ => rfl | 2, _ => rfl | 3, _ => rfl | 4, _ => rfl | 5, _ => rfl | 6, _ => rfl | 7, _ => rfl | 8, _ => rfl | 9, _ => rfl | 10, _ => rfl | 11, _ => rfl | 12, _ => rfl | 13, _ => rfl | 14, _ => rfl | 15, _ => rfl | 16, _ => rfl | 17, _ => rfl
  | _ + 18, h => exact absurd h (by omega)
/-- A line: its numbers, the core's blocks, the list's. -/
structure RC where
  s : Nat
  d : Nat
  n : Nat
  zs : List Int
  pc : Nat
  g : Nat
  cg : Nat
  M : Nat
  g2 : Nat
  c2 : Nat
def rpF (C : RC) (R : RS) (k : Nat) : Value :=
  if k = 0 then .int .i64 (R.id : Int) else if k = 1 then .int .i64 (C.s : Int) else if k = 2 then .slice (some ⟨C.g2, 0, none⟩) C.n C.c2 else if k = 3 then .int .i64 (C.d : Int) else if k = 4 then .pointer (some ⟨C.pc, 0, none⟩)
  else if k = 5 then .int .i64 R.cycle else if k = 6 then .int .i64 R.ticks else if k = 7 then .int .i64 R.ahead
  else if k < 25 then ((stCells R.st)[k - 8]?).getD undef
  else if k = 25 then .int .i64 R.sx else if k = 26 then .int .i64 R.sy
  else if k < 39 then ((smpC (R.smp ((k - 27) / 4)))[(k - 27) % 4]?).getD undef
  else .int .i64 (R.told ((k - 39) / 18) ((k - 39) % 18))

structure RpIs (w : World) (p : Nat) (C : RC) (R : RS) : Prop where
  blk : BIs w p 125 93 (rpF C R)
  core : CoreIs w C.pc (C.s : Int) (C.d : Int) C.n C.zs C.g C.cg C.M
  row : Row w C.g2 0 C.zs
  lt2 : C.g2 < w.heap.size
  cap2 : C.n ≤ C.c2
  ap : p ≠ C.pc ∧ p ≠ C.g ∧ p ≠ C.M ∧ p ≠ C.g2

theorem CoreIs.blocks {w wx : World} {p : Nat} {s d : Int} {n : Nat} {zs : List Int} {g cg M : Nat} (h : CoreIs w p s d n zs g cg M) (hs : w.heap.size ≤ wx.heap.size) (hb : ∀ k, k = p ∨ k = g ∨ k = M → wx.heap[k]? = w.heap[k]?) : CoreIs wx p s d n zs g cg M :=
  ⟨(hb p (.inl rfl)).trans h.blk, h.len, h.cap, Nat.lt_of_lt_of_le h.glt hs, fun k hk => (World.cell?_of_block (w := w) (hb g (.inr (.inl rfl)))).trans (h.row k hk), h.con.of_block (hb M (.inr (.inr rfl))), h.ok⟩
section
variable {w w' : World} {p : Nat} {C : RC} {R R' : RS}
theorem RpIs.lt (h : RpIs w p C R) : p < w.heap.size := h.blk.lt
theorem RpIs.mod (h : RpIs w p C R) (hm : Mod w w' (· = p)) (hb : BIs w' p 125 93 (rpF C R')) : RpIs w' p C R' := by
  have e : ∀ k, k < w.heap.size → k ≠ p → w'.heap[k]? = w.heap[k]? := fun k hk hp => hm.block k hk hp
  obtain ⟨a1, a2, a3, a4⟩ := h.ap
  refine ⟨hb, h.core.blocks hm.size ?_, fun k hk => (World.cell?_of_block (w := w) (e _ h.lt2 (fun x => a4 x.symm))).trans (h.row k hk), Nat.lt_of_lt_of_le h.lt2 hm.size, h.cap2, h.ap⟩
  rintro k (rfl | rfl | rfl)
  · exact e _ h.core.plt (fun x => a1 x.symm)
  · exact e _ h.core.glt (fun x => a2 x.symm)
  · exact e _ h.core.mlt (fun x => a3 x.symm)
theorem RpIs.below (h : RpIs w p C R) (hB : Below w.heap.size w w') : RpIs w' p C R := h.mod (Mod.ofBelow hB _) (h.blk.same (hB.block _ h.lt))
theorem RpIs.other (h : RpIs w p C R) {q : Nat} (hm : Mod w w' (· = q)) (hq : q ≠ p ∧ q ≠ C.pc ∧ q ≠ C.g ∧ q ≠ C.M ∧ q ≠ C.g2) : RpIs w' p C R := by
  have e : ∀ k, k < w.heap.size → k ≠ q → w'.heap[k]? = w.heap[k]? := fun k hk hp => hm.block k hk hp
  obtain ⟨a0, a1, a2, a3, a4⟩ := hq
  refine ⟨h.blk.same (e _ h.lt (fun x => a0 x.symm)), h.core.blocks hm.size ?_, fun k hk => (World.cell?_of_block (w := w) (e _ h.lt2 (fun x => a4 x.symm))).trans (h.row k hk), Nat.lt_of_lt_of_le h.lt2 hm.size, h.cap2, h.ap⟩
  rintro k (rfl | rfl | rfl)
  · exact e _ h.core.plt (fun x => a1 x.symm)
  · exact e _ h.core.glt (fun x => a2 x.symm)
  · exact e _ h.core.mlt (fun x => a3 x.symm)

/-! ### One cell -/
theorem RpIs.put (h : RpIs w p C R) {k : Nat} (hk : k < 93) (v : Value) (e : ∀ j, j < 93 → upd (rpF C R) k v j = rpF C R' j) : RpIs (w.setCell ⟨p, k, none⟩ v) p C R' :=
  h.mod ((Mod.refl w _).set ⟨p, k, none⟩ v (fun _ => rfl)) ((h.blk.set hk v).congr e)
theorem Mod.sets {T : Nat → Prop} {w w1 : World} (h : Mod w w1 T) (p o : Nat) (vs : List Value) (hp : T p) : Mod w (w1.setCells p o vs) T := by
  refine ⟨(World.os_setCells _ _ _ _).trans h.os, ?_, (World.output_setCells _ _ _ _).trans h.output, ?_, fun k hk ht => ?_⟩
  · have : ∀ (vs : List Value) (o : Nat) (x : World), (x.setCells p o vs).tape = x.tape := by
      intro vs
      induction vs with
      | nil => intro _ _; rfl
      | cons v r ih => intro o x; exact ih (o + 1) (x.setCell ⟨p, o, none⟩ v)
    rw [this]; exact h.tape
  · have : ∀ (vs : List Value) (o : Nat) (x : World), (x.setCells p o vs).heap.size = x.heap.size := by
      intro vs
      induction vs with
      | nil => intro _ _; rfl
      | cons v r ih => intro o x; exact (ih (o + 1) (x.setCell ⟨p, o, none⟩ v)).trans (by simp [World.setCell])
    rw [this]; exact h.size
  · have hne : k ≠ p := fun e => ht (e ▸ hp)
    exact (World.heap_setCells_other w1 p o vs (Nat.lt_of_lt_of_le hk h.size) hne).trans (h.block k hk ht)
theorem RpIs.puts (h : RpIs w p C R) (o : Nat) (vs : List Value) (hl : o + vs.length ≤ 93) (e : ∀ j, j < 93 → (if o ≤ j then (vs[j - o]?).getD (rpF C R j) else rpF C R j) = rpF C R' j) : RpIs (w.setCells p o vs) p C R' :=
  h.mod ((Mod.refl w _).sets p o vs rfl) ((BIs.sets vs o w _ h.blk hl).congr e)

theorem RpIs.c0 (h : RpIs w p C R) : w.cell? ⟨p, 0, none⟩ = some (.int .i64 (R.id : Int)) := h.blk.at (by decide)
theorem RpIs.c1 (h : RpIs w p C R) : w.cell? ⟨p, 1, none⟩ = some (.int .i64 (C.s : Int)) := h.blk.at (by decide)
theorem RpIs.c2 (h : RpIs w p C R) : w.cell? ⟨p, 2, none⟩ = some (.slice (some ⟨C.g2, 0, none⟩) C.n C.c2) := h.blk.at (by decide)
theorem RpIs.c3 (h : RpIs w p C R) : w.cell? ⟨p, 3, none⟩ = some (.int .i64 (C.d : Int)) := h.blk.at (by decide)
theorem RpIs.c4 (h : RpIs w p C R) : w.cell? ⟨p, 4, none⟩ = some (.pointer (some ⟨C.pc, 0, none⟩)) := h.blk.at (by decide)
theorem RpIs.c5 (h : RpIs w p C R) : w.cell? ⟨p, 5, none⟩ = some (.int .i64 R.cycle) := h.blk.at (by decide)
theorem RpIs.c6 (h : RpIs w p C R) : w.cell? ⟨p, 6, none⟩ = some (.int .i64 R.ticks) := h.blk.at (by decide)
theorem RpIs.c7 (h : RpIs w p C R) : w.cell? ⟨p, 7, none⟩ = some (.int .i64 R.ahead) := h.blk.at (by decide)
theorem RpIs.c25 (h : RpIs w p C R) : w.cell? ⟨p, 25, none⟩ = some (.int .i64 R.sx) := h.blk.at (by decide)
theorem RpIs.c26 (h : RpIs w p C R) : w.cell? ⟨p, 26, none⟩ = some (.int .i64 R.sy) := h.blk.at (by decide)
theorem RpIs.state (h : RpIs w p C R) : w.rangeAt p 8 (stCells R.st).toList := by
  refine h.blk.range (by show 8 + 17 ≤ 93; omega) fun j hj => ?_
  have hj' : j < 17 := hj
  unfold rpF
  rw [if_neg (by omega), if_neg (by omega), if_neg (by omega), if_neg (by omega), if_neg (by omega), if_neg (by omega), if_neg (by omega), if_neg (by omega), if_pos (by omega), show 8 + j - 8 = j by omega]
  have hs : j < (stCells R.st).size := hj'
  rw [Array.getElem?_toList, Array.getElem?_eq_getElem hs]
  rfl
theorem rpF_smp {k j : Nat} (hk : k < 3) (hj : j < 4) : rpF C R (27 + k * 4 + j) = ((smpC (R.smp k))[j]?).getD undef := by
  unfold rpF
  rw [if_neg (by omega), if_neg (by omega), if_neg (by omega), if_neg (by omega), if_neg (by omega), if_neg (by omega), if_neg (by omega), if_neg (by omega), if_neg (by omega), if_neg (by omega), if_neg (by omega), if_pos (by omega), show (27 + k * 4 + j - 27) / 4 = k by omega, show (27 + k * 4 + j - 27) % 4 = j by omega]
theorem rpF_told {k j : Nat} (hk : k < 3) (hj : j < 18) : rpF C R (39 + k * 18 + j) = .int .i64 (R.told k j) := by
  unfold rpF
  rw [if_neg (by omega), if_neg (by omega), if_neg (by omega), if_neg (by omega), if_neg (by omega), if_neg (by omega), if_neg (by omega), if_neg (by omega), if_neg (by omega), if_neg (by omega), if_neg (by omega), if_neg (by omega), show (39 + k * 18 + j - 39) / 18 = k by omega, show (39 + k * 18 + j - 39) % 18 = j by omega]
theorem RpIs.s0 (h : RpIs w p C R) {k : Nat} (hk : k < 3) : w.cell? ⟨p, 27 + k * 4, none⟩ = some (.bool (R.smp k).there) := (h.blk.at (by omega)).trans (congrArg some (rpF_smp (j := 0) hk (by omega)))
theorem RpIs.s1 (h : RpIs w p C R) {k : Nat} (hk : k < 3) : w.cell? ⟨p, 27 + k * 4 + 1, none⟩ = some (.int .i64 (R.smp k).came) := (h.blk.at (by omega)).trans (congrArg some (rpF_smp (j := 1) hk (by omega)))
theorem RpIs.s2 (h : RpIs w p C R) {k : Nat} (hk : k < 3) : w.cell? ⟨p, 27 + k * 4 + 2, none⟩ = some (.int .i64 ((R.smp k).c : Int)) := (h.blk.at (by omega)).trans (congrArg some (rpF_smp (j := 2) hk (by omega)))
theorem RpIs.s3 (h : RpIs w p C R) {k : Nat} (hk : k < 3) : w.cell? ⟨p, 27 + k * 4 + 3, none⟩ = some (.int .i64 ((R.smp k).v : Int)) := (h.blk.at (by omega)).trans (congrArg some (rpF_smp (j := 3) hk (by omega)))
/-- All samples; all that was told. -/
def smpL (f : Nat → Smp) : List Value := smpC (f 0) ++ smpC (f 1) ++ smpC (f 2)
theorem RpIs.samples (h : RpIs w p C R) : w.rangeAt p 27 (smpL R.smp) := by
  refine h.blk.range (by show 27 + 12 ≤ 93; omega) fun j hj => ?_
  have hj' : j < 12 := hj
  rcases (by omega : j < 4 ∨ (4 ≤ j ∧ j < 8) ∨ (8 ≤ j ∧ j < 12)) with h1 | h1 | h1
  · have := rpF_smp (C := C) (R := R) (k := 0) (j := j) (by omega) h1
    rw [show 27 + 0 * 4 + j = 27 + j by omega] at this
    rw [this]
    rcases (by omega : j = 0 ∨ j = 1 ∨ j = 2 ∨ j = 3) with rfl | rfl | rfl | rfl <;> rfl
  · have := rpF_smp (C := C) (R := R) (k := 1) (j := j - 4) (by omega) (by omega)
    rw [show 27 + 1 * 4 + (j - 4) = 27 + j by omega] at this
    rw [this]
    rcases (by omega : j = 4 ∨ j = 5 ∨ j = 6 ∨ j = 7) with rfl | rfl | rfl | rfl <;> rfl
  · have := rpF_smp (C := C) (R := R) (k := 2) (j := j - 8) (by omega) (by omega)
    rw [show 27 + 2 * 4 + (j - 8) = 27 + j by omega] at this
    rw [this]
    rcases (by omega : j = 8 ∨ j = 9 ∨ j = 10 ∨ j = 11) with rfl | rfl | rfl | rfl <;> rfl
def tlL (f : Nat → Nat → Int) : List Value := (tlC (f 0)).toList ++ (tlC (f 1)).toList ++ (tlC (f 2)).toList
theorem tlL_at (f : Nat → Nat → Int) {k j : Nat} (hk : k < 3) (hj : j < 18) : (tlL f)[k * 18 + j]? = some (.int .i64 (f k j)) := by
  have a : ∀ i, (tlC (f i)).toList[j]? = some (.int .i64 (f i j)) := fun i => by rw [Array.getElem?_toList]; exact tlC_at _ _ hj
  have l : ∀ i, (tlC (f i)).toList.length = 18 := fun _ => rfl
  unfold tlL
  rcases (by omega : k = 0 ∨ k = 1 ∨ k = 2) with rfl | rfl | rfl
  · rw [List.append_assoc, List.getElem?_append_left (by rw [l]; omega), Nat.zero_mul, Nat.zero_add, a]
  · rw [List.append_assoc, List.getElem?_append_right (by rw [l]; omega), List.getElem?_append_left (by rw [l, l]; omega), l, show 1 * 18 + j - 18 = j by omega, a]
  · rw [List.getElem?_append_right (by rw [List.length_append, l, l]; omega), List.length_append, l, l, show 2 * 18 + j - (18 + 18) = j by omega, a]
theorem RpIs.tolds (h : RpIs w p C R) : w.rangeAt p 39 (tlL R.told) := by
  refine h.blk.range (by show 39 + 54 ≤ 93; omega) fun j hj => ?_
  have hj' : j < 54 := hj
  have e := tlL_at R.told (k := j / 18) (j := j % 18) (by omega) (by omega)
  have e2 := rpF_told (C := C) (R := R) (k := j / 18) (j := j % 18) (by omega) (by omega)
  rw [show j / 18 * 18 + j % 18 = j by omega] at e
  rw [show 39 + j / 18 * 18 + j % 18 = 39 + j by omega] at e2
  rw [e, e2]
end
end Go.Proofs.YtonkapgbcnkjcaaGreatDoor
