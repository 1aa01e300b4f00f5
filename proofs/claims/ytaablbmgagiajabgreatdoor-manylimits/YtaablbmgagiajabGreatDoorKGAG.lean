import Derived.Deep.RegionWith
import Derived.WalkSmall
import Derived.Deep.RegionHeld3
import Derived.Deep.MidRow
import Derived.Test.YtaablbmgagiajabGreatDoorKGAF
import Derived.Deep.Upon
import Derived.Test.YtaablbmgagiajabGreatDoorKGAB
namespace Go.Proofs.YtaablbmgagiajabGreatDoor
open Go.RowKit Go.Deep
def fitN (n : Nat) (x : Int) : Nat := u64 x &&& (2 ^ n - 1)
def st0 : St := ⟨0, fun _ => 0, fun _ => 0⟩
def BIs (w : World) (p t n : Nat) (f : Nat → Value) : Prop := ∃ cs : Array Value, w.heap[p]? = some (.cells cs t (0, 0)) ∧ cs.size = n ∧ ∀ k, k < n → cs[k]? = some (f k)
section
variable {w w' : World} {p t n : Nat} {f g : Nat → Value}
theorem BIs.lt (h : BIs w p t n f) : p < w.heap.size := by
  obtain ⟨cs, h1, _⟩ := h
  exact blk_lt h1
theorem BIs.same (h : BIs w p t n f) (hb : w'.heap[p]? = w.heap[p]?) : BIs w' p t n f := by
  obtain ⟨cs, h1, h2⟩ := h
  exact ⟨cs, hb.trans h1, h2⟩
end
structure Smp where
  there : Bool
  came : Int
  c : Nat
  v : Nat
def smp0 : Smp := ⟨false, 0, 0, 0⟩
def smpC (x : Smp) : List Value := [.bool x.there, .int .i64 x.came, .int .i64 (x.c : Int), .int .i64 (x.v : Int)]
structure RS where
  id : Nat
  cycle : Int
  ticks : Int
  ahead : Int
  st : St
  sx : Int
  sy : Int
  smp : Nat → Smp
  told : Nat → Nat → Int
structure RC where
  s : Nat
  d : Nat
  n : Nat
  zs : List Int
  pc : Nat
  g : Nat
  cg : Nat
  M : Nat
  g2 : Nat
  c2 : Nat
def rpF (C : RC) (R : RS) (k : Nat) : Value :=
  if k = 0 then .int .i64 (R.id : Int) else if k = 1 then .int .i64 (C.s : Int) else if k = 2 then .slice (some ⟨C.g2, 0, none⟩) C.n C.c2 else if k = 3 then .int .i64 (C.d : Int) else if k = 4 then .pointer (some ⟨C.pc, 0, none⟩)
  else if k = 5 then .int .i64 R.cycle else if k = 6 then .int .i64 R.ticks else if k = 7 then .int .i64 R.ahead
  else if k < 25 then ((stCells R.st)[k - 8]?).getD undef
  else if k = 25 then .int .i64 R.sx else if k = 26 then .int .i64 R.sy
  else if k < 39 then ((smpC (R.smp ((k - 27) / 4)))[(k - 27) % 4]?).getD undef
  else .int .i64 (R.told ((k - 39) / 18) ((k - 39) % 18))
structure RpIs (w : World) (p : Nat) (C : RC) (R : RS) : Prop where
  blk : BIs w p 160 93 (rpF C R)
  core : CoreIs w C.pc (C.s : Int) (C.d : Int) C.n C.zs C.g C.cg C.M
  row : Row w C.g2 0 C.zs
  lt2 : C.g2 < w.heap.size
  cap2 : C.n ≤ C.c2
  ap : p ≠ C.pc ∧ p ≠ C.g ∧ p ≠ C.M ∧ p ≠ C.g2
theorem CoreIs.blocks {w wx : World} {p : Nat} {s d : Int} {n : Nat} {zs : List Int} {g cg M : Nat} (h : CoreIs w p s d n zs g cg M) (hs : w.heap.size ≤ wx.heap.size) (hb : ∀ k, k = p ∨ k = g ∨ k = M → wx.heap[k]? = w.heap[k]?) : CoreIs wx p s d n zs g cg M :=
  ⟨(hb p (.inl rfl)).trans h.blk, h.len, h.cap, Nat.lt_of_lt_of_le h.glt hs, fun k hk => (World.cell?_of_block (w := w) (hb g (.inr (.inl rfl)))).trans (h.row k hk), h.con.of_block (hb M (.inr (.inr rfl))), h.ok⟩
section
variable {w w' : World} {p : Nat} {C : RC} {R R' : RS}
theorem RpIs.lt (h : RpIs w p C R) : p < w.heap.size := h.blk.lt
theorem RpIs.mod (h : RpIs w p C R) (hm : Mod w w' (· = p)) (hb : BIs w' p 160 93 (rpF C R')) : RpIs w' p C R' := by
  have e : ∀ k, k < w.heap.size → k ≠ p → w'.heap[k]? = w.heap[k]? := fun k hk hp => hm.block k hk hp
  obtain ⟨a1, a2, a3, a4⟩ := h.ap
  refine ⟨hb, h.core.blocks hm.size ?_, fun k hk => (World.cell?_of_block (w := w) (e _ h.lt2 (fun x => a4 x.symm))).trans (h.row k hk), Nat.lt_of_lt_of_le h.lt2 hm.size, h.cap2, h.ap⟩
  rintro k (rfl | rfl | rfl)
  · exact e _ h.core.plt (fun x => a1 x.symm)
  · exact e _ h.core.glt (fun x => a2 x.symm)
  · exact e _ h.core.mlt (fun x => a3 x.symm)
theorem RpIs.below (h : RpIs w p C R) (hB : Below w.heap.size w w') : RpIs w' p C R := h.mod (Mod.ofBelow hB _) (h.blk.same (hB.block _ h.lt))
theorem RpIs.other (h : RpIs w p C R) {q : Nat} (hm : Mod w w' (· = q)) (hq : q ≠ p ∧ q ≠ C.pc ∧ q ≠ C.g ∧ q ≠ C.M ∧ q ≠ C.g2) : RpIs w' p C R := by
  have e : ∀ k, k < w.heap.size → k ≠ q → w'.heap[k]? = w.heap[k]? := fun k hk hp => hm.block k hk hp
  obtain ⟨a0, a1, a2, a3, a4⟩ := hq
  refine ⟨h.blk.same (e _ h.lt (fun x => a0 x.symm)), h.core.blocks hm.size ?_, fun k hk => (World.cell?_of_block (w := w) (e _ h.lt2 (fun x => a4 x.symm))).trans (h.row k hk), Nat.lt_of_lt_of_le h.lt2 hm.size, h.cap2, h.ap⟩
  rintro k (rfl | rfl | rfl)
  · exact e _ h.core.plt (fun x => a1 x.symm)
  · exact e _ h.core.glt (fun x => a2 x.symm)
  · exact e _ h.core.mlt (fun x => a3 x.symm)
end
end Go.Proofs.YtaablbmgagiajabGreatDoor
