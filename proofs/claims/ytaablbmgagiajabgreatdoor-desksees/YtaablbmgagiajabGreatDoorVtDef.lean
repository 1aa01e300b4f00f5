/- What a voter does, as functions: the document's 4.1 and 4.2. No program is named here. -/
import Derived.Test.YtaablbmgagiajabGreatDoorFrF
namespace Go.Proofs.YtaablbmgagiajabGreatDoor
open Go.RowKit Go.Deep

/-- What is committed: Clear, Wanted, Out. -/
structure Cm where
  c : Int
  v : Int
  o : Int
def cm0 : Cm := ⟨0, 0, 0⟩
/-- A voter: what was committed; who voted, and what; the ticks that are left; who is out; whether it is latched. -/
structure VS where
  tr : List Cm
  b : Nat → Bool
  x : Nat → Cm
  left : Nat
  out : Nat
  lat : Bool
def vs0 (win : Nat) : VS := ⟨[], fun _ => false, fun _ => cm0, win, 0, false⟩
structure VOk (win : Nat) (S : VS) : Prop where
  w1 : 1 ≤ win
  w2 : win ≤ 20
  few : S.tr.length ≤ 1000
  full : S.tr.length = 1000 → S.lat = true
  out : S.out < 8
  left : S.left ≤ 20
  pos : S.lat = false → 1 ≤ S.left
theorem VOk.new {win : Nat} (h1 : 1 ≤ win) (h2 : win ≤ 20) : VOk win (vs0 win) := ⟨h1, h2, by simp [vs0], by simp [vs0], by simp [vs0], h2, fun _ => h1⟩

def eqIn (a d : Cm) : Bool := a.c == d.c && a.v == d.v
def eqCm (a d : Cm) : Bool := eqIn a d && a.o == d.o
theorem eqCm_iff {a d : Cm} : eqCm a d = true ↔ a = d := by
  cases a; cases d
  simp [eqCm, eqIn, and_assoc]
theorem eqCm_self (a : Cm) : eqCm a a = true := eqCm_iff.2 rfl
/-- The vote of k is the same. -/
def likeB (b : Nat → Bool) (x : Nat → Cm) (d : Cm) (k : Nat) : Bool := b k && eqCm (x k) d
/-- The vote of k is one of the same In, and another Out. -/
def agB (b : Nat → Bool) (x : Nat → Cm) (d : Cm) (k : Nat) : Bool := (b k && eqIn (x k) d) && (x k).o != d.o
def secTo (b : Nat → Bool) (x : Nat → Cm) (d : Cm) (r : Nat) : Nat → Bool
  | 0 => false
  | k + 1 => secTo b x d r k || (k != r && likeB b x d k)
def agTo (b : Nat → Bool) (x : Nat → Cm) (d : Cm) : Nat → Nat
  | 0 => 0
  | k + 1 => if agB b x d k then agTo b x d k ||| 2 ^ k else agTo b x d k
theorem agTo_lt (b : Nat → Bool) (x : Nat → Cm) (d : Cm) (k n : Nat) (h : k ≤ n) : agTo b x d k < 2 ^ n := by
  induction k with
  | zero => exact Nat.two_pow_pos n
  | succ k ih =>
    unfold agTo
    split
    · exact or_bit_lt (ih (by omega)) (by omega)
    · exact ih (by omega)
theorem agTo_bit (b : Nat → Bool) (x : Nat → Cm) (d : Cm) (n k : Nat) : (agTo b x d n).testBit k = (decide (k < n) && agB b x d k) := by
  induction n with
  | zero => simp [agTo]
  | succ n ih =>
    unfold agTo
    by_cases e : k = n
    · subst e
      split
      · rename_i h; rw [Nat.testBit_or, ih, two_bit, h]; simp
      · rename_i h; rw [ih]; simp [Bool.eq_false_iff.2 h]
    · have hd : decide (k < n + 1) = decide (k < n) := by rw [decide_eq_decide]; omega
      split
      · rw [Nat.testBit_or, ih, two_bit, decide_eq_false (by omega : ¬ n = k), hd]; simp
      · rw [ih, hd]

/-- A Done. -/
def doneF (k : Nat) (d : Cm) : FR := votF 3 3 (k : Int) d.c d.v d.o
def cmAt (l : List Cm) (k : Nat) : Cm := l[k]?.getD cm0
/-- What was committed in a cycle, and then last. -/
def pastF (l : List Cm) (k : Nat) : List FR := if k + 1 = l.length then [doneF k (cmAt l k)] else [doneF k (cmAt l k), doneF (l.length - 1) (cmAt l (l.length - 1))]
def kindB (F : FR) : Bool := F 0 == 2 || F 0 == 4
def fromB (F : FR) : Bool := decide (0 ≤ F 1) && decide (F 1 < 3)
def hearB (S : VS) (F : FR) : Bool := kindB F && (fromB F && (!S.out.testBit (F 1).toNat && decide (0 ≤ F 2)))
def outN (S : VS) (d : Cm) : Nat := S.out ||| agTo S.b S.x d 3
def commitS (win : Nat) (S : VS) (d : Cm) : VS := ⟨S.tr ++ [d], fun _ => false, fun _ => cm0, win, outN S d, decide (2 ≤ pop 8 (outN S d)) || decide (1000 ≤ S.tr.length + 1)⟩
def castS (S : VS) (k : Nat) (d : Cm) : VS := ⟨S.tr, upd S.b k true, upd S.x k d, S.left, S.out, S.lat⟩
def cmF (F : FR) : Cm := ⟨F 3, F 4, F 5⟩
def passB (S : VS) (F : FR) : Bool := (decide ((S.tr.length : Int) < F 2) || F 0 == 4) || S.lat
/-- What a voter does with a frame: it, what is told, whether to all. -/
def takeF (win : Nat) (S : VS) (F : FR) : VS × List FR × Bool :=
  if hearB S F = false then (S, [], false)
  else if F 2 < S.tr.length then (S, pastF S.tr (F 2).toNat, false)
  else if passB S F = true then (S, [], false)
  else if secTo (castS S (F 1).toNat (cmF F)).b (castS S (F 1).toNat (cmF F)).x (cmF F) (F 1).toNat 3 = false then (castS S (F 1).toNat (cmF F), [], false)
  else (commitS win (castS S (F 1).toNat (cmF F)) (cmF F), [doneF S.tr.length (cmF F)], true)
def tickF (S : VS) : VS := if S.lat then S else ⟨S.tr, S.b, S.x, S.left - 1, S.out, S.left - 1 == 0⟩
def latchF (S : VS) : VS := ⟨S.tr, S.b, S.x, S.left, S.out, true⟩
def shownF (S : VS) : Int := if S.lat || S.tr.length == 0 then 0 else (cmAt S.tr (S.tr.length - 1)).o

theorem VOk.tick {win : Nat} {S : VS} (h : VOk win S) : VOk win (tickF S) := by
  unfold tickF
  split
  · exact h
  · rename_i hl
    have hl : S.lat = false := by simpa using hl
    have hp := h.pos hl
    have hf := h.left
    refine ⟨h.w1, h.w2, h.few, fun e => (by rw [h.full e] at hl; cases hl), h.out, ?_, fun e => ?_⟩
    · show S.left - 1 ≤ 20; omega
    · have : ¬ S.left - 1 = 0 := by simpa using e
      show 1 ≤ S.left - 1; omega
theorem VOk.latch {win : Nat} {S : VS} (h : VOk win S) : VOk win (latchF S) := ⟨h.w1, h.w2, h.few, fun _ => rfl, h.out, h.left, fun e => by cases e⟩
theorem VOk.cast {win : Nat} {S : VS} (h : VOk win S) (k : Nat) (d : Cm) : VOk win (castS S k d) := ⟨h.w1, h.w2, h.few, h.full, h.out, h.left, h.pos⟩
theorem outN_lt {win : Nat} {S : VS} (h : VOk win S) (d : Cm) : outN S d < 8 := Nat.or_lt_two_pow (n := 3) h.out (agTo_lt _ _ _ 3 3 (Nat.le_refl _))
theorem VOk.commit {win : Nat} {S : VS} (h : VOk win S) (hl : S.lat = false) (d : Cm) : VOk win (commitS win S d) := by
  have hf := h.few
  have hn : ¬ S.tr.length = 1000 := fun e => by rw [h.full e] at hl; cases hl
  refine ⟨h.w1, h.w2, ?_, ?_, outN_lt h d, h.w2, fun _ => h.w1⟩
  · show (S.tr ++ [d]).length ≤ 1000; simp; omega
  · intro e
    have : S.tr.length + 1 = 1000 := by simpa [commitS] using e
    show (decide _ || decide _) = true
    rw [this]; simp
theorem VOk.take {win : Nat} {S : VS} (h : VOk win S) (F : FR) : VOk win (takeF win S F).1 := by
  unfold takeF
  split
  · exact h
  · split
    · exact h
    · split
      · exact h
      · rename_i hp
        split
        · exact h.cast _ _
        · refine (h.cast _ _).commit ?_ _
          show S.lat = false
          unfold passB at hp
          cases hl : S.lat
          · rfl
          · rw [hl] at hp; simp at hp

/-- How many votes are the same: as the document counts them. -/
def cnt3 (p : Nat → Bool) : Nat := ((if p 0 then 1 else 0) + (if p 1 then 1 else 0)) + (if p 2 then 1 else 0)
theorem sec_iff (b : Nat → Bool) (x : Nat → Cm) (d : Cm) (r : Nat) (hr : r < 3) (hb : likeB b x d r = true) : secTo b x d r 3 = decide (2 ≤ cnt3 (likeB b x d)) := by
  unfold cnt3
  have e : secTo b x d r 3 = (((false || (0 != r && likeB b x d 0)) || (1 != r && likeB b x d 1)) || (2 != r && likeB b x d 2)) := rfl
  rw [e]
  match r, hr with
  | 0, _ => rw [hb]; cases likeB b x d 1 <;> cases likeB b x d 2 <;> rfl
  | 1, _ => rw [hb]; cases likeB b x d 0 <;> cases likeB b x d 2 <;> rfl
  | 2, _ => rw [hb]; cases likeB b x d 0 <;> cases likeB b x d 1 <;> rfl
end Go.Proofs.YtaablbmgagiajabGreatDoor
