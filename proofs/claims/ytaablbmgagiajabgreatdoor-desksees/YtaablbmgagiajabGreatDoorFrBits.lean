/- The sum of bytes as a register of 32 bits; what Go's operations on uint32 and uint64 come to there. No program is named here. -/
import Derived.Test.YtaablbmgagiajabGreatDoorBits
namespace Go.Proofs.YtaablbmgagiajabGreatDoor
open Go.RowKit

/-- One bit on. -/
def step (x : BitVec 32) : BitVec 32 := if x.msb then (x <<< 1) ^^^ 79764919#32 else x <<< 1
def steps : Nat → BitVec 32 → BitVec 32
  | 0, x => x
  | k + 1, x => step (steps k x)
/-- A byte's place in the register. -/
def lift (c : Nat) : BitVec 32 := BitVec.ofNat 32 (c * 16777216)
def byteStep (x : BitVec 32) (c : Nat) : BitVec 32 := steps 8 (x ^^^ lift c)
def crcFrom (x : BitVec 32) (l : List Nat) : BitVec 32 := l.foldl byteStep x
def crc (l : List Nat) : BitVec 32 := crcFrom 4294967295#32 l

theorem msb_iff (x : BitVec 32) : x.msb = decide (2147483648 ≤ x.toNat) := by
  rw [BitVec.msb_eq_decide]

theorem ofInt32 (x : BitVec 32) : BitVec.ofInt 32 (x.toNat : Int) = x := by
  apply BitVec.eq_of_toNat_eq
  rw [BitVec.toNat_ofInt]
  have := x.isLt
  omega
theorem wrap_u32 (n : Nat) (h : n < 4294967296) : IntKind.u32.wrap (n : Int) = n := by
  simp [IntKind.wrap, IntKind.bits, IntKind.signed]
  omega
theorem wrap_u64 (n : Nat) (h : n < 18446744073709551616) : IntKind.u64.wrap (n : Int) = n := by
  simp [IntKind.wrap, IntKind.bits, IntKind.signed]
  omega

theorem xor32 (x y : BitVec 32) : bits .xor .u32 (x.toNat : Int) (y.toNat : Int) = (((x ^^^ y).toNat : Nat) : Int) := by
  show IntKind.u32.wrap (((BitVec.ofInt 32 _ ^^^ BitVec.ofInt 32 _).toNat : Nat) : Int) = _
  rw [ofInt32, ofInt32]
  exact wrap_u32 _ (x ^^^ y).isLt
theorem lift_val (c : Nat) (h : c < 256) : (lift c).toNat = c * 16777216 := by
  unfold lift; rw [BitVec.toNat_ofNat]; omega
theorem shl1_val (x : BitVec 32) : (x.toNat : Int) * (2 : Int) % (4294967296 : Int) = (((x <<< 1).toNat : Nat) : Int) := by
  rw [BitVec.toNat_shiftLeft, Nat.shiftLeft_eq]
  simp
theorem shl1_val' (x : BitVec 32) : (x.toNat : Int) <<< (1 : Nat) % (4294967296 : Int) = (((x <<< 1).toNat : Nat) : Int) := by
  rw [Int.shiftLeft_eq]
  exact shl1_val x
theorem top_val (x : BitVec 32) : ((x.toNat : Int) / 2147483648 == 1) = x.msb := by
  have := x.isLt
  rw [msb_iff, Bool.eq_iff_iff, decide_eq_true_iff, beq_iff_eq]
  omega
theorem step_one (x : BitVec 32) (h : x.msb = true) : step x = (x <<< 1) ^^^ 79764919#32 := by unfold step; rw [if_pos h]
theorem step_zero (x : BitVec 32) (h : x.msb = false) : step x = x <<< 1 := by unfold step; simp [h]
theorem poly_val (x : BitVec 32) : bits .xor .u32 (x.toNat : Int) 79764919 = (((x ^^^ 79764919#32).toNat : Nat) : Int) := xor32 x 79764919#32

theorem ofInt64_32 (x : BitVec 32) : (BitVec.ofInt 64 (x.toNat : Int)).toNat = x.toNat := by
  rw [BitVec.toNat_ofInt]
  have := x.isLt
  omega
theorem xor64 (x y : BitVec 32) : bits .xor .u64 (x.toNat : Int) (y.toNat : Int) = (((x ^^^ y).toNat : Nat) : Int) := by
  show IntKind.u64.wrap (((BitVec.ofInt 64 _ ^^^ BitVec.ofInt 64 _).toNat : Nat) : Int) = _
  rw [BitVec.toNat_xor, ofInt64_32, ofInt64_32, ← BitVec.toNat_xor]
  exact wrap_u64 _ (Nat.lt_trans (x ^^^ y).isLt (by decide))

theorem poly_val64 (x : BitVec 32) : bits .xor .u64 (x.toNat : Int) 79764919 = (((x ^^^ 79764919#32).toNat : Nat) : Int) := xor64 x 79764919#32
theorem msb_lt (x : BitVec 32) (h : x.msb = false) : x.toNat < 2147483648 := by
  rw [msb_iff] at h
  have := of_decide_eq_false h
  omega
theorem msb_ge (x : BitVec 32) (h : x.msb = true) : 2147483648 ≤ x.toNat := by
  rw [msb_iff] at h
  exact of_decide_eq_true h
theorem shl_low (x : BitVec 32) (h : x.toNat < 2147483648) : (x.toNat : Int) * (2 : Int) = (((x <<< 1).toNat : Nat) : Int) := by
  rw [BitVec.toNat_shiftLeft, Nat.shiftLeft_eq]
  omega
theorem shl_high (x : BitVec 32) (h : 2147483648 ≤ x.toNat) : (x.toNat : Int) * (2 : Int) - (4294967296 : Int) = (((x <<< 1).toNat : Nat) : Int) := by
  rw [BitVec.toNat_shiftLeft, Nat.shiftLeft_eq]
  have := x.isLt
  omega

theorem steps_succ (k : Nat) (x : BitVec 32) : steps (k + 1) x = step (steps k x) := rfl
theorem crcFrom_snoc (x : BitVec 32) (l : List Nat) (c : Nat) : crcFrom x (l ++ [c]) = byteStep (crcFrom x l) c := by simp [crcFrom]
theorem crc_take (l : List Nat) (k : Nat) (h : k < l.length) : crc (l.take (k + 1)) = byteStep (crc (l.take k)) (l[k]?.getD 0) := by
  rw [List.take_add_one, List.getElem?_eq_getElem h]
  exact crcFrom_snoc _ _ _

end Go.Proofs.YtaablbmgagiajabGreatDoor
