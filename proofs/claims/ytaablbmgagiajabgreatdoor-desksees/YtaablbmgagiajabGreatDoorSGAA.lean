import Derived.Test.YtaablbmgagiajabGreatDoorSBits
import Derived.Test.YtaablbmgagiajabGreatDoorSLeaf
import Derived.Test.YtaablbmgagiajabGreatDoorSCoreF
import Derived.Laws.StructEq
import Derived.ChangeKeysEq
import Derived.Deep.MidRow
import Derived.Deep.OwnRows
import Derived.OwnWalk
import Derived.Laws.OwnMore
import Derived.Deep.AppendLies
import Derived.Deep.Upon
import Derived.Test.YtaablbmgagiajabGreatDoorSCoreStep
import Derived.Great.BuildSlice
namespace Go.Proofs.YtaablbmgagiajabGreatDoor
open Go.RowKit
def step (x : BitVec 32) : BitVec 32 := if x.msb then (x <<< 1) ^^^ 79764919#32 else x <<< 1
def steps : Nat → BitVec 32 → BitVec 32
  | 0, x => x
  | k + 1, x => step (steps k x)
def lift (c : Nat) : BitVec 32 := BitVec.ofNat 32 (c * 16777216)
def byteStep (x : BitVec 32) (c : Nat) : BitVec 32 := steps 8 (x ^^^ lift c)
def crcFrom (x : BitVec 32) (l : List Nat) : BitVec 32 := l.foldl byteStep x
def crc (l : List Nat) : BitVec 32 := crcFrom 4294967295#32 l
theorem msb_iff (x : BitVec 32) : x.msb = decide (2147483648 ≤ x.toNat) := by
  rw [BitVec.msb_eq_decide]
theorem ofInt32 (x : BitVec 32) : BitVec.ofInt 32 (x.toNat : Int) = x := by
  apply BitVec.eq_of_toNat_eq
  rw [BitVec.toNat_ofInt]
  have := x.isLt
  omega
theorem wrap_u32 (n : Nat) (h : n < 4294967296) : IntKind.u32.wrap (n : Int) = n := by
  simp [IntKind.wrap, IntKind.bits, IntKind.signed]
  omega
theorem xor32 (x y : BitVec 32) : bits .xor .u32 (x.toNat : Int) (y.toNat : Int) = (((x ^^^ y).toNat : Nat) : Int) := by
  show IntKind.u32.wrap (((BitVec.ofInt 32 _ ^^^ BitVec.ofInt 32 _).toNat : Nat) : Int) = _
  rw [ofInt32, ofInt32]
  exact wrap_u32 _ (x ^^^ y).isLt
theorem lift_val (c : Nat) (h : c < 256) : (lift c).toNat = c * 16777216 := by
  unfold lift; rw [BitVec.toNat_ofNat]; omega
theorem shl1_val (x : BitVec 32) : (x.toNat : Int) * (2 : Int) % (4294967296 : Int) = (((x <<< 1).toNat : Nat) : Int) := by
  rw [BitVec.toNat_shiftLeft, Nat.shiftLeft_eq]
  simp
theorem shl1_val' (x : BitVec 32) : (x.toNat : Int) <<< (1 : Nat) % (4294967296 : Int) = (((x <<< 1).toNat : Nat) : Int) := by
  rw [Int.shiftLeft_eq]
  exact shl1_val x
theorem top_val (x : BitVec 32) : ((x.toNat : Int) / 2147483648 == 1) = x.msb := by
  have := x.isLt
  rw [msb_iff, Bool.eq_iff_iff, decide_eq_true_iff, beq_iff_eq]
  omega
theorem step_one (x : BitVec 32) (h : x.msb = true) : step x = (x <<< 1) ^^^ 79764919#32 := by unfold step; rw [if_pos h]
theorem step_zero (x : BitVec 32) (h : x.msb = false) : step x = x <<< 1 := by unfold step; simp [h]
theorem poly_val (x : BitVec 32) : bits .xor .u32 (x.toNat : Int) 79764919 = (((x ^^^ 79764919#32).toNat : Nat) : Int) := xor32 x 79764919#32
theorem steps_succ (k : Nat) (x : BitVec 32) : steps (k + 1) x = step (steps k x) := rfl
theorem crcFrom_snoc (x : BitVec 32) (l : List Nat) (c : Nat) : crcFrom x (l ++ [c]) = byteStep (crcFrom x l) c := by simp [crcFrom]
theorem crc_take (l : List Nat) (k : Nat) (h : k < l.length) : crc (l.take (k + 1)) = byteStep (crc (l.take k)) (l[k]?.getD 0) := by
  rw [List.take_add_one, List.getElem?_eq_getElem h]
  exact crcFrom_snoc _ _ _
end Go.Proofs.YtaablbmgagiajabGreatDoor
namespace Go.Proofs.YtaablbmgagiajabGreatDoor
open Go.RowKit
def BRow (w : World) (b off : Nat) (l : List Nat) : Prop := ∀ k, k < l.length → w.cell? ⟨b, off + k, none⟩ = some (.int .u8 ((l[k]?.getD 0 : Nat) : Int))
theorem BRow.below {w wx : World} {b off B : Nat} {l : List Nat} (h : BRow w b off l) (hb : b < B) (hB : Below B w wx) : BRow wx b off l := fun k hk => (hB.cell (p := ⟨b, off + k, none⟩) hb).trans (h k hk)
def IsB (w : World) (a : Option Addr) (len cap : Nat) (l : List Nat) : Prop := l.length = len ∧ len ≤ cap ∧ (∀ c ∈ l, c < 256) ∧ (l = [] ∨ ∃ b off, a = some ⟨b, off, none⟩ ∧ b < w.heap.size ∧ BRow w b off l)
theorem IsB.below {w wx : World} {a : Option Addr} {len cap : Nat} {l : List Nat} (h : IsB w a len cap l) (hB : Below w.heap.size w wx) : IsB wx a len cap l := by
  obtain ⟨h1, h2, h3, h4⟩ := h
  refine ⟨h1, h2, h3, ?_⟩
  rcases h4 with h4 | ⟨b, off, e, hb, hr⟩
  · exact .inl h4
  · exact .inr ⟨b, off, e, Nat.lt_of_lt_of_le hb hB.size, hr.below hb hB⟩
theorem IsB.at {w : World} {a : Option Addr} {len cap : Nat} {l : List Nat} (h : IsB w a len cap l) {k : Nat} (hk : k < len) : ∃ b off c : Nat, a = some ⟨b, off, none⟩ ∧ b < w.heap.size ∧ c < 256 ∧ Hid (l[k]?.getD 0 = c) ∧ w.cell? ⟨b, off + k, none⟩ = some (.int .u8 (c : Int)) := by
  obtain ⟨h1, h2, h3, h4⟩ := h
  have hk' : k < l.length := by omega
  rcases h4 with h4 | ⟨b, off, e, hb, hr⟩
  · subst h4; simp at hk'
  · refine ⟨b, off, _, e, hb, ?_, rfl, hr k hk'⟩
    rw [List.getElem?_eq_getElem hk']
    exact h3 _ (List.getElem_mem hk')
set_option maxHeartbeats 1000000 in
theorem sum_any (a : Option Addr) (len cap : Nat) (l : List Nat) (w : World) (hl : len ≤ 1000) (h : IsB w a len cap l) :
    Calls Tryz.prog 136 #[.slice a len cap] w fun e w' => e = .returned (.int .u32 (((crc l).toNat : Nat) : Int)) ∧ w' = w := by
  have HX := hide h
  clear h
  go_enter Tryz.func136, Tryz.ntmps136
  go_wp2
  go_loop [3, 9] (fun n i => ∃ k : Nat, k ≤ len ∧ i = .int .i64 k ∧ n = .int .u32 (((crc (l.take k)).toNat : Nat) : Int)) (fun _ i => len - (intOf i).toNat)
  case atStart => exact ⟨0, Nat.zero_le _, rfl, rfl⟩
  case round =>
    obtain ⟨k, hk, rfl, rfl⟩ := hrel
    by_cases hlt : k < len
    · obtain ⟨b, off, c, rfl, hb, hc, hcc, hcell⟩ := HX.out.at hlt
      obtain ⟨x, hx⟩ : ∃ x, Hid (crc (l.take k) = x) := ⟨_, hide rfl⟩
      rw [hx.out]
      obtain ⟨y, hy⟩ : ∃ y, Hid (x ^^^ lift c = y) := ⟨_, hide rfl⟩
      have hxy : bits BinOp.xor IntKind.u32 (x.toNat : Int) ((c : Int) * 16777216) = ((y.toNat : Nat) : Int) := by
        rw [← hy.out, ← xor32, lift_val c hc]; rfl
      go_wp2
      clear hxy hcell
      go_loop [3, 18] (fun n i => ∃ j : Nat, j ≤ 8 ∧ i = .int .i64 j ∧ n = .int .u32 (((steps j y).toNat : Nat) : Int)) (fun _ i => 8 - (intOf i).toNat)
      case atStart => exact ⟨0, Nat.zero_le _, rfl, rfl⟩
      case round =>
        obtain ⟨j, hj, rfl, rfl⟩ := hrel
        by_cases hlj : j < 8
        · obtain ⟨z, hz⟩ : ∃ z, Hid (steps j y = z) := ⟨_, hide rfl⟩
          rw [hz.out]
          have HA := hide (shl1_val z)
          have HB := hide (shl1_val' z)
          have ht := top_val z
          cases hm : z.msb
          · have hst := step_zero z hm
            rw [hm] at ht
            have HS := hide hst
            clear hst hm
            go_wp2
            go_round
            case rel => exact ⟨j + 1, by omega, by go_num, by rw [steps_succ, hz.out, HS.out]; first | rw [HA.out] | rw [HB.out]⟩
            case measure => simp [intOf]; omega
          · have hst := step_one z hm
            have hp := poly_val (z <<< 1)
            rw [hm] at ht
            rw [← hst] at hp
            have HP := hide hp
            clear hst hp hm
            go_wp2
            go_round
            case rel => exact ⟨j + 1, by omega, by go_num, by rw [steps_succ, hz.out]; first | rw [HA.out, HP.out] | rw [HB.out, HP.out]⟩
            case measure => simp [intOf]; omega
        · have hj8 : j = 8 := by omega
          subst hj8
          go_wp2
          go_round
          case rel => exact ⟨k + 1, by omega, by go_num, by rw [crc_take l k (by have := HX.out.1; omega), hcc.out, hx.out, byteStep, hy.out]⟩
          case measure => simp [intOf]; omega
    · go_wp2
      go_ret
      exact ⟨ret_int (by rw [List.take_of_length_le (by have := HX.out.1; omega)]), rfl⟩
end Go.Proofs.YtaablbmgagiajabGreatDoor
namespace Go.Proofs.YtaablbmgagiajabGreatDoor
def stNums (F : Nat → Int) : Nat → List Int
  | 0 => []
  | k + 1 => stNums F k ++ [F (7 + k), F (15 + k)]
theorem stNums_length (F : Nat → Int) (k : Nat) : (stNums F k).length = 2 * k := by
  induction k with
  | zero => rfl
  | succ k ih => unfold stNums; rw [List.length_append, ih]; simp; omega
def numsF (F : Nat → Int) : List Int :=
  if F 0 = 1 then [F 0, F 1, F 2, F 3, F 4]
  else if F 0 = 2 ∨ F 0 = 3 then [F 0, F 1, F 2, F 3, F 4, F 5]
  else if F 0 = 5 then [F 0, F 1, F 2, F 6] ++ stNums F 8
  else [F 0, F 1, F 2]
theorem nums_one {F : Nat → Int} (h : F 0 = 1) : numsF F = [F 0, F 1, F 2, F 3, F 4] := by unfold numsF; rw [if_pos h]
theorem nums_mid {F : Nat → Int} (h : F 0 = 2 ∨ F 0 = 3) : numsF F = [F 0, F 1, F 2, F 3, F 4, F 5] := by
  unfold numsF; rw [if_neg (by omega), if_pos h]
theorem nums_known {F : Nat → Int} (h : F 0 = 5) : numsF F = [F 0, F 1, F 2, F 6] ++ stNums F 8 := by
  unfold numsF; rw [if_neg (by omega), if_neg (by omega), if_pos h]
theorem nums_else {F : Nat → Int} (h1 : F 0 ≠ 1) (h2 : F 0 ≠ 2) (h3 : F 0 ≠ 3) (h5 : F 0 ≠ 5) : numsF F = [F 0, F 1, F 2] := by
  unfold numsF; rw [if_neg h1, if_neg (by omega), if_neg h5]
theorem nums_length_le (F : Nat → Int) : (numsF F).length ≤ 20 := by
  unfold numsF
  split
  · simp
  · split
    · simp
    · split
      · rw [List.length_append, stNums_length]; simp
      · simp
theorem nums_length_ge (F : Nat → Int) : 3 ≤ (numsF F).length := by
  unfold numsF
  split
  · simp
  · split
    · simp
    · split
      · rw [List.length_append, stNums_length]; simp
      · simp
def at0 (l : List Int) (k : Nat) : Int := l[k]?.getD 0
def startF (a b c : Int) : Nat → Int := fun k => if k = 0 then a else if k = 1 then b else if k = 2 then c else 0
def inF (a b c x y : Int) : Nat → Int := fun k => if k = 0 then a else if k = 1 then b else if k = 2 then c else if k = 3 then x else if k = 4 then y else 0
def votF (a b c x y z : Int) : Nat → Int := fun k => if k = 0 then a else if k = 1 then b else if k = 2 then c else if k = 3 then x else if k = 4 then y else if k = 5 then z else 0
def knownF (l : List Int) (n : Nat) : Nat → Int := fun k => if k < 3 then at0 l k else if k = 6 then at0 l 3 else if 7 ≤ k ∧ k < 7 + n then at0 l (4 + 2 * (k - 7)) else if 15 ≤ k ∧ k < 15 + n then at0 l (5 + 2 * (k - 15)) else 0
def framedF (l : List Int) : Nat → Int :=
  if at0 l 0 = 1 then inF (at0 l 0) (at0 l 1) (at0 l 2) (at0 l 3) (at0 l 4)
  else if at0 l 0 = 2 ∨ at0 l 0 = 3 then votF (at0 l 0) (at0 l 1) (at0 l 2) (at0 l 3) (at0 l 4) (at0 l 5)
  else if at0 l 0 = 5 then knownF l 8
  else startF (at0 l 0) (at0 l 1) (at0 l 2)
theorem framed_one {l : List Int} (h : at0 l 0 = 1) : framedF l = inF (at0 l 0) (at0 l 1) (at0 l 2) (at0 l 3) (at0 l 4) := by unfold framedF; rw [if_pos h]
theorem framed_mid {l : List Int} (h : at0 l 0 = 2 ∨ at0 l 0 = 3) : framedF l = votF (at0 l 0) (at0 l 1) (at0 l 2) (at0 l 3) (at0 l 4) (at0 l 5) := by
  unfold framedF; rw [if_neg (by omega), if_pos h]
theorem framed_known {l : List Int} (h : at0 l 0 = 5) : framedF l = knownF l 8 := by
  unfold framedF; rw [if_neg (by omega), if_neg (by omega), if_pos h]
theorem framed_else {l : List Int} (h1 : at0 l 0 ≠ 1) (h2 : at0 l 0 ≠ 2) (h3 : at0 l 0 ≠ 3) (h5 : at0 l 0 ≠ 5) : framedF l = startF (at0 l 0) (at0 l 1) (at0 l 2) := by
  unfold framedF; rw [if_neg h1, if_neg (by omega), if_neg h5]
theorem startF_in (a b c x y : Int) : upd (upd (startF a b c) 3 x) 4 y = inF a b c x y := by
  funext k
  unfold upd startF inF
  rcases (by omega : k = 0 ∨ k = 1 ∨ k = 2 ∨ k = 3 ∨ k = 4 ∨ 5 ≤ k) with rfl | rfl | rfl | rfl | rfl | h
  · rfl
  · rfl
  · rfl
  · rfl
  · rfl
  · rw [if_neg (by omega), if_neg (by omega), if_neg (by omega), if_neg (by omega), if_neg (by omega), if_neg (by omega), if_neg (by omega), if_neg (by omega), if_neg (by omega), if_neg (by omega)]
theorem inF_out (a b c x y z : Int) : upd (inF a b c x y) 5 z = votF a b c x y z := by
  funext k
  unfold upd inF votF
  rcases (by omega : k = 0 ∨ k = 1 ∨ k = 2 ∨ k = 3 ∨ k = 4 ∨ k = 5 ∨ 6 ≤ k) with rfl | rfl | rfl | rfl | rfl | rfl | h
  · rfl
  · rfl
  · rfl
  · rfl
  · rfl
  · rfl
  · rw [if_neg (by omega), if_neg (by omega), if_neg (by omega), if_neg (by omega), if_neg (by omega), if_neg (by omega), if_neg (by omega), if_neg (by omega), if_neg (by omega), if_neg (by omega), if_neg (by omega), if_neg (by omega)]
theorem known_start (l : List Int) : upd (startF (at0 l 0) (at0 l 1) (at0 l 2)) 6 (at0 l 3) = knownF l 0 := by
  funext k
  unfold upd startF knownF
  rcases (by omega : k = 0 ∨ k = 1 ∨ k = 2 ∨ k = 6 ∨ (3 ≤ k ∧ k ≠ 6)) with rfl | rfl | rfl | rfl | h
  · rfl
  · rfl
  · rfl
  · rfl
  · rw [if_neg (by omega), if_neg (by omega), if_neg (by omega), if_neg (by omega), if_neg (by omega), if_neg (by omega), if_neg (by omega), if_neg (by omega)]
theorem known_next (l : List Int) (n : Nat) (hn : n < 8) : upd (upd (knownF l n) (7 + n) (at0 l (4 + 2 * n))) (15 + n) (at0 l (5 + 2 * n)) = knownF l (n + 1) := by
  funext k
  unfold upd knownF
  by_cases h1 : k = 15 + n
  · subst h1
    rw [if_pos rfl, if_neg (by omega), if_neg (by omega), if_neg (by omega), if_pos (by omega), show 15 + n - 15 = n by omega]
  · rw [if_neg h1]
    by_cases h2 : k = 7 + n
    · subst h2
      rw [if_pos rfl, if_neg (by omega), if_neg (by omega), if_pos (by omega), show 7 + n - 7 = n by omega]
    · rw [if_neg h2]
      by_cases h3 : k < 3
      · rw [if_pos h3, if_pos h3]
      · rw [if_neg h3, if_neg h3]
        by_cases h4 : k = 6
        · rw [if_pos h4, if_pos h4]
        · rw [if_neg h4, if_neg h4]
          by_cases h5 : 7 ≤ k ∧ k < 7 + n
          · rw [if_pos h5, if_pos (show 7 ≤ k ∧ k < 7 + (n + 1) by omega)]
          · rw [if_neg h5, if_neg (show ¬ (7 ≤ k ∧ k < 7 + (n + 1)) by omega)]
            by_cases h6 : 15 ≤ k ∧ k < 15 + n
            · rw [if_pos h6, if_pos (show 15 ≤ k ∧ k < 15 + (n + 1) by omega)]
            · rw [if_neg h6, if_neg (show ¬ (15 ≤ k ∧ k < 15 + (n + 1)) by omega)]
def eqB (F G : Nat → Int) : Bool := (List.range 23).all fun k => F k == G k
theorem eqB_iff (F G : Nat → Int) : eqB F G = true ↔ ∀ k, k < 23 → F k = G k := by simp [eqB]
def headB (F : Nat → Int) : Bool := (decide (1 ≤ F 0) && decide (F 0 ≤ 5)) && (decide (0 ≤ F 1) && decide (F 1 ≤ 3))
def fitsB (n : Int) : Bool := decide (0 ≤ n) && decide (n ≤ 1048576)
def mayB (F : Nat → Int) : Bool := headB F && ((numsF F).all fitsB && eqB F (framedF (numsF F)))
theorem all_take_false {l : List Int} {k : Nat} (hk : k < l.length) (h : fitsB (l[k]?.getD 0) = false) : l.all fitsB = false := by
  rw [List.all_eq_false]
  exact ⟨l[k], List.getElem_mem hk, by rw [List.getElem?_eq_getElem hk] at h; simpa using h⟩
theorem all_take_next {l : List Int} {k : Nat} (hk : k < l.length) (h0 : (l.take k).all fitsB = true) (h : fitsB (l[k]?.getD 0) = true) : (l.take (k + 1)).all fitsB = true := by
  rw [List.take_add_one, List.getElem?_eq_getElem hk, List.all_append, h0]
  rw [List.getElem?_eq_getElem hk] at h
  simpa using h
end Go.Proofs.YtaablbmgagiajabGreatDoor
namespace Go.Proofs.YtaablbmgagiajabGreatDoor
open Go.RowKit Go.Deep
abbrev FR := Nat → Int
def fCells (F : FR) : Array Value := #[.int .i64 (F 0), .int .i64 (F 1), .int .i64 (F 2), .int .i64 (F 3), .int .i64 (F 4), .int .i64 (F 5), .int .i64 (F 6), .int .i64 (F 7), .int .i64 (F 8), .int .i64 (F 9), .int .i64 (F 10), .int .i64 (F 11), .int .i64 (F 12), .int .i64 (F 13), .int .i64 (F 14), .int .i64 (F 15), .int .i64 (F 16), .int .i64 (F 17), .int .i64 (F 18), .int .i64 (F 19), .int .i64 (F 20), .int .i64 (F 21), .int .i64 (F 22)]
def fr0 : FR := fun _ => 0
theorem fCells_size (F : FR) : (fCells F).size = 23 := rfl
theorem fCells_at (F : FR) (k : Nat) (h : k < 23) : (fCells F)[k]? = some (.int .i64 (F k)) := by
  match k, h with
  | 0, _ => rfl | 1, _ => rfl | 2, _ => rfl | 3, _ => rfl | 4, _ => rfl | 5, _ => rfl | 6, _ => rfl | 7, _ => rfl | 8, _ => rfl | 9, _ => rfl | 10, _ => rfl | 11, _ => rfl | 12, _ => rfl | 13, _ => rfl | 14, _ => rfl | 15, _ => rfl | 16, _ => rfl | 17, _ => rfl | 18, _ => rfl | 19, _ => rfl | 20, _ => rfl | 21, _ => rfl | 22, _ => rfl | n + 23, h => omega
theorem fCells_congr {F G : FR} (h : ∀ k, k < 23 → F k = G k) : fCells F = fCells G := by
  apply Array.ext_getElem?
  intro i
  by_cases hi : i < 23
  · rw [fCells_at F i hi, fCells_at G i hi, h i hi]
  · rw [Array.getElem?_eq_none (by rw [fCells_size]; omega), Array.getElem?_eq_none (by rw [fCells_size]; omega)]
theorem fCells_put (F : FR) (k : Nat) (v : Int) (h : k < 23) : (fCells F).setIfInBounds k (.int .i64 v) = fCells (upd F k v) := by
  apply Array.ext_getElem?
  intro i
  rw [Array.getElem?_setIfInBounds]
  by_cases hi : i < 23
  · rw [fCells_at (upd F k v) i hi, fCells_at F i hi, fCells_size]
    by_cases e : k = i
    · subst e; simp [upd, h]
    · rw [if_neg e, upd_other F v (fun h => e h.symm)]
  · rw [Array.getElem?_eq_none (by rw [fCells_size]; omega), Array.getElem?_eq_none (by rw [fCells_size]; omega)]
    rw [if_neg (by omega)]
theorem fOne (F : FR) : (fCells F).all (·.oneCell') = true := by simp [fCells, Value.oneCell']
def FIs (w : World) (q t : Nat) (F : FR) : Prop := w.heap[q]? = some (.cells (fCells F) t (0, 0))
theorem FIs.at {w : World} {q t : Nat} {F : FR} (h : FIs w q t F) {k : Nat} (hk : k < 23) : w.cell? ⟨q, k, none⟩ = some (.int .i64 (F k)) := (blk_cell h k).trans (fCells_at F k hk)
theorem FIs.free {w : World} {q t : Nat} {F : FR} (h : FIs w q t F) (k : Nat) : w.frozen? ⟨q, k, none⟩ = false := blk_free h k
theorem FIs.lt {w : World} {q t : Nat} {F : FR} (h : FIs w q t F) : q < w.heap.size := blk_lt h
theorem FIs.below {w wx : World} {q t B : Nat} {F : FR} (h : FIs w q t F) (hq : q < B) (hB : Below B w wx) : FIs wx q t F := (hB.block q hq).trans h
theorem FIs.put {w : World} {q t : Nat} {F : FR} (h : FIs w q t F) {k : Nat} (hk : k < 23) (v : Int) : FIs (w.setCell ⟨q, k, none⟩ (.int .i64 v)) q t (upd F k v) := (blk_set h _ _).trans (by rw [fCells_put F k v hk])
theorem FIs.row {w : World} {q t : Nat} {F : FR} (h : FIs w q t F) (G : FR) : FIs (w.setRow q (fCells G)) q t G := setRow_heap w q _ _ _ _ h
theorem row_otherF (w : World) (g k : Nat) (cs : Array Value) (h : k ≠ g) : (w.setRow g cs).heap[k]? = w.heap[k]? := by
  simp only [World.setRow]
  rw [Array.getElem?_modify, if_neg (fun e => h e.symm)]
theorem below_rowF {B : Nat} {a w : World} (h : Below B a w) {g : Nat} (hg : B ≤ g) (cs : Array Value) : Below B a (w.setRow g cs) :=
  h.trans ⟨rfl, rfl, rfl, by simp [World.setRow], fun k hk => row_otherF _ _ _ _ (by omega)⟩
theorem infoFrame : (Tryz.prog.info? 36).map (·.size) = some 23 := by kernel_rfl
section
variable {ops : Array Oper} {rest : List Oper} {op : Oper} {a : Act} {w : World} {Q : Exit → Act → World → Prop}
theorem wpList_load_f (hgd : op.guard = none) (x : Operand) (ho : op.op = .load 36 x) (b : Nat) (hx : a.eval x = .pointer (some ⟨b, 0, none⟩)) (F : FR) (hS : FIs w b 36 F)
    (h : wpList Tryz.prog ops Q rest (a.put op.dst (.agg (fCells F))) w) : wpList Tryz.prog ops Q (op :: rest) a w :=
  wpList_plain hgd fun _ hK => wp_load_row _ x ho b hx _ _ _ _ hS Tryz.underlying36 rfl (by rw [infoFrame]; rfl) (hK _ _ h)
theorem wpList_store_f (hgd : op.guard = none) (x y : Operand) (ho : op.op = .store 36 x y) (b : Nat) (G : FR) (hx : a.eval x = .pointer (some ⟨b, 0, none⟩)) (hy : a.eval y = .agg (fCells G)) (F : FR) (hS : FIs w b 36 F)
    (h : wpList Tryz.prog ops Q rest (a.put op.dst undef) (w.setRow b (fCells G))) : wpList Tryz.prog ops Q (op :: rest) a w :=
  wpList_plain hgd fun _ hK => wp_store_row _ x y ho b _ hx hy _ _ hS (by rw [infoFrame]; rfl) rfl (fOne G) (hK _ _ h)
theorem wpList_store_fl (hgd : op.guard = none) (x y : Operand) (ho : op.op = .store 36 x y) (b : Nat) (G : FR) (hx : a.eval x = .pointer (some ⟨b, 0, none⟩)) (hy : a.eval y = .agg (fCells G)) (F : FR) (hS : FIs w b 36 F)
    (h : ∀ w', Hid (FIs w' b 36 G ∧ (∀ k, k ≠ b → w'.heap[k]? = w.heap[k]?) ∧ (∀ B, B ≤ b → Below B w w')) → wpList Tryz.prog ops Q rest (a.put op.dst undef) w') : wpList Tryz.prog ops Q (op :: rest) a w :=
  wpList_store_f hgd x y ho b G hx hy F hS (h _ ⟨hS.row G, fun _ hk => row_otherF _ _ _ _ hk, fun _ hB => below_rowF (Below.refl _ _) hB _⟩)
end
theorem load_f {w : World} {q : Nat} {F : FR} (h : FIs w q 36 F) : (loadVar 36 ⟨q, 0, none⟩).run Tryz.prog w = .ok (.agg (fCells F)) w :=
  run_loadVar_row (P := Tryz.prog) _ _ _ 36 _ _ _ h Tryz.underlying36 rfl (by rw [infoFrame]; rfl)
theorem infoIntF : (Tryz.prog.info? 3).map (fun i => (i.zero, i.size, i.bytes)) = some (some (.int .i64 0), 1, 8) := by kernel_rfl
theorem eqInt (w : World) (d : Nat) (a b : Int) : (Op.equalIn (d + 1) 3 (.int .i64 a) (.int .i64 b)).run Tryz.prog w = .ok (a == b) w := by
  simp [Op.equalIn, run_underlying Tryz.underlying3]
theorem partInt (w : World) (xs : Array Value) (k : Nat) (v : Value) (h : xs[k]? = some v) : (part 3 xs k).run Tryz.prog w = .ok v w := by
  simp [part, isAgg, run_underlying Tryz.underlying3, h]
theorem eqIts (w : World) (d : Nat) (xs ys : Array Value) (f g : Nat → Int) : ∀ is : List Nat, (∀ i ∈ is, xs[i]? = some (.int .i64 (f i)) ∧ ys[i]? = some (.int .i64 (g i))) → (Op.eqItems (d + 1) 3 1 xs ys is).run Tryz.prog w = .ok (is.all fun i => f i == g i) w
  | [], _ => by simp [Op.eqItems]
  | i :: is, h => by
    obtain ⟨ha, hb⟩ := h i (by simp)
    have ih := eqIts w d xs ys f g is fun j hj => h j (by simp [hj])
    simp only [Op.eqItems, Sem.run_bind, Nat.mul_one, partInt w xs i _ ha, partInt w ys i _ hb, Result.andThen_ok, eqInt, List.all_cons]
    cases f i == g i
    · simp
    · simpa using ih
theorem eqInts (w : World) (d : Nat) (xs ys : Array Value) (f g : Nat → Int) (h : ∀ i, i < 8 → xs[i]? = some (.int .i64 (f i)) ∧ ys[i]? = some (.int .i64 (g i))) : (Op.equalIn (d + 1 + 1) 32 (.agg xs) (.agg ys)).run Tryz.prog w = .ok ((List.range 8).all fun i => f i == g i) w := by
  obtain ⟨i0, hi, hz0, hz1, hz2⟩ := info_parts infoIntF
  rw [run_equalIn_array w (d + 1) xs ys Tryz.underlying32 hi, show Tryz.prog.cellsOf 3 = 1 by kernel_rfl]
  exact eqIts w d xs ys f g _ fun i hi => h i (by simpa using hi)
theorem partInts (w : World) (xs : Array Value) (k : Nat) : (part 32 xs k).run Tryz.prog w = .ok (.agg (xs.extract k (k + 8))) w := by
  simp [part, isAgg, run_underlying Tryz.underlying32]
theorem fields3 : (Tryz.prog.fieldsOf 34).toList.map (fun f => (f.type, f.offset, f.name != "_")) = [(3, 0, true), (32, 1, true), (32, 9, true)] := by kernel_rfl
theorem fields2 : (Tryz.prog.fieldsOf 31).toList.map (fun f => (f.type, f.offset, f.name != "_")) = [(3, 0, true), (3, 1, true)] := by kernel_rfl
theorem fields6 : (Tryz.prog.fieldsOf 36).toList.map (fun f => (f.type, f.offset, f.name != "_")) = [(3, 0, true), (3, 1, true), (3, 2, true), (31, 3, true), (3, 5, true), (34, 6, true)] := by kernel_rfl
theorem two {α : Type} {l : List α} (h : l.length = 2) : ∃ a b, l = [a, b] := by
  match l, h with
  | [a, b], _ => exact ⟨a, b, rfl⟩
theorem three {α : Type} {l : List α} (h : l.length = 3) : ∃ a b c, l = [a, b, c] := by
  match l, h with
  | [a, b, c], _ => exact ⟨a, b, c, rfl⟩
theorem six {α : Type} {l : List α} (h : l.length = 6) : ∃ a b c d e f, l = [a, b, c, d, e, f] := by
  match l, h with
  | [a, b, c, d, e, f], _ => exact ⟨a, b, c, d, e, f, rfl⟩
theorem extract_at (xs : Array Value) (o n i : Nat) (v : Value) (hs : o + n ≤ xs.size) (hi : i < n) (h : xs[o + i]? = some v) : (xs.extract o (o + n))[i]? = some v := by
  rw [Array.getElem?_extract, if_pos (by omega)]
  exact h
theorem eqInput (w : World) (d : Nat) (xs ys : Array Value) (f g : Nat → Int) (h : ∀ i, i < 2 → xs[i]? = some (.int .i64 (f i)) ∧ ys[i]? = some (.int .i64 (g i))) :
    (Op.equalIn (d + 1 + 1) 31 (.agg xs) (.agg ys)).run Tryz.prog w = .ok (f 0 == g 0 && f 1 == g 1) w := by
  rw [run_equalIn_struct w _ _ _ _ (by kernel_rfl) (by kernel_rfl)]
  have hf := fields2
  generalize (Tryz.prog.fieldsOf 31).toList = fs at hf
  obtain ⟨f0, f1, rfl⟩ : ∃ f0 f1, fs = [f0, f1] := two (by simpa using congrArg List.length hf)
  simp only [List.map_cons, List.map_nil, List.cons.injEq, Prod.mk.injEq, and_true] at hf
  obtain ⟨⟨a1, a2, a3⟩, b1, b2, b3⟩ := hf
  have n0 : f0.name ≠ "_" := by simpa using a3
  have n1 : f1.name ≠ "_" := by simpa using b3
  obtain ⟨x0, y0⟩ := h 0 (by omega)
  obtain ⟨x1, y1⟩ := h 1 (by omega)
  simp only [Op.eqFields, n0, n1, ne_eq, not_false_eq_true, if_true, Sem.run_bind, a1, a2, b1, b2]
  simp only [partInt w xs 0 _ x0, partInt w ys 0 _ y0, Result.andThen_ok, eqInt]
  cases f 0 == g 0
  · simp
  · simp only [Bool.not_true, Bool.false_eq_true, if_false, Sem.run_bind, partInt w xs 1 _ x1, partInt w ys 1 _ y1, Result.andThen_ok, eqInt]
    cases f 1 == g 1
    · simp
    · simp
theorem eqState (w : World) (d : Nat) (xs ys : Array Value) (f g : Nat → Int) (hx : xs.size = 17) (hy : ys.size = 17) (h : ∀ i, i < 17 → xs[i]? = some (.int .i64 (f i)) ∧ ys[i]? = some (.int .i64 (g i))) :
    (Op.equalIn (d + 1 + 1 + 1) 34 (.agg xs) (.agg ys)).run Tryz.prog w = .ok (f 0 == g 0 && (((List.range 8).all fun i => f (1 + i) == g (1 + i)) && ((List.range 8).all fun i => f (9 + i) == g (9 + i)))) w := by
  rw [run_equalIn_struct w _ _ _ _ (by kernel_rfl) (by kernel_rfl)]
  have hf := fields3
  generalize (Tryz.prog.fieldsOf 34).toList = fs at hf
  obtain ⟨f0, f1, f2, rfl⟩ : ∃ f0 f1 f2, fs = [f0, f1, f2] := three (by simpa using congrArg List.length hf)
  simp only [List.map_cons, List.map_nil, List.cons.injEq, Prod.mk.injEq, and_true] at hf
  obtain ⟨⟨a1, a2, a3⟩, ⟨b1, b2, b3⟩, c1, c2, c3⟩ := hf
  have n0 : f0.name ≠ "_" := by simpa using a3
  have n1 : f1.name ≠ "_" := by simpa using b3
  have n2 : f2.name ≠ "_" := by simpa using c3
  obtain ⟨x0, y0⟩ := h 0 (by omega)
  have e1 : ∀ i, i < 8 → (xs.extract 1 (1 + 8))[i]? = some (.int .i64 (f (1 + i))) ∧ (ys.extract 1 (1 + 8))[i]? = some (.int .i64 (g (1 + i))) := fun i hi =>
    ⟨extract_at _ _ _ _ _ (by omega) hi (h (1 + i) (by omega)).1, extract_at _ _ _ _ _ (by omega) hi (h (1 + i) (by omega)).2⟩
  have e2 : ∀ i, i < 8 → (xs.extract 9 (9 + 8))[i]? = some (.int .i64 (f (9 + i))) ∧ (ys.extract 9 (9 + 8))[i]? = some (.int .i64 (g (9 + i))) := fun i hi =>
    ⟨extract_at _ _ _ _ _ (by omega) hi (h (9 + i) (by omega)).1, extract_at _ _ _ _ _ (by omega) hi (h (9 + i) (by omega)).2⟩
  have q1 := eqInts w d _ _ _ _ e1
  have q2 := eqInts w d _ _ _ _ e2
  simp only [Op.eqFields, n0, n1, n2, ne_eq, not_false_eq_true, if_true, Sem.run_bind, a1, a2, b1, b2, c1, c2]
  simp only [partInt w xs 0 _ x0, partInt w ys 0 _ y0, Result.andThen_ok, eqInt]
  cases f 0 == g 0
  · simp
  · simp only [Bool.not_true, Bool.false_eq_true, if_false, Sem.run_bind, partInts, Result.andThen_ok, q1]
    cases ((List.range 8).all fun i => f (1 + i) == g (1 + i))
    · simp
    · simp only [Bool.not_true, Bool.false_eq_true, if_false, Sem.run_bind, partInts, Result.andThen_ok, q2]
      cases ((List.range 8).all fun i => f (9 + i) == g (9 + i))
      · simp
      · simp
theorem partInput (w : World) (xs : Array Value) (k : Nat) : (part 31 xs k).run Tryz.prog w = .ok (.agg (xs.extract k (k + 2))) w := by
  simp [part, isAgg, run_underlying Tryz.underlying31]
theorem partState (w : World) (xs : Array Value) (k : Nat) : (part 34 xs k).run Tryz.prog w = .ok (.agg (xs.extract k (k + 17))) w := by
  simp [part, isAgg, run_underlying Tryz.underlying34]
def eqC (F G : FR) : Bool := F 0 == G 0 && (F 1 == G 1 && (F 2 == G 2 && ((F 3 == G 3 && F 4 == G 4) && (F 5 == G 5 && (F 6 == G 6 && (((List.range 8).all fun i => F (6 + (1 + i)) == G (6 + (1 + i))) && ((List.range 8).all fun i => F (6 + (9 + i)) == G (6 + (9 + i)))))))))
theorem eqC_eq (F G : FR) : eqC F G = eqB F G := by
  rw [Bool.eq_iff_iff, eqB_iff]
  unfold eqC
  simp only [Bool.and_eq_true, beq_iff_eq, List.all_eq_true, List.mem_range]
  constructor
  · rintro ⟨h0, h1, h2, ⟨h3, h4⟩, h5, h6, h7, h8⟩ k hk
    rcases (by omega : k = 0 ∨ k = 1 ∨ k = 2 ∨ k = 3 ∨ k = 4 ∨ k = 5 ∨ k = 6 ∨ (7 ≤ k ∧ k < 15) ∨ 15 ≤ k) with rfl | rfl | rfl | rfl | rfl | rfl | rfl | h | h
    · exact h0
    · exact h1
    · exact h2
    · exact h3
    · exact h4
    · exact h5
    · exact h6
    · have := h7 (k - 7) (by omega)
      rwa [show 6 + (1 + (k - 7)) = k by omega] at this
    · have := h8 (k - 15) (by omega)
      rwa [show 6 + (9 + (k - 15)) = k by omega] at this
  · intro h
    exact ⟨h 0 (by omega), h 1 (by omega), h 2 (by omega), ⟨h 3 (by omega), h 4 (by omega)⟩, h 5 (by omega), h 6 (by omega), fun i hi => h _ (by omega), fun i hi => h _ (by omega)⟩
theorem eqF_cons (w : World) (d : Nat) (xs ys : Array Value) (f : Field) (fs : List Field) (hn : f.name ≠ "_") {v u : Value} {b c : Bool} (hx : (part f.type xs f.offset).run Tryz.prog w = .ok v w) (hy : (part f.type ys f.offset).run Tryz.prog w = .ok u w)
    (he : (Op.equalIn d f.type v u).run Tryz.prog w = .ok b w) (hr : (Op.eqFields d xs ys fs).run Tryz.prog w = .ok c w) : (Op.eqFields d xs ys (f :: fs)).run Tryz.prog w = .ok (b && c) w := by
  simp only [Op.eqFields, hn, ne_eq, not_false_eq_true, if_true, Sem.run_bind, hx, hy, Result.andThen_ok, he]
  cases b
  · simp
  · simpa using hr
theorem eqFields6 (w : World) (d : Nat) (F G : FR) (fs : List Field) (hf : fs.map (fun f => (f.type, f.offset, f.name != "_")) = [(3, 0, true), (3, 1, true), (3, 2, true), (31, 3, true), (3, 5, true), (34, 6, true)]) :
    (Op.eqFields (d + 1 + 1 + 1) (fCells F) (fCells G) fs).run Tryz.prog w = .ok (eqC F G) w := by
  obtain ⟨f0, f1, f2, f3, f4, f5, rfl⟩ : ∃ a b c d e f, fs = [a, b, c, d, e, f] := six (by simpa using congrArg List.length hf)
  simp only [List.map_cons, List.map_nil, List.cons.injEq, Prod.mk.injEq, and_true] at hf
  obtain ⟨⟨a1, a2, a3⟩, ⟨b1, b2, b3⟩, ⟨c1, c2, c3⟩, ⟨d1, d2, d3⟩, ⟨e1, e2, e3⟩, g1, g2, g3⟩ := hf
  have n0 : f0.name ≠ "_" := by simpa using a3
  have n1 : f1.name ≠ "_" := by simpa using b3
  have n2 : f2.name ≠ "_" := by simpa using c3
  have n3 : f3.name ≠ "_" := by simpa using d3
  have n4 : f4.name ≠ "_" := by simpa using e3
  have n5 : f5.name ≠ "_" := by simpa using g3
  have q3 := eqInput w (d + 1) ((fCells F).extract 3 (3 + 2)) ((fCells G).extract 3 (3 + 2)) (fun i => F (3 + i)) (fun i => G (3 + i)) (fun i hi =>
    ⟨extract_at _ _ _ _ _ (by rw [fCells_size]; omega) hi (fCells_at F _ (by omega)), extract_at _ _ _ _ _ (by rw [fCells_size]; omega) hi (fCells_at G _ (by omega))⟩)
  have q5 := eqState w d ((fCells F).extract 6 (6 + 17)) ((fCells G).extract 6 (6 + 17)) (fun i => F (6 + i)) (fun i => G (6 + i)) (by rw [Array.size_extract, fCells_size]; decide) (by rw [Array.size_extract, fCells_size]; decide) (fun i hi =>
    ⟨extract_at _ _ _ _ _ (by rw [fCells_size]; omega) hi (fCells_at F _ (by omega)), extract_at _ _ _ _ _ (by rw [fCells_size]; omega) hi (fCells_at G _ (by omega))⟩)
  unfold eqC
  refine eqF_cons w _ _ _ f0 _ n0 (v := .int .i64 (F 0)) (u := .int .i64 (G 0)) (by rw [a1, a2]; exact partInt w _ 0 _ (fCells_at F 0 (by omega))) (by rw [a1, a2]; exact partInt w _ 0 _ (fCells_at G 0 (by omega))) (by rw [a1]; exact eqInt w _ _ _) ?_
  refine eqF_cons w _ _ _ f1 _ n1 (v := .int .i64 (F 1)) (u := .int .i64 (G 1)) (by rw [b1, b2]; exact partInt w _ 1 _ (fCells_at F 1 (by omega))) (by rw [b1, b2]; exact partInt w _ 1 _ (fCells_at G 1 (by omega))) (by rw [b1]; exact eqInt w _ _ _) ?_
  refine eqF_cons w _ _ _ f2 _ n2 (v := .int .i64 (F 2)) (u := .int .i64 (G 2)) (by rw [c1, c2]; exact partInt w _ 2 _ (fCells_at F 2 (by omega))) (by rw [c1, c2]; exact partInt w _ 2 _ (fCells_at G 2 (by omega))) (by rw [c1]; exact eqInt w _ _ _) ?_
  refine eqF_cons w _ _ _ f3 _ n3 (by rw [d1, d2]; exact partInput w _ 3) (by rw [d1, d2]; exact partInput w _ 3) (by rw [d1]; exact q3) ?_
  refine eqF_cons w _ _ _ f4 _ n4 (v := .int .i64 (F 5)) (u := .int .i64 (G 5)) (by rw [e1, e2]; exact partInt w _ 5 _ (fCells_at F 5 (by omega))) (by rw [e1, e2]; exact partInt w _ 5 _ (fCells_at G 5 (by omega))) (by rw [e1]; exact eqInt w _ _ _) ?_
  have := eqF_cons w _ (fCells F) (fCells G) f5 [] n5 (by rw [g1, g2]; exact partState w _ 6) (by rw [g1, g2]; exact partState w _ 6) (by rw [g1]; exact q5) (c := true) (by simp [Op.eqFields])
  rw [Bool.and_true] at this
  exact this
theorem eqFrame (w : World) (F G : FR) : (Op.equalIn (9996 + 1 + 1 + 1 + 1) 36 (.agg (fCells F)) (.agg (fCells G))).run Tryz.prog w = .ok (eqB F G) w := by
  rw [run_equalIn_struct w _ _ _ _ (by kernel_rfl) (by kernel_rfl), eqFields6 w 9996 F G _ fields6, eqC_eq]
theorem eql_f (w : World) (F G : FR) : (binOp .eql 36 (.agg (fCells F)) (.agg (fCells G))).run Tryz.prog w = .ok (.bool (eqB F G)) w := by
  have h := eqFrame w F G
  simp only [binOp]
  simp [Op.equal, Op.maxDepth, h]
end Go.Proofs.YtaablbmgagiajabGreatDoor
namespace Go.Proofs.YtaablbmgagiajabGreatDoor
open Go.RowKit Go.Deep
structure Cm where
  c : Int
  v : Int
  o : Int
def cm0 : Cm := ⟨0, 0, 0⟩
structure VS where
  tr : List Cm
  b : Nat → Bool
  x : Nat → Cm
  left : Nat
  out : Nat
  lat : Bool
def vs0 (win : Nat) : VS := ⟨[], fun _ => false, fun _ => cm0, win, 0, false⟩
structure VOk (win : Nat) (S : VS) : Prop where
  w1 : 1 ≤ win
  w2 : win ≤ 20
  few : S.tr.length ≤ 1000
  full : S.tr.length = 1000 → S.lat = true
  out : S.out < 8
  left : S.left ≤ 20
  pos : S.lat = false → 1 ≤ S.left
theorem VOk.new {win : Nat} (h1 : 1 ≤ win) (h2 : win ≤ 20) : VOk win (vs0 win) := ⟨h1, h2, by simp [vs0], by simp [vs0], by simp [vs0], h2, fun _ => h1⟩
def eqIn (a d : Cm) : Bool := a.c == d.c && a.v == d.v
def eqCm (a d : Cm) : Bool := eqIn a d && a.o == d.o
theorem eqCm_iff {a d : Cm} : eqCm a d = true ↔ a = d := by
  cases a; cases d
  simp [eqCm, eqIn, and_assoc]
def likeB (b : Nat → Bool) (x : Nat → Cm) (d : Cm) (k : Nat) : Bool := b k && eqCm (x k) d
def agB (b : Nat → Bool) (x : Nat → Cm) (d : Cm) (k : Nat) : Bool := (b k && eqIn (x k) d) && (x k).o != d.o
def secTo (b : Nat → Bool) (x : Nat → Cm) (d : Cm) (r : Nat) : Nat → Bool
  | 0 => false
  | k + 1 => secTo b x d r k || (k != r && likeB b x d k)
def agTo (b : Nat → Bool) (x : Nat → Cm) (d : Cm) : Nat → Nat
  | 0 => 0
  | k + 1 => if agB b x d k then agTo b x d k ||| 2 ^ k else agTo b x d k
theorem agTo_lt (b : Nat → Bool) (x : Nat → Cm) (d : Cm) (k n : Nat) (h : k ≤ n) : agTo b x d k < 2 ^ n := by
  induction k with
  | zero => exact Nat.two_pow_pos n
  | succ k ih =>
    unfold agTo
    split
    · exact or_bit_lt (ih (by omega)) (by omega)
    · exact ih (by omega)
theorem agTo_bit (b : Nat → Bool) (x : Nat → Cm) (d : Cm) (n k : Nat) : (agTo b x d n).testBit k = (decide (k < n) && agB b x d k) := by
  induction n with
  | zero => simp [agTo]
  | succ n ih =>
    unfold agTo
    by_cases e : k = n
    · subst e
      split
      · rename_i h; rw [Nat.testBit_or, ih, two_bit, h]; simp
      · rename_i h; rw [ih]; simp [Bool.eq_false_iff.2 h]
    · have hd : decide (k < n + 1) = decide (k < n) := by rw [decide_eq_decide]; omega
      split
      · rw [Nat.testBit_or, ih, two_bit, decide_eq_false (by omega : ¬ n = k), hd]; simp
      · rw [ih, hd]
def doneF (k : Nat) (d : Cm) : FR := votF 3 3 (k : Int) d.c d.v d.o
def cmAt (l : List Cm) (k : Nat) : Cm := l[k]?.getD cm0
def pastF (l : List Cm) (k : Nat) : List FR := if k + 1 = l.length then [doneF k (cmAt l k)] else [doneF k (cmAt l k), doneF (l.length - 1) (cmAt l (l.length - 1))]
def kindB (F : FR) : Bool := F 0 == 2 || F 0 == 4
def fromB (F : FR) : Bool := decide (0 ≤ F 1) && decide (F 1 < 3)
def hearB (S : VS) (F : FR) : Bool := kindB F && (fromB F && (!S.out.testBit (F 1).toNat && decide (0 ≤ F 2)))
def outN (S : VS) (d : Cm) : Nat := S.out ||| agTo S.b S.x d 3
def commitS (win : Nat) (S : VS) (d : Cm) : VS := ⟨S.tr ++ [d], fun _ => false, fun _ => cm0, win, outN S d, decide (2 ≤ pop 8 (outN S d)) || decide (1000 ≤ S.tr.length + 1)⟩
def castS (S : VS) (k : Nat) (d : Cm) : VS := ⟨S.tr, upd S.b k true, upd S.x k d, S.left, S.out, S.lat⟩
def cmF (F : FR) : Cm := ⟨F 3, F 4, F 5⟩
def passB (S : VS) (F : FR) : Bool := (decide ((S.tr.length : Int) < F 2) || F 0 == 4) || S.lat
def takeF (win : Nat) (S : VS) (F : FR) : VS × List FR × Bool :=
  if hearB S F = false then (S, [], false)
  else if F 2 < S.tr.length then (S, pastF S.tr (F 2).toNat, false)
  else if passB S F = true then (S, [], false)
  else if secTo (castS S (F 1).toNat (cmF F)).b (castS S (F 1).toNat (cmF F)).x (cmF F) (F 1).toNat 3 = false then (castS S (F 1).toNat (cmF F), [], false)
  else (commitS win (castS S (F 1).toNat (cmF F)) (cmF F), [doneF S.tr.length (cmF F)], true)
def tickF (S : VS) : VS := if S.lat then S else ⟨S.tr, S.b, S.x, S.left - 1, S.out, S.left - 1 == 0⟩
def latchF (S : VS) : VS := ⟨S.tr, S.b, S.x, S.left, S.out, true⟩
def shownF (S : VS) : Int := if S.lat || S.tr.length == 0 then 0 else (cmAt S.tr (S.tr.length - 1)).o
theorem VOk.tick {win : Nat} {S : VS} (h : VOk win S) : VOk win (tickF S) := by
  unfold tickF
  split
  · exact h
  · rename_i hl
    have hl : S.lat = false := by simpa using hl
    have hp := h.pos hl
    have hf := h.left
    refine ⟨h.w1, h.w2, h.few, fun e => (by rw [h.full e] at hl; cases hl), h.out, ?_, fun e => ?_⟩
    · show S.left - 1 ≤ 20; omega
    · have : ¬ S.left - 1 = 0 := by simpa using e
      show 1 ≤ S.left - 1; omega
theorem VOk.cast {win : Nat} {S : VS} (h : VOk win S) (k : Nat) (d : Cm) : VOk win (castS S k d) := ⟨h.w1, h.w2, h.few, h.full, h.out, h.left, h.pos⟩
theorem outN_lt {win : Nat} {S : VS} (h : VOk win S) (d : Cm) : outN S d < 8 := Nat.or_lt_two_pow (n := 3) h.out (agTo_lt _ _ _ 3 3 (Nat.le_refl _))
theorem VOk.commit {win : Nat} {S : VS} (h : VOk win S) (hl : S.lat = false) (d : Cm) : VOk win (commitS win S d) := by
  have hf := h.few
  have hn : ¬ S.tr.length = 1000 := fun e => by rw [h.full e] at hl; cases hl
  refine ⟨h.w1, h.w2, ?_, ?_, outN_lt h d, h.w2, fun _ => h.w1⟩
  · show (S.tr ++ [d]).length ≤ 1000; simp; omega
  · intro e
    have : S.tr.length + 1 = 1000 := by simpa [commitS] using e
    show (decide _ || decide _) = true
    rw [this]; simp
theorem VOk.take {win : Nat} {S : VS} (h : VOk win S) (F : FR) : VOk win (takeF win S F).1 := by
  unfold takeF
  split
  · exact h
  · split
    · exact h
    · split
      · exact h
      · rename_i hp
        split
        · exact h.cast _ _
        · refine (h.cast _ _).commit ?_ _
          show S.lat = false
          unfold passB at hp
          cases hl : S.lat
          · rfl
          · rw [hl] at hp; simp at hp
end Go.Proofs.YtaablbmgagiajabGreatDoor
namespace Go.Proofs.YtaablbmgagiajabGreatDoor
open Go.RowKit Go.Deep
structure Mod (w w' : World) (T : Nat → Prop) : Prop where
  os : w'.os = w.os
  tape : w'.tape = w.tape
  output : w'.output = w.output
  size : w.heap.size ≤ w'.heap.size
  block : ∀ k, k < w.heap.size → ¬ T k → w'.heap[k]? = w.heap[k]?
theorem Mod.refl (w : World) (T : Nat → Prop) : Mod w w T := ⟨rfl, rfl, rfl, Nat.le_refl _, fun _ _ _ => rfl⟩
theorem Mod.then {w w1 w2 : World} {T U : Nat → Prop} (h : Mod w w1 T) (k : Mod w1 w2 U) (hU : ∀ i, i < w.heap.size → U i → T i) : Mod w w2 T :=
  ⟨k.os.trans h.os, k.tape.trans h.tape, k.output.trans h.output, Nat.le_trans h.size k.size, fun i hi ht => (k.block i (Nat.lt_of_lt_of_le hi h.size) (fun hu => ht (hU i hi hu))).trans (h.block i hi ht)⟩
theorem Mod.mono {w w1 : World} {T U : Nat → Prop} (h : Mod w w1 T) (hU : ∀ i, i < w.heap.size → T i → U i) : Mod w w1 U := ⟨h.os, h.tape, h.output, h.size, fun i hi hu => h.block i hi (fun ht => hu (hU i hi ht))⟩
theorem Mod.ofBelow {w w1 : World} (h : Below w.heap.size w w1) (T : Nat → Prop) : Mod w w1 T := ⟨h.os, h.tape, h.output, h.size, fun i hi _ => h.block i hi⟩
theorem Mod.below {w w1 w2 : World} {T : Nat → Prop} (h : Mod w w1 T) (k : Below w1.heap.size w1 w2) : Mod w w2 T := h.then (U := fun _ => False) (Mod.ofBelow k _) (fun _ _ hf => hf.elim)
theorem Mod.toBelow {w w1 : World} {T : Nat → Prop} {B : Nat} (h : Mod w w1 T) (hB : B ≤ w.heap.size) (hT : ∀ k, k < B → ¬ T k) : Below B w w1 := ⟨h.os, h.tape, h.output, h.size, fun k hk => h.block k (by omega) (hT k hk)⟩
theorem Mod.set {w w1 : World} {T : Nat → Prop} (h : Mod w w1 T) (a : Addr) (v : Value) (ha : a.block < w.heap.size → T a.block) : Mod w (w1.setCell a v) T :=
  ⟨h.os, h.tape, h.output, by simpa [World.setCell] using h.size, fun k hk ht => (Below.heap_setCell _ _ _ _ (fun e => ht (by subst e; exact ha hk))).trans (h.block k hk ht)⟩
theorem Mod.drewN {w w1 : World} {T : Nat → Prop} (h : Mod w w1 T) (n : Nat) : Mod w (w1.drewN n) T := ⟨h.os, h.tape, h.output, h.size, h.block⟩
theorem Mod.grown {w w1 w2 : World} {T : Nat → Prop} {row : Option Nat} (h : Mod w w1 T) (g : w1.grownBy w2 row) (hr : ∀ k, k < w.heap.size → row = some k → T k) : Mod w w2 T :=
  ⟨g.os.trans h.os, g.tape.trans h.tape, g.output.trans h.output, Nat.le_trans h.size g.size, fun i hi ht => (g.block i (Nat.lt_of_lt_of_le hi h.size) (fun e => ht (hr i hi e.symm))).trans (h.block i hi ht)⟩
def cmC (d : Cm) : List Value := [.int .i64 d.c, .int .i64 d.v, .int .i64 d.o]
def cmL : List Cm → List Value
  | [] => []
  | d :: r => cmC d ++ cmL r
theorem cmL_length (l : List Cm) : (cmL l).length = l.length * 3 := by
  induction l with
  | nil => rfl
  | cons d r ih => rw [cmL, List.length_append, ih]; simp [cmC]; omega
theorem cmL_append (l : List Cm) (d : Cm) : cmL (l ++ [d]) = cmL l ++ cmC d := by
  induction l with
  | nil => simp [cmL]
  | cons e r ih => rw [List.cons_append, cmL, cmL, ih, List.append_assoc]
theorem cmL_at (l : List Cm) (k : Nat) (hk : k < l.length) (j : Nat) (hj : j < 3) : (cmL l)[k * 3 + j]? = (cmC (cmAt l k))[j]? := by
  induction l generalizing k with
  | nil => simp at hk
  | cons d r ih =>
    cases k with
    | zero =>
      rw [cmL, List.getElem?_append_left (by simp [cmC]; omega), Nat.zero_mul, Nat.zero_add]
      rfl
    | succ k =>
      rw [cmL, List.getElem?_append_right (by simp [cmC]; omega), show (k + 1) * 3 + j - (cmC d).length = k * 3 + j by simp [cmC]; omega, ih k (by simpa using hk)]
      rfl
theorem cmL_one (l : List Cm) : ∀ u ∈ cmL l, u.oneCell' = true := by
  induction l with
  | nil => simp [cmL]
  | cons d r ih =>
    intro u hu
    rw [cmL, List.mem_append] at hu
    rcases hu with hu | hu
    · simp [cmC] at hu
      rcases hu with rfl | rfl | rfl <;> rfl
    · exact ih u hu
def vCells (tv : Value) (win : Nat) (S : VS) : Array Value := #[tv, .bool (S.b 0), .int .i64 (S.x 0).c, .int .i64 (S.x 0).v, .int .i64 (S.x 0).o, .bool (S.b 1), .int .i64 (S.x 1).c, .int .i64 (S.x 1).v, .int .i64 (S.x 1).o, .bool (S.b 2), .int .i64 (S.x 2).c, .int .i64 (S.x 2).v, .int .i64 (S.x 2).o, .int .i64 (win : Int), .int .i64 (S.left : Int), .int .i64 (S.out : Int), .bool S.lat]
def TIs (w : World) (N : Nat) (tv : Value) (l : List Cm) : Prop := w.ownsRow N 49 3 tv l.length (cmL l)
structure VIs (w : World) (N p win : Nat) (tv : Value) (S : VS) : Prop where
  blk : w.heap[p]? = some (.cells (vCells tv win S) 148 (0, 0))
  row : TIs w N tv S.tr
  np : N ≤ p
theorem TIs.shape {w : World} {N : Nat} {tv : Value} {l : List Cm} (h : TIs w N tv l) : ∃ a cap, tv = .slice a l.length cap := by
  rcases h.2 with ⟨rfl, h0⟩ | ⟨g, cap, cur, rfl, _⟩
  · exact ⟨none, 0, by rw [h0]⟩
  · exact ⟨_, _, rfl⟩
theorem TIs.has {w : World} {N : Nat} {tv : Value} {l : List Cm} (h : TIs w N tv l) (h0 : 0 < l.length) : ∃ g cap, tv = .slice (some ⟨g, 0, none⟩) l.length cap ∧ N ≤ g ∧ g < w.heap.size ∧ l.length ≤ cap := by
  rcases h.2 with ⟨rfl, h1⟩ | ⟨g, cap, cur, rfl, h1, h2, h3, _⟩
  · omega
  · exact ⟨g, cap, rfl, h1, blk_lt h2, h3⟩
theorem TIs.own {w : World} {N : Nat} {tv : Value} {l : List Cm} (h : TIs w N tv l) {g : Nat} (hg : tv.ownBlock = some g) : N ≤ g ∧ ∃ cur, w.heap[g]? = some (.cells cur 49 (0, 0)) := by
  rcases h.2 with ⟨rfl, h1⟩ | ⟨g', cap, cur, rfl, h1, h2, h3, _⟩
  · simp [Value.ownBlock] at hg
  · simp only [Value.ownBlock, Option.some.injEq] at hg
    subst hg
    exact ⟨h1, cur, h2⟩
theorem TIs.same {w w' : World} {N : Nat} {tv : Value} {l : List Cm} (h : TIs w N tv l) (hs : ∀ g, tv.ownBlock = some g → w'.heap[g]? = w.heap[g]?) : TIs w' N tv l := by
  obtain ⟨h1, h2⟩ := h
  refine ⟨h1, ?_⟩
  rcases h2 with h2 | ⟨g, cap, cur, rfl, h3, h4, h5⟩
  · exact .inl h2
  · exact .inr ⟨g, cap, cur, rfl, h3, (hs g rfl).trans h4, h5⟩
theorem TIs.range {w : World} {N : Nat} {l : List Cm} {g n cap : Nat} (h : TIs w N (.slice (some ⟨g, 0, none⟩) n cap) l) {k : Nat} (hk : k < l.length) : w.rangeAt g (k * 3) [.int .i64 (cmAt l k).c, .int .i64 (cmAt l k).v, .int .i64 (cmAt l k).o] := by
  intro j v hv
  have hj : j < 3 := by have := (List.getElem?_eq_some_iff.1 hv).1; simpa using this
  rcases h.2 with ⟨e, _⟩ | ⟨g', cap', cur, e, _, hg, _, _, _, ht⟩
  · simp at e
  · simp only [Value.slice.injEq, Option.some.injEq, Addr.mk.injEq, and_true] at e
    obtain ⟨rfl, _, _⟩ := e
    rw [blk_cell hg, ← Array.getElem?_toList]
    have e2 := cmL_at l k hk j hj
    rw [← ht, List.getElem?_take, if_pos (by omega)] at e2
    rw [e2]
    exact hv
theorem type_ne {w : World} {a b : Nat} {x y : Array Value} {s t : TypeId} {f g : Nat × Nat} (h1 : w.heap[a]? = some (.cells x s f)) (h2 : w.heap[b]? = some (.cells y t g)) (hst : s ≠ t) : a ≠ b := by
  intro e
  rw [e, h2] at h1
  injection h1 with h1
  injection h1 with _ h1
  exact hst h1.symm
theorem VIs.ne {w : World} {N p win : Nat} {tv : Value} {S : VS} (h : VIs w N p win tv S) : ∀ g, tv.ownBlock = some g → g ≠ p := fun g hg => by
  obtain ⟨_, cur, hc⟩ := h.row.own hg
  exact type_ne hc h.blk (by decide)
theorem VIs.at {w : World} {N p win : Nat} {tv : Value} {S : VS} (h : VIs w N p win tv S) (k : Nat) : w.cell? ⟨p, k, none⟩ = (vCells tv win S)[k]? := blk_cell h.blk k
theorem VIs.free {w : World} {N p win : Nat} {tv : Value} {S : VS} (h : VIs w N p win tv S) (k : Nat) : w.frozen? ⟨p, k, none⟩ = false := blk_free h.blk k
theorem VIs.lt {w : World} {N p win : Nat} {tv : Value} {S : VS} (h : VIs w N p win tv S) : p < w.heap.size := blk_lt h.blk
def VB (p : Nat) (tv : Value) (k : Nat) : Prop := k = p ∨ tv.ownBlock = some k
theorem VIs.move {w w' : World} {N p win : Nat} {tv : Value} {S : VS} (h : VIs w N p win tv S) {T : Nat → Prop} (hm : Mod w w' T) (hT : ∀ k, VB p tv k → ¬ T k) : VIs w' N p win tv S :=
  ⟨(hm.block p h.lt (hT p (.inl rfl))).trans h.blk, h.row.same fun g hg => hm.block g (by obtain ⟨_, _, hc⟩ := h.row.own hg; exact blk_lt hc) (hT g (.inr hg)), h.np⟩
theorem VIs.below {w w' : World} {N p win : Nat} {tv : Value} {S : VS} (h : VIs w N p win tv S) (hB : Below w.heap.size w w') : VIs w' N p win tv S := h.move (Mod.ofBelow hB (fun _ => False)) (fun _ _ hf => hf)
theorem VIs.drewN {w : World} {N p win : Nat} {tv : Value} {S : VS} (h : VIs w N p win tv S) (n : Nat) : VIs (w.drewN n) N p win tv S := ⟨h.blk, h.row, h.np⟩
theorem VIs.put {w : World} {N p win : Nat} {tv : Value} {S S' : VS} (h : VIs w N p win tv S) (i : Nat) (u : Value) (he : (vCells tv win S).setIfInBounds i u = vCells tv win S') (ht : S'.tr = S.tr) : VIs (w.setCell ⟨p, i, none⟩ u) N p win tv S' :=
  ⟨(blk_set h.blk i u).trans (by rw [he]), by rw [ht]; exact h.row.same fun g hg => Below.heap_setCell _ _ _ _ (h.ne g hg), h.np⟩
def Moved (w : World) (tv tv' : Value) : Prop := ∀ g, tv'.ownBlock = some g → tv.ownBlock = some g ∨ w.heap.size ≤ g
theorem Moved.refl (w : World) (tv : Value) : Moved w tv tv := fun _ h => .inl h
end Go.Proofs.YtaablbmgagiajabGreatDoor
namespace Go.Proofs.YtaablbmgagiajabGreatDoor
open Go.RowKit Go.Deep
def BIs (w : World) (p t n : Nat) (f : Nat → Value) : Prop := ∃ cs : Array Value, w.heap[p]? = some (.cells cs t (0, 0)) ∧ cs.size = n ∧ ∀ k, k < n → cs[k]? = some (f k)
section
variable {w w' : World} {p t n : Nat} {f g : Nat → Value}
theorem BIs.at (h : BIs w p t n f) {k : Nat} (hk : k < n) : w.cell? ⟨p, k, none⟩ = some (f k) := by
  obtain ⟨cs, h1, _, h3⟩ := h
  rw [blk_cell h1]
  exact h3 k hk
theorem BIs.free (h : BIs w p t n f) (k : Nat) : w.frozen? ⟨p, k, none⟩ = false := by
  obtain ⟨cs, h1, _⟩ := h
  exact blk_free h1 k
theorem BIs.lt (h : BIs w p t n f) : p < w.heap.size := by
  obtain ⟨cs, h1, _⟩ := h
  exact blk_lt h1
theorem BIs.same (h : BIs w p t n f) (hb : w'.heap[p]? = w.heap[p]?) : BIs w' p t n f := by
  obtain ⟨cs, h1, h2⟩ := h
  exact ⟨cs, hb.trans h1, h2⟩
theorem BIs.congr (h : BIs w p t n f) (e : ∀ k, k < n → f k = g k) : BIs w p t n g := by
  obtain ⟨cs, h1, h2, h3⟩ := h
  exact ⟨cs, h1, h2, fun k hk => by rw [h3 k hk, e k hk]⟩
theorem BIs.set (h : BIs w p t n f) {k : Nat} (hk : k < n) (v : Value) : BIs (w.setCell ⟨p, k, none⟩ v) p t n (upd f k v) := by
  obtain ⟨cs, h1, h2, h3⟩ := h
  refine ⟨_, blk_set h1 k v, by simpa using h2, fun j hj => ?_⟩
  rw [Array.getElem?_setIfInBounds]
  by_cases e : k = j
  · subst e; simp [h2, hk, upd_same]
  · rw [if_neg e, upd_other f v (fun h => e h.symm)]; exact h3 j hj
theorem BIs.sets : ∀ (vs : List Value) (o : Nat) (w : World) (f : Nat → Value), BIs w p t n f → o + vs.length ≤ n → BIs (w.setCells p o vs) p t n (fun k => if o ≤ k then (vs[k - o]?).getD (f k) else f k)
  | [], o, w, f, h, _ => h.congr fun k _ => by simp
  | v :: r, o, w, f, h, hl => by
    simp only [List.length_cons] at hl
    refine (BIs.sets r (o + 1) (w.setCell ⟨p, o, none⟩ v) (upd f o v) (h.set (by omega) v) (by omega)).congr fun k _ => ?_
    by_cases h1 : k < o
    · rw [if_neg (by omega), if_neg (by omega), upd_other _ _ (by omega)]
    · by_cases h2 : k = o
      · subst h2; rw [if_neg (by omega), if_pos (Nat.le_refl _)]; simp [upd_same]
      · rw [if_pos (by omega), if_pos (by omega), upd_other _ _ h2, show k - o = (k - (o + 1)) + 1 by omega, List.getElem?_cons_succ]
theorem BIs.range (h : BIs w p t n f) {o : Nat} {cs : List Value} (hl : o + cs.length ≤ n) (hc : ∀ j, j < cs.length → cs[j]? = some (f (o + j))) : w.rangeAt p o cs := by
  intro j v hv
  have hj : j < cs.length := (List.getElem?_eq_some_iff.1 hv).1
  rw [h.at (by omega), ← hc j hj, hv]
theorem BIs.there (h : BIs w p t n f) {o m : Nat} (hl : o + m ≤ n) : w.there p o m := fun j hj => ⟨by rw [h.at (by omega)]; rfl, h.free _⟩
end
structure Smp where
  there : Bool
  came : Int
  c : Nat
  v : Nat
def smp0 : Smp := ⟨false, 0, 0, 0⟩
def smpC (x : Smp) : List Value := [.bool x.there, .int .i64 x.came, .int .i64 (x.c : Int), .int .i64 (x.v : Int)]
structure RS where
  id : Nat
  cycle : Int
  ticks : Int
  ahead : Int
  st : St
  sx : Int
  sy : Int
  smp : Nat → Smp
  told : Nat → Nat → Int
def tlC (T : Nat → Int) : Array Value := #[.int .i64 (T 0), .int .i64 (T 1), .int .i64 (T 2), .int .i64 (T 3), .int .i64 (T 4), .int .i64 (T 5), .int .i64 (T 6), .int .i64 (T 7), .int .i64 (T 8), .int .i64 (T 9), .int .i64 (T 10), .int .i64 (T 11), .int .i64 (T 12), .int .i64 (T 13), .int .i64 (T 14), .int .i64 (T 15), .int .i64 (T 16), .int .i64 (T 17)]
theorem tlC_at (T : Nat → Int) (k : Nat) (h : k < 18) : (tlC T)[k]? = some (.int .i64 (T k)) := by
  match k, h with
  | 0, _ => rfl | 1, _ => rfl | 2, _ => rfl | 3, _ => rfl | 4, _ => rfl | 5, _ => rfl | 6, _ => rfl | 7, _ => rfl | 8, _ => rfl | 9, _ => rfl | 10, _ => rfl | 11, _ => rfl | 12, _ => rfl | 13, _ => rfl | 14, _ => rfl | 15, _ => rfl | 16, _ => rfl | 17, _ => rfl
  | _ + 18, h => exact absurd h (by omega)
structure RC where
  s : Nat
  d : Nat
  n : Nat
  zs : List Int
  pc : Nat
  g : Nat
  cg : Nat
  M : Nat
  g2 : Nat
  c2 : Nat
def rpF (C : RC) (R : RS) (k : Nat) : Value :=
  if k = 0 then .int .i64 (R.id : Int) else if k = 1 then .int .i64 (C.s : Int) else if k = 2 then .slice (some ⟨C.g2, 0, none⟩) C.n C.c2 else if k = 3 then .int .i64 (C.d : Int) else if k = 4 then .pointer (some ⟨C.pc, 0, none⟩)
  else if k = 5 then .int .i64 R.cycle else if k = 6 then .int .i64 R.ticks else if k = 7 then .int .i64 R.ahead
  else if k < 25 then ((stCells R.st)[k - 8]?).getD undef
  else if k = 25 then .int .i64 R.sx else if k = 26 then .int .i64 R.sy
  else if k < 39 then ((smpC (R.smp ((k - 27) / 4)))[(k - 27) % 4]?).getD undef
  else .int .i64 (R.told ((k - 39) / 18) ((k - 39) % 18))
structure RpIs (w : World) (p : Nat) (C : RC) (R : RS) : Prop where
  blk : BIs w p 160 93 (rpF C R)
  core : CoreIs w C.pc (C.s : Int) (C.d : Int) C.n C.zs C.g C.cg C.M
  row : Row w C.g2 0 C.zs
  lt2 : C.g2 < w.heap.size
  cap2 : C.n ≤ C.c2
  ap : p ≠ C.pc ∧ p ≠ C.g ∧ p ≠ C.M ∧ p ≠ C.g2
theorem CoreIs.blocks {w wx : World} {p : Nat} {s d : Int} {n : Nat} {zs : List Int} {g cg M : Nat} (h : CoreIs w p s d n zs g cg M) (hs : w.heap.size ≤ wx.heap.size) (hb : ∀ k, k = p ∨ k = g ∨ k = M → wx.heap[k]? = w.heap[k]?) : CoreIs wx p s d n zs g cg M :=
  ⟨(hb p (.inl rfl)).trans h.blk, h.len, h.cap, Nat.lt_of_lt_of_le h.glt hs, fun k hk => (World.cell?_of_block (w := w) (hb g (.inr (.inl rfl)))).trans (h.row k hk), h.con.of_block (hb M (.inr (.inr rfl))), h.ok⟩
section
variable {w w' : World} {p : Nat} {C : RC} {R R' : RS}
theorem RpIs.lt (h : RpIs w p C R) : p < w.heap.size := h.blk.lt
theorem RpIs.mod (h : RpIs w p C R) (hm : Mod w w' (· = p)) (hb : BIs w' p 160 93 (rpF C R')) : RpIs w' p C R' := by
  have e : ∀ k, k < w.heap.size → k ≠ p → w'.heap[k]? = w.heap[k]? := fun k hk hp => hm.block k hk hp
  obtain ⟨a1, a2, a3, a4⟩ := h.ap
  refine ⟨hb, h.core.blocks hm.size ?_, fun k hk => (World.cell?_of_block (w := w) (e _ h.lt2 (fun x => a4 x.symm))).trans (h.row k hk), Nat.lt_of_lt_of_le h.lt2 hm.size, h.cap2, h.ap⟩
  rintro k (rfl | rfl | rfl)
  · exact e _ h.core.plt (fun x => a1 x.symm)
  · exact e _ h.core.glt (fun x => a2 x.symm)
  · exact e _ h.core.mlt (fun x => a3 x.symm)
theorem RpIs.below (h : RpIs w p C R) (hB : Below w.heap.size w w') : RpIs w' p C R := h.mod (Mod.ofBelow hB _) (h.blk.same (hB.block _ h.lt))
theorem RpIs.other (h : RpIs w p C R) {q : Nat} (hm : Mod w w' (· = q)) (hq : q ≠ p ∧ q ≠ C.pc ∧ q ≠ C.g ∧ q ≠ C.M ∧ q ≠ C.g2) : RpIs w' p C R := by
  have e : ∀ k, k < w.heap.size → k ≠ q → w'.heap[k]? = w.heap[k]? := fun k hk hp => hm.block k hk hp
  obtain ⟨a0, a1, a2, a3, a4⟩ := hq
  refine ⟨h.blk.same (e _ h.lt (fun x => a0 x.symm)), h.core.blocks hm.size ?_, fun k hk => (World.cell?_of_block (w := w) (e _ h.lt2 (fun x => a4 x.symm))).trans (h.row k hk), Nat.lt_of_lt_of_le h.lt2 hm.size, h.cap2, h.ap⟩
  rintro k (rfl | rfl | rfl)
  · exact e _ h.core.plt (fun x => a1 x.symm)
  · exact e _ h.core.glt (fun x => a2 x.symm)
  · exact e _ h.core.mlt (fun x => a3 x.symm)
theorem RpIs.put (h : RpIs w p C R) {k : Nat} (hk : k < 93) (v : Value) (e : ∀ j, j < 93 → upd (rpF C R) k v j = rpF C R' j) : RpIs (w.setCell ⟨p, k, none⟩ v) p C R' :=
  h.mod ((Mod.refl w _).set ⟨p, k, none⟩ v (fun _ => rfl)) ((h.blk.set hk v).congr e)
theorem Mod.sets {T : Nat → Prop} {w w1 : World} (h : Mod w w1 T) (p o : Nat) (vs : List Value) (hp : T p) : Mod w (w1.setCells p o vs) T := by
  refine ⟨(World.os_setCells _ _ _ _).trans h.os, ?_, (World.output_setCells _ _ _ _).trans h.output, ?_, fun k hk ht => ?_⟩
  · have : ∀ (vs : List Value) (o : Nat) (x : World), (x.setCells p o vs).tape = x.tape := by
      intro vs
      induction vs with
      | nil => intro _ _; rfl
      | cons v r ih => intro o x; exact ih (o + 1) (x.setCell ⟨p, o, none⟩ v)
    rw [this]; exact h.tape
  · have : ∀ (vs : List Value) (o : Nat) (x : World), (x.setCells p o vs).heap.size = x.heap.size := by
      intro vs
      induction vs with
      | nil => intro _ _; rfl
      | cons v r ih => intro o x; exact (ih (o + 1) (x.setCell ⟨p, o, none⟩ v)).trans (by simp [World.setCell])
    rw [this]; exact h.size
  · have hne : k ≠ p := fun e => ht (e ▸ hp)
    exact (World.heap_setCells_other w1 p o vs (Nat.lt_of_lt_of_le hk h.size) hne).trans (h.block k hk ht)
theorem RpIs.puts (h : RpIs w p C R) (o : Nat) (vs : List Value) (hl : o + vs.length ≤ 93) (e : ∀ j, j < 93 → (if o ≤ j then (vs[j - o]?).getD (rpF C R j) else rpF C R j) = rpF C R' j) : RpIs (w.setCells p o vs) p C R' :=
  h.mod ((Mod.refl w _).sets p o vs rfl) ((BIs.sets vs o w _ h.blk hl).congr e)
theorem RpIs.c0 (h : RpIs w p C R) : w.cell? ⟨p, 0, none⟩ = some (.int .i64 (R.id : Int)) := h.blk.at (by decide)
theorem RpIs.c1 (h : RpIs w p C R) : w.cell? ⟨p, 1, none⟩ = some (.int .i64 (C.s : Int)) := h.blk.at (by decide)
theorem RpIs.c2 (h : RpIs w p C R) : w.cell? ⟨p, 2, none⟩ = some (.slice (some ⟨C.g2, 0, none⟩) C.n C.c2) := h.blk.at (by decide)
theorem RpIs.c3 (h : RpIs w p C R) : w.cell? ⟨p, 3, none⟩ = some (.int .i64 (C.d : Int)) := h.blk.at (by decide)
theorem RpIs.c4 (h : RpIs w p C R) : w.cell? ⟨p, 4, none⟩ = some (.pointer (some ⟨C.pc, 0, none⟩)) := h.blk.at (by decide)
theorem RpIs.c5 (h : RpIs w p C R) : w.cell? ⟨p, 5, none⟩ = some (.int .i64 R.cycle) := h.blk.at (by decide)
theorem RpIs.c6 (h : RpIs w p C R) : w.cell? ⟨p, 6, none⟩ = some (.int .i64 R.ticks) := h.blk.at (by decide)
theorem RpIs.c7 (h : RpIs w p C R) : w.cell? ⟨p, 7, none⟩ = some (.int .i64 R.ahead) := h.blk.at (by decide)
theorem RpIs.c25 (h : RpIs w p C R) : w.cell? ⟨p, 25, none⟩ = some (.int .i64 R.sx) := h.blk.at (by decide)
theorem RpIs.c26 (h : RpIs w p C R) : w.cell? ⟨p, 26, none⟩ = some (.int .i64 R.sy) := h.blk.at (by decide)
theorem RpIs.state (h : RpIs w p C R) : w.rangeAt p 8 (stCells R.st).toList := by
  refine h.blk.range (by show 8 + 17 ≤ 93; omega) fun j hj => ?_
  have hj' : j < 17 := hj
  unfold rpF
  rw [if_neg (by omega), if_neg (by omega), if_neg (by omega), if_neg (by omega), if_neg (by omega), if_neg (by omega), if_neg (by omega), if_neg (by omega), if_pos (by omega), show 8 + j - 8 = j by omega]
  have hs : j < (stCells R.st).size := hj'
  rw [Array.getElem?_toList, Array.getElem?_eq_getElem hs]
  rfl
theorem rpF_smp {k j : Nat} (hk : k < 3) (hj : j < 4) : rpF C R (27 + k * 4 + j) = ((smpC (R.smp k))[j]?).getD undef := by
  unfold rpF
  rw [if_neg (by omega), if_neg (by omega), if_neg (by omega), if_neg (by omega), if_neg (by omega), if_neg (by omega), if_neg (by omega), if_neg (by omega), if_neg (by omega), if_neg (by omega), if_neg (by omega), if_pos (by omega), show (27 + k * 4 + j - 27) / 4 = k by omega, show (27 + k * 4 + j - 27) % 4 = j by omega]
theorem rpF_told {k j : Nat} (hk : k < 3) (hj : j < 18) : rpF C R (39 + k * 18 + j) = .int .i64 (R.told k j) := by
  unfold rpF
  rw [if_neg (by omega), if_neg (by omega), if_neg (by omega), if_neg (by omega), if_neg (by omega), if_neg (by omega), if_neg (by omega), if_neg (by omega), if_neg (by omega), if_neg (by omega), if_neg (by omega), if_neg (by omega), show (39 + k * 18 + j - 39) / 18 = k by omega, show (39 + k * 18 + j - 39) % 18 = j by omega]
theorem RpIs.s0 (h : RpIs w p C R) {k : Nat} (hk : k < 3) : w.cell? ⟨p, 27 + k * 4, none⟩ = some (.bool (R.smp k).there) := (h.blk.at (by omega)).trans (congrArg some (rpF_smp (j := 0) hk (by omega)))
theorem RpIs.s1 (h : RpIs w p C R) {k : Nat} (hk : k < 3) : w.cell? ⟨p, 27 + k * 4 + 1, none⟩ = some (.int .i64 (R.smp k).came) := (h.blk.at (by omega)).trans (congrArg some (rpF_smp (j := 1) hk (by omega)))
theorem RpIs.s2 (h : RpIs w p C R) {k : Nat} (hk : k < 3) : w.cell? ⟨p, 27 + k * 4 + 2, none⟩ = some (.int .i64 ((R.smp k).c : Int)) := (h.blk.at (by omega)).trans (congrArg some (rpF_smp (j := 2) hk (by omega)))
theorem RpIs.s3 (h : RpIs w p C R) {k : Nat} (hk : k < 3) : w.cell? ⟨p, 27 + k * 4 + 3, none⟩ = some (.int .i64 ((R.smp k).v : Int)) := (h.blk.at (by omega)).trans (congrArg some (rpF_smp (j := 3) hk (by omega)))
def smpL (f : Nat → Smp) : List Value := smpC (f 0) ++ smpC (f 1) ++ smpC (f 2)
theorem RpIs.samples (h : RpIs w p C R) : w.rangeAt p 27 (smpL R.smp) := by
  refine h.blk.range (by show 27 + 12 ≤ 93; omega) fun j hj => ?_
  have hj' : j < 12 := hj
  rcases (by omega : j < 4 ∨ (4 ≤ j ∧ j < 8) ∨ (8 ≤ j ∧ j < 12)) with h1 | h1 | h1
  · have := rpF_smp (C := C) (R := R) (k := 0) (j := j) (by omega) h1
    rw [show 27 + 0 * 4 + j = 27 + j by omega] at this
    rw [this]
    rcases (by omega : j = 0 ∨ j = 1 ∨ j = 2 ∨ j = 3) with rfl | rfl | rfl | rfl <;> rfl
  · have := rpF_smp (C := C) (R := R) (k := 1) (j := j - 4) (by omega) (by omega)
    rw [show 27 + 1 * 4 + (j - 4) = 27 + j by omega] at this
    rw [this]
    rcases (by omega : j = 4 ∨ j = 5 ∨ j = 6 ∨ j = 7) with rfl | rfl | rfl | rfl <;> rfl
  · have := rpF_smp (C := C) (R := R) (k := 2) (j := j - 8) (by omega) (by omega)
    rw [show 27 + 2 * 4 + (j - 8) = 27 + j by omega] at this
    rw [this]
    rcases (by omega : j = 8 ∨ j = 9 ∨ j = 10 ∨ j = 11) with rfl | rfl | rfl | rfl <;> rfl
def tlL (f : Nat → Nat → Int) : List Value := (tlC (f 0)).toList ++ (tlC (f 1)).toList ++ (tlC (f 2)).toList
theorem tlL_at (f : Nat → Nat → Int) {k j : Nat} (hk : k < 3) (hj : j < 18) : (tlL f)[k * 18 + j]? = some (.int .i64 (f k j)) := by
  have a : ∀ i, (tlC (f i)).toList[j]? = some (.int .i64 (f i j)) := fun i => by rw [Array.getElem?_toList]; exact tlC_at _ _ hj
  have l : ∀ i, (tlC (f i)).toList.length = 18 := fun _ => rfl
  unfold tlL
  rcases (by omega : k = 0 ∨ k = 1 ∨ k = 2) with rfl | rfl | rfl
  · rw [List.append_assoc, List.getElem?_append_left (by rw [l]; omega), Nat.zero_mul, Nat.zero_add, a]
  · rw [List.append_assoc, List.getElem?_append_right (by rw [l]; omega), List.getElem?_append_left (by rw [l, l]; omega), l, show 1 * 18 + j - 18 = j by omega, a]
  · rw [List.getElem?_append_right (by rw [List.length_append, l, l]; omega), List.length_append, l, l, show 2 * 18 + j - (18 + 18) = j by omega, a]
theorem RpIs.tolds (h : RpIs w p C R) : w.rangeAt p 39 (tlL R.told) := by
  refine h.blk.range (by show 39 + 54 ≤ 93; omega) fun j hj => ?_
  have hj' : j < 54 := hj
  have e := tlL_at R.told (k := j / 18) (j := j % 18) (by omega) (by omega)
  have e2 := rpF_told (C := C) (R := R) (k := j / 18) (j := j % 18) (by omega) (by omega)
  rw [show j / 18 * 18 + j % 18 = j by omega] at e
  rw [show 39 + j / 18 * 18 + j % 18 = 39 + j by omega] at e2
  rw [e, e2]
end
end Go.Proofs.YtaablbmgagiajabGreatDoor
namespace Go.Proofs.YtaablbmgagiajabGreatDoor
open Go.RowKit Go.Deep
section
variable {C : RC} {R : RS}
theorem rpF_putS {k : Nat} (x : Smp) (hk : k < 3) {j : Nat} (hj : j < 93) : (if 27 + k * 4 ≤ j then ((smpC x)[j - (27 + k * 4)]?).getD (rpF C R j) else rpF C R j) = rpF C { R with smp := upd R.smp k x } j := by
  by_cases hr : 27 + k * 4 ≤ j ∧ j < 27 + k * 4 + 4
  · obtain ⟨i, rfl⟩ : ∃ i, j = 27 + k * 4 + i := ⟨j - (27 + k * 4), by omega⟩
    have hi : i < 4 := by omega
    rw [if_pos (by omega), rpF_smp hk hi, rpF_smp hk hi, show 27 + k * 4 + i - (27 + k * 4) = i by omega]
    show _ = ((smpC (upd R.smp k x k))[i]?).getD undef
    rw [upd_same]
    rcases (by omega : i = 0 ∨ i = 1 ∨ i = 2 ∨ i = 3) with rfl | rfl | rfl | rfl <;> rfl
  · have e : (if 27 + k * 4 ≤ j then ((smpC x)[j - (27 + k * 4)]?).getD (rpF C R j) else rpF C R j) = rpF C R j := by
      split
      · rw [List.getElem?_eq_none (by show 4 ≤ _; omega)]; rfl
      · rfl
    rw [e]
    unfold rpF
    refine ite_congr rfl (fun _ => rfl) fun h0 => ?_
    refine ite_congr rfl (fun _ => rfl) fun h1 => ?_
    refine ite_congr rfl (fun _ => rfl) fun h2 => ?_
    refine ite_congr rfl (fun _ => rfl) fun h3 => ?_
    refine ite_congr rfl (fun _ => rfl) fun h4 => ?_
    refine ite_congr rfl (fun _ => rfl) fun h5 => ?_
    refine ite_congr rfl (fun _ => rfl) fun h6 => ?_
    refine ite_congr rfl (fun _ => rfl) fun h7 => ?_
    refine ite_congr rfl (fun _ => rfl) fun h8 => ?_
    refine ite_congr rfl (fun _ => rfl) fun h9 => ?_
    refine ite_congr rfl (fun _ => rfl) fun h10 => ?_
    refine ite_congr rfl (fun h11 => ?_) fun _ => rfl
    show _ = ((smpC (upd R.smp k x ((j - 27) / 4)))[(j - 27) % 4]?).getD undef
    rw [upd_other _ _ (by omega)]
theorem rpF_putT {k : Nat} (T : Nat → Int) (hk : k < 3) {j : Nat} (hj : j < 93) : (if 39 + k * 18 ≤ j then ((tlC T).toList[j - (39 + k * 18)]?).getD (rpF C R j) else rpF C R j) = rpF C { R with told := upd R.told k T } j := by
  by_cases hr : 39 + k * 18 ≤ j ∧ j < 39 + k * 18 + 18
  · obtain ⟨i, rfl⟩ : ∃ i, j = 39 + k * 18 + i := ⟨j - (39 + k * 18), by omega⟩
    have hi : i < 18 := by omega
    rw [if_pos (by omega), rpF_told hk hi, rpF_told hk hi, show 39 + k * 18 + i - (39 + k * 18) = i by omega, Array.getElem?_toList, tlC_at T i hi]
    show _ = Value.int .i64 (upd R.told k T k i)
    rw [upd_same]
    rfl
  · have e : (if 39 + k * 18 ≤ j then ((tlC T).toList[j - (39 + k * 18)]?).getD (rpF C R j) else rpF C R j) = rpF C R j := by
      split
      · rw [List.getElem?_eq_none (by show 18 ≤ _; omega)]; rfl
      · rfl
    rw [e]
    unfold rpF
    refine ite_congr rfl (fun _ => rfl) fun h0 => ?_
    refine ite_congr rfl (fun _ => rfl) fun h1 => ?_
    refine ite_congr rfl (fun _ => rfl) fun h2 => ?_
    refine ite_congr rfl (fun _ => rfl) fun h3 => ?_
    refine ite_congr rfl (fun _ => rfl) fun h4 => ?_
    refine ite_congr rfl (fun _ => rfl) fun h5 => ?_
    refine ite_congr rfl (fun _ => rfl) fun h6 => ?_
    refine ite_congr rfl (fun _ => rfl) fun h7 => ?_
    refine ite_congr rfl (fun _ => rfl) fun h8 => ?_
    refine ite_congr rfl (fun _ => rfl) fun h9 => ?_
    refine ite_congr rfl (fun _ => rfl) fun h10 => ?_
    refine ite_congr rfl (fun _ => rfl) fun h11 => ?_
    have : upd R.told k T ((j - 39) / 18) = R.told ((j - 39) / 18) := upd_other _ _ (by omega)
    show _ = Value.int .i64 (upd R.told k T ((j - 39) / 18) ((j - 39) % 18))
    rw [this]
theorem rpF_putSt (X : St) {j : Nat} : (if 8 ≤ j then ((stCells X).toList[j - 8]?).getD (rpF C R j) else rpF C R j) = rpF C { R with st := X } j := by
  by_cases hr : 8 ≤ j ∧ j < 25
  · rw [if_pos hr.1]
    have hs : j - 8 < (stCells X).size := by show j - 8 < 17; omega
    unfold rpF
    rw [if_neg (by omega), if_neg (by omega), if_neg (by omega), if_neg (by omega), if_neg (by omega), if_neg (by omega), if_neg (by omega), if_neg (by omega), if_pos hr.2]
    rw [if_neg (by omega), if_neg (by omega), if_neg (by omega), if_neg (by omega), if_neg (by omega), if_neg (by omega), if_neg (by omega), if_neg (by omega), if_pos hr.2]
    rw [Array.getElem?_toList, Array.getElem?_eq_getElem hs]
    rfl
  · have e : (if 8 ≤ j then ((stCells X).toList[j - 8]?).getD (rpF C R j) else rpF C R j) = rpF C R j := by
      split
      · rw [List.getElem?_eq_none (by show 17 ≤ _; omega)]; rfl
      · rfl
    rw [e]
    unfold rpF
    refine ite_congr rfl (fun _ => rfl) fun h0 => ?_
    refine ite_congr rfl (fun _ => rfl) fun h1 => ?_
    refine ite_congr rfl (fun _ => rfl) fun h2 => ?_
    refine ite_congr rfl (fun _ => rfl) fun h3 => ?_
    refine ite_congr rfl (fun _ => rfl) fun h4 => ?_
    refine ite_congr rfl (fun _ => rfl) fun h5 => ?_
    refine ite_congr rfl (fun _ => rfl) fun h6 => ?_
    refine ite_congr rfl (fun _ => rfl) fun h7 => ?_
    exact ite_congr rfl (fun h8 => absurd h8 (by omega)) fun _ => rfl
theorem rpF_wipeS {j : Nat} (hj : j < 93) : (if 27 ≤ j then ((smpL fun _ => smp0)[j - 27]?).getD (rpF C R j) else rpF C R j) = rpF C { R with smp := fun _ => smp0 } j := by
  by_cases hr : 27 ≤ j ∧ j < 39
  · obtain ⟨i, rfl⟩ : ∃ i, j = 27 + i := ⟨j - 27, by omega⟩
    have hi : i < 12 := by omega
    rw [if_pos (by omega), show 27 + i - 27 = i by omega]
    have e := rpF_smp (C := C) (R := { R with smp := fun _ => smp0 }) (k := i / 4) (j := i % 4) (by omega) (by omega)
    rw [show 27 + i / 4 * 4 + i % 4 = 27 + i by omega] at e
    rw [e]
    show ((smpL fun _ => smp0)[i]?).getD _ = ((smpC smp0)[i % 4]?).getD undef
    rcases (by omega : i = 0 ∨ i = 1 ∨ i = 2 ∨ i = 3 ∨ i = 4 ∨ i = 5 ∨ i = 6 ∨ i = 7 ∨ i = 8 ∨ i = 9 ∨ i = 10 ∨ i = 11) with rfl | rfl | rfl | rfl | rfl | rfl | rfl | rfl | rfl | rfl | rfl | rfl <;> rfl
  · have e : (if 27 ≤ j then ((smpL fun _ => smp0)[j - 27]?).getD (rpF C R j) else rpF C R j) = rpF C R j := by
      split
      · rw [List.getElem?_eq_none (by show 12 ≤ _; omega)]; rfl
      · rfl
    rw [e]
    unfold rpF
    refine ite_congr rfl (fun _ => rfl) fun h0 => ?_
    refine ite_congr rfl (fun _ => rfl) fun h1 => ?_
    refine ite_congr rfl (fun _ => rfl) fun h2 => ?_
    refine ite_congr rfl (fun _ => rfl) fun h3 => ?_
    refine ite_congr rfl (fun _ => rfl) fun h4 => ?_
    refine ite_congr rfl (fun _ => rfl) fun h5 => ?_
    refine ite_congr rfl (fun _ => rfl) fun h6 => ?_
    refine ite_congr rfl (fun _ => rfl) fun h7 => ?_
    refine ite_congr rfl (fun _ => rfl) fun h8 => ?_
    refine ite_congr rfl (fun _ => rfl) fun h9 => ?_
    refine ite_congr rfl (fun _ => rfl) fun h10 => ?_
    exact ite_congr rfl (fun h11 => absurd h11 (by omega)) fun _ => rfl
theorem rpF_wipeT {j : Nat} (hj : j < 93) : (if 39 ≤ j then ((tlL fun _ _ => 0)[j - 39]?).getD (rpF C R j) else rpF C R j) = rpF C { R with told := fun _ _ => 0 } j := by
  by_cases hr : 39 ≤ j
  · obtain ⟨i, rfl⟩ : ∃ i, j = 39 + i := ⟨j - 39, by omega⟩
    have hi : i < 54 := by omega
    rw [if_pos (by omega), show 39 + i - 39 = i by omega]
    have e := rpF_told (C := C) (R := { R with told := fun _ _ => 0 }) (k := i / 18) (j := i % 18) (by omega) (by omega)
    have e2 := tlL_at (fun _ _ => 0) (k := i / 18) (j := i % 18) (by omega) (by omega)
    rw [show 39 + i / 18 * 18 + i % 18 = 39 + i by omega] at e
    rw [show i / 18 * 18 + i % 18 = i by omega] at e2
    rw [e, e2]
    rfl
  · rw [if_neg hr]
    unfold rpF
    refine ite_congr rfl (fun _ => rfl) fun h0 => ?_
    refine ite_congr rfl (fun _ => rfl) fun h1 => ?_
    refine ite_congr rfl (fun _ => rfl) fun h2 => ?_
    refine ite_congr rfl (fun _ => rfl) fun h3 => ?_
    refine ite_congr rfl (fun _ => rfl) fun h4 => ?_
    refine ite_congr rfl (fun _ => rfl) fun h5 => ?_
    refine ite_congr rfl (fun _ => rfl) fun h6 => ?_
    refine ite_congr rfl (fun _ => rfl) fun h7 => ?_
    refine ite_congr rfl (fun _ => rfl) fun h8 => ?_
    refine ite_congr rfl (fun _ => rfl) fun h9 => ?_
    refine ite_congr rfl (fun _ => rfl) fun h10 => ?_
    exact ite_congr rfl (fun _ => rfl) fun h11 => absurd hj (by omega)
theorem rpF_cyc (c : Int) {j : Nat} : upd (rpF C R) 5 (.int .i64 c) j = rpF C { R with cycle := c } j := by
  unfold upd rpF
  by_cases e : j = 5
  · subst e; rfl
  · simp [e]
theorem rpF_tick (c : Int) {j : Nat} : upd (rpF C R) 6 (.int .i64 c) j = rpF C { R with ticks := c } j := by
  unfold upd rpF
  by_cases e : j = 6
  · subst e; rfl
  · simp [e]
theorem rpF_ahead (c : Int) {j : Nat} : upd (rpF C R) 7 (.int .i64 c) j = rpF C { R with ahead := c } j := by
  unfold upd rpF
  by_cases e : j = 7
  · subst e; rfl
  · simp [e]
end
section
variable {w : World} {p : Nat} {C : RC} {R : RS}
theorem RpIs.putS (h : RpIs w p C R) {k : Nat} (hk : k < 3) (x : Smp) : RpIs (w.setCells p (27 + k * 4) (smpC x)) p C { R with smp := upd R.smp k x } :=
  h.puts _ _ (by show 27 + k * 4 + 4 ≤ 93; omega) fun _ hj => rpF_putS x hk hj
theorem RpIs.putT (h : RpIs w p C R) {k : Nat} (hk : k < 3) (T : Nat → Int) : RpIs (w.setCells p (39 + k * 18) (tlC T).toList) p C { R with told := upd R.told k T } :=
  h.puts _ _ (by show 39 + k * 18 + 18 ≤ 93; omega) fun _ hj => rpF_putT T hk hj
theorem RpIs.putSt (h : RpIs w p C R) (X : St) : RpIs (w.setCells p 8 (stCells X).toList) p C { R with st := X } :=
  h.puts _ _ (by show 8 + 17 ≤ 93; omega) fun _ _ => rpF_putSt X
theorem RpIs.wipeS (h : RpIs w p C R) : RpIs (w.setCells p 27 (smpL fun _ => smp0)) p C { R with smp := fun _ => smp0 } :=
  h.puts _ _ (by show 27 + 12 ≤ 93; omega) fun _ hj => rpF_wipeS hj
theorem RpIs.wipeT (h : RpIs w p C R) : RpIs (w.setCells p 39 (tlL fun _ _ => 0)) p C { R with told := fun _ _ => 0 } :=
  h.puts _ _ (by show 39 + 54 ≤ 93; omega) fun _ hj => rpF_wipeT hj
theorem RpIs.cyc (h : RpIs w p C R) (c : Int) : RpIs (w.setCell ⟨p, 5, none⟩ (.int .i64 c)) p C { R with cycle := c } := h.put (by decide) _ fun _ _ => rpF_cyc c
theorem RpIs.tick (h : RpIs w p C R) (c : Int) : RpIs (w.setCell ⟨p, 6, none⟩ (.int .i64 c)) p C { R with ticks := c } := h.put (by decide) _ fun _ _ => rpF_tick c
theorem RpIs.aheads (h : RpIs w p C R) (c : Int) : RpIs (w.setCell ⟨p, 7, none⟩ (.int .i64 c)) p C { R with ahead := c } := h.put (by decide) _ fun _ _ => rpF_ahead c
theorem RpIs.drew (h : RpIs w p C R) : RpIs w.drew p C R := h.below (Below.refl _ _).drew
end
end Go.Proofs.YtaablbmgagiajabGreatDoor
namespace Go.Proofs.YtaablbmgagiajabGreatDoor
open Go.RowKit Go.Deep
def FRow (w : World) (t : TypeId) (v : Value) (L : List FR) : Prop :=
  (L = [] ∧ v = .slice none 0 0) ∨ ∃ g cap, v = .slice (some ⟨g, 0, none⟩) L.length cap ∧ L.length ≤ cap ∧ ∃ cs, w.heap[g]? = some (.cells cs t (0, 0)) ∧ ∀ i, i < L.length → ∀ j, j < 23 → cs[i * 23 + j]? = some (.int .i64 ((L[i]?.getD fr0) j))
theorem FRow.one {w : World} {t g : Nat} {F : FR} (h : w.heap[g]? = some (.cells (fCells F) t (0, 0))) : FRow w t (.slice (some ⟨g, 0, none⟩) 1 1) [F] :=
  .inr ⟨g, 1, rfl, Nat.le_refl _, fCells F, h, fun i hi j hj => by
    have : i = 0 := by simpa using hi
    subst this
    rw [Nat.zero_mul, Nat.zero_add]
    exact fCells_at F j hj⟩
theorem FRow.two {w : World} {t base g cap : Nat} {F G : FR} (h : w.ownsRow base t 23 (.slice (some ⟨g, 0, none⟩) 2 cap) 2 ((fCells F).toList ++ (fCells G).toList)) : FRow w t (.slice (some ⟨g, 0, none⟩) 2 cap) [F, G] := by
  rcases h.2 with ⟨e, _⟩ | ⟨g', cap', cur, e, _, hg, hc, _, _, ht⟩
  · simp at e
  simp only [Value.slice.injEq, Option.some.injEq, Addr.mk.injEq, and_true, true_and] at e
  obtain ⟨rfl, rfl⟩ := e
  refine .inr ⟨g, cap, rfl, hc, cur, hg, fun i hi j hj => ?_⟩
  have hi2 : i < 2 := by simpa using hi
  have e1 : cur[i * 23 + j]? = ((fCells F).toList ++ (fCells G).toList)[i * 23 + j]? := by
    rw [← ht, List.getElem?_take, if_pos (by omega), Array.getElem?_toList]
  rw [e1]
  match i, hi2 with
  | 0, _ => rw [List.getElem?_append_left (by simp [fCells_size]; omega), Array.getElem?_toList, Nat.zero_mul, Nat.zero_add]; exact fCells_at F j hj
  | 1, _ => rw [List.getElem?_append_right (by simp [fCells_size]), Array.getElem?_toList, show 1 * 23 + j - (fCells F).toList.length = j by simp [fCells_size]]; exact fCells_at G j hj
theorem FRow.range {w : World} {t g n cap : Nat} {L : List FR} (h : FRow w t (.slice (some ⟨g, 0, none⟩) n cap) L) {i : Nat} (hi : i < L.length) : w.rangeAt g (i * 23) (fCells (L[i]?.getD fr0)).toList := by
  rcases h with ⟨_, e⟩ | ⟨g', cap', e, _, cs, hg, hc⟩
  · simp at e
  simp only [Value.slice.injEq, Option.some.injEq, Addr.mk.injEq, and_true] at e
  obtain ⟨rfl, _⟩ := e
  intro j v hv
  have hj : j < 23 := by have := (List.getElem?_eq_some_iff.1 hv).1; simpa [fCells_size] using this
  have e2 := fCells_at (L[i]?.getD fr0) j hj
  rw [← Array.getElem?_toList, hv] at e2
  rw [blk_cell hg, hc i hi j hj, e2]
theorem FRow.below {w w' : World} {t : TypeId} {v : Value} {L : List FR} (h : FRow w t v L) (hB : Below w.heap.size w w') : FRow w' t v L := by
  rcases h with h | ⟨g, cap, rfl, h1, cs, hg, hc⟩
  · exact .inl h
  · exact .inr ⟨g, cap, rfl, h1, cs, (hB.block g (blk_lt hg)).trans hg, hc⟩
theorem infoFrameZ : (Tryz.prog.info? 36).map (fun i => (i.zero, i.size, i.bytes)) = some (some (.agg (fCells fr0)), 23, 184) := by kernel_rfl
end Go.Proofs.YtaablbmgagiajabGreatDoor
namespace Go.Proofs.YtaablbmgagiajabGreatDoor
open Go.RowKit Go.Deep
theorem fill_one (F : FR) : Instr.fill (fun i => some (i * 23, 23)) ((Array.range (1 * 23)).map ((fCells fr0)[· % (fCells fr0).size]!)) [(0, .agg (fCells F))] = some (fCells F) := by
  have h := Great.fill_whole (s := 23) (by decide) [.agg (fCells F)] ((Array.range (1 * 23)).map ((fCells fr0)[· % (fCells fr0).size]!)) (by intro v hv; simp at hv; subst hv; rfl) (by simp)
  have e : (List.flatMap (fun v : Value => v.cells.toList) [Value.agg (fCells F)]).toArray = fCells F := by
    rw [List.flatMap_cons, List.flatMap_nil, List.append_nil]
    rfl
  rw [e] at h
  exact h
section
variable {ops : Array Oper} {rest : List Oper} {op : Oper} {a : Act} {w : World} {Q : Exit → Act → World → Prop}
theorem wpList_one_f (hgd : op.guard = none) (x : Operand) (ho : op.op = .buildSlice 211 1 #[(0, x)]) (F : FR) (hx : a.eval x = .agg (fCells F)) (H : Nat) (hH : w.heap.size = H)
    (h : ∀ w', Hid (w'.heap[H]? = some (.cells (fCells F) 36 (0, 0)) ∧ w'.heap.size = H + 1 ∧ Below H w w') → wpList Tryz.prog ops Q rest (a.put op.dst (.slice (some ⟨H, 0, none⟩) 1 1)) w') : wpList Tryz.prog ops Q (op :: rest) a w := by
  obtain ⟨i0, hi, hz0, hz1, hz2⟩ := info_parts infoFrameZ
  subst hH
  refine wpList_buildSlice hgd _ 36 1 _ ho (fCells F) i0 (.agg (fCells fr0)) Tryz.underlying211 hi hz0 (by rw [hz1]; decide) (by rw [hz1]; decide) ?_ (h _ ⟨blk_new _ _, by simp, (Below.refl _ _).alloc (Nat.le_refl _) _⟩)
  rw [hz1]
  simp only [List.map_toArray, List.map_cons, List.map_nil, hx]
  exact fill_one F
end
end Go.Proofs.YtaablbmgagiajabGreatDoor
