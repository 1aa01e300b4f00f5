import Derived.Test.YtaablbmgagiajabGreatDoorCGAD
import Derived.Test.YtaablbmgagiajabGreatDoorCGAE
import Derived.BigQuiet
import Derived.Test.YtaablbmgagiajabGreatDoorCGAA
import Derived.OwnWalk
import Derived.Laws.OwnMore
import Derived.Deep.AppendLies
import Derived.Deep.MidRow
import Derived.Deep.Upon
import Derived.Test.YtaablbmgagiajabGreatDoorCCoreStep
import Derived.Great.BuildSlice
namespace Go.Proofs.YtaablbmgagiajabGreatDoor
theorem step_xor (x y : BitVec 32) : step (x ^^^ y) = step x ^^^ step y := by
  unfold step
  rw [BitVec.msb_xor, BitVec.shiftLeft_xor_distrib]
  cases x.msb <;> cases y.msb
  · simp
  · simp [BitVec.xor_assoc]
  · simp only [Bool.xor_false, if_true, Bool.false_eq_true, if_false]
    rw [BitVec.xor_assoc, BitVec.xor_assoc, BitVec.xor_comm (y <<< 1)]
  · simp only [Bool.xor_self, Bool.false_eq_true, if_false, if_true]
    rw [BitVec.xor_assoc, BitVec.xor_comm (y <<< 1), ← BitVec.xor_assoc 79764919#32, BitVec.xor_self, BitVec.zero_xor]
theorem step_zero' : step 0#32 = 0#32 := by decide
theorem step_inj (x : BitVec 32) (h : step x = 0#32) : x = 0#32 := by
  have hx := x.isLt
  cases hm : x.msb
  · rw [step_zero x hm] at h
    have hl := msb_lt x hm
    have := congrArg BitVec.toNat h
    rw [BitVec.toNat_shiftLeft, Nat.shiftLeft_eq] at this
    apply BitVec.eq_of_toNat_eq
    simp at this ⊢
    omega
  · rw [step_one x hm] at h
    have h2 : x <<< 1 = 79764919#32 := by
      have := congrArg (· ^^^ 79764919#32) h
      simp only [BitVec.xor_assoc, BitVec.xor_self, BitVec.xor_zero, BitVec.zero_xor] at this
      exact this
    have := congrArg BitVec.toNat h2
    rw [BitVec.toNat_shiftLeft, Nat.shiftLeft_eq] at this
    simp at this
    omega
theorem steps_xor (k : Nat) (x y : BitVec 32) : steps k (x ^^^ y) = steps k x ^^^ steps k y := by
  induction k with
  | zero => rfl
  | succ k ih => rw [steps_succ, steps_succ, steps_succ, ih, step_xor]
theorem steps_inj (k : Nat) (x : BitVec 32) (h : steps k x = 0#32) : x = 0#32 := by
  induction k with
  | zero => exact h
  | succ k ih => exact ih (step_inj _ h)
def topB (b : Bool) : BitVec 32 := if b then 2147483648#32 else 0#32
def feed (x : BitVec 32) (b : Bool) : BitVec 32 := step (x ^^^ topB b)
def feeds (x : BitVec 32) (bs : List Bool) : BitVec 32 := bs.foldl feed x
theorem feeds_append (x : BitVec 32) (bs cs : List Bool) : feeds x (bs ++ cs) = feeds (feeds x bs) cs := by simp [feeds]
theorem topB_xor (b c : Bool) : topB (b ^^ c) = topB b ^^^ topB c := by cases b <;> cases c <;> decide
theorem feed_xor (x y : BitVec 32) (b c : Bool) : feed (x ^^^ y) (b ^^ c) = feed x b ^^^ feed y c := by
  unfold feed
  rw [← step_xor, topB_xor]
  congr 1
  rw [BitVec.xor_assoc, BitVec.xor_assoc, ← BitVec.xor_assoc y, BitVec.xor_comm y, BitVec.xor_assoc (topB b)]
theorem feeds_xor : ∀ (bs cs : List Bool) (x y : BitVec 32), bs.length = cs.length → feeds (x ^^^ y) (List.zipWith (fun a b => a ^^ b) bs cs) = feeds x bs ^^^ feeds y cs
  | [], [], _, _, _ => rfl
  | b :: bs, c :: cs, x, y, h => by
    show feeds (feed (x ^^^ y) (b ^^ c)) (List.zipWith (fun a b => a ^^ b) bs cs) = feeds (feed x b) bs ^^^ feeds (feed y c) cs
    rw [feed_xor, feeds_xor bs cs _ _ (by simpa using h)]
theorem feed_false (x : BitVec 32) : feed x false = step x := by
  unfold feed topB; simp
theorem feeds_zeros (n : Nat) (x : BitVec 32) : feeds x (List.replicate n false) = steps n x := by
  induction n with
  | zero => rfl
  | succ n ih => rw [List.replicate_succ', feeds_append, ih]; exact feed_false _
theorem steps_zero (k : Nat) : steps k 0#32 = 0#32 := by
  induction k with
  | zero => rfl
  | succ k ih => rw [steps_succ, ih, step_zero']
theorem feed_msb (x : BitVec 32) : feed x x.msb = x <<< 1 := by
  unfold feed
  have e : topB x.msb <<< 1 = 0#32 := by cases x.msb <;> decide
  have hm : (x ^^^ topB x.msb).msb = false := by
    rw [BitVec.msb_xor]
    cases x.msb <;> decide
  rw [step_zero _ hm, BitVec.shiftLeft_xor_distrib, e, BitVec.xor_zero]
def wordBits (x : BitVec 32) (n : Nat) : List Bool := (List.range n).map x.getMsbD
theorem wordBits_succ (x : BitVec 32) (n : Nat) : wordBits x (n + 1) = wordBits x n ++ [x.getMsbD n] := by simp [wordBits, List.range_succ]
theorem feeds_own (x : BitVec 32) (n : Nat) : feeds x (wordBits x n) = x <<< n := by
  induction n with
  | zero => simp [wordBits, feeds]
  | succ n ih =>
    rw [wordBits_succ, feeds_append, ih]
    show feed (x <<< n) (x.getMsbD n) = _
    have h : (x <<< n).msb = x.getMsbD n := by
      rw [BitVec.msb, BitVec.getMsbD_shiftLeft]
      simp
    rw [← h, feed_msb]
    rw [BitVec.shiftLeft_add]
theorem zip_right : ∀ bs : List Bool, List.zipWith (fun a b => a ^^ b) bs (List.replicate bs.length false) = bs
  | [] => rfl
  | b :: bs => by
    show (b ^^ false) :: List.zipWith (fun a b => a ^^ b) bs (List.replicate bs.length false) = b :: bs
    rw [zip_right bs, Bool.xor_false]
theorem zip_left : ∀ bs : List Bool, List.zipWith (fun a b => a ^^ b) (List.replicate bs.length false) bs = bs
  | [] => rfl
  | b :: bs => by
    show (false ^^ b) :: List.zipWith (fun a b => a ^^ b) (List.replicate bs.length false) bs = b :: bs
    rw [zip_left bs, Bool.false_xor]
theorem word_of (T : List Bool) (hl : T.length = 32) : ∃ W : BitVec 32, wordBits W 32 = T := by
  refine ⟨(BitVec.ofBoolListBE T).cast hl, ?_⟩
  apply List.ext_getElem?
  intro i
  by_cases hi : i < 32
  · have hT : T[i]? = some T[i] := List.getElem?_eq_getElem (by omega)
    rw [hT]
    simp only [wordBits, List.getElem?_map, List.getElem?_range hi, Option.map_some, Option.some.injEq]
    rw [BitVec.getMsbD_cast, BitVec.getMsbD_ofBoolListBE]
    simp [List.getD, hT]
  · have hT : T[i]? = none := List.getElem?_eq_none (by omega)
    rw [hT]
    exact List.getElem?_eq_none (by simp [wordBits]; omega)
theorem feeds_word (x : BitVec 32) : feeds 0#32 (wordBits x 32) = steps 32 x := by
  have h := feeds_xor (wordBits x 32) (List.replicate 32 false) x x (by simp [wordBits])
  rw [BitVec.xor_self, feeds_own, feeds_zeros] at h
  have e : x <<< 32 = 0#32 := by
    apply BitVec.eq_of_toNat_eq
    rw [BitVec.toNat_shiftLeft, Nat.shiftLeft_eq]
    simp
  have z := zip_right (wordBits x 32)
  rw [show (wordBits x 32).length = 32 by simp [wordBits]] at z
  rw [z, e, BitVec.zero_xor] at h
  exact h
theorem feeds_short (T : List Bool) (h32 : T.length ≤ 32) (ht : true ∈ T) : feeds 0#32 T ≠ 0#32 := by
  intro h0
  obtain ⟨q, hq⟩ : ∃ q, T.length + q = 32 := ⟨32 - T.length, by omega⟩
  have hl : (T ++ List.replicate q false).length = 32 := by simp; omega
  obtain ⟨W, hW⟩ := word_of _ hl
  have h1 : steps 32 W = 0#32 := by
    rw [← feeds_word, hW, feeds_append, h0, feeds_zeros, steps_zero]
  have h2 := steps_inj 32 W h1
  subst h2
  obtain ⟨i, hi, hti⟩ := List.getElem_of_mem ht
  have h3 := congrArg (fun l => l[i]?) hW
  simp only [wordBits, List.getElem?_map, List.getElem?_range (show i < 32 by omega), Option.map_some] at h3
  rw [List.getElem?_append_left hi, List.getElem?_eq_getElem hi, hti] at h3
  simp at h3
def bits8 (c : Nat) : List Bool := [c.testBit 7, c.testBit 6, c.testBit 5, c.testBit 4, c.testBit 3, c.testBit 2, c.testBit 1, c.testBit 0]
def bitsOf (l : List Nat) : List Bool := l.flatMap bits8
theorem bits8_closed : ∀ c : Fin 256, steps 8 (lift c.val) = feeds 0#32 (bits8 c.val) := by decide +kernel
theorem byteStep_bits (x : BitVec 32) (c : Nat) (h : c < 256) : byteStep x c = feeds x (bits8 c) := by
  unfold byteStep
  rw [steps_xor, bits8_closed ⟨c, h⟩]
  have := feeds_xor (List.replicate 8 false) (bits8 c) x 0#32 rfl
  rw [feeds_zeros, BitVec.xor_zero] at this
  rw [← this]
  exact congrArg _ (zip_left (bits8 c))
theorem crcFrom_bits : ∀ (l : List Nat) (x : BitVec 32), (∀ c ∈ l, c < 256) → crcFrom x l = feeds x (bitsOf l)
  | [], _, _ => rfl
  | c :: l, x, h => by
    show crcFrom (byteStep x c) l = feeds x (bits8 c ++ bitsOf l)
    rw [feeds_append, byteStep_bits x c (h c (by simp)), crcFrom_bits l _ (fun d hd => h d (by simp [hd]))]
theorem crcFrom_append (x : BitVec 32) (l m : List Nat) : crcFrom x (l ++ m) = crcFrom (crcFrom x l) m := by simp [crcFrom]
theorem bits_b4 (x : BitVec 32) : bitsOf (b4 x.toNat) = wordBits x 32 := by
  have hb : ∀ k, k < 32 → x.getMsbD k = x.toNat.testBit (31 - k) := fun k hk => by
    rw [BitVec.getMsbD]
    simp [hk, BitVec.testBit_toNat]
  have hw : wordBits x 32 = (List.range 32).map fun k => x.toNat.testBit (31 - k) := by
    unfold wordBits
    apply List.map_congr_left
    intro k hk
    exact hb k (by simpa using hk)
  have h24 : ∀ j, j < 8 → (x.toNat / 16777216 % 256).testBit j = x.toNat.testBit (24 + j) := fun j hj => by
    rw [show (256 : Nat) = 2 ^ 8 by decide, Nat.testBit_mod_two_pow, show (16777216 : Nat) = 2 ^ 24 by decide, Nat.testBit_div_two_pow, decide_eq_true hj, Bool.true_and, Nat.add_comm]
  have h16 : ∀ j, j < 8 → (x.toNat / 65536 % 256).testBit j = x.toNat.testBit (16 + j) := fun j hj => by
    rw [show (256 : Nat) = 2 ^ 8 by decide, Nat.testBit_mod_two_pow, show (65536 : Nat) = 2 ^ 16 by decide, Nat.testBit_div_two_pow, decide_eq_true hj, Bool.true_and, Nat.add_comm]
  have h8 : ∀ j, j < 8 → (x.toNat / 256 % 256).testBit j = x.toNat.testBit (8 + j) := fun j hj => by
    rw [show (256 : Nat) = 2 ^ 8 by decide, Nat.testBit_mod_two_pow, Nat.testBit_div_two_pow, decide_eq_true hj, Bool.true_and, Nat.add_comm]
  have h0 : ∀ j, j < 8 → (x.toNat % 256).testBit j = x.toNat.testBit j := fun j hj => by
    rw [show (256 : Nat) = 2 ^ 8 by decide, Nat.testBit_mod_two_pow, decide_eq_true hj, Bool.true_and]
  rw [hw]
  show bits8 _ ++ (bits8 _ ++ (bits8 _ ++ (bits8 _ ++ []))) = _
  unfold bits8
  rw [h24 7 (by decide), h24 6 (by decide), h24 5 (by decide), h24 4 (by decide), h24 3 (by decide), h24 2 (by decide), h24 1 (by decide), h24 0 (by decide),
    h16 7 (by decide), h16 6 (by decide), h16 5 (by decide), h16 4 (by decide), h16 3 (by decide), h16 2 (by decide), h16 1 (by decide), h16 0 (by decide),
    h8 7 (by decide), h8 6 (by decide), h8 5 (by decide), h8 4 (by decide), h8 3 (by decide), h8 2 (by decide), h8 1 (by decide), h8 0 (by decide),
    h0 7 (by decide), h0 6 (by decide), h0 5 (by decide), h0 4 (by decide), h0 3 (by decide), h0 2 (by decide), h0 1 (by decide), h0 0 (by decide)]
  rfl
theorem crc_own (x : BitVec 32) : crcFrom x (b4 x.toNat) = 0#32 := by
  rw [crcFrom_bits _ _ (b4_lt _), bits_b4, feeds_own]
  apply BitVec.eq_of_toNat_eq
  rw [BitVec.toNat_shiftLeft, Nat.shiftLeft_eq]
  simp
theorem crc_withSum (t : List Nat) : crcFrom 4294967295#32 (t ++ b4 (crc t).toNat) = 0#32 := by
  rw [crcFrom_append]
  exact crc_own _
def bitAt (l : List Nat) (j : Nat) : Bool := (l[j / 8]?.getD 0).testBit (7 - j % 8)
theorem bitsOf_length (l : List Nat) : (bitsOf l).length = 8 * l.length := by
  induction l with
  | nil => rfl
  | cons c l ih =>
    show (bits8 c ++ bitsOf l).length = _
    rw [List.length_append, ih]
    simp [bits8]; omega
theorem bitsOf_at : ∀ (l : List Nat) (j : Nat), j < 8 * l.length → (bitsOf l)[j]? = some (bitAt l j)
  | [], j, h => by simp at h
  | c :: l, j, h => by
    show (bits8 c ++ bitsOf l)[j]? = _
    by_cases hj : j < 8
    · rw [List.getElem?_append_left (by simp [bits8]; omega)]
      rcases (by omega : j = 0 ∨ j = 1 ∨ j = 2 ∨ j = 3 ∨ j = 4 ∨ j = 5 ∨ j = 6 ∨ j = 7) with rfl | rfl | rfl | rfl | rfl | rfl | rfl | rfl <;> rfl
    · rw [List.getElem?_append_right (by simp [bits8]; omega)]
      have e : (bits8 c).length = 8 := rfl
      rw [e, bitsOf_at l (j - 8) (by simp at h; omega)]
      unfold bitAt
      rw [show j / 8 = (j - 8) / 8 + 1 by omega, List.getElem?_cons_succ, show (j - 8) % 8 = j % 8 by omega]
theorem burst (l m : List Nat) (x : BitVec 32) (a : Nat) (hl : ∀ c ∈ l, c < 256) (hm : ∀ c ∈ m, c < 256) (hlen : l.length = m.length)
    (hout : ∀ j, j < 8 * l.length → (j < a ∨ a + 32 ≤ j) → bitAt l j = bitAt m j) (hsome : ∃ j, j < 8 * l.length ∧ bitAt l j ≠ bitAt m j)
    (h1 : crcFrom x l = 0#32) (h2 : crcFrom x m = 0#32) : False := by
  have hx := feeds_xor (bitsOf l) (bitsOf m) x x (by rw [bitsOf_length, bitsOf_length, hlen])
  rw [← crcFrom_bits l x hl, ← crcFrom_bits m x hm, h1, h2, BitVec.xor_self, BitVec.xor_self] at hx
  obtain ⟨j0, hj0, hne⟩ := hsome
  have ha : a ≤ j0 ∧ j0 < a + 32 := by
    by_cases h : a ≤ j0 ∧ j0 < a + 32
    · exact h
    · exact absurd (hout j0 hj0 (by omega)) hne
  obtain ⟨n, hn⟩ : ∃ n, n = min 32 (8 * l.length - a) := ⟨_, rfl⟩
  have hz : List.zipWith (fun a b => a ^^ b) (bitsOf l) (bitsOf m) = List.replicate a false ++ ((List.range n).map (fun i => bitAt l (a + i) ^^ bitAt m (a + i)) ++ List.replicate (8 * l.length - a - n) false) := by
    apply List.ext_getElem?
    intro j
    rw [List.getElem?_zipWith]
    by_cases hj : j < 8 * l.length
    · rw [bitsOf_at l j hj, bitsOf_at m j (by omega)]
      show some (bitAt l j ^^ bitAt m j) = _
      by_cases q1 : j < a
      · rw [List.getElem?_append_left (by simpa using q1), hout j hj (.inl q1)]
        simp [q1]
      · rw [List.getElem?_append_right (by simp; omega), List.length_replicate]
        by_cases q2 : j - a < n
        · rw [List.getElem?_append_left (by simpa using q2)]
          simp [q2, show a + (j - a) = j by omega]
        · rw [List.getElem?_append_right (by simp; omega), List.length_map, List.length_range, hout j hj (.inr (by omega)), List.getElem?_replicate, if_pos (by omega)]
          simp
    · have hr : (List.replicate a false ++ ((List.range n).map (fun i => bitAt l (a + i) ^^ bitAt m (a + i)) ++ List.replicate (8 * l.length - a - n) false)).length ≤ j := by
        simp only [List.length_append, List.length_replicate, List.length_map, List.length_range]
        omega
      rw [List.getElem?_eq_none (show (bitsOf l).length ≤ j by rw [bitsOf_length]; omega), List.getElem?_eq_none hr]
  rw [hz, feeds_append, feeds_zeros, steps_zero, feeds_append, feeds_zeros] at hx
  have h0 := steps_inj _ _ hx
  refine feeds_short _ (by simp; omega) ?_ h0
  rw [List.mem_map]
  refine ⟨j0 - a, by simp; omega, ?_⟩
  rw [show a + (j0 - a) = j0 by omega]
  cases hb1 : bitAt l j0 <;> cases hb2 : bitAt m j0 <;> simp_all
end Go.Proofs.YtaablbmgagiajabGreatDoor
namespace Go.Proofs.YtaablbmgagiajabGreatDoor
theorem bytesN_at : ∀ (l : List Int) (i j : Nat), i < l.length → j < 3 → (bytesN l)[3 * i + j]?.getD 0 = (b3 (l[i]?.getD 0).toNat)[j]?.getD 0
  | [], i, _, h, _ => by simp at h
  | x :: l, i, j, h, hj => by
    show (b3 x.toNat ++ bytesN l)[3 * i + j]?.getD 0 = _
    have e : (b3 x.toNat).length = 3 := rfl
    cases i with
    | zero => rw [List.getElem?_append_left (by rw [e]; omega), Nat.mul_zero, Nat.zero_add]; rfl
    | succ i =>
      rw [List.getElem?_append_right (by rw [e]; omega), e, show 3 * (i + 1) + j - 3 = 3 * i + j by omega, List.getElem?_cons_succ]
      exact bytesN_at l i j (by simpa using h) hj
theorem read_bytes (l : List Int) (h : ∀ x ∈ l, 0 ≤ x ∧ x < 16777216) : readF (bytesN l) = l := by
  unfold readF
  rw [bytesN_length, show 3 * l.length / 3 = l.length by omega]
  apply List.ext_getElem?
  intro i
  by_cases hi : i < l.length
  · have hx := h _ (List.getElem_mem hi)
    rw [List.getElem?_eq_getElem hi]
    unfold readN
    rw [List.getElem?_map, List.getElem?_range hi]
    simp only [Option.map_some, Option.some.injEq]
    unfold num3
    have e0 := bytesN_at l i 0 hi (by omega)
    have e1 := bytesN_at l i 1 hi (by omega)
    have e2 := bytesN_at l i 2 hi (by omega)
    rw [Nat.add_zero] at e0
    rw [e0, e1, e2, List.getElem?_eq_getElem hi]
    show ((l[i].toNat / 65536 % 256 * 65536 + l[i].toNat / 256 % 256 * 256 + l[i].toNat % 256 : Nat) : Int) = l[i]
    omega
  · rw [List.getElem?_eq_none (by rw [readN_length]; omega), List.getElem?_eq_none (by omega)]
theorem told_with (t : List Nat) : toldN (withSum t) = t := by
  unfold toldN
  rw [withSum_length, Nat.add_sub_cancel]
  unfold withSum
  simp
theorem last_with (t : List Nat) : lastN (withSum t) = b4 (crc t).toNat := by
  unfold lastN
  rw [withSum_length, Nat.add_sub_cancel]
  unfold withSum
  simp
theorem stNums_congr {F G : FR} (h : ∀ k, k < 23 → F k = G k) : ∀ n, n ≤ 8 → stNums F n = stNums G n
  | 0, _ => rfl
  | n + 1, hn => by unfold stNums; rw [stNums_congr h n (by omega), h (7 + n) (by omega), h (15 + n) (by omega)]
theorem nums_congr {F G : FR} (h : ∀ k, k < 23 → F k = G k) : numsF F = numsF G := by
  unfold numsF
  rw [h 0 (by omega), h 1 (by omega), h 2 (by omega), h 3 (by omega), h 4 (by omega), h 5 (by omega), h 6 (by omega), stNums_congr h 8 (by omega)]
theorem may_congr {F G : FR} (h : ∀ k, k < 23 → F k = G k) : mayB F = mayB G := by
  have he : eqB F (framedF (numsF G)) = eqB G (framedF (numsF G)) := by
    rw [Bool.eq_iff_iff, eqB_iff, eqB_iff]
    exact ⟨fun q k hk => by rw [← h k hk]; exact q k hk, fun q k hk => by rw [h k hk]; exact q k hk⟩
  unfold mayB headB
  rw [nums_congr h, he, h 0 (by omega), h 1 (by omega)]
theorem enc_congr {F G : FR} (h : ∀ k, k < 23 → F k = G k) : encF F = encF G := by unfold encF; rw [nums_congr h]
theorem may_parts {F : FR} (h : mayB F = true) : headB F = true ∧ (∀ x ∈ numsF F, 0 ≤ x ∧ x ≤ 1048576) ∧ ∀ k, k < 23 → F k = framedF (numsF F) k := by
  unfold mayB at h
  simp only [Bool.and_eq_true, List.all_eq_true] at h
  refine ⟨h.1, fun x hx => ?_, (eqB_iff _ _).1 h.2.2⟩
  have := h.2.1 x hx
  unfold fitsB at this
  simpa using this
theorem enc_len (F : FR) : 13 ≤ (encF F).length ∧ (encF F).length ≤ 64 := by
  have := nums_length_le F
  have := nums_length_ge F
  rw [encF_length]
  omega
theorem dec_enc {F : FR} (h : mayB F = true) : ∃ G, decF (encF F) = (0, G) ∧ ∀ k, k < 23 → G k = F k := by
  obtain ⟨_, h2, h3⟩ := may_parts h
  have hl := enc_len F
  have ht : toldN (encF F) = bytesN (numsF F) := told_with _
  have hr : readF (toldN (encF F)) = numsF F := by rw [ht]; exact read_bytes _ fun x hx => by have := h2 x hx; omega
  refine ⟨framedF (numsF F), ?_, fun k hk => (h3 k hk).symm⟩
  have hc : ∀ k, k < 23 → framedF (numsF F) k = F k := fun k hk => (h3 k hk).symm
  have hs : b4 (crc (toldN (encF F))).toNat = lastN (encF F) := by rw [ht]; exact (last_with _).symm
  have := dec_ok (l := encF F) (by omega) (by omega) hs (by rw [hr]; exact ⟨(may_congr hc).trans h, enc_congr hc⟩)
  rw [this, hr]
theorem dec_cases (l : List Nat) : ((decF l).1 ≠ 0 ∧ (decF l).2 = fr0) ∨ ((decF l).1 = 0 ∧ mayB (decF l).2 = true ∧ encF (decF l).2 = l ∧ 7 ≤ l.length) := by
  by_cases h : l.length < 7 ∨ 80 < l.length
  · left; rw [dec_form h]; exact ⟨by simp, rfl⟩
  · by_cases hs : b4 (crc (toldN l)).toNat = lastN l
    · by_cases hn : mayB (framedF (readF (toldN l))) = true ∧ encF (framedF (readF (toldN l))) = l
      · right; rw [dec_ok (by omega) (by omega) hs hn]; exact ⟨rfl, hn.1, hn.2, by omega⟩
      · left; rw [dec_not (by omega) (by omega) hs hn]; exact ⟨by simp, rfl⟩
    · left; rw [dec_spoilt (by omega) (by omega) hs]; exact ⟨by simp, rfl⟩
theorem dec_burst (F : FR) (m : List Nat) (a : Nat) (hm : ∀ c ∈ m, c < 256) (hlen : m.length = (encF F).length)
    (hout : ∀ j, j < 8 * m.length → (j < a ∨ a + 32 ≤ j) → bitAt m j = bitAt (encF F) j) (hsome : ∃ j, j < 8 * m.length ∧ bitAt m j ≠ bitAt (encF F) j) : (decF m).1 ≠ 0 ∧ (decF m).2 = fr0 := by
  rcases dec_cases m with q | ⟨_, _, q2, _⟩
  · exact q
  · exfalso
    have h1 : crcFrom 4294967295#32 m = 0#32 := by rw [← q2]; exact crc_withSum _
    have h2 : crcFrom 4294967295#32 (encF F) = 0#32 := crc_withSum _
    exact burst m (encF F) _ a hm (encF_lt F) hlen hout hsome h1 h2
def flipB (l : List Nat) (j : Nat) : List Nat := l.set (j / 8) ((l[j / 8]?.getD 0) ^^^ 2 ^ (7 - j % 8))
theorem flipB_length (l : List Nat) (j : Nat) : (flipB l j).length = l.length := by simp [flipB]
theorem flipB_lt {l : List Nat} (j : Nat) (h : ∀ c ∈ l, c < 256) : ∀ c ∈ flipB l j, c < 256 := by
  intro c hc
  rcases List.mem_or_eq_of_mem_set hc with q | q
  · exact h c q
  · subst q
    have h1 : l[j / 8]?.getD 0 < 2 ^ 8 := by
      by_cases hj : j / 8 < l.length
      · rw [List.getElem?_eq_getElem hj]; exact h _ (List.getElem_mem hj)
      · rw [List.getElem?_eq_none (by omega)]; simp
    exact Nat.xor_lt_two_pow h1 (Nat.pow_lt_pow_right (by decide) (by omega))
theorem bitAt_flip (l : List Nat) (j k : Nat) (hj : j < 8 * l.length) : bitAt (flipB l j) k = (bitAt l k ^^ decide (k = j)) := by
  unfold bitAt flipB
  by_cases h : k / 8 = j / 8
  · rw [h, List.getElem?_set_self (by omega)]
    simp only [Option.getD_some]
    rw [Nat.testBit_xor, Nat.testBit_two_pow]
    congr 1
    rw [Bool.eq_iff_iff, decide_eq_true_iff, decide_eq_true_iff]
    omega
  · rw [List.getElem?_set_ne (fun e => h e.symm), decide_eq_false (fun e => h (by rw [e])), Bool.xor_false]
end Go.Proofs.YtaablbmgagiajabGreatDoor
namespace Go.Proofs.YtaablbmgagiajabGreatDoor
open Go.RowKit Go.Deep
structure OwnB (w : World) (base g n cp : Nat) (l : List Nat) : Prop where
  own : w.ownsRow base 5 1 (.slice (some ⟨g, 0, none⟩) n cp) n (u8s l)
  len : l.length = n
  lt : ∀ c ∈ l, c < 256
theorem OwnB.parts {w : World} {base g n cp : Nat} {l : List Nat} (h : OwnB w base g n cp l) : base ≤ g ∧ g < w.heap.size ∧ n ≤ cp := by
  rcases h.own.2 with ⟨h', _⟩ | ⟨g', cap', cur, h', hb, hg, hnc, _⟩
  · simp at h'
  · simp only [Value.slice.injEq, Option.some.injEq, Addr.mk.injEq, and_true, true_and] at h'
    obtain ⟨rfl, rfl⟩ := h'
    exact ⟨hb, blk_lt hg, hnc⟩
theorem OwnB.at {w : World} {base g n cp : Nat} {l : List Nat} (h : OwnB w base g n cp l) {k : Nat} (hk : k < n) : w.cell? ⟨g, k, none⟩ = some (.int .u8 ((l[k]?.getD 0 : Nat) : Int)) := by
  rw [h.own.cellAt k (by omega)]
  simp [u8s, show k < l.length by rw [h.len]; exact hk]
theorem OwnB.isB {w : World} {base g n cp : Nat} {l : List Nat} (h : OwnB w base g n cp l) : IsB w (some ⟨g, 0, none⟩) n cp l := by
  obtain ⟨_, h2, h3⟩ := h.parts
  refine ⟨h.len, h3, h.lt, .inr ⟨g, 0, rfl, h2, fun k hk => ?_⟩⟩
  rw [Nat.zero_add]
  exact h.at (by rw [← h.len]; exact hk)
theorem OwnB.below {w wx : World} {base g n cp : Nat} {l : List Nat} (h : OwnB w base g n cp l) (hB : Below w.heap.size w wx) : OwnB wx base g n cp l := ⟨owns_below h.own hB, h.len, h.lt⟩
theorem OwnB.free {w : World} {base g n cp : Nat} {l : List Nat} (h : OwnB w base g n cp l) (k : Nat) : w.frozen? ⟨g, k, none⟩ = false := h.own.frozenAt k
theorem OwnB.set {w : World} {base g n cp : Nat} {l : List Nat} (h : OwnB w base g n cp l) (k c : Nat) (hc : c < 256) : OwnB (w.setCell ⟨g, k, none⟩ (.int .u8 (c : Int))) base g n cp (l.set k c) := by
  refine ⟨?_, by rw [List.length_set]; exact h.len, fun d hd => ?_⟩
  · have := (h.own.stored k (.int .u8 (c : Int))).1
    unfold u8s at this ⊢
    rwa [List.map_set]
  · rcases List.mem_or_eq_of_mem_set hd with q | q
    · exact h.lt d q
    · omega
end Go.Proofs.YtaablbmgagiajabGreatDoor
namespace Go.Proofs.YtaablbmgagiajabGreatDoor
open Go.RowKit Go.Deep
def wBit (what i : Nat) : Bool := what.testBit (31 - i)
def flipTo (l : List Nat) (a what : Nat) : Nat → List Nat
  | 0 => l
  | i + 1 => if (wBit what i && decide (a + i < 8 * l.length)) = true then flipB (flipTo l a what i) (a + i) else flipTo l a what i
def someTo (l : List Nat) (a what : Nat) : Nat → Bool
  | 0 => false
  | i + 1 => if (wBit what i && decide (a + i < 8 * l.length)) = true then true else someTo l a what i
theorem flipTo_length (l : List Nat) (a what i : Nat) : (flipTo l a what i).length = l.length := by
  induction i with
  | zero => rfl
  | succ i ih => unfold flipTo; split <;> simp [flipB_length, ih]
theorem flipTo_lt {l : List Nat} (a what i : Nat) (h : ∀ c ∈ l, c < 256) : ∀ c ∈ flipTo l a what i, c < 256 := by
  induction i with
  | zero => exact h
  | succ i ih =>
    unfold flipTo
    split
    · exact flipB_lt _ ih
    · exact ih
theorem bitAt_flipTo (l : List Nat) (a what i k : Nat) (hk : k < 8 * l.length) : bitAt (flipTo l a what i) k = (bitAt l k ^^ (decide (a ≤ k) && (decide (k < a + i) && wBit what (k - a)))) := by
  induction i with
  | zero =>
    unfold flipTo
    have e : (decide (a ≤ k) && (decide (k < a + 0) && wBit what (k - a))) = false := by
      by_cases h : a ≤ k
      · rw [decide_eq_false (show ¬ k < a + 0 by omega)]; simp
      · rw [decide_eq_false h]; rfl
    rw [e, Bool.xor_false]
  | succ i ih =>
    unfold flipTo
    by_cases hki : k = a + i
    · subst hki
      have e : a + i - a = i := by omega
      rw [e] at ih ⊢
      rw [decide_eq_true (show a ≤ a + i by omega), decide_eq_true (show a + i < a + (i + 1) by omega)]
      rw [decide_eq_false (show ¬ a + i < a + i by omega)] at ih
      rw [decide_eq_true hk, Bool.and_true]
      cases hw : wBit what i
      · rw [if_neg (by decide), ih]; simp
      · rw [if_pos rfl, bitAt_flip _ _ _ (by rw [flipTo_length]; exact hk), ih]; simp
    · have e1 : decide (k < a + (i + 1)) = decide (k < a + i) := by
        rw [Bool.eq_iff_iff, decide_eq_true_iff, decide_eq_true_iff]; omega
      rw [e1]
      split
      · rename_i hc
        have : a + i < 8 * l.length := by
          simp only [Bool.and_eq_true, decide_eq_true_eq] at hc
          exact hc.2
        rw [bitAt_flip _ _ _ (by rw [flipTo_length]; exact this), ih, decide_eq_false hki, Bool.xor_false]
      · exact ih
theorem someTo_ex {l : List Nat} {a what i : Nat} (h : someTo l a what i = true) : ∃ j, j < i ∧ wBit what j = true ∧ a + j < 8 * l.length := by
  induction i with
  | zero => exact absurd h (by simp [someTo])
  | succ i ih =>
    unfold someTo at h
    split at h
    · rename_i hc
      simp only [Bool.and_eq_true, decide_eq_true_eq] at hc
      exact ⟨i, by omega, hc.1, hc.2⟩
    · obtain ⟨j, h1, h2, h3⟩ := ih h
      exact ⟨j, by omega, h2, h3⟩
theorem dec_flip (F : FR) (a what : Nat) (h : someTo (encF F) a what 32 = true) : (decF (flipTo (encF F) a what 32)).1 ≠ 0 ∧ (decF (flipTo (encF F) a what 32)).2 = fr0 := by
  refine dec_burst F _ a (flipTo_lt a what 32 (encF_lt F)) (flipTo_length _ _ _ _) (fun j hj ho => ?_) ?_
  · rw [flipTo_length] at hj
    rw [bitAt_flipTo _ _ _ _ _ hj]
    rcases ho with ho | ho
    · rw [decide_eq_false (show ¬ a ≤ j by omega)]; simp
    · rw [decide_eq_false (show ¬ j < a + 32 by omega)]; simp
  · obtain ⟨j, h1, h2, h3⟩ := someTo_ex h
    refine ⟨a + j, by rw [flipTo_length]; exact h3, ?_⟩
    rw [bitAt_flipTo _ _ _ _ _ h3, decide_eq_true (show a ≤ a + j by omega), decide_eq_true (show a + j < a + 32 by omega), show a + j - a = j by omega, h2]
    cases bitAt (encF F) (a + j) <;> decide
theorem flip_no {l : List Nat} {a what k : Nat} (h : (wBit what k && decide (a + k < 8 * l.length)) = false) : flipTo l a what (k + 1) = flipTo l a what k ∧ someTo l a what (k + 1) = someTo l a what k := by
  constructor
  · rw [flipTo, h]; simp
  · rw [someTo, h]; simp
theorem flip_yes {l : List Nat} {a what k : Nat} (h : (wBit what k && decide (a + k < 8 * l.length)) = true) : flipTo l a what (k + 1) = flipB (flipTo l a what k) (a + k) ∧ someTo l a what (k + 1) = true := by
  constructor
  · rw [flipTo, if_pos h]
  · rw [someTo, if_pos h]
theorem shr128 (r p : Nat) (h : r < 8) (hp : 2 ^ (7 - r) = p) : (128 : Int) / 2 ^ min r 8 = (p : Int) := by
  subst hp
  rcases (by omega : r = 0 ∨ r = 1 ∨ r = 2 ∨ r = 3 ∨ r = 4 ∨ r = 5 ∨ r = 6 ∨ r = 7) with rfl | rfl | rfl | rfl | rfl | rfl | rfl | rfl <;> decide
theorem xor8 (a b : Nat) (ha : a < 2 ^ 8) (hb : b < 2 ^ 8) : bits .xor .u8 (a : Int) (b : Int) = ((a ^^^ b : Nat) : Int) := by
  show IntKind.u8.wrap (((BitVec.ofInt 8 _ ^^^ BitVec.ofInt 8 _).toNat : Nat) : Int) = _
  rw [BitVec.toNat_xor, show (BitVec.ofInt 8 (a : Int)).toNat = a by rw [BitVec.toNat_ofInt]; omega, show (BitVec.ofInt 8 (b : Int)).toNat = b by rw [BitVec.toNat_ofInt]; omega]
  have := Nat.xor_lt_two_pow ha hb
  simp [IntKind.wrap, IntKind.bits, IntKind.signed]
  omega
theorem OwnB.get_lt {w : World} {base g n cp : Nat} {l : List Nat} (h : OwnB w base g n cp l) (k : Nat) : l[k]?.getD 0 < 256 := by
  by_cases hk : k < l.length
  · rw [List.getElem?_eq_getElem hk]; exact h.lt _ (List.getElem_mem hk)
  · rw [List.getElem?_eq_none (by omega)]; decide
end Go.Proofs.YtaablbmgagiajabGreatDoor
namespace Go.Proofs.YtaablbmgagiajabGreatDoor
open Go.RowKit Go.Deep
def tabL : List Nat := [0, 1, 28, 2, 29, 14, 24, 3, 30, 22, 20, 15, 25, 17, 4, 8, 31, 27, 13, 23, 21, 19, 16, 7, 26, 12, 18, 6, 11, 5, 10, 9]
def HasTab (w : World) : Prop := ∀ k, k < 32 → w.cell? ⟨1, k, none⟩ = some (.int .u8 ((tabL[k]?.getD 0 : Nat) : Int))
theorem HasTab.below {w w' : World} (h : HasTab w) (hB : Below w.heap.size w w') (_ : 0 < w.heap.size) : HasTab w' := fun k hk => (hB.cell (p := ⟨1, k, none⟩) (World.block_lt_of_cell? _ _ (h k hk))).trans (h k hk)
theorem low_bit (x : Nat) (h : x ≠ 0) : ∃ t m, x = 2 ^ (t + 1) * m + 2 ^ t := by
  induction x using Nat.strongRecOn with
  | _ x ih =>
    by_cases e : x % 2 = 1
    · exact ⟨0, x / 2, by simp; omega⟩
    · obtain ⟨t, m, hm⟩ := ih (x / 2) (by omega) (by omega)
      refine ⟨t + 1, m, ?_⟩
      have hx : x = 2 * (x / 2) := by omega
      rw [hx, hm, Nat.mul_add, Nat.pow_succ 2 (t + 1), Nat.pow_succ 2 t]
      have : 2 * (2 ^ t * 2 * m) = 2 ^ t * 2 * 2 * m := by rw [Nat.mul_comm 2, Nat.mul_assoc, Nat.mul_assoc, Nat.mul_assoc, Nat.mul_assoc, Nat.mul_comm m 2]
      rw [this, Nat.mul_comm 2 (2 ^ t)]
theorem low_lt {x t m : Nat} (hx : x < 4294967296) (h : x = 2 ^ (t + 1) * m + 2 ^ t) : t < 32 := by
  refine Nat.lt_of_not_le fun hge => ?_
  have : 2 ^ 32 ≤ 2 ^ t := Nat.pow_le_pow_right (by decide) hge
  omega
theorem low_bits {x t m : Nat} (h : x = 2 ^ (t + 1) * m + 2 ^ t) (i : Nat) : x.testBit i = if i < t + 1 then decide (i = t) else m.testBit (i - (t + 1)) := by
  rw [h, Nat.testBit_two_pow_mul_add m (Nat.pow_lt_pow_right (by decide) (Nat.lt_succ_self t)), Nat.testBit_two_pow]
  split
  · congr 1; rw [eq_iff_iff]; omega
  · rfl
theorem low_pred {x t m : Nat} (h : x = 2 ^ (t + 1) * m + 2 ^ t) (i : Nat) : (x - 1).testBit i = if i < t + 1 then decide (i < t) else m.testBit (i - (t + 1)) := by
  have hp := Nat.two_pow_pos t
  have e : x - 1 = 2 ^ (t + 1) * m + (2 ^ t - 1) := by omega
  have hl : 2 ^ t - 1 < 2 ^ (t + 1) := by have := Nat.pow_lt_pow_right (a := 2) (by decide) (Nat.lt_succ_self t); omega
  rw [e, Nat.testBit_two_pow_mul_add m hl, Nat.testBit_two_pow_sub_one]
theorem low_and {x t m : Nat} (hx : x < 4294967296) (h : x = 2 ^ (t + 1) * m + 2 ^ t) : x &&& (4294967296 - x) = 2 ^ t := by
  have hp := Nat.two_pow_pos t
  have h0 : 0 < x := by omega
  have e : 4294967296 - x = 2 ^ 32 - ((x - 1) + 1) := by omega
  apply Nat.eq_of_testBit_eq
  intro i
  rw [Nat.testBit_and, e, Nat.testBit_two_pow_sub_succ (by omega), low_bits h i, low_pred h i, Nat.testBit_two_pow]
  have ht := low_lt hx h
  by_cases hi : i < t + 1
  · rw [if_pos hi, if_pos hi]
    by_cases hit : i = t
    · subst hit; simp; omega
    · have h1 : decide (t = i) = false := decide_eq_false (fun e => hit e.symm)
      rw [decide_eq_false hit, h1]; rfl
  · have h1 : decide (t = i) = false := decide_eq_false (by omega)
    rw [if_neg hi, if_neg hi, h1]
    cases m.testBit (i - (t + 1)) <;> simp
theorem tab_at {t : Nat} (ht : t < 32) : (2 ^ t * 125613361 % 4294967296) / 134217728 < 32 ∧ tabL[(2 ^ t * 125613361 % 4294967296) / 134217728]?.getD 0 = t := by
  have : ∀ t : Fin 32, (2 ^ t.val * 125613361 % 4294967296) / 134217728 < 32 ∧ tabL[(2 ^ t.val * 125613361 % 4294967296) / 134217728]?.getD 0 = t.val := by decide +kernel
  exact this ⟨t, ht⟩
theorem and32 (a b : Nat) (ha : a < 4294967296) (hb : b < 4294967296) : bits .and .u32 (a : Int) (b : Int) = ((a &&& b : Nat) : Int) := by
  show IntKind.u32.wrap (((BitVec.ofInt 32 _ &&& BitVec.ofInt 32 _).toNat : Nat) : Int) = _
  rw [BitVec.toNat_and, show (BitVec.ofInt 32 (a : Int)).toNat = a by rw [BitVec.toNat_ofInt]; omega, show (BitVec.ofInt 32 (b : Int)).toNat = b by rw [BitVec.toNat_ofInt]; omega]
  exact wrap_u32 _ (Nat.lt_of_le_of_lt Nat.and_le_left ha)
theorem neg32 {x : Nat} (hx : x < 4294967296) (h0 : x ≠ 0) : IntKind.u32.wrap (-(x : Int)) = ((4294967296 - x : Nat) : Int) := by
  simp [IntKind.wrap, IntKind.bits, IntKind.signed]
  omega
theorem mul32 (z : Nat) : IntKind.u32.wrap ((z : Int) * 125613361) = ((z * 125613361 % 4294967296 : Nat) : Int) := by
  simp [IntKind.wrap, IntKind.bits, IntKind.signed]
theorem tz_facts {x t m : Nat} (hx : x < 4294967296) (h : x = 2 ^ (t + 1) * m + 2 ^ t) : ∃ y z u v : Nat, IntKind.u32.wrap (-(x : Int)) = (y : Int) ∧ bits .and .u32 (x : Int) (y : Int) = (z : Int) ∧ IntKind.u32.wrap ((z : Int) * 125613361) = (u : Int) ∧ (u : Int) / 134217728 = (v : Int) ∧ v < 32 ∧ tabL[v]?.getD 0 = t := by
  have ht := low_lt hx h
  have hx0 : x ≠ 0 := by have := Nat.two_pow_pos t; omega
  refine ⟨4294967296 - x, 2 ^ t, 2 ^ t * 125613361 % 4294967296, 2 ^ t * 125613361 % 4294967296 / 134217728, neg32 hx hx0, ?_, mul32 _, by simp, (tab_at ht).1, (tab_at ht).2⟩
  rw [and32 _ _ hx (by omega), low_and hx h]
set_option maxHeartbeats 1000000 in
set_option maxRecDepth 20000 in
theorem tz_walk (x t y z u v : Nat) (w : World) (hx0' : ((x : Int) == 0) = false) (e7 : IntKind.u32.wrap (-(x : Int)) = (y : Int)) (e8 : bits .and .u32 (x : Int) (y : Int) = (z : Int)) (e9 : IntKind.u32.wrap ((z : Int) * 125613361) = (u : Int)) (e10 : (u : Int) / 134217728 = (v : Int)) (hv' : (v : Int) < 32) (ct : w.cell? ⟨1, v, none⟩ = some (.int .u8 (t : Int))) :
    Calls Tryz.prog 177 #[.int .u32 (x : Int)] w fun e w' => e = .returned (.int .i64 (wrap64 (t : Int))) ∧ w' = w := by
  go_enter Tryz.func177, Tryz.ntmps177
  go_wp2
  go_ret
  exact ⟨rfl, rfl⟩
theorem tz_any (x t m : Nat) (w : World) (hx : x < 4294967296) (h : x = 2 ^ (t + 1) * m + 2 ^ t) (hT : HasTab w) :
    Calls Tryz.prog 177 #[.int .u32 (x : Int)] w fun e w' => e = .returned (.int .i64 (t : Int)) ∧ w' = w := by
  have ht := low_lt hx h
  have hx0 : x ≠ 0 := by have := Nat.two_pow_pos t; omega
  obtain ⟨y, z, u, v, e7, e8, e9, e10, hv, htv⟩ := tz_facts hx h
  have := tz_walk x t y z u v w (by simpa using hx0) e7 e8 e9 e10 (by omega) (by rw [hT v hv, htv])
  rw [IntWalk.wrap64_in _ ⟨by omega, by omega⟩] at this
  exact this
end Go.Proofs.YtaablbmgagiajabGreatDoor
namespace Go.Proofs.YtaablbmgagiajabGreatDoor
open Go.RowKit Go.Deep
structure Cm where
  c : Int
  v : Int
  o : Int
def cm0 : Cm := ⟨0, 0, 0⟩
structure VS where
  tr : List Cm
  b : Nat → Bool
  x : Nat → Cm
  left : Nat
  out : Nat
  lat : Bool
def vs0 (win : Nat) : VS := ⟨[], fun _ => false, fun _ => cm0, win, 0, false⟩
structure VOk (win : Nat) (S : VS) : Prop where
  w1 : 1 ≤ win
  w2 : win ≤ 20
  few : S.tr.length ≤ 1000
  full : S.tr.length = 1000 → S.lat = true
  out : S.out < 8
  left : S.left ≤ 20
  pos : S.lat = false → 1 ≤ S.left
theorem VOk.new {win : Nat} (h1 : 1 ≤ win) (h2 : win ≤ 20) : VOk win (vs0 win) := ⟨h1, h2, by simp [vs0], by simp [vs0], by simp [vs0], h2, fun _ => h1⟩
def eqIn (a d : Cm) : Bool := a.c == d.c && a.v == d.v
def eqCm (a d : Cm) : Bool := eqIn a d && a.o == d.o
theorem eqCm_iff {a d : Cm} : eqCm a d = true ↔ a = d := by
  cases a; cases d
  simp [eqCm, eqIn, and_assoc]
def likeB (b : Nat → Bool) (x : Nat → Cm) (d : Cm) (k : Nat) : Bool := b k && eqCm (x k) d
def agB (b : Nat → Bool) (x : Nat → Cm) (d : Cm) (k : Nat) : Bool := (b k && eqIn (x k) d) && (x k).o != d.o
def secTo (b : Nat → Bool) (x : Nat → Cm) (d : Cm) (r : Nat) : Nat → Bool
  | 0 => false
  | k + 1 => secTo b x d r k || (k != r && likeB b x d k)
def agTo (b : Nat → Bool) (x : Nat → Cm) (d : Cm) : Nat → Nat
  | 0 => 0
  | k + 1 => if agB b x d k then agTo b x d k ||| 2 ^ k else agTo b x d k
theorem agTo_lt (b : Nat → Bool) (x : Nat → Cm) (d : Cm) (k n : Nat) (h : k ≤ n) : agTo b x d k < 2 ^ n := by
  induction k with
  | zero => exact Nat.two_pow_pos n
  | succ k ih =>
    unfold agTo
    split
    · exact or_bit_lt (ih (by omega)) (by omega)
    · exact ih (by omega)
theorem agTo_bit (b : Nat → Bool) (x : Nat → Cm) (d : Cm) (n k : Nat) : (agTo b x d n).testBit k = (decide (k < n) && agB b x d k) := by
  induction n with
  | zero => simp [agTo]
  | succ n ih =>
    unfold agTo
    by_cases e : k = n
    · subst e
      split
      · rename_i h; rw [Nat.testBit_or, ih, two_bit, h]; simp
      · rename_i h; rw [ih]; simp [Bool.eq_false_iff.2 h]
    · have hd : decide (k < n + 1) = decide (k < n) := by rw [decide_eq_decide]; omega
      split
      · rw [Nat.testBit_or, ih, two_bit, decide_eq_false (by omega : ¬ n = k), hd]; simp
      · rw [ih, hd]
def doneF (k : Nat) (d : Cm) : FR := votF 3 3 (k : Int) d.c d.v d.o
def cmAt (l : List Cm) (k : Nat) : Cm := l[k]?.getD cm0
def pastF (l : List Cm) (k : Nat) : List FR := if k + 1 = l.length then [doneF k (cmAt l k)] else [doneF k (cmAt l k), doneF (l.length - 1) (cmAt l (l.length - 1))]
def kindB (F : FR) : Bool := F 0 == 2 || F 0 == 4
def fromB (F : FR) : Bool := decide (0 ≤ F 1) && decide (F 1 < 3)
def hearB (S : VS) (F : FR) : Bool := kindB F && (fromB F && (!S.out.testBit (F 1).toNat && decide (0 ≤ F 2)))
def outN (S : VS) (d : Cm) : Nat := S.out ||| agTo S.b S.x d 3
def commitS (win : Nat) (S : VS) (d : Cm) : VS := ⟨S.tr ++ [d], fun _ => false, fun _ => cm0, win, outN S d, decide (2 ≤ pop 8 (outN S d)) || decide (1000 ≤ S.tr.length + 1)⟩
def castS (S : VS) (k : Nat) (d : Cm) : VS := ⟨S.tr, upd S.b k true, upd S.x k d, S.left, S.out, S.lat⟩
def cmF (F : FR) : Cm := ⟨F 3, F 4, F 5⟩
def passB (S : VS) (F : FR) : Bool := (decide ((S.tr.length : Int) < F 2) || F 0 == 4) || S.lat
def takeF (win : Nat) (S : VS) (F : FR) : VS × List FR × Bool :=
  if hearB S F = false then (S, [], false)
  else if F 2 < S.tr.length then (S, pastF S.tr (F 2).toNat, false)
  else if passB S F = true then (S, [], false)
  else if secTo (castS S (F 1).toNat (cmF F)).b (castS S (F 1).toNat (cmF F)).x (cmF F) (F 1).toNat 3 = false then (castS S (F 1).toNat (cmF F), [], false)
  else (commitS win (castS S (F 1).toNat (cmF F)) (cmF F), [doneF S.tr.length (cmF F)], true)
def tickF (S : VS) : VS := if S.lat then S else ⟨S.tr, S.b, S.x, S.left - 1, S.out, S.left - 1 == 0⟩
def latchF (S : VS) : VS := ⟨S.tr, S.b, S.x, S.left, S.out, true⟩
def shownF (S : VS) : Int := if S.lat || S.tr.length == 0 then 0 else (cmAt S.tr (S.tr.length - 1)).o
theorem VOk.tick {win : Nat} {S : VS} (h : VOk win S) : VOk win (tickF S) := by
  unfold tickF
  split
  · exact h
  · rename_i hl
    have hl : S.lat = false := by simpa using hl
    have hp := h.pos hl
    have hf := h.left
    refine ⟨h.w1, h.w2, h.few, fun e => (by rw [h.full e] at hl; cases hl), h.out, ?_, fun e => ?_⟩
    · show S.left - 1 ≤ 20; omega
    · have : ¬ S.left - 1 = 0 := by simpa using e
      show 1 ≤ S.left - 1; omega
theorem VOk.latch {win : Nat} {S : VS} (h : VOk win S) : VOk win (latchF S) := ⟨h.w1, h.w2, h.few, fun _ => rfl, h.out, h.left, fun e => by cases e⟩
theorem VOk.cast {win : Nat} {S : VS} (h : VOk win S) (k : Nat) (d : Cm) : VOk win (castS S k d) := ⟨h.w1, h.w2, h.few, h.full, h.out, h.left, h.pos⟩
theorem outN_lt {win : Nat} {S : VS} (h : VOk win S) (d : Cm) : outN S d < 8 := Nat.or_lt_two_pow (n := 3) h.out (agTo_lt _ _ _ 3 3 (Nat.le_refl _))
theorem VOk.commit {win : Nat} {S : VS} (h : VOk win S) (hl : S.lat = false) (d : Cm) : VOk win (commitS win S d) := by
  have hf := h.few
  have hn : ¬ S.tr.length = 1000 := fun e => by rw [h.full e] at hl; cases hl
  refine ⟨h.w1, h.w2, ?_, ?_, outN_lt h d, h.w2, fun _ => h.w1⟩
  · show (S.tr ++ [d]).length ≤ 1000; simp; omega
  · intro e
    have : S.tr.length + 1 = 1000 := by simpa [commitS] using e
    show (decide _ || decide _) = true
    rw [this]; simp
theorem VOk.take {win : Nat} {S : VS} (h : VOk win S) (F : FR) : VOk win (takeF win S F).1 := by
  unfold takeF
  split
  · exact h
  · split
    · exact h
    · split
      · exact h
      · rename_i hp
        split
        · exact h.cast _ _
        · refine (h.cast _ _).commit ?_ _
          show S.lat = false
          unfold passB at hp
          cases hl : S.lat
          · rfl
          · rw [hl] at hp; simp at hp
end Go.Proofs.YtaablbmgagiajabGreatDoor
namespace Go.Proofs.YtaablbmgagiajabGreatDoor
open Go.RowKit Go.Deep
structure Mod (w w' : World) (T : Nat → Prop) : Prop where
  os : w'.os = w.os
  tape : w'.tape = w.tape
  output : w'.output = w.output
  size : w.heap.size ≤ w'.heap.size
  block : ∀ k, k < w.heap.size → ¬ T k → w'.heap[k]? = w.heap[k]?
theorem Mod.refl (w : World) (T : Nat → Prop) : Mod w w T := ⟨rfl, rfl, rfl, Nat.le_refl _, fun _ _ _ => rfl⟩
theorem Mod.then {w w1 w2 : World} {T U : Nat → Prop} (h : Mod w w1 T) (k : Mod w1 w2 U) (hU : ∀ i, i < w.heap.size → U i → T i) : Mod w w2 T :=
  ⟨k.os.trans h.os, k.tape.trans h.tape, k.output.trans h.output, Nat.le_trans h.size k.size, fun i hi ht => (k.block i (Nat.lt_of_lt_of_le hi h.size) (fun hu => ht (hU i hi hu))).trans (h.block i hi ht)⟩
theorem Mod.mono {w w1 : World} {T U : Nat → Prop} (h : Mod w w1 T) (hU : ∀ i, i < w.heap.size → T i → U i) : Mod w w1 U := ⟨h.os, h.tape, h.output, h.size, fun i hi hu => h.block i hi (fun ht => hu (hU i hi ht))⟩
theorem Mod.ofBelow {w w1 : World} (h : Below w.heap.size w w1) (T : Nat → Prop) : Mod w w1 T := ⟨h.os, h.tape, h.output, h.size, fun i hi _ => h.block i hi⟩
theorem Mod.below {w w1 w2 : World} {T : Nat → Prop} (h : Mod w w1 T) (k : Below w1.heap.size w1 w2) : Mod w w2 T := h.then (U := fun _ => False) (Mod.ofBelow k _) (fun _ _ hf => hf.elim)
theorem Mod.toBelow {w w1 : World} {T : Nat → Prop} {B : Nat} (h : Mod w w1 T) (hB : B ≤ w.heap.size) (hT : ∀ k, k < B → ¬ T k) : Below B w w1 := ⟨h.os, h.tape, h.output, h.size, fun k hk => h.block k (by omega) (hT k hk)⟩
theorem Mod.set {w w1 : World} {T : Nat → Prop} (h : Mod w w1 T) (a : Addr) (v : Value) (ha : a.block < w.heap.size → T a.block) : Mod w (w1.setCell a v) T :=
  ⟨h.os, h.tape, h.output, by simpa [World.setCell] using h.size, fun k hk ht => (Below.heap_setCell _ _ _ _ (fun e => ht (by subst e; exact ha hk))).trans (h.block k hk ht)⟩
theorem Mod.drewN {w w1 : World} {T : Nat → Prop} (h : Mod w w1 T) (n : Nat) : Mod w (w1.drewN n) T := ⟨h.os, h.tape, h.output, h.size, h.block⟩
theorem Mod.grown {w w1 w2 : World} {T : Nat → Prop} {row : Option Nat} (h : Mod w w1 T) (g : w1.grownBy w2 row) (hr : ∀ k, k < w.heap.size → row = some k → T k) : Mod w w2 T :=
  ⟨g.os.trans h.os, g.tape.trans h.tape, g.output.trans h.output, Nat.le_trans h.size g.size, fun i hi ht => (g.block i (Nat.lt_of_lt_of_le hi h.size) (fun e => ht (hr i hi e.symm))).trans (h.block i hi ht)⟩
def cmC (d : Cm) : List Value := [.int .i64 d.c, .int .i64 d.v, .int .i64 d.o]
def cmL : List Cm → List Value
  | [] => []
  | d :: r => cmC d ++ cmL r
theorem cmL_length (l : List Cm) : (cmL l).length = l.length * 3 := by
  induction l with
  | nil => rfl
  | cons d r ih => rw [cmL, List.length_append, ih]; simp [cmC]; omega
theorem cmL_append (l : List Cm) (d : Cm) : cmL (l ++ [d]) = cmL l ++ cmC d := by
  induction l with
  | nil => simp [cmL]
  | cons e r ih => rw [List.cons_append, cmL, cmL, ih, List.append_assoc]
theorem cmL_at (l : List Cm) (k : Nat) (hk : k < l.length) (j : Nat) (hj : j < 3) : (cmL l)[k * 3 + j]? = (cmC (cmAt l k))[j]? := by
  induction l generalizing k with
  | nil => simp at hk
  | cons d r ih =>
    cases k with
    | zero =>
      rw [cmL, List.getElem?_append_left (by simp [cmC]; omega), Nat.zero_mul, Nat.zero_add]
      rfl
    | succ k =>
      rw [cmL, List.getElem?_append_right (by simp [cmC]; omega), show (k + 1) * 3 + j - (cmC d).length = k * 3 + j by simp [cmC]; omega, ih k (by simpa using hk)]
      rfl
theorem cmL_one (l : List Cm) : ∀ u ∈ cmL l, u.oneCell' = true := by
  induction l with
  | nil => simp [cmL]
  | cons d r ih =>
    intro u hu
    rw [cmL, List.mem_append] at hu
    rcases hu with hu | hu
    · simp [cmC] at hu
      rcases hu with rfl | rfl | rfl <;> rfl
    · exact ih u hu
def vCells (tv : Value) (win : Nat) (S : VS) : Array Value := #[tv, .bool (S.b 0), .int .i64 (S.x 0).c, .int .i64 (S.x 0).v, .int .i64 (S.x 0).o, .bool (S.b 1), .int .i64 (S.x 1).c, .int .i64 (S.x 1).v, .int .i64 (S.x 1).o, .bool (S.b 2), .int .i64 (S.x 2).c, .int .i64 (S.x 2).v, .int .i64 (S.x 2).o, .int .i64 (win : Int), .int .i64 (S.left : Int), .int .i64 (S.out : Int), .bool S.lat]
def TIs (w : World) (N : Nat) (tv : Value) (l : List Cm) : Prop := w.ownsRow N 49 3 tv l.length (cmL l)
structure VIs (w : World) (N p win : Nat) (tv : Value) (S : VS) : Prop where
  blk : w.heap[p]? = some (.cells (vCells tv win S) 148 (0, 0))
  row : TIs w N tv S.tr
  np : N ≤ p
theorem TIs.shape {w : World} {N : Nat} {tv : Value} {l : List Cm} (h : TIs w N tv l) : ∃ a cap, tv = .slice a l.length cap := by
  rcases h.2 with ⟨rfl, h0⟩ | ⟨g, cap, cur, rfl, _⟩
  · exact ⟨none, 0, by rw [h0]⟩
  · exact ⟨_, _, rfl⟩
theorem TIs.has {w : World} {N : Nat} {tv : Value} {l : List Cm} (h : TIs w N tv l) (h0 : 0 < l.length) : ∃ g cap, tv = .slice (some ⟨g, 0, none⟩) l.length cap ∧ N ≤ g ∧ g < w.heap.size ∧ l.length ≤ cap := by
  rcases h.2 with ⟨rfl, h1⟩ | ⟨g, cap, cur, rfl, h1, h2, h3, _⟩
  · omega
  · exact ⟨g, cap, rfl, h1, blk_lt h2, h3⟩
theorem TIs.own {w : World} {N : Nat} {tv : Value} {l : List Cm} (h : TIs w N tv l) {g : Nat} (hg : tv.ownBlock = some g) : N ≤ g ∧ ∃ cur, w.heap[g]? = some (.cells cur 49 (0, 0)) := by
  rcases h.2 with ⟨rfl, h1⟩ | ⟨g', cap, cur, rfl, h1, h2, h3, _⟩
  · simp [Value.ownBlock] at hg
  · simp only [Value.ownBlock, Option.some.injEq] at hg
    subst hg
    exact ⟨h1, cur, h2⟩
theorem TIs.same {w w' : World} {N : Nat} {tv : Value} {l : List Cm} (h : TIs w N tv l) (hs : ∀ g, tv.ownBlock = some g → w'.heap[g]? = w.heap[g]?) : TIs w' N tv l := by
  obtain ⟨h1, h2⟩ := h
  refine ⟨h1, ?_⟩
  rcases h2 with h2 | ⟨g, cap, cur, rfl, h3, h4, h5⟩
  · exact .inl h2
  · exact .inr ⟨g, cap, cur, rfl, h3, (hs g rfl).trans h4, h5⟩
theorem TIs.range {w : World} {N : Nat} {l : List Cm} {g n cap : Nat} (h : TIs w N (.slice (some ⟨g, 0, none⟩) n cap) l) {k : Nat} (hk : k < l.length) : w.rangeAt g (k * 3) [.int .i64 (cmAt l k).c, .int .i64 (cmAt l k).v, .int .i64 (cmAt l k).o] := by
  intro j v hv
  have hj : j < 3 := by have := (List.getElem?_eq_some_iff.1 hv).1; simpa using this
  rcases h.2 with ⟨e, _⟩ | ⟨g', cap', cur, e, _, hg, _, _, _, ht⟩
  · simp at e
  · simp only [Value.slice.injEq, Option.some.injEq, Addr.mk.injEq, and_true] at e
    obtain ⟨rfl, _, _⟩ := e
    rw [blk_cell hg, ← Array.getElem?_toList]
    have e2 := cmL_at l k hk j hj
    rw [← ht, List.getElem?_take, if_pos (by omega)] at e2
    rw [e2]
    exact hv
theorem type_ne {w : World} {a b : Nat} {x y : Array Value} {s t : TypeId} {f g : Nat × Nat} (h1 : w.heap[a]? = some (.cells x s f)) (h2 : w.heap[b]? = some (.cells y t g)) (hst : s ≠ t) : a ≠ b := by
  intro e
  rw [e, h2] at h1
  injection h1 with h1
  injection h1 with _ h1
  exact hst h1.symm
theorem VIs.ne {w : World} {N p win : Nat} {tv : Value} {S : VS} (h : VIs w N p win tv S) : ∀ g, tv.ownBlock = some g → g ≠ p := fun g hg => by
  obtain ⟨_, cur, hc⟩ := h.row.own hg
  exact type_ne hc h.blk (by decide)
theorem VIs.at {w : World} {N p win : Nat} {tv : Value} {S : VS} (h : VIs w N p win tv S) (k : Nat) : w.cell? ⟨p, k, none⟩ = (vCells tv win S)[k]? := blk_cell h.blk k
theorem VIs.free {w : World} {N p win : Nat} {tv : Value} {S : VS} (h : VIs w N p win tv S) (k : Nat) : w.frozen? ⟨p, k, none⟩ = false := blk_free h.blk k
theorem VIs.lt {w : World} {N p win : Nat} {tv : Value} {S : VS} (h : VIs w N p win tv S) : p < w.heap.size := blk_lt h.blk
def VB (p : Nat) (tv : Value) (k : Nat) : Prop := k = p ∨ tv.ownBlock = some k
theorem VIs.move {w w' : World} {N p win : Nat} {tv : Value} {S : VS} (h : VIs w N p win tv S) {T : Nat → Prop} (hm : Mod w w' T) (hT : ∀ k, VB p tv k → ¬ T k) : VIs w' N p win tv S :=
  ⟨(hm.block p h.lt (hT p (.inl rfl))).trans h.blk, h.row.same fun g hg => hm.block g (by obtain ⟨_, _, hc⟩ := h.row.own hg; exact blk_lt hc) (hT g (.inr hg)), h.np⟩
theorem VIs.below {w w' : World} {N p win : Nat} {tv : Value} {S : VS} (h : VIs w N p win tv S) (hB : Below w.heap.size w w') : VIs w' N p win tv S := h.move (Mod.ofBelow hB (fun _ => False)) (fun _ _ hf => hf)
theorem VIs.drewN {w : World} {N p win : Nat} {tv : Value} {S : VS} (h : VIs w N p win tv S) (n : Nat) : VIs (w.drewN n) N p win tv S := ⟨h.blk, h.row, h.np⟩
theorem VIs.put {w : World} {N p win : Nat} {tv : Value} {S S' : VS} (h : VIs w N p win tv S) (i : Nat) (u : Value) (he : (vCells tv win S).setIfInBounds i u = vCells tv win S') (ht : S'.tr = S.tr) : VIs (w.setCell ⟨p, i, none⟩ u) N p win tv S' :=
  ⟨(blk_set h.blk i u).trans (by rw [he]), by rw [ht]; exact h.row.same fun g hg => Below.heap_setCell _ _ _ _ (h.ne g hg), h.np⟩
def Moved (w : World) (tv tv' : Value) : Prop := ∀ g, tv'.ownBlock = some g → tv.ownBlock = some g ∨ w.heap.size ≤ g
theorem Moved.refl (w : World) (tv : Value) : Moved w tv tv := fun _ h => .inl h
end Go.Proofs.YtaablbmgagiajabGreatDoor
namespace Go.Proofs.YtaablbmgagiajabGreatDoor
open Go.RowKit Go.Deep
def BIs (w : World) (p t n : Nat) (f : Nat → Value) : Prop := ∃ cs : Array Value, w.heap[p]? = some (.cells cs t (0, 0)) ∧ cs.size = n ∧ ∀ k, k < n → cs[k]? = some (f k)
section
variable {w w' : World} {p t n : Nat} {f g : Nat → Value}
theorem BIs.at (h : BIs w p t n f) {k : Nat} (hk : k < n) : w.cell? ⟨p, k, none⟩ = some (f k) := by
  obtain ⟨cs, h1, _, h3⟩ := h
  rw [blk_cell h1]
  exact h3 k hk
theorem BIs.free (h : BIs w p t n f) (k : Nat) : w.frozen? ⟨p, k, none⟩ = false := by
  obtain ⟨cs, h1, _⟩ := h
  exact blk_free h1 k
theorem BIs.lt (h : BIs w p t n f) : p < w.heap.size := by
  obtain ⟨cs, h1, _⟩ := h
  exact blk_lt h1
theorem BIs.same (h : BIs w p t n f) (hb : w'.heap[p]? = w.heap[p]?) : BIs w' p t n f := by
  obtain ⟨cs, h1, h2⟩ := h
  exact ⟨cs, hb.trans h1, h2⟩
theorem BIs.congr (h : BIs w p t n f) (e : ∀ k, k < n → f k = g k) : BIs w p t n g := by
  obtain ⟨cs, h1, h2, h3⟩ := h
  exact ⟨cs, h1, h2, fun k hk => by rw [h3 k hk, e k hk]⟩
theorem BIs.set (h : BIs w p t n f) {k : Nat} (hk : k < n) (v : Value) : BIs (w.setCell ⟨p, k, none⟩ v) p t n (upd f k v) := by
  obtain ⟨cs, h1, h2, h3⟩ := h
  refine ⟨_, blk_set h1 k v, by simpa using h2, fun j hj => ?_⟩
  rw [Array.getElem?_setIfInBounds]
  by_cases e : k = j
  · subst e; simp [h2, hk, upd_same]
  · rw [if_neg e, upd_other f v (fun h => e h.symm)]; exact h3 j hj
theorem BIs.sets : ∀ (vs : List Value) (o : Nat) (w : World) (f : Nat → Value), BIs w p t n f → o + vs.length ≤ n → BIs (w.setCells p o vs) p t n (fun k => if o ≤ k then (vs[k - o]?).getD (f k) else f k)
  | [], o, w, f, h, _ => h.congr fun k _ => by simp
  | v :: r, o, w, f, h, hl => by
    simp only [List.length_cons] at hl
    refine (BIs.sets r (o + 1) (w.setCell ⟨p, o, none⟩ v) (upd f o v) (h.set (by omega) v) (by omega)).congr fun k _ => ?_
    by_cases h1 : k < o
    · rw [if_neg (by omega), if_neg (by omega), upd_other _ _ (by omega)]
    · by_cases h2 : k = o
      · subst h2; rw [if_neg (by omega), if_pos (Nat.le_refl _)]; simp [upd_same]
      · rw [if_pos (by omega), if_pos (by omega), upd_other _ _ h2, show k - o = (k - (o + 1)) + 1 by omega, List.getElem?_cons_succ]
theorem BIs.range (h : BIs w p t n f) {o : Nat} {cs : List Value} (hl : o + cs.length ≤ n) (hc : ∀ j, j < cs.length → cs[j]? = some (f (o + j))) : w.rangeAt p o cs := by
  intro j v hv
  have hj : j < cs.length := (List.getElem?_eq_some_iff.1 hv).1
  rw [h.at (by omega), ← hc j hj, hv]
theorem BIs.there (h : BIs w p t n f) {o m : Nat} (hl : o + m ≤ n) : w.there p o m := fun j hj => ⟨by rw [h.at (by omega)]; rfl, h.free _⟩
end
structure Smp where
  there : Bool
  came : Int
  c : Nat
  v : Nat
def smp0 : Smp := ⟨false, 0, 0, 0⟩
def smpC (x : Smp) : List Value := [.bool x.there, .int .i64 x.came, .int .i64 (x.c : Int), .int .i64 (x.v : Int)]
structure RS where
  id : Nat
  cycle : Int
  ticks : Int
  ahead : Int
  st : St
  sx : Int
  sy : Int
  smp : Nat → Smp
  told : Nat → Nat → Int
def tlC (T : Nat → Int) : Array Value := #[.int .i64 (T 0), .int .i64 (T 1), .int .i64 (T 2), .int .i64 (T 3), .int .i64 (T 4), .int .i64 (T 5), .int .i64 (T 6), .int .i64 (T 7), .int .i64 (T 8), .int .i64 (T 9), .int .i64 (T 10), .int .i64 (T 11), .int .i64 (T 12), .int .i64 (T 13), .int .i64 (T 14), .int .i64 (T 15), .int .i64 (T 16), .int .i64 (T 17)]
theorem tlC_at (T : Nat → Int) (k : Nat) (h : k < 18) : (tlC T)[k]? = some (.int .i64 (T k)) := by
  match k, h with
  | 0, _ => rfl | 1, _ => rfl | 2, _ => rfl | 3, _ => rfl | 4, _ => rfl | 5, _ => rfl | 6, _ => rfl | 7, _ => rfl | 8, _ => rfl | 9, _ => rfl | 10, _ => rfl | 11, _ => rfl | 12, _ => rfl | 13, _ => rfl | 14, _ => rfl | 15, _ => rfl | 16, _ => rfl | 17, _ => rfl
  | _ + 18, h => exact absurd h (by omega)
structure RC where
  s : Nat
  d : Nat
  n : Nat
  zs : List Int
  pc : Nat
  g : Nat
  cg : Nat
  M : Nat
  g2 : Nat
  c2 : Nat
def rpF (C : RC) (R : RS) (k : Nat) : Value :=
  if k = 0 then .int .i64 (R.id : Int) else if k = 1 then .int .i64 (C.s : Int) else if k = 2 then .slice (some ⟨C.g2, 0, none⟩) C.n C.c2 else if k = 3 then .int .i64 (C.d : Int) else if k = 4 then .pointer (some ⟨C.pc, 0, none⟩)
  else if k = 5 then .int .i64 R.cycle else if k = 6 then .int .i64 R.ticks else if k = 7 then .int .i64 R.ahead
  else if k < 25 then ((stCells R.st)[k - 8]?).getD undef
  else if k = 25 then .int .i64 R.sx else if k = 26 then .int .i64 R.sy
  else if k < 39 then ((smpC (R.smp ((k - 27) / 4)))[(k - 27) % 4]?).getD undef
  else .int .i64 (R.told ((k - 39) / 18) ((k - 39) % 18))
structure RpIs (w : World) (p : Nat) (C : RC) (R : RS) : Prop where
  blk : BIs w p 160 93 (rpF C R)
  core : CoreIs w C.pc (C.s : Int) (C.d : Int) C.n C.zs C.g C.cg C.M
  row : Row w C.g2 0 C.zs
  lt2 : C.g2 < w.heap.size
  cap2 : C.n ≤ C.c2
  ap : p ≠ C.pc ∧ p ≠ C.g ∧ p ≠ C.M ∧ p ≠ C.g2
theorem CoreIs.blocks {w wx : World} {p : Nat} {s d : Int} {n : Nat} {zs : List Int} {g cg M : Nat} (h : CoreIs w p s d n zs g cg M) (hs : w.heap.size ≤ wx.heap.size) (hb : ∀ k, k = p ∨ k = g ∨ k = M → wx.heap[k]? = w.heap[k]?) : CoreIs wx p s d n zs g cg M :=
  ⟨(hb p (.inl rfl)).trans h.blk, h.len, h.cap, Nat.lt_of_lt_of_le h.glt hs, fun k hk => (World.cell?_of_block (w := w) (hb g (.inr (.inl rfl)))).trans (h.row k hk), h.con.of_block (hb M (.inr (.inr rfl))), h.ok⟩
section
variable {w w' : World} {p : Nat} {C : RC} {R R' : RS}
theorem RpIs.lt (h : RpIs w p C R) : p < w.heap.size := h.blk.lt
theorem RpIs.mod (h : RpIs w p C R) (hm : Mod w w' (· = p)) (hb : BIs w' p 160 93 (rpF C R')) : RpIs w' p C R' := by
  have e : ∀ k, k < w.heap.size → k ≠ p → w'.heap[k]? = w.heap[k]? := fun k hk hp => hm.block k hk hp
  obtain ⟨a1, a2, a3, a4⟩ := h.ap
  refine ⟨hb, h.core.blocks hm.size ?_, fun k hk => (World.cell?_of_block (w := w) (e _ h.lt2 (fun x => a4 x.symm))).trans (h.row k hk), Nat.lt_of_lt_of_le h.lt2 hm.size, h.cap2, h.ap⟩
  rintro k (rfl | rfl | rfl)
  · exact e _ h.core.plt (fun x => a1 x.symm)
  · exact e _ h.core.glt (fun x => a2 x.symm)
  · exact e _ h.core.mlt (fun x => a3 x.symm)
theorem RpIs.below (h : RpIs w p C R) (hB : Below w.heap.size w w') : RpIs w' p C R := h.mod (Mod.ofBelow hB _) (h.blk.same (hB.block _ h.lt))
theorem RpIs.other (h : RpIs w p C R) {q : Nat} (hm : Mod w w' (· = q)) (hq : q ≠ p ∧ q ≠ C.pc ∧ q ≠ C.g ∧ q ≠ C.M ∧ q ≠ C.g2) : RpIs w' p C R := by
  have e : ∀ k, k < w.heap.size → k ≠ q → w'.heap[k]? = w.heap[k]? := fun k hk hp => hm.block k hk hp
  obtain ⟨a0, a1, a2, a3, a4⟩ := hq
  refine ⟨h.blk.same (e _ h.lt (fun x => a0 x.symm)), h.core.blocks hm.size ?_, fun k hk => (World.cell?_of_block (w := w) (e _ h.lt2 (fun x => a4 x.symm))).trans (h.row k hk), Nat.lt_of_lt_of_le h.lt2 hm.size, h.cap2, h.ap⟩
  rintro k (rfl | rfl | rfl)
  · exact e _ h.core.plt (fun x => a1 x.symm)
  · exact e _ h.core.glt (fun x => a2 x.symm)
  · exact e _ h.core.mlt (fun x => a3 x.symm)
theorem RpIs.put (h : RpIs w p C R) {k : Nat} (hk : k < 93) (v : Value) (e : ∀ j, j < 93 → upd (rpF C R) k v j = rpF C R' j) : RpIs (w.setCell ⟨p, k, none⟩ v) p C R' :=
  h.mod ((Mod.refl w _).set ⟨p, k, none⟩ v (fun _ => rfl)) ((h.blk.set hk v).congr e)
theorem Mod.sets {T : Nat → Prop} {w w1 : World} (h : Mod w w1 T) (p o : Nat) (vs : List Value) (hp : T p) : Mod w (w1.setCells p o vs) T := by
  refine ⟨(World.os_setCells _ _ _ _).trans h.os, ?_, (World.output_setCells _ _ _ _).trans h.output, ?_, fun k hk ht => ?_⟩
  · have : ∀ (vs : List Value) (o : Nat) (x : World), (x.setCells p o vs).tape = x.tape := by
      intro vs
      induction vs with
      | nil => intro _ _; rfl
      | cons v r ih => intro o x; exact ih (o + 1) (x.setCell ⟨p, o, none⟩ v)
    rw [this]; exact h.tape
  · have : ∀ (vs : List Value) (o : Nat) (x : World), (x.setCells p o vs).heap.size = x.heap.size := by
      intro vs
      induction vs with
      | nil => intro _ _; rfl
      | cons v r ih => intro o x; exact (ih (o + 1) (x.setCell ⟨p, o, none⟩ v)).trans (by simp [World.setCell])
    rw [this]; exact h.size
  · have hne : k ≠ p := fun e => ht (e ▸ hp)
    exact (World.heap_setCells_other w1 p o vs (Nat.lt_of_lt_of_le hk h.size) hne).trans (h.block k hk ht)
theorem RpIs.puts (h : RpIs w p C R) (o : Nat) (vs : List Value) (hl : o + vs.length ≤ 93) (e : ∀ j, j < 93 → (if o ≤ j then (vs[j - o]?).getD (rpF C R j) else rpF C R j) = rpF C R' j) : RpIs (w.setCells p o vs) p C R' :=
  h.mod ((Mod.refl w _).sets p o vs rfl) ((BIs.sets vs o w _ h.blk hl).congr e)
theorem RpIs.c0 (h : RpIs w p C R) : w.cell? ⟨p, 0, none⟩ = some (.int .i64 (R.id : Int)) := h.blk.at (by decide)
theorem RpIs.c1 (h : RpIs w p C R) : w.cell? ⟨p, 1, none⟩ = some (.int .i64 (C.s : Int)) := h.blk.at (by decide)
theorem RpIs.c2 (h : RpIs w p C R) : w.cell? ⟨p, 2, none⟩ = some (.slice (some ⟨C.g2, 0, none⟩) C.n C.c2) := h.blk.at (by decide)
theorem RpIs.c3 (h : RpIs w p C R) : w.cell? ⟨p, 3, none⟩ = some (.int .i64 (C.d : Int)) := h.blk.at (by decide)
theorem RpIs.c4 (h : RpIs w p C R) : w.cell? ⟨p, 4, none⟩ = some (.pointer (some ⟨C.pc, 0, none⟩)) := h.blk.at (by decide)
theorem RpIs.c5 (h : RpIs w p C R) : w.cell? ⟨p, 5, none⟩ = some (.int .i64 R.cycle) := h.blk.at (by decide)
theorem RpIs.c6 (h : RpIs w p C R) : w.cell? ⟨p, 6, none⟩ = some (.int .i64 R.ticks) := h.blk.at (by decide)
theorem RpIs.c7 (h : RpIs w p C R) : w.cell? ⟨p, 7, none⟩ = some (.int .i64 R.ahead) := h.blk.at (by decide)
theorem RpIs.c25 (h : RpIs w p C R) : w.cell? ⟨p, 25, none⟩ = some (.int .i64 R.sx) := h.blk.at (by decide)
theorem RpIs.c26 (h : RpIs w p C R) : w.cell? ⟨p, 26, none⟩ = some (.int .i64 R.sy) := h.blk.at (by decide)
theorem RpIs.state (h : RpIs w p C R) : w.rangeAt p 8 (stCells R.st).toList := by
  refine h.blk.range (by show 8 + 17 ≤ 93; omega) fun j hj => ?_
  have hj' : j < 17 := hj
  unfold rpF
  rw [if_neg (by omega), if_neg (by omega), if_neg (by omega), if_neg (by omega), if_neg (by omega), if_neg (by omega), if_neg (by omega), if_neg (by omega), if_pos (by omega), show 8 + j - 8 = j by omega]
  have hs : j < (stCells R.st).size := hj'
  rw [Array.getElem?_toList, Array.getElem?_eq_getElem hs]
  rfl
theorem rpF_smp {k j : Nat} (hk : k < 3) (hj : j < 4) : rpF C R (27 + k * 4 + j) = ((smpC (R.smp k))[j]?).getD undef := by
  unfold rpF
  rw [if_neg (by omega), if_neg (by omega), if_neg (by omega), if_neg (by omega), if_neg (by omega), if_neg (by omega), if_neg (by omega), if_neg (by omega), if_neg (by omega), if_neg (by omega), if_neg (by omega), if_pos (by omega), show (27 + k * 4 + j - 27) / 4 = k by omega, show (27 + k * 4 + j - 27) % 4 = j by omega]
theorem rpF_told {k j : Nat} (hk : k < 3) (hj : j < 18) : rpF C R (39 + k * 18 + j) = .int .i64 (R.told k j) := by
  unfold rpF
  rw [if_neg (by omega), if_neg (by omega), if_neg (by omega), if_neg (by omega), if_neg (by omega), if_neg (by omega), if_neg (by omega), if_neg (by omega), if_neg (by omega), if_neg (by omega), if_neg (by omega), if_neg (by omega), show (39 + k * 18 + j - 39) / 18 = k by omega, show (39 + k * 18 + j - 39) % 18 = j by omega]
theorem RpIs.s0 (h : RpIs w p C R) {k : Nat} (hk : k < 3) : w.cell? ⟨p, 27 + k * 4, none⟩ = some (.bool (R.smp k).there) := (h.blk.at (by omega)).trans (congrArg some (rpF_smp (j := 0) hk (by omega)))
theorem RpIs.s1 (h : RpIs w p C R) {k : Nat} (hk : k < 3) : w.cell? ⟨p, 27 + k * 4 + 1, none⟩ = some (.int .i64 (R.smp k).came) := (h.blk.at (by omega)).trans (congrArg some (rpF_smp (j := 1) hk (by omega)))
theorem RpIs.s2 (h : RpIs w p C R) {k : Nat} (hk : k < 3) : w.cell? ⟨p, 27 + k * 4 + 2, none⟩ = some (.int .i64 ((R.smp k).c : Int)) := (h.blk.at (by omega)).trans (congrArg some (rpF_smp (j := 2) hk (by omega)))
theorem RpIs.s3 (h : RpIs w p C R) {k : Nat} (hk : k < 3) : w.cell? ⟨p, 27 + k * 4 + 3, none⟩ = some (.int .i64 ((R.smp k).v : Int)) := (h.blk.at (by omega)).trans (congrArg some (rpF_smp (j := 3) hk (by omega)))
def smpL (f : Nat → Smp) : List Value := smpC (f 0) ++ smpC (f 1) ++ smpC (f 2)
theorem RpIs.samples (h : RpIs w p C R) : w.rangeAt p 27 (smpL R.smp) := by
  refine h.blk.range (by show 27 + 12 ≤ 93; omega) fun j hj => ?_
  have hj' : j < 12 := hj
  rcases (by omega : j < 4 ∨ (4 ≤ j ∧ j < 8) ∨ (8 ≤ j ∧ j < 12)) with h1 | h1 | h1
  · have := rpF_smp (C := C) (R := R) (k := 0) (j := j) (by omega) h1
    rw [show 27 + 0 * 4 + j = 27 + j by omega] at this
    rw [this]
    rcases (by omega : j = 0 ∨ j = 1 ∨ j = 2 ∨ j = 3) with rfl | rfl | rfl | rfl <;> rfl
  · have := rpF_smp (C := C) (R := R) (k := 1) (j := j - 4) (by omega) (by omega)
    rw [show 27 + 1 * 4 + (j - 4) = 27 + j by omega] at this
    rw [this]
    rcases (by omega : j = 4 ∨ j = 5 ∨ j = 6 ∨ j = 7) with rfl | rfl | rfl | rfl <;> rfl
  · have := rpF_smp (C := C) (R := R) (k := 2) (j := j - 8) (by omega) (by omega)
    rw [show 27 + 2 * 4 + (j - 8) = 27 + j by omega] at this
    rw [this]
    rcases (by omega : j = 8 ∨ j = 9 ∨ j = 10 ∨ j = 11) with rfl | rfl | rfl | rfl <;> rfl
def tlL (f : Nat → Nat → Int) : List Value := (tlC (f 0)).toList ++ (tlC (f 1)).toList ++ (tlC (f 2)).toList
theorem tlL_at (f : Nat → Nat → Int) {k j : Nat} (hk : k < 3) (hj : j < 18) : (tlL f)[k * 18 + j]? = some (.int .i64 (f k j)) := by
  have a : ∀ i, (tlC (f i)).toList[j]? = some (.int .i64 (f i j)) := fun i => by rw [Array.getElem?_toList]; exact tlC_at _ _ hj
  have l : ∀ i, (tlC (f i)).toList.length = 18 := fun _ => rfl
  unfold tlL
  rcases (by omega : k = 0 ∨ k = 1 ∨ k = 2) with rfl | rfl | rfl
  · rw [List.append_assoc, List.getElem?_append_left (by rw [l]; omega), Nat.zero_mul, Nat.zero_add, a]
  · rw [List.append_assoc, List.getElem?_append_right (by rw [l]; omega), List.getElem?_append_left (by rw [l, l]; omega), l, show 1 * 18 + j - 18 = j by omega, a]
  · rw [List.getElem?_append_right (by rw [List.length_append, l, l]; omega), List.length_append, l, l, show 2 * 18 + j - (18 + 18) = j by omega, a]
theorem RpIs.tolds (h : RpIs w p C R) : w.rangeAt p 39 (tlL R.told) := by
  refine h.blk.range (by show 39 + 54 ≤ 93; omega) fun j hj => ?_
  have hj' : j < 54 := hj
  have e := tlL_at R.told (k := j / 18) (j := j % 18) (by omega) (by omega)
  have e2 := rpF_told (C := C) (R := R) (k := j / 18) (j := j % 18) (by omega) (by omega)
  rw [show j / 18 * 18 + j % 18 = j by omega] at e
  rw [show 39 + j / 18 * 18 + j % 18 = 39 + j by omega] at e2
  rw [e, e2]
end
end Go.Proofs.YtaablbmgagiajabGreatDoor
namespace Go.Proofs.YtaablbmgagiajabGreatDoor
open Go.RowKit Go.Deep
section
variable {C : RC} {R : RS}
theorem rpF_putS {k : Nat} (x : Smp) (hk : k < 3) {j : Nat} (hj : j < 93) : (if 27 + k * 4 ≤ j then ((smpC x)[j - (27 + k * 4)]?).getD (rpF C R j) else rpF C R j) = rpF C { R with smp := upd R.smp k x } j := by
  by_cases hr : 27 + k * 4 ≤ j ∧ j < 27 + k * 4 + 4
  · obtain ⟨i, rfl⟩ : ∃ i, j = 27 + k * 4 + i := ⟨j - (27 + k * 4), by omega⟩
    have hi : i < 4 := by omega
    rw [if_pos (by omega), rpF_smp hk hi, rpF_smp hk hi, show 27 + k * 4 + i - (27 + k * 4) = i by omega]
    show _ = ((smpC (upd R.smp k x k))[i]?).getD undef
    rw [upd_same]
    rcases (by omega : i = 0 ∨ i = 1 ∨ i = 2 ∨ i = 3) with rfl | rfl | rfl | rfl <;> rfl
  · have e : (if 27 + k * 4 ≤ j then ((smpC x)[j - (27 + k * 4)]?).getD (rpF C R j) else rpF C R j) = rpF C R j := by
      split
      · rw [List.getElem?_eq_none (by show 4 ≤ _; omega)]; rfl
      · rfl
    rw [e]
    unfold rpF
    refine ite_congr rfl (fun _ => rfl) fun h0 => ?_
    refine ite_congr rfl (fun _ => rfl) fun h1 => ?_
    refine ite_congr rfl (fun _ => rfl) fun h2 => ?_
    refine ite_congr rfl (fun _ => rfl) fun h3 => ?_
    refine ite_congr rfl (fun _ => rfl) fun h4 => ?_
    refine ite_congr rfl (fun _ => rfl) fun h5 => ?_
    refine ite_congr rfl (fun _ => rfl) fun h6 => ?_
    refine ite_congr rfl (fun _ => rfl) fun h7 => ?_
    refine ite_congr rfl (fun _ => rfl) fun h8 => ?_
    refine ite_congr rfl (fun _ => rfl) fun h9 => ?_
    refine ite_congr rfl (fun _ => rfl) fun h10 => ?_
    refine ite_congr rfl (fun h11 => ?_) fun _ => rfl
    show _ = ((smpC (upd R.smp k x ((j - 27) / 4)))[(j - 27) % 4]?).getD undef
    rw [upd_other _ _ (by omega)]
theorem rpF_putT {k : Nat} (T : Nat → Int) (hk : k < 3) {j : Nat} (hj : j < 93) : (if 39 + k * 18 ≤ j then ((tlC T).toList[j - (39 + k * 18)]?).getD (rpF C R j) else rpF C R j) = rpF C { R with told := upd R.told k T } j := by
  by_cases hr : 39 + k * 18 ≤ j ∧ j < 39 + k * 18 + 18
  · obtain ⟨i, rfl⟩ : ∃ i, j = 39 + k * 18 + i := ⟨j - (39 + k * 18), by omega⟩
    have hi : i < 18 := by omega
    rw [if_pos (by omega), rpF_told hk hi, rpF_told hk hi, show 39 + k * 18 + i - (39 + k * 18) = i by omega, Array.getElem?_toList, tlC_at T i hi]
    show _ = Value.int .i64 (upd R.told k T k i)
    rw [upd_same]
    rfl
  · have e : (if 39 + k * 18 ≤ j then ((tlC T).toList[j - (39 + k * 18)]?).getD (rpF C R j) else rpF C R j) = rpF C R j := by
      split
      · rw [List.getElem?_eq_none (by show 18 ≤ _; omega)]; rfl
      · rfl
    rw [e]
    unfold rpF
    refine ite_congr rfl (fun _ => rfl) fun h0 => ?_
    refine ite_congr rfl (fun _ => rfl) fun h1 => ?_
    refine ite_congr rfl (fun _ => rfl) fun h2 => ?_
    refine ite_congr rfl (fun _ => rfl) fun h3 => ?_
    refine ite_congr rfl (fun _ => rfl) fun h4 => ?_
    refine ite_congr rfl (fun _ => rfl) fun h5 => ?_
    refine ite_congr rfl (fun _ => rfl) fun h6 => ?_
    refine ite_congr rfl (fun _ => rfl) fun h7 => ?_
    refine ite_congr rfl (fun _ => rfl) fun h8 => ?_
    refine ite_congr rfl (fun _ => rfl) fun h9 => ?_
    refine ite_congr rfl (fun _ => rfl) fun h10 => ?_
    refine ite_congr rfl (fun _ => rfl) fun h11 => ?_
    have : upd R.told k T ((j - 39) / 18) = R.told ((j - 39) / 18) := upd_other _ _ (by omega)
    show _ = Value.int .i64 (upd R.told k T ((j - 39) / 18) ((j - 39) % 18))
    rw [this]
theorem rpF_putSt (X : St) {j : Nat} : (if 8 ≤ j then ((stCells X).toList[j - 8]?).getD (rpF C R j) else rpF C R j) = rpF C { R with st := X } j := by
  by_cases hr : 8 ≤ j ∧ j < 25
  · rw [if_pos hr.1]
    have hs : j - 8 < (stCells X).size := by show j - 8 < 17; omega
    unfold rpF
    rw [if_neg (by omega), if_neg (by omega), if_neg (by omega), if_neg (by omega), if_neg (by omega), if_neg (by omega), if_neg (by omega), if_neg (by omega), if_pos hr.2]
    rw [if_neg (by omega), if_neg (by omega), if_neg (by omega), if_neg (by omega), if_neg (by omega), if_neg (by omega), if_neg (by omega), if_neg (by omega), if_pos hr.2]
    rw [Array.getElem?_toList, Array.getElem?_eq_getElem hs]
    rfl
  · have e : (if 8 ≤ j then ((stCells X).toList[j - 8]?).getD (rpF C R j) else rpF C R j) = rpF C R j := by
      split
      · rw [List.getElem?_eq_none (by show 17 ≤ _; omega)]; rfl
      · rfl
    rw [e]
    unfold rpF
    refine ite_congr rfl (fun _ => rfl) fun h0 => ?_
    refine ite_congr rfl (fun _ => rfl) fun h1 => ?_
    refine ite_congr rfl (fun _ => rfl) fun h2 => ?_
    refine ite_congr rfl (fun _ => rfl) fun h3 => ?_
    refine ite_congr rfl (fun _ => rfl) fun h4 => ?_
    refine ite_congr rfl (fun _ => rfl) fun h5 => ?_
    refine ite_congr rfl (fun _ => rfl) fun h6 => ?_
    refine ite_congr rfl (fun _ => rfl) fun h7 => ?_
    exact ite_congr rfl (fun h8 => absurd h8 (by omega)) fun _ => rfl
theorem rpF_wipeS {j : Nat} (hj : j < 93) : (if 27 ≤ j then ((smpL fun _ => smp0)[j - 27]?).getD (rpF C R j) else rpF C R j) = rpF C { R with smp := fun _ => smp0 } j := by
  by_cases hr : 27 ≤ j ∧ j < 39
  · obtain ⟨i, rfl⟩ : ∃ i, j = 27 + i := ⟨j - 27, by omega⟩
    have hi : i < 12 := by omega
    rw [if_pos (by omega), show 27 + i - 27 = i by omega]
    have e := rpF_smp (C := C) (R := { R with smp := fun _ => smp0 }) (k := i / 4) (j := i % 4) (by omega) (by omega)
    rw [show 27 + i / 4 * 4 + i % 4 = 27 + i by omega] at e
    rw [e]
    show ((smpL fun _ => smp0)[i]?).getD _ = ((smpC smp0)[i % 4]?).getD undef
    rcases (by omega : i = 0 ∨ i = 1 ∨ i = 2 ∨ i = 3 ∨ i = 4 ∨ i = 5 ∨ i = 6 ∨ i = 7 ∨ i = 8 ∨ i = 9 ∨ i = 10 ∨ i = 11) with rfl | rfl | rfl | rfl | rfl | rfl | rfl | rfl | rfl | rfl | rfl | rfl <;> rfl
  · have e : (if 27 ≤ j then ((smpL fun _ => smp0)[j - 27]?).getD (rpF C R j) else rpF C R j) = rpF C R j := by
      split
      · rw [List.getElem?_eq_none (by show 12 ≤ _; omega)]; rfl
      · rfl
    rw [e]
    unfold rpF
    refine ite_congr rfl (fun _ => rfl) fun h0 => ?_
    refine ite_congr rfl (fun _ => rfl) fun h1 => ?_
    refine ite_congr rfl (fun _ => rfl) fun h2 => ?_
    refine ite_congr rfl (fun _ => rfl) fun h3 => ?_
    refine ite_congr rfl (fun _ => rfl) fun h4 => ?_
    refine ite_congr rfl (fun _ => rfl) fun h5 => ?_
    refine ite_congr rfl (fun _ => rfl) fun h6 => ?_
    refine ite_congr rfl (fun _ => rfl) fun h7 => ?_
    refine ite_congr rfl (fun _ => rfl) fun h8 => ?_
    refine ite_congr rfl (fun _ => rfl) fun h9 => ?_
    refine ite_congr rfl (fun _ => rfl) fun h10 => ?_
    exact ite_congr rfl (fun h11 => absurd h11 (by omega)) fun _ => rfl
theorem rpF_wipeT {j : Nat} (hj : j < 93) : (if 39 ≤ j then ((tlL fun _ _ => 0)[j - 39]?).getD (rpF C R j) else rpF C R j) = rpF C { R with told := fun _ _ => 0 } j := by
  by_cases hr : 39 ≤ j
  · obtain ⟨i, rfl⟩ : ∃ i, j = 39 + i := ⟨j - 39, by omega⟩
    have hi : i < 54 := by omega
    rw [if_pos (by omega), show 39 + i - 39 = i by omega]
    have e := rpF_told (C := C) (R := { R with told := fun _ _ => 0 }) (k := i / 18) (j := i % 18) (by omega) (by omega)
    have e2 := tlL_at (fun _ _ => 0) (k := i / 18) (j := i % 18) (by omega) (by omega)
    rw [show 39 + i / 18 * 18 + i % 18 = 39 + i by omega] at e
    rw [show i / 18 * 18 + i % 18 = i by omega] at e2
    rw [e, e2]
    rfl
  · rw [if_neg hr]
    unfold rpF
    refine ite_congr rfl (fun _ => rfl) fun h0 => ?_
    refine ite_congr rfl (fun _ => rfl) fun h1 => ?_
    refine ite_congr rfl (fun _ => rfl) fun h2 => ?_
    refine ite_congr rfl (fun _ => rfl) fun h3 => ?_
    refine ite_congr rfl (fun _ => rfl) fun h4 => ?_
    refine ite_congr rfl (fun _ => rfl) fun h5 => ?_
    refine ite_congr rfl (fun _ => rfl) fun h6 => ?_
    refine ite_congr rfl (fun _ => rfl) fun h7 => ?_
    refine ite_congr rfl (fun _ => rfl) fun h8 => ?_
    refine ite_congr rfl (fun _ => rfl) fun h9 => ?_
    refine ite_congr rfl (fun _ => rfl) fun h10 => ?_
    exact ite_congr rfl (fun _ => rfl) fun h11 => absurd hj (by omega)
theorem rpF_cyc (c : Int) {j : Nat} : upd (rpF C R) 5 (.int .i64 c) j = rpF C { R with cycle := c } j := by
  unfold upd rpF
  by_cases e : j = 5
  · subst e; rfl
  · simp [e]
theorem rpF_tick (c : Int) {j : Nat} : upd (rpF C R) 6 (.int .i64 c) j = rpF C { R with ticks := c } j := by
  unfold upd rpF
  by_cases e : j = 6
  · subst e; rfl
  · simp [e]
theorem rpF_ahead (c : Int) {j : Nat} : upd (rpF C R) 7 (.int .i64 c) j = rpF C { R with ahead := c } j := by
  unfold upd rpF
  by_cases e : j = 7
  · subst e; rfl
  · simp [e]
end
section
variable {w : World} {p : Nat} {C : RC} {R : RS}
theorem RpIs.putS (h : RpIs w p C R) {k : Nat} (hk : k < 3) (x : Smp) : RpIs (w.setCells p (27 + k * 4) (smpC x)) p C { R with smp := upd R.smp k x } :=
  h.puts _ _ (by show 27 + k * 4 + 4 ≤ 93; omega) fun _ hj => rpF_putS x hk hj
theorem RpIs.putT (h : RpIs w p C R) {k : Nat} (hk : k < 3) (T : Nat → Int) : RpIs (w.setCells p (39 + k * 18) (tlC T).toList) p C { R with told := upd R.told k T } :=
  h.puts _ _ (by show 39 + k * 18 + 18 ≤ 93; omega) fun _ hj => rpF_putT T hk hj
theorem RpIs.putSt (h : RpIs w p C R) (X : St) : RpIs (w.setCells p 8 (stCells X).toList) p C { R with st := X } :=
  h.puts _ _ (by show 8 + 17 ≤ 93; omega) fun _ _ => rpF_putSt X
theorem RpIs.wipeS (h : RpIs w p C R) : RpIs (w.setCells p 27 (smpL fun _ => smp0)) p C { R with smp := fun _ => smp0 } :=
  h.puts _ _ (by show 27 + 12 ≤ 93; omega) fun _ hj => rpF_wipeS hj
theorem RpIs.wipeT (h : RpIs w p C R) : RpIs (w.setCells p 39 (tlL fun _ _ => 0)) p C { R with told := fun _ _ => 0 } :=
  h.puts _ _ (by show 39 + 54 ≤ 93; omega) fun _ hj => rpF_wipeT hj
theorem RpIs.cyc (h : RpIs w p C R) (c : Int) : RpIs (w.setCell ⟨p, 5, none⟩ (.int .i64 c)) p C { R with cycle := c } := h.put (by decide) _ fun _ _ => rpF_cyc c
theorem RpIs.tick (h : RpIs w p C R) (c : Int) : RpIs (w.setCell ⟨p, 6, none⟩ (.int .i64 c)) p C { R with ticks := c } := h.put (by decide) _ fun _ _ => rpF_tick c
theorem RpIs.aheads (h : RpIs w p C R) (c : Int) : RpIs (w.setCell ⟨p, 7, none⟩ (.int .i64 c)) p C { R with ahead := c } := h.put (by decide) _ fun _ _ => rpF_ahead c
theorem RpIs.drew (h : RpIs w p C R) : RpIs w.drew p C R := h.below (Below.refl _ _).drew
end
end Go.Proofs.YtaablbmgagiajabGreatDoor
namespace Go.Proofs.YtaablbmgagiajabGreatDoor
open Go.RowKit Go.Deep
def FRow (w : World) (t : TypeId) (v : Value) (L : List FR) : Prop :=
  (L = [] ∧ v = .slice none 0 0) ∨ ∃ g cap, v = .slice (some ⟨g, 0, none⟩) L.length cap ∧ L.length ≤ cap ∧ ∃ cs, w.heap[g]? = some (.cells cs t (0, 0)) ∧ ∀ i, i < L.length → ∀ j, j < 23 → cs[i * 23 + j]? = some (.int .i64 ((L[i]?.getD fr0) j))
theorem FRow.one {w : World} {t g : Nat} {F : FR} (h : w.heap[g]? = some (.cells (fCells F) t (0, 0))) : FRow w t (.slice (some ⟨g, 0, none⟩) 1 1) [F] :=
  .inr ⟨g, 1, rfl, Nat.le_refl _, fCells F, h, fun i hi j hj => by
    have : i = 0 := by simpa using hi
    subst this
    rw [Nat.zero_mul, Nat.zero_add]
    exact fCells_at F j hj⟩
theorem FRow.two {w : World} {t base g cap : Nat} {F G : FR} (h : w.ownsRow base t 23 (.slice (some ⟨g, 0, none⟩) 2 cap) 2 ((fCells F).toList ++ (fCells G).toList)) : FRow w t (.slice (some ⟨g, 0, none⟩) 2 cap) [F, G] := by
  rcases h.2 with ⟨e, _⟩ | ⟨g', cap', cur, e, _, hg, hc, _, _, ht⟩
  · simp at e
  simp only [Value.slice.injEq, Option.some.injEq, Addr.mk.injEq, and_true, true_and] at e
  obtain ⟨rfl, rfl⟩ := e
  refine .inr ⟨g, cap, rfl, hc, cur, hg, fun i hi j hj => ?_⟩
  have hi2 : i < 2 := by simpa using hi
  have e1 : cur[i * 23 + j]? = ((fCells F).toList ++ (fCells G).toList)[i * 23 + j]? := by
    rw [← ht, List.getElem?_take, if_pos (by omega), Array.getElem?_toList]
  rw [e1]
  match i, hi2 with
  | 0, _ => rw [List.getElem?_append_left (by simp [fCells_size]; omega), Array.getElem?_toList, Nat.zero_mul, Nat.zero_add]; exact fCells_at F j hj
  | 1, _ => rw [List.getElem?_append_right (by simp [fCells_size]), Array.getElem?_toList, show 1 * 23 + j - (fCells F).toList.length = j by simp [fCells_size]]; exact fCells_at G j hj
theorem FRow.range {w : World} {t g n cap : Nat} {L : List FR} (h : FRow w t (.slice (some ⟨g, 0, none⟩) n cap) L) {i : Nat} (hi : i < L.length) : w.rangeAt g (i * 23) (fCells (L[i]?.getD fr0)).toList := by
  rcases h with ⟨_, e⟩ | ⟨g', cap', e, _, cs, hg, hc⟩
  · simp at e
  simp only [Value.slice.injEq, Option.some.injEq, Addr.mk.injEq, and_true] at e
  obtain ⟨rfl, _⟩ := e
  intro j v hv
  have hj : j < 23 := by have := (List.getElem?_eq_some_iff.1 hv).1; simpa [fCells_size] using this
  have e2 := fCells_at (L[i]?.getD fr0) j hj
  rw [← Array.getElem?_toList, hv] at e2
  rw [blk_cell hg, hc i hi j hj, e2]
theorem FRow.below {w w' : World} {t : TypeId} {v : Value} {L : List FR} (h : FRow w t v L) (hB : Below w.heap.size w w') : FRow w' t v L := by
  rcases h with h | ⟨g, cap, rfl, h1, cs, hg, hc⟩
  · exact .inl h
  · exact .inr ⟨g, cap, rfl, h1, cs, (hB.block g (blk_lt hg)).trans hg, hc⟩
theorem infoFrameZ : (Tryz.prog.info? 36).map (fun i => (i.zero, i.size, i.bytes)) = some (some (.agg (fCells fr0)), 23, 184) := by kernel_rfl
end Go.Proofs.YtaablbmgagiajabGreatDoor
namespace Go.Proofs.YtaablbmgagiajabGreatDoor
open Go.RowKit Go.Deep
theorem fill_one (F : FR) : Instr.fill (fun i => some (i * 23, 23)) ((Array.range (1 * 23)).map ((fCells fr0)[· % (fCells fr0).size]!)) [(0, .agg (fCells F))] = some (fCells F) := by
  have h := Great.fill_whole (s := 23) (by decide) [.agg (fCells F)] ((Array.range (1 * 23)).map ((fCells fr0)[· % (fCells fr0).size]!)) (by intro v hv; simp at hv; subst hv; rfl) (by simp)
  have e : (List.flatMap (fun v : Value => v.cells.toList) [Value.agg (fCells F)]).toArray = fCells F := by
    rw [List.flatMap_cons, List.flatMap_nil, List.append_nil]
    rfl
  rw [e] at h
  exact h
section
variable {ops : Array Oper} {rest : List Oper} {op : Oper} {a : Act} {w : World} {Q : Exit → Act → World → Prop}
theorem wpList_one_f (hgd : op.guard = none) (x : Operand) (ho : op.op = .buildSlice 211 1 #[(0, x)]) (F : FR) (hx : a.eval x = .agg (fCells F)) (H : Nat) (hH : w.heap.size = H)
    (h : ∀ w', Hid (w'.heap[H]? = some (.cells (fCells F) 36 (0, 0)) ∧ w'.heap.size = H + 1 ∧ Below H w w') → wpList Tryz.prog ops Q rest (a.put op.dst (.slice (some ⟨H, 0, none⟩) 1 1)) w') : wpList Tryz.prog ops Q (op :: rest) a w := by
  obtain ⟨i0, hi, hz0, hz1, hz2⟩ := info_parts infoFrameZ
  subst hH
  refine wpList_buildSlice hgd _ 36 1 _ ho (fCells F) i0 (.agg (fCells fr0)) Tryz.underlying211 hi hz0 (by rw [hz1]; decide) (by rw [hz1]; decide) ?_ (h _ ⟨blk_new _ _, by simp, (Below.refl _ _).alloc (Nat.le_refl _) _⟩)
  rw [hz1]
  simp only [List.map_toArray, List.map_cons, List.map_nil, hx]
  exact fill_one F
end
end Go.Proofs.YtaablbmgagiajabGreatDoor
