/- A burst is seen: what the sum of bytes comes to when bits within 32 are other ones. No program is named here. -/
import Derived.Test.YtaablbmgagiajabGreatDoorFrBy
namespace Go.Proofs.YtaablbmgagiajabGreatDoor

/-! ### One step is a linear map, and loses nothing -/
theorem step_xor (x y : BitVec 32) : step (x ^^^ y) = step x ^^^ step y := by
  unfold step
  rw [BitVec.msb_xor, BitVec.shiftLeft_xor_distrib]
  cases x.msb <;> cases y.msb
  · simp
  · simp [BitVec.xor_assoc]
  · simp only [Bool.xor_false, if_true, Bool.false_eq_true, if_false]
    rw [BitVec.xor_assoc, BitVec.xor_assoc, BitVec.xor_comm (y <<< 1)]
  · simp only [Bool.xor_self, Bool.false_eq_true, if_false, if_true]
    rw [BitVec.xor_assoc, BitVec.xor_comm (y <<< 1), ← BitVec.xor_assoc 79764919#32, BitVec.xor_self, BitVec.zero_xor]
theorem step_zero' : step 0#32 = 0#32 := by decide
theorem step_inj (x : BitVec 32) (h : step x = 0#32) : x = 0#32 := by
  have hx := x.isLt
  cases hm : x.msb
  · rw [step_zero x hm] at h
    have hl := msb_lt x hm
    have := congrArg BitVec.toNat h
    rw [BitVec.toNat_shiftLeft, Nat.shiftLeft_eq] at this
    apply BitVec.eq_of_toNat_eq
    simp at this ⊢
    omega
  · rw [step_one x hm] at h
    have h2 : x <<< 1 = 79764919#32 := by
      have := congrArg (· ^^^ 79764919#32) h
      simp only [BitVec.xor_assoc, BitVec.xor_self, BitVec.xor_zero, BitVec.zero_xor] at this
      exact this
    have := congrArg BitVec.toNat h2
    rw [BitVec.toNat_shiftLeft, Nat.shiftLeft_eq] at this
    simp at this
    omega
theorem steps_xor (k : Nat) (x y : BitVec 32) : steps k (x ^^^ y) = steps k x ^^^ steps k y := by
  induction k with
  | zero => rfl
  | succ k ih => rw [steps_succ, steps_succ, steps_succ, ih, step_xor]
theorem steps_inj (k : Nat) (x : BitVec 32) (h : steps k x = 0#32) : x = 0#32 := by
  induction k with
  | zero => exact h
  | succ k ih => exact ih (step_inj _ h)

/-! ### Bit by bit -/
def topB (b : Bool) : BitVec 32 := if b then 2147483648#32 else 0#32
def feed (x : BitVec 32) (b : Bool) : BitVec 32 := step (x ^^^ topB b)
def feeds (x : BitVec 32) (bs : List Bool) : BitVec 32 := bs.foldl feed x
theorem feeds_append (x : BitVec 32) (bs cs : List Bool) : feeds x (bs ++ cs) = feeds (feeds x bs) cs := by simp [feeds]
theorem topB_xor (b c : Bool) : topB (b ^^ c) = topB b ^^^ topB c := by cases b <;> cases c <;> decide
theorem feed_xor (x y : BitVec 32) (b c : Bool) : feed (x ^^^ y) (b ^^ c) = feed x b ^^^ feed y c := by
  unfold feed
  rw [← step_xor, topB_xor]
  congr 1
  rw [BitVec.xor_assoc, BitVec.xor_assoc, ← BitVec.xor_assoc y, BitVec.xor_comm y, BitVec.xor_assoc (topB b)]
theorem feeds_xor : ∀ (bs cs : List Bool) (x y : BitVec 32), bs.length = cs.length → feeds (x ^^^ y) (List.zipWith (fun a b => a ^^ b) bs cs) = feeds x bs ^^^ feeds y cs
  | [], [], _, _, _ => rfl
  | b :: bs, c :: cs, x, y, h => by
    show feeds (feed (x ^^^ y) (b ^^ c)) (List.zipWith (fun a b => a ^^ b) bs cs) = feeds (feed x b) bs ^^^ feeds (feed y c) cs
    rw [feed_xor, feeds_xor bs cs _ _ (by simpa using h)]
theorem feed_false (x : BitVec 32) : feed x false = step x := by
  unfold feed topB; simp
theorem feeds_zeros (n : Nat) (x : BitVec 32) : feeds x (List.replicate n false) = steps n x := by
  induction n with
  | zero => rfl
  | succ n ih => rw [List.replicate_succ', feeds_append, ih]; exact feed_false _
theorem steps_zero (k : Nat) : steps k 0#32 = 0#32 := by
  induction k with
  | zero => rfl
  | succ k ih => rw [steps_succ, ih, step_zero']

/-- Its own greatest bit is shifted out. -/
theorem feed_msb (x : BitVec 32) : feed x x.msb = x <<< 1 := by
  unfold feed
  have e : topB x.msb <<< 1 = 0#32 := by cases x.msb <;> decide
  have hm : (x ^^^ topB x.msb).msb = false := by
    rw [BitVec.msb_xor]
    cases x.msb <;> decide
  rw [step_zero _ hm, BitVec.shiftLeft_xor_distrib, e, BitVec.xor_zero]
def wordBits (x : BitVec 32) (n : Nat) : List Bool := (List.range n).map x.getMsbD
theorem wordBits_succ (x : BitVec 32) (n : Nat) : wordBits x (n + 1) = wordBits x n ++ [x.getMsbD n] := by simp [wordBits, List.range_succ]
theorem feeds_own (x : BitVec 32) (n : Nat) : feeds x (wordBits x n) = x <<< n := by
  induction n with
  | zero => simp [wordBits, feeds]
  | succ n ih =>
    rw [wordBits_succ, feeds_append, ih]
    show feed (x <<< n) (x.getMsbD n) = _
    have h : (x <<< n).msb = x.getMsbD n := by
      rw [BitVec.msb, BitVec.getMsbD_shiftLeft]
      simp
    rw [← h, feed_msb]
    rw [BitVec.shiftLeft_add]
theorem zip_right : ∀ bs : List Bool, List.zipWith (fun a b => a ^^ b) bs (List.replicate bs.length false) = bs
  | [] => rfl
  | b :: bs => by
    show (b ^^ false) :: List.zipWith (fun a b => a ^^ b) bs (List.replicate bs.length false) = b :: bs
    rw [zip_right bs, Bool.xor_false]
theorem zip_left : ∀ bs : List Bool, List.zipWith (fun a b => a ^^ b) (List.replicate bs.length false) bs = bs
  | [] => rfl
  | b :: bs => by
    show (false ^^ b) :: List.zipWith (fun a b => a ^^ b) (List.replicate bs.length false) bs = b :: bs
    rw [zip_left bs, Bool.false_xor]
theorem word_of (T : List Bool) (hl : T.length = 32) : ∃ W : BitVec 32, wordBits W 32 = T := by
  refine ⟨(BitVec.ofBoolListBE T).cast hl, ?_⟩
  apply List.ext_getElem?
  intro i
  by_cases hi : i < 32
  · have hT : T[i]? = some T[i] := List.getElem?_eq_getElem (by omega)
    rw [hT]
    simp only [wordBits, List.getElem?_map, List.getElem?_range hi, Option.map_some, Option.some.injEq]
    rw [BitVec.getMsbD_cast, BitVec.getMsbD_ofBoolListBE]
    simp [List.getD, hT]
  · have hT : T[i]? = none := List.getElem?_eq_none (by omega)
    rw [hT]
    exact List.getElem?_eq_none (by simp [wordBits]; omega)
theorem feeds_word (x : BitVec 32) : feeds 0#32 (wordBits x 32) = steps 32 x := by
  have h := feeds_xor (wordBits x 32) (List.replicate 32 false) x x (by simp [wordBits])
  rw [BitVec.xor_self, feeds_own, feeds_zeros] at h
  have e : x <<< 32 = 0#32 := by
    apply BitVec.eq_of_toNat_eq
    rw [BitVec.toNat_shiftLeft, Nat.shiftLeft_eq]
    simp
  have z := zip_right (wordBits x 32)
  rw [show (wordBits x 32).length = 32 by simp [wordBits]] at z
  rw [z, e, BitVec.zero_xor] at h
  exact h

/-- Bits of which one is set, at most 32: the register is not 0 behind them. -/
theorem feeds_short (T : List Bool) (h32 : T.length ≤ 32) (ht : true ∈ T) : feeds 0#32 T ≠ 0#32 := by
  intro h0
  obtain ⟨q, hq⟩ : ∃ q, T.length + q = 32 := ⟨32 - T.length, by omega⟩
  have hl : (T ++ List.replicate q false).length = 32 := by simp; omega
  obtain ⟨W, hW⟩ := word_of _ hl
  have h1 : steps 32 W = 0#32 := by
    rw [← feeds_word, hW, feeds_append, h0, feeds_zeros, steps_zero]
  have h2 := steps_inj 32 W h1
  subst h2
  obtain ⟨i, hi, hti⟩ := List.getElem_of_mem ht
  have h3 := congrArg (fun l => l[i]?) hW
  simp only [wordBits, List.getElem?_map, List.getElem?_range (show i < 32 by omega), Option.map_some] at h3
  rw [List.getElem?_append_left hi, List.getElem?_eq_getElem hi, hti] at h3
  simp at h3

/-! ### Bytes as bits -/
def bits8 (c : Nat) : List Bool := [c.testBit 7, c.testBit 6, c.testBit 5, c.testBit 4, c.testBit 3, c.testBit 2, c.testBit 1, c.testBit 0]
def bitsOf (l : List Nat) : List Bool := l.flatMap bits8
theorem bits8_closed : ∀ c : Fin 256, steps 8 (lift c.val) = feeds 0#32 (bits8 c.val) := by decide +kernel
theorem byteStep_bits (x : BitVec 32) (c : Nat) (h : c < 256) : byteStep x c = feeds x (bits8 c) := by
  unfold byteStep
  rw [steps_xor, bits8_closed ⟨c, h⟩]
  have := feeds_xor (List.replicate 8 false) (bits8 c) x 0#32 rfl
  rw [feeds_zeros, BitVec.xor_zero] at this
  rw [← this]
  exact congrArg _ (zip_left (bits8 c))
theorem crcFrom_bits : ∀ (l : List Nat) (x : BitVec 32), (∀ c ∈ l, c < 256) → crcFrom x l = feeds x (bitsOf l)
  | [], _, _ => rfl
  | c :: l, x, h => by
    show crcFrom (byteStep x c) l = feeds x (bits8 c ++ bitsOf l)
    rw [feeds_append, byteStep_bits x c (h c (by simp)), crcFrom_bits l _ (fun d hd => h d (by simp [hd]))]
theorem crcFrom_append (x : BitVec 32) (l m : List Nat) : crcFrom x (l ++ m) = crcFrom (crcFrom x l) m := by simp [crcFrom]

/-- A sum behind what it is the sum of: nothing is left. -/
theorem bits_b4 (x : BitVec 32) : bitsOf (b4 x.toNat) = wordBits x 32 := by
  have hb : ∀ k, k < 32 → x.getMsbD k = x.toNat.testBit (31 - k) := fun k hk => by
    rw [BitVec.getMsbD]
    simp [hk, BitVec.testBit_toNat]
  have hw : wordBits x 32 = (List.range 32).map fun k => x.toNat.testBit (31 - k) := by
    unfold wordBits
    apply List.map_congr_left
    intro k hk
    exact hb k (by simpa using hk)
  have h24 : ∀ j, j < 8 → (x.toNat / 16777216 % 256).testBit j = x.toNat.testBit (24 + j) := fun j hj => by
    rw [show (256 : Nat) = 2 ^ 8 by decide, Nat.testBit_mod_two_pow, show (16777216 : Nat) = 2 ^ 24 by decide, Nat.testBit_div_two_pow, decide_eq_true hj, Bool.true_and, Nat.add_comm]
  have h16 : ∀ j, j < 8 → (x.toNat / 65536 % 256).testBit j = x.toNat.testBit (16 + j) := fun j hj => by
    rw [show (256 : Nat) = 2 ^ 8 by decide, Nat.testBit_mod_two_pow, show (65536 : Nat) = 2 ^ 16 by decide, Nat.testBit_div_two_pow, decide_eq_true hj, Bool.true_and, Nat.add_comm]
  have h8 : ∀ j, j < 8 → (x.toNat / 256 % 256).testBit j = x.toNat.testBit (8 + j) := fun j hj => by
    rw [show (256 : Nat) = 2 ^ 8 by decide, Nat.testBit_mod_two_pow, Nat.testBit_div_two_pow, decide_eq_true hj, Bool.true_and, Nat.add_comm]
  have h0 : ∀ j, j < 8 → (x.toNat % 256).testBit j = x.toNat.testBit j := fun j hj => by
    rw [show (256 : Nat) = 2 ^ 8 by decide, Nat.testBit_mod_two_pow, decide_eq_true hj, Bool.true_and]
  rw [hw]
  show bits8 _ ++ (bits8 _ ++ (bits8 _ ++ (bits8 _ ++ []))) = _
  unfold bits8
  rw [h24 7 (by decide), h24 6 (by decide), h24 5 (by decide), h24 4 (by decide), h24 3 (by decide), h24 2 (by decide), h24 1 (by decide), h24 0 (by decide),
    h16 7 (by decide), h16 6 (by decide), h16 5 (by decide), h16 4 (by decide), h16 3 (by decide), h16 2 (by decide), h16 1 (by decide), h16 0 (by decide),
    h8 7 (by decide), h8 6 (by decide), h8 5 (by decide), h8 4 (by decide), h8 3 (by decide), h8 2 (by decide), h8 1 (by decide), h8 0 (by decide),
    h0 7 (by decide), h0 6 (by decide), h0 5 (by decide), h0 4 (by decide), h0 3 (by decide), h0 2 (by decide), h0 1 (by decide), h0 0 (by decide)]
  rfl
theorem crc_own (x : BitVec 32) : crcFrom x (b4 x.toNat) = 0#32 := by
  rw [crcFrom_bits _ _ (b4_lt _), bits_b4, feeds_own]
  apply BitVec.eq_of_toNat_eq
  rw [BitVec.toNat_shiftLeft, Nat.shiftLeft_eq]
  simp
theorem crc_withSum (t : List Nat) : crcFrom 4294967295#32 (t ++ b4 (crc t).toNat) = 0#32 := by
  rw [crcFrom_append]
  exact crc_own _

/-! ### Bits that are other ones -/
def bitAt (l : List Nat) (j : Nat) : Bool := (l[j / 8]?.getD 0).testBit (7 - j % 8)
theorem bitsOf_length (l : List Nat) : (bitsOf l).length = 8 * l.length := by
  induction l with
  | nil => rfl
  | cons c l ih =>
    show (bits8 c ++ bitsOf l).length = _
    rw [List.length_append, ih]
    simp [bits8]; omega
theorem bitsOf_at : ∀ (l : List Nat) (j : Nat), j < 8 * l.length → (bitsOf l)[j]? = some (bitAt l j)
  | [], j, h => by simp at h
  | c :: l, j, h => by
    show (bits8 c ++ bitsOf l)[j]? = _
    by_cases hj : j < 8
    · rw [List.getElem?_append_left (by simp [bits8]; omega)]
      rcases (by omega : j = 0 ∨ j = 1 ∨ j = 2 ∨ j = 3 ∨ j = 4 ∨ j = 5 ∨ j = 6 ∨ j = 7) with rfl | rfl | rfl | rfl | rfl | rfl | rfl | rfl <;> rfl
    · rw [List.getElem?_append_right (by simp [bits8]; omega)]
      have e : (bits8 c).length = 8 := rfl
      rw [e, bitsOf_at l (j - 8) (by simp at h; omega)]
      unfold bitAt
      rw [show j / 8 = (j - 8) / 8 + 1 by omega, List.getElem?_cons_succ, show (j - 8) % 8 = j % 8 by omega]

/-- Two rows of bytes that part in bits within 32 alone, and in one at least: not both have nothing left. -/
theorem burst (l m : List Nat) (x : BitVec 32) (a : Nat) (hl : ∀ c ∈ l, c < 256) (hm : ∀ c ∈ m, c < 256) (hlen : l.length = m.length)
    (hout : ∀ j, j < 8 * l.length → (j < a ∨ a + 32 ≤ j) → bitAt l j = bitAt m j) (hsome : ∃ j, j < 8 * l.length ∧ bitAt l j ≠ bitAt m j)
    (h1 : crcFrom x l = 0#32) (h2 : crcFrom x m = 0#32) : False := by
  have hx := feeds_xor (bitsOf l) (bitsOf m) x x (by rw [bitsOf_length, bitsOf_length, hlen])
  rw [← crcFrom_bits l x hl, ← crcFrom_bits m x hm, h1, h2, BitVec.xor_self, BitVec.xor_self] at hx
  obtain ⟨j0, hj0, hne⟩ := hsome
  have ha : a ≤ j0 ∧ j0 < a + 32 := by
    by_cases h : a ≤ j0 ∧ j0 < a + 32
    · exact h
    · exact absurd (hout j0 hj0 (by omega)) hne
  obtain ⟨n, hn⟩ : ∃ n, n = min 32 (8 * l.length - a) := ⟨_, rfl⟩
  have hz : List.zipWith (fun a b => a ^^ b) (bitsOf l) (bitsOf m) = List.replicate a false ++ ((List.range n).map (fun i => bitAt l (a + i) ^^ bitAt m (a + i)) ++ List.replicate (8 * l.length - a - n) false) := by
    apply List.ext_getElem?
    intro j
    rw [List.getElem?_zipWith]
    by_cases hj : j < 8 * l.length
    · rw [bitsOf_at l j hj, bitsOf_at m j (by omega)]
      show some (bitAt l j ^^ bitAt m j) = _
      by_cases q1 : j < a
      · rw [List.getElem?_append_left (by simpa using q1), hout j hj (.inl q1)]
        simp [q1]
      · rw [List.getElem?_append_right (by simp; omega), List.length_replicate]
        by_cases q2 : j - a < n
        · rw [List.getElem?_append_left (by simpa using q2)]
          simp [q2, show a + (j - a) = j by omega]
        · rw [List.getElem?_append_right (by simp; omega), List.length_map, List.length_range, hout j hj (.inr (by omega)), List.getElem?_replicate, if_pos (by omega)]
          simp
    · have hr : (List.replicate a false ++ ((List.range n).map (fun i => bitAt l (a + i) ^^ bitAt m (a + i)) ++ List.replicate (8 * l.length - a - n) false)).length ≤ j := by
        simp only [List.length_append, List.length_replicate, List.length_map, List.length_range]
        omega
      rw [List.getElem?_eq_none (show (bitsOf l).length ≤ j by rw [bitsOf_length]; omega), List.getElem?_eq_none hr]
  rw [hz, feeds_append, feeds_zeros, steps_zero, feeds_append, feeds_zeros] at hx
  have h0 := steps_inj _ _ hx
  refine feeds_short _ (by simp; omega) ?_ h0
  rw [List.mem_map]
  refine ⟨j0 - a, by simp; omega, ?_⟩
  rw [show a + (j0 - a) = j0 by omega]
  cases hb1 : bitAt l j0 <;> cases hb2 : bitAt m j0 <;> simp_all
end Go.Proofs.YtaablbmgagiajabGreatDoor
