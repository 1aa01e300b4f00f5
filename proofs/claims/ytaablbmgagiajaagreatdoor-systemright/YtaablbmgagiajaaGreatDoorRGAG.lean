import Derived.Test.YtaablbmgagiajaaGreatDoorRGAF
import Derived.BigQuiet
import Derived.OwnWalk
import Derived.Laws.OwnMore
import Derived.Deep.AppendLies
namespace Go.Proofs.YtaablbmgagiajaaGreatDoor
theorem bytesN_at : ∀ (l : List Int) (i j : Nat), i < l.length → j < 3 → (bytesN l)[3 * i + j]?.getD 0 = (b3 (l[i]?.getD 0).toNat)[j]?.getD 0
  | [], i, _, h, _ => by simp at h
  | x :: l, i, j, h, hj => by
    show (b3 x.toNat ++ bytesN l)[3 * i + j]?.getD 0 = _
    have e : (b3 x.toNat).length = 3 := rfl
    cases i with
    | zero => rw [List.getElem?_append_left (by rw [e]; omega), Nat.mul_zero, Nat.zero_add]; rfl
    | succ i =>
      rw [List.getElem?_append_right (by rw [e]; omega), e, show 3 * (i + 1) + j - 3 = 3 * i + j by omega, List.getElem?_cons_succ]
      exact bytesN_at l i j (by simpa using h) hj
theorem read_bytes (l : List Int) (h : ∀ x ∈ l, 0 ≤ x ∧ x < 16777216) : readF (bytesN l) = l := by
  unfold readF
  rw [bytesN_length, show 3 * l.length / 3 = l.length by omega]
  apply List.ext_getElem?
  intro i
  by_cases hi : i < l.length
  · have hx := h _ (List.getElem_mem hi)
    rw [List.getElem?_eq_getElem hi]
    unfold readN
    rw [List.getElem?_map, List.getElem?_range hi]
    simp only [Option.map_some, Option.some.injEq]
    unfold num3
    have e0 := bytesN_at l i 0 hi (by omega)
    have e1 := bytesN_at l i 1 hi (by omega)
    have e2 := bytesN_at l i 2 hi (by omega)
    rw [Nat.add_zero] at e0
    rw [e0, e1, e2, List.getElem?_eq_getElem hi]
    show ((l[i].toNat / 65536 % 256 * 65536 + l[i].toNat / 256 % 256 * 256 + l[i].toNat % 256 : Nat) : Int) = l[i]
    omega
  · rw [List.getElem?_eq_none (by rw [readN_length]; omega), List.getElem?_eq_none (by omega)]
theorem told_with (t : List Nat) : toldN (withSum t) = t := by
  unfold toldN
  rw [withSum_length, Nat.add_sub_cancel]
  unfold withSum
  simp
theorem last_with (t : List Nat) : lastN (withSum t) = b4 (crc t).toNat := by
  unfold lastN
  rw [withSum_length, Nat.add_sub_cancel]
  unfold withSum
  simp
theorem stNums_congr {F G : FR} (h : ∀ k, k < 23 → F k = G k) : ∀ n, n ≤ 8 → stNums F n = stNums G n
  | 0, _ => rfl
  | n + 1, hn => by unfold stNums; rw [stNums_congr h n (by omega), h (7 + n) (by omega), h (15 + n) (by omega)]
theorem nums_congr {F G : FR} (h : ∀ k, k < 23 → F k = G k) : numsF F = numsF G := by
  unfold numsF
  rw [h 0 (by omega), h 1 (by omega), h 2 (by omega), h 3 (by omega), h 4 (by omega), h 5 (by omega), h 6 (by omega), stNums_congr h 8 (by omega)]
theorem may_congr {F G : FR} (h : ∀ k, k < 23 → F k = G k) : mayB F = mayB G := by
  have he : eqB F (framedF (numsF G)) = eqB G (framedF (numsF G)) := by
    rw [Bool.eq_iff_iff, eqB_iff, eqB_iff]
    exact ⟨fun q k hk => by rw [← h k hk]; exact q k hk, fun q k hk => by rw [h k hk]; exact q k hk⟩
  unfold mayB headB
  rw [nums_congr h, he, h 0 (by omega), h 1 (by omega)]
theorem enc_congr {F G : FR} (h : ∀ k, k < 23 → F k = G k) : encF F = encF G := by unfold encF; rw [nums_congr h]
theorem may_parts {F : FR} (h : mayB F = true) : headB F = true ∧ (∀ x ∈ numsF F, 0 ≤ x ∧ x ≤ 1048576) ∧ ∀ k, k < 23 → F k = framedF (numsF F) k := by
  unfold mayB at h
  simp only [Bool.and_eq_true, List.all_eq_true] at h
  refine ⟨h.1, fun x hx => ?_, (eqB_iff _ _).1 h.2.2⟩
  have := h.2.1 x hx
  unfold fitsB at this
  simpa using this
theorem enc_len (F : FR) : 13 ≤ (encF F).length ∧ (encF F).length ≤ 64 := by
  have := nums_length_le F
  have := nums_length_ge F
  rw [encF_length]
  omega
theorem dec_enc {F : FR} (h : mayB F = true) : ∃ G, decF (encF F) = (0, G) ∧ ∀ k, k < 23 → G k = F k := by
  obtain ⟨_, h2, h3⟩ := may_parts h
  have hl := enc_len F
  have ht : toldN (encF F) = bytesN (numsF F) := told_with _
  have hr : readF (toldN (encF F)) = numsF F := by rw [ht]; exact read_bytes _ fun x hx => by have := h2 x hx; omega
  refine ⟨framedF (numsF F), ?_, fun k hk => (h3 k hk).symm⟩
  have hc : ∀ k, k < 23 → framedF (numsF F) k = F k := fun k hk => (h3 k hk).symm
  have hs : b4 (crc (toldN (encF F))).toNat = lastN (encF F) := by rw [ht]; exact (last_with _).symm
  have := dec_ok (l := encF F) (by omega) (by omega) hs (by rw [hr]; exact ⟨(may_congr hc).trans h, enc_congr hc⟩)
  rw [this, hr]
theorem dec_cases (l : List Nat) : ((decF l).1 ≠ 0 ∧ (decF l).2 = fr0) ∨ ((decF l).1 = 0 ∧ mayB (decF l).2 = true ∧ encF (decF l).2 = l ∧ 7 ≤ l.length) := by
  by_cases h : l.length < 7 ∨ 80 < l.length
  · left; rw [dec_form h]; exact ⟨by simp, rfl⟩
  · by_cases hs : b4 (crc (toldN l)).toNat = lastN l
    · by_cases hn : mayB (framedF (readF (toldN l))) = true ∧ encF (framedF (readF (toldN l))) = l
      · right; rw [dec_ok (by omega) (by omega) hs hn]; exact ⟨rfl, hn.1, hn.2, by omega⟩
      · left; rw [dec_not (by omega) (by omega) hs hn]; exact ⟨by simp, rfl⟩
    · left; rw [dec_spoilt (by omega) (by omega) hs]; exact ⟨by simp, rfl⟩
theorem dec_burst (F : FR) (m : List Nat) (a : Nat) (hm : ∀ c ∈ m, c < 256) (hlen : m.length = (encF F).length)
    (hout : ∀ j, j < 8 * m.length → (j < a ∨ a + 32 ≤ j) → bitAt m j = bitAt (encF F) j) (hsome : ∃ j, j < 8 * m.length ∧ bitAt m j ≠ bitAt (encF F) j) : (decF m).1 ≠ 0 ∧ (decF m).2 = fr0 := by
  rcases dec_cases m with q | ⟨_, _, q2, _⟩
  · exact q
  · exfalso
    have h1 : crcFrom 4294967295#32 m = 0#32 := by rw [← q2]; exact crc_withSum _
    have h2 : crcFrom 4294967295#32 (encF F) = 0#32 := crc_withSum _
    exact burst m (encF F) _ a hm (encF_lt F) hlen hout hsome h1 h2
def flipB (l : List Nat) (j : Nat) : List Nat := l.set (j / 8) ((l[j / 8]?.getD 0) ^^^ 2 ^ (7 - j % 8))
theorem flipB_length (l : List Nat) (j : Nat) : (flipB l j).length = l.length := by simp [flipB]
theorem flipB_lt {l : List Nat} (j : Nat) (h : ∀ c ∈ l, c < 256) : ∀ c ∈ flipB l j, c < 256 := by
  intro c hc
  rcases List.mem_or_eq_of_mem_set hc with q | q
  · exact h c q
  · subst q
    have h1 : l[j / 8]?.getD 0 < 2 ^ 8 := by
      by_cases hj : j / 8 < l.length
      · rw [List.getElem?_eq_getElem hj]; exact h _ (List.getElem_mem hj)
      · rw [List.getElem?_eq_none (by omega)]; simp
    exact Nat.xor_lt_two_pow h1 (Nat.pow_lt_pow_right (by decide) (by omega))
theorem bitAt_flip (l : List Nat) (j k : Nat) (hj : j < 8 * l.length) : bitAt (flipB l j) k = (bitAt l k ^^ decide (k = j)) := by
  unfold bitAt flipB
  by_cases h : k / 8 = j / 8
  · rw [h, List.getElem?_set_self (by omega)]
    simp only [Option.getD_some]
    rw [Nat.testBit_xor, Nat.testBit_two_pow]
    congr 1
    rw [Bool.eq_iff_iff, decide_eq_true_iff, decide_eq_true_iff]
    omega
  · rw [List.getElem?_set_ne (fun e => h e.symm), decide_eq_false (fun e => h (by rw [e])), Bool.xor_false]
end Go.Proofs.YtaablbmgagiajaaGreatDoor
namespace Go.Proofs.YtaablbmgagiajaaGreatDoor
open Go.RowKit Go.Deep
structure OwnB (w : World) (base g n cp : Nat) (l : List Nat) : Prop where
  own : w.ownsRow base 5 1 (.slice (some ⟨g, 0, none⟩) n cp) n (u8s l)
  len : l.length = n
  lt : ∀ c ∈ l, c < 256
theorem OwnB.parts {w : World} {base g n cp : Nat} {l : List Nat} (h : OwnB w base g n cp l) : base ≤ g ∧ g < w.heap.size ∧ n ≤ cp := by
  rcases h.own.2 with ⟨h', _⟩ | ⟨g', cap', cur, h', hb, hg, hnc, _⟩
  · simp at h'
  · simp only [Value.slice.injEq, Option.some.injEq, Addr.mk.injEq, and_true, true_and] at h'
    obtain ⟨rfl, rfl⟩ := h'
    exact ⟨hb, blk_lt hg, hnc⟩
theorem OwnB.at {w : World} {base g n cp : Nat} {l : List Nat} (h : OwnB w base g n cp l) {k : Nat} (hk : k < n) : w.cell? ⟨g, k, none⟩ = some (.int .u8 ((l[k]?.getD 0 : Nat) : Int)) := by
  rw [h.own.cellAt k (by omega)]
  simp [u8s, show k < l.length by rw [h.len]; exact hk]
theorem OwnB.free {w : World} {base g n cp : Nat} {l : List Nat} (h : OwnB w base g n cp l) (k : Nat) : w.frozen? ⟨g, k, none⟩ = false := h.own.frozenAt k
theorem OwnB.set {w : World} {base g n cp : Nat} {l : List Nat} (h : OwnB w base g n cp l) (k c : Nat) (hc : c < 256) : OwnB (w.setCell ⟨g, k, none⟩ (.int .u8 (c : Int))) base g n cp (l.set k c) := by
  refine ⟨?_, by rw [List.length_set]; exact h.len, fun d hd => ?_⟩
  · have := (h.own.stored k (.int .u8 (c : Int))).1
    unfold u8s at this ⊢
    rwa [List.map_set]
  · rcases List.mem_or_eq_of_mem_set hd with q | q
    · exact h.lt d q
    · omega
def wBit (what i : Nat) : Bool := what.testBit (31 - i)
def flipTo (l : List Nat) (a what : Nat) : Nat → List Nat
  | 0 => l
  | i + 1 => if (wBit what i && decide (a + i < 8 * l.length)) = true then flipB (flipTo l a what i) (a + i) else flipTo l a what i
def someTo (l : List Nat) (a what : Nat) : Nat → Bool
  | 0 => false
  | i + 1 => if (wBit what i && decide (a + i < 8 * l.length)) = true then true else someTo l a what i
theorem flipTo_length (l : List Nat) (a what i : Nat) : (flipTo l a what i).length = l.length := by
  induction i with
  | zero => rfl
  | succ i ih => unfold flipTo; split <;> simp [flipB_length, ih]
theorem flipTo_lt {l : List Nat} (a what i : Nat) (h : ∀ c ∈ l, c < 256) : ∀ c ∈ flipTo l a what i, c < 256 := by
  induction i with
  | zero => exact h
  | succ i ih =>
    unfold flipTo
    split
    · exact flipB_lt _ ih
    · exact ih
theorem bitAt_flipTo (l : List Nat) (a what i k : Nat) (hk : k < 8 * l.length) : bitAt (flipTo l a what i) k = (bitAt l k ^^ (decide (a ≤ k) && (decide (k < a + i) && wBit what (k - a)))) := by
  induction i with
  | zero =>
    unfold flipTo
    have e : (decide (a ≤ k) && (decide (k < a + 0) && wBit what (k - a))) = false := by
      by_cases h : a ≤ k
      · rw [decide_eq_false (show ¬ k < a + 0 by omega)]; simp
      · rw [decide_eq_false h]; rfl
    rw [e, Bool.xor_false]
  | succ i ih =>
    unfold flipTo
    by_cases hki : k = a + i
    · subst hki
      have e : a + i - a = i := by omega
      rw [e] at ih ⊢
      rw [decide_eq_true (show a ≤ a + i by omega), decide_eq_true (show a + i < a + (i + 1) by omega)]
      rw [decide_eq_false (show ¬ a + i < a + i by omega)] at ih
      rw [decide_eq_true hk, Bool.and_true]
      cases hw : wBit what i
      · rw [if_neg (by decide), ih]; simp
      · rw [if_pos rfl, bitAt_flip _ _ _ (by rw [flipTo_length]; exact hk), ih]; simp
    · have e1 : decide (k < a + (i + 1)) = decide (k < a + i) := by
        rw [Bool.eq_iff_iff, decide_eq_true_iff, decide_eq_true_iff]; omega
      rw [e1]
      split
      · rename_i hc
        have : a + i < 8 * l.length := by
          simp only [Bool.and_eq_true, decide_eq_true_eq] at hc
          exact hc.2
        rw [bitAt_flip _ _ _ (by rw [flipTo_length]; exact this), ih, decide_eq_false hki, Bool.xor_false]
      · exact ih
theorem someTo_ex {l : List Nat} {a what i : Nat} (h : someTo l a what i = true) : ∃ j, j < i ∧ wBit what j = true ∧ a + j < 8 * l.length := by
  induction i with
  | zero => exact absurd h (by simp [someTo])
  | succ i ih =>
    unfold someTo at h
    split at h
    · rename_i hc
      simp only [Bool.and_eq_true, decide_eq_true_eq] at hc
      exact ⟨i, by omega, hc.1, hc.2⟩
    · obtain ⟨j, h1, h2, h3⟩ := ih h
      exact ⟨j, by omega, h2, h3⟩
theorem dec_flip (F : FR) (a what : Nat) (h : someTo (encF F) a what 32 = true) : (decF (flipTo (encF F) a what 32)).1 ≠ 0 ∧ (decF (flipTo (encF F) a what 32)).2 = fr0 := by
  refine dec_burst F _ a (flipTo_lt a what 32 (encF_lt F)) (flipTo_length _ _ _ _) (fun j hj ho => ?_) ?_
  · rw [flipTo_length] at hj
    rw [bitAt_flipTo _ _ _ _ _ hj]
    rcases ho with ho | ho
    · rw [decide_eq_false (show ¬ a ≤ j by omega)]; simp
    · rw [decide_eq_false (show ¬ j < a + 32 by omega)]; simp
  · obtain ⟨j, h1, h2, h3⟩ := someTo_ex h
    refine ⟨a + j, by rw [flipTo_length]; exact h3, ?_⟩
    rw [bitAt_flipTo _ _ _ _ _ h3, decide_eq_true (show a ≤ a + j by omega), decide_eq_true (show a + j < a + 32 by omega), show a + j - a = j by omega, h2]
    cases bitAt (encF F) (a + j) <;> decide
theorem flip_no {l : List Nat} {a what k : Nat} (h : (wBit what k && decide (a + k < 8 * l.length)) = false) : flipTo l a what (k + 1) = flipTo l a what k ∧ someTo l a what (k + 1) = someTo l a what k := by
  constructor
  · rw [flipTo, h]; simp
  · rw [someTo, h]; simp
theorem flip_yes {l : List Nat} {a what k : Nat} (h : (wBit what k && decide (a + k < 8 * l.length)) = true) : flipTo l a what (k + 1) = flipB (flipTo l a what k) (a + k) ∧ someTo l a what (k + 1) = true := by
  constructor
  · rw [flipTo, if_pos h]
  · rw [someTo, if_pos h]
theorem shr128 (r p : Nat) (h : r < 8) (hp : 2 ^ (7 - r) = p) : (128 : Int) / 2 ^ min r 8 = (p : Int) := by
  subst hp
  rcases (by omega : r = 0 ∨ r = 1 ∨ r = 2 ∨ r = 3 ∨ r = 4 ∨ r = 5 ∨ r = 6 ∨ r = 7) with rfl | rfl | rfl | rfl | rfl | rfl | rfl | rfl <;> decide
theorem xor8 (a b : Nat) (ha : a < 2 ^ 8) (hb : b < 2 ^ 8) : bits .xor .u8 (a : Int) (b : Int) = ((a ^^^ b : Nat) : Int) := by
  show IntKind.u8.wrap (((BitVec.ofInt 8 _ ^^^ BitVec.ofInt 8 _).toNat : Nat) : Int) = _
  rw [BitVec.toNat_xor, show (BitVec.ofInt 8 (a : Int)).toNat = a by rw [BitVec.toNat_ofInt]; omega, show (BitVec.ofInt 8 (b : Int)).toNat = b by rw [BitVec.toNat_ofInt]; omega]
  have := Nat.xor_lt_two_pow ha hb
  simp [IntKind.wrap, IntKind.bits, IntKind.signed]
  omega
theorem OwnB.get_lt {w : World} {base g n cp : Nat} {l : List Nat} (h : OwnB w base g n cp l) (k : Nat) : l[k]?.getD 0 < 256 := by
  by_cases hk : k < l.length
  · rw [List.getElem?_eq_getElem hk]; exact h.lt _ (List.getElem_mem hk)
  · rw [List.getElem?_eq_none (by omega)]; decide
def tabL : List Nat := [0, 1, 28, 2, 29, 14, 24, 3, 30, 22, 20, 15, 25, 17, 4, 8, 31, 27, 13, 23, 21, 19, 16, 7, 26, 12, 18, 6, 11, 5, 10, 9]
def HasTab (w : World) : Prop := ∀ k, k < 32 → w.cell? ⟨0, k, none⟩ = some (.int .u8 ((tabL[k]?.getD 0 : Nat) : Int))
theorem HasTab.below {w w' : World} (h : HasTab w) (hB : Below w.heap.size w w') (_ : 0 < w.heap.size) : HasTab w' := fun k hk => (hB.cell (p := ⟨0, k, none⟩) (World.block_lt_of_cell? _ _ (h k hk))).trans (h k hk)
theorem low_bit (x : Nat) (h : x ≠ 0) : ∃ t m, x = 2 ^ (t + 1) * m + 2 ^ t := by
  induction x using Nat.strongRecOn with
  | _ x ih =>
    by_cases e : x % 2 = 1
    · exact ⟨0, x / 2, by simp; omega⟩
    · obtain ⟨t, m, hm⟩ := ih (x / 2) (by omega) (by omega)
      refine ⟨t + 1, m, ?_⟩
      have hx : x = 2 * (x / 2) := by omega
      rw [hx, hm, Nat.mul_add, Nat.pow_succ 2 (t + 1), Nat.pow_succ 2 t]
      have : 2 * (2 ^ t * 2 * m) = 2 ^ t * 2 * 2 * m := by rw [Nat.mul_comm 2, Nat.mul_assoc, Nat.mul_assoc, Nat.mul_assoc, Nat.mul_assoc, Nat.mul_comm m 2]
      rw [this, Nat.mul_comm 2 (2 ^ t)]
theorem low_lt {x t m : Nat} (hx : x < 4294967296) (h : x = 2 ^ (t + 1) * m + 2 ^ t) : t < 32 := by
  refine Nat.lt_of_not_le fun hge => ?_
  have : 2 ^ 32 ≤ 2 ^ t := Nat.pow_le_pow_right (by decide) hge
  omega
theorem low_bits {x t m : Nat} (h : x = 2 ^ (t + 1) * m + 2 ^ t) (i : Nat) : x.testBit i = if i < t + 1 then decide (i = t) else m.testBit (i - (t + 1)) := by
  rw [h, Nat.testBit_two_pow_mul_add m (Nat.pow_lt_pow_right (by decide) (Nat.lt_succ_self t)), Nat.testBit_two_pow]
  split
  · congr 1; rw [eq_iff_iff]; omega
  · rfl
theorem low_pred {x t m : Nat} (h : x = 2 ^ (t + 1) * m + 2 ^ t) (i : Nat) : (x - 1).testBit i = if i < t + 1 then decide (i < t) else m.testBit (i - (t + 1)) := by
  have hp := Nat.two_pow_pos t
  have e : x - 1 = 2 ^ (t + 1) * m + (2 ^ t - 1) := by omega
  have hl : 2 ^ t - 1 < 2 ^ (t + 1) := by have := Nat.pow_lt_pow_right (a := 2) (by decide) (Nat.lt_succ_self t); omega
  rw [e, Nat.testBit_two_pow_mul_add m hl, Nat.testBit_two_pow_sub_one]
theorem low_and {x t m : Nat} (hx : x < 4294967296) (h : x = 2 ^ (t + 1) * m + 2 ^ t) : x &&& (4294967296 - x) = 2 ^ t := by
  have hp := Nat.two_pow_pos t
  have h0 : 0 < x := by omega
  have e : 4294967296 - x = 2 ^ 32 - ((x - 1) + 1) := by omega
  apply Nat.eq_of_testBit_eq
  intro i
  rw [Nat.testBit_and, e, Nat.testBit_two_pow_sub_succ (by omega), low_bits h i, low_pred h i, Nat.testBit_two_pow]
  have ht := low_lt hx h
  by_cases hi : i < t + 1
  · rw [if_pos hi, if_pos hi]
    by_cases hit : i = t
    · subst hit; simp; omega
    · have h1 : decide (t = i) = false := decide_eq_false (fun e => hit e.symm)
      rw [decide_eq_false hit, h1]; rfl
  · have h1 : decide (t = i) = false := decide_eq_false (by omega)
    rw [if_neg hi, if_neg hi, h1]
    cases m.testBit (i - (t + 1)) <;> simp
theorem tab_at {t : Nat} (ht : t < 32) : (2 ^ t * 125613361 % 4294967296) / 134217728 < 32 ∧ tabL[(2 ^ t * 125613361 % 4294967296) / 134217728]?.getD 0 = t := by
  have : ∀ t : Fin 32, (2 ^ t.val * 125613361 % 4294967296) / 134217728 < 32 ∧ tabL[(2 ^ t.val * 125613361 % 4294967296) / 134217728]?.getD 0 = t.val := by decide +kernel
  exact this ⟨t, ht⟩
theorem and32 (a b : Nat) (ha : a < 4294967296) (hb : b < 4294967296) : bits .and .u32 (a : Int) (b : Int) = ((a &&& b : Nat) : Int) := by
  show IntKind.u32.wrap (((BitVec.ofInt 32 _ &&& BitVec.ofInt 32 _).toNat : Nat) : Int) = _
  rw [BitVec.toNat_and, show (BitVec.ofInt 32 (a : Int)).toNat = a by rw [BitVec.toNat_ofInt]; omega, show (BitVec.ofInt 32 (b : Int)).toNat = b by rw [BitVec.toNat_ofInt]; omega]
  exact wrap_u32 _ (Nat.lt_of_le_of_lt Nat.and_le_left ha)
theorem neg32 {x : Nat} (hx : x < 4294967296) (h0 : x ≠ 0) : IntKind.u32.wrap (-(x : Int)) = ((4294967296 - x : Nat) : Int) := by
  simp [IntKind.wrap, IntKind.bits, IntKind.signed]
  omega
theorem mul32 (z : Nat) : IntKind.u32.wrap ((z : Int) * 125613361) = ((z * 125613361 % 4294967296 : Nat) : Int) := by
  simp [IntKind.wrap, IntKind.bits, IntKind.signed]
theorem tz_facts {x t m : Nat} (hx : x < 4294967296) (h : x = 2 ^ (t + 1) * m + 2 ^ t) : ∃ y z u v : Nat, IntKind.u32.wrap (-(x : Int)) = (y : Int) ∧ bits .and .u32 (x : Int) (y : Int) = (z : Int) ∧ IntKind.u32.wrap ((z : Int) * 125613361) = (u : Int) ∧ (u : Int) / 134217728 = (v : Int) ∧ v < 32 ∧ tabL[v]?.getD 0 = t := by
  have ht := low_lt hx h
  have hx0 : x ≠ 0 := by have := Nat.two_pow_pos t; omega
  refine ⟨4294967296 - x, 2 ^ t, 2 ^ t * 125613361 % 4294967296, 2 ^ t * 125613361 % 4294967296 / 134217728, neg32 hx hx0, ?_, mul32 _, by simp, (tab_at ht).1, (tab_at ht).2⟩
  rw [and32 _ _ hx (by omega), low_and hx h]
set_option maxHeartbeats 1000000 in
set_option maxRecDepth 20000 in
theorem tz_walk (x t y z u v : Nat) (w : World) (hx0' : ((x : Int) == 0) = false) (e7 : IntKind.u32.wrap (-(x : Int)) = (y : Int)) (e8 : bits .and .u32 (x : Int) (y : Int) = (z : Int)) (e9 : IntKind.u32.wrap ((z : Int) * 125613361) = (u : Int)) (e10 : (u : Int) / 134217728 = (v : Int)) (hv' : (v : Int) < 32) (ct : w.cell? ⟨0, v, none⟩ = some (.int .u8 (t : Int))) :
    Calls Tryz.prog 96 #[.int .u32 (x : Int)] w fun e w' => e = .returned (.int .i64 (wrap64 (t : Int))) ∧ w' = w := by
  go_enter Tryz.func96, Tryz.ntmps96
  go_wp2
  go_ret
  exact ⟨rfl, rfl⟩
theorem tz_any (x t m : Nat) (w : World) (hx : x < 4294967296) (h : x = 2 ^ (t + 1) * m + 2 ^ t) (hT : HasTab w) :
    Calls Tryz.prog 96 #[.int .u32 (x : Int)] w fun e w' => e = .returned (.int .i64 (t : Int)) ∧ w' = w := by
  have ht := low_lt hx h
  have hx0 : x ≠ 0 := by have := Nat.two_pow_pos t; omega
  obtain ⟨y, z, u, v, e7, e8, e9, e10, hv, htv⟩ := tz_facts hx h
  have := tz_walk x t y z u v w (by simpa using hx0) e7 e8 e9 e10 (by omega) (by rw [hT v hv, htv])
  rw [IntWalk.wrap64_in _ ⟨by omega, by omega⟩] at this
  exact this
structure Cm where
  c : Int
  v : Int
  o : Int
def cm0 : Cm := ⟨0, 0, 0⟩
structure VS where
  tr : List Cm
  b : Nat → Bool
  x : Nat → Cm
  left : Nat
  out : Nat
  lat : Bool
def vs0 (win : Nat) : VS := ⟨[], fun _ => false, fun _ => cm0, win, 0, false⟩
structure VOk (win : Nat) (S : VS) : Prop where
  w1 : 1 ≤ win
  w2 : win ≤ 20
  few : S.tr.length ≤ 1000
  full : S.tr.length = 1000 → S.lat = true
  out : S.out < 8
  left : S.left ≤ 20
  pos : S.lat = false → 1 ≤ S.left
theorem VOk.new {win : Nat} (h1 : 1 ≤ win) (h2 : win ≤ 20) : VOk win (vs0 win) := ⟨h1, h2, by simp [vs0], by simp [vs0], by simp [vs0], h2, fun _ => h1⟩
def eqIn (a d : Cm) : Bool := a.c == d.c && a.v == d.v
def eqCm (a d : Cm) : Bool := eqIn a d && a.o == d.o
theorem eqCm_iff {a d : Cm} : eqCm a d = true ↔ a = d := by
  cases a; cases d
  simp [eqCm, eqIn, and_assoc]
def likeB (b : Nat → Bool) (x : Nat → Cm) (d : Cm) (k : Nat) : Bool := b k && eqCm (x k) d
def agB (b : Nat → Bool) (x : Nat → Cm) (d : Cm) (k : Nat) : Bool := (b k && eqIn (x k) d) && (x k).o != d.o
def secTo (b : Nat → Bool) (x : Nat → Cm) (d : Cm) (r : Nat) : Nat → Bool
  | 0 => false
  | k + 1 => secTo b x d r k || (k != r && likeB b x d k)
def agTo (b : Nat → Bool) (x : Nat → Cm) (d : Cm) : Nat → Nat
  | 0 => 0
  | k + 1 => if agB b x d k then agTo b x d k ||| 2 ^ k else agTo b x d k
theorem agTo_lt (b : Nat → Bool) (x : Nat → Cm) (d : Cm) (k n : Nat) (h : k ≤ n) : agTo b x d k < 2 ^ n := by
  induction k with
  | zero => exact Nat.two_pow_pos n
  | succ k ih =>
    unfold agTo
    split
    · exact or_bit_lt (ih (by omega)) (by omega)
    · exact ih (by omega)
theorem agTo_bit (b : Nat → Bool) (x : Nat → Cm) (d : Cm) (n k : Nat) : (agTo b x d n).testBit k = (decide (k < n) && agB b x d k) := by
  induction n with
  | zero => simp [agTo]
  | succ n ih =>
    unfold agTo
    by_cases e : k = n
    · subst e
      split
      · rename_i h; rw [Nat.testBit_or, ih, two_bit, h]; simp
      · rename_i h; rw [ih]; simp [Bool.eq_false_iff.2 h]
    · have hd : decide (k < n + 1) = decide (k < n) := by rw [decide_eq_decide]; omega
      split
      · rw [Nat.testBit_or, ih, two_bit, decide_eq_false (by omega : ¬ n = k), hd]; simp
      · rw [ih, hd]
def doneF (k : Nat) (d : Cm) : FR := votF 3 3 (k : Int) d.c d.v d.o
def cmAt (l : List Cm) (k : Nat) : Cm := l[k]?.getD cm0
def pastF (l : List Cm) (k : Nat) : List FR := if k + 1 = l.length then [doneF k (cmAt l k)] else [doneF k (cmAt l k), doneF (l.length - 1) (cmAt l (l.length - 1))]
def kindB (F : FR) : Bool := F 0 == 2 || F 0 == 4
def fromB (F : FR) : Bool := decide (0 ≤ F 1) && decide (F 1 < 3)
def hearB (S : VS) (F : FR) : Bool := kindB F && (fromB F && (!S.out.testBit (F 1).toNat && decide (0 ≤ F 2)))
def outN (S : VS) (d : Cm) : Nat := S.out ||| agTo S.b S.x d 3
def commitS (win : Nat) (S : VS) (d : Cm) : VS := ⟨S.tr ++ [d], fun _ => false, fun _ => cm0, win, outN S d, decide (2 ≤ pop 8 (outN S d)) || decide (1000 ≤ S.tr.length + 1)⟩
def castS (S : VS) (k : Nat) (d : Cm) : VS := ⟨S.tr, upd S.b k true, upd S.x k d, S.left, S.out, S.lat⟩
def cmF (F : FR) : Cm := ⟨F 3, F 4, F 5⟩
def passB (S : VS) (F : FR) : Bool := (decide ((S.tr.length : Int) < F 2) || F 0 == 4) || S.lat
def takeF (win : Nat) (S : VS) (F : FR) : VS × List FR × Bool :=
  if hearB S F = false then (S, [], false)
  else if F 2 < S.tr.length then (S, pastF S.tr (F 2).toNat, false)
  else if passB S F = true then (S, [], false)
  else if secTo (castS S (F 1).toNat (cmF F)).b (castS S (F 1).toNat (cmF F)).x (cmF F) (F 1).toNat 3 = false then (castS S (F 1).toNat (cmF F), [], false)
  else (commitS win (castS S (F 1).toNat (cmF F)) (cmF F), [doneF S.tr.length (cmF F)], true)
def tickF (S : VS) : VS := if S.lat then S else ⟨S.tr, S.b, S.x, S.left - 1, S.out, S.left - 1 == 0⟩
def latchF (S : VS) : VS := ⟨S.tr, S.b, S.x, S.left, S.out, true⟩
def shownF (S : VS) : Int := if S.lat || S.tr.length == 0 then 0 else (cmAt S.tr (S.tr.length - 1)).o
theorem VOk.tick {win : Nat} {S : VS} (h : VOk win S) : VOk win (tickF S) := by
  unfold tickF
  split
  · exact h
  · rename_i hl
    have hl : S.lat = false := by simpa using hl
    have hp := h.pos hl
    have hf := h.left
    refine ⟨h.w1, h.w2, h.few, fun e => (by rw [h.full e] at hl; cases hl), h.out, ?_, fun e => ?_⟩
    · show S.left - 1 ≤ 20; omega
    · have : ¬ S.left - 1 = 0 := by simpa using e
      show 1 ≤ S.left - 1; omega
theorem VOk.latch {win : Nat} {S : VS} (h : VOk win S) : VOk win (latchF S) := ⟨h.w1, h.w2, h.few, fun _ => rfl, h.out, h.left, fun e => by cases e⟩
theorem VOk.cast {win : Nat} {S : VS} (h : VOk win S) (k : Nat) (d : Cm) : VOk win (castS S k d) := ⟨h.w1, h.w2, h.few, h.full, h.out, h.left, h.pos⟩
theorem outN_lt {win : Nat} {S : VS} (h : VOk win S) (d : Cm) : outN S d < 8 := Nat.or_lt_two_pow (n := 3) h.out (agTo_lt _ _ _ 3 3 (Nat.le_refl _))
theorem VOk.commit {win : Nat} {S : VS} (h : VOk win S) (hl : S.lat = false) (d : Cm) : VOk win (commitS win S d) := by
  have hf := h.few
  have hn : ¬ S.tr.length = 1000 := fun e => by rw [h.full e] at hl; cases hl
  refine ⟨h.w1, h.w2, ?_, ?_, outN_lt h d, h.w2, fun _ => h.w1⟩
  · show (S.tr ++ [d]).length ≤ 1000; simp; omega
  · intro e
    have : S.tr.length + 1 = 1000 := by simpa [commitS] using e
    show (decide _ || decide _) = true
    rw [this]; simp
theorem VOk.take {win : Nat} {S : VS} (h : VOk win S) (F : FR) : VOk win (takeF win S F).1 := by
  unfold takeF
  split
  · exact h
  · split
    · exact h
    · split
      · exact h
      · rename_i hp
        split
        · exact h.cast _ _
        · refine (h.cast _ _).commit ?_ _
          show S.lat = false
          unfold passB at hp
          cases hl : S.lat
          · rfl
          · rw [hl] at hp; simp at hp
structure Mod (w w' : World) (T : Nat → Prop) : Prop where
  os : w'.os = w.os
  tape : w'.tape = w.tape
  output : w'.output = w.output
  size : w.heap.size ≤ w'.heap.size
  block : ∀ k, k < w.heap.size → ¬ T k → w'.heap[k]? = w.heap[k]?
theorem Mod.refl (w : World) (T : Nat → Prop) : Mod w w T := ⟨rfl, rfl, rfl, Nat.le_refl _, fun _ _ _ => rfl⟩
theorem Mod.then {w w1 w2 : World} {T U : Nat → Prop} (h : Mod w w1 T) (k : Mod w1 w2 U) (hU : ∀ i, i < w.heap.size → U i → T i) : Mod w w2 T :=
  ⟨k.os.trans h.os, k.tape.trans h.tape, k.output.trans h.output, Nat.le_trans h.size k.size, fun i hi ht => (k.block i (Nat.lt_of_lt_of_le hi h.size) (fun hu => ht (hU i hi hu))).trans (h.block i hi ht)⟩
theorem Mod.mono {w w1 : World} {T U : Nat → Prop} (h : Mod w w1 T) (hU : ∀ i, i < w.heap.size → T i → U i) : Mod w w1 U := ⟨h.os, h.tape, h.output, h.size, fun i hi hu => h.block i hi (fun ht => hu (hU i hi ht))⟩
theorem Mod.ofBelow {w w1 : World} (h : Below w.heap.size w w1) (T : Nat → Prop) : Mod w w1 T := ⟨h.os, h.tape, h.output, h.size, fun i hi _ => h.block i hi⟩
theorem Mod.below {w w1 w2 : World} {T : Nat → Prop} (h : Mod w w1 T) (k : Below w1.heap.size w1 w2) : Mod w w2 T := h.then (U := fun _ => False) (Mod.ofBelow k _) (fun _ _ hf => hf.elim)
theorem Mod.toBelow {w w1 : World} {T : Nat → Prop} {B : Nat} (h : Mod w w1 T) (hB : B ≤ w.heap.size) (hT : ∀ k, k < B → ¬ T k) : Below B w w1 := ⟨h.os, h.tape, h.output, h.size, fun k hk => h.block k (by omega) (hT k hk)⟩
theorem Mod.set {w w1 : World} {T : Nat → Prop} (h : Mod w w1 T) (a : Addr) (v : Value) (ha : a.block < w.heap.size → T a.block) : Mod w (w1.setCell a v) T :=
  ⟨h.os, h.tape, h.output, by simpa [World.setCell] using h.size, fun k hk ht => (Below.heap_setCell _ _ _ _ (fun e => ht (by subst e; exact ha hk))).trans (h.block k hk ht)⟩
theorem Mod.drewN {w w1 : World} {T : Nat → Prop} (h : Mod w w1 T) (n : Nat) : Mod w (w1.drewN n) T := ⟨h.os, h.tape, h.output, h.size, h.block⟩
theorem Mod.grown {w w1 w2 : World} {T : Nat → Prop} {row : Option Nat} (h : Mod w w1 T) (g : w1.grownBy w2 row) (hr : ∀ k, k < w.heap.size → row = some k → T k) : Mod w w2 T :=
  ⟨g.os.trans h.os, g.tape.trans h.tape, g.output.trans h.output, Nat.le_trans h.size g.size, fun i hi ht => (g.block i (Nat.lt_of_lt_of_le hi h.size) (fun e => ht (hr i hi e.symm))).trans (h.block i hi ht)⟩
def cmC (d : Cm) : List Value := [.int .i64 d.c, .int .i64 d.v, .int .i64 d.o]
def cmL : List Cm → List Value
  | [] => []
  | d :: r => cmC d ++ cmL r
theorem cmL_length (l : List Cm) : (cmL l).length = l.length * 3 := by
  induction l with
  | nil => rfl
  | cons d r ih => rw [cmL, List.length_append, ih]; simp [cmC]; omega
theorem cmL_append (l : List Cm) (d : Cm) : cmL (l ++ [d]) = cmL l ++ cmC d := by
  induction l with
  | nil => simp [cmL]
  | cons e r ih => rw [List.cons_append, cmL, cmL, ih, List.append_assoc]
theorem cmL_at (l : List Cm) (k : Nat) (hk : k < l.length) (j : Nat) (hj : j < 3) : (cmL l)[k * 3 + j]? = (cmC (cmAt l k))[j]? := by
  induction l generalizing k with
  | nil => simp at hk
  | cons d r ih =>
    cases k with
    | zero =>
      rw [cmL, List.getElem?_append_left (by simp [cmC]; omega), Nat.zero_mul, Nat.zero_add]
      rfl
    | succ k =>
      rw [cmL, List.getElem?_append_right (by simp [cmC]; omega), show (k + 1) * 3 + j - (cmC d).length = k * 3 + j by simp [cmC]; omega, ih k (by simpa using hk)]
      rfl
theorem cmL_one (l : List Cm) : ∀ u ∈ cmL l, u.oneCell' = true := by
  induction l with
  | nil => simp [cmL]
  | cons d r ih =>
    intro u hu
    rw [cmL, List.mem_append] at hu
    rcases hu with hu | hu
    · simp [cmC] at hu
      rcases hu with rfl | rfl | rfl <;> rfl
    · exact ih u hu
def vCells (tv : Value) (win : Nat) (S : VS) : Array Value := #[tv, .bool (S.b 0), .int .i64 (S.x 0).c, .int .i64 (S.x 0).v, .int .i64 (S.x 0).o, .bool (S.b 1), .int .i64 (S.x 1).c, .int .i64 (S.x 1).v, .int .i64 (S.x 1).o, .bool (S.b 2), .int .i64 (S.x 2).c, .int .i64 (S.x 2).v, .int .i64 (S.x 2).o, .int .i64 (win : Int), .int .i64 (S.left : Int), .int .i64 (S.out : Int), .bool S.lat]
def TIs (w : World) (N : Nat) (tv : Value) (l : List Cm) : Prop := w.ownsRow N 59 3 tv l.length (cmL l)
structure VIs (w : World) (N p win : Nat) (tv : Value) (S : VS) : Prop where
  blk : w.heap[p]? = some (.cells (vCells tv win S) 116 (0, 0))
  row : TIs w N tv S.tr
  np : N ≤ p
theorem TIs.shape {w : World} {N : Nat} {tv : Value} {l : List Cm} (h : TIs w N tv l) : ∃ a cap, tv = .slice a l.length cap := by
  rcases h.2 with ⟨rfl, h0⟩ | ⟨g, cap, cur, rfl, _⟩
  · exact ⟨none, 0, by rw [h0]⟩
  · exact ⟨_, _, rfl⟩
theorem TIs.has {w : World} {N : Nat} {tv : Value} {l : List Cm} (h : TIs w N tv l) (h0 : 0 < l.length) : ∃ g cap, tv = .slice (some ⟨g, 0, none⟩) l.length cap ∧ N ≤ g ∧ g < w.heap.size ∧ l.length ≤ cap := by
  rcases h.2 with ⟨rfl, h1⟩ | ⟨g, cap, cur, rfl, h1, h2, h3, _⟩
  · omega
  · exact ⟨g, cap, rfl, h1, blk_lt h2, h3⟩
theorem TIs.own {w : World} {N : Nat} {tv : Value} {l : List Cm} (h : TIs w N tv l) {g : Nat} (hg : tv.ownBlock = some g) : N ≤ g ∧ ∃ cur, w.heap[g]? = some (.cells cur 59 (0, 0)) := by
  rcases h.2 with ⟨rfl, h1⟩ | ⟨g', cap, cur, rfl, h1, h2, h3, _⟩
  · simp [Value.ownBlock] at hg
  · simp only [Value.ownBlock, Option.some.injEq] at hg
    subst hg
    exact ⟨h1, cur, h2⟩
theorem TIs.same {w w' : World} {N : Nat} {tv : Value} {l : List Cm} (h : TIs w N tv l) (hs : ∀ g, tv.ownBlock = some g → w'.heap[g]? = w.heap[g]?) : TIs w' N tv l := by
  obtain ⟨h1, h2⟩ := h
  refine ⟨h1, ?_⟩
  rcases h2 with h2 | ⟨g, cap, cur, rfl, h3, h4, h5⟩
  · exact .inl h2
  · exact .inr ⟨g, cap, cur, rfl, h3, (hs g rfl).trans h4, h5⟩
theorem TIs.range {w : World} {N : Nat} {l : List Cm} {g n cap : Nat} (h : TIs w N (.slice (some ⟨g, 0, none⟩) n cap) l) {k : Nat} (hk : k < l.length) : w.rangeAt g (k * 3) [.int .i64 (cmAt l k).c, .int .i64 (cmAt l k).v, .int .i64 (cmAt l k).o] := by
  intro j v hv
  have hj : j < 3 := by have := (List.getElem?_eq_some_iff.1 hv).1; simpa using this
  rcases h.2 with ⟨e, _⟩ | ⟨g', cap', cur, e, _, hg, _, _, _, ht⟩
  · simp at e
  · simp only [Value.slice.injEq, Option.some.injEq, Addr.mk.injEq, and_true] at e
    obtain ⟨rfl, _, _⟩ := e
    rw [blk_cell hg, ← Array.getElem?_toList]
    have e2 := cmL_at l k hk j hj
    rw [← ht, List.getElem?_take, if_pos (by omega)] at e2
    rw [e2]
    exact hv
theorem type_ne {w : World} {a b : Nat} {x y : Array Value} {s t : TypeId} {f g : Nat × Nat} (h1 : w.heap[a]? = some (.cells x s f)) (h2 : w.heap[b]? = some (.cells y t g)) (hst : s ≠ t) : a ≠ b := by
  intro e
  rw [e, h2] at h1
  injection h1 with h1
  injection h1 with _ h1
  exact hst h1.symm
theorem VIs.ne {w : World} {N p win : Nat} {tv : Value} {S : VS} (h : VIs w N p win tv S) : ∀ g, tv.ownBlock = some g → g ≠ p := fun g hg => by
  obtain ⟨_, cur, hc⟩ := h.row.own hg
  exact type_ne hc h.blk (by decide)
theorem VIs.at {w : World} {N p win : Nat} {tv : Value} {S : VS} (h : VIs w N p win tv S) (k : Nat) : w.cell? ⟨p, k, none⟩ = (vCells tv win S)[k]? := blk_cell h.blk k
theorem VIs.free {w : World} {N p win : Nat} {tv : Value} {S : VS} (h : VIs w N p win tv S) (k : Nat) : w.frozen? ⟨p, k, none⟩ = false := blk_free h.blk k
theorem VIs.lt {w : World} {N p win : Nat} {tv : Value} {S : VS} (h : VIs w N p win tv S) : p < w.heap.size := blk_lt h.blk
def VB (p : Nat) (tv : Value) (k : Nat) : Prop := k = p ∨ tv.ownBlock = some k
theorem VIs.move {w w' : World} {N p win : Nat} {tv : Value} {S : VS} (h : VIs w N p win tv S) {T : Nat → Prop} (hm : Mod w w' T) (hT : ∀ k, VB p tv k → ¬ T k) : VIs w' N p win tv S :=
  ⟨(hm.block p h.lt (hT p (.inl rfl))).trans h.blk, h.row.same fun g hg => hm.block g (by obtain ⟨_, _, hc⟩ := h.row.own hg; exact blk_lt hc) (hT g (.inr hg)), h.np⟩
theorem VIs.below {w w' : World} {N p win : Nat} {tv : Value} {S : VS} (h : VIs w N p win tv S) (hB : Below w.heap.size w w') : VIs w' N p win tv S := h.move (Mod.ofBelow hB (fun _ => False)) (fun _ _ hf => hf)
theorem VIs.drewN {w : World} {N p win : Nat} {tv : Value} {S : VS} (h : VIs w N p win tv S) (n : Nat) : VIs (w.drewN n) N p win tv S := ⟨h.blk, h.row, h.np⟩
theorem VIs.put {w : World} {N p win : Nat} {tv : Value} {S S' : VS} (h : VIs w N p win tv S) (i : Nat) (u : Value) (he : (vCells tv win S).setIfInBounds i u = vCells tv win S') (ht : S'.tr = S.tr) : VIs (w.setCell ⟨p, i, none⟩ u) N p win tv S' :=
  ⟨(blk_set h.blk i u).trans (by rw [he]), by rw [ht]; exact h.row.same fun g hg => Below.heap_setCell _ _ _ _ (h.ne g hg), h.np⟩
def Moved (w : World) (tv tv' : Value) : Prop := ∀ g, tv'.ownBlock = some g → tv.ownBlock = some g ∨ w.heap.size ≤ g
theorem Moved.refl (w : World) (tv : Value) : Moved w tv tv := fun _ h => .inl h
end Go.Proofs.YtaablbmgagiajaaGreatDoor
namespace Go.Proofs.YtaablbmgagiajaaGreatDoor
open Go.RowKit
def firstTo (p : Nat → Bool) : Nat → Option Nat
  | 0 => none
  | k + 1 => match firstTo p k with
    | some i => some i
    | none => if p k then some k else none
theorem first_none {p : Nat → Bool} {k : Nat} (h : firstTo p k = none) (hp : p k = false) : firstTo p (k + 1) = none := by simp [firstTo, h, hp]
theorem first_at {p : Nat → Bool} {k n : Nat} (h : firstTo p k = none) (hp : p k = true) (hn : k < n) : firstTo p n = some k := by
  induction n with
  | zero => omega
  | succ n ih =>
    by_cases e : k = n
    · subst e; simp [firstTo, h, hp]
    · simp [firstTo, ih (by omega)]
def badAt (s : Int) (zs : List Int) (k : Nat) : Bool := !inB (zs[k]?.getD 0) 1 (top s)
def twiceAt (zs : List Int) (k : Nat) : Bool := decide (zs[k]?.getD 0 ∈ zs.take k)
def rangeB (s n d : Int) : Bool := inB s 1 12 && inB n 1 8 && inB d 0 20
def checkF (s : Int) (zs : List Int) (d : Int) : Nat × Int :=
  if rangeB s zs.length d then
    match firstTo (badAt s zs) zs.length with
    | some i => (1, i)
    | none => match firstTo (twiceAt zs) zs.length with
      | some i => (9, i)
      | none => (0, -1)
  else (2, -1)
def IsErr (w' : World) (lo : Nat) (f : Nat × Int) (v : Value) : Prop :=
  (f = (0, -1) ∧ v = .nilIface) ∨ (f.1 ≠ 0 ∧ f.2 = -1 ∧ v = .iface 81 (.int .i64 f.1)) ∨
  (f.1 ≠ 0 ∧ 0 ≤ f.2 ∧ ∃ nb, lo ≤ nb ∧ nb < w'.heap.size ∧ v = .iface 144 (.pointer (some ⟨nb, 0, none⟩)) ∧ w'.cell? ⟨nb, 0, none⟩ = some (.int .i64 f.1) ∧ w'.cell? ⟨nb, 1, none⟩ = some (.int .i64 f.2))
theorem contains_n (b off cap n : Nat) (zs : List Int) (x : Int) (w : World) (hn : zs.length = n) (hl : zs.length ≤ 100) (hc : Row w b off zs) :
    Calls Tryz.prog 86 #[.slice (some ⟨b, off, none⟩) n cap, .int .i64 x] w fun e w' => e = .returned (.bool (decide (x ∈ zs))) ∧ w' = w := by
  subst hn; exact contains_any b off cap zs x w hl hc
theorem Row.take {w : World} {b off : Nat} {zs : List Int} (h : Row w b off zs) (k : Nat) : Row w b off (zs.take k) := by
  intro i hi
  have h1 : i < zs.length := by simp at hi; omega
  have h2 : i < k := by simp at hi; omega
  rw [h i h1]
  simp [h2]
set_option maxHeartbeats 400000 in
theorem check_range (s d : Int) (a : Option Addr) (len cap : Nat) (w : World) (h : rangeB s len d = false) :
    Calls Tryz.prog 68 #[.agg #[.int .i64 s, .slice a len cap, .int .i64 d]] w fun e w' => e = .returned (.iface 81 (.int .i64 2)) ∧ Below w.heap.size w w' := by
  unfold rangeB at h
  cases h1 : inB s 1 12
  · go_enter Tryz.func68, Tryz.ntmps68
    go_wp2_with (go_at_call 85; refine (within_any _ _ _ _).mono ?_; rintro e w' ⟨rfl, rfl⟩)
    go_ret
    exact ⟨rfl, (Below.refl _ _).alloc (Nat.le_refl _) _⟩
  · cases h2 : inB (len : Int) 1 8
    · clear h
      go_enter Tryz.func68, Tryz.ntmps68
      go_wp2_with (go_at_call 85; refine (within_any _ _ _ _).mono ?_; rintro e w' ⟨rfl, rfl⟩)
      go_ret
      exact ⟨rfl, (Below.refl _ _).alloc (Nat.le_refl _) _⟩
    · have h3 : inB d 0 20 = false := by simpa [h1, h2] using h
      clear h
      go_enter Tryz.func68, Tryz.ntmps68
      go_wp2_with (go_at_call 85; refine (within_any _ _ _ _).mono ?_; rintro e w' ⟨rfl, rfl⟩)
      go_ret
      exact ⟨rfl, (Below.refl _ _).alloc (Nat.le_refl _) _⟩
theorem inB_iff (n a b : Int) : inB n a b = true ↔ a ≤ n ∧ n ≤ b := by simp [inB]
theorem isErr_at {w' : World} {lo nb : Nat} {c : Nat} {i : Nat} (hc : c ≠ 0) (h1 : lo ≤ nb) (h2 : nb < w'.heap.size) (h3 : w'.cell? ⟨nb, 0, none⟩ = some (.int .i64 c)) (h4 : w'.cell? ⟨nb, 1, none⟩ = some (.int .i64 i)) :
    IsErr w' lo (c, (i : Int)) (.iface 144 (.pointer (some ⟨nb, 0, none⟩))) := .inr (.inr ⟨hc, by simp, nb, h1, h2, rfl, h3, h4⟩)
set_option maxHeartbeats 1000000 in
theorem check_main (s d : Int) (b off cap : Nat) (zs : List Int) (w : World) (hr : rangeB s zs.length d = true) (hb : b < w.heap.size) (hc : Row w b off zs) (hcap : zs.length ≤ cap) :
    Calls Tryz.prog 68 #[.agg #[.int .i64 s, .slice (some ⟨b, off, none⟩) zs.length cap, .int .i64 d]] w fun e w' => (∃ v, e = .returned v ∧ IsErr w' w.heap.size (checkF s zs d) v) ∧ Below w.heap.size w w' := by
  have hr0 := hr
  unfold rangeB at hr
  simp only [Bool.and_eq_true] at hr
  obtain ⟨⟨h1, h2⟩, h3⟩ := hr
  have b1 := (inB_iff _ _ _).1 h1
  have b2 := (inB_iff _ _ _).1 h2
  obtain ⟨b11, b12⟩ := b1
  obtain ⟨b21, b22⟩ := b2
  have HR := hide hr0
  clear hr0
  have hcf : checkF s zs d = match firstTo (badAt s zs) zs.length with
    | some i => (1, (i : Int))
    | none => match firstTo (twiceAt zs) zs.length with
      | some i => (9, (i : Int))
      | none => (0, -1) := by unfold checkF; rw [if_pos HR.out]
  have HCF := hide hcf
  clear hcf
  go_enter Tryz.func68, Tryz.ntmps68
  go_wp2_with (go_at_call 85; refine (within_any _ _ _ _).mono ?_; rintro e w' ⟨rfl, rfl⟩)
  go_loop [28] (fun i => ∃ k : Nat, k ≤ zs.length ∧ i = .int .i64 k ∧ firstTo (badAt s zs) k = none) (fun i => zs.length - (intOf i).toNat)
  case atStart => exact ⟨0, Nat.zero_le _, rfl, rfl⟩
  case round =>
    obtain ⟨k, hk, rfl, hf⟩ := hrel
    have HF := hide hf
    clear hf
    by_cases hlt : k < zs.length
    · obtain ⟨z, hz1, hcell⟩ := Row.at hc hlt
      have hbad : badAt s zs k = !inB z 1 (top s) := by unfold badAt; rw [hz1.out]
      have HB := hide hbad
      clear hbad
      cases hin : inB z 1 (top s)
      · go_wp2_with (first
          | (go_at_call 69; refine (allBits_any _ _ (by omega) (by omega)).mono ?_; rintro e w' ⟨rfl, rfl⟩)
          | (go_at_call 85; refine (within_any _ _ _ _).mono ?_; rintro e w' ⟨rfl, rfl⟩))
        go_ret
        refine ⟨⟨_, rfl, ?_⟩, ?_⟩
        · rw [HCF.out, first_at HF.out (by rw [HB.out, hin]; rfl) hlt]
          exact isErr_at (by decide) (Nat.le_succ _) (by simp) (by simp) (by simp)
        · exact ((Below.refl _ _).alloc (Nat.le_refl _) _).alloc (by simp) _
      · go_wp2_with (first
          | (go_at_call 69; refine (allBits_any _ _ (by omega) (by omega)).mono ?_; rintro e w' ⟨rfl, rfl⟩)
          | (go_at_call 85; refine (within_any _ _ _ _).mono ?_; rintro e w' ⟨rfl, rfl⟩))
        go_round
        case rel => exact ⟨k + 1, by omega, by go_num, first_none HF.out (by rw [HB.out, hin]; rfl)⟩
        case measure => simp [intOf]; omega
    · have hkn : zs.length = k := by omega
      have HG : Hid (firstTo (badAt s zs) zs.length = none) := by rw [hkn]; exact HF.out
      clear HF hkn
      go_wp2
      go_loop [47] (fun i => ∃ k : Nat, k ≤ zs.length ∧ i = .int .i64 k ∧ firstTo (twiceAt zs) k = none) (fun i => zs.length - (intOf i).toNat)
      case atStart => exact ⟨0, Nat.zero_le _, rfl, rfl⟩
      case round =>
        obtain ⟨k, hk, rfl, hf⟩ := hrel
        have HF := hide hf
        clear hf
        by_cases hlt : k < zs.length
        · obtain ⟨z, hz1, hcell⟩ := Row.at hc hlt
          have htw : twiceAt zs k = decide (z ∈ zs.take k) := by unfold twiceAt; rw [hz1.out]
          have HB := hide htw
          clear htw
          have hct := fun (wx : World) (hx : Below w.heap.size w wx) => contains_n b off cap k (zs.take k) z wx (by simp; omega) (by simp; omega) ((hc.take k).below hb hx)
          have HCT := hide hct
          clear hct
          cases hin : decide (z ∈ zs.take k)
          · go_wp2_with (go_at_call 86; refine (unhide HCT _ ((Below.refl _ _).alloc (Nat.le_refl _) _)).mono ?_; rintro e w' ⟨rfl, rfl⟩)
            go_round
            case rel => exact ⟨k + 1, by omega, by go_num, first_none HF.out (by rw [HB.out]; exact hin)⟩
            case measure => simp [intOf]; omega
          · go_wp2_with (go_at_call 86; refine (unhide HCT _ ((Below.refl _ _).alloc (Nat.le_refl _) _)).mono ?_; rintro e w' ⟨rfl, rfl⟩)
            go_ret
            refine ⟨⟨_, rfl, ?_⟩, ?_⟩
            · rw [HCF.out, HG.out, first_at HF.out (by rw [HB.out]; exact hin) hlt]
              exact isErr_at (by decide) (Nat.le_succ _) (by simp) (by simp) (by simp)
            · exact ((Below.refl _ _).alloc (Nat.le_refl _) _).alloc (by simp) _
        · have hkn : zs.length = k := by omega
          have HG2 : Hid (firstTo (twiceAt zs) zs.length = none) := by rw [hkn]; exact HF.out
          clear HF hkn
          go_wp2
          go_ret
          refine ⟨⟨_, rfl, ?_⟩, (Below.refl _ _).alloc (Nat.le_refl _) _⟩
          rw [HCF.out, HG.out, HG2.out]
          exact .inl ⟨rfl, rfl⟩
def IsSl (w : World) (a : Option Addr) (len cap : Nat) (zs : List Int) : Prop :=
  zs.length = len ∧ len ≤ cap ∧ (zs = [] ∨ ∃ b off, a = some ⟨b, off, none⟩ ∧ b < w.heap.size ∧ Row w b off zs)
theorem IsSl.below {w wx : World} {a : Option Addr} {len cap : Nat} {zs : List Int} (h : IsSl w a len cap zs) (hB : Below w.heap.size w wx) : IsSl wx a len cap zs := by
  obtain ⟨h1, h2, h3⟩ := h
  refine ⟨h1, h2, ?_⟩
  rcases h3 with h | ⟨b, off, e, hb, hr⟩
  · exact .inl h
  · exact .inr ⟨b, off, e, Nat.lt_of_lt_of_le hb hB.size, hr.below hb hB⟩
theorem check_any (s d : Int) (a : Option Addr) (len cap : Nat) (zs : List Int) (w : World) (h : IsSl w a len cap zs) :
    Calls Tryz.prog 68 #[.agg #[.int .i64 s, .slice a len cap, .int .i64 d]] w fun e w' => (∃ v, e = .returned v ∧ IsErr w' w.heap.size (checkF s zs d) v) ∧ Below w.heap.size w w' := by
  obtain ⟨rfl, hcap, h3⟩ := h
  cases hr : rangeB s zs.length d
  · refine (check_range s d a zs.length cap w hr).mono ?_
    rintro e w' ⟨rfl, hb⟩
    exact ⟨⟨_, rfl, .inr (.inl (by rw [show checkF s zs d = (2, -1) by unfold checkF; rw [hr]; rfl]; exact ⟨by decide, rfl, rfl⟩))⟩, hb⟩
  · rcases h3 with h | ⟨b, off, rfl, hb, hc⟩
    · subst h
      simp [rangeB, inB] at hr
    · exact check_main s d b off cap zs w hr hb hc hcap
theorem IsErr.ok {w' : World} {lo : Nat} {v : Value} (h : IsErr w' lo (0, -1) v) : v = .nilIface := by
  rcases h with ⟨_, h⟩ | ⟨h, _⟩ | ⟨h, _⟩
  · exact h
  · exact absurd rfl h
  · exact absurd rfl h
end Go.Proofs.YtaablbmgagiajaaGreatDoor
