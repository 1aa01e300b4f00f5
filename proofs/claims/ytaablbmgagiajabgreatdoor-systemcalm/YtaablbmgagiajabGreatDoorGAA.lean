import Derived.Test.YtaablbmgagiajabGreatDoorFrDec
import Derived.Test.YtaablbmgagiajabGreatDoorFrCrc
import Derived.BigQuiet
import Derived.Test.YtaablbmgagiajabGreatDoorVtMem
import Derived.Test.YtaablbmgagiajabGreatDoorCoreStep
import Derived.Test.YtaablbmgagiajabGreatDoorFrF
import Derived.Deep.MidRow
import Derived.Deep.Upon
import Derived.Great.BuildSlice
import Derived.Deep.RegionWith
import Derived.Deep.QuietTactic
/- What a frame's bytes are is that frame again; no beginning of them is one; a burst is seen: of the functions. -/
namespace Go.Proofs.YtaablbmgagiajabGreatDoor

theorem bytesN_at : ∀ (l : List Int) (i j : Nat), i < l.length → j < 3 → (bytesN l)[3 * i + j]?.getD 0 = (b3 (l[i]?.getD 0).toNat)[j]?.getD 0
  | [], i, _, h, _ => by simp at h
  | x :: l, i, j, h, hj => by
    show (b3 x.toNat ++ bytesN l)[3 * i + j]?.getD 0 = _
    have e : (b3 x.toNat).length = 3 := rfl
    cases i with
    | zero => rw [List.getElem?_append_left (by rw [e]; omega), Nat.mul_zero, Nat.zero_add]; rfl
    | succ i =>
      rw [List.getElem?_append_right (by rw [e]; omega), e, show 3 * (i + 1) + j - 3 = 3 * i + j by omega, List.getElem?_cons_succ]
      exact bytesN_at l i j (by simpa using h) hj
theorem read_bytes (l : List Int) (h : ∀ x ∈ l, 0 ≤ x ∧ x < 16777216) : readF (bytesN l) = l := by
  unfold readF
  rw [bytesN_length, show 3 * l.length / 3 = l.length by omega]
  apply List.ext_getElem?
  intro i
  by_cases hi : i < l.length
  · have hx := h _ (List.getElem_mem hi)
    rw [List.getElem?_eq_getElem hi]
    unfold readN
    rw [List.getElem?_map, List.getElem?_range hi]
    simp only [Option.map_some, Option.some.injEq]
    unfold num3
    have e0 := bytesN_at l i 0 hi (by omega)
    have e1 := bytesN_at l i 1 hi (by omega)
    have e2 := bytesN_at l i 2 hi (by omega)
    rw [Nat.add_zero] at e0
    rw [e0, e1, e2, List.getElem?_eq_getElem hi]
    show ((l[i].toNat / 65536 % 256 * 65536 + l[i].toNat / 256 % 256 * 256 + l[i].toNat % 256 : Nat) : Int) = l[i]
    omega
  · rw [List.getElem?_eq_none (by rw [readN_length]; omega), List.getElem?_eq_none (by omega)]
theorem told_with (t : List Nat) : toldN (withSum t) = t := by
  unfold toldN
  rw [withSum_length, Nat.add_sub_cancel]
  unfold withSum
  simp
theorem last_with (t : List Nat) : lastN (withSum t) = b4 (crc t).toNat := by
  unfold lastN
  rw [withSum_length, Nat.add_sub_cancel]
  unfold withSum
  simp

theorem stNums_congr {F G : FR} (h : ∀ k, k < 23 → F k = G k) : ∀ n, n ≤ 8 → stNums F n = stNums G n
  | 0, _ => rfl
  | n + 1, hn => by unfold stNums; rw [stNums_congr h n (by omega), h (7 + n) (by omega), h (15 + n) (by omega)]
theorem nums_congr {F G : FR} (h : ∀ k, k < 23 → F k = G k) : numsF F = numsF G := by
  unfold numsF
  rw [h 0 (by omega), h 1 (by omega), h 2 (by omega), h 3 (by omega), h 4 (by omega), h 5 (by omega), h 6 (by omega), stNums_congr h 8 (by omega)]
theorem may_congr {F G : FR} (h : ∀ k, k < 23 → F k = G k) : mayB F = mayB G := by
  have he : eqB F (framedF (numsF G)) = eqB G (framedF (numsF G)) := by
    rw [Bool.eq_iff_iff, eqB_iff, eqB_iff]
    exact ⟨fun q k hk => by rw [← h k hk]; exact q k hk, fun q k hk => by rw [h k hk]; exact q k hk⟩
  unfold mayB headB
  rw [nums_congr h, he, h 0 (by omega), h 1 (by omega)]
theorem enc_congr {F G : FR} (h : ∀ k, k < 23 → F k = G k) : encF F = encF G := by unfold encF; rw [nums_congr h]

theorem may_parts {F : FR} (h : mayB F = true) : headB F = true ∧ (∀ x ∈ numsF F, 0 ≤ x ∧ x ≤ 1048576) ∧ ∀ k, k < 23 → F k = framedF (numsF F) k := by
  unfold mayB at h
  simp only [Bool.and_eq_true, List.all_eq_true] at h
  refine ⟨h.1, fun x hx => ?_, (eqB_iff _ _).1 h.2.2⟩
  have := h.2.1 x hx
  unfold fitsB at this
  simpa using this
theorem enc_len (F : FR) : 13 ≤ (encF F).length ∧ (encF F).length ≤ 64 := by
  have := nums_length_le F
  have := nums_length_ge F
  rw [encF_length]
  omega
/-- There and back. -/
theorem dec_enc {F : FR} (h : mayB F = true) : ∃ G, decF (encF F) = (0, G) ∧ ∀ k, k < 23 → G k = F k := by
  obtain ⟨_, h2, h3⟩ := may_parts h
  have hl := enc_len F
  have ht : toldN (encF F) = bytesN (numsF F) := told_with _
  have hr : readF (toldN (encF F)) = numsF F := by rw [ht]; exact read_bytes _ fun x hx => by have := h2 x hx; omega
  refine ⟨framedF (numsF F), ?_, fun k hk => (h3 k hk).symm⟩
  have hc : ∀ k, k < 23 → framedF (numsF F) k = F k := fun k hk => (h3 k hk).symm
  have hs : b4 (crc (toldN (encF F))).toNat = lastN (encF F) := by rw [ht]; exact (last_with _).symm
  have := dec_ok (l := encF F) (by omega) (by omega) hs (by rw [hr]; exact ⟨(may_congr hc).trans h, enc_congr hc⟩)
  rw [this, hr]

theorem dec_cases (l : List Nat) : ((decF l).1 ≠ 0 ∧ (decF l).2 = fr0) ∨ ((decF l).1 = 0 ∧ mayB (decF l).2 = true ∧ encF (decF l).2 = l ∧ 7 ≤ l.length) := by
  by_cases h : l.length < 7 ∨ 80 < l.length
  · left; rw [dec_form h]; exact ⟨by simp, rfl⟩
  · by_cases hs : b4 (crc (toldN l)).toNat = lastN l
    · by_cases hn : mayB (framedF (readF (toldN l))) = true ∧ encF (framedF (readF (toldN l))) = l
      · right; rw [dec_ok (by omega) (by omega) hs hn]; exact ⟨rfl, hn.1, hn.2, by omega⟩
      · left; rw [dec_not (by omega) (by omega) hs hn]; exact ⟨by simp, rfl⟩
    · left; rw [dec_spoilt (by omega) (by omega) hs]; exact ⟨by simp, rfl⟩

theorem nums_head (F : FR) : ∃ r, numsF F = F 0 :: r := by
  unfold numsF
  split
  · exact ⟨_, rfl⟩
  · split
    · exact ⟨_, rfl⟩
    · split
      · exact ⟨_, rfl⟩
      · exact ⟨_, rfl⟩
theorem enc_third (F : FR) : (encF F)[2]? = some ((F 0).toNat % 256) := by
  obtain ⟨r, hr⟩ := nums_head F
  unfold encF withSum
  rw [hr]
  rfl
theorem nums_len_head {F G : FR} (h : F 0 = G 0) : (numsF F).length = (numsF G).length := by
  unfold numsF
  rw [h]
  split
  · rfl
  · split
    · rfl
    · split
      · rw [List.length_append, List.length_append, stNums_length, stNums_length]; rfl
      · rfl
theorem head_bounds {F : FR} (h : mayB F = true) : 1 ≤ F 0 ∧ F 0 ≤ 5 := by
  have := (may_parts h).1
  unfold headB at this
  simp only [Bool.and_eq_true, decide_eq_true_eq] at this
  exact this.1
/-- No beginning is a frame. -/
theorem dec_prefix {F : FR} (h : mayB F = true) {k : Nat} (hk : k < (encF F).length) : (decF ((encF F).take k)).1 ≠ 0 ∧ (decF ((encF F).take k)).2 = fr0 := by
  rcases dec_cases ((encF F).take k) with q | ⟨_, q1, q2, q3⟩
  · exact q
  · exfalso
    have hlen : ((encF F).take k).length = k := by rw [List.length_take]; omega
    rw [hlen] at q3
    generalize (decF ((encF F).take k)).2 = f at q1 q2
    have e1 := enc_third f
    rw [q2, List.getElem?_take, if_pos (by omega), enc_third F] at e1
    have b1 := head_bounds h
    have b2 := head_bounds q1
    have e2 : f 0 = F 0 := by
      have : (F 0).toNat % 256 = (f 0).toNat % 256 := by simpa using e1
      omega
    have e3 := congrArg List.length q2
    rw [hlen, encF_length, nums_len_head e2, ← encF_length] at e3
    omega
/-- A burst is seen. -/
theorem dec_burst (F : FR) (m : List Nat) (a : Nat) (hm : ∀ c ∈ m, c < 256) (hlen : m.length = (encF F).length)
    (hout : ∀ j, j < 8 * m.length → (j < a ∨ a + 32 ≤ j) → bitAt m j = bitAt (encF F) j) (hsome : ∃ j, j < 8 * m.length ∧ bitAt m j ≠ bitAt (encF F) j) : (decF m).1 ≠ 0 ∧ (decF m).2 = fr0 := by
  rcases dec_cases m with q | ⟨_, _, q2, _⟩
  · exact q
  · exfalso
    have h1 : crcFrom 4294967295#32 m = 0#32 := by rw [← q2]; exact crc_withSum _
    have h2 : crcFrom 4294967295#32 (encF F) = 0#32 := crc_withSum _
    exact burst m (encF F) _ a hm (encF_lt F) hlen hout hsome h1 h2

/-! ### A bit is another one -/
def flipB (l : List Nat) (j : Nat) : List Nat := l.set (j / 8) ((l[j / 8]?.getD 0) ^^^ 2 ^ (7 - j % 8))
theorem flipB_length (l : List Nat) (j : Nat) : (flipB l j).length = l.length := by simp [flipB]
theorem flipB_lt {l : List Nat} (j : Nat) (h : ∀ c ∈ l, c < 256) : ∀ c ∈ flipB l j, c < 256 := by
  intro c hc
  rcases List.mem_or_eq_of_mem_set hc with q | q
  · exact h c q
  · subst q
    have h1 : l[j / 8]?.getD 0 < 2 ^ 8 := by
      by_cases hj : j / 8 < l.length
      · rw [List.getElem?_eq_getElem hj]; exact h _ (List.getElem_mem hj)
      · rw [List.getElem?_eq_none (by omega)]; simp
    exact Nat.xor_lt_two_pow h1 (Nat.pow_lt_pow_right (by decide) (by omega))
theorem bitAt_flip (l : List Nat) (j k : Nat) (hj : j < 8 * l.length) : bitAt (flipB l j) k = (bitAt l k ^^ decide (k = j)) := by
  unfold bitAt flipB
  by_cases h : k / 8 = j / 8
  · rw [h, List.getElem?_set_self (by omega)]
    simp only [Option.getD_some]
    rw [Nat.testBit_xor, Nat.testBit_two_pow]
    congr 1
    rw [Bool.eq_iff_iff, decide_eq_true_iff, decide_eq_true_iff]
    omega
  · rw [List.getElem?_set_ne (fun e => h e.symm), decide_eq_false (fun e => h (by rw [e])), Bool.xor_false]
end Go.Proofs.YtaablbmgagiajabGreatDoor

/- Lists of bytes that a call itself made. -/
namespace Go.Proofs.YtaablbmgagiajabGreatDoor
open Go.RowKit Go.Deep

/-- A list of bytes that the call itself made. -/
structure OwnB (w : World) (base g n cp : Nat) (l : List Nat) : Prop where
  own : w.ownsRow base 5 1 (.slice (some ⟨g, 0, none⟩) n cp) n (u8s l)
  len : l.length = n
  lt : ∀ c ∈ l, c < 256
theorem OwnB.parts {w : World} {base g n cp : Nat} {l : List Nat} (h : OwnB w base g n cp l) : base ≤ g ∧ g < w.heap.size ∧ n ≤ cp := by
  rcases h.own.2 with ⟨h', _⟩ | ⟨g', cap', cur, h', hb, hg, hnc, _⟩
  · simp at h'
  · simp only [Value.slice.injEq, Option.some.injEq, Addr.mk.injEq, and_true, true_and] at h'
    obtain ⟨rfl, rfl⟩ := h'
    exact ⟨hb, blk_lt hg, hnc⟩
theorem OwnB.at {w : World} {base g n cp : Nat} {l : List Nat} (h : OwnB w base g n cp l) {k : Nat} (hk : k < n) : w.cell? ⟨g, k, none⟩ = some (.int .u8 ((l[k]?.getD 0 : Nat) : Int)) := by
  rw [h.own.cellAt k (by omega)]
  simp [u8s, show k < l.length by rw [h.len]; exact hk]
theorem OwnB.isB {w : World} {base g n cp : Nat} {l : List Nat} (h : OwnB w base g n cp l) : IsB w (some ⟨g, 0, none⟩) n cp l := by
  obtain ⟨_, h2, h3⟩ := h.parts
  refine ⟨h.len, h3, h.lt, .inr ⟨g, 0, rfl, h2, fun k hk => ?_⟩⟩
  rw [Nat.zero_add]
  exact h.at (by rw [← h.len]; exact hk)
theorem OwnB.below {w wx : World} {base g n cp : Nat} {l : List Nat} (h : OwnB w base g n cp l) (hB : Below w.heap.size w wx) : OwnB wx base g n cp l := ⟨owns_below h.own hB, h.len, h.lt⟩
theorem OwnB.free {w : World} {base g n cp : Nat} {l : List Nat} (h : OwnB w base g n cp l) (k : Nat) : w.frozen? ⟨g, k, none⟩ = false := h.own.frozenAt k
theorem OwnB.set {w : World} {base g n cp : Nat} {l : List Nat} (h : OwnB w base g n cp l) (k c : Nat) (hc : c < 256) : OwnB (w.setCell ⟨g, k, none⟩ (.int .u8 (c : Int))) base g n cp (l.set k c) := by
  refine ⟨?_, by rw [List.length_set]; exact h.len, fun d hd => ?_⟩
  · have := (h.own.stored k (.int .u8 (c : Int))).1
    unfold u8s at this ⊢
    rwa [List.map_set]
  · rcases List.mem_or_eq_of_mem_set hd with q | q
    · exact h.lt d q
    · omega
theorem ownB_of {w : World} {base : Nat} {v : Value} {F : FR} (h : w.ownsRow base 5 1 v (encF F).length (u8s (encF F))) : ∃ g cp, v = .slice (some ⟨g, 0, none⟩) (encF F).length cp ∧ OwnB w base g (encF F).length cp (encF F) := by
  have ho := h
  rcases h.2 with ⟨_, h0⟩ | ⟨g, cap, cur, rfl, _⟩
  · have := enc_len F; omega
  · exact ⟨g, cap, rfl, ho, rfl, encF_lt F⟩

end Go.Proofs.YtaablbmgagiajabGreatDoor

/- Bits within 32 are other ones: plain facts. -/
namespace Go.Proofs.YtaablbmgagiajabGreatDoor
open Go.RowKit Go.Deep

/-- Is bit i (the greatest one first) of 32 set? -/
def wBit (what i : Nat) : Bool := what.testBit (31 - i)
/-- The bytes behind i rounds. -/
def flipTo (l : List Nat) (a what : Nat) : Nat → List Nat
  | 0 => l
  | i + 1 => if (wBit what i && decide (a + i < 8 * l.length)) = true then flipB (flipTo l a what i) (a + i) else flipTo l a what i
def someTo (l : List Nat) (a what : Nat) : Nat → Bool
  | 0 => false
  | i + 1 => if (wBit what i && decide (a + i < 8 * l.length)) = true then true else someTo l a what i
theorem flipTo_length (l : List Nat) (a what i : Nat) : (flipTo l a what i).length = l.length := by
  induction i with
  | zero => rfl
  | succ i ih => unfold flipTo; split <;> simp [flipB_length, ih]
theorem flipTo_lt {l : List Nat} (a what i : Nat) (h : ∀ c ∈ l, c < 256) : ∀ c ∈ flipTo l a what i, c < 256 := by
  induction i with
  | zero => exact h
  | succ i ih =>
    unfold flipTo
    split
    · exact flipB_lt _ ih
    · exact ih
theorem bitAt_flipTo (l : List Nat) (a what i k : Nat) (hk : k < 8 * l.length) : bitAt (flipTo l a what i) k = (bitAt l k ^^ (decide (a ≤ k) && (decide (k < a + i) && wBit what (k - a)))) := by
  induction i with
  | zero =>
    unfold flipTo
    have e : (decide (a ≤ k) && (decide (k < a + 0) && wBit what (k - a))) = false := by
      by_cases h : a ≤ k
      · rw [decide_eq_false (show ¬ k < a + 0 by omega)]; simp
      · rw [decide_eq_false h]; rfl
    rw [e, Bool.xor_false]
  | succ i ih =>
    unfold flipTo
    by_cases hki : k = a + i
    · subst hki
      have e : a + i - a = i := by omega
      rw [e] at ih ⊢
      rw [decide_eq_true (show a ≤ a + i by omega), decide_eq_true (show a + i < a + (i + 1) by omega)]
      rw [decide_eq_false (show ¬ a + i < a + i by omega)] at ih
      rw [decide_eq_true hk, Bool.and_true]
      cases hw : wBit what i
      · rw [if_neg (by decide), ih]; simp
      · rw [if_pos rfl, bitAt_flip _ _ _ (by rw [flipTo_length]; exact hk), ih]; simp
    · have e1 : decide (k < a + (i + 1)) = decide (k < a + i) := by
        rw [Bool.eq_iff_iff, decide_eq_true_iff, decide_eq_true_iff]; omega
      rw [e1]
      split
      · rename_i hc
        have : a + i < 8 * l.length := by
          simp only [Bool.and_eq_true, decide_eq_true_eq] at hc
          exact hc.2
        rw [bitAt_flip _ _ _ (by rw [flipTo_length]; exact this), ih, decide_eq_false hki, Bool.xor_false]
      · exact ih
theorem someTo_ex {l : List Nat} {a what i : Nat} (h : someTo l a what i = true) : ∃ j, j < i ∧ wBit what j = true ∧ a + j < 8 * l.length := by
  induction i with
  | zero => exact absurd h (by simp [someTo])
  | succ i ih =>
    unfold someTo at h
    split at h
    · rename_i hc
      simp only [Bool.and_eq_true, decide_eq_true_eq] at hc
      exact ⟨i, by omega, hc.1, hc.2⟩
    · obtain ⟨j, h1, h2, h3⟩ := ih h
      exact ⟨j, by omega, h2, h3⟩
/-- A burst is refused. -/
theorem dec_flip (F : FR) (a what : Nat) (h : someTo (encF F) a what 32 = true) : (decF (flipTo (encF F) a what 32)).1 ≠ 0 ∧ (decF (flipTo (encF F) a what 32)).2 = fr0 := by
  refine dec_burst F _ a (flipTo_lt a what 32 (encF_lt F)) (flipTo_length _ _ _ _) (fun j hj ho => ?_) ?_
  · rw [flipTo_length] at hj
    rw [bitAt_flipTo _ _ _ _ _ hj]
    rcases ho with ho | ho
    · rw [decide_eq_false (show ¬ a ≤ j by omega)]; simp
    · rw [decide_eq_false (show ¬ j < a + 32 by omega)]; simp
  · obtain ⟨j, h1, h2, h3⟩ := someTo_ex h
    refine ⟨a + j, by rw [flipTo_length]; exact h3, ?_⟩
    rw [bitAt_flipTo _ _ _ _ _ h3, decide_eq_true (show a ≤ a + j by omega), decide_eq_true (show a + j < a + 32 by omega), show a + j - a = j by omega, h2]
    cases bitAt (encF F) (a + j) <;> decide

theorem and32_one (x : Nat) (h : x < 4294967296) : bits .and .u32 (x : Int) 1 = ((x % 2 : Nat) : Int) := by
  show IntKind.u32.wrap (((BitVec.ofInt 32 _ &&& BitVec.ofInt 32 _).toNat : Nat) : Int) = _
  rw [BitVec.toNat_and, show (BitVec.ofInt 32 (x : Int)).toNat = x by rw [BitVec.toNat_ofInt]; omega, show (BitVec.ofInt 32 1).toNat = 1 by decide, Nat.and_one_is_mod]
  exact wrap_u32 _ (by omega)
theorem what_bit (what k : Nat) (h : what < 4294967296) (b : Bool) (hb : wBit what k = b) : bits .and .u32 ((what : Int) / 2 ^ (31 - k)) 1 = if b then 1 else 0 := by
  have e : (what : Int) / 2 ^ (31 - k) = ((what / 2 ^ (31 - k) : Nat) : Int) := by simp
  rw [e, and32_one _ (Nat.lt_of_le_of_lt (Nat.div_le_self _ _) h), testBit_eq]
  unfold wBit at hb
  rw [hb]
  cases b <;> rfl
theorem flip_no {l : List Nat} {a what k : Nat} (h : (wBit what k && decide (a + k < 8 * l.length)) = false) : flipTo l a what (k + 1) = flipTo l a what k ∧ someTo l a what (k + 1) = someTo l a what k := by
  constructor
  · rw [flipTo, h]; simp
  · rw [someTo, h]; simp
theorem flip_yes {l : List Nat} {a what k : Nat} (h : (wBit what k && decide (a + k < 8 * l.length)) = true) : flipTo l a what (k + 1) = flipB (flipTo l a what k) (a + k) ∧ someTo l a what (k + 1) = true := by
  constructor
  · rw [flipTo, if_pos h]
  · rw [someTo, if_pos h]

theorem shr128 (r p : Nat) (h : r < 8) (hp : 2 ^ (7 - r) = p) : (128 : Int) / 2 ^ min r 8 = (p : Int) := by
  subst hp
  rcases (by omega : r = 0 ∨ r = 1 ∨ r = 2 ∨ r = 3 ∨ r = 4 ∨ r = 5 ∨ r = 6 ∨ r = 7) with rfl | rfl | rfl | rfl | rfl | rfl | rfl | rfl <;> decide
theorem xor8 (a b : Nat) (ha : a < 2 ^ 8) (hb : b < 2 ^ 8) : bits .xor .u8 (a : Int) (b : Int) = ((a ^^^ b : Nat) : Int) := by
  show IntKind.u8.wrap (((BitVec.ofInt 8 _ ^^^ BitVec.ofInt 8 _).toNat : Nat) : Int) = _
  rw [BitVec.toNat_xor, show (BitVec.ofInt 8 (a : Int)).toNat = a by rw [BitVec.toNat_ofInt]; omega, show (BitVec.ofInt 8 (b : Int)).toNat = b by rw [BitVec.toNat_ofInt]; omega]
  have := Nat.xor_lt_two_pow ha hb
  simp [IntKind.wrap, IntKind.bits, IntKind.signed]
  omega
theorem OwnB.get_lt {w : World} {base g n cp : Nat} {l : List Nat} (h : OwnB w base g n cp l) (k : Nat) : l[k]?.getD 0 < 256 := by
  by_cases hk : k < l.length
  · rw [List.getElem?_eq_getElem hk]; exact h.lt _ (List.getElem_mem hk)
  · rw [List.getElem?_eq_none (by omega)]; decide

end Go.Proofs.YtaablbmgagiajabGreatDoor

/- The contracts of bits.TrailingZeros32 and of burst.within. -/
namespace Go.Proofs.YtaablbmgagiajabGreatDoor
open Go.RowKit Go.Deep

/-- The table that the program's text lays. -/
def tabL : List Nat := [0, 1, 28, 2, 29, 14, 24, 3, 30, 22, 20, 15, 25, 17, 4, 8, 31, 27, 13, 23, 21, 19, 16, 7, 26, 12, 18, 6, 11, 5, 10, 9]
def HasTab (w : World) : Prop := ∀ k, k < 32 → w.cell? ⟨1, k, none⟩ = some (.int .u8 ((tabL[k]?.getD 0 : Nat) : Int))
theorem HasTab.below {w w' : World} (h : HasTab w) (hB : Below w.heap.size w w') (_ : 0 < w.heap.size) : HasTab w' := fun k hk => (hB.cell (p := ⟨1, k, none⟩) (World.block_lt_of_cell? _ _ (h k hk))).trans (h k hk)
theorem low_bit (x : Nat) (h : x ≠ 0) : ∃ t m, x = 2 ^ (t + 1) * m + 2 ^ t := by
  induction x using Nat.strongRecOn with
  | _ x ih =>
    by_cases e : x % 2 = 1
    · exact ⟨0, x / 2, by simp; omega⟩
    · obtain ⟨t, m, hm⟩ := ih (x / 2) (by omega) (by omega)
      refine ⟨t + 1, m, ?_⟩
      have hx : x = 2 * (x / 2) := by omega
      rw [hx, hm, Nat.mul_add, Nat.pow_succ 2 (t + 1), Nat.pow_succ 2 t]
      have : 2 * (2 ^ t * 2 * m) = 2 ^ t * 2 * 2 * m := by rw [Nat.mul_comm 2, Nat.mul_assoc, Nat.mul_assoc, Nat.mul_assoc, Nat.mul_assoc, Nat.mul_comm m 2]
      rw [this, Nat.mul_comm 2 (2 ^ t)]
theorem low_lt {x t m : Nat} (hx : x < 4294967296) (h : x = 2 ^ (t + 1) * m + 2 ^ t) : t < 32 := by
  refine Nat.lt_of_not_le fun hge => ?_
  have : 2 ^ 32 ≤ 2 ^ t := Nat.pow_le_pow_right (by decide) hge
  omega
theorem low_bits {x t m : Nat} (h : x = 2 ^ (t + 1) * m + 2 ^ t) (i : Nat) : x.testBit i = if i < t + 1 then decide (i = t) else m.testBit (i - (t + 1)) := by
  rw [h, Nat.testBit_two_pow_mul_add m (Nat.pow_lt_pow_right (by decide) (Nat.lt_succ_self t)), Nat.testBit_two_pow]
  split
  · congr 1; rw [eq_iff_iff]; omega
  · rfl
theorem low_pred {x t m : Nat} (h : x = 2 ^ (t + 1) * m + 2 ^ t) (i : Nat) : (x - 1).testBit i = if i < t + 1 then decide (i < t) else m.testBit (i - (t + 1)) := by
  have hp := Nat.two_pow_pos t
  have e : x - 1 = 2 ^ (t + 1) * m + (2 ^ t - 1) := by omega
  have hl : 2 ^ t - 1 < 2 ^ (t + 1) := by have := Nat.pow_lt_pow_right (a := 2) (by decide) (Nat.lt_succ_self t); omega
  rw [e, Nat.testBit_two_pow_mul_add m hl, Nat.testBit_two_pow_sub_one]
/-- x & -x. -/
theorem low_and {x t m : Nat} (hx : x < 4294967296) (h : x = 2 ^ (t + 1) * m + 2 ^ t) : x &&& (4294967296 - x) = 2 ^ t := by
  have hp := Nat.two_pow_pos t
  have h0 : 0 < x := by omega
  have e : 4294967296 - x = 2 ^ 32 - ((x - 1) + 1) := by omega
  apply Nat.eq_of_testBit_eq
  intro i
  rw [Nat.testBit_and, e, Nat.testBit_two_pow_sub_succ (by omega), low_bits h i, low_pred h i, Nat.testBit_two_pow]
  have ht := low_lt hx h
  by_cases hi : i < t + 1
  · rw [if_pos hi, if_pos hi]
    by_cases hit : i = t
    · subst hit; simp; omega
    · have h1 : decide (t = i) = false := decide_eq_false (fun e => hit e.symm)
      rw [decide_eq_false hit, h1]; rfl
  · have h1 : decide (t = i) = false := decide_eq_false (by omega)
    rw [if_neg hi, if_neg hi, h1]
    cases m.testBit (i - (t + 1)) <;> simp
theorem tab_at {t : Nat} (ht : t < 32) : (2 ^ t * 125613361 % 4294967296) / 134217728 < 32 ∧ tabL[(2 ^ t * 125613361 % 4294967296) / 134217728]?.getD 0 = t := by
  have : ∀ t : Fin 32, (2 ^ t.val * 125613361 % 4294967296) / 134217728 < 32 ∧ tabL[(2 ^ t.val * 125613361 % 4294967296) / 134217728]?.getD 0 = t.val := by decide +kernel
  exact this ⟨t, ht⟩
theorem and32 (a b : Nat) (ha : a < 4294967296) (hb : b < 4294967296) : bits .and .u32 (a : Int) (b : Int) = ((a &&& b : Nat) : Int) := by
  show IntKind.u32.wrap (((BitVec.ofInt 32 _ &&& BitVec.ofInt 32 _).toNat : Nat) : Int) = _
  rw [BitVec.toNat_and, show (BitVec.ofInt 32 (a : Int)).toNat = a by rw [BitVec.toNat_ofInt]; omega, show (BitVec.ofInt 32 (b : Int)).toNat = b by rw [BitVec.toNat_ofInt]; omega]
  exact wrap_u32 _ (Nat.lt_of_le_of_lt Nat.and_le_left ha)

theorem neg32 {x : Nat} (hx : x < 4294967296) (h0 : x ≠ 0) : IntKind.u32.wrap (-(x : Int)) = ((4294967296 - x : Nat) : Int) := by
  simp [IntKind.wrap, IntKind.bits, IntKind.signed]
  omega
theorem mul32 (z : Nat) : IntKind.u32.wrap ((z : Int) * 125613361) = ((z * 125613361 % 4294967296 : Nat) : Int) := by
  simp [IntKind.wrap, IntKind.bits, IntKind.signed]
theorem tz_facts {x t m : Nat} (hx : x < 4294967296) (h : x = 2 ^ (t + 1) * m + 2 ^ t) : ∃ y z u v : Nat, IntKind.u32.wrap (-(x : Int)) = (y : Int) ∧ bits .and .u32 (x : Int) (y : Int) = (z : Int) ∧ IntKind.u32.wrap ((z : Int) * 125613361) = (u : Int) ∧ (u : Int) / 134217728 = (v : Int) ∧ v < 32 ∧ tabL[v]?.getD 0 = t := by
  have ht := low_lt hx h
  have hx0 : x ≠ 0 := by have := Nat.two_pow_pos t; omega
  refine ⟨4294967296 - x, 2 ^ t, 2 ^ t * 125613361 % 4294967296, 2 ^ t * 125613361 % 4294967296 / 134217728, neg32 hx hx0, ?_, mul32 _, by simp, (tab_at ht).1, (tab_at ht).2⟩
  rw [and32 _ _ hx (by omega), low_and hx h]

set_option maxHeartbeats 1000000 in
set_option maxRecDepth 20000 in
theorem tz_walk (x t y z u v : Nat) (w : World) (hx0' : ((x : Int) == 0) = false) (e7 : IntKind.u32.wrap (-(x : Int)) = (y : Int)) (e8 : bits .and .u32 (x : Int) (y : Int) = (z : Int)) (e9 : IntKind.u32.wrap ((z : Int) * 125613361) = (u : Int)) (e10 : (u : Int) / 134217728 = (v : Int)) (hv' : (v : Int) < 32) (ct : w.cell? ⟨1, v, none⟩ = some (.int .u8 (t : Int))) :
    Calls Tryz.prog 177 #[.int .u32 (x : Int)] w fun e w' => e = .returned (.int .i64 (wrap64 (t : Int))) ∧ w' = w := by
  go_enter Tryz.func177, Tryz.ntmps177
  go_wp2
  go_ret
  exact ⟨rfl, rfl⟩
theorem tz_any (x t m : Nat) (w : World) (hx : x < 4294967296) (h : x = 2 ^ (t + 1) * m + 2 ^ t) (hT : HasTab w) :
    Calls Tryz.prog 177 #[.int .u32 (x : Int)] w fun e w' => e = .returned (.int .i64 (t : Int)) ∧ w' = w := by
  have ht := low_lt hx h
  have hx0 : x ≠ 0 := by have := Nat.two_pow_pos t; omega
  obtain ⟨y, z, u, v, e7, e8, e9, e10, hv, htv⟩ := tz_facts hx h
  have := tz_walk x t y z u v w (by simpa using hx0) e7 e8 e9 e10 (by omega) (by rw [hT v hv, htv])
  rw [IntWalk.wrap64_in _ ⟨by omega, by omega⟩] at this
  exact this
end Go.Proofs.YtaablbmgagiajabGreatDoor

/- A replica: what it knows, and where that lies in memory. -/
namespace Go.Proofs.YtaablbmgagiajabGreatDoor
open Go.RowKit Go.Deep

/-! ### A block, cell by cell -/
def BIs (w : World) (p t n : Nat) (f : Nat → Value) : Prop := ∃ cs : Array Value, w.heap[p]? = some (.cells cs t (0, 0)) ∧ cs.size = n ∧ ∀ k, k < n → cs[k]? = some (f k)
section
variable {w w' : World} {p t n : Nat} {f g : Nat → Value}
theorem BIs.at (h : BIs w p t n f) {k : Nat} (hk : k < n) : w.cell? ⟨p, k, none⟩ = some (f k) := by
  obtain ⟨cs, h1, _, h3⟩ := h
  rw [blk_cell h1]
  exact h3 k hk
theorem BIs.free (h : BIs w p t n f) (k : Nat) : w.frozen? ⟨p, k, none⟩ = false := by
  obtain ⟨cs, h1, _⟩ := h
  exact blk_free h1 k
theorem BIs.lt (h : BIs w p t n f) : p < w.heap.size := by
  obtain ⟨cs, h1, _⟩ := h
  exact blk_lt h1
theorem BIs.same (h : BIs w p t n f) (hb : w'.heap[p]? = w.heap[p]?) : BIs w' p t n f := by
  obtain ⟨cs, h1, h2⟩ := h
  exact ⟨cs, hb.trans h1, h2⟩
theorem BIs.congr (h : BIs w p t n f) (e : ∀ k, k < n → f k = g k) : BIs w p t n g := by
  obtain ⟨cs, h1, h2, h3⟩ := h
  exact ⟨cs, h1, h2, fun k hk => by rw [h3 k hk, e k hk]⟩
theorem BIs.set (h : BIs w p t n f) {k : Nat} (hk : k < n) (v : Value) : BIs (w.setCell ⟨p, k, none⟩ v) p t n (upd f k v) := by
  obtain ⟨cs, h1, h2, h3⟩ := h
  refine ⟨_, blk_set h1 k v, by simpa using h2, fun j hj => ?_⟩
  rw [Array.getElem?_setIfInBounds]
  by_cases e : k = j
  · subst e; simp [h2, hk, upd_same]
  · rw [if_neg e, upd_other f v (fun h => e h.symm)]; exact h3 j hj
theorem BIs.sets : ∀ (vs : List Value) (o : Nat) (w : World) (f : Nat → Value), BIs w p t n f → o + vs.length ≤ n → BIs (w.setCells p o vs) p t n (fun k => if o ≤ k then (vs[k - o]?).getD (f k) else f k)
  | [], o, w, f, h, _ => h.congr fun k _ => by simp
  | v :: r, o, w, f, h, hl => by
    simp only [List.length_cons] at hl
    refine (BIs.sets r (o + 1) (w.setCell ⟨p, o, none⟩ v) (upd f o v) (h.set (by omega) v) (by omega)).congr fun k _ => ?_
    by_cases h1 : k < o
    · rw [if_neg (by omega), if_neg (by omega), upd_other _ _ (by omega)]
    · by_cases h2 : k = o
      · subst h2; rw [if_neg (by omega), if_pos (Nat.le_refl _)]; simp [upd_same]
      · rw [if_pos (by omega), if_pos (by omega), upd_other _ _ h2, show k - o = (k - (o + 1)) + 1 by omega, List.getElem?_cons_succ]
theorem BIs.range (h : BIs w p t n f) {o : Nat} {cs : List Value} (hl : o + cs.length ≤ n) (hc : ∀ j, j < cs.length → cs[j]? = some (f (o + j))) : w.rangeAt p o cs := by
  intro j v hv
  have hj : j < cs.length := (List.getElem?_eq_some_iff.1 hv).1
  rw [h.at (by omega), ← hc j hj, hv]
theorem BIs.there (h : BIs w p t n f) {o m : Nat} (hl : o + m ≤ n) : w.there p o m := fun j hj => ⟨by rw [h.at (by omega)]; rfl, h.free _⟩
end

/-! ### What a replica knows -/
structure Smp where
  there : Bool
  came : Int
  c : Nat
  v : Nat
def smp0 : Smp := ⟨false, 0, 0, 0⟩
def smpC (x : Smp) : List Value := [.bool x.there, .int .i64 x.came, .int .i64 (x.c : Int), .int .i64 (x.v : Int)]
structure RS where
  id : Nat
  cycle : Int
  ticks : Int
  ahead : Int
  st : St
  sx : Int
  sy : Int
  smp : Nat → Smp
  told : Nat → Nat → Int
/-- What another one told: the cycle, and the state. -/
def tlC (T : Nat → Int) : Array Value := #[.int .i64 (T 0), .int .i64 (T 1), .int .i64 (T 2), .int .i64 (T 3), .int .i64 (T 4), .int .i64 (T 5), .int .i64 (T 6), .int .i64 (T 7), .int .i64 (T 8), .int .i64 (T 9), .int .i64 (T 10), .int .i64 (T 11), .int .i64 (T 12), .int .i64 (T 13), .int .i64 (T 14), .int .i64 (T 15), .int .i64 (T 16), .int .i64 (T 17)]
theorem tlC_at (T : Nat → Int) (k : Nat) (h : k < 18) : (tlC T)[k]? = some (.int .i64 (T k)) := by
  match k, h with
  | 0, _ => rfl | 1, _ => rfl | 2, _ => rfl | 3, _ => rfl | 4, _ => rfl | 5, _ => rfl | 6, _ => rfl | 7, _ => rfl | 8, _ => rfl | 9, _ => rfl | 10, _ => rfl | 11, _ => rfl | 12, _ => rfl | 13, _ => rfl | 14, _ => rfl | 15, _ => rfl | 16, _ => rfl | 17, _ => rfl
  | _ + 18, h => exact absurd h (by omega)
/-- A line: its numbers, the core's blocks, the list's. -/
structure RC where
  s : Nat
  d : Nat
  n : Nat
  zs : List Int
  pc : Nat
  g : Nat
  cg : Nat
  M : Nat
  g2 : Nat
  c2 : Nat
def rpF (C : RC) (R : RS) (k : Nat) : Value :=
  if k = 0 then .int .i64 (R.id : Int) else if k = 1 then .int .i64 (C.s : Int) else if k = 2 then .slice (some ⟨C.g2, 0, none⟩) C.n C.c2 else if k = 3 then .int .i64 (C.d : Int) else if k = 4 then .pointer (some ⟨C.pc, 0, none⟩)
  else if k = 5 then .int .i64 R.cycle else if k = 6 then .int .i64 R.ticks else if k = 7 then .int .i64 R.ahead
  else if k < 25 then ((stCells R.st)[k - 8]?).getD undef
  else if k = 25 then .int .i64 R.sx else if k = 26 then .int .i64 R.sy
  else if k < 39 then ((smpC (R.smp ((k - 27) / 4)))[(k - 27) % 4]?).getD undef
  else .int .i64 (R.told ((k - 39) / 18) ((k - 39) % 18))

structure RpIs (w : World) (p : Nat) (C : RC) (R : RS) : Prop where
  blk : BIs w p 160 93 (rpF C R)
  core : CoreIs w C.pc (C.s : Int) (C.d : Int) C.n C.zs C.g C.cg C.M
  row : Row w C.g2 0 C.zs
  lt2 : C.g2 < w.heap.size
  cap2 : C.n ≤ C.c2
  ap : p ≠ C.pc ∧ p ≠ C.g ∧ p ≠ C.M ∧ p ≠ C.g2

theorem CoreIs.blocks {w wx : World} {p : Nat} {s d : Int} {n : Nat} {zs : List Int} {g cg M : Nat} (h : CoreIs w p s d n zs g cg M) (hs : w.heap.size ≤ wx.heap.size) (hb : ∀ k, k = p ∨ k = g ∨ k = M → wx.heap[k]? = w.heap[k]?) : CoreIs wx p s d n zs g cg M :=
  ⟨(hb p (.inl rfl)).trans h.blk, h.len, h.cap, Nat.lt_of_lt_of_le h.glt hs, fun k hk => (World.cell?_of_block (w := w) (hb g (.inr (.inl rfl)))).trans (h.row k hk), h.con.of_block (hb M (.inr (.inr rfl))), h.ok⟩
section
variable {w w' : World} {p : Nat} {C : RC} {R R' : RS}
theorem RpIs.lt (h : RpIs w p C R) : p < w.heap.size := h.blk.lt
theorem RpIs.mod (h : RpIs w p C R) (hm : Mod w w' (· = p)) (hb : BIs w' p 160 93 (rpF C R')) : RpIs w' p C R' := by
  have e : ∀ k, k < w.heap.size → k ≠ p → w'.heap[k]? = w.heap[k]? := fun k hk hp => hm.block k hk hp
  obtain ⟨a1, a2, a3, a4⟩ := h.ap
  refine ⟨hb, h.core.blocks hm.size ?_, fun k hk => (World.cell?_of_block (w := w) (e _ h.lt2 (fun x => a4 x.symm))).trans (h.row k hk), Nat.lt_of_lt_of_le h.lt2 hm.size, h.cap2, h.ap⟩
  rintro k (rfl | rfl | rfl)
  · exact e _ h.core.plt (fun x => a1 x.symm)
  · exact e _ h.core.glt (fun x => a2 x.symm)
  · exact e _ h.core.mlt (fun x => a3 x.symm)
theorem RpIs.below (h : RpIs w p C R) (hB : Below w.heap.size w w') : RpIs w' p C R := h.mod (Mod.ofBelow hB _) (h.blk.same (hB.block _ h.lt))
theorem RpIs.other (h : RpIs w p C R) {q : Nat} (hm : Mod w w' (· = q)) (hq : q ≠ p ∧ q ≠ C.pc ∧ q ≠ C.g ∧ q ≠ C.M ∧ q ≠ C.g2) : RpIs w' p C R := by
  have e : ∀ k, k < w.heap.size → k ≠ q → w'.heap[k]? = w.heap[k]? := fun k hk hp => hm.block k hk hp
  obtain ⟨a0, a1, a2, a3, a4⟩ := hq
  refine ⟨h.blk.same (e _ h.lt (fun x => a0 x.symm)), h.core.blocks hm.size ?_, fun k hk => (World.cell?_of_block (w := w) (e _ h.lt2 (fun x => a4 x.symm))).trans (h.row k hk), Nat.lt_of_lt_of_le h.lt2 hm.size, h.cap2, h.ap⟩
  rintro k (rfl | rfl | rfl)
  · exact e _ h.core.plt (fun x => a1 x.symm)
  · exact e _ h.core.glt (fun x => a2 x.symm)
  · exact e _ h.core.mlt (fun x => a3 x.symm)

/-! ### One cell -/
theorem RpIs.put (h : RpIs w p C R) {k : Nat} (hk : k < 93) (v : Value) (e : ∀ j, j < 93 → upd (rpF C R) k v j = rpF C R' j) : RpIs (w.setCell ⟨p, k, none⟩ v) p C R' :=
  h.mod ((Mod.refl w _).set ⟨p, k, none⟩ v (fun _ => rfl)) ((h.blk.set hk v).congr e)
theorem Mod.sets {T : Nat → Prop} {w w1 : World} (h : Mod w w1 T) (p o : Nat) (vs : List Value) (hp : T p) : Mod w (w1.setCells p o vs) T := by
  refine ⟨(World.os_setCells _ _ _ _).trans h.os, ?_, (World.output_setCells _ _ _ _).trans h.output, ?_, fun k hk ht => ?_⟩
  · have : ∀ (vs : List Value) (o : Nat) (x : World), (x.setCells p o vs).tape = x.tape := by
      intro vs
      induction vs with
      | nil => intro _ _; rfl
      | cons v r ih => intro o x; exact ih (o + 1) (x.setCell ⟨p, o, none⟩ v)
    rw [this]; exact h.tape
  · have : ∀ (vs : List Value) (o : Nat) (x : World), (x.setCells p o vs).heap.size = x.heap.size := by
      intro vs
      induction vs with
      | nil => intro _ _; rfl
      | cons v r ih => intro o x; exact (ih (o + 1) (x.setCell ⟨p, o, none⟩ v)).trans (by simp [World.setCell])
    rw [this]; exact h.size
  · have hne : k ≠ p := fun e => ht (e ▸ hp)
    exact (World.heap_setCells_other w1 p o vs (Nat.lt_of_lt_of_le hk h.size) hne).trans (h.block k hk ht)
theorem RpIs.puts (h : RpIs w p C R) (o : Nat) (vs : List Value) (hl : o + vs.length ≤ 93) (e : ∀ j, j < 93 → (if o ≤ j then (vs[j - o]?).getD (rpF C R j) else rpF C R j) = rpF C R' j) : RpIs (w.setCells p o vs) p C R' :=
  h.mod ((Mod.refl w _).sets p o vs rfl) ((BIs.sets vs o w _ h.blk hl).congr e)

theorem RpIs.c0 (h : RpIs w p C R) : w.cell? ⟨p, 0, none⟩ = some (.int .i64 (R.id : Int)) := h.blk.at (by decide)
theorem RpIs.c1 (h : RpIs w p C R) : w.cell? ⟨p, 1, none⟩ = some (.int .i64 (C.s : Int)) := h.blk.at (by decide)
theorem RpIs.c2 (h : RpIs w p C R) : w.cell? ⟨p, 2, none⟩ = some (.slice (some ⟨C.g2, 0, none⟩) C.n C.c2) := h.blk.at (by decide)
theorem RpIs.c3 (h : RpIs w p C R) : w.cell? ⟨p, 3, none⟩ = some (.int .i64 (C.d : Int)) := h.blk.at (by decide)
theorem RpIs.c4 (h : RpIs w p C R) : w.cell? ⟨p, 4, none⟩ = some (.pointer (some ⟨C.pc, 0, none⟩)) := h.blk.at (by decide)
theorem RpIs.c5 (h : RpIs w p C R) : w.cell? ⟨p, 5, none⟩ = some (.int .i64 R.cycle) := h.blk.at (by decide)
theorem RpIs.c6 (h : RpIs w p C R) : w.cell? ⟨p, 6, none⟩ = some (.int .i64 R.ticks) := h.blk.at (by decide)
theorem RpIs.c7 (h : RpIs w p C R) : w.cell? ⟨p, 7, none⟩ = some (.int .i64 R.ahead) := h.blk.at (by decide)
theorem RpIs.c25 (h : RpIs w p C R) : w.cell? ⟨p, 25, none⟩ = some (.int .i64 R.sx) := h.blk.at (by decide)
theorem RpIs.c26 (h : RpIs w p C R) : w.cell? ⟨p, 26, none⟩ = some (.int .i64 R.sy) := h.blk.at (by decide)
theorem RpIs.state (h : RpIs w p C R) : w.rangeAt p 8 (stCells R.st).toList := by
  refine h.blk.range (by show 8 + 17 ≤ 93; omega) fun j hj => ?_
  have hj' : j < 17 := hj
  unfold rpF
  rw [if_neg (by omega), if_neg (by omega), if_neg (by omega), if_neg (by omega), if_neg (by omega), if_neg (by omega), if_neg (by omega), if_neg (by omega), if_pos (by omega), show 8 + j - 8 = j by omega]
  have hs : j < (stCells R.st).size := hj'
  rw [Array.getElem?_toList, Array.getElem?_eq_getElem hs]
  rfl
theorem rpF_smp {k j : Nat} (hk : k < 3) (hj : j < 4) : rpF C R (27 + k * 4 + j) = ((smpC (R.smp k))[j]?).getD undef := by
  unfold rpF
  rw [if_neg (by omega), if_neg (by omega), if_neg (by omega), if_neg (by omega), if_neg (by omega), if_neg (by omega), if_neg (by omega), if_neg (by omega), if_neg (by omega), if_neg (by omega), if_neg (by omega), if_pos (by omega), show (27 + k * 4 + j - 27) / 4 = k by omega, show (27 + k * 4 + j - 27) % 4 = j by omega]
theorem rpF_told {k j : Nat} (hk : k < 3) (hj : j < 18) : rpF C R (39 + k * 18 + j) = .int .i64 (R.told k j) := by
  unfold rpF
  rw [if_neg (by omega), if_neg (by omega), if_neg (by omega), if_neg (by omega), if_neg (by omega), if_neg (by omega), if_neg (by omega), if_neg (by omega), if_neg (by omega), if_neg (by omega), if_neg (by omega), if_neg (by omega), show (39 + k * 18 + j - 39) / 18 = k by omega, show (39 + k * 18 + j - 39) % 18 = j by omega]
theorem RpIs.s0 (h : RpIs w p C R) {k : Nat} (hk : k < 3) : w.cell? ⟨p, 27 + k * 4, none⟩ = some (.bool (R.smp k).there) := (h.blk.at (by omega)).trans (congrArg some (rpF_smp (j := 0) hk (by omega)))
theorem RpIs.s1 (h : RpIs w p C R) {k : Nat} (hk : k < 3) : w.cell? ⟨p, 27 + k * 4 + 1, none⟩ = some (.int .i64 (R.smp k).came) := (h.blk.at (by omega)).trans (congrArg some (rpF_smp (j := 1) hk (by omega)))
theorem RpIs.s2 (h : RpIs w p C R) {k : Nat} (hk : k < 3) : w.cell? ⟨p, 27 + k * 4 + 2, none⟩ = some (.int .i64 ((R.smp k).c : Int)) := (h.blk.at (by omega)).trans (congrArg some (rpF_smp (j := 2) hk (by omega)))
theorem RpIs.s3 (h : RpIs w p C R) {k : Nat} (hk : k < 3) : w.cell? ⟨p, 27 + k * 4 + 3, none⟩ = some (.int .i64 ((R.smp k).v : Int)) := (h.blk.at (by omega)).trans (congrArg some (rpF_smp (j := 3) hk (by omega)))
/-- All samples; all that was told. -/
def smpL (f : Nat → Smp) : List Value := smpC (f 0) ++ smpC (f 1) ++ smpC (f 2)
theorem RpIs.samples (h : RpIs w p C R) : w.rangeAt p 27 (smpL R.smp) := by
  refine h.blk.range (by show 27 + 12 ≤ 93; omega) fun j hj => ?_
  have hj' : j < 12 := hj
  rcases (by omega : j < 4 ∨ (4 ≤ j ∧ j < 8) ∨ (8 ≤ j ∧ j < 12)) with h1 | h1 | h1
  · have := rpF_smp (C := C) (R := R) (k := 0) (j := j) (by omega) h1
    rw [show 27 + 0 * 4 + j = 27 + j by omega] at this
    rw [this]
    rcases (by omega : j = 0 ∨ j = 1 ∨ j = 2 ∨ j = 3) with rfl | rfl | rfl | rfl <;> rfl
  · have := rpF_smp (C := C) (R := R) (k := 1) (j := j - 4) (by omega) (by omega)
    rw [show 27 + 1 * 4 + (j - 4) = 27 + j by omega] at this
    rw [this]
    rcases (by omega : j = 4 ∨ j = 5 ∨ j = 6 ∨ j = 7) with rfl | rfl | rfl | rfl <;> rfl
  · have := rpF_smp (C := C) (R := R) (k := 2) (j := j - 8) (by omega) (by omega)
    rw [show 27 + 2 * 4 + (j - 8) = 27 + j by omega] at this
    rw [this]
    rcases (by omega : j = 8 ∨ j = 9 ∨ j = 10 ∨ j = 11) with rfl | rfl | rfl | rfl <;> rfl
def tlL (f : Nat → Nat → Int) : List Value := (tlC (f 0)).toList ++ (tlC (f 1)).toList ++ (tlC (f 2)).toList
theorem tlL_at (f : Nat → Nat → Int) {k j : Nat} (hk : k < 3) (hj : j < 18) : (tlL f)[k * 18 + j]? = some (.int .i64 (f k j)) := by
  have a : ∀ i, (tlC (f i)).toList[j]? = some (.int .i64 (f i j)) := fun i => by rw [Array.getElem?_toList]; exact tlC_at _ _ hj
  have l : ∀ i, (tlC (f i)).toList.length = 18 := fun _ => rfl
  unfold tlL
  rcases (by omega : k = 0 ∨ k = 1 ∨ k = 2) with rfl | rfl | rfl
  · rw [List.append_assoc, List.getElem?_append_left (by rw [l]; omega), Nat.zero_mul, Nat.zero_add, a]
  · rw [List.append_assoc, List.getElem?_append_right (by rw [l]; omega), List.getElem?_append_left (by rw [l, l]; omega), l, show 1 * 18 + j - 18 = j by omega, a]
  · rw [List.getElem?_append_right (by rw [List.length_append, l, l]; omega), List.length_append, l, l, show 2 * 18 + j - (18 + 18) = j by omega, a]
theorem RpIs.tolds (h : RpIs w p C R) : w.rangeAt p 39 (tlL R.told) := by
  refine h.blk.range (by show 39 + 54 ≤ 93; omega) fun j hj => ?_
  have hj' : j < 54 := hj
  have e := tlL_at R.told (k := j / 18) (j := j % 18) (by omega) (by omega)
  have e2 := rpF_told (C := C) (R := R) (k := j / 18) (j := j % 18) (by omega) (by omega)
  rw [show j / 18 * 18 + j % 18 = j by omega] at e
  rw [show 39 + j / 18 * 18 + j % 18 = 39 + j by omega] at e2
  rw [e, e2]
end
end Go.Proofs.YtaablbmgagiajabGreatDoor

/- What a store into a replica leaves of its cells. -/
namespace Go.Proofs.YtaablbmgagiajabGreatDoor
open Go.RowKit Go.Deep
section
variable {C : RC} {R : RS}
theorem rpF_putS {k : Nat} (x : Smp) (hk : k < 3) {j : Nat} (hj : j < 93) : (if 27 + k * 4 ≤ j then ((smpC x)[j - (27 + k * 4)]?).getD (rpF C R j) else rpF C R j) = rpF C { R with smp := upd R.smp k x } j := by
  by_cases hr : 27 + k * 4 ≤ j ∧ j < 27 + k * 4 + 4
  · obtain ⟨i, rfl⟩ : ∃ i, j = 27 + k * 4 + i := ⟨j - (27 + k * 4), by omega⟩
    have hi : i < 4 := by omega
    rw [if_pos (by omega), rpF_smp hk hi, rpF_smp hk hi, show 27 + k * 4 + i - (27 + k * 4) = i by omega]
    show _ = ((smpC (upd R.smp k x k))[i]?).getD undef
    rw [upd_same]
    rcases (by omega : i = 0 ∨ i = 1 ∨ i = 2 ∨ i = 3) with rfl | rfl | rfl | rfl <;> rfl
  · have e : (if 27 + k * 4 ≤ j then ((smpC x)[j - (27 + k * 4)]?).getD (rpF C R j) else rpF C R j) = rpF C R j := by
      split
      · rw [List.getElem?_eq_none (by show 4 ≤ _; omega)]; rfl
      · rfl
    rw [e]
    unfold rpF
    refine ite_congr rfl (fun _ => rfl) fun h0 => ?_
    refine ite_congr rfl (fun _ => rfl) fun h1 => ?_
    refine ite_congr rfl (fun _ => rfl) fun h2 => ?_
    refine ite_congr rfl (fun _ => rfl) fun h3 => ?_
    refine ite_congr rfl (fun _ => rfl) fun h4 => ?_
    refine ite_congr rfl (fun _ => rfl) fun h5 => ?_
    refine ite_congr rfl (fun _ => rfl) fun h6 => ?_
    refine ite_congr rfl (fun _ => rfl) fun h7 => ?_
    refine ite_congr rfl (fun _ => rfl) fun h8 => ?_
    refine ite_congr rfl (fun _ => rfl) fun h9 => ?_
    refine ite_congr rfl (fun _ => rfl) fun h10 => ?_
    refine ite_congr rfl (fun h11 => ?_) fun _ => rfl
    show _ = ((smpC (upd R.smp k x ((j - 27) / 4)))[(j - 27) % 4]?).getD undef
    rw [upd_other _ _ (by omega)]
theorem rpF_putT {k : Nat} (T : Nat → Int) (hk : k < 3) {j : Nat} (hj : j < 93) : (if 39 + k * 18 ≤ j then ((tlC T).toList[j - (39 + k * 18)]?).getD (rpF C R j) else rpF C R j) = rpF C { R with told := upd R.told k T } j := by
  by_cases hr : 39 + k * 18 ≤ j ∧ j < 39 + k * 18 + 18
  · obtain ⟨i, rfl⟩ : ∃ i, j = 39 + k * 18 + i := ⟨j - (39 + k * 18), by omega⟩
    have hi : i < 18 := by omega
    rw [if_pos (by omega), rpF_told hk hi, rpF_told hk hi, show 39 + k * 18 + i - (39 + k * 18) = i by omega, Array.getElem?_toList, tlC_at T i hi]
    show _ = Value.int .i64 (upd R.told k T k i)
    rw [upd_same]
    rfl
  · have e : (if 39 + k * 18 ≤ j then ((tlC T).toList[j - (39 + k * 18)]?).getD (rpF C R j) else rpF C R j) = rpF C R j := by
      split
      · rw [List.getElem?_eq_none (by show 18 ≤ _; omega)]; rfl
      · rfl
    rw [e]
    unfold rpF
    refine ite_congr rfl (fun _ => rfl) fun h0 => ?_
    refine ite_congr rfl (fun _ => rfl) fun h1 => ?_
    refine ite_congr rfl (fun _ => rfl) fun h2 => ?_
    refine ite_congr rfl (fun _ => rfl) fun h3 => ?_
    refine ite_congr rfl (fun _ => rfl) fun h4 => ?_
    refine ite_congr rfl (fun _ => rfl) fun h5 => ?_
    refine ite_congr rfl (fun _ => rfl) fun h6 => ?_
    refine ite_congr rfl (fun _ => rfl) fun h7 => ?_
    refine ite_congr rfl (fun _ => rfl) fun h8 => ?_
    refine ite_congr rfl (fun _ => rfl) fun h9 => ?_
    refine ite_congr rfl (fun _ => rfl) fun h10 => ?_
    refine ite_congr rfl (fun _ => rfl) fun h11 => ?_
    have : upd R.told k T ((j - 39) / 18) = R.told ((j - 39) / 18) := upd_other _ _ (by omega)
    show _ = Value.int .i64 (upd R.told k T ((j - 39) / 18) ((j - 39) % 18))
    rw [this]
theorem rpF_putSt (X : St) {j : Nat} : (if 8 ≤ j then ((stCells X).toList[j - 8]?).getD (rpF C R j) else rpF C R j) = rpF C { R with st := X } j := by
  by_cases hr : 8 ≤ j ∧ j < 25
  · rw [if_pos hr.1]
    have hs : j - 8 < (stCells X).size := by show j - 8 < 17; omega
    unfold rpF
    rw [if_neg (by omega), if_neg (by omega), if_neg (by omega), if_neg (by omega), if_neg (by omega), if_neg (by omega), if_neg (by omega), if_neg (by omega), if_pos hr.2]
    rw [if_neg (by omega), if_neg (by omega), if_neg (by omega), if_neg (by omega), if_neg (by omega), if_neg (by omega), if_neg (by omega), if_neg (by omega), if_pos hr.2]
    rw [Array.getElem?_toList, Array.getElem?_eq_getElem hs]
    rfl
  · have e : (if 8 ≤ j then ((stCells X).toList[j - 8]?).getD (rpF C R j) else rpF C R j) = rpF C R j := by
      split
      · rw [List.getElem?_eq_none (by show 17 ≤ _; omega)]; rfl
      · rfl
    rw [e]
    unfold rpF
    refine ite_congr rfl (fun _ => rfl) fun h0 => ?_
    refine ite_congr rfl (fun _ => rfl) fun h1 => ?_
    refine ite_congr rfl (fun _ => rfl) fun h2 => ?_
    refine ite_congr rfl (fun _ => rfl) fun h3 => ?_
    refine ite_congr rfl (fun _ => rfl) fun h4 => ?_
    refine ite_congr rfl (fun _ => rfl) fun h5 => ?_
    refine ite_congr rfl (fun _ => rfl) fun h6 => ?_
    refine ite_congr rfl (fun _ => rfl) fun h7 => ?_
    exact ite_congr rfl (fun h8 => absurd h8 (by omega)) fun _ => rfl
theorem rpF_wipeS {j : Nat} (hj : j < 93) : (if 27 ≤ j then ((smpL fun _ => smp0)[j - 27]?).getD (rpF C R j) else rpF C R j) = rpF C { R with smp := fun _ => smp0 } j := by
  by_cases hr : 27 ≤ j ∧ j < 39
  · obtain ⟨i, rfl⟩ : ∃ i, j = 27 + i := ⟨j - 27, by omega⟩
    have hi : i < 12 := by omega
    rw [if_pos (by omega), show 27 + i - 27 = i by omega]
    have e := rpF_smp (C := C) (R := { R with smp := fun _ => smp0 }) (k := i / 4) (j := i % 4) (by omega) (by omega)
    rw [show 27 + i / 4 * 4 + i % 4 = 27 + i by omega] at e
    rw [e]
    show ((smpL fun _ => smp0)[i]?).getD _ = ((smpC smp0)[i % 4]?).getD undef
    rcases (by omega : i = 0 ∨ i = 1 ∨ i = 2 ∨ i = 3 ∨ i = 4 ∨ i = 5 ∨ i = 6 ∨ i = 7 ∨ i = 8 ∨ i = 9 ∨ i = 10 ∨ i = 11) with rfl | rfl | rfl | rfl | rfl | rfl | rfl | rfl | rfl | rfl | rfl | rfl <;> rfl
  · have e : (if 27 ≤ j then ((smpL fun _ => smp0)[j - 27]?).getD (rpF C R j) else rpF C R j) = rpF C R j := by
      split
      · rw [List.getElem?_eq_none (by show 12 ≤ _; omega)]; rfl
      · rfl
    rw [e]
    unfold rpF
    refine ite_congr rfl (fun _ => rfl) fun h0 => ?_
    refine ite_congr rfl (fun _ => rfl) fun h1 => ?_
    refine ite_congr rfl (fun _ => rfl) fun h2 => ?_
    refine ite_congr rfl (fun _ => rfl) fun h3 => ?_
    refine ite_congr rfl (fun _ => rfl) fun h4 => ?_
    refine ite_congr rfl (fun _ => rfl) fun h5 => ?_
    refine ite_congr rfl (fun _ => rfl) fun h6 => ?_
    refine ite_congr rfl (fun _ => rfl) fun h7 => ?_
    refine ite_congr rfl (fun _ => rfl) fun h8 => ?_
    refine ite_congr rfl (fun _ => rfl) fun h9 => ?_
    refine ite_congr rfl (fun _ => rfl) fun h10 => ?_
    exact ite_congr rfl (fun h11 => absurd h11 (by omega)) fun _ => rfl
theorem rpF_wipeT {j : Nat} (hj : j < 93) : (if 39 ≤ j then ((tlL fun _ _ => 0)[j - 39]?).getD (rpF C R j) else rpF C R j) = rpF C { R with told := fun _ _ => 0 } j := by
  by_cases hr : 39 ≤ j
  · obtain ⟨i, rfl⟩ : ∃ i, j = 39 + i := ⟨j - 39, by omega⟩
    have hi : i < 54 := by omega
    rw [if_pos (by omega), show 39 + i - 39 = i by omega]
    have e := rpF_told (C := C) (R := { R with told := fun _ _ => 0 }) (k := i / 18) (j := i % 18) (by omega) (by omega)
    have e2 := tlL_at (fun _ _ => 0) (k := i / 18) (j := i % 18) (by omega) (by omega)
    rw [show 39 + i / 18 * 18 + i % 18 = 39 + i by omega] at e
    rw [show i / 18 * 18 + i % 18 = i by omega] at e2
    rw [e, e2]
    rfl
  · rw [if_neg hr]
    unfold rpF
    refine ite_congr rfl (fun _ => rfl) fun h0 => ?_
    refine ite_congr rfl (fun _ => rfl) fun h1 => ?_
    refine ite_congr rfl (fun _ => rfl) fun h2 => ?_
    refine ite_congr rfl (fun _ => rfl) fun h3 => ?_
    refine ite_congr rfl (fun _ => rfl) fun h4 => ?_
    refine ite_congr rfl (fun _ => rfl) fun h5 => ?_
    refine ite_congr rfl (fun _ => rfl) fun h6 => ?_
    refine ite_congr rfl (fun _ => rfl) fun h7 => ?_
    refine ite_congr rfl (fun _ => rfl) fun h8 => ?_
    refine ite_congr rfl (fun _ => rfl) fun h9 => ?_
    refine ite_congr rfl (fun _ => rfl) fun h10 => ?_
    exact ite_congr rfl (fun _ => rfl) fun h11 => absurd hj (by omega)
theorem rpF_cyc (c : Int) {j : Nat} : upd (rpF C R) 5 (.int .i64 c) j = rpF C { R with cycle := c } j := by
  unfold upd rpF
  by_cases e : j = 5
  · subst e; rfl
  · simp [e]
theorem rpF_tick (c : Int) {j : Nat} : upd (rpF C R) 6 (.int .i64 c) j = rpF C { R with ticks := c } j := by
  unfold upd rpF
  by_cases e : j = 6
  · subst e; rfl
  · simp [e]
theorem rpF_ahead (c : Int) {j : Nat} : upd (rpF C R) 7 (.int .i64 c) j = rpF C { R with ahead := c } j := by
  unfold upd rpF
  by_cases e : j = 7
  · subst e; rfl
  · simp [e]
end
section
variable {w : World} {p : Nat} {C : RC} {R : RS}
theorem RpIs.putS (h : RpIs w p C R) {k : Nat} (hk : k < 3) (x : Smp) : RpIs (w.setCells p (27 + k * 4) (smpC x)) p C { R with smp := upd R.smp k x } :=
  h.puts _ _ (by show 27 + k * 4 + 4 ≤ 93; omega) fun _ hj => rpF_putS x hk hj
theorem RpIs.putT (h : RpIs w p C R) {k : Nat} (hk : k < 3) (T : Nat → Int) : RpIs (w.setCells p (39 + k * 18) (tlC T).toList) p C { R with told := upd R.told k T } :=
  h.puts _ _ (by show 39 + k * 18 + 18 ≤ 93; omega) fun _ hj => rpF_putT T hk hj
theorem RpIs.putSt (h : RpIs w p C R) (X : St) : RpIs (w.setCells p 8 (stCells X).toList) p C { R with st := X } :=
  h.puts _ _ (by show 8 + 17 ≤ 93; omega) fun _ _ => rpF_putSt X
theorem RpIs.wipeS (h : RpIs w p C R) : RpIs (w.setCells p 27 (smpL fun _ => smp0)) p C { R with smp := fun _ => smp0 } :=
  h.puts _ _ (by show 27 + 12 ≤ 93; omega) fun _ hj => rpF_wipeS hj
theorem RpIs.wipeT (h : RpIs w p C R) : RpIs (w.setCells p 39 (tlL fun _ _ => 0)) p C { R with told := fun _ _ => 0 } :=
  h.puts _ _ (by show 39 + 54 ≤ 93; omega) fun _ hj => rpF_wipeT hj
theorem RpIs.cyc (h : RpIs w p C R) (c : Int) : RpIs (w.setCell ⟨p, 5, none⟩ (.int .i64 c)) p C { R with cycle := c } := h.put (by decide) _ fun _ _ => rpF_cyc c
theorem RpIs.tick (h : RpIs w p C R) (c : Int) : RpIs (w.setCell ⟨p, 6, none⟩ (.int .i64 c)) p C { R with ticks := c } := h.put (by decide) _ fun _ _ => rpF_tick c
theorem RpIs.aheads (h : RpIs w p C R) (c : Int) : RpIs (w.setCell ⟨p, 7, none⟩ (.int .i64 c)) p C { R with ahead := c } := h.put (by decide) _ fun _ _ => rpF_ahead c
theorem RpIs.drew (h : RpIs w p C R) : RpIs w.drew p C R := h.below (Below.refl _ _).drew
end
end Go.Proofs.YtaablbmgagiajabGreatDoor

/- Frames that are told, in memory. -/
namespace Go.Proofs.YtaablbmgagiajabGreatDoor
open Go.RowKit Go.Deep

/-- Frames that are told, in memory. -/
def FRow (w : World) (t : TypeId) (v : Value) (L : List FR) : Prop :=
  (L = [] ∧ v = .slice none 0 0) ∨ ∃ g cap, v = .slice (some ⟨g, 0, none⟩) L.length cap ∧ L.length ≤ cap ∧ ∃ cs, w.heap[g]? = some (.cells cs t (0, 0)) ∧ ∀ i, i < L.length → ∀ j, j < 23 → cs[i * 23 + j]? = some (.int .i64 ((L[i]?.getD fr0) j))
theorem FRow.one {w : World} {t g : Nat} {F : FR} (h : w.heap[g]? = some (.cells (fCells F) t (0, 0))) : FRow w t (.slice (some ⟨g, 0, none⟩) 1 1) [F] :=
  .inr ⟨g, 1, rfl, Nat.le_refl _, fCells F, h, fun i hi j hj => by
    have : i = 0 := by simpa using hi
    subst this
    rw [Nat.zero_mul, Nat.zero_add]
    exact fCells_at F j hj⟩
theorem FRow.two {w : World} {t base g cap : Nat} {F G : FR} (h : w.ownsRow base t 23 (.slice (some ⟨g, 0, none⟩) 2 cap) 2 ((fCells F).toList ++ (fCells G).toList)) : FRow w t (.slice (some ⟨g, 0, none⟩) 2 cap) [F, G] := by
  rcases h.2 with ⟨e, _⟩ | ⟨g', cap', cur, e, _, hg, hc, _, _, ht⟩
  · simp at e
  simp only [Value.slice.injEq, Option.some.injEq, Addr.mk.injEq, and_true, true_and] at e
  obtain ⟨rfl, rfl⟩ := e
  refine .inr ⟨g, cap, rfl, hc, cur, hg, fun i hi j hj => ?_⟩
  have hi2 : i < 2 := by simpa using hi
  have e1 : cur[i * 23 + j]? = ((fCells F).toList ++ (fCells G).toList)[i * 23 + j]? := by
    rw [← ht, List.getElem?_take, if_pos (by omega), Array.getElem?_toList]
  rw [e1]
  match i, hi2 with
  | 0, _ => rw [List.getElem?_append_left (by simp [fCells_size]; omega), Array.getElem?_toList, Nat.zero_mul, Nat.zero_add]; exact fCells_at F j hj
  | 1, _ => rw [List.getElem?_append_right (by simp [fCells_size]), Array.getElem?_toList, show 1 * 23 + j - (fCells F).toList.length = j by simp [fCells_size]]; exact fCells_at G j hj
theorem FRow.range {w : World} {t g n cap : Nat} {L : List FR} (h : FRow w t (.slice (some ⟨g, 0, none⟩) n cap) L) {i : Nat} (hi : i < L.length) : w.rangeAt g (i * 23) (fCells (L[i]?.getD fr0)).toList := by
  rcases h with ⟨_, e⟩ | ⟨g', cap', e, _, cs, hg, hc⟩
  · simp at e
  simp only [Value.slice.injEq, Option.some.injEq, Addr.mk.injEq, and_true] at e
  obtain ⟨rfl, _⟩ := e
  intro j v hv
  have hj : j < 23 := by have := (List.getElem?_eq_some_iff.1 hv).1; simpa [fCells_size] using this
  have e2 := fCells_at (L[i]?.getD fr0) j hj
  rw [← Array.getElem?_toList, hv] at e2
  rw [blk_cell hg, hc i hi j hj, e2]
theorem FRow.below {w w' : World} {t : TypeId} {v : Value} {L : List FR} (h : FRow w t v L) (hB : Below w.heap.size w w') : FRow w' t v L := by
  rcases h with h | ⟨g, cap, rfl, h1, cs, hg, hc⟩
  · exact .inl h
  · exact .inr ⟨g, cap, rfl, h1, cs, (hB.block g (blk_lt hg)).trans hg, hc⟩

theorem infoFrameZ : (Tryz.prog.info? 36).map (fun i => (i.zero, i.size, i.bytes)) = some (some (.agg (fCells fr0)), 23, 184) := by kernel_rfl
end Go.Proofs.YtaablbmgagiajabGreatDoor

/- A list of one frame that is written out; one of what was committed. -/
namespace Go.Proofs.YtaablbmgagiajabGreatDoor
open Go.RowKit Go.Deep

theorem fill_one (F : FR) : Instr.fill (fun i => some (i * 23, 23)) ((Array.range (1 * 23)).map ((fCells fr0)[· % (fCells fr0).size]!)) [(0, .agg (fCells F))] = some (fCells F) := by
  have h := Great.fill_whole (s := 23) (by decide) [.agg (fCells F)] ((Array.range (1 * 23)).map ((fCells fr0)[· % (fCells fr0).size]!)) (by intro v hv; simp at hv; subst hv; rfl) (by simp)
  have e : (List.flatMap (fun v : Value => v.cells.toList) [Value.agg (fCells F)]).toArray = fCells F := by
    rw [List.flatMap_cons, List.flatMap_nil, List.append_nil]
    rfl
  rw [e] at h
  exact h
section
variable {ops : Array Oper} {rest : List Oper} {op : Oper} {a : Act} {w : World} {Q : Exit → Act → World → Prop}
theorem wpList_one_f (hgd : op.guard = none) (x : Operand) (ho : op.op = .buildSlice 211 1 #[(0, x)]) (F : FR) (hx : a.eval x = .agg (fCells F)) (H : Nat) (hH : w.heap.size = H)
    (h : ∀ w', Hid (w'.heap[H]? = some (.cells (fCells F) 36 (0, 0)) ∧ w'.heap.size = H + 1 ∧ Below H w w') → wpList Tryz.prog ops Q rest (a.put op.dst (.slice (some ⟨H, 0, none⟩) 1 1)) w') : wpList Tryz.prog ops Q (op :: rest) a w := by
  obtain ⟨i0, hi, hz0, hz1, hz2⟩ := info_parts infoFrameZ
  subst hH
  refine wpList_buildSlice hgd _ 36 1 _ ho (fCells F) i0 (.agg (fCells fr0)) Tryz.underlying211 hi hz0 (by rw [hz1]; decide) (by rw [hz1]; decide) ?_ (h _ ⟨blk_new _ _, by simp, (Below.refl _ _).alloc (Nat.le_refl _) _⟩)
  rw [hz1]
  simp only [List.map_toArray, List.map_cons, List.map_nil, hx]
  exact fill_one F
end
end Go.Proofs.YtaablbmgagiajabGreatDoor

/- The contracts of a replica's Cycle, State, See, frame and Asks; of isReplica and twoOf. -/
namespace Go.Proofs.YtaablbmgagiajabGreatDoor
open Go.RowKit Go.Deep

set_option maxHeartbeats 1000000 in
theorem cycle_any (p : Nat) (C : RC) (R : RS) (w : World) (h : RpIs w p C R) :
    Calls Tryz.prog 53 #[.pointer (some ⟨p, 0, none⟩)] w fun e w' => e = .returned (.int .i64 R.cycle) ∧ w' = w := by
  have hc := h.c5
  clear h
  go_enter Tryz.func53, Tryz.ntmps53
  go_wp2
  go_ret
  exact ⟨rfl, rfl⟩

section
variable {ops : Array Oper} {rest : List Oper} {op : Oper} {a : Act} {w : World} {Q : Exit → Act → World → Prop}
theorem wpList_store_s (hgd : op.guard = none) (x y : Operand) (ho : op.op = .store 34 x y) (b : Nat) (S X : St) (hx : a.eval x = .pointer (some ⟨b, 0, none⟩)) (hy : a.eval y = .agg (stCells X)) (hS : StIs w b S)
    (h : ∀ w', Hid (StIs w' b X ∧ (∀ k, k ≠ b → w'.heap[k]? = w.heap[k]?) ∧ (∀ B, B ≤ b → Below B w w')) → wpList Tryz.prog ops Q rest (a.put op.dst undef) w') : wpList Tryz.prog ops Q (op :: rest) a w :=
  wpList_plain hgd fun _ hK => wp_store_row _ x y ho b _ hx hy _ _ hS (by rw [stateInfo]; rfl) rfl (oneCells X) (hK _ _ (h _ ⟨row_same hS X, fun _ hk => row_other _ _ _ _ hk, fun _ hB => below_row (Below.refl _ _) hB _⟩))
end
theorem load_s {w : World} {q : Nat} {S : St} (h : StIs w q S) : (loadVar 34 ⟨q, 0, none⟩).run Tryz.prog w = .ok (.agg (stCells S)) w :=
  run_loadVar_row (P := Tryz.prog) _ _ _ 34 _ _ _ h Tryz.underlying34 rfl (by rw [stateInfo]; rfl)

set_option maxHeartbeats 1000000 in
set_option maxRecDepth 20000 in
theorem rstate_any (p : Nat) (C : RC) (R : RS) (w : World) (h : RpIs w p C R) :
    Calls Tryz.prog 54 #[.pointer (some ⟨p, 0, none⟩)] w fun e w' => e = .returned (.agg (stCells R.st)) ∧ Below w.heap.size w w' := by
  have hB : Below w.heap.size w (w.alloc (.cells (stCells st0) 34)) := (Below.refl _ _).alloc (Nat.le_refl _) _
  have hS : StIs (w.alloc (.cells (stCells st0) 34)) w.heap.size st0 := blk_new _ _
  have hr := (h.below hB).state
  have HR := hide hr
  have HS := hide hS
  have HB := hide hB
  have hpl := h.lt
  clear h hr hS hB
  go_enter Tryz.func54, Tryz.ntmps54
  go_wp2_with (first
    | (refine wpList_load_mid rfl 34 _ rfl p 8 rfl (stCells R.st).toList _ HR.out Tryz.underlying34 rfl (by rw [stateInfo]; rfl) ?_)
    | (refine wpList_store_s rfl _ _ rfl w.heap.size st0 R.st rfl rfl HS.out ?_))
  intro w9 HF9
  go_wp2
  refine bodyPost_ret (v := .agg (stCells R.st)) ?_ rfl ⟨rfl, HB.out.trans (HF9.out.2.2 _ (Nat.le_refl _))⟩
  exact results_cell1 Tryz.results54 rfl (load_s HF9.out.1)

def seeR (x y : Int) (R : RS) : RS := { R with sx := x, sy := y }
set_option maxHeartbeats 1000000 in
theorem see_any (p : Nat) (C : RC) (R : RS) (x y : Int) (w : World) (h : RpIs w p C R) :
    Calls Tryz.prog 50 #[.pointer (some ⟨p, 0, none⟩), .agg #[.int .i64 x, .int .i64 y]] w fun e w' => e = .returned (.tuple #[]) ∧ RpIs w' p C (seeR x y R) ∧ Mod w w' (· = p) := by
  have h1 := h.put (R' := { R with sx := x }) (k := 25) (by decide) (.int .i64 x) (fun j _ => by
    unfold upd rpF
    by_cases e : j = 25
    · subst e; rfl
    · simp [e])
  have h2 := h1.put (R' := seeR x y R) (k := 26) (by decide) (.int .i64 y) (fun j _ => by
    unfold upd rpF seeR
    by_cases e : j = 26
    · subst e; rfl
    · simp [e])
  have hB := (Below.refl ((w.setCell ⟨p, 25, none⟩ (.int .i64 x)).setCell ⟨p, 26, none⟩ (.int .i64 y)).heap.size ((w.setCell ⟨p, 25, none⟩ (.int .i64 x)).setCell ⟨p, 26, none⟩ (.int .i64 y))).alloc (Nat.le_refl _) (.cells #[.int .i64 x, .int .i64 y] 31)
  have h3 := h2.below hB
  have hm := (((Mod.refl w (· = p)).set ⟨p, 25, none⟩ (.int .i64 x) (fun _ => rfl)).set ⟨p, 26, none⟩ (.int .i64 y) (fun _ => rfl)).below hB
  have c25 := h.c25
  have c26 := h.c26
  have f25 := h.blk.free 25
  have f26 := h.blk.free 26
  have hpl := h.lt
  have H2 := hide h3
  have HM := hide hm
  clear h h1 h2 h3 hm hB
  go_enter Tryz.func50, Tryz.ntmps50
  go_wp2
  go_end0
  exact ⟨rfl, H2.out, HM.out⟩

def isRep (x : Int) : Bool := decide (0 ≤ x) && decide (x < 3)
set_option maxHeartbeats 1000000 in
theorem isReplica_any (x : Int) (w : World) :
    Calls Tryz.prog 134 #[.int .i64 x] w fun e w' => e = .returned (.bool (isRep x)) ∧ w' = w := by
  by_cases h1 : 0 ≤ x
  · by_cases h2 : x < 3
    · have he : isRep x = true := by simp [isRep, h1, h2]
      rw [he]
      clear he
      go_enter Tryz.func134, Tryz.ntmps134
      go_wp2
      go_ret
      exact ⟨rfl, rfl⟩
    · have he : isRep x = false := by simp [isRep, h2]
      rw [he]
      clear he
      go_enter Tryz.func134, Tryz.ntmps134
      go_wp2
      go_ret
      exact ⟨rfl, rfl⟩
  · have he : isRep x = false := by simp [isRep, h1]
    rw [he]
    clear he
    go_enter Tryz.func134, Tryz.ntmps134
    go_wp2
    go_ret
    exact ⟨rfl, rfl⟩

/-- The bits that two of three have. -/
def two3 (a b c : Nat) : Nat := a &&& b ||| b &&& c ||| c &&& a
theorem two3_lt {a b c m : Nat} (ha : a < 2 ^ m) (hb : b < 2 ^ m) : two3 a b c < 2 ^ m :=
  Nat.or_lt_two_pow (Nat.or_lt_two_pow (Nat.lt_of_le_of_lt Nat.and_le_left ha) (Nat.lt_of_le_of_lt Nat.and_le_left hb)) (Nat.lt_of_le_of_lt Nat.and_le_right ha)
set_option maxHeartbeats 1000000 in
theorem twoOf_any (a b c : Nat) (w : World) (ha : a < 4096) (hb : b < 4096) (hc : c < 4096) :
    Calls Tryz.prog 199 #[.int .i64 (a : Int), .int .i64 (b : Int), .int .i64 (c : Int)] w fun e w' => e = .returned (.int .i64 ((two3 a b c : Nat) : Int)) ∧ w' = w := by
  have h1 : a &&& b < 4096 := Nat.lt_of_le_of_lt Nat.and_le_left ha
  have h2 : b &&& c < 4096 := Nat.lt_of_le_of_lt Nat.and_le_left hb
  have h3 : c &&& a < 4096 := Nat.lt_of_le_of_lt Nat.and_le_left hc
  have h4 : a &&& b ||| b &&& c < 4096 := Nat.or_lt_two_pow (n := 12) h1 h2
  have e1 := and_nat a b (by omega) (by omega)
  have e2 := and_nat b c (by omega) (by omega)
  have e3 := and_nat c a (by omega) (by omega)
  have e4 := or_nat (a &&& b) (b &&& c) (by omega) (by omega)
  have e5 := or_nat (a &&& b ||| b &&& c) (c &&& a) (by omega) (by omega)
  have he : two3 a b c = a &&& b ||| b &&& c ||| c &&& a := rfl
  have HE := hide he
  clear he
  go_enter Tryz.func199, Tryz.ntmps199
  go_wp2
  go_ret
  rw [HE.out]
  exact ⟨rfl, rfl⟩
end Go.Proofs.YtaablbmgagiajabGreatDoor

/- The contract of a replica's put: a sample in the place of the one ahead. -/
namespace Go.Proofs.YtaablbmgagiajabGreatDoor
open Go.RowKit Go.Deep

theorem infoSight : (Tryz.prog.info? 154).map (·.size) = some 4 := by kernel_rfl
theorem smpOne (x : Smp) : (smpC x).toArray.all (·.oneCell') = true := by simp [smpC, Value.oneCell']
def putR (k c v : Nat) (R : RS) : RS := { R with smp := upd R.smp k ⟨true, R.ticks, c, v⟩ }
structure PMid (w wz : World) (N p : Nat) (C : RC) (R : RS) (c v : Nat) : Prop where
  old : Below N w wz
  rp : RpIs wz p C R
  bx : wz.heap[N]? = some (.cells #[.int .i64 (c : Int), .int .i64 (v : Int)] 31 (0, 0))
set_option maxHeartbeats 2000000 in
set_option maxRecDepth 20000 in
theorem put_any (p : Nat) (C : RC) (R : RS) (k : Nat) (x0 x1 : Int) (w : World) (h : RpIs w p C R) (hk : k < 3) :
    Calls Tryz.prog 138 #[.pointer (some ⟨p, 0, none⟩), .int .i64 (k : Int), .agg #[.int .i64 x0, .int .i64 x1]] w fun e w' =>
      e = .returned (.tuple #[]) ∧ RpIs w' p C (putR k (fitN C.s x0) (fitN C.n x1) R) ∧ Mod w w' (· = p) := by
  obtain ⟨W, hW⟩ : ∃ W, Hid (w.alloc (.cells #[.int .i64 x0, .int .i64 x1] 31) = W) := ⟨_, hide rfl⟩
  have hB0 : Below w.heap.size w W := by rw [← hW.out]; exact (Below.refl _ _).alloc (Nat.le_refl _) _
  have hWs : W.heap.size = w.heap.size + 1 := by rw [← hW.out]; simp
  have b0 : W.heap[w.heap.size]? = some (.cells #[.int .i64 x0, .int .i64 x1] 31 (0, 0)) := by rw [← hW.out]; exact blk_new _ _
  have h0 := h.below hB0
  have hpl := h.lt
  obtain ⟨c, hc⟩ : ∃ c, Hid (fitN C.s x0 = c) := ⟨_, hide rfl⟩
  obtain ⟨v, hv⟩ : ∃ v, Hid (fitN C.n x1 = v) := ⟨_, hide rfl⟩
  rw [hc.out, hv.out]
  have hfit : ∀ wx, Below W.heap.size W wx → Calls Tryz.prog 19 #[.agg #[.int .i64 (C.s : Int), .slice (some ⟨C.g2, 0, none⟩) C.n C.c2, .int .i64 (C.d : Int)], .agg #[.int .i64 x0, .int .i64 x1]] wx fun e w' =>
      e = .returned (.tuple #[.agg #[.int .i64 (c : Int), .int .i64 (v : Int)], .nilIface]) ∧ (w'.cell? ⟨w.heap.size, 0, none⟩ = some (.int .i64 x0) ∧ w'.cell? ⟨w.heap.size, 1, none⟩ = some (.int .i64 x1) ∧ w'.frozen? ⟨w.heap.size, 0, none⟩ = false ∧ w'.frozen? ⟨w.heap.size, 1, none⟩ = false) ∧
        Hid (PMid w ((w'.setCell ⟨w.heap.size, 0, none⟩ (.int .i64 (c : Int))).setCell ⟨w.heap.size, 1, none⟩ (.int .i64 (v : Int))) w.heap.size p C R c v) := by
    intro wx hx
    refine (fit_core C.s C.d x0 x1 C.g2 C.n C.c2 C.zs wx h0.core.len h0.core.ok (Nat.lt_of_lt_of_le h0.lt2 hx.size) (h0.row.below h0.lt2 hx) h0.cap2).mono ?_
    rw [hc.out, hv.out]
    rintro e w' ⟨he, hB⟩
    have hB' := hx.trans (hB.mono hx.size)
    have hb1 : w'.heap[w.heap.size]? = some (.cells #[.int .i64 x0, .int .i64 x1] 31 (0, 0)) := (hB'.block _ (by omega)).trans b0
    have hBw : Below w.heap.size w ((w'.setCell ⟨w.heap.size, 0, none⟩ (.int .i64 (c : Int))).setCell ⟨w.heap.size, 1, none⟩ (.int .i64 (v : Int))) := ((hB0.trans (hB'.mono (by omega))).setCell (Nat.le_refl _) _).setCell (Nat.le_refl _) _
    exact ⟨he, ⟨by rw [blk_cell hb1]; rfl, by rw [blk_cell hb1]; rfl, blk_free hb1 0, blk_free hb1 1⟩, hBw, h.below hBw, (blk_set (blk_set hb1 _ _) _ _).trans rfl⟩
  have HFIT := hide hfit
  have k0 := h0.c1
  have k1 := h0.c2
  have k2 := h0.c3
  have y0 : W.cell? ⟨w.heap.size, 0, none⟩ = some (.int .i64 x0) := by rw [blk_cell b0]; rfl
  have y1 : W.cell? ⟨w.heap.size, 1, none⟩ = some (.int .i64 x1) := by rw [blk_cell b0]; rfl
  clear hfit h h0 hB0 b0 hc hv
  go_enter Tryz.func138, Tryz.ntmps138
  go_wp2_with fail
  rw [show w.alloc (.cells #[.int .i64 x0, .int .i64 x1] 31) = W from hW.out]
  clear hW
  go_region_with ((go_at_call 19; refine (unhide HFIT _ (by first | exact Below.refl _ _ | exact (Below.refl _ _).drew | exact below_drewN (Below.refl _ _) _)).mono ?_; rintro e w1 ⟨rfl, ⟨z0, z1, z2, z3⟩, HM⟩))
  all_goals
    clear k0 k1 k2 y0 y1 z0 z1 z2 z3 HFIT
    generalize ((w1.setCell ⟨w.heap.size, 0, none⟩ (.int .i64 (c : Int))).setCell ⟨w.heap.size, 1, none⟩ (.int .i64 (v : Int))) = w2 at HM ⊢
    have hN : p ≠ w.heap.size := by omega
    have hk3 : (k : Int) < 3 := by omega
    have hss : w2.cell? ⟨p, 6, none⟩ = some (.int .i64 R.ticks) ∧ w2.cell? ⟨w.heap.size, 0, none⟩ = some (.int .i64 (c : Int)) ∧ w2.cell? ⟨w.heap.size, 1, none⟩ = some (.int .i64 (v : Int)) := ⟨HM.out.rp.c6, (blk_cell HM.out.bx 0).trans rfl, (blk_cell HM.out.bx 1).trans rfl⟩
    have hth : w2.there p (27 + k * 4) 4 := HM.out.rp.blk.there (by omega)
    have hs2 : (w2.drew.setCells p (27 + k * 4) (smpC ⟨true, R.ticks, c, v⟩)).cell? ⟨p, 6, none⟩ = some (.int .i64 R.ticks) ∧ (w2.drew.setCells p (27 + k * 4) (smpC ⟨true, R.ticks, c, v⟩)).cell? ⟨w.heap.size, 0, none⟩ = some (.int .i64 (c : Int)) ∧ (w2.drew.setCells p (27 + k * 4) (smpC ⟨true, R.ticks, c, v⟩)).cell? ⟨w.heap.size, 1, none⟩ = some (.int .i64 (v : Int)) :=
      ⟨(HM.out.rp.drew.putS hk ⟨true, R.ticks, c, v⟩).c6, (World.cell?_setCells_out p _ _ _ _ (fun e => absurd e.symm hN)).trans hss.2.1, (World.cell?_setCells_out p _ _ _ _ (fun e => absurd e.symm hN)).trans hss.2.2⟩
    have HSS := hide hss
    have HTH := hide hth
    have HS2 := hide hs2
    clear hss hth hs2
    go_wp2_with fail
    refine wp_region_held_drew (S := fun w' => w'.cell? ⟨p, 6, none⟩ = some (.int .i64 R.ticks) ∧ w'.cell? ⟨w.heap.size, 0, none⟩ = some (.int .i64 (c : Int)) ∧ w'.cell? ⟨w.heap.size, 1, none⟩ = some (.int .i64 (v : Int))) (by kernel_rfl) HSS.out (fun hHeld => ?_)
    refine wpAnyH_take (i := 0) (oi := _) (v := .pointer (some ⟨p, 0, none⟩)) rfl (by kernel_rfl) (by kernel_rfl) (by kernel_rfl) (fun _ _ _ h => h) (Or.inl ⟨by rfl, fun w _ => by go_simp⟩) hHeld ?_
    simp only [Act.put, List.getElem_toArray, List.getElem_cons_zero, List.setIfInBounds_toArray, List.set_cons_succ, List.set_cons_zero]
    refine wpAnyH_take (i := 1) (oi := _) (v := .int .i64 (k : Int)) rfl (by kernel_rfl) (by kernel_rfl) (by kernel_rfl) (fun _ _ _ h => h) (Or.inl ⟨by rfl, fun w _ => by go_simp⟩) hHeld ?_
    simp only [Act.put, List.getElem_toArray, List.getElem_cons_succ, List.getElem_cons_zero, List.setIfInBounds_toArray, List.set_cons_succ, List.set_cons_zero]
    refine wpAnyH_take (i := 2) (oi := _) (v := .pointer (some ⟨p, 0, none⟩)) rfl (by kernel_rfl) (by kernel_rfl) (by kernel_rfl) (fun _ _ _ h => h) (Or.inl ⟨by rfl, fun w _ => by go_simp⟩) hHeld ?_
    simp only [Act.put, List.getElem_toArray, List.getElem_cons_succ, List.getElem_cons_zero, List.setIfInBounds_toArray, List.set_cons_succ, List.set_cons_zero]
    refine wpAnyH_take (i := 3) (oi := _) (v := .pointer (some ⟨p, 0, none⟩)) rfl (by kernel_rfl) (by kernel_rfl) (by kernel_rfl) (fun _ _ _ h => h) (Or.inl ⟨by rfl, fun w _ => by go_simp⟩) hHeld ?_
    simp only [Act.put, List.getElem_toArray, List.getElem_cons_succ, List.getElem_cons_zero, List.setIfInBounds_toArray, List.set_cons_succ, List.set_cons_zero]
    refine wpAnyH_take (i := 4) (oi := _) (v := .pointer (some ⟨p, 6, none⟩)) rfl (by kernel_rfl) (by kernel_rfl) (by kernel_rfl) (fun _ _ _ h => h) (Or.inl ⟨by rfl, fun w _ => by go_simp⟩) hHeld ?_
    simp only [Act.put, List.getElem_toArray, List.getElem_cons_succ, List.getElem_cons_zero, List.setIfInBounds_toArray, List.set_cons_succ, List.set_cons_zero]
    refine wpAnyH_take (i := 5) (oi := _) (v := .int .i64 R.ticks) rfl (by kernel_rfl) (by kernel_rfl) (by kernel_rfl) (fun _ _ _ h => h) (Or.inl ⟨by rfl, fun w h => by obtain ⟨h1, h2, h3⟩ := h; go_simp⟩) hHeld ?_
    simp only [Act.put, List.getElem_toArray, List.getElem_cons_succ, List.getElem_cons_zero, List.setIfInBounds_toArray, List.set_cons_succ, List.set_cons_zero]
    refine wpAnyH_take (i := 6) (oi := _) (v := .agg #[.int .i64 (c : Int), .int .i64 (v : Int)]) rfl (by kernel_rfl) (by kernel_rfl) (by kernel_rfl) (fun _ _ _ h => h) (Or.inl ⟨by rfl, fun w h => by obtain ⟨h1, h2, h3⟩ := h; go_simp⟩) hHeld ?_
    simp only [Act.put, List.getElem_toArray, List.getElem_cons_succ, List.getElem_cons_zero, List.setIfInBounds_toArray, List.set_cons_succ, List.set_cons_zero]
    refine wpAnyH_take (i := 7) (oi := _) (v := .agg #[.bool true, .int .i64 R.ticks, .int .i64 (c : Int), .int .i64 (v : Int)]) rfl (by kernel_rfl) (by kernel_rfl) (by kernel_rfl) (fun _ _ _ h => h) (Or.inl ⟨by rfl, fun w _ => by go_simp⟩) hHeld ?_
    simp only [Act.put, List.getElem_toArray, List.getElem_cons_succ, List.getElem_cons_zero, List.setIfInBounds_toArray, List.set_cons_succ, List.set_cons_zero]
    refine wpAnyH_take (i := 8) (oi := _) (v := .pointer (some ⟨p, 0, none⟩)) rfl (by kernel_rfl) (by kernel_rfl) (by kernel_rfl) (fun _ _ _ h => h) (Or.inl ⟨by rfl, fun w _ => by go_simp⟩) hHeld ?_
    simp only [Act.put, List.getElem_toArray, List.getElem_cons_succ, List.getElem_cons_zero, List.setIfInBounds_toArray, List.set_cons_succ, List.set_cons_zero]
    refine wpAnyH_take (i := 9) (oi := _) (v := .pointer (some ⟨p, 27, none⟩)) rfl (by kernel_rfl) (by kernel_rfl) (by kernel_rfl) (fun _ _ _ h => h) (Or.inl ⟨by rfl, fun w _ => by go_simp⟩) hHeld ?_
    simp only [Act.put, List.getElem_toArray, List.getElem_cons_succ, List.getElem_cons_zero, List.setIfInBounds_toArray, List.set_cons_succ, List.set_cons_zero]
    refine wpAnyH_take (i := 10) (oi := _) (v := .pointer (some ⟨p, 27 + k * 4, none⟩)) rfl (by kernel_rfl) (by kernel_rfl) (by kernel_rfl) (fun _ _ _ h => h) (Or.inl ⟨by rfl, fun w _ => by go_simp⟩) hHeld ?_
    simp only [Act.put, List.getElem_toArray, List.getElem_cons_succ, List.getElem_cons_zero, List.setIfInBounds_toArray, List.set_cons_succ, List.set_cons_zero]
    refine wpAnyH_ready (rs := [11]) (by kernel_rfl) (by simp) ?_
    refine AllReadyH.cons (o := _) rfl (fun K hK => ?_) AllReadyH.nil
    rw [if_pos (by rfl)]
    refine wp_store_mid _ _ _ rfl p (27 + k * 4) (smpC ⟨true, R.ticks, c, v⟩).toArray rfl rfl HTH.out (by rw [infoSight]; rfl) (smpOne _) ?_
    refine hK.out _ _ HS2.out (fun hHeld => ?_)
    clear hK K
    refine wpAnyH_done (by kernel_rfl) ?_ _
    simp only [Act.put, List.getElem_toArray, List.getElem_cons_succ, List.getElem_cons_zero]
    clear hHeld
    go_wp2
    go_end0
    exact ⟨rfl, HM.out.rp.drew.putS hk ⟨true, R.ticks, c, v⟩, ((Mod.ofBelow HM.out.old _).drewN 1).sets p _ _ rfl⟩
end Go.Proofs.YtaablbmgagiajabGreatDoor

/- The contracts of a replica's have and forget. -/
namespace Go.Proofs.YtaablbmgagiajabGreatDoor
open Go.RowKit Go.Deep

theorem infoSights : (Tryz.prog.info? 155).map (·.size) = some 12 := by kernel_rfl
theorem index_smp (w : World) (f : Nat → Smp) (k : Nat) (hk : k < 3) :
    (Instr.index 155 (.agg (smpL f).toArray) (.int .i64 (k : Int))).run Tryz.prog w = .ok (.agg #[.bool (f k).there, .int .i64 (f k).came, .int .i64 ((f k).c : Int), .int .i64 ((f k).v : Int)]) w := by
  rcases (by omega : k = 0 ∨ k = 1 ∨ k = 2) with rfl | rfl | rfl <;>
    simp [Instr.index, run_underlying Tryz.underlying155, run_underlying Tryz.underlying154, asIntOf, part, isAgg, smpL, smpC]

/-- How many samples there are. -/
def haveTo (f : Nat → Smp) : Nat → Nat
  | 0 => 0
  | k + 1 => if (f k).there then haveTo f k + 1 else haveTo f k
theorem haveTo_le (f : Nat → Smp) (k : Nat) : haveTo f k ≤ k := by
  induction k with
  | zero => exact Nat.le_refl _
  | succ k ih => unfold haveTo; split <;> omega

set_option maxHeartbeats 1000000 in
set_option maxRecDepth 20000 in
theorem have_any (p : Nat) (C : RC) (R : RS) (w : World) (h : RpIs w p C R) :
    Calls Tryz.prog 139 #[.pointer (some ⟨p, 0, none⟩)] w fun e w' => e = .returned (.int .i64 ((haveTo R.smp 3 : Nat) : Int)) ∧ Below w.heap.size w w' := by
  have hsm := h.samples
  have HSM := hide hsm
  have hpl := h.lt
  clear h hsm
  go_enter Tryz.func139, Tryz.ntmps139
  go_wp2_with (refine wpList_load_mid rfl 155 _ rfl p 27 rfl (smpL R.smp) _ HSM.out Tryz.underlying155 rfl (by rw [infoSights]; rfl) ?_)
  go_loopw [3, 10] (fun l j wr => Below w.heap.size w wr ∧ ∃ k : Nat, k ≤ 3 ∧ j = .int .i64 k ∧ ∃ a : Nat, a ≤ 3 ∧ l = .int .i64 a ∧ Hid (haveTo R.smp k = a)) (fun _ j _ => 3 - (intOf j).toNat)
  case atStart => exact ⟨Below.refl _ _, 0, by omega, rfl, 0, by omega, rfl, rfl⟩
  case round =>
    obtain ⟨hB, k, hk, rfl, a, ha, rfl, HS⟩ := hrel
    have HB := hide hB
    clear hB
    by_cases hk3 : k < 3
    · have hk' : (k : Int) < 3 := by omega
      have hix := fun wx => index_smp wx R.smp k hk3
      cases hb : (R.smp k).there
      · have HN : Hid (haveTo R.smp (k + 1) = a) := hide (by show (if (R.smp k).there then _ else _) = _; rw [hb]; exact HS.out)
        rw [hb] at hix
        go_wp2
        go_roundw
        case rel => exact ⟨HB.out.alloc (HB.out.size) _, k + 1, by omega, by go_num, a, ha, rfl, HN⟩
        case measure => simp [intOf]; omega
      · have HN : Hid (haveTo R.smp (k + 1) = a + 1) := hide (by show (if (R.smp k).there then _ else _) = _; rw [hb]; show haveTo R.smp k + 1 = a + 1; rw [HS.out])
        have ha1 : a + 1 ≤ 3 := by have := haveTo_le R.smp (k + 1); rw [HN.out] at this; omega
        rw [hb] at hix
        go_wp2
        go_roundw
        case rel => exact ⟨HB.out.alloc (HB.out.size) _, k + 1, by omega, by go_num, a + 1, ha1, by go_num, HN⟩
        case measure => simp [intOf]; omega
    · have e3 : k = 3 := by omega
      subst e3
      go_wp2
      go_ret
      exact ⟨by rw [HS.out]; rfl, HB.out⟩

theorem RpIs.drewN {w : World} {p : Nat} {C : RC} {R : RS} (h : RpIs w p C R) (n : Nat) : RpIs (w.drewN n) p C R := h.below (below_drewN (Below.refl _ _) n)
/-- A sample that came too long ago is gone. -/
def fgone (t : Int) (x : Smp) : Smp := if 3 ≤ t - x.came then smp0 else x
def fgTo (t : Int) (f : Nat → Smp) : Nat → Nat → Smp
  | 0 => f
  | k + 1 => upd (fgTo t f k) k (fgone t (f k))
theorem fgTo_at (t : Int) (f : Nat → Smp) (k j : Nat) : fgTo t f k j = if j < k then fgone t (f j) else f j := by
  induction k with
  | zero => rfl
  | succ k ih =>
    unfold fgTo
    by_cases e : j = k
    · subst e; rw [upd_same, if_pos (by omega)]
    · rw [upd_other _ _ e, ih]
      by_cases h : j < k
      · rw [if_pos h, if_pos (by omega)]
      · rw [if_neg h, if_neg (by omega)]
def forgetR (R : RS) : RS := { R with smp := fgTo R.ticks R.smp 3 }
theorem upd_self {α : Type} (f : Nat → α) (k : Nat) (v : α) (h : f k = v) : upd f k v = f := by
  funext j
  unfold upd
  split
  · rename_i e; rw [e, h]
  · rfl

theorem wpList_wipeS {ops : Array Oper} {rest : List Oper} {op : Oper} {a : Act} {w : World} {Q : Exit → Act → World → Prop} (hgd : op.guard = none) (x y : Operand) (ho : op.op = .store 154 x y) (p k : Nat) (hx : a.eval x = .pointer (some ⟨p, 27 + k * 4, none⟩)) (hy : a.eval y = .agg (smpC smp0).toArray) (ht : w.there p (27 + k * 4) 4)
    (h : ∀ w', Hid (w' = w.setCells p (27 + k * 4) (smpC smp0)) → wpList Tryz.prog ops Q rest (a.put op.dst undef) w') : wpList Tryz.prog ops Q (op :: rest) a w :=
  wpList_store_mid hgd 154 x y ho p (27 + k * 4) (smpC smp0).toArray hx hy ht (by rw [infoSight]; rfl) (smpOne _) (h _ rfl)

set_option maxHeartbeats 1000000 in
set_option maxRecDepth 20000 in
theorem forget_any (p : Nat) (C : RC) (R : RS) (w : World) (h : RpIs w p C R) (ht : 0 ≤ R.ticks ∧ R.ticks < 1000000) (hc : ∀ k, k < 3 → 0 ≤ (R.smp k).came ∧ (R.smp k).came < 1000000) :
    Calls Tryz.prog 137 #[.pointer (some ⟨p, 0, none⟩)] w fun e w' => e = .returned (.tuple #[]) ∧ RpIs w' p C (forgetR R) ∧ Mod w w' (· = p) := by
  have hsm := h.samples
  have HSM := hide hsm
  have H0 := hide h
  have hpl := h.lt
  clear h hsm
  go_enter Tryz.func137, Tryz.ntmps137
  go_wp2_with (refine wpList_load_mid rfl 155 _ rfl p 27 rfl (smpL R.smp) _ HSM.out Tryz.underlying155 rfl (by rw [infoSights]; rfl) ?_)
  go_loopw [8] (fun j wr => (RpIs wr p C { R with smp := fgTo R.ticks R.smp ((intOf j).toNat) } ∧ Mod w wr (· = p)) ∧ ∃ k : Nat, k ≤ 3 ∧ j = .int .i64 k) (fun j _ => 3 - (intOf j).toNat)
  case atStart => exact ⟨⟨H0.out, Mod.refl _ _⟩, 0, by omega, rfl⟩
  case round =>
    obtain ⟨⟨hR, hM⟩, k, hk, rfl⟩ := hrel
    have hR' : RpIs wr p C { R with smp := fgTo R.ticks R.smp k } := by simpa [intOf] using hR
    clear hR
    have HM := hide hM
    have HR := hide hR'
    have hpr := hR'.lt
    have c6 : wr.cell? ⟨p, 6, none⟩ = some (.int .i64 R.ticks) := hR'.c6
    clear hM hR'
    by_cases hk3 : k < 3
    · have hk' : (k : Int) < 3 := by omega
      have hix := fun wx => index_smp wx R.smp k hk3
      obtain ⟨c1, c2⟩ := hc k hk3
      have HFG : Hid (fgTo R.ticks R.smp (k + 1) = upd (fgTo R.ticks R.smp k) k (fgone R.ticks (R.smp k))) := hide rfl
      have HAT : Hid (fgTo R.ticks R.smp k k = R.smp k) := hide (by rw [fgTo_at, if_neg (by omega)])
      obtain ⟨⟨tb, tc, sc, sv⟩, hx⟩ : ∃ x, Hid (R.smp k = x) := ⟨_, hide rfl⟩
      rw [hx.out] at hix HFG HAT c1 c2
      dsimp only at hix c1 c2
      obtain ⟨tk, htk⟩ : ∃ t, Hid (R.ticks = t) := ⟨_, hide rfl⟩
      rw [htk.out] at c6 ht
      obtain ⟨m, hm⟩ : ∃ m, Hid (tk - tc = m) := ⟨_, hide rfl⟩
      have ew : IntKind.i64.wrap (tk - tc) = m := (IntWalk.i64_in _ (by omega)).trans hm.out
      have HBA := hide ((Below.refl wr.heap.size wr).alloc (Nat.le_refl _) (.cells #[.bool tb, .int .i64 tc, .int .i64 (sc : Int), .int .i64 (sv : Int)] 154))
      by_cases h3 : 3 ≤ m
      · have hfg : fgone R.ticks ⟨tb, tc, sc, sv⟩ = smp0 := by rw [htk.out]; exact if_pos (by show 3 ≤ tk - tc; rw [hm.out]; exact h3)
        rw [hfg] at HFG
        have HR1 : Hid (∀ n, RpIs ((wr.alloc (.cells #[.bool tb, .int .i64 tc, .int .i64 (sc : Int), .int .i64 (sv : Int)] 154)).drewN n) p C { R with smp := fgTo R.ticks R.smp k }) := hide fun n => (HR.out.below HBA.out).drewN n
        have HM1 : Hid (∀ n, Mod w ((wr.alloc (.cells #[.bool tb, .int .i64 tc, .int .i64 (sc : Int), .int .i64 (sv : Int)] 154)).drewN n) (· = p)) := hide fun n => (HM.out.below HBA.out).drewN n
        clear hfg
        go_wp2_with fail
        go_quiet (fail)
        go_wp2_with (refine wpList_wipeS rfl _ _ rfl p k rfl rfl ((HR1.out _).blk.there (by omega)) ?_)
        intro w3 HW3
        have HR3 : Hid (RpIs w3 p C { R with smp := fgTo R.ticks R.smp (k + 1) }) := hide (by rw [HW3.out, HFG.out]; exact (HR1.out _).putS hk3 smp0)
        have HM3 : Hid (Mod w w3 (· = p)) := hide (by rw [HW3.out]; exact (HM1.out _).sets p _ _ rfl)
        clear HW3 HR1 HM1 HFG HAT
        go_wp2
        go_roundw
        case rel =>
          have e : (intOf (Value.int .i64 ((k : Int) + 1))).toNat = k + 1 := by simp [intOf]
          refine ⟨⟨?_, HM3.out⟩, k + 1, by omega, by go_num⟩
          rw [e]
          exact HR3.out
        case measure => simp [intOf]; omega
      · have hfg : fgone R.ticks ⟨tb, tc, sc, sv⟩ = ⟨tb, tc, sc, sv⟩ := by rw [htk.out]; exact if_neg (by show ¬ 3 ≤ tk - tc; rw [hm.out]; exact h3)
        rw [hfg, upd_self _ _ _ HAT.out] at HFG
        have HR1 : Hid (∀ n, RpIs ((wr.alloc (.cells #[.bool tb, .int .i64 tc, .int .i64 (sc : Int), .int .i64 (sv : Int)] 154)).drewN n) p C { R with smp := fgTo R.ticks R.smp (k + 1) }) := hide fun n => by rw [HFG.out]; exact (HR.out.below HBA.out).drewN n
        have HM1 : Hid (∀ n, Mod w ((wr.alloc (.cells #[.bool tb, .int .i64 tc, .int .i64 (sc : Int), .int .i64 (sv : Int)] 154)).drewN n) (· = p)) := hide fun n => (HM.out.below HBA.out).drewN n
        clear hfg
        go_wp2_with fail
        go_quiet (fail)
        go_wp2
        go_roundw
        case rel =>
          have e : (intOf (Value.int .i64 ((k : Int) + 1))).toNat = k + 1 := by simp [intOf]
          refine ⟨⟨?_, HM1.out _⟩, k + 1, by omega, by go_num⟩
          rw [e]
          exact HR1.out _
        case measure => simp [intOf]; omega
    · have e3 : k = 3 := by omega
      subst e3
      go_wp2
      go_end0
      exact ⟨rfl, HR.out, HM.out⟩
end Go.Proofs.YtaablbmgagiajabGreatDoor

/- The contract of a replica's goTo. -/
namespace Go.Proofs.YtaablbmgagiajabGreatDoor
open Go.RowKit Go.Deep

theorem infoKnowns : (Tryz.prog.info? 158).map (·.size) = some 54 := by kernel_rfl
theorem smpLOne (f : Nat → Smp) : (smpL f).toArray.all (·.oneCell') = true := by simp [smpL, smpC, Value.oneCell']
theorem tlLOne (f : Nat → Nat → Int) : (tlL f).toArray.all (·.oneCell') = true := by simp [tlL, tlC, Value.oneCell']
section
variable {ops : Array Oper} {rest : List Oper} {op : Oper} {a : Act} {w : World} {Q : Exit → Act → World → Prop}
theorem wpList_noSmps (hgd : op.guard = none) (x y : Operand) (ho : op.op = .store 155 x y) (p : Nat) (hx : a.eval x = .pointer (some ⟨p, 27, none⟩)) (hy : a.eval y = .agg (smpL fun _ => smp0).toArray) (ht : w.there p 27 12)
    (h : ∀ w', Hid (w' = w.setCells p 27 (smpL fun _ => smp0)) → wpList Tryz.prog ops Q rest (a.put op.dst undef) w') : wpList Tryz.prog ops Q (op :: rest) a w :=
  wpList_store_mid hgd 155 x y ho p 27 (smpL fun _ => smp0).toArray hx hy ht (by rw [infoSights]; rfl) (smpLOne _) (h _ rfl)
theorem wpList_noTold (hgd : op.guard = none) (x y : Operand) (ho : op.op = .store 158 x y) (p : Nat) (hx : a.eval x = .pointer (some ⟨p, 39, none⟩)) (hy : a.eval y = .agg (tlL fun _ _ => 0).toArray) (ht : w.there p 39 54)
    (h : ∀ w', Hid (w' = w.setCells p 39 (tlL fun _ _ => 0)) → wpList Tryz.prog ops Q rest (a.put op.dst undef) w') : wpList Tryz.prog ops Q (op :: rest) a w :=
  wpList_store_mid hgd 158 x y ho p 39 (tlL fun _ _ => 0).toArray hx hy ht (by rw [infoKnowns]; rfl) (tlLOne _) (h _ rfl)
end

def goR (c : Int) (X : St) (R : RS) : RS := { R with cycle := c, st := X, ticks := 0, smp := fun _ => smp0, told := fun _ _ => 0 }
set_option maxHeartbeats 1000000 in
set_option maxRecDepth 20000 in
theorem goTo_any (p : Nat) (C : RC) (R : RS) (c : Int) (X : St) (w : World) (h : RpIs w p C R) :
    Calls Tryz.prog 196 #[.pointer (some ⟨p, 0, none⟩), .int .i64 c, .agg (stCells X)] w fun e w' => e = .returned (.tuple #[]) ∧ RpIs w' p C (goR c X R) ∧ Mod w w' (· = p) := by
  obtain ⟨W, hW⟩ : ∃ W, Hid (w.alloc (.cells (stCells X) 34) = W) := ⟨_, hide rfl⟩
  have hB0 : Below w.heap.size w W := by rw [← hW.out]; exact (Below.refl _ _).alloc (Nat.le_refl _) _
  have b0 : StIs W w.heap.size X := by rw [← hW.out]; exact blk_new _ _
  have hpl := h.lt
  have hN : p ≠ w.heap.size := by omega
  have h0 := h.below hB0
  have h1 := (h0.cyc c).drew
  have h2 := h1.putSt X
  have h3 := h2.tick 0
  have hm1 : Mod w (W.setCell ⟨p, 5, none⟩ (.int .i64 c)).drew (· = p) := ((Mod.ofBelow hB0 (· = p)).set ⟨p, 5, none⟩ (.int .i64 c) (fun _ => rfl)).drewN 1
  have hm := (hm1.sets p 8 (stCells X).toList rfl).set ⟨p, 6, none⟩ (.int .i64 0) (fun _ => rfl)
  have s0 : W.drew.rangeAt w.heap.size 0 (stCells X).toList := fun j u hj => by rw [Nat.zero_add]; exact (blk_cell b0 j).trans (by simpa using hj)
  have s1 : (W.setCell ⟨p, 5, none⟩ (.int .i64 c)).drew.rangeAt w.heap.size 0 (stCells X).toList := fun j u hj => (World.cell?_of_block (w := W) (Below.heap_setCell _ _ _ _ (fun e => hN e.symm))).trans (s0 j u hj)
  have s2 := World.rangeAt_setCells_apart s1 p 8 (stCells X).toList (.inl (fun e => hN e.symm))
  have s3 : (((W.setCell ⟨p, 5, none⟩ (.int .i64 c)).drew.setCells p 8 (stCells X).toList).setCell ⟨p, 6, none⟩ (.int .i64 0)).rangeAt w.heap.size 0 (stCells X).toList := fun j u hj => (World.cell?_of_block (w := (W.setCell ⟨p, 5, none⟩ (.int .i64 c)).drew.setCells p 8 (stCells X).toList) (Below.heap_setCell _ _ _ _ (fun e => hN e.symm))).trans (s2 j u hj)
  have k5 : W.cell? ⟨p, 5, none⟩ = some (.int .i64 R.cycle) := h0.c5
  have f5 : W.frozen? ⟨p, 5, none⟩ = false := h0.blk.free 5
  have k6 := h2.c6
  have f6 := h2.blk.free 6
  have HTH := hide (h1.blk.there (o := 8) (m := 17) (by omega))
  have H3 := hide h3
  have HM := hide hm
  have S0 := hide s0
  have S1 := hide s1
  have S2 := hide s2
  have S3 := hide s3
  clear h h0 h1 h2 h3 hm hm1 s0 s1 s2 s3 hB0 b0
  go_enter Tryz.func196, Tryz.ntmps196
  go_wp2_with fail
  rw [show w.alloc (.cells (stCells X) 34) = W from hW.out]
  clear hW
  refine wp_region_held_drew (S := fun w' => w'.rangeAt w.heap.size 0 (stCells X).toList) (by kernel_rfl) S0.out (fun hHeld => ?_)
  refine wpAnyH_take (i := 0) (oi := _) (v := .pointer (some ⟨p, 0, none⟩)) rfl (by kernel_rfl) (by kernel_rfl) (by kernel_rfl) (fun _ _ _ h => h) (Or.inl ⟨by rfl, fun w _ => by go_simp⟩) hHeld ?_
  simp only [Act.put, List.getElem_toArray, List.getElem_cons_zero, List.setIfInBounds_toArray, List.set_cons_succ, List.set_cons_zero]
  refine wpAnyH_take (i := 1) (oi := _) (v := .pointer (some ⟨p, 0, none⟩)) rfl (by kernel_rfl) (by kernel_rfl) (by kernel_rfl) (fun _ _ _ h => h) (Or.inl ⟨by rfl, fun w _ => by go_simp⟩) hHeld ?_
  simp only [Act.put, List.getElem_toArray, List.getElem_cons_succ, List.getElem_cons_zero, List.setIfInBounds_toArray, List.set_cons_succ, List.set_cons_zero]
  refine wpAnyH_take (i := 2) (oi := _) (v := .pointer (some ⟨p, 0, none⟩)) rfl (by kernel_rfl) (by kernel_rfl) (by kernel_rfl) (fun _ _ _ h => h) (Or.inl ⟨by rfl, fun w _ => by go_simp⟩) hHeld ?_
  simp only [Act.put, List.getElem_toArray, List.getElem_cons_succ, List.getElem_cons_zero, List.setIfInBounds_toArray, List.set_cons_succ, List.set_cons_zero]
  refine wpAnyH_take (i := 3) (oi := _) (v := .int .i64 c) rfl (by kernel_rfl) (by kernel_rfl) (by kernel_rfl) (fun _ _ _ h => h) (Or.inl ⟨by rfl, fun w _ => by go_simp⟩) hHeld ?_
  simp only [Act.put, List.getElem_toArray, List.getElem_cons_succ, List.getElem_cons_zero, List.setIfInBounds_toArray, List.set_cons_succ, List.set_cons_zero]
  refine wpAnyH_take (i := 4) (oi := _) (v := _) rfl (by kernel_rfl) (by kernel_rfl) (by kernel_rfl) (fun _ _ _ h => h) (yieldsIf_load_mid (by rfl) 34 _ rfl w.heap.size 0 rfl (stCells X).toList _ (fun w h => h) Tryz.underlying34 rfl (by rw [stateInfo]; rfl)) hHeld ?_
  simp only [Act.put, List.getElem_toArray, List.getElem_cons_succ, List.getElem_cons_zero, List.setIfInBounds_toArray, List.set_cons_succ, List.set_cons_zero]
  refine wpAnyH_take (i := 5) (oi := _) (v := .pointer (some ⟨p, 0, none⟩)) rfl (by kernel_rfl) (by kernel_rfl) (by kernel_rfl) (fun _ _ _ h => h) (Or.inl ⟨by rfl, fun w _ => by go_simp⟩) hHeld ?_
  simp only [Act.put, List.getElem_toArray, List.getElem_cons_succ, List.getElem_cons_zero, List.setIfInBounds_toArray, List.set_cons_succ, List.set_cons_zero]
  refine wpAnyH_take (i := 6) (oi := _) (v := .pointer (some ⟨p, 5, none⟩)) rfl (by kernel_rfl) (by kernel_rfl) (by kernel_rfl) (fun _ _ _ h => h) (Or.inl ⟨by rfl, fun w _ => by go_simp⟩) hHeld ?_
  simp only [Act.put, List.getElem_toArray, List.getElem_cons_succ, List.getElem_cons_zero, List.setIfInBounds_toArray, List.set_cons_succ, List.set_cons_zero]
  refine wpAnyH_ready (rs := [7]) (by kernel_rfl) (by simp) ?_
  refine AllReadyH.cons (o := _) rfl (fun K hK => ?_) AllReadyH.nil
  rw [if_pos (by rfl)]
  go_simp
  refine hK.out _ _ S1.out (fun hHeld => ?_)
  clear hK K
  refine wpAnyH_take (i := 8) (oi := _) (v := .pointer (some ⟨p, 0, none⟩)) rfl (by kernel_rfl) (by kernel_rfl) (by kernel_rfl) (fun _ _ _ h => h) (Or.inl ⟨by rfl, fun w _ => by go_simp⟩) hHeld ?_
  simp only [Act.put, List.getElem_toArray, List.getElem_cons_succ, List.getElem_cons_zero, List.setIfInBounds_toArray, List.set_cons_succ, List.set_cons_zero]
  refine wpAnyH_take (i := 9) (oi := _) (v := .pointer (some ⟨p, 8, none⟩)) rfl (by kernel_rfl) (by kernel_rfl) (by kernel_rfl) (fun _ _ _ h => h) (Or.inl ⟨by rfl, fun w _ => by go_simp⟩) hHeld ?_
  simp only [Act.put, List.getElem_toArray, List.getElem_cons_succ, List.getElem_cons_zero, List.setIfInBounds_toArray, List.set_cons_succ, List.set_cons_zero]
  refine wpAnyH_ready (rs := [10]) (by kernel_rfl) (by simp) ?_
  refine AllReadyH.cons (o := _) rfl (fun K hK => ?_) AllReadyH.nil
  rw [if_pos (by rfl)]
  refine wp_store_mid _ _ _ rfl p 8 (stCells X) rfl rfl HTH.out (by rw [stateInfo]; rfl) (oneCells X) ?_
  refine hK.out _ _ S2.out (fun hHeld => ?_)
  clear hK K
  generalize (W.setCell ⟨p, 5, none⟩ (.int .i64 c)).drew.setCells p 8 (stCells X).toList = w2 at S2 k6 f6 S3 H3 HM hHeld ⊢
  refine wpAnyH_take (i := 11) (oi := _) (v := .pointer (some ⟨p, 0, none⟩)) rfl (by kernel_rfl) (by kernel_rfl) (by kernel_rfl) (fun _ _ _ h => h) (Or.inl ⟨by rfl, fun w _ => by go_simp⟩) hHeld ?_
  simp only [Act.put, List.getElem_toArray, List.getElem_cons_succ, List.getElem_cons_zero, List.setIfInBounds_toArray, List.set_cons_succ, List.set_cons_zero]
  refine wpAnyH_take (i := 12) (oi := _) (v := .pointer (some ⟨p, 6, none⟩)) rfl (by kernel_rfl) (by kernel_rfl) (by kernel_rfl) (fun _ _ _ h => h) (Or.inl ⟨by rfl, fun w _ => by go_simp⟩) hHeld ?_
  simp only [Act.put, List.getElem_toArray, List.getElem_cons_succ, List.getElem_cons_zero, List.setIfInBounds_toArray, List.set_cons_succ, List.set_cons_zero]
  refine wpAnyH_ready (rs := [13]) (by kernel_rfl) (by simp) ?_
  refine AllReadyH.cons (o := _) rfl (fun K hK => ?_) AllReadyH.nil
  rw [if_pos (by rfl)]
  go_simp
  refine hK.out _ _ S3.out (fun hHeld => ?_)
  clear hK K
  refine wpAnyH_done (by kernel_rfl) ?_ _
  clear hHeld k5 f5 k6 f6 S0 S1 S2 S3 HTH
  generalize w2.setCell ⟨p, 6, none⟩ (.int .i64 0) = w3 at H3 HM ⊢
  go_wp2_with (refine wpList_noSmps rfl _ _ rfl p rfl rfl (H3.out.blk.there (by omega)) ?_)
  intro w4 HW4
  have H4 : Hid (RpIs w4 p C { R with cycle := c, st := X, ticks := 0, smp := fun _ => smp0 }) := hide (by rw [HW4.out]; exact H3.out.wipeS)
  have HM4 : Hid (Mod w w4 (· = p)) := hide (by rw [HW4.out]; exact HM.out.sets p _ _ rfl)
  clear HW4 H3 HM
  go_wp2_with (refine wpList_noTold rfl _ _ rfl p rfl rfl (H4.out.blk.there (by omega)) ?_)
  intro w5 HW5
  have H5 : Hid (RpIs w5 p C (goR c X R)) := hide (by rw [HW5.out]; exact H4.out.wipeT)
  have HM5 : Hid (Mod w w5 (· = p)) := hide (by rw [HW5.out]; exact HM4.out.sets p _ _ rfl)
  clear HW5 H4 HM4
  go_wp2
  go_end0
  exact ⟨rfl, H5.out, HM5.out⟩
end Go.Proofs.YtaablbmgagiajabGreatDoor
