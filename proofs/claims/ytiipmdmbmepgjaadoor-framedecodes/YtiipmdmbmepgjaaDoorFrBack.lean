/- What a frame's bytes are is that frame again; no beginning of them is one; a burst is seen: of the functions. -/
import Derived.Test.YtiipmdmbmepgjaaDoorFrDec
import Derived.Test.YtiipmdmbmepgjaaDoorFrCrc
namespace Go.Proofs.YtiipmdmbmepgjaaDoor

theorem bytesN_at : ∀ (l : List Int) (i j : Nat), i < l.length → j < 3 → (bytesN l)[3 * i + j]?.getD 0 = (b3 (l[i]?.getD 0).toNat)[j]?.getD 0
  | [], i, _, h, _ => by simp at h
  | x :: l, i, j, h, hj => by
    show (b3 x.toNat ++ bytesN l)[3 * i + j]?.getD 0 = _
    have e : (b3 x.toNat).length = 3 := rfl
    cases i with
    | zero => rw [List.getElem?_append_left (by rw [e]; omega), Nat.mul_zero, Nat.zero_add]; rfl
    | succ i =>
      rw [List.getElem?_append_right (by rw [e]; omega), e, show 3 * (i + 1) + j - 3 = 3 * i + j by omega, List.getElem?_cons_succ]
      exact bytesN_at l i j (by simpa using h) hj
theorem read_bytes (l : List Int) (h : ∀ x ∈ l, 0 ≤ x ∧ x < 16777216) : readF (bytesN l) = l := by
  unfold readF
  rw [bytesN_length, show 3 * l.length / 3 = l.length by omega]
  apply List.ext_getElem?
  intro i
  by_cases hi : i < l.length
  · have hx := h _ (List.getElem_mem hi)
    rw [List.getElem?_eq_getElem hi]
    unfold readN
    rw [List.getElem?_map, List.getElem?_range hi]
    simp only [Option.map_some, Option.some.injEq]
    unfold num3
    have e0 := bytesN_at l i 0 hi (by omega)
    have e1 := bytesN_at l i 1 hi (by omega)
    have e2 := bytesN_at l i 2 hi (by omega)
    rw [Nat.add_zero] at e0
    rw [e0, e1, e2, List.getElem?_eq_getElem hi]
    show ((l[i].toNat / 65536 % 256 * 65536 + l[i].toNat / 256 % 256 * 256 + l[i].toNat % 256 : Nat) : Int) = l[i]
    omega
  · rw [List.getElem?_eq_none (by rw [readN_length]; omega), List.getElem?_eq_none (by omega)]
theorem told_with (t : List Nat) : toldN (withSum t) = t := by
  unfold toldN
  rw [withSum_length, Nat.add_sub_cancel]
  unfold withSum
  simp
theorem last_with (t : List Nat) : lastN (withSum t) = b4 (crc t).toNat := by
  unfold lastN
  rw [withSum_length, Nat.add_sub_cancel]
  unfold withSum
  simp

theorem stNums_congr {F G : FR} (h : ∀ k, k < 23 → F k = G k) : ∀ n, n ≤ 8 → stNums F n = stNums G n
  | 0, _ => rfl
  | n + 1, hn => by unfold stNums; rw [stNums_congr h n (by omega), h (7 + n) (by omega), h (15 + n) (by omega)]
theorem nums_congr {F G : FR} (h : ∀ k, k < 23 → F k = G k) : numsF F = numsF G := by
  unfold numsF
  rw [h 0 (by omega), h 1 (by omega), h 2 (by omega), h 3 (by omega), h 4 (by omega), h 5 (by omega), h 6 (by omega), stNums_congr h 8 (by omega)]
theorem may_congr {F G : FR} (h : ∀ k, k < 23 → F k = G k) : mayB F = mayB G := by
  have he : eqB F (framedF (numsF G)) = eqB G (framedF (numsF G)) := by
    rw [Bool.eq_iff_iff, eqB_iff, eqB_iff]
    exact ⟨fun q k hk => by rw [← h k hk]; exact q k hk, fun q k hk => by rw [h k hk]; exact q k hk⟩
  unfold mayB headB
  rw [nums_congr h, he, h 0 (by omega), h 1 (by omega)]
theorem enc_congr {F G : FR} (h : ∀ k, k < 23 → F k = G k) : encF F = encF G := by unfold encF; rw [nums_congr h]

theorem may_parts {F : FR} (h : mayB F = true) : headB F = true ∧ (∀ x ∈ numsF F, 0 ≤ x ∧ x ≤ 1048576) ∧ ∀ k, k < 23 → F k = framedF (numsF F) k := by
  unfold mayB at h
  simp only [Bool.and_eq_true, List.all_eq_true] at h
  refine ⟨h.1, fun x hx => ?_, (eqB_iff _ _).1 h.2.2⟩
  have := h.2.1 x hx
  unfold fitsB at this
  simpa using this
theorem enc_len (F : FR) : 13 ≤ (encF F).length ∧ (encF F).length ≤ 64 := by
  have := nums_length_le F
  have := nums_length_ge F
  rw [encF_length]
  omega
/-- There and back. -/
theorem dec_enc {F : FR} (h : mayB F = true) : ∃ G, decF (encF F) = (0, G) ∧ ∀ k, k < 23 → G k = F k := by
  obtain ⟨_, h2, h3⟩ := may_parts h
  have hl := enc_len F
  have ht : toldN (encF F) = bytesN (numsF F) := told_with _
  have hr : readF (toldN (encF F)) = numsF F := by rw [ht]; exact read_bytes _ fun x hx => by have := h2 x hx; omega
  refine ⟨framedF (numsF F), ?_, fun k hk => (h3 k hk).symm⟩
  have hc : ∀ k, k < 23 → framedF (numsF F) k = F k := fun k hk => (h3 k hk).symm
  have hs : b4 (crc (toldN (encF F))).toNat = lastN (encF F) := by rw [ht]; exact (last_with _).symm
  have := dec_ok (l := encF F) (by omega) (by omega) hs (by rw [hr]; exact ⟨(may_congr hc).trans h, enc_congr hc⟩)
  rw [this, hr]

theorem dec_cases (l : List Nat) : ((decF l).1 ≠ 0 ∧ (decF l).2 = fr0) ∨ ((decF l).1 = 0 ∧ mayB (decF l).2 = true ∧ encF (decF l).2 = l ∧ 7 ≤ l.length) := by
  by_cases h : l.length < 7 ∨ 80 < l.length
  · left; rw [dec_form h]; exact ⟨by simp, rfl⟩
  · by_cases hs : b4 (crc (toldN l)).toNat = lastN l
    · by_cases hn : mayB (framedF (readF (toldN l))) = true ∧ encF (framedF (readF (toldN l))) = l
      · right; rw [dec_ok (by omega) (by omega) hs hn]; exact ⟨rfl, hn.1, hn.2, by omega⟩
      · left; rw [dec_not (by omega) (by omega) hs hn]; exact ⟨by simp, rfl⟩
    · left; rw [dec_spoilt (by omega) (by omega) hs]; exact ⟨by simp, rfl⟩

theorem nums_head (F : FR) : ∃ r, numsF F = F 0 :: r := by
  unfold numsF
  split
  · exact ⟨_, rfl⟩
  · split
    · exact ⟨_, rfl⟩
    · split
      · exact ⟨_, rfl⟩
      · exact ⟨_, rfl⟩
theorem enc_third (F : FR) : (encF F)[2]? = some ((F 0).toNat % 256) := by
  obtain ⟨r, hr⟩ := nums_head F
  unfold encF withSum
  rw [hr]
  rfl
theorem nums_len_head {F G : FR} (h : F 0 = G 0) : (numsF F).length = (numsF G).length := by
  unfold numsF
  rw [h]
  split
  · rfl
  · split
    · rfl
    · split
      · rw [List.length_append, List.length_append, stNums_length, stNums_length]; rfl
      · rfl
theorem head_bounds {F : FR} (h : mayB F = true) : 1 ≤ F 0 ∧ F 0 ≤ 5 := by
  have := (may_parts h).1
  unfold headB at this
  simp only [Bool.and_eq_true, decide_eq_true_eq] at this
  exact this.1
/-- No beginning is a frame. -/
theorem dec_prefix {F : FR} (h : mayB F = true) {k : Nat} (hk : k < (encF F).length) : (decF ((encF F).take k)).1 ≠ 0 ∧ (decF ((encF F).take k)).2 = fr0 := by
  rcases dec_cases ((encF F).take k) with q | ⟨_, q1, q2, q3⟩
  · exact q
  · exfalso
    have hlen : ((encF F).take k).length = k := by rw [List.length_take]; omega
    rw [hlen] at q3
    generalize (decF ((encF F).take k)).2 = f at q1 q2
    have e1 := enc_third f
    rw [q2, List.getElem?_take, if_pos (by omega), enc_third F] at e1
    have b1 := head_bounds h
    have b2 := head_bounds q1
    have e2 : f 0 = F 0 := by
      have : (F 0).toNat % 256 = (f 0).toNat % 256 := by simpa using e1
      omega
    have e3 := congrArg List.length q2
    rw [hlen, encF_length, nums_len_head e2, ← encF_length] at e3
    omega
/-- A burst is seen. -/
theorem dec_burst (F : FR) (m : List Nat) (a : Nat) (hm : ∀ c ∈ m, c < 256) (hlen : m.length = (encF F).length)
    (hout : ∀ j, j < 8 * m.length → (j < a ∨ a + 32 ≤ j) → bitAt m j = bitAt (encF F) j) (hsome : ∃ j, j < 8 * m.length ∧ bitAt m j ≠ bitAt (encF F) j) : (decF m).1 ≠ 0 ∧ (decF m).2 = fr0 := by
  rcases dec_cases m with q | ⟨_, _, q2, _⟩
  · exact q
  · exfalso
    have h1 : crcFrom 4294967295#32 m = 0#32 := by rw [← q2]; exact crc_withSum _
    have h2 : crcFrom 4294967295#32 (encF F) = 0#32 := crc_withSum _
    exact burst m (encF F) _ a hm (encF_lt F) hlen hout hsome h1 h2

/-! ### A bit is another one -/
def flipB (l : List Nat) (j : Nat) : List Nat := l.set (j / 8) ((l[j / 8]?.getD 0) ^^^ 2 ^ (7 - j % 8))
theorem flipB_length (l : List Nat) (j : Nat) : (flipB l j).length = l.length := by simp [flipB]
theorem flipB_lt {l : List Nat} (j : Nat) (h : ∀ c ∈ l, c < 256) : ∀ c ∈ flipB l j, c < 256 := by
  intro c hc
  rcases List.mem_or_eq_of_mem_set hc with q | q
  · exact h c q
  · subst q
    have h1 : l[j / 8]?.getD 0 < 2 ^ 8 := by
      by_cases hj : j / 8 < l.length
      · rw [List.getElem?_eq_getElem hj]; exact h _ (List.getElem_mem hj)
      · rw [List.getElem?_eq_none (by omega)]; simp
    exact Nat.xor_lt_two_pow h1 (Nat.pow_lt_pow_right (by decide) (by omega))
theorem bitAt_flip (l : List Nat) (j k : Nat) (hj : j < 8 * l.length) : bitAt (flipB l j) k = (bitAt l k ^^ decide (k = j)) := by
  unfold bitAt flipB
  by_cases h : k / 8 = j / 8
  · rw [h, List.getElem?_set_self (by omega)]
    simp only [Option.getD_some]
    rw [Nat.testBit_xor, Nat.testBit_two_pow]
    congr 1
    rw [Bool.eq_iff_iff, decide_eq_true_iff, decide_eq_true_iff]
    omega
  · rw [List.getElem?_set_ne (fun e => h e.symm), decide_eq_false (fun e => h (by rw [e])), Bool.xor_false]
end Go.Proofs.YtiipmdmbmepgjaaDoor
