/- What bytes are, as the document's answer tells it, is what the code's tells. -/
import Derived.Test.YtiipmdmbmepgjaaDoorRfMay
import Derived.Test.YtiipmdmbmepgjaaDoorFrBack
namespace Go.Proofs.YtiipmdmbmepgjaaDoor

/-- Four bytes as a number. -/
def wordTo (s : List Nat) : Nat → Nat
  | 0 => 0
  | i + 1 => wordTo s i * 256 + s[i]?.getD 0
theorem getD_lt {s : List Nat} (h : ∀ c ∈ s, c < 256) (i : Nat) : s[i]?.getD 0 < 256 := by
  by_cases hi : i < s.length
  · rw [List.getElem?_eq_getElem hi]; exact h _ (List.getElem_mem hi)
  · rw [List.getElem?_eq_none (by omega)]; decide
theorem wordTo_lt {s : List Nat} (h : ∀ c ∈ s, c < 256) : ∀ i, wordTo s i < 256 ^ i
  | 0 => by show 0 < 1; decide
  | i + 1 => by
    have := wordTo_lt h i
    have := getD_lt h i
    rw [wordTo, Nat.pow_succ]
    omega
theorem b4_word (x : Nat) (s : List Nat) (hx : x < 4294967296) (hl : s.length = 4) (h : ∀ c ∈ s, c < 256) : b4 x = s ↔ x = wordTo s 4 := by
  match s, hl with
  | [s0, s1, s2, s3], _ =>
    have h0 := h s0 (by simp)
    have h1 := h s1 (by simp)
    have h2 := h s2 (by simp)
    have h3 := h s3 (by simp)
    show [x / 16777216 % 256, x / 65536 % 256, x / 256 % 256, x % 256] = [s0, s1, s2, s3] ↔ x = (((0 * 256 + s0) * 256 + s1) * 256 + s2) * 256 + s3
    simp only [List.cons.injEq, and_true]
    omega

/-- The document's answer. -/
def refDecF (l : List Nat) : Nat × FR :=
  if l.length < 7 ∨ 80 < l.length then (3, fr0)
  else if (crc (toldN l)).toNat = wordTo (lastN l) 4 then
    (if (l.length - 4) % 3 = 0 then
      (if (okLen (readF (toldN l)) && mayB (madeF (readF (toldN l)))) = true then (0, madeF (readF (toldN l))) else (3, fr0))
    else (3, fr0))
  else (15, fr0)

theorem nums_framed {l : List Int} (h : okLen l = true) : numsF (framedF l) = l := by
  unfold okLen at h
  simp only [Bool.or_eq_true, Bool.and_eq_true, decide_eq_true_eq] at h
  rcases h with ⟨h0, hl⟩ | ⟨h0, hl⟩ | ⟨h0, hl⟩ | ⟨h0, hl⟩
  · match l, hl with
    | [a0, a1, a2, a3, a4], _ =>
      have h0' : a0 = 1 := h0
      subst h0'
      rfl
  · match l, hl with
    | [a0, a1, a2, a3, a4, a5], _ =>
      have h0' : a0 = 2 ∨ a0 = 3 := h0
      rcases h0' with rfl | rfl <;> rfl
  · match l, hl with
    | [a0, a1, a2], _ =>
      have h0' : a0 = 4 := h0
      subst h0'
      rfl
  · match l, hl with
    | [a0, a1, a2, a3, a4, a5, a6, a7, a8, a9, a10, a11, a12, a13, a14, a15, a16, a17, a18, a19], _ =>
      have h0' : a0 = 5 := h0
      subst h0'
      rfl

theorem told_len {l : List Nat} (h : 7 ≤ l.length) : (toldN l).length = l.length - 4 := by unfold toldN; rw [List.length_take]; omega
theorem told_last {l : List Nat} : toldN l ++ lastN l = l := List.take_append_drop _ _
theorem bytes_read {t : List Nat} (h3 : t.length % 3 = 0) (h : ∀ c ∈ t, c < 256) : bytesN (readF t) = t := by
  have hl : (readF t).length = t.length / 3 := readN_length _ _
  apply List.ext_getElem?
  intro i
  by_cases hi : i < t.length
  · have hq : i / 3 < t.length / 3 := by omega
    have e : 3 * (i / 3) + i % 3 = i := by omega
    have h1 := bytesN_at (readF t) (i / 3) (i % 3) (by rw [hl]; exact hq) (by omega)
    rw [e] at h1
    have hb : i < (bytesN (readF t)).length := by rw [bytesN_length, hl]; omega
    rw [List.getElem?_eq_getElem hi, List.getElem?_eq_getElem hb]
    rw [List.getElem?_eq_getElem hb] at h1
    have hn : ((readF t)[i / 3]?.getD 0).toNat = num3 t (i / 3) := by
      unfold readF readN
      rw [List.getElem?_map, List.getElem?_range hq]
      simp
    rw [hn] at h1
    have c0 := getD_lt h (3 * (i / 3))
    have c1 := getD_lt h (3 * (i / 3) + 1)
    have c2 := getD_lt h (3 * (i / 3) + 2)
    have hti : t[i]?.getD 0 = t[i] := by rw [List.getElem?_eq_getElem hi]; rfl
    congr 1
    rw [← hti]
    rcases (by omega : i % 3 = 0 ∨ i % 3 = 1 ∨ i % 3 = 2) with q | q | q
    · rw [q] at h1 e
      rw [Nat.add_zero] at e
      rw [show t[i]?.getD 0 = t[3 * (i / 3)]?.getD 0 by rw [e]]
      refine h1.trans ?_
      show num3 t (i / 3) / 65536 % 256 = _
      unfold num3
      omega
    · rw [q] at h1 e
      rw [show t[i]?.getD 0 = t[3 * (i / 3) + 1]?.getD 0 by rw [e]]
      refine h1.trans ?_
      show num3 t (i / 3) / 256 % 256 = _
      unfold num3
      omega
    · rw [q] at h1 e
      rw [show t[i]?.getD 0 = t[3 * (i / 3) + 2]?.getD 0 by rw [e]]
      refine h1.trans ?_
      show num3 t (i / 3) % 256 = _
      unfold num3
      omega
  · rw [List.getElem?_eq_none (by rw [bytesN_length, hl]; omega), List.getElem?_eq_none (by omega)]

/-- Both answers are one. -/
theorem refDec_eq (l : List Nat) (hb : ∀ c ∈ l, c < 256) : refDecF l = decF l := by
  unfold refDecF decF
  by_cases hf : l.length < 7 ∨ 80 < l.length
  · rw [if_pos hf, if_pos hf]
  · rw [if_neg hf, if_neg hf]
    have ht := told_len (l := l) (by omega)
    have hlt : ∀ c ∈ toldN l, c < 256 := fun c hc => hb c (List.mem_of_mem_take hc)
    have hll : ∀ c ∈ lastN l, c < 256 := fun c hc => hb c (List.mem_of_mem_drop hc)
    have hw := b4_word (crc (toldN l)).toNat (lastN l) (crc (toldN l)).isLt (by unfold lastN; rw [List.length_drop]; omega) hll
    by_cases hs : b4 (crc (toldN l)).toNat = lastN l
    · rw [if_pos hs, if_pos (hw.1 hs)]
      by_cases hm : mayB (framedF (readF (toldN l))) = true ∧ encF (framedF (readF (toldN l))) = l
      · rw [if_pos hm]
        obtain ⟨hm1, hm2⟩ := hm
        have hbt : bytesN (numsF (framedF (readF (toldN l)))) = toldN l := by
          have := congrArg toldN hm2
          rw [show toldN (encF (framedF (readF (toldN l)))) = bytesN (numsF (framedF (readF (toldN l)))) from told_with _] at this
          exact this
        have h3 : (l.length - 4) % 3 = 0 := by
          have := congrArg List.length hbt
          rw [bytesN_length, ht] at this
          omega
        obtain ⟨q1, q2, _⟩ := may_parts hm1
        have hr : readF (toldN l) = numsF (framedF (readF (toldN l))) := by
          conv => lhs; rw [← hbt]
          exact read_bytes _ fun x hx => by have := q2 x hx; omega
        have hok : okLen (readF (toldN l)) = true := by
          rw [hr]
          exact nums_ok q1
        rw [if_pos h3, made_yes hok, hok, hm1]
        rfl
      · rw [if_neg hm]
        by_cases h3 : (l.length - 4) % 3 = 0
        · rw [if_pos h3]
          by_cases hok : okLen (readF (toldN l)) = true
          · rw [made_yes hok, hok, Bool.true_and]
            rw [if_neg]
            intro hmay
            refine hm ⟨hmay, ?_⟩
            unfold encF withSum
            rw [nums_framed hok, bytes_read (by rw [ht]; exact h3) hlt, hs]
            exact told_last
          · rw [if_neg]
            intro h
            rw [Bool.and_eq_true] at h
            exact hok h.1
        · rw [if_neg h3]
    · rw [if_neg hs, if_neg (fun h => hs (hw.2 h))]
end Go.Proofs.YtiipmdmbmepgjaaDoor
