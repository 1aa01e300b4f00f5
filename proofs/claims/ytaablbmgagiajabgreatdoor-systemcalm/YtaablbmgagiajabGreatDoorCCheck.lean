import Derived.Test.YtaablbmgagiajabGreatDoorCLeaf
namespace Go.Proofs.YtaablbmgagiajabGreatDoor
open Go.RowKit
def firstTo (p : Nat → Bool) : Nat → Option Nat
  | 0 => none
  | k + 1 => match firstTo p k with
    | some i => some i
    | none => if p k then some k else none
theorem first_none {p : Nat → Bool} {k : Nat} (h : firstTo p k = none) (hp : p k = false) : firstTo p (k + 1) = none := by simp [firstTo, h, hp]
theorem first_at {p : Nat → Bool} {k n : Nat} (h : firstTo p k = none) (hp : p k = true) (hn : k < n) : firstTo p n = some k := by
  induction n with
  | zero => omega
  | succ n ih =>
    by_cases e : k = n
    · subst e; simp [firstTo, h, hp]
    · simp [firstTo, ih (by omega)]
def badAt (s : Int) (zs : List Int) (k : Nat) : Bool := !inB (zs[k]?.getD 0) 1 (top s)
def twiceAt (zs : List Int) (k : Nat) : Bool := decide (zs[k]?.getD 0 ∈ zs.take k)
def rangeB (s n d : Int) : Bool := inB s 1 12 && inB n 1 8 && inB d 0 20
def checkF (s : Int) (zs : List Int) (d : Int) : Nat × Int :=
  if rangeB s zs.length d then
    match firstTo (badAt s zs) zs.length with
    | some i => (1, i)
    | none => match firstTo (twiceAt zs) zs.length with
      | some i => (9, i)
      | none => (0, -1)
  else (2, -1)
def IsErr (w' : World) (lo : Nat) (f : Nat × Int) (v : Value) : Prop :=
  (f = (0, -1) ∧ v = .nilIface) ∨ (f.1 ≠ 0 ∧ f.2 = -1 ∧ v = .iface 74 (.int .i64 f.1)) ∨
  (f.1 ≠ 0 ∧ 0 ≤ f.2 ∧ ∃ nb, lo ≤ nb ∧ nb < w'.heap.size ∧ v = .iface 161 (.pointer (some ⟨nb, 0, none⟩)) ∧ w'.cell? ⟨nb, 0, none⟩ = some (.int .i64 f.1) ∧ w'.cell? ⟨nb, 1, none⟩ = some (.int .i64 f.2))
theorem contains_n (b off cap n : Nat) (zs : List Int) (x : Int) (w : World) (hn : zs.length = n) (hl : zs.length ≤ 100) (hc : Row w b off zs) :
    Calls Tryz.prog 90 #[.slice (some ⟨b, off, none⟩) n cap, .int .i64 x] w fun e w' => e = .returned (.bool (decide (x ∈ zs))) ∧ w' = w := by
  subst hn; exact contains_any b off cap zs x w hl hc
theorem Row.take {w : World} {b off : Nat} {zs : List Int} (h : Row w b off zs) (k : Nat) : Row w b off (zs.take k) := by
  intro i hi
  have h1 : i < zs.length := by simp at hi; omega
  have h2 : i < k := by simp at hi; omega
  rw [h i h1]
  simp [h2]
set_option maxHeartbeats 400000 in
theorem check_range (s d : Int) (a : Option Addr) (len cap : Nat) (w : World) (h : rangeB s len d = false) :
    Calls Tryz.prog 51 #[.agg #[.int .i64 s, .slice a len cap, .int .i64 d]] w fun e w' => e = .returned (.iface 74 (.int .i64 2)) ∧ Below w.heap.size w w' := by
  unfold rangeB at h
  cases h1 : inB s 1 12
  · go_enter Tryz.func51, Tryz.ntmps51
    go_wp2_with (go_at_call 89; refine (within_any _ _ _ _).mono ?_; rintro e w' ⟨rfl, rfl⟩)
    go_ret
    exact ⟨rfl, (Below.refl _ _).alloc (Nat.le_refl _) _⟩
  · cases h2 : inB (len : Int) 1 8
    · clear h
      go_enter Tryz.func51, Tryz.ntmps51
      go_wp2_with (go_at_call 89; refine (within_any _ _ _ _).mono ?_; rintro e w' ⟨rfl, rfl⟩)
      go_ret
      exact ⟨rfl, (Below.refl _ _).alloc (Nat.le_refl _) _⟩
    · have h3 : inB d 0 20 = false := by simpa [h1, h2] using h
      clear h
      go_enter Tryz.func51, Tryz.ntmps51
      go_wp2_with (go_at_call 89; refine (within_any _ _ _ _).mono ?_; rintro e w' ⟨rfl, rfl⟩)
      go_ret
      exact ⟨rfl, (Below.refl _ _).alloc (Nat.le_refl _) _⟩
theorem inB_iff (n a b : Int) : inB n a b = true ↔ a ≤ n ∧ n ≤ b := by simp [inB]
theorem isErr_at {w' : World} {lo nb : Nat} {c : Nat} {i : Nat} (hc : c ≠ 0) (h1 : lo ≤ nb) (h2 : nb < w'.heap.size) (h3 : w'.cell? ⟨nb, 0, none⟩ = some (.int .i64 c)) (h4 : w'.cell? ⟨nb, 1, none⟩ = some (.int .i64 i)) :
    IsErr w' lo (c, (i : Int)) (.iface 161 (.pointer (some ⟨nb, 0, none⟩))) := .inr (.inr ⟨hc, by simp, nb, h1, h2, rfl, h3, h4⟩)
set_option maxHeartbeats 1000000 in
theorem check_main (s d : Int) (b off cap : Nat) (zs : List Int) (w : World) (hr : rangeB s zs.length d = true) (hb : b < w.heap.size) (hc : Row w b off zs) (hcap : zs.length ≤ cap) :
    Calls Tryz.prog 51 #[.agg #[.int .i64 s, .slice (some ⟨b, off, none⟩) zs.length cap, .int .i64 d]] w fun e w' => (∃ v, e = .returned v ∧ IsErr w' w.heap.size (checkF s zs d) v) ∧ Below w.heap.size w w' := by
  have hr0 := hr
  unfold rangeB at hr
  simp only [Bool.and_eq_true] at hr
  obtain ⟨⟨h1, h2⟩, h3⟩ := hr
  have b1 := (inB_iff _ _ _).1 h1
  have b2 := (inB_iff _ _ _).1 h2
  obtain ⟨b11, b12⟩ := b1
  obtain ⟨b21, b22⟩ := b2
  have HR := hide hr0
  clear hr0
  have hcf : checkF s zs d = match firstTo (badAt s zs) zs.length with
    | some i => (1, (i : Int))
    | none => match firstTo (twiceAt zs) zs.length with
      | some i => (9, (i : Int))
      | none => (0, -1) := by unfold checkF; rw [if_pos HR.out]
  have HCF := hide hcf
  clear hcf
  go_enter Tryz.func51, Tryz.ntmps51
  go_wp2_with (go_at_call 89; refine (within_any _ _ _ _).mono ?_; rintro e w' ⟨rfl, rfl⟩)
  go_loop [28] (fun i => ∃ k : Nat, k ≤ zs.length ∧ i = .int .i64 k ∧ firstTo (badAt s zs) k = none) (fun i => zs.length - (intOf i).toNat)
  case atStart => exact ⟨0, Nat.zero_le _, rfl, rfl⟩
  case round =>
    obtain ⟨k, hk, rfl, hf⟩ := hrel
    have HF := hide hf
    clear hf
    by_cases hlt : k < zs.length
    · obtain ⟨z, hz1, hcell⟩ := Row.at hc hlt
      have hbad : badAt s zs k = !inB z 1 (top s) := by unfold badAt; rw [hz1.out]
      have HB := hide hbad
      clear hbad
      cases hin : inB z 1 (top s)
      · go_wp2_with (first
          | (go_at_call 52; refine (allBits_any _ _ (by omega) (by omega)).mono ?_; rintro e w' ⟨rfl, rfl⟩)
          | (go_at_call 89; refine (within_any _ _ _ _).mono ?_; rintro e w' ⟨rfl, rfl⟩))
        go_ret
        refine ⟨⟨_, rfl, ?_⟩, ?_⟩
        · rw [HCF.out, first_at HF.out (by rw [HB.out, hin]; rfl) hlt]
          exact isErr_at (by decide) (Nat.le_succ _) (by simp) (by simp) (by simp)
        · exact ((Below.refl _ _).alloc (Nat.le_refl _) _).alloc (by simp) _
      · go_wp2_with (first
          | (go_at_call 52; refine (allBits_any _ _ (by omega) (by omega)).mono ?_; rintro e w' ⟨rfl, rfl⟩)
          | (go_at_call 89; refine (within_any _ _ _ _).mono ?_; rintro e w' ⟨rfl, rfl⟩))
        go_round
        case rel => exact ⟨k + 1, by omega, by go_num, first_none HF.out (by rw [HB.out, hin]; rfl)⟩
        case measure => simp [intOf]; omega
    · have hkn : zs.length = k := by omega
      have HG : Hid (firstTo (badAt s zs) zs.length = none) := by rw [hkn]; exact HF.out
      clear HF hkn
      go_wp2
      go_loop [47] (fun i => ∃ k : Nat, k ≤ zs.length ∧ i = .int .i64 k ∧ firstTo (twiceAt zs) k = none) (fun i => zs.length - (intOf i).toNat)
      case atStart => exact ⟨0, Nat.zero_le _, rfl, rfl⟩
      case round =>
        obtain ⟨k, hk, rfl, hf⟩ := hrel
        have HF := hide hf
        clear hf
        by_cases hlt : k < zs.length
        · obtain ⟨z, hz1, hcell⟩ := Row.at hc hlt
          have htw : twiceAt zs k = decide (z ∈ zs.take k) := by unfold twiceAt; rw [hz1.out]
          have HB := hide htw
          clear htw
          have hct := fun (wx : World) (hx : Below w.heap.size w wx) => contains_n b off cap k (zs.take k) z wx (by simp; omega) (by simp; omega) ((hc.take k).below hb hx)
          have HCT := hide hct
          clear hct
          cases hin : decide (z ∈ zs.take k)
          · go_wp2_with (go_at_call 90; refine (unhide HCT _ ((Below.refl _ _).alloc (Nat.le_refl _) _)).mono ?_; rintro e w' ⟨rfl, rfl⟩)
            go_round
            case rel => exact ⟨k + 1, by omega, by go_num, first_none HF.out (by rw [HB.out]; exact hin)⟩
            case measure => simp [intOf]; omega
          · go_wp2_with (go_at_call 90; refine (unhide HCT _ ((Below.refl _ _).alloc (Nat.le_refl _) _)).mono ?_; rintro e w' ⟨rfl, rfl⟩)
            go_ret
            refine ⟨⟨_, rfl, ?_⟩, ?_⟩
            · rw [HCF.out, HG.out, first_at HF.out (by rw [HB.out]; exact hin) hlt]
              exact isErr_at (by decide) (Nat.le_succ _) (by simp) (by simp) (by simp)
            · exact ((Below.refl _ _).alloc (Nat.le_refl _) _).alloc (by simp) _
        · have hkn : zs.length = k := by omega
          have HG2 : Hid (firstTo (twiceAt zs) zs.length = none) := by rw [hkn]; exact HF.out
          clear HF hkn
          go_wp2
          go_ret
          refine ⟨⟨_, rfl, ?_⟩, (Below.refl _ _).alloc (Nat.le_refl _) _⟩
          rw [HCF.out, HG.out, HG2.out]
          exact .inl ⟨rfl, rfl⟩
def IsSl (w : World) (a : Option Addr) (len cap : Nat) (zs : List Int) : Prop :=
  zs.length = len ∧ len ≤ cap ∧ (zs = [] ∨ ∃ b off, a = some ⟨b, off, none⟩ ∧ b < w.heap.size ∧ Row w b off zs)
theorem IsSl.below {w wx : World} {a : Option Addr} {len cap : Nat} {zs : List Int} (h : IsSl w a len cap zs) (hB : Below w.heap.size w wx) : IsSl wx a len cap zs := by
  obtain ⟨h1, h2, h3⟩ := h
  refine ⟨h1, h2, ?_⟩
  rcases h3 with h | ⟨b, off, e, hb, hr⟩
  · exact .inl h
  · exact .inr ⟨b, off, e, Nat.lt_of_lt_of_le hb hB.size, hr.below hb hB⟩
theorem check_any (s d : Int) (a : Option Addr) (len cap : Nat) (zs : List Int) (w : World) (h : IsSl w a len cap zs) :
    Calls Tryz.prog 51 #[.agg #[.int .i64 s, .slice a len cap, .int .i64 d]] w fun e w' => (∃ v, e = .returned v ∧ IsErr w' w.heap.size (checkF s zs d) v) ∧ Below w.heap.size w w' := by
  obtain ⟨rfl, hcap, h3⟩ := h
  cases hr : rangeB s zs.length d
  · refine (check_range s d a zs.length cap w hr).mono ?_
    rintro e w' ⟨rfl, hb⟩
    exact ⟨⟨_, rfl, .inr (.inl (by rw [show checkF s zs d = (2, -1) by unfold checkF; rw [hr]; rfl]; exact ⟨by decide, rfl, rfl⟩))⟩, hb⟩
  · rcases h3 with h | ⟨b, off, rfl, hb, hc⟩
    · subst h
      simp [rangeB, inB] at hr
    · exact check_main s d b off cap zs w hr hb hc hcap
theorem IsErr.below {w wx : World} {lo : Nat} {f : Nat × Int} {v : Value} (h : IsErr w lo f v) (hB : Below w.heap.size w wx) : IsErr wx lo f v := by
  rcases h with h | h | ⟨h0, h1, nb, h2, h3, h4, h5, h6⟩
  · exact .inl h
  · exact .inr (.inl h)
  · exact .inr (.inr ⟨h0, h1, nb, h2, Nat.lt_of_lt_of_le h3 hB.size, h4, (hB.cell (p := ⟨nb, 0, none⟩) h3).trans h5, (hB.cell (p := ⟨nb, 1, none⟩) h3).trans h6⟩)
theorem IsErr.ok {w' : World} {lo : Nat} {v : Value} (h : IsErr w' lo (0, -1) v) : v = .nilIface := by
  rcases h with ⟨_, h⟩ | ⟨h, _⟩ | ⟨h, _⟩
  · exact h
  · exact absurd rfl h
  · exact absurd rfl h
end Go.Proofs.YtaablbmgagiajabGreatDoor
