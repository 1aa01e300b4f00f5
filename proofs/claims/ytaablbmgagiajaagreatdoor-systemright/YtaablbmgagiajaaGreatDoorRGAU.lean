import Derived.Test.YtaablbmgagiajaaGreatDoorRGAT
namespace Go.Proofs.YtaablbmgagiajaaGreatDoor
open Go.RowKit Go.Deep
def rightAt (zs : List Int) (d : Int) (G : GS) (i : Nat) : Bool := if (u64 G.set).testBit i then rsB (rt zs i) (conf zs i) d G i else (G.used i == 0 && G.idle i == 0)
def allTo (f : Nat → Bool) : Nat → Bool
  | 0 => true
  | i + 1 => allTo f i && f i
theorem allTo_at {f : Nat → Bool} {n i : Nat} (h : f i = false) (hi : i < n) : allTo f n = false := by
  induction n with
  | zero => omega
  | succ n ih =>
    unfold allTo
    by_cases e : i = n
    · subst e; rw [h]; simp
    · rw [ih (by omega)]; rfl
theorem allTo_of {f : Nat → Bool} {n : Nat} (h : allTo f n = true) {i : Nat} (hi : i < n) : f i = true := by
  cases hf : f i
  · rw [allTo_at hf hi] at h; exact absurd h (by decide)
  · rfl
def rightB (zs : List Int) (d : Int) (G : GS) : Bool := (decide (0 ≤ G.set) && decide (G.set < ((2 ^ zs.length : Nat) : Int))) && allTo (rightAt zs d G) 8
structure TInv (w wr : World) (G : GS) : Prop where
  old : Below w.heap.size w wr
  st : GIs wr w.heap.size G
theorem TInv.below {w wr wx : World} {G : GS} (h : TInv w wr G) (hB : Below wr.heap.size wr wx) : TInv w wx G := ⟨h.old.trans (hB.mono h.old.size), h.st.below h.st.lt hB⟩
set_option maxHeartbeats 4000000 in
set_option maxRecDepth 20000 in
theorem right_any (p : Nat) (s : Int) (d n : Nat) (zs : List Int) (g cg M : Nat) (G : GS) (w : World) (hK : CoreIs w p s (d : Int) n zs g cg M) :
    Calls Tryz.prog 94 #[.pointer (some ⟨p, 0, none⟩), .agg (gCells G)] w fun e w' =>
      e = .returned (.bool (rightB zs d G)) ∧ Below w.heap.size w w' := by
  obtain ⟨f1, f8, fs1, fs2, fd1, fd2⟩ := hK.few
  have hI0 : TInv w (w.alloc (.cells (gCells G) 33)) G := ⟨(Below.refl _ _).alloc (Nat.le_refl _) _, blk_new _ _⟩
  have hpl := hK.plt
  have c0 : (gCells G)[0]? = some (.int .i64 G.set) := rfl
  have k1 : w.cell? ⟨p, 1, none⟩ = some (.slice (some ⟨g, 0, none⟩) n cg) := by rw [blk_cell hK.blk]; rfl
  obtain ⟨z, hz⟩ : ∃ z, Hid (G.set = z) := ⟨_, hide rfl⟩
  rw [hz.out] at c0
  have hrb : rightB zs d G = ((decide (0 ≤ z) && decide (z < ((2 ^ n : Nat) : Int))) && allTo (rightAt zs d G) 8) := by unfold rightB; rw [hz.out, hK.len]
  have HRB := hide hrb
  obtain ⟨P, hP⟩ : ∃ P : Nat, Hid (2 ^ n = P) := ⟨_, hide rfl⟩
  have eP : wrap64 (2 ^ n) = (P : Int) := by rw [wrap_two_pow n (by omega), hP.out]
  have HI0 := hide hI0
  have HK := hide hK
  clear hI0 hK hrb
  by_cases hneg : z < 0
  · have hn1 : decide (z < 0) = true := by simpa using hneg
    go_enter Tryz.func94, Tryz.ntmps94
    go_wp2_with fail
    go_quiet (fail)
    go_wp2
    go_ret
    refine ⟨ret_bool ?_, below_drewN' HI0.out.old _⟩
    rw [HRB.out, decide_eq_false (by omega)]; rfl
  have hn1 : decide (z < 0) = false := by simpa using hneg
  by_cases hbig : (P : Int) ≤ z
  · have hn2 : decide ((P : Int) ≤ z) = true := by simpa using hbig
    go_enter Tryz.func94, Tryz.ntmps94
    go_wp2_with fail
    go_quiet (fail)
    go_wp2
    go_ret
    refine ⟨ret_bool ?_, below_drewN' HI0.out.old _⟩
    rw [HRB.out, hP.out, decide_eq_false (show ¬ z < (P : Int) by omega)]; simp
  have hn2 : decide ((P : Int) ≤ z) = false := by simpa using hbig
  obtain ⟨m, rfl⟩ := Int.eq_ofNat_of_zero_le (show 0 ≤ z by omega)
  have hmP : m < 2 ^ n := by rw [hP.out]; omega
  have hm8 : m < 256 := Nat.lt_of_lt_of_le hmP (Nat.pow_le_pow_right (n := 2) (by decide) (show n ≤ 8 by omega))
  have hrb2 : rightB zs d G = allTo (rightAt zs d G) 8 := by rw [HRB.out, hP.out, decide_eq_true (show 0 ≤ (m : Int) by omega), decide_eq_true (show (m : Int) < (P : Int) by omega)]; rfl
  have HR2 := hide hrb2
  have hn3 : decide (P ≤ m) = false := by simp; omega
  clear hrb2 HRB hP
  go_enter Tryz.func94, Tryz.ntmps94
  go_wp2_with fail
  go_quiet (fail)
  go_wp2
  clear c0 k1 eP hneg hbig hn1 hn2 hn3
  go_loopw [21] (fun i wr => ∃ k : Nat, k ≤ 8 ∧ i = .int .i64 k ∧ TInv w wr G ∧ Hid (allTo (rightAt zs d G) k = true)) (fun i _ => 8 - (intOf i).toNat)
  case atStart => exact ⟨0, Nat.zero_le _, rfl, ⟨below_drewN' HI0.out.old _, HI0.out.st⟩, rfl⟩
  case round =>
    clear HI0
    obtain ⟨i, hi, rfl, hI, HA⟩ := hrel
    by_cases hlt : i < 8
    · have c0 := hI.st.set
      rw [hz.out] at c0
      have cu := hI.st.used hlt
      have ci := hI.st.idle hlt
      have hra : rightAt zs d G i = if m.testBit i then rsB (rt zs i) (conf zs i) d G i else (G.used i == 0 && G.idle i == 0) := by unfold rightAt; rw [hz.out, u64_nat m (by omega)]
      obtain ⟨u, hu⟩ : ∃ u, Hid (G.used i = u) := ⟨_, hide rfl⟩
      obtain ⟨t, ht⟩ : ∃ t, Hid (G.idle i = t) := ⟨_, hide rfl⟩
      rw [hu.out] at cu hra
      rw [ht.out] at ci hra
      have hhas := fun wx => chas_nat m i wx (by omega) (by omega)
      cases hb : m.testBit i
      · rw [hb] at hhas hra
        rw [if_neg (by decide)] at hra
        have HH := hide hhas
        have HRA := hide hra
        clear hhas hra hb
        cases hu0 : (u == 0)
        · have hu1 : (u != 0) = true := by rw [bne, hu0]; rfl
          go_wp2_with (go_at_call 70; refine (unhide HH _).mono ?_; rintro e w' ⟨rfl, hw⟩; obtain rfl := hw.symm)
          go_ret
          exact ⟨ret_bool (by rw [HR2.out, allTo_at (i := i) (by rw [HRA.out, hu0]; rfl) hlt]), hI.old⟩
        · have hu1 : (u != 0) = false := by rw [bne, hu0]; rfl
          cases ht0 : (t == 0)
          · have ht1 : (t != 0) = true := by rw [bne, ht0]; rfl
            go_wp2_with (go_at_call 70; refine (unhide HH _).mono ?_; rintro e w' ⟨rfl, hw⟩; obtain rfl := hw.symm)
            go_ret
            exact ⟨ret_bool (by rw [HR2.out, allTo_at (i := i) (by rw [HRA.out, hu0, ht0]; rfl) hlt]), hI.old⟩
          · have ht1 : (t != 0) = false := by rw [bne, ht0]; rfl
            go_wp2_with (go_at_call 70; refine (unhide HH _).mono ?_; rintro e w' ⟨rfl, hw⟩; obtain rfl := hw.symm)
            go_roundw
            case rel => exact ⟨i + 1, by omega, by go_num, hI, by rw [Hid, allTo, HA.out, HRA.out, hu0, ht0]; rfl⟩
            case measure => simp [intOf]; omega
      · have hin : i < n := by
          refine Nat.lt_of_not_le fun hge => ?_
          rw [Nat.testBit_lt_two_pow (Nat.lt_of_lt_of_le hmP (Nat.pow_le_pow_right (by decide) hge))] at hb
          exact absurd hb (by decide)
        rw [hb] at hhas hra
        rw [if_pos rfl] at hra
        have hrs := rightlySet_any p s d n zs g cg M G i wr (HK.out.below HK.out.plt HK.out.glt HK.out.mlt hI.old) hin
        rw [← hra] at hrs
        have HH := hide hhas
        have HRS := hide hrs
        have HI := hide hI
        have hgi := hI.st
        have HGI := hide hgi
        clear hhas hra hb hrs hI hgi
        cases hr : rightAt zs d G i
        · rw [hr] at HRS
          go_wp2_with (first
            | (go_at_call 70; refine (unhide HH _).mono ?_; rintro e w' ⟨rfl, hw⟩; obtain rfl := hw.symm)
            | (refine wpList_load_g rfl _ rfl w.heap.size rfl G HGI.out ?_)
            | (go_at_call 105; refine HRS.out.mono ?_; rintro e w2 ⟨rfl, hB2⟩))
          go_ret
          exact ⟨ret_bool (by rw [HR2.out, allTo_at (i := i) hr hlt]), (HI.out.below hB2).old⟩
        · rw [hr] at HRS
          go_wp2_with (first
            | (go_at_call 70; refine (unhide HH _).mono ?_; rintro e w' ⟨rfl, hw⟩; obtain rfl := hw.symm)
            | (refine wpList_load_g rfl _ rfl w.heap.size rfl G HGI.out ?_)
            | (go_at_call 105; refine HRS.out.mono ?_; rintro e w2 ⟨rfl, hB2⟩))
          go_roundw
          case rel => exact ⟨i + 1, by omega, by go_num, HI.out.below hB2, by rw [Hid, allTo, HA.out, hr]; rfl⟩
          case measure => simp [intOf]; omega
    · have hin : i = 8 := by omega
      subst hin
      go_wp2
      go_ret
      exact ⟨ret_bool (by rw [HR2.out, HA.out]), hI.old⟩
def hitTo (zs : List Int) (m i : Nat) : Nat → Bool
  | 0 => false
  | k + 1 => hitTo zs m i k || (m.testBit k && (k != i && (rt zs i &&& rt zs k != 0)))
theorem hit_iff (zs : List Int) (m i n : Nat) : hitTo zs m i n = true ↔ ∃ k, k < n ∧ m.testBit k = true ∧ k ≠ i ∧ rt zs i &&& rt zs k ≠ 0 := by
  induction n with
  | zero => simp [hitTo]
  | succ n ih =>
    unfold hitTo
    rw [Bool.or_eq_true, ih]
    simp only [Bool.and_eq_true, bne_iff_ne]
    constructor
    · rintro (⟨k, h1, h2⟩ | ⟨h1, h2, h3⟩)
      · exact ⟨k, by omega, h2⟩
      · exact ⟨n, by omega, h1, h2, h3⟩
    · rintro ⟨k, h1, h2, h3, h4⟩
      by_cases e : k = n
      · subst e; exact .inr ⟨h2, h3, h4⟩
      · exact .inl ⟨k, by omega, h2, h3, h4⟩
def gSt (G : GS) : St := ⟨G.set.toNat, fun k => (G.used k).toNat, G.idle⟩
theorem hit_conf {zs : List Int} {s d : Int} {i m : Nat} (hok : checkF s zs d = (0, -1)) (hi : i < zs.length) (hm : m < 2 ^ zs.length) : (m &&& conf zs i == 0) = !hitTo zs m i zs.length := by
  rw [Bool.eq_iff_iff, beq_iff_eq, Bool.not_eq_true', ← Bool.not_eq_true, hit_iff]
  constructor
  · rintro h0 ⟨k, hk, h1, h2, h3⟩
    have := congrArg (fun x => x.testBit k) h0
    simp only [Nat.testBit_and, Nat.zero_testBit, h1, Bool.true_and] at this
    have h4 := (conf_conf hok i k hi hk).2 ⟨fun e => h2 e.symm, h3⟩
    exact absurd (h4.symm.trans this) (by decide)
  · intro h
    apply Nat.eq_of_testBit_eq
    intro k
    rw [Nat.testBit_and, Nat.zero_testBit]
    by_cases hk : k < zs.length
    · cases h1 : m.testBit k
      · rfl
      · cases h2 : (conf zs i).testBit k
        · rfl
        · obtain ⟨a1, a2⟩ := (conf_conf hok i k hi hk).1 h2
          exact absurd ⟨k, hk, h1, fun e => a1 e.symm, a2⟩ h
    · rw [Nat.testBit_lt_two_pow (Nat.lt_of_lt_of_le hm (Nat.pow_le_pow_right (by decide) (by omega)))]; rfl
theorem wrap_zero (x : Nat) (h : x < 18446744073709551616) : (IntKind.i64.wrap (x : Int) == 0) = (x == 0) := by
  rw [Bool.eq_iff_iff, beq_iff_eq, beq_iff_eq]
  simp [IntKind.wrap, IntKind.bits, IntKind.signed]
  omega
theorem andnot_zero (u : Int) (r : Nat) (h : r < 9223372036854775808) : (bits .andNot .i64 u (r : Int) == 0) = (wo (u64 u) r == 0) := by
  show (IntKind.i64.wrap (((BitVec.ofInt 64 _ &&& ~~~ BitVec.ofInt 64 _).toNat : Nat) : Int) == 0) = _
  rw [andnot_toNat, ofInt64, ofInt64, u64_nat r h]
  exact wrap_zero _ (wo_lt _ (u64_lt u))
def subTo (U r : Nat) : Nat → Bool := allTo fun k => !U.testBit k || r.testBit k
theorem sub_same {u : Int} {r sn : Nat} (h1 : -9223372036854775808 ≤ u) (h2 : u < 9223372036854775808) (hr : r < 2 ^ sn) (hs : sn ≤ 12) : (wo (u64 u) r == 0) = ((decide (0 ≤ u) && decide (u < ((2 ^ sn : Nat) : Int))) && subTo u.toNat r sn) := by
  have hp : 2 ^ sn ≤ 2 ^ 12 := Nat.pow_le_pow_right (by decide) hs
  rw [Bool.eq_iff_iff, beq_iff_eq]
  simp only [Bool.and_eq_true, decide_eq_true_eq]
  constructor
  · intro h
    have hle : u64 u ≤ r := by
      rw [wo_zero] at h
      have e : u64 u &&& r = u64 u := by
        apply Nat.eq_of_testBit_eq
        intro j
        rw [Nat.testBit_and]
        cases hj : (u64 u).testBit j
        · rfl
        · rw [h j hj]; rfl
      rw [← e]; exact Nat.and_le_right
    have hu : 0 ≤ u := by unfold u64 at hle; omega
    have he : u64 u = u.toNat := by unfold u64; omega
    rw [he] at hle h
    refine ⟨⟨hu, by omega⟩, ?_⟩
    rw [wo_zero] at h
    unfold subTo
    have : ∀ n, allTo (fun k => !(u.toNat).testBit k || r.testBit k) n = true := by
      intro n
      induction n with
      | zero => rfl
      | succ n ih =>
        unfold allTo
        rw [ih]
        cases hb : (u.toNat).testBit n
        · rfl
        · rw [h n hb]; rfl
    exact this sn
  · rintro ⟨⟨hu, hl⟩, ha⟩
    have he : u64 u = u.toNat := by unfold u64; omega
    rw [he, wo_zero]
    intro k hk
    by_cases hks : k < sn
    · have := allTo_of ha hks
      rw [hk] at this
      simpa using this
    · rw [Nat.testBit_lt_two_pow (show u.toNat < 2 ^ k from Nat.lt_of_lt_of_le (by omega) (Nat.pow_le_pow_right (n := 2) (by decide) (show sn ≤ k by omega)))] at hk
      exact absurd hk (by decide)
theorem rs_same {zs : List Int} {sn d i m : Nat} {G : GS} (hok : checkF (sn : Int) zs (d : Int) = (0, -1)) (hi : i < zs.length) (hz : G.set = (m : Int)) (hm : m < 2 ^ zs.length) (h1 : -9223372036854775808 ≤ G.used i) (h2 : G.used i < 9223372036854775808) :
    rsB (rt zs i) (conf zs i) d G i = ((((!hitTo zs m i zs.length) && ((decide (0 ≤ G.used i) && decide (G.used i < ((2 ^ sn : Nat) : Int))) && subTo (G.used i).toNat (rt zs i) sn)) && inB (G.idle i) 0 1000) && !(G.used i == 0 && decide ((d : Int) < G.idle i))) := by
  have hr := range_pos hok
  unfold rangeB at hr
  simp only [Bool.and_eq_true, inB_iff] at hr
  obtain ⟨_, hr2, hr3, _⟩ := rt_in hok hi
  rw [Int.toNat_natCast] at hr2
  have hp : 2 ^ zs.length ≤ 2 ^ 8 := Nat.pow_le_pow_right (by decide) (by omega)
  have hcl : conf zs i < 2 ^ zs.length := confTo_lt zs i zs.length
  unfold rsB
  rw [hz, and_nat m _ (by omega) (by omega), nat_beq, hit_conf hok hi hm, andnot_zero _ _ (by omega), sub_same h1 h2 hr2 (by omega)]
  generalize hitTo zs m i zs.length = a
  generalize ((decide (0 ≤ G.used i) && decide (G.used i < ((2 ^ sn : Nat) : Int))) && subTo (G.used i).toNat (rt zs i) sn) = b
  generalize G.idle i = t
  cases hu : (G.used i == 0)
  · rw [if_neg (by decide)]
    unfold inB
    cases a <;> cases b <;> simp
  · rw [if_pos rfl]
    unfold inB
    have e : (decide (0 ≤ t) && decide (t ≤ (d : Int))) = ((decide (0 ≤ t) && decide (t ≤ 1000)) && !decide ((d : Int) < t)) := by
      rw [Bool.eq_iff_iff]
      simp
      omega
    cases a <;> cases b <;> simp
    rw [Bool.eq_iff_iff]
    simp
    omega
structure GIn (G : GS) : Prop where
  set : -9223372036854775808 ≤ G.set ∧ G.set < 9223372036854775808
  used : ∀ k, -9223372036854775808 ≤ G.used k ∧ G.used k < 9223372036854775808
  idle : ∀ k, -9223372036854775808 ≤ G.idle k ∧ G.idle k < 9223372036854775808
theorem gCells_congr {G G' : GS} (h0 : G.set = G'.set) (h : ∀ k, k < 8 → G.used k = G'.used k ∧ G.idle k = G'.idle k) : gCells G = gCells G' := by
  unfold gCells
  rw [h0, (h 0 (by decide)).1, (h 1 (by decide)).1, (h 2 (by decide)).1, (h 3 (by decide)).1, (h 4 (by decide)).1, (h 5 (by decide)).1, (h 6 (by decide)).1, (h 7 (by decide)).1,
    (h 0 (by decide)).2, (h 1 (by decide)).2, (h 2 (by decide)).2, (h 3 (by decide)).2, (h 4 (by decide)).2, (h 5 (by decide)).2, (h 6 (by decide)).2, (h 7 (by decide)).2]
theorem rs_parts {zs : List Int} {sn d i m : Nat} {G : GS} (hok : checkF (sn : Int) zs (d : Int) = (0, -1)) (hi : i < zs.length) (hz : G.set = (m : Int)) (hm : m < 2 ^ zs.length) (h1 : -9223372036854775808 ≤ G.used i) (h2 : G.used i < 9223372036854775808) :
    rsB (rt zs i) (conf zs i) d G i = true ↔ hitTo zs m i zs.length = false ∧ 0 ≤ G.used i ∧ wo (G.used i).toNat (rt zs i) = 0 ∧ (0 ≤ G.idle i ∧ G.idle i ≤ 1000) ∧ (G.used i = 0 → G.idle i ≤ (d : Int)) := by
  have hr := range_pos hok
  unfold rangeB at hr
  simp only [Bool.and_eq_true, inB_iff] at hr
  obtain ⟨_, hr2, hr3, _⟩ := rt_in hok hi
  rw [Int.toNat_natCast] at hr2
  rw [rs_same hok hi hz hm h1 h2, ← sub_same h1 h2 hr2 (by omega)]
  simp only [Bool.and_eq_true, Bool.not_eq_true', inB_iff, beq_iff_eq, Bool.and_eq_false_iff, decide_eq_false_iff_not, beq_eq_false_iff_ne]
  constructor
  · rintro ⟨⟨⟨a, b⟩, c⟩, e⟩
    have hs := sub_same h1 h2 hr2 (by omega)
    rw [b] at hs
    simp only [beq_self_eq_true] at hs
    have hs' := hs.symm
    simp only [Bool.and_eq_true, decide_eq_true_eq] at hs'
    have hu : u64 (G.used i) = (G.used i).toNat := by unfold u64; omega
    rw [hu] at b
    refine ⟨a, hs'.1.1, b, c, fun h0 => ?_⟩
    rcases e with e | e
    · exact absurd h0 e
    · omega
  · rintro ⟨a, h0, b, c, e⟩
    have hu : u64 (G.used i) = (G.used i).toNat := by unfold u64; omega
    refine ⟨⟨⟨a, by rw [hu]; exact b⟩, c⟩, ?_⟩
    by_cases h : G.used i = 0
    · right; have := e h; omega
    · left; exact h
theorem right_state {zs : List Int} {sn d n : Nat} {G : GS} (hok : checkF (sn : Int) zs (d : Int) = (0, -1)) (hn : zs.length = n) (hg : GIn G) (h8 : ∀ k, 8 ≤ k → G.used k = 0 ∧ G.idle k = 0) (hR : rightB zs d G = true) : gCells G = stCells (gSt G) ∧ Good (rt zs) n 1000 (gSt G) := by
  have hr := range_pos hok
  unfold rangeB at hr
  simp only [Bool.and_eq_true, inB_iff] at hr
  unfold rightB at hR
  simp only [Bool.and_eq_true, decide_eq_true_eq] at hR
  obtain ⟨⟨h1, h2⟩, h3⟩ := hR
  obtain ⟨m, hm⟩ := Int.eq_ofNat_of_zero_le h1
  have hm2 : m < 2 ^ zs.length := by omega
  have hp : 2 ^ zs.length ≤ 2 ^ 8 := Nat.pow_le_pow_right (by decide) (by omega)
  have hgm : (gSt G).set = m := by show G.set.toNat = m; rw [hm]; rfl
  have hu64 : u64 G.set = m := by rw [hm, u64_nat m (by omega)]
  have hset : ∀ k, m.testBit k = true → k < zs.length ∧ (hitTo zs m k zs.length = false ∧ 0 ≤ G.used k ∧ wo (G.used k).toNat (rt zs k) = 0 ∧ (0 ≤ G.idle k ∧ G.idle k ≤ 1000) ∧ (G.used k = 0 → G.idle k ≤ (d : Int))) := by
    intro k hk
    have hkz : k < zs.length := by
      refine Nat.lt_of_not_le fun hge => ?_
      rw [Nat.testBit_lt_two_pow (Nat.lt_of_lt_of_le hm2 (Nat.pow_le_pow_right (by decide) hge))] at hk
      exact absurd hk (by decide)
    have := allTo_of h3 (show k < 8 by omega)
    unfold rightAt at this
    rw [hu64, hk, if_pos rfl] at this
    exact ⟨hkz, (rs_parts hok hkz hm hm2 (hg.used k).1 (hg.used k).2).1 this⟩
  have hun : ∀ k, m.testBit k = false → G.used k = 0 ∧ G.idle k = 0 := by
    intro k hk
    by_cases hk8 : k < 8
    · have := allTo_of h3 hk8
      unfold rightAt at this
      rw [hu64, hk, if_neg (by decide)] at this
      simpa using this
    · exact h8 k (by omega)
  refine ⟨?_, ?_, ?_, ?_, ?_, ?_⟩
  · rw [← stG_cells]
    refine gCells_congr ?_ fun k hk => ⟨?_, rfl⟩
    · show G.set = ((G.set.toNat : Nat) : Int); omega
    · show G.used k = (((G.used k).toNat : Nat) : Int)
      cases hb : m.testBit k
      · rw [(hun k hb).1]; rfl
      · have := (hset k hb).2.2.1; omega
  · rw [hgm, ← hn]; exact hm2
  · intro i k hi hk hik h4 h5
    rw [hgm] at h4 h5
    have := (hset i h4).2.1
    by_cases h0 : rt zs i &&& rt zs k = 0
    · exact h0
    · have := (hit_iff zs m i zs.length).2 ⟨k, by omega, h5, fun e => hik e.symm, h0⟩
      rw [(hset i h4).2.1] at this
      exact absurd this (by decide)
  · intro k _
    show wo (G.used k).toNat (rt zs k) = 0
    cases hb : m.testBit k
    · rw [(hun k hb).1]; simp [wo]
    · exact (hset k hb).2.2.2.1
  · intro k hk
    have hb : m.testBit k = false := by
      rcases hk with hk | hk
      · exact Nat.testBit_lt_two_pow (Nat.lt_of_lt_of_le hm2 (Nat.pow_le_pow_right (by decide) (by omega)))
      · rw [hgm] at hk; exact hk
    exact ⟨by show (G.used k).toNat = 0; rw [(hun k hb).1]; rfl, (hun k hb).2⟩
  · intro k
    show 0 ≤ G.idle k ∧ G.idle k ≤ 1000
    cases hb : m.testBit k
    · rw [(hun k hb).2]; omega
    · exact (hset k hb).2.2.2.2.1
end Go.Proofs.YtaablbmgagiajaaGreatDoor
