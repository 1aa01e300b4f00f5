/- The contract of triumvirkeep.FrameBurst. -/
import Derived.Test.YtiipmdmbmepgjaaDoorFrBackW
namespace Go.Proofs.YtiipmdmbmepgjaaDoor
open Go.RowKit Go.Deep Go.Extern.Stop Go.Stop Go.Extern

/-- Is bit i (the greatest one first) of 32 set? -/
def wBit (what i : Nat) : Bool := what.testBit (31 - i)
/-- The bytes behind i rounds. -/
def flipTo (l : List Nat) (a what : Nat) : Nat → List Nat
  | 0 => l
  | i + 1 => if (wBit what i && decide (a + i < 8 * l.length)) = true then flipB (flipTo l a what i) (a + i) else flipTo l a what i
def someTo (l : List Nat) (a what : Nat) : Nat → Bool
  | 0 => false
  | i + 1 => if (wBit what i && decide (a + i < 8 * l.length)) = true then true else someTo l a what i
theorem flipTo_length (l : List Nat) (a what i : Nat) : (flipTo l a what i).length = l.length := by
  induction i with
  | zero => rfl
  | succ i ih => unfold flipTo; split <;> simp [flipB_length, ih]
theorem flipTo_lt {l : List Nat} (a what i : Nat) (h : ∀ c ∈ l, c < 256) : ∀ c ∈ flipTo l a what i, c < 256 := by
  induction i with
  | zero => exact h
  | succ i ih =>
    unfold flipTo
    split
    · exact flipB_lt _ ih
    · exact ih
theorem bitAt_flipTo (l : List Nat) (a what i k : Nat) (hk : k < 8 * l.length) : bitAt (flipTo l a what i) k = (bitAt l k ^^ (decide (a ≤ k) && (decide (k < a + i) && wBit what (k - a)))) := by
  induction i with
  | zero =>
    unfold flipTo
    have e : (decide (a ≤ k) && (decide (k < a + 0) && wBit what (k - a))) = false := by
      by_cases h : a ≤ k
      · rw [decide_eq_false (show ¬ k < a + 0 by omega)]; simp
      · rw [decide_eq_false h]; rfl
    rw [e, Bool.xor_false]
  | succ i ih =>
    unfold flipTo
    by_cases hki : k = a + i
    · subst hki
      have e : a + i - a = i := by omega
      rw [e] at ih ⊢
      rw [decide_eq_true (show a ≤ a + i by omega), decide_eq_true (show a + i < a + (i + 1) by omega)]
      rw [decide_eq_false (show ¬ a + i < a + i by omega)] at ih
      rw [decide_eq_true hk, Bool.and_true]
      cases hw : wBit what i
      · rw [if_neg (by decide), ih]; simp
      · rw [if_pos rfl, bitAt_flip _ _ _ (by rw [flipTo_length]; exact hk), ih]; simp
    · have e1 : decide (k < a + (i + 1)) = decide (k < a + i) := by
        rw [Bool.eq_iff_iff, decide_eq_true_iff, decide_eq_true_iff]; omega
      rw [e1]
      split
      · rename_i hc
        have : a + i < 8 * l.length := by
          simp only [Bool.and_eq_true, decide_eq_true_eq] at hc
          exact hc.2
        rw [bitAt_flip _ _ _ (by rw [flipTo_length]; exact this), ih, decide_eq_false hki, Bool.xor_false]
      · exact ih
theorem someTo_ex {l : List Nat} {a what i : Nat} (h : someTo l a what i = true) : ∃ j, j < i ∧ wBit what j = true ∧ a + j < 8 * l.length := by
  induction i with
  | zero => exact absurd h (by simp [someTo])
  | succ i ih =>
    unfold someTo at h
    split at h
    · rename_i hc
      simp only [Bool.and_eq_true, decide_eq_true_eq] at hc
      exact ⟨i, by omega, hc.1, hc.2⟩
    · obtain ⟨j, h1, h2, h3⟩ := ih h
      exact ⟨j, by omega, h2, h3⟩
/-- A burst is refused. -/
theorem dec_flip (F : FR) (a what : Nat) (h : someTo (encF F) a what 32 = true) : (decF (flipTo (encF F) a what 32)).1 ≠ 0 ∧ (decF (flipTo (encF F) a what 32)).2 = fr0 := by
  refine dec_burst F _ a (flipTo_lt a what 32 (encF_lt F)) (flipTo_length _ _ _ _) (fun j hj ho => ?_) ?_
  · rw [flipTo_length] at hj
    rw [bitAt_flipTo _ _ _ _ _ hj]
    rcases ho with ho | ho
    · rw [decide_eq_false (show ¬ a ≤ j by omega)]; simp
    · rw [decide_eq_false (show ¬ j < a + 32 by omega)]; simp
  · obtain ⟨j, h1, h2, h3⟩ := someTo_ex h
    refine ⟨a + j, by rw [flipTo_length]; exact h3, ?_⟩
    rw [bitAt_flipTo _ _ _ _ _ h3, decide_eq_true (show a ≤ a + j by omega), decide_eq_true (show a + j < a + 32 by omega), show a + j - a = j by omega, h2]
    cases bitAt (encF F) (a + j) <;> decide

theorem and32_one (x : Nat) (h : x < 4294967296) : bits .and .u32 (x : Int) 1 = ((x % 2 : Nat) : Int) := by
  show IntKind.u32.wrap (((BitVec.ofInt 32 _ &&& BitVec.ofInt 32 _).toNat : Nat) : Int) = _
  rw [BitVec.toNat_and, show (BitVec.ofInt 32 (x : Int)).toNat = x by rw [BitVec.toNat_ofInt]; omega, show (BitVec.ofInt 32 1).toNat = 1 by decide, Nat.and_one_is_mod]
  exact wrap_u32 _ (by omega)
theorem what_bit (what k : Nat) (h : what < 4294967296) (b : Bool) (hb : wBit what k = b) : bits .and .u32 ((what : Int) / 2 ^ (31 - k)) 1 = if b then 1 else 0 := by
  have e : (what : Int) / 2 ^ (31 - k) = ((what / 2 ^ (31 - k) : Nat) : Int) := by simp
  rw [e, and32_one _ (Nat.lt_of_le_of_lt (Nat.div_le_self _ _) h), testBit_eq]
  unfold wBit at hb
  rw [hb]
  cases b <;> rfl
theorem flip_no {l : List Nat} {a what k : Nat} (h : (wBit what k && decide (a + k < 8 * l.length)) = false) : flipTo l a what (k + 1) = flipTo l a what k ∧ someTo l a what (k + 1) = someTo l a what k := by
  constructor
  · rw [flipTo, h]; simp
  · rw [someTo, h]; simp
theorem flip_yes {l : List Nat} {a what k : Nat} (h : (wBit what k && decide (a + k < 8 * l.length)) = true) : flipTo l a what (k + 1) = flipB (flipTo l a what k) (a + k) ∧ someTo l a what (k + 1) = true := by
  constructor
  · rw [flipTo, if_pos h]
  · rw [someTo, if_pos h]

theorem shr128 (r p : Nat) (h : r < 8) (hp : 2 ^ (7 - r) = p) : (128 : Int) / 2 ^ min r 8 = (p : Int) := by
  subst hp
  rcases (by omega : r = 0 ∨ r = 1 ∨ r = 2 ∨ r = 3 ∨ r = 4 ∨ r = 5 ∨ r = 6 ∨ r = 7) with rfl | rfl | rfl | rfl | rfl | rfl | rfl | rfl <;> decide
theorem xor8 (a b : Nat) (ha : a < 2 ^ 8) (hb : b < 2 ^ 8) : bits .xor .u8 (a : Int) (b : Int) = ((a ^^^ b : Nat) : Int) := by
  show IntKind.u8.wrap (((BitVec.ofInt 8 _ ^^^ BitVec.ofInt 8 _).toNat : Nat) : Int) = _
  rw [BitVec.toNat_xor, show (BitVec.ofInt 8 (a : Int)).toNat = a by rw [BitVec.toNat_ofInt]; omega, show (BitVec.ofInt 8 (b : Int)).toNat = b by rw [BitVec.toNat_ofInt]; omega]
  have := Nat.xor_lt_two_pow ha hb
  simp [IntKind.wrap, IntKind.bits, IntKind.signed]
  omega
theorem OwnB.get_lt {w : World} {base g n cp : Nat} {l : List Nat} (h : OwnB w base g n cp l) (k : Nat) : l[k]?.getD 0 < 256 := by
  by_cases hk : k < l.length
  · rw [List.getElem?_eq_getElem hk]; exact h.lt _ (List.getElem_mem hk)
  · rw [List.getElem?_eq_none (by omega)]; decide

/-- What holds while bits are turned. -/
structure BInv (w wr : World) (base g n cp : Nat) (l : List Nat) : Prop where
  old : Below w.heap.size w wr
  own : OwnB wr base g n cp l

set_option maxHeartbeats 4000000 in
set_option maxRecDepth 20000 in
theorem burst_any (F : FR) (x : Int) (what : Nat) (w : World) (hwh : what < 4294967296) (hg : HasErrT w) :
    Calls Tryd.prog 8 #[.agg (fCells F), .int .i64 x, .int .u32 (what : Int)] w fun e w' => e = .returned (.bool true) ∧ Below w.heap.size w w' := by
  have hB0 : Below w.heap.size w (w.alloc (.cells (fCells F) 63)) := (Below.refl w.heap.size w).alloc (Nat.le_refl _) _
  have hbox : FIs (w.alloc (.cells (fCells F) 63)) w.heap.size 63 F := blk_new _ _
  have HS := hide (sent_any _ (hg.below hB0 hg.pos))
  have HB0 := hide hB0
  have HBOX := hide hbox
  clear hB0 hbox
  go_enter Tryd.func8, Tryd.ntmps8
  go_wp2_with (go_at_call 35; refine HS.out.mono ?_)
  rintro e w1 ⟨rfl, hB1⟩
  have HBOX1 := hide (HBOX.out.below (by simp) hB1)
  have HO1 := hide (HB0.out.trans (hB1.mono (by simp)))
  have hN := HBOX1.out.lt
  clear hB1 HS HBOX HB0
  cases hmay : mayB F
  · have HEN := hide (encode_bad F w1 hmay)
    go_wp2_with (first
      | (refine wpList_load_f rfl _ rfl w.heap.size rfl F HBOX1.out ?_)
      | (go_at_call 29; refine HEN.out.mono ?_; rintro e w2 ⟨rfl, hB2⟩))
    go_ret
    exact ⟨rfl, HO1.out.trans (hB2.mono HO1.out.size)⟩
  · have HEN := hide (encode_ok F w1 hmay)
    by_cases hw0 : what = 0
    · subst hw0
      go_wp2_with (first
        | (refine wpList_load_f rfl _ rfl w.heap.size rfl F HBOX1.out ?_)
        | (go_at_call 29; refine HEN.out.mono ?_; rintro e w2 ⟨⟨v, rfl, hown⟩, hB2⟩))
      go_ret
      exact ⟨rfl, HO1.out.trans (hB2.mono HO1.out.size)⟩
    · have hwb : ((what : Int) == 0) = false := by simpa using hw0
      go_wp2_with (first
        | (refine wpList_load_f rfl _ rfl w.heap.size rfl F HBOX1.out ?_)
        | (go_at_call 29; refine HEN.out.mono ?_))
      rintro e w2 ⟨⟨v, rfl, hown⟩, hB2⟩
      obtain ⟨g, cp, rfl, hO⟩ := ownB_of hown
      have hel := enc_len F
      obtain ⟨n, hn⟩ : ∃ n, Hid ((encF F).length = n) := ⟨_, hide rfl⟩
      rw [hn.out] at hO hel ⊢
      obtain ⟨hel1, hel2⟩ := hel
      have HO2 := hide (HO1.out.trans (hB2.mono (by omega)))
      obtain ⟨hg1, hg2, hg3⟩ := hO.parts
      have HOB := hide hO
      have hs2 := hB2.size
      clear hO hB2 hown HEN HBOX1 HO1
      have hpk := pickF_in x (8 * (n : Int)) (by omega) (by omega)
      obtain ⟨a, ha⟩ := Int.eq_ofNat_of_zero_le hpk.1
      have HPK := hide (pick_any x (8 * (n : Int)) w2 (by omega) (by omega))
      rw [ha] at HPK hpk
      have han : a < 8 * n := by omega
      clear ha hpk
      go_wp2_with (go_at_call 36; refine HPK.out.mono ?_; rintro e w3 ⟨rfl, rfl⟩)
      go_loopw [9, 10] (fun sm i wr => ∃ k : Nat, k ≤ 32 ∧ i = .int .i64 k ∧ sm = .bool (someTo (encF F) a what k) ∧ BInv w wr w1.heap.size g n cp (flipTo (encF F) a what k)) (fun _ i _ => 32 - (intOf i).toNat)
      case atStart => exact ⟨0, Nat.zero_le _, rfl, rfl, HO2.out, HOB.out⟩
      case round =>
        clear HO2 HOB HPK
        obtain ⟨k, hk, rfl, rfl, hI⟩ := hrel
        by_cases hlt : k < 32
        · cases hwk : wBit what k
          · have hb := what_bit what k hwh _ hwk
            rw [if_neg (by decide)] at hb
            have HNO := hide (flip_no (l := encF F) (a := a) (what := what) (k := k) (by rw [hwk]; rfl))
            go_wp2
            go_roundw
            case rel => exact ⟨k + 1, by omega, by go_num, by rw [HNO.out.2], by rw [HNO.out.1]; exact hI⟩
            case measure => simp [intOf]; omega
          · have hb := what_bit what k hwh _ hwk
            rw [if_pos rfl] at hb
            by_cases hin : a + k < 8 * n
            · have HYES := hide (flip_yes (l := encF F) (a := a) (what := what) (k := k) (by rw [hwk, hn.out, decide_eq_true hin]; rfl))
              have hq : (a + k) / 8 < n := by omega
              have hc := hI.own.at (k := (a + k) / 8) hq
              have hf := hI.own.free ((a + k) / 8)
              obtain ⟨c, hcc⟩ : ∃ c, Hid ((flipTo (encF F) a what k)[(a + k) / 8]?.getD 0 = c) := ⟨_, hide rfl⟩
              rw [hcc.out] at hc
              obtain ⟨q, hqq⟩ : ∃ q, Hid ((a + k) / 8 = q) := ⟨_, hide rfl⟩
              rw [hqq.out] at hq hc hf
              obtain ⟨j, hj⟩ : ∃ j, Hid (a + k = j) := ⟨_, hide rfl⟩
              have e1 : IntKind.i64.wrap ((a : Int) + (k : Int)) = (j : Int) := by have := wrap_small (a + k) (by omega); rw [Int.natCast_add] at this; rw [this, ← hj.out]; omega
              obtain ⟨r, hr⟩ : ∃ r, Hid (j % 8 = r) := ⟨_, hide rfl⟩
              obtain ⟨p, hp⟩ : ∃ p, Hid (2 ^ (7 - r) = p) := ⟨_, hide rfl⟩
              obtain ⟨c2, hc2⟩ : ∃ c2, Hid (c ^^^ p = c2) := ⟨_, hide rfl⟩
              have e2 : IntKind.i64.wrap ((j : Int) / 8) = (q : Int) := by
                have := wrap_small (j / 8) (by have := hj.out; omega)
                rw [Int.natCast_ediv] at this
                rw [← hqq.out, hj.out]
                exact this
              have e3 : (j : Int).tmod 8 = (r : Int) := by rw [Int.tmod_eq_emod_of_nonneg (by omega), ← hr.out]; omega
              have e4 : (128 : Int) / 2 ^ min r 8 = (p : Int) := shr128 r p (by have := hr.out; omega) hp.out
              have e5 : bits BinOp.xor IntKind.u8 (c : Int) (p : Int) = (c2 : Int) := by
                rw [← hc2.out]
                exact xor8 c p (by rw [← hcc.out]; exact hI.own.get_lt _) (by rw [← hp.out]; exact Nat.pow_lt_pow_right (by decide) (by omega))
              have d0 : (0 : Int) ≤ (q : Int) := by omega
              have d1 : (q : Int) < (n : Int) := by omega
              have hjn : (j : Int) < 8 * (n : Int) := by have := hj.out; omega
              have hjn' : j < 8 * n := by have := hj.out; omega
              have hc2l : c2 < 256 := by
                rw [← hc2.out]
                exact Nat.xor_lt_two_pow (n := 8) (by rw [← hcc.out]; exact hI.own.get_lt _) (by rw [← hp.out]; exact Nat.pow_lt_pow_right (by decide) (by omega))
              have R : BInv w (wr.setCell ⟨g, q, none⟩ (.int .u8 (c2 : Int))).drew w1.heap.size g n cp (flipTo (encF F) a what (k + 1)) := by
                have ho := hI.own.set q c2 hc2l
                rw [HYES.out.1, flipB, hcc.out, hj.out, hr.out, hp.out, hc2.out, ← hj.out, hqq.out]
                exact ⟨(hI.old.setCell (p := ⟨g, q, none⟩) (by show w.heap.size ≤ g; omega) _).drew, ⟨ho.own.drew, ho.len, ho.lt⟩⟩
              have HR := hide R
              clear R hI
              go_wp2_with fail
              go_region
              clear hc hf e1 e2 e3 e4 e5 hb
              go_wp2
              go_roundw
              case rel => exact ⟨k + 1, by omega, by go_num, by rw [HYES.out.2], HR.out⟩
              case measure => simp [intOf]; omega
            · have HNO := hide (flip_no (l := encF F) (a := a) (what := what) (k := k) (by rw [hn.out, decide_eq_false hin]; simp))
              have hin' : ¬ ((a : Int) + (k : Int) < 8 * (n : Int)) := by omega
              go_wp2
              go_roundw
              case rel => exact ⟨k + 1, by omega, by go_num, by rw [HNO.out.2], by rw [HNO.out.1]; exact hI⟩
              case measure => simp [intOf]; omega
        · have hk32 : k = 32 := by omega
          subst hk32
          cases hsm : someTo (encF F) a what 32
          · have HD := hide hI.old
            clear hI
            go_wp2
            go_ret
            exact ⟨rfl, HD.out⟩
          · obtain ⟨hpe, hpf⟩ := dec_flip F a what hsm
            have hdec := decode_any _ n cp (flipTo (encF F) a what 32) wr (by omega) hI.own.isB
            rw [hpf, errV_pos hpe] at hdec
            obtain ⟨er, her⟩ : ∃ er, Hid ((decF (flipTo (encF F) a what 32)).1 = er) := ⟨_, hide rfl⟩
            rw [her.out] at hdec
            have HDEC := hide hdec
            have HD := hide hI.old
            clear hdec hpe hpf hI
            go_wp2_with (first
              | (go_at_call 34; refine HDEC.out.mono ?_; rintro e w6 ⟨rfl, hB6⟩)
              | (refine wpList_store_fl rfl _ _ rfl w6.heap.size fr0 rfl rfl fr0 (blk_new _ _) ?_))
            intro w7 HF7
            have hE0 : eqB fr0 fr0 = true := (eqB_iff _ _).2 fun _ _ => rfl
            have hs6 := hB6.size
            have hB7 : Below w6.heap.size w6 w7 := ((Below.refl _ _).alloc (Nat.le_refl _) _).trans (HF7.out.2.2 _ (Nat.le_refl _))
            have HFZ := hide HF7.out.1
            have HO7 := hide ((HD.out.trans (hB6.mono HD.out.size)).trans (hB7.mono (by have := HD.out.size; omega)))
            clear hB6 hB7 HF7 HD HDEC
            go_wp2_with (first
              | (refine wpList_loadW (by rfl) _ rfl w6.heap.size rfl fr0 HFZ.out ?_)
              | (refine wpList_eqlW (by rfl) _ _ rfl fr0 fr0 rfl rfl ?_; rw [hE0]))
            go_ret
            exact ⟨rfl, HO7.out⟩
end Go.Proofs.YtiipmdmbmepgjaaDoor
