/- The walk of triumvirkeep.LayoutMost: it says yes, and writes nothing that was there. -/
import Derived.Test.YtihiagjlpkjpeaaLine
import Derived.Test.YtihiagjlpkjpeaaSets
namespace Go.Proofs.Ytihiagjlpkjpeaa
open Go.RowKit Go.Deep

theorem shr_conf (c k : Nat) (hc : c < 256) (hk : k ≤ 62) : bits BinOp.and IntKind.i64 ((c : Int) / 2 ^ k) 1 = (((if c.testBit k then 1 else 0) : Nat) : Int) := by
  rw [shr_bit _ k hk, u64_nat c (by omega), testBit_eq]

theorem shr_set (x : Int) (i : Nat) (hi : i ≤ 62) (b : Bool) (h : (u64 x).testBit i = b) : (bits BinOp.and IntKind.i64 (x / 2 ^ i) 1 == 1) = b := by
  rw [shr_bit x i hi, testBit_eq, h]
  cases b <;> rfl

theorem and_set (c : Nat) (x : Int) (hc : c < 256) (b : Bool) (h : (c &&& u64 x == 0) = b) : (bits BinOp.and IntKind.i64 (c : Int) x == 0) = b := by
  rw [and_left _ _ (by rw [u64_nat c (by omega)]; omega), u64_nat c (by omega), ← h]
  generalize c &&& u64 x = m
  rw [Bool.eq_iff_iff, beq_iff_eq, beq_iff_eq]
  omega

/-- What holds while the conflicts are gone through. -/
structure MInv (w wr : World) (M n : Nat) (zs : List Int) : Prop where
  old : Below w.heap.size w wr
  row : wr.rowIs M 3 n (fun k => .int .i64 ((conf zs k : Nat) : Int))
theorem MInv.drewN {w wr : World} {M n : Nat} {zs : List Int} (h : MInv w wr M n zs) (k : Nat) : MInv w (wr.drewN k) M n zs := ⟨below_drewN h.old k, h.row⟩
theorem MInv.at {w wr : World} {M n : Nat} {zs : List Int} (h : MInv w wr M n zs) (hn : zs.length = n) (h8 : n ≤ 8) {k : Nat} (hk : k < n) : ∃ c : Nat, Hid (conf zs k = c) ∧ c < 256 ∧ wr.cell? ⟨M, k, none⟩ = some (.int .i64 (c : Int)) :=
  ⟨_, hide rfl, conf_lt zs k (by omega), h.row.cell hk⟩

theorem pop_step (i S : Nat) (b : Bool) (h : S.testBit i = b) : pop (i + 1) S = pop i S + (if b then 1 else 0) := by rw [pop, h]
theorem free_step (zs : List Int) (S i : Nat) (b f : Bool) (h : S.testBit i = b) (hf : freeTo zs S i = f) : freeTo zs S (i + 1) = if b then f && (conf zs i &&& S == 0) else f := by rw [freeTo, h, hf]

set_option maxRecDepth 20000 in
set_option maxHeartbeats 2000000 in
theorem most_walk (a0 : Int) (a : Option Addr) (len cap : Nat) (x2 : Int) (w : World) (hrt : ∀ i, i < len → ∃ b off z, a = some ⟨b, off, none⟩ ∧ b < w.heap.size ∧ w.cell? ⟨b, off + i, none⟩ = some (.int .i64 z)) (hm : len ≤ maxLen) :
    Calls Try.prog 3 #[.int .i64 a0, .slice a len cap, .int .i64 x2] w fun e w' => e = .returned (.bool true) ∧ Below w.heap.size w w' := by
  unfold maxLen at hm
  by_cases hl : 30 < len
  · clear hrt
    go_enter Try.func3, Try.ntmps3
    go_wp2
    go_ret
    exact ⟨rfl, Below.refl _ _⟩
  · have hln := fun (wx : World) (hB : Below w.heap.size w wx) => line_any a0 0 a len cap wx (by omega) (fun i hi => by
      obtain ⟨b, off, z, h1, h2, h3⟩ := hrt i hi
      exact ⟨b, off, z, h1, Nat.lt_of_lt_of_le h2 hB.size, (hB.cell (p := ⟨b, off + i, none⟩) h2).trans h3⟩)
    have HLN := hide hln
    clear hln hrt
    go_enter Try.func3, Try.ntmps3
    go_wp2_with fail
    refine (laid_any _).mono ?_
    rintro e w1 ⟨rfl, hB1⟩
    have HB1 := hide hB1
    clear hB1
    go_wp2_with fail
    refine (unhide HLN _ HB1.out).mono ?_
    rintro e w2 ⟨⟨x, rfl, s, d, b, off, n, cp, zs, rfl, hn, hcp, hb, hrow, hok⟩, hB2⟩
    have hB2' : Below w.heap.size w w2 := HB1.out.trans (hB2.mono HB1.out.size)
    have HB2 := hide hB2'
    have hw2 : w.heap.size ≤ w2.heap.size := hB2'.size
    have HROW := hide hrow
    have HOK := hide hok
    have hr := range_pos hok
    unfold rangeB at hr
    simp only [Bool.and_eq_true, inB_iff] at hr
    obtain ⟨⟨_, b21, b22⟩, _⟩ := hr
    clear HLN HB1 hB2 hB2' hrow hok
    rw [hn] at b21 b22
    go_wp2_with fail
    have hb3 : Below w2.heap.size w2 (w2.alloc (.cells #[.int .i64 s, .slice (some ⟨b, off, none⟩) n cp, .int .i64 d] 25)) := (Below.refl _ _).alloc (Nat.le_refl _) _
    refine (conf_n s d b off n cp zs _ hn HOK.out (by simp; omega) (HROW.out.below hb hb3) hcp).mono ?_
    rintro e w3 ⟨⟨M, hM, rfl, hrw⟩, hB3⟩
    have hbx : ∀ i, w3.cell? ⟨w2.heap.size, i, none⟩ = (#[.int .i64 s, .slice (some ⟨b, off, none⟩) n cp, .int .i64 d] : Array Value)[i]? := fun i => (hB3.cell (p := ⟨w2.heap.size, i, none⟩) (by simp)).trans (World.cell?_alloc_at _ _ _ _ rfl)
    have e0 : w3.cell? ⟨w2.heap.size, 0, none⟩ = some (.int .i64 s) := hbx 0
    have e1 : w3.cell? ⟨w2.heap.size, 1, none⟩ = some (.slice (some ⟨b, off, none⟩) n cp) := hbx 1
    have e2 : w3.cell? ⟨w2.heap.size, 2, none⟩ = some (.int .i64 d) := hbx 2
    have hs3 : w2.heap.size < w3.heap.size := by have := hB3.size; simp at this; omega
    have h23 : Below w2.heap.size w2 w3 := hb3.trans (hB3.mono (by simp))
    have HW3 := hide (HB2.out.trans (h23.mono hw2))
    have HRW := hide hrw
    have HR3 := hide (HROW.out.below hb h23)
    clear hbx hB3 h23 hb3 hrw HB2 HROW
    go_wp2_with fail
    refine (most_n s d b off n cp zs _ hn HOK.out (by omega) HR3.out hcp).mono ?_
    rintro e w4 ⟨rfl, hB4⟩
    have f1 : w4.cell? ⟨w2.heap.size, 1, none⟩ = some (.slice (some ⟨b, off, none⟩) n cp) := (hB4.cell (p := ⟨w2.heap.size, 1, none⟩) hs3).trans e1
    have HW4 := hide (HW3.out.trans (hB4.mono (by omega)))
    have HR4 := hide (HRW.out.of_block (hB4.block M HRW.out.lt))
    have hm1 := most_one zs (by omega)
    have hm2 := most_few zs (by omega)
    rw [hn] at hm2
    have hff := fun (S : Nat) => free_few zs S (by omega)
    have HFF := hide hff
    obtain ⟨q, hq⟩ : ∃ q, Hid (most (confs zs) = q) := ⟨_, hide rfl⟩
    rw [hq.out] at hm1 hm2 HFF ⊢
    clear hff e0 e1 e2 HW3 HRW HR3 hB4 HOK hq
    go_wp2
    have hI0 : MInv w w4 M n zs := ⟨HW4.out, HR4.out⟩
    clear HW4 HR4 f1
    obtain ⟨S, hS⟩ : ∃ S, Hid (u64 x2 = S) := ⟨_, hide rfl⟩
    go_loopw [12, 13, 14] (fun f c i wr => ∃ k : Nat, k ≤ n ∧ i = .int .i64 k ∧ (∃ p : Nat, p ≤ 8 ∧ c = .int .i64 p ∧ Hid (pop k S = p)) ∧ (∃ fb, f = .bool fb ∧ Hid (freeTo zs S k = fb)) ∧ MInv w wr M n zs) (fun _ _ i _ => n - (intOf i).toNat)
    case atStart => exact ⟨0, Nat.zero_le _, rfl, ⟨0, by omega, rfl, rfl⟩, ⟨true, rfl, rfl⟩, hI0⟩
    case round =>
      clear hI0
      obtain ⟨i, hi, rfl, ⟨p, hp8, rfl, Hp⟩, ⟨fb, rfl, Hf⟩, hI⟩ := hrel
      by_cases hlt : i < n
      · go_wp2
        go_loopw [15] (fun k wi => ∃ m : Nat, m ≤ n ∧ k = .int .i64 m ∧ MInv w wi M n zs) (fun k _ => n - (intOf k).toNat)
        case atStart => exact ⟨0, Nat.zero_le _, rfl, hI⟩
        case round =>
          clear hI
          obtain ⟨k, hk, rfl, hI⟩ := hrel
          by_cases hlk : k < n
          · obtain ⟨ci, hci, hcib, hcc⟩ := hI.at hn (by omega) hlt
            obtain ⟨ck, hck, hckb, hcd⟩ := hI.at hn (by omega) hlk
            have hsym : ci.testBit k = ck.testBit i := by rw [← hci.out, ← hck.out]; exact conf_sym zs i k (by omega) (by omega)
            have h1 : (bits BinOp.and IntKind.i64 ((ci : Int) / 2 ^ k) 1 != bits BinOp.and IntKind.i64 ((ck : Int) / 2 ^ i) 1) = false := by rw [shr_conf ci k hcib (by omega), shr_conf ck i hckb (by omega), hsym]; simp
            by_cases hik : i = k
            · subst hik
              have hcs : ci.testBit i = false := by rw [← hci.out]; exact conf_self zs i (by omega)
              have h3 : (bits BinOp.and IntKind.i64 ((ci : Int) / 2 ^ i) 1 == 1) = false := by rw [shr_conf ci i hcib (by omega), hcs]; rfl
              have hcd' : ck = ci := by rw [← hci.out, ← hck.out]
              subst hcd'
              clear hcd hcs hsym h1
              go_wp2_with fail
              go_quiet (fail)
              go_wp2
              go_roundw
              case rel => exact ⟨i + 1, by omega, by go_num, hI.drewN _⟩
              case measure => simp [intOf]; omega
            · have h2 : ((i : Int) == (k : Int)) = false := by simp; omega
              clear hsym
              go_wp2_with fail
              go_quiet (fail)
              go_wp2
              go_roundw
              case rel => exact ⟨k + 1, by omega, by go_num, hI.drewN _⟩
              case measure => simp [intOf]; omega
          · obtain ⟨ci, hci, hcib, hcc⟩ := hI.at hn (by omega) hlt
            cases hbs : S.testBit i
            · have ht := shr_set x2 i (by omega) false (by rw [hS.out]; exact hbs)
              have HBS := hide hbs
              clear hbs
              go_wp2
              go_roundw
              case rel => exact ⟨i + 1, by omega, by go_num, ⟨p, hp8, rfl, by rw [Hid, pop_step i S _ HBS.out, Hp.out]; rfl⟩, ⟨fb, rfl, by rw [Hid, free_step zs S i _ _ HBS.out Hf.out]; rfl⟩, hI⟩
              case measure => simp [intOf]; omega
            · have ht := shr_set x2 i (by omega) true (by rw [hS.out]; exact hbs)
              have HBS := hide hbs
              have hpl := pop_le (i + 1) S
              rw [pop_step i S _ HBS.out, Hp.out] at hpl
              simp only [if_true] at hpl
              clear hbs
              cases fb
              · go_wp2
                go_roundw
                case rel => exact ⟨i + 1, by omega, by go_num, ⟨p + 1, by omega, by go_num, by rw [Hid, pop_step i S _ HBS.out, Hp.out]; rfl⟩, ⟨false, rfl, by rw [Hid, free_step zs S i _ _ HBS.out Hf.out]; rfl⟩, hI⟩
                case measure => simp [intOf]; omega
              · cases hcs : (ci &&& S == 0)
                · have ha := and_set ci x2 hcib false (by rw [hS.out]; exact hcs)
                  go_wp2
                  go_roundw
                  case rel => exact ⟨i + 1, by omega, by go_num, ⟨p + 1, by omega, by go_num, by rw [Hid, pop_step i S _ HBS.out, Hp.out]; rfl⟩, ⟨false, rfl, by rw [Hid, free_step zs S i _ _ HBS.out Hf.out, hci.out, hcs]; rfl⟩, hI⟩
                  case measure => simp [intOf]; omega
                · have ha := and_set ci x2 hcib true (by rw [hS.out]; exact hcs)
                  go_wp2
                  go_roundw
                  case rel => exact ⟨i + 1, by omega, by go_num, ⟨p + 1, by omega, by go_num, by rw [Hid, pop_step i S _ HBS.out, Hp.out]; rfl⟩, ⟨true, rfl, by rw [Hid, free_step zs S i _ _ HBS.out Hf.out, hci.out, hcs]; rfl⟩, hI⟩
                  case measure => simp [intOf]; omega
      · have hin : i = n := by omega
        subst hin
        cases fb
        · go_wp2
          go_ret
          exact ⟨rfl, hI.old⟩
        · have hle := HFF.out S (by rw [hn]; exact Hf.out)
          rw [hn, Hp.out] at hle
          go_wp2
          go_ret
          exact ⟨ret_bool (by simp), hI.old⟩

end Go.Proofs.Ytihiagjlpkjpeaa
