/- The walk of triumvirkeep.CoreSafe: it says yes, and writes nothing that was there. -/
import Derived.Test.YtpkfgpagkgmpcaaLine
import Derived.Test.YtpkfgpagkgmpcaaSafeFact
import Derived.Deep.DeepCutAuto
namespace Go.Proofs.Ytpkfgpagkgmpcaa
open Go.RowKit Go.Deep

/-- What is seen, one input after another, in memory. -/
def InAt (w : World) (a : Option Addr) (len : Nat) : Prop := ∀ i, i < len → ∃ b off x y, a = some ⟨b, off, none⟩ ∧ b < w.heap.size ∧ w.cell? ⟨b, off + i * 2, none⟩ = some (.int .i64 x) ∧ w.cell? ⟨b, off + i * 2 + 1, none⟩ = some (.int .i64 y)

/-- A whole state that is read, in a region that draws its order. -/
theorem yields_st {ops : Array Oper} {S' : World → Prop} {op : Oper} {a : Act} (hw : Region.wanted op (yielded ops a.tmps) = true) (x : Operand) (ho : op.op = .load 40 x)
    (b : Nat) (hx : a.eval x = .pointer (some ⟨b, 0, none⟩)) (S : St) (hS : ∀ w, S' w → StIs w b S) : YieldsIf Try.prog ops S' op (.agg (stCells S)) a :=
  .inl ⟨hw, fun w h => by
    unfold execOp
    simp only [ho, hx, Instr.loadAt, Instr.sureAddr, Sem.run_bind, Sem.run_pure, Result.andThen_ok, run_loadVar_row (P := Try.prog) w b _ 40 _ _ _ (hS w h) Try.underlying40 rfl (by rw [stateInfo]; rfl)]⟩

theorem core_any (x : Int) (i : Nat) (hi : i ≤ 62) : (bits BinOp.and IntKind.i64 (x / 2 ^ i) 1 == 0) = !(u64 x).testBit i := by
  rw [shr_bit x i hi, testBit_eq]
  cases (u64 x).testBit i <;> rfl
theorem core_test (m i : Nat) (hm : m < 9223372036854775808) (hi : i ≤ 62) : (bits BinOp.and IntKind.i64 ((m : Int) / 2 ^ i) 1 == 1) = m.testBit i ∧ (bits BinOp.and IntKind.i64 ((m : Int) / 2 ^ i) 1 == 0) = !m.testBit i := by
  have h1 := shr_bool (m : Int) i hi
  have h2 := core_any (m : Int) i hi
  rw [u64_nat m hm] at h1 h2
  exact ⟨h1, h2⟩

/-- What holds from input to input: all that lay there when the state was laid is as it was. -/
structure VInv (w3 wr : World) (S : St) : Prop where
  old : Below w3.heap.size w3 wr
  st : StIs wr w3.heap.size S

theorem VInv.drew {w3 wr : World} {S : St} (h : VInv w3 wr S) : VInv w3 wr.drew S := ⟨h.old.drew, h.st⟩
theorem VInv.below {w3 wr wx : World} {S : St} (h : VInv w3 wr S) (hB : Below wr.heap.size wr wx) : VInv w3 wx S := ⟨h.old.trans (hB.mono h.old.size), (hB.block _ h.st.lt).trans h.st⟩

theorem VInv.row {w3 wr : World} {S : St} (h : VInv w3 wr S) {N : Nat} (hN : w3.heap.size < N) (cs : Array Value) : VInv w3 (wr.setRow N cs) S := ⟨below_row h.old (Nat.le_of_lt hN) cs, (row_other _ _ _ _ (by omega)).trans h.st⟩

set_option maxHeartbeats 4000000 in
set_option maxRecDepth 20000 in
theorem safe_walk (a0 a1 : Int) (a : Option Addr) (len cap : Nat) (ai : Option Addr) (li ci : Nat) (w : World) (hrt : ∀ i, i < len → ∃ b off z, a = some ⟨b, off, none⟩ ∧ b < w.heap.size ∧ w.cell? ⟨b, off + i, none⟩ = some (.int .i64 z)) (hin : InAt w ai li) (hm : len ≤ maxLen) (hmi : li ≤ maxLen) :
    Calls Try.prog 4 #[.int .i64 a0, .int .i64 a1, .slice a len cap, .slice ai li ci] w fun e w' => e = .returned (.bool true) ∧ Below w.heap.size w w' := by
  unfold maxLen at hm hmi
  by_cases hl : 30 < len
  · clear hrt hin
    go_enter Try.func4, Try.ntmps4
    go_wp2
    go_ret
    exact ⟨rfl, Below.refl _ _⟩
  by_cases hli : 150 < li
  · clear hrt hin
    go_enter Try.func4, Try.ntmps4
    go_wp2
    go_ret
    exact ⟨rfl, Below.refl _ _⟩
  have hln := fun (wx : World) (hB : Below w.heap.size w wx) => line_any a0 a1 a len cap wx (by omega) (fun i hi => by
      obtain ⟨b, off, z, h1, h2, h3⟩ := hrt i hi
      exact ⟨b, off, z, h1, Nat.lt_of_lt_of_le h2 hB.size, (hB.cell (p := ⟨b, off + i, none⟩) h2).trans h3⟩)
  have HLN := hide hln
  have HIN := hide hin
  clear hln hrt hin
  go_enter Try.func4, Try.ntmps4
  go_wp2_with fail
  refine (shown_any _).mono ?_
  rintro e w1 ⟨rfl, hB1⟩
  have HB1 := hide hB1
  clear hB1
  go_wp2_with fail
  refine (unhide HLN _ HB1.out).mono ?_
  rintro e w2 ⟨⟨x, rfl, s, d, b, off, n, cp, zs, rfl, hn, hcp, hb, hrow, hok⟩, hB2⟩
  have hB2' : Below w.heap.size w w2 := HB1.out.trans (hB2.mono HB1.out.size)
  have HB2 := hide hB2'
  have hw2 : w.heap.size ≤ w2.heap.size := hB2'.size
  have HROW := hide hrow
  have HOK := hide hok
  have hr := range_pos hok
  unfold rangeB at hr
  simp only [Bool.and_eq_true, inB_iff] at hr
  obtain ⟨⟨⟨bs1, bs2⟩, b21, b22⟩, bd1, bd2⟩ := hr
  obtain ⟨sn, rfl⟩ := Int.eq_ofNat_of_zero_le (show 0 ≤ s by omega)
  obtain ⟨dn, rfl⟩ := Int.eq_ofNat_of_zero_le bd1
  clear HLN HB1 hB2 hB2' hrow hok
  rw [hn] at b21 b22
  have b22' : n ≤ 8 := by omega
  go_wp2_with fail
  have hb3 : Below w2.heap.size w2 (w2.alloc (.cells #[.int .i64 (sn : Int), .slice (some ⟨b, off, none⟩) n cp, .int .i64 (dn : Int)] 25)) := (Below.refl _ _).alloc (Nat.le_refl _) _
  refine (new_ok (sn : Int) (dn : Int) b off n cp zs _ hn HOK.out (by simp; omega) (HROW.out.below hb hb3) hcp).mono ?_
  rintro e w3 ⟨⟨p, g, cg, M, hp, hg, hM, rfl, hK⟩, hB3⟩
  have hbl : w3.heap[w2.heap.size]? = some (.cells #[.int .i64 (sn : Int), .slice (some ⟨b, off, none⟩) n cp, .int .i64 (dn : Int)] 25 (0, 0)) := (hB3.block _ (by simp)).trans (blk_new _ _)
  have hs3 : w2.heap.size < w3.heap.size := blk_lt hbl
  have h23 : Below w2.heap.size w2 w3 := hb3.trans (hB3.mono (by simp))
  have hB3' : Below w.heap.size w w3 := HB2.out.trans (h23.mono hw2)
  have HB3 := hide hB3'
  have HBL := hide hbl
  have HR3 := hide (HROW.out.below hb h23)
  have HK := hide hK
  have hI0 : VInv w3 (w3.alloc (.cells (stCells st0) 40)) st0 := ⟨(Below.refl _ _).alloc (Nat.le_refl _) _, blk_new _ _⟩
  have HI0 := hide hI0
  clear hB3 h23 hb3 hB3' HROW HB2 hK hbl hI0 hp hg hM
  go_wp2
  go_loopw [13] (fun i wr => ∃ k : Nat, k ≤ li ∧ i = .int .i64 k ∧ ∃ S, VInv w3 wr S ∧ Good (rt zs) n (k : Int) S) (fun i _ => li - (intOf i).toNat)
  case atStart => exact ⟨0, Nat.zero_le _, rfl, st0, HI0.out, good0 _ _⟩
  case round =>
    clear HI0
    obtain ⟨k, hk, rfl, S, hI, hG⟩ := hrel
    by_cases hlt : k < li
    · obtain ⟨bi, oi, x, y, rfl, hbi, hx, hy⟩ := unhide HIN k hlt
      have hw3 := HB3.out.size
      have hx3 : ∀ wx, Below w3.heap.size w3 wx → wx.cell? ⟨bi, oi + k * 2, none⟩ = some (.int .i64 x) ∧ wx.cell? ⟨bi, oi + k * 2 + 1, none⟩ = some (.int .i64 y) := fun wx hwx =>
        ⟨((HB3.out.trans (hwx.mono hw3)).cell (p := ⟨bi, oi + k * 2, none⟩) hbi).trans hx, ((HB3.out.trans (hwx.mono hw3)).cell (p := ⟨bi, oi + k * 2 + 1, none⟩) hbi).trans hy⟩
      have HX3 := hide hx3
      obtain ⟨NX, hNX⟩ : ∃ NX, Hid (nextF (rt zs) (conf zs) n dn (fitN sn x) (fitN n y) S = NX) := ⟨_, hide rfl⟩
      obtain ⟨out, hout⟩ : ∃ out, Hid (outF (rt zs) (conf zs) n dn (fitN sn x) (fitN n y) S = out) := ⟨_, hide rfl⟩
      have hstp : ∀ wx, Below w3.heap.size w3 wx → Calls Try.prog 11 #[.pointer (some ⟨p, 0, none⟩), .agg (stCells S), .agg #[.int .i64 x, .int .i64 y]] wx fun e w' =>
          e = .returned (.tuple #[.agg (stCells NX), .int .i64 (out : Int)]) ∧ Hid (Below wx.heap.size wx w') := by
        intro wx hwx
        rw [← hNX.out, ← hout.out]
        refine (step_any p sn dn n zs g cg M x y S wx (HK.out.below HK.out.plt HK.out.glt HK.out.mlt hwx) (good_ok HOK.out (by rw [hn]; exact hG) (by omega))).mono ?_
        rintro e w' ⟨he, hB⟩
        exact ⟨he, hB⟩
      have HSTP := hide hstp
      have HI := hide hI
      have HG := hide hG
      clear hx3 hstp hI hG hx hy
      go_wp2_with fail
      go_cut [14, 15] from 44 to 186 (fun q o wc => ∃ N', q = .pointer (some ⟨N', 0, none⟩) ∧ o = .int .i64 (out : Int) ∧ w3.heap.size < N' ∧ VInv w3 wc S ∧ StIs wc N' NX)
      case first =>
        have hss : ∀ wx, VInv w3 wx S → StIs wx w3.heap.size S ∧ wx.cell? ⟨bi, oi + k * 2, none⟩ = some (.int .i64 x) ∧ wx.cell? ⟨bi, oi + k * 2 + 1, none⟩ = some (.int .i64 y) := fun wx h => ⟨h.st, (HX3.out wx h.old).1, (HX3.out wx h.old).2⟩
        refine wp_region_held_drew (S := fun w' => StIs w' w3.heap.size S ∧ w'.cell? ⟨bi, oi + k * 2, none⟩ = some (.int .i64 x) ∧ w'.cell? ⟨bi, oi + k * 2 + 1, none⟩ = some (.int .i64 y)) (by kernel_rfl) (hss _ ⟨HI.out.old.drew, HI.out.st⟩) (fun hHeld => ?_)
        refine wpAnyH_take (i := 0) (oi := _) (v := .pointer (some ⟨p, 0, none⟩)) rfl (by kernel_rfl) (by kernel_rfl) (by kernel_rfl) (fun _ _ _ h => h) (Or.inl ⟨by rfl, fun w _ => by go_simp⟩) hHeld ?_
        refine wpAnyH_take (i := 1) (oi := _) (v := .agg (stCells S)) rfl (by kernel_rfl) (by kernel_rfl) (by kernel_rfl) (fun _ _ _ h => h) (yields_st (by rfl) _ rfl _ rfl _ (fun w h => h.1)) hHeld ?_
        refine wpAnyH_take (i := 2) (oi := _) (v := .slice (some ⟨bi, oi, none⟩) li ci) rfl (by kernel_rfl) (by kernel_rfl) (by kernel_rfl) (fun _ _ _ h => h) (Or.inl ⟨by rfl, fun w _ => by go_simp⟩) hHeld ?_
        refine wpAnyH_take (i := 3) (oi := _) (v := .int .i64 (k : Int)) rfl (by kernel_rfl) (by kernel_rfl) (by kernel_rfl) (fun _ _ _ h => h) (Or.inl ⟨by rfl, fun w _ => by go_simp⟩) hHeld ?_
        refine wpAnyH_take (i := 4) (oi := _) (v := .pointer (some ⟨bi, oi + k * 2, none⟩)) rfl (by kernel_rfl) (by kernel_rfl) (by kernel_rfl) (fun _ _ _ h => h) (Or.inl ⟨by rfl, fun w _ => by go_simp⟩) hHeld ?_
        refine wpAnyH_take (i := 5) (oi := _) (v := .agg #[.int .i64 x, .int .i64 y]) rfl (by kernel_rfl) (by kernel_rfl) (by kernel_rfl) (fun _ _ _ h => h) (Or.inl ⟨by rfl, fun w h => by obtain ⟨_, h1, h2⟩ := h; go_simp⟩) hHeld ?_
        refine wpAnyH_ready (rs := [6, 10]) (by kernel_rfl) (by simp) ?_
        refine AllReadyH.cons (o := _) rfl (fun K hK => ?_) (AllReadyH.cons (o := _) rfl (fun K hK => ?_) AllReadyH.nil)
        · rw [if_pos (by rfl)]
          go_simp
          go_at_call 11
          refine (unhide HSTP _ HI.out.old.drew).mono ?_
          rintro e w5 ⟨rfl, HB5⟩
          dsimp only
          have hV5 : VInv w3 w5 S := HI.out.drew.below HB5.out
          refine hK.out _ _ (hss _ hV5) (fun hHeld => ?_)
          clear hK K
          refine wpAnyH_take (i := 7) (oi := _) (v := .tuple #[.agg (stCells NX), .int .i64 (out : Int)]) rfl (by kernel_rfl) (by kernel_rfl) (by kernel_rfl) (fun _ _ _ h => h) (Or.inl ⟨by rfl, fun w _ => by go_simp⟩) hHeld ?_
          refine wpAnyH_take (i := 8) (oi := _) (v := .agg (stCells NX)) rfl (by kernel_rfl) (by kernel_rfl) (by kernel_rfl) (fun _ _ _ h => h) (Or.inl ⟨by rfl, fun w _ => by go_simp⟩) hHeld ?_
          refine wpAnyH_take (i := 9) (oi := _) (v := .int .i64 (out : Int)) rfl (by kernel_rfl) (by kernel_rfl) (by kernel_rfl) (fun _ _ _ h => h) (Or.inl ⟨by rfl, fun w _ => by go_simp⟩) hHeld ?_
          refine wpAnyH_ready (rs := [10]) (by kernel_rfl) (by simp) ?_
          refine AllReadyH.cons (o := _) rfl (fun K hK => ?_) AllReadyH.nil
          rw [if_pos (by rfl)]
          go_simp
          have hV6 : VInv w3 (w5.alloc (.cells (stCells st0) 40)) S := hV5.below ((Below.refl _ _).alloc (Nat.le_refl _) _)
          have hz6 : StIs (w5.alloc (.cells (stCells st0) 40)) w5.heap.size st0 := blk_new _ _
          have hN6 : w3.heap.size < w5.heap.size := hV5.st.lt
          refine hK.out _ _ (hss _ hV6) (fun hHeld => ?_)
          clear hK K
          refine wpAnyH_ready (rs := [11]) (by kernel_rfl) (by simp) ?_
          refine AllReadyH.cons (o := _) rfl (fun K hK => ?_) AllReadyH.nil
          rw [if_pos (by rfl)]
          refine wp_store_row _ _ _ rfl _ (stCells NX) rfl rfl _ _ hz6 (by rw [stateInfo]; rfl) rfl (oneCells NX) ?_
          have hV7 := hV6.row hN6 (stCells NX)
          have hz7 := row_same hz6 NX
          refine hK.out _ _ (hss _ hV7) (fun hHeld => ?_)
          clear hK K
          refine wpAnyH_take (i := 12) (oi := _) (v := .int .i64 (out : Int)) rfl (by kernel_rfl) (by kernel_rfl) (by kernel_rfl) (fun _ _ _ h => h) (Or.inl ⟨by rfl, fun w _ => by go_simp⟩) hHeld ?_
          refine wpAnyH_done (by kernel_rfl) ?_ _
          go_wp2_with fail
          go_meet
          exact ⟨_, rfl, rfl, hN6, hV7, hz7⟩
        · rw [if_pos (by rfl)]
          go_simp
          have hN6 : w3.heap.size < wr.heap.size := HI.out.st.lt
          have hV5 : VInv w3 (wr.alloc (.cells (stCells st0) 40)).drew S := (HI.out.below ((Below.refl _ _).alloc (Nat.le_refl _) _)).drew
          have hz5 : StIs (wr.alloc (.cells (stCells st0) 40)).drew wr.heap.size st0 := blk_new _ _
          refine hK.out _ _ (hss _ hV5) (fun hHeld => ?_)
          clear hK K
          refine wpAnyH_ready (rs := [6]) (by kernel_rfl) (by simp) ?_
          refine AllReadyH.cons (o := _) rfl (fun K hK => ?_) AllReadyH.nil
          rw [if_pos (by rfl)]
          go_simp
          go_at_call 11
          refine (unhide HSTP _ hV5.old).mono ?_
          rintro e w6 ⟨rfl, HB6⟩
          dsimp only
          have hV6 : VInv w3 w6 S := hV5.below HB6.out
          have hz6 : StIs w6 wr.heap.size st0 := (HB6.out.block _ hz5.lt).trans hz5
          refine hK.out _ _ (hss _ hV6) (fun hHeld => ?_)
          clear hK K
          refine wpAnyH_take (i := 7) (oi := _) (v := .tuple #[.agg (stCells NX), .int .i64 (out : Int)]) rfl (by kernel_rfl) (by kernel_rfl) (by kernel_rfl) (fun _ _ _ h => h) (Or.inl ⟨by rfl, fun w _ => by go_simp⟩) hHeld ?_
          refine wpAnyH_take (i := 8) (oi := _) (v := .agg (stCells NX)) rfl (by kernel_rfl) (by kernel_rfl) (by kernel_rfl) (fun _ _ _ h => h) (Or.inl ⟨by rfl, fun w _ => by go_simp⟩) hHeld ?_
          refine wpAnyH_take (i := 9) (oi := _) (v := .int .i64 (out : Int)) rfl (by kernel_rfl) (by kernel_rfl) (by kernel_rfl) (fun _ _ _ h => h) (Or.inl ⟨by rfl, fun w _ => by go_simp⟩) hHeld ?_
          refine wpAnyH_ready (rs := [11]) (by kernel_rfl) (by simp) ?_
          refine AllReadyH.cons (o := _) rfl (fun K hK => ?_) AllReadyH.nil
          rw [if_pos (by rfl)]
          refine wp_store_row _ _ _ rfl _ (stCells NX) rfl rfl _ _ hz6 (by rw [stateInfo]; rfl) rfl (oneCells NX) ?_
          have hV7 := hV6.row hN6 (stCells NX)
          have hz7 := row_same hz6 NX
          refine hK.out _ _ (hss _ hV7) (fun hHeld => ?_)
          clear hK K
          refine wpAnyH_take (i := 12) (oi := _) (v := .int .i64 (out : Int)) rfl (by kernel_rfl) (by kernel_rfl) (by kernel_rfl) (fun _ _ _ h => h) (Or.inl ⟨by rfl, fun w _ => by go_simp⟩) hHeld ?_
          refine wpAnyH_done (by kernel_rfl) ?_ _
          go_wp2_with fail
          go_meet
          exact ⟨_, rfl, rfl, hN6, hV7, hz7⟩
      case rest =>
        obtain ⟨N', rfl, rfl, hN', hIc, hNc⟩ := hcut
        have hGN : Good (rt zs) n ((k : Int) + 1) NX := by rw [← hNX.out]; exact next_good (by rw [← hn]; exact conf_conf HOK.out) HG.out
        have HGN := hide hGN
        have hn8 : (2 : Nat) ^ n ≤ 2 ^ 8 := Nat.pow_le_pow_right (by decide) b22'
        have hNs : NX.set < 256 := Nat.lt_of_lt_of_le hGN.set hn8
        have hSs : S.set < 256 := Nat.lt_of_lt_of_le HG.out.set hn8
        have hos : out < 2 ^ n := by rw [← hout.out]; exact showTo_lt _ _ _ _ _ _ (Nat.le_refl _)
        have ho8 : out < 256 := Nat.lt_of_lt_of_le hos hn8
        have hsh : ((out : Int) / 2 ^ n != 0) = false := by
          have e : ((2 : Int) ^ n) = ((2 ^ n : Nat) : Int) := by simp
          rw [e, ← Int.natCast_ediv, Nat.div_eq_of_lt hos]; rfl
        have HSH := hide hsh
        clear hGN hn8 hos hsh
        have l1 : wc.cell? ⟨w2.heap.size, 1, none⟩ = some (.slice (some ⟨b, off, none⟩) n cp) := by rw [blk_cell ((hIc.old.block _ hs3).trans HBL.out)]; rfl
        go_wp2
        clear l1
        go_loopw [16, 17] (fun h i wi => ∃ m : Nat, m ≤ n ∧ i = .int .i64 m ∧ h = .int .i64 ((heldTo (rt zs) NX.set m : Nat) : Int) ∧ VInv w3 wi S ∧ StIs wi N' NX) (fun _ i _ => n - (intOf i).toNat)
        case atStart => exact ⟨0, Nat.zero_le _, rfl, rfl, hIc, hNc⟩
        case round =>
          clear hIc hNc
          obtain ⟨m, hm', rfl, rfl, hIw, hNw⟩ := hrel
          have hrl : ∀ kk, kk < zs.length → rt zs kk < 4096 := fun kk hkk => (rt_in HOK.out hkk).2.2.1
          have hh4 : heldTo (rt zs) NX.set m < 4096 := held_lt fun kk hkk => hrl kk (by omega)
          have hhstep : heldTo (rt zs) NX.set (m + 1) = if NX.set.testBit m then heldTo (rt zs) NX.set m ||| rt zs m else heldTo (rt zs) NX.set m := rfl
          have HHS := hide hhstep
          obtain ⟨hd, hhd⟩ : ∃ hd, Hid (heldTo (rt zs) NX.set m = hd) := ⟨_, hide rfl⟩
          rw [hhd.out] at hh4 HHS ⊢
          have l1 : wr.cell? ⟨w2.heap.size, 1, none⟩ = some (.slice (some ⟨b, off, none⟩) n cp) := by rw [blk_cell ((hIw.old.block _ hs3).trans HBL.out)]; rfl
          clear hrl hhstep
          by_cases hltm : m < n
          · have hm8 : m < 8 := by omega
            have hmz : m < zs.length := by omega
            obtain ⟨hz1, hz2, hz3, hz4⟩ := rt_in HOK.out hmz
            have cr : wr.cell? ⟨b, off + m, none⟩ = some (.int .i64 ((rt zs m : Nat) : Int)) := by
              have := (HR3.out.below (by omega) hIw.old) m hmz
              rw [hz1] at this
              exact this
            have haph := fun hs => held_apart HGN.out.apart hltm hs m (Nat.le_refl _)
            have hgone := fun h1 h2 => next_gone (R := rt zs) (C := conf zs) (d := dn) (c := fitN sn x) (v := fitN n y) (S := S) hltm h1 (by rw [hNX.out]; exact h2)
            have husub := HG.out.used m hltm
            have hshow : out.testBit m = (decide (m < n) && showB (rt zs m) (fitN sn x) (fitN n y) m NX) := by rw [← hout.out]; unfold outF; rw [hNX.out]; exact showTo_bit _ _ _ _ _ _
            rw [Int.toNat_natCast] at hz2
            have hfx : wo (rt zs m) (fitN sn x) = wo (rt zs m) (Go.Proofs.Ytpkfgpagkgmpcaa.u64 x) := sub_fit hz2
            rw [hhd.out] at haph
            obtain ⟨r, hr⟩ : ∃ r, Hid (rt zs m = r) := ⟨_, hide rfl⟩
            rw [hr.out] at cr haph hgone husub hshow hfx hz3 HHS
            obtain ⟨rx, hrx⟩ : ∃ rx, Hid (wo r (Go.Proofs.Ytpkfgpagkgmpcaa.u64 x) = rx) := ⟨_, hide rfl⟩
            have hrx4 : rx < 4096 := by rw [← hrx.out]; exact wo_lt _ hz3
            have erx : bits BinOp.andNot IntKind.i64 (r : Int) x = (rx : Int) := by rw [andnot_left _ _ (by omega), hrx.out]
            rw [hrx.out] at hfx
            obtain ⟨u, hu⟩ : ∃ u, Hid (S.used m = u) := ⟨_, hide rfl⟩
            have cu := hIw.st.used hm8
            rw [hu.out] at cu husub
            have hu4 : u < 4096 := by
              have := (good_ok HOK.out (by rw [hn]; exact HG.out) (by omega)).used m
              rw [hu.out] at this
              exact this
            have cs := hIw.st.set
            have cn := hNw.set
            obtain ⟨cx, cy⟩ := HX3.out _ hIw.old
            have tn := core_test NX.set m (by omega) (by omega)
            have ts := core_test S.set m (by omega) (by omega)
            have tq := core_test out m (by omega) (by omega)
            have HIw := hide hIw
            have HNw := hide hNw
            clear hIw hNw hz1 hz2 hz4 hmz
            cases hnb : NX.set.testBit m
            · have hob : out.testBit m = false := by
                rw [hshow]
                unfold showB
                rw [Nat.testBit_and, hnb]
                simp
              cases hsb : S.set.testBit m
              · rw [hnb] at tn
                rw [hob] at tq
                rw [hsb] at ts
                obtain ⟨tn1, tn0⟩ := tn
                obtain ⟨ts1, _⟩ := ts
                obtain ⟨to1, _⟩ := tq
                rw [hnb, if_neg (by decide)] at HHS
                clear hgone husub hshow hfx haph hnb hob hsb
                go_wp2_with fail
                go_quiet (fail)
                go_wp2
                go_roundw
                case rel => exact ⟨m + 1, by omega, by go_num, by rw [HHS.out], ⟨below_drewN HIw.out.old _, HIw.out.st⟩, HNw.out⟩
                case measure => simp [intOf]; omega
              · by_cases huz : u = 0
                · rw [hnb] at tn
                  rw [hob] at tq
                  rw [hsb] at ts
                  obtain ⟨tn1, tn0⟩ := tn
                  obtain ⟨ts1, _⟩ := ts
                  obtain ⟨to1, _⟩ := tq
                  have hlv := hgone hsb hnb
                  have hr0 : ((rx : Int) != 0) = false := by rw [← hfx, leaves_clear hlv]; rfl
                  have hu0 : ((u : Int) != 0) = false := by rw [huz]; rfl
                  rw [hnb, if_neg (by decide)] at HHS
                  clear hgone husub hshow hfx haph hnb hob hsb hlv huz
                  go_wp2_with fail
                  go_quiet (fail)
                  go_wp2
                  go_roundw
                  case rel => exact ⟨m + 1, by omega, by go_num, by rw [HHS.out], ⟨below_drewN HIw.out.old _, HIw.out.st⟩, HNw.out⟩
                  case measure => simp [intOf]; omega
                · rw [hnb] at tn
                  rw [hob] at tq
                  rw [hsb] at ts
                  obtain ⟨tn1, tn0⟩ := tn
                  obtain ⟨ts1, _⟩ := ts
                  obtain ⟨to1, _⟩ := tq
                  have hlv := hgone hsb hnb
                  have hr0 : ((rx : Int) != 0) = false := by rw [← hfx, leaves_clear hlv]; rfl
                  have hu0 : ((u : Int) != 0) = true := by simpa using huz
                  have hua : u ||| rx = r := by rw [← hfx]; exact leaves_all (by rw [hu.out] at hlv; exact hlv) huz husub
                  have eor : bits BinOp.or IntKind.i64 (u : Int) (rx : Int) = (r : Int) := by rw [or_nat _ _ (by omega) (by omega), hua]
                  rw [hnb, if_neg (by decide)] at HHS
                  clear hgone husub hshow hfx haph hnb hob hsb hlv huz hua
                  go_wp2_with fail
                  go_quiet (fail)
                  go_wp2
                  go_roundw
                  case rel => exact ⟨m + 1, by omega, by go_num, by rw [HHS.out], ⟨below_drewN HIw.out.old _, HIw.out.st⟩, HNw.out⟩
                  case measure => simp [intOf]; omega
            · cases hob : out.testBit m
              · cases hsb : S.set.testBit m
                · rw [hnb] at tn
                  rw [hob] at tq
                  rw [hsb] at ts
                  obtain ⟨tn1, tn0⟩ := tn
                  obtain ⟨ts1, _⟩ := ts
                  obtain ⟨to1, _⟩ := tq
                  have hha := haph hnb
                  have hh0 : (bits BinOp.and IntKind.i64 (hd : Int) (r : Int) != 0) = false := by rw [and_nat _ _ (by omega) (by omega), hha]; rfl
                  have eho : bits BinOp.or IntKind.i64 (hd : Int) (r : Int) = ((hd ||| r : Nat) : Int) := by rw [or_nat _ _ (by omega) (by omega)]
                  rw [hnb, if_pos rfl] at HHS
                  obtain ⟨h2, hh2⟩ : ∃ h2, Hid (hd ||| r = h2) := ⟨_, hide rfl⟩
                  rw [hh2.out] at eho HHS
                  clear hgone husub hshow hfx haph hnb hob hsb hha
                  go_wp2_with fail
                  go_quiet (fail)
                  go_wp2
                  go_roundw
                  case rel => exact ⟨m + 1, by omega, by go_num, by rw [HHS.out], ⟨below_drewN HIw.out.old _, HIw.out.st⟩, HNw.out⟩
                  case measure => simp [intOf]; omega
                · rw [hnb] at tn
                  rw [hob] at tq
                  rw [hsb] at ts
                  obtain ⟨tn1, tn0⟩ := tn
                  obtain ⟨ts1, _⟩ := ts
                  obtain ⟨to1, _⟩ := tq
                  have hha := haph hnb
                  have hh0 : (bits BinOp.and IntKind.i64 (hd : Int) (r : Int) != 0) = false := by rw [and_nat _ _ (by omega) (by omega), hha]; rfl
                  have eho : bits BinOp.or IntKind.i64 (hd : Int) (r : Int) = ((hd ||| r : Nat) : Int) := by rw [or_nat _ _ (by omega) (by omega)]
                  rw [hnb, if_pos rfl] at HHS
                  obtain ⟨h2, hh2⟩ : ∃ h2, Hid (hd ||| r = h2) := ⟨_, hide rfl⟩
                  rw [hh2.out] at eho HHS
                  clear hgone husub hshow hfx haph hnb hob hsb hha
                  go_wp2_with fail
                  go_quiet (fail)
                  go_wp2
                  go_roundw
                  case rel => exact ⟨m + 1, by omega, by go_num, by rw [HHS.out], ⟨below_drewN HIw.out.old _, HIw.out.st⟩, HNw.out⟩
                  case measure => simp [intOf]; omega
              · cases hsb : S.set.testBit m
                · rw [hnb] at tn
                  rw [hob] at tq
                  rw [hsb] at ts
                  obtain ⟨tn1, tn0⟩ := tn
                  obtain ⟨ts1, _⟩ := ts
                  obtain ⟨to1, _⟩ := tq
                  rw [hob] at hshow
                  have hsw := hshow.symm
                  unfold showB at hsw
                  simp only [Bool.and_eq_true, beq_iff_eq, decide_eq_true_eq, Nat.testBit_and, fitN_bit] at hsw
                  obtain ⟨_, ⟨_, _, hyb⟩, _, hcl⟩ := hsw
                  have ty := core_any y m (by omega)
                  rw [hyb] at ty
                  have hr0 : ((rx : Int) != 0) = false := by rw [← hfx, hcl]; rfl
                  have hha := haph hnb
                  have hh0 : (bits BinOp.and IntKind.i64 (hd : Int) (r : Int) != 0) = false := by rw [and_nat _ _ (by omega) (by omega), hha]; rfl
                  have eho : bits BinOp.or IntKind.i64 (hd : Int) (r : Int) = ((hd ||| r : Nat) : Int) := by rw [or_nat _ _ (by omega) (by omega)]
                  rw [hnb, if_pos rfl] at HHS
                  obtain ⟨h2, hh2⟩ : ∃ h2, Hid (hd ||| r = h2) := ⟨_, hide rfl⟩
                  rw [hh2.out] at eho HHS
                  clear hgone husub hshow hfx haph hnb hob hsb hcl hyb hha
                  go_wp2_with fail
                  go_quiet (fail)
                  go_wp2
                  go_roundw
                  case rel => exact ⟨m + 1, by omega, by go_num, by rw [HHS.out], ⟨below_drewN HIw.out.old _, HIw.out.st⟩, HNw.out⟩
                  case measure => simp [intOf]; omega
                · rw [hnb] at tn
                  rw [hob] at tq
                  rw [hsb] at ts
                  obtain ⟨tn1, tn0⟩ := tn
                  obtain ⟨ts1, _⟩ := ts
                  obtain ⟨to1, _⟩ := tq
                  rw [hob] at hshow
                  have hsw := hshow.symm
                  unfold showB at hsw
                  simp only [Bool.and_eq_true, beq_iff_eq, decide_eq_true_eq, Nat.testBit_and, fitN_bit] at hsw
                  obtain ⟨_, ⟨_, _, hyb⟩, _, hcl⟩ := hsw
                  have ty := core_any y m (by omega)
                  rw [hyb] at ty
                  have hr0 : ((rx : Int) != 0) = false := by rw [← hfx, hcl]; rfl
                  have hha := haph hnb
                  have hh0 : (bits BinOp.and IntKind.i64 (hd : Int) (r : Int) != 0) = false := by rw [and_nat _ _ (by omega) (by omega), hha]; rfl
                  have eho : bits BinOp.or IntKind.i64 (hd : Int) (r : Int) = ((hd ||| r : Nat) : Int) := by rw [or_nat _ _ (by omega) (by omega)]
                  rw [hnb, if_pos rfl] at HHS
                  obtain ⟨h2, hh2⟩ : ∃ h2, Hid (hd ||| r = h2) := ⟨_, hide rfl⟩
                  rw [hh2.out] at eho HHS
                  clear hgone husub hshow hfx haph hnb hob hsb hcl hyb hha
                  go_wp2_with fail
                  go_quiet (fail)
                  go_wp2
                  go_roundw
                  case rel => exact ⟨m + 1, by omega, by go_num, by rw [HHS.out], ⟨below_drewN HIw.out.old _, HIw.out.st⟩, HNw.out⟩
                  case measure => simp [intOf]; omega
          · have hmn : m = n := by omega
            subst hmn
            clear hltm
            have hsh := HSH.out
            go_wp2_with (first
              | (refine wpList_load_st rfl _ rfl N' rfl NX hNw ?_)
              | (refine wpList_store_st rfl _ _ rfl w3.heap.size NX rfl rfl _ hIw.st ?_))
            go_roundw
            case rel => exact ⟨k + 1, by omega, by go_num, NX, ⟨below_row hIw.old (Nat.le_refl _) _, row_same hIw.st _⟩, by simpa using HGN.out⟩
            case measure => simp [intOf]; omega
    · go_wp2
      go_ret
      exact ⟨rfl, HB3.out.trans (hI.old.mono HB3.out.size)⟩

end Go.Proofs.Ytpkfgpagkgmpcaa
