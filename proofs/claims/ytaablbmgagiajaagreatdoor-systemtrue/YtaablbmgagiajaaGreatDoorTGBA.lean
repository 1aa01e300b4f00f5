import Derived.Test.YtaablbmgagiajaaGreatDoorTGAX
import Derived.Test.YtaablbmgagiajaaGreatDoorTGAZ
namespace Go.Proofs.YtaablbmgagiajaaGreatDoor
open Go.RowKit Go.Deep
theorem infoVotes : (Tryz.prog.info? 114).map (·.size) = some 12 := by kernel_rfl
theorem VIs.votes {w : World} {N p win : Nat} {tv : Value} {S : VS} (h : VIs w N p win tv S) : w.rangeAt p 1 [.bool (S.b 0), .int .i64 (S.x 0).c, .int .i64 (S.x 0).v, .int .i64 (S.x 0).o, .bool (S.b 1), .int .i64 (S.x 1).c, .int .i64 (S.x 1).v, .int .i64 (S.x 1).o, .bool (S.b 2), .int .i64 (S.x 2).c, .int .i64 (S.x 2).v, .int .i64 (S.x 2).o] := fun j v hv => by
  have hj : j < 12 := (List.getElem?_eq_some_iff.1 hv).1
  rw [h.at, ← hv]
  match j, hj with
  | 0, _ => rfl | 1, _ => rfl | 2, _ => rfl | 3, _ => rfl | 4, _ => rfl | 5, _ => rfl | 6, _ => rfl | 7, _ => rfl | 8, _ => rfl | 9, _ => rfl | 10, _ => rfl | 11, _ => rfl
theorem index_vote (w : World) (a0 a1 a2 a3 a4 a5 a6 a7 a8 a9 a10 a11 : Value) :
    (Instr.index 114 (.agg #[a0, a1, a2, a3, a4, a5, a6, a7, a8, a9, a10, a11]) (.int .i64 0)).run Tryz.prog w = .ok (.agg #[a0, a1, a2, a3]) w ∧
    (Instr.index 114 (.agg #[a0, a1, a2, a3, a4, a5, a6, a7, a8, a9, a10, a11]) (.int .i64 1)).run Tryz.prog w = .ok (.agg #[a4, a5, a6, a7]) w ∧
    (Instr.index 114 (.agg #[a0, a1, a2, a3, a4, a5, a6, a7, a8, a9, a10, a11]) (.int .i64 2)).run Tryz.prog w = .ok (.agg #[a8, a9, a10, a11]) w := by
  refine ⟨?_, ?_, ?_⟩ <;> simp [Instr.index, run_underlying Tryz.underlying114, run_underlying Tryz.underlying113, asIntOf, part, isAgg]
theorem sec_no {b : Nat → Bool} {x : Nat → Cm} {d : Cm} {r k : Nat} (hs : secTo b x d r k = false) (h : k = r ∨ likeB b x d k = false) : Hid (secTo b x d r (k + 1) = false) := by
  show (secTo b x d r k || (k != r && likeB b x d k)) = false
  rw [hs]
  rcases h with h | h
  · subst h; simp
  · rw [h]; simp
theorem sec_yes {b : Nat → Bool} {x : Nat → Cm} {d : Cm} {r k : Nat} (hk : k < 3) (h1 : k ≠ r) (h2 : likeB b x d k = true) : secTo b x d r 3 = true := by
  have e : (k != r && likeB b x d k) = true := by rw [h2]; simpa using h1
  show ((((false || (0 != r && likeB b x d 0)) || (1 != r && likeB b x d 1)) || (2 != r && likeB b x d 2))) = true
  match k, hk with
  | 0, _ => rw [e]; simp
  | 1, _ => rw [e]; simp
  | 2, _ => rw [e]; simp
set_option maxHeartbeats 3000000 in
set_option maxRecDepth 20000 in
theorem seconded_any (N p win : Nat) (tv : Value) (S : VS) (w : World) (r : Nat) (v : Int) (hv : Hid (v = r)) (d : Cm) (h : VIs w N p win tv S) (hr : r < 3) :
    Calls Tryz.prog 101 #[.pointer (some ⟨p, 0, none⟩), .int .i64 v, .agg #[.bool true, .int .i64 d.c, .int .i64 d.v, .int .i64 d.o]] w fun e w' => e = .returned (.bool (secTo S.b S.x d r 3)) ∧ Below w.heap.size w w' := by
  have hvt := (h.below ((Below.refl _ _).alloc (Nat.le_refl _) (.cells #[.bool true, .int .i64 d.c, .int .i64 d.v, .int .i64 d.o] 113))).votes
  have HVT := hide hvt
  have hp := h.lt
  have HB0 : Hid (Below w.heap.size w (w.alloc (.cells #[.bool true, .int .i64 d.c, .int .i64 d.v, .int .i64 d.o] 113))) := hide ((Below.refl _ _).alloc (Nat.le_refl _) _)
  obtain ⟨d1, d2, d3⟩ := d
  obtain ⟨b0, hb0⟩ : ∃ z, Hid (S.b 0 = z) := ⟨_, hide rfl⟩
  obtain ⟨b1, hb1⟩ : ∃ z, Hid (S.b 1 = z) := ⟨_, hide rfl⟩
  obtain ⟨b2, hb2⟩ : ∃ z, Hid (S.b 2 = z) := ⟨_, hide rfl⟩
  obtain ⟨⟨x1, x2, x3⟩, hx⟩ : ∃ z, Hid (S.x 0 = z) := ⟨_, hide rfl⟩
  obtain ⟨⟨y1, y2, y3⟩, hy⟩ : ∃ z, Hid (S.x 1 = z) := ⟨_, hide rfl⟩
  obtain ⟨⟨z1, z2, z3⟩, hz⟩ : ∃ z, Hid (S.x 2 = z) := ⟨_, hide rfl⟩
  rw [hb0.out, hb1.out, hb2.out, hx.out, hy.out, hz.out] at HVT
  have hq := eql_vote
  have i0 := fun wx a0 a1 a2 a3 a4 a5 a6 a7 a8 a9 a10 a11 => (index_vote wx a0 a1 a2 a3 a4 a5 a6 a7 a8 a9 a10 a11).1
  have i1 := fun wx a0 a1 a2 a3 a4 a5 a6 a7 a8 a9 a10 a11 => (index_vote wx a0 a1 a2 a3 a4 a5 a6 a7 a8 a9 a10 a11).2.1
  have i2 := fun wx a0 a1 a2 a3 a4 a5 a6 a7 a8 a9 a10 a11 => (index_vote wx a0 a1 a2 a3 a4 a5 a6 a7 a8 a9 a10 a11).2.2
  clear h hvt
  obtain rfl | rfl | rfl : v = 0 ∨ v = 1 ∨ v = 2 := by have := hv.out; omega
  all_goals
    go_enter Tryz.func101, Tryz.ntmps101
    go_wp2_with (refine wpList_load_mid rfl 114 _ rfl p 1 rfl _ _ HVT.out Tryz.underlying114 rfl (by rw [infoVotes]; rfl) ?_)
    go_loopw [13] (fun j wr => Below (w.heap.size + 1) (w.alloc (.cells #[.bool true, .int .i64 d1, .int .i64 d2, .int .i64 d3] 113)) wr ∧ ∃ k : Nat, k ≤ 3 ∧ j = .int .i64 k ∧ Hid (secTo S.b S.x ⟨d1, d2, d3⟩ r k = false)) (fun j _ => 3 - (intOf j).toNat)
    case atStart => exact ⟨Below.refl _ _, 0, by omega, rfl, rfl⟩
    case round =>
      obtain ⟨hB, k, hk, rfl, HS⟩ := hrel
      have hblk := (hB.block w.heap.size (by omega)).trans (blk_new _ _)
      have c0 : wr.cell? ⟨w.heap.size, 0, none⟩ = some (.bool true) := (blk_cell hblk 0).trans rfl
      have c1 : wr.cell? ⟨w.heap.size, 1, none⟩ = some (.int .i64 d1) := (blk_cell hblk 1).trans rfl
      have c2 : wr.cell? ⟨w.heap.size, 2, none⟩ = some (.int .i64 d2) := (blk_cell hblk 2).trans rfl
      have c3 : wr.cell? ⟨w.heap.size, 3, none⟩ = some (.int .i64 d3) := (blk_cell hblk 3).trans rfl
      have HB := hide hB
      have hs : w.heap.size < wr.heap.size := blk_lt hblk
      clear hB hblk
      rcases (by omega : k = 0 ∨ k = 1 ∨ k = 2 ∨ k = 3) with rfl | rfl | rfl | rfl
      · have HK : Hid (likeB S.b S.x ⟨d1, d2, d3⟩ 0 = (b0 && eqCm ⟨x1, x2, x3⟩ ⟨d1, d2, d3⟩)) := hide (by unfold likeB; rw [hb0.out, hx.out])
        cases b0
        · go_wp2
          go_roundw
          case rel => exact ⟨HB.out.alloc (by omega) _, 1, by omega, by go_num, sec_no HS.out (.inr HK.out)⟩
          case measure => simp [intOf]
        · cases he : eqCm ⟨x1, x2, x3⟩ ⟨d1, d2, d3⟩
          · rw [he] at HK
            go_wp2
            go_roundw
            case rel => exact ⟨HB.out.alloc (by omega) _, 1, by omega, by go_num, sec_no HS.out (.inr HK.out)⟩
            case measure => simp [intOf]
          · rw [he] at HK
            first
            | have HY := hide (sec_yes (r := r) (by decide) (by have := hv.out; omega) HK.out)
              go_wp2
              go_ret
              exact ⟨ret_bool HY.out.symm, HB0.out.trans (((HB.out.mono (by omega)).alloc (by omega) _))⟩
            | go_wp2
              go_roundw
              case rel => exact ⟨HB.out.alloc (by omega) _, 1, by omega, by go_num, sec_no HS.out (.inl (by have := hv.out; omega))⟩
              case measure => simp [intOf]
      · have HK : Hid (likeB S.b S.x ⟨d1, d2, d3⟩ 1 = (b1 && eqCm ⟨y1, y2, y3⟩ ⟨d1, d2, d3⟩)) := hide (by unfold likeB; rw [hb1.out, hy.out])
        cases b1
        · go_wp2
          go_roundw
          case rel => exact ⟨HB.out.alloc (by omega) _, 2, by omega, by go_num, sec_no HS.out (.inr HK.out)⟩
          case measure => simp [intOf]
        · cases he : eqCm ⟨y1, y2, y3⟩ ⟨d1, d2, d3⟩
          · rw [he] at HK
            go_wp2
            go_roundw
            case rel => exact ⟨HB.out.alloc (by omega) _, 2, by omega, by go_num, sec_no HS.out (.inr HK.out)⟩
            case measure => simp [intOf]
          · rw [he] at HK
            first
            | have HY := hide (sec_yes (r := r) (by decide) (by have := hv.out; omega) HK.out)
              go_wp2
              go_ret
              exact ⟨ret_bool HY.out.symm, HB0.out.trans (((HB.out.mono (by omega)).alloc (by omega) _))⟩
            | go_wp2
              go_roundw
              case rel => exact ⟨HB.out.alloc (by omega) _, 2, by omega, by go_num, sec_no HS.out (.inl (by have := hv.out; omega))⟩
              case measure => simp [intOf]
      · have HK : Hid (likeB S.b S.x ⟨d1, d2, d3⟩ 2 = (b2 && eqCm ⟨z1, z2, z3⟩ ⟨d1, d2, d3⟩)) := hide (by unfold likeB; rw [hb2.out, hz.out])
        cases b2
        · go_wp2
          go_roundw
          case rel => exact ⟨HB.out.alloc (by omega) _, 3, by omega, by go_num, sec_no HS.out (.inr HK.out)⟩
          case measure => simp [intOf]
        · cases he : eqCm ⟨z1, z2, z3⟩ ⟨d1, d2, d3⟩
          · rw [he] at HK
            go_wp2
            go_roundw
            case rel => exact ⟨HB.out.alloc (by omega) _, 3, by omega, by go_num, sec_no HS.out (.inr HK.out)⟩
            case measure => simp [intOf]
          · rw [he] at HK
            first
            | have HY := hide (sec_yes (r := r) (by decide) (by have := hv.out; omega) HK.out)
              go_wp2
              go_ret
              exact ⟨ret_bool HY.out.symm, HB0.out.trans (((HB.out.mono (by omega)).alloc (by omega) _))⟩
            | go_wp2
              go_roundw
              case rel => exact ⟨HB.out.alloc (by omega) _, 3, by omega, by go_num, sec_no HS.out (.inl (by have := hv.out; omega))⟩
              case measure => simp [intOf]
      · go_wp2
        go_ret
        exact ⟨ret_bool HS.out.symm, HB0.out.trans (HB.out.mono (by omega))⟩
end Go.Proofs.YtaablbmgagiajaaGreatDoor
