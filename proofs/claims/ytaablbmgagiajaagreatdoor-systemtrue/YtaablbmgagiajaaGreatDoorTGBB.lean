import Derived.Test.YtaablbmgagiajaaGreatDoorTGBA
namespace Go.Proofs.YtaablbmgagiajaaGreatDoor
open Go.RowKit Go.Deep
theorem ag_no {b : Nat → Bool} {x : Nat → Cm} {d : Cm} {k a : Nat} (hs : agTo b x d k = a) (h : agB b x d k = false) : Hid (agTo b x d (k + 1) = a) := by
  show (if agB b x d k = true then agTo b x d k ||| 2 ^ k else agTo b x d k) = a
  rw [h, hs]; rfl
theorem ag_yes {b : Nat → Bool} {x : Nat → Cm} {d : Cm} {k a : Nat} (hs : agTo b x d k = a) (h : agB b x d k = true) : Hid (agTo b x d (k + 1) = a ||| 2 ^ k) := by
  show (if agB b x d k = true then agTo b x d k ||| 2 ^ k else agTo b x d k) = a ||| 2 ^ k
  rw [h, hs]; rfl
theorem or_lit (a n : Nat) (h : a < 8) (hn : n < 8) : bits BinOp.or IntKind.i64 (a : Int) (n : Int) = ((a ||| n : Nat) : Int) := or_nat a n (by omega) (by omega)
set_option maxHeartbeats 1000000 in
set_option maxRecDepth 20000 in
theorem against_any (N p win : Nat) (tv : Value) (S : VS) (w : World) (d : Cm) (h : VIs w N p win tv S) :
    Calls Tryz.prog 107 #[.pointer (some ⟨p, 0, none⟩), .agg #[.int .i64 d.c, .int .i64 d.v, .int .i64 d.o]] w fun e w' => e = .returned (.int .i64 ((agTo S.b S.x d 3 : Nat) : Int)) ∧ Below w.heap.size w w' := by
  have hvt := (h.below ((Below.refl _ _).alloc (Nat.le_refl _) (.cells #[.int .i64 d.c, .int .i64 d.v, .int .i64 d.o] 59))).votes
  have HVT := hide hvt
  have hp := h.lt
  have HB0 : Hid (Below w.heap.size w (w.alloc (.cells #[.int .i64 d.c, .int .i64 d.v, .int .i64 d.o] 59))) := hide ((Below.refl _ _).alloc (Nat.le_refl _) _)
  obtain ⟨d1, d2, d3⟩ := d
  obtain ⟨b0, hb0⟩ : ∃ z, Hid (S.b 0 = z) := ⟨_, hide rfl⟩
  obtain ⟨b1, hb1⟩ : ∃ z, Hid (S.b 1 = z) := ⟨_, hide rfl⟩
  obtain ⟨b2, hb2⟩ : ∃ z, Hid (S.b 2 = z) := ⟨_, hide rfl⟩
  obtain ⟨⟨x1, x2, x3⟩, hx⟩ : ∃ z, Hid (S.x 0 = z) := ⟨_, hide rfl⟩
  obtain ⟨⟨y1, y2, y3⟩, hy⟩ : ∃ z, Hid (S.x 1 = z) := ⟨_, hide rfl⟩
  obtain ⟨⟨z1, z2, z3⟩, hz⟩ : ∃ z, Hid (S.x 2 = z) := ⟨_, hide rfl⟩
  rw [hb0.out, hb1.out, hb2.out, hx.out, hy.out, hz.out] at HVT
  have hq := eql_input
  have i0 := fun wx a0 a1 a2 a3 a4 a5 a6 a7 a8 a9 a10 a11 => (index_vote wx a0 a1 a2 a3 a4 a5 a6 a7 a8 a9 a10 a11).1
  have i1 := fun wx a0 a1 a2 a3 a4 a5 a6 a7 a8 a9 a10 a11 => (index_vote wx a0 a1 a2 a3 a4 a5 a6 a7 a8 a9 a10 a11).2.1
  have i2 := fun wx a0 a1 a2 a3 a4 a5 a6 a7 a8 a9 a10 a11 => (index_vote wx a0 a1 a2 a3 a4 a5 a6 a7 a8 a9 a10 a11).2.2
  clear h hvt
  go_enter Tryz.func107, Tryz.ntmps107
  go_wp2_with (refine wpList_load_mid rfl 114 _ rfl p 1 rfl _ _ HVT.out Tryz.underlying114 rfl (by rw [infoVotes]; rfl) ?_)
  go_loopw [5, 12] (fun l j wr => Below (w.heap.size + 1) (w.alloc (.cells #[.int .i64 d1, .int .i64 d2, .int .i64 d3] 59)) wr ∧ ∃ k : Nat, k ≤ 3 ∧ j = .int .i64 k ∧ ∃ a : Nat, a < 8 ∧ l = .int .i64 a ∧ Hid (agTo S.b S.x ⟨d1, d2, d3⟩ k = a)) (fun _ j _ => 3 - (intOf j).toNat)
  case atStart => exact ⟨Below.refl _ _, 0, by omega, rfl, 0, by omega, rfl, rfl⟩
  case round =>
    obtain ⟨hB, k, hk, rfl, a, ha, rfl, HS⟩ := hrel
    have hblk := (hB.block w.heap.size (by omega)).trans (blk_new _ _)
    have c0 : wr.cell? ⟨w.heap.size, 0, none⟩ = some (.int .i64 d1) := (blk_cell hblk 0).trans rfl
    have c1 : wr.cell? ⟨w.heap.size, 1, none⟩ = some (.int .i64 d2) := (blk_cell hblk 1).trans rfl
    have c2 : wr.cell? ⟨w.heap.size, 2, none⟩ = some (.int .i64 d3) := (blk_cell hblk 2).trans rfl
    have HB := hide hB
    have hs : w.heap.size < wr.heap.size := blk_lt hblk
    clear hB hblk
    rcases (by omega : k = 0 ∨ k = 1 ∨ k = 2 ∨ k = 3) with rfl | rfl | rfl | rfl
    · have HK : Hid (agB S.b S.x ⟨d1, d2, d3⟩ 0 = ((b0 && eqI x1 x2 d1 d2) && x3 != d3)) := hide (by unfold agB eqIn eqI; rw [hb0.out, hx.out])
      cases b0
      · rw [Bool.false_and, Bool.false_and] at HK
        go_wp2
        go_roundw
        case rel => exact ⟨HB.out.alloc (by omega) _, 1, by omega, by go_num, a, ha, rfl, ag_no HS.out HK.out⟩
        case measure => simp [intOf]
      · cases he : eqI x1 x2 d1 d2
        · rw [he, Bool.and_false, Bool.false_and] at HK
          go_wp2
          go_roundw
          case rel => exact ⟨HB.out.alloc (by omega) _, 1, by omega, by go_num, a, ha, rfl, ag_no HS.out HK.out⟩
          case measure => simp [intOf]
        · cases ho : (x3 != d3)
          · rw [he, ho, Bool.and_false] at HK
            go_wp2
            go_roundw
            case rel => exact ⟨HB.out.alloc (by omega) _, 1, by omega, by go_num, a, ha, rfl, ag_no HS.out HK.out⟩
            case measure => simp [intOf]
          · rw [he, ho, Bool.and_self, Bool.and_self] at HK
            have eo : bits BinOp.or IntKind.i64 (a : Int) 1 = ((a ||| 2 ^ 0 : Nat) : Int) := or_lit a 1 ha (by omega)
            have hlt : a ||| 2 ^ 0 < 8 := Nat.or_lt_two_pow (n := 3) ha (by decide)
            obtain ⟨m, hm⟩ : ∃ m, Hid (a ||| 2 ^ 0 = m) := ⟨_, hide rfl⟩
            rw [hm.out] at eo hlt
            go_wp2
            go_roundw
            case rel => exact ⟨HB.out.alloc (by omega) _, 1, by omega, by go_num, m, hlt, rfl, by rw [← hm.out]; exact ag_yes HS.out HK.out⟩
            case measure => simp [intOf]
    · have HK : Hid (agB S.b S.x ⟨d1, d2, d3⟩ 1 = ((b1 && eqI y1 y2 d1 d2) && y3 != d3)) := hide (by unfold agB eqIn eqI; rw [hb1.out, hy.out])
      cases b1
      · rw [Bool.false_and, Bool.false_and] at HK
        go_wp2
        go_roundw
        case rel => exact ⟨HB.out.alloc (by omega) _, 2, by omega, by go_num, a, ha, rfl, ag_no HS.out HK.out⟩
        case measure => simp [intOf]
      · cases he : eqI y1 y2 d1 d2
        · rw [he, Bool.and_false, Bool.false_and] at HK
          go_wp2
          go_roundw
          case rel => exact ⟨HB.out.alloc (by omega) _, 2, by omega, by go_num, a, ha, rfl, ag_no HS.out HK.out⟩
          case measure => simp [intOf]
        · cases ho : (y3 != d3)
          · rw [he, ho, Bool.and_false] at HK
            go_wp2
            go_roundw
            case rel => exact ⟨HB.out.alloc (by omega) _, 2, by omega, by go_num, a, ha, rfl, ag_no HS.out HK.out⟩
            case measure => simp [intOf]
          · rw [he, ho, Bool.and_self, Bool.and_self] at HK
            have eo : bits BinOp.or IntKind.i64 (a : Int) 2 = ((a ||| 2 ^ 1 : Nat) : Int) := or_lit a 2 ha (by omega)
            have hlt : a ||| 2 ^ 1 < 8 := Nat.or_lt_two_pow (n := 3) ha (by decide)
            obtain ⟨m, hm⟩ : ∃ m, Hid (a ||| 2 ^ 1 = m) := ⟨_, hide rfl⟩
            rw [hm.out] at eo hlt
            go_wp2
            go_roundw
            case rel => exact ⟨HB.out.alloc (by omega) _, 2, by omega, by go_num, m, hlt, rfl, by rw [← hm.out]; exact ag_yes HS.out HK.out⟩
            case measure => simp [intOf]
    · have HK : Hid (agB S.b S.x ⟨d1, d2, d3⟩ 2 = ((b2 && eqI z1 z2 d1 d2) && z3 != d3)) := hide (by unfold agB eqIn eqI; rw [hb2.out, hz.out])
      cases b2
      · rw [Bool.false_and, Bool.false_and] at HK
        go_wp2
        go_roundw
        case rel => exact ⟨HB.out.alloc (by omega) _, 3, by omega, by go_num, a, ha, rfl, ag_no HS.out HK.out⟩
        case measure => simp [intOf]
      · cases he : eqI z1 z2 d1 d2
        · rw [he, Bool.and_false, Bool.false_and] at HK
          go_wp2
          go_roundw
          case rel => exact ⟨HB.out.alloc (by omega) _, 3, by omega, by go_num, a, ha, rfl, ag_no HS.out HK.out⟩
          case measure => simp [intOf]
        · cases ho : (z3 != d3)
          · rw [he, ho, Bool.and_false] at HK
            go_wp2
            go_roundw
            case rel => exact ⟨HB.out.alloc (by omega) _, 3, by omega, by go_num, a, ha, rfl, ag_no HS.out HK.out⟩
            case measure => simp [intOf]
          · rw [he, ho, Bool.and_self, Bool.and_self] at HK
            have eo : bits BinOp.or IntKind.i64 (a : Int) 4 = ((a ||| 2 ^ 2 : Nat) : Int) := or_lit a 4 ha (by omega)
            have hlt : a ||| 2 ^ 2 < 8 := Nat.or_lt_two_pow (n := 3) ha (by decide)
            obtain ⟨m, hm⟩ : ∃ m, Hid (a ||| 2 ^ 2 = m) := ⟨_, hide rfl⟩
            rw [hm.out] at eo hlt
            go_wp2
            go_roundw
            case rel => exact ⟨HB.out.alloc (by omega) _, 3, by omega, by go_num, m, hlt, rfl, by rw [← hm.out]; exact ag_yes HS.out HK.out⟩
            case measure => simp [intOf]
    · go_wp2
      go_ret
      exact ⟨ret_int (by rw [HS.out]), HB0.out.trans (HB.out.mono (by omega))⟩
end Go.Proofs.YtaablbmgagiajaaGreatDoor
