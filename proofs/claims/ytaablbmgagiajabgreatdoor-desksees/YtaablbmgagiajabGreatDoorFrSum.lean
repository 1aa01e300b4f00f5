/- The contracts of frame.Sum and triumvirref.Sum. -/
import Derived.Test.YtaablbmgagiajabGreatDoorFrBits
import Derived.Test.YtaablbmgagiajabGreatDoorLeaf
namespace Go.Proofs.YtaablbmgagiajabGreatDoor
open Go.RowKit

/-- A row of bytes in memory. -/
def BRow (w : World) (b off : Nat) (l : List Nat) : Prop := ∀ k, k < l.length → w.cell? ⟨b, off + k, none⟩ = some (.int .u8 ((l[k]?.getD 0 : Nat) : Int))
theorem BRow.below {w wx : World} {b off B : Nat} {l : List Nat} (h : BRow w b off l) (hb : b < B) (hB : Below B w wx) : BRow wx b off l := fun k hk => (hB.cell (p := ⟨b, off + k, none⟩) hb).trans (h k hk)
/-- A list of bytes as a value. -/
def IsB (w : World) (a : Option Addr) (len cap : Nat) (l : List Nat) : Prop := l.length = len ∧ len ≤ cap ∧ (∀ c ∈ l, c < 256) ∧ (l = [] ∨ ∃ b off, a = some ⟨b, off, none⟩ ∧ b < w.heap.size ∧ BRow w b off l)
theorem IsB.below {w wx : World} {a : Option Addr} {len cap : Nat} {l : List Nat} (h : IsB w a len cap l) (hB : Below w.heap.size w wx) : IsB wx a len cap l := by
  obtain ⟨h1, h2, h3, h4⟩ := h
  refine ⟨h1, h2, h3, ?_⟩
  rcases h4 with h4 | ⟨b, off, e, hb, hr⟩
  · exact .inl h4
  · exact .inr ⟨b, off, e, Nat.lt_of_lt_of_le hb hB.size, hr.below hb hB⟩
/-- An element, by a letter. -/
theorem IsB.at {w : World} {a : Option Addr} {len cap : Nat} {l : List Nat} (h : IsB w a len cap l) {k : Nat} (hk : k < len) : ∃ b off c : Nat, a = some ⟨b, off, none⟩ ∧ b < w.heap.size ∧ c < 256 ∧ Hid (l[k]?.getD 0 = c) ∧ w.cell? ⟨b, off + k, none⟩ = some (.int .u8 (c : Int)) := by
  obtain ⟨h1, h2, h3, h4⟩ := h
  have hk' : k < l.length := by omega
  rcases h4 with h4 | ⟨b, off, e, hb, hr⟩
  · subst h4; simp at hk'
  · refine ⟨b, off, _, e, hb, ?_, rfl, hr k hk'⟩
    rw [List.getElem?_eq_getElem hk']
    exact h3 _ (List.getElem_mem hk')

set_option maxHeartbeats 1000000 in
theorem sum_any (a : Option Addr) (len cap : Nat) (l : List Nat) (w : World) (hl : len ≤ 1000) (h : IsB w a len cap l) :
    Calls Tryz.prog 136 #[.slice a len cap] w fun e w' => e = .returned (.int .u32 (((crc l).toNat : Nat) : Int)) ∧ w' = w := by
  have HX := hide h
  clear h
  go_enter Tryz.func136, Tryz.ntmps136
  go_wp2
  go_loop [3, 9] (fun n i => ∃ k : Nat, k ≤ len ∧ i = .int .i64 k ∧ n = .int .u32 (((crc (l.take k)).toNat : Nat) : Int)) (fun _ i => len - (intOf i).toNat)
  case atStart => exact ⟨0, Nat.zero_le _, rfl, rfl⟩
  case round =>
    obtain ⟨k, hk, rfl, rfl⟩ := hrel
    by_cases hlt : k < len
    · obtain ⟨b, off, c, rfl, hb, hc, hcc, hcell⟩ := HX.out.at hlt
      obtain ⟨x, hx⟩ : ∃ x, Hid (crc (l.take k) = x) := ⟨_, hide rfl⟩
      rw [hx.out]
      obtain ⟨y, hy⟩ : ∃ y, Hid (x ^^^ lift c = y) := ⟨_, hide rfl⟩
      have hxy : bits BinOp.xor IntKind.u32 (x.toNat : Int) ((c : Int) * 16777216) = ((y.toNat : Nat) : Int) := by
        rw [← hy.out, ← xor32, lift_val c hc]; rfl
      go_wp2
      clear hxy hcell
      go_loop [3, 18] (fun n i => ∃ j : Nat, j ≤ 8 ∧ i = .int .i64 j ∧ n = .int .u32 (((steps j y).toNat : Nat) : Int)) (fun _ i => 8 - (intOf i).toNat)
      case atStart => exact ⟨0, Nat.zero_le _, rfl, rfl⟩
      case round =>
        obtain ⟨j, hj, rfl, rfl⟩ := hrel
        by_cases hlj : j < 8
        · obtain ⟨z, hz⟩ : ∃ z, Hid (steps j y = z) := ⟨_, hide rfl⟩
          rw [hz.out]
          have HA := hide (shl1_val z)
          have HB := hide (shl1_val' z)
          have ht := top_val z
          cases hm : z.msb
          · have hst := step_zero z hm
            rw [hm] at ht
            have HS := hide hst
            clear hst hm
            go_wp2
            go_round
            case rel => exact ⟨j + 1, by omega, by go_num, by rw [steps_succ, hz.out, HS.out]; first | rw [HA.out] | rw [HB.out]⟩
            case measure => simp [intOf]; omega
          · have hst := step_one z hm
            have hp := poly_val (z <<< 1)
            rw [hm] at ht
            rw [← hst] at hp
            have HP := hide hp
            clear hst hp hm
            go_wp2
            go_round
            case rel => exact ⟨j + 1, by omega, by go_num, by rw [steps_succ, hz.out]; first | rw [HA.out, HP.out] | rw [HB.out, HP.out]⟩
            case measure => simp [intOf]; omega
        · have hj8 : j = 8 := by omega
          subst hj8
          go_wp2
          go_round
          case rel => exact ⟨k + 1, by omega, by go_num, by rw [crc_take l k (by have := HX.out.1; omega), hcc.out, hx.out, byteStep, hy.out]⟩
          case measure => simp [intOf]; omega
    · go_wp2
      go_ret
      exact ⟨ret_int (by rw [List.take_of_length_le (by have := HX.out.1; omega)]), rfl⟩

end Go.Proofs.YtaablbmgagiajabGreatDoor
