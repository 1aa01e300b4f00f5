import Derived.Test.YtaablbmgagiajabGreatDoorRows
import Derived.WalkKit
import Derived.WalkSpells
import Derived.WalkLawsBesides
import Derived.Test.YtaablbmgagiajabGreatDoorCBits
namespace Go.Proofs.YtaablbmgagiajabGreatDoor
open Go.RowKit
theorem ret_int {k : IntKind} {a b : Int} (h : a = b) : Ending.returned (.int k a) = .returned (.int k b) := by rw [h]
theorem ret_bool {a b : Bool} (h : a = b) : Ending.returned (.bool a) = .returned (.bool b) := by rw [h]
theorem hide {p : Prop} (h : p) : Hid p := h
theorem unhide {p : Prop} (h : Hid p) : p := h
def inB (n a b : Int) : Bool := decide (a ≤ n) && decide (n ≤ b)
set_option maxHeartbeats 400000 in
theorem within_any (n a b : Int) (w : World) :
    Calls Tryz.prog 89 #[.int .i64 n, .int .i64 a, .int .i64 b] w fun e w' => e = .returned (.bool (inB n a b)) ∧ w' = w := by
  by_cases h : a ≤ n
  · go_enter Tryz.func89, Tryz.ntmps89
    go_wp2
    go_ret
    exact ⟨ret_bool (by simp [inB, h]), rfl⟩
  · go_enter Tryz.func89, Tryz.ntmps89
    go_wp2
    go_ret
    exact ⟨ret_bool (by simp [inB]; omega), rfl⟩
def top (s : Int) : Int := ((2 ^ s.toNat - 1 : Nat) : Int)
set_option maxHeartbeats 400000 in
theorem allBits_any (x : Int) (w : World) (h0 : 0 ≤ x) (h : x ≤ 12) :
    Calls Tryz.prog 52 #[.int .i64 x] w fun e w' => e = .returned (.int .i64 (top x)) ∧ w' = w := by
  obtain ⟨n, rfl⟩ := Int.eq_ofNat_of_zero_le h0
  have hn : n ≤ 12 := by omega
  have hp : 2 ^ n ≤ 2 ^ 12 := Nat.pow_le_pow_right (by decide) hn
  have hq : 0 < 2 ^ n := Nat.two_pow_pos n
  go_enter Tryz.func52, Tryz.ntmps52
  go_wp2
  go_ret
  refine ⟨ret_int ?_, rfl⟩
  rw [wrap_two_pow n (by omega), IntWalk.wrap64_in _ ⟨by omega, by omega⟩]
  unfold top
  rw [Int.toNat_natCast]
  omega
def ones1 (x : Int) : Int := IntKind.u64.wrap (bits .and .u64 (x / 2) 6148914691236517205 + bits .and .u64 x 6148914691236517205)
def ones2 (x : Int) : Int := IntKind.u64.wrap (bits .and .u64 (x / 4) 3689348814741910323 + bits .and .u64 x 3689348814741910323)
def ones3 (x : Int) : Int := bits .and .u64 (IntKind.u64.wrap (x / 16 + x)) 1085102592571150095
def ones4 (x : Int) : Int := IntKind.u64.wrap (x + x / 256)
def ones5 (x : Int) : Int := IntKind.u64.wrap (x + x / 65536)
def ones6 (x : Int) : Int := IntKind.u64.wrap (x + x / 4294967296)
def ones (s : Nat) : Int := bits .and .i64 (wrap64 (ones6 (ones5 (ones4 (ones3 (ones2 (ones1 (s : Int)))))))) 127
theorem ones_closed : ∀ s : Fin 256, ones s.val = ((pop 8 s.val : Nat) : Int) := by decide +kernel
set_option maxHeartbeats 400000 in
theorem ones64_any (s : Nat) (w : World) (h : s < 256) :
    Calls Tryz.prog 56 #[.int .u64 s] w fun e w' => e = .returned (.int .i64 ((pop 8 s : Nat) : Int)) ∧ w' = w := by
  go_enter Tryz.func56, Tryz.ntmps56
  go_wp2
  go_ret
  refine ⟨ret_int (ones_closed ⟨s, h⟩), rfl⟩
set_option maxHeartbeats 400000 in
theorem ones_any (s : Nat) (w : World) (h : s < 256) :
    Calls Tryz.prog 21 #[.int .u64 s] w fun e w' => e = .returned (.int .i64 ((pop 8 s : Nat) : Int)) ∧ w' = w := by
  go_enter Tryz.func21, Tryz.ntmps21
  go_wp2_with (go_at_call 56; refine (ones64_any _ _ h).mono ?_; rintro e w' ⟨rfl, rfl⟩)
  go_ret
  exact ⟨rfl, rfl⟩
def findFrom (x : Int) : List Int → Nat → Int
  | [], _ => -1
  | z :: r, k => if z = x then (k : Int) else findFrom x r (k + 1)
theorem findFrom_neg (x : Int) (zs : List Int) (k : Nat) : (0 ≤ findFrom x zs k) ↔ x ∈ zs := by
  induction zs generalizing k with
  | nil => simp [findFrom]
  | cons z r ih =>
    unfold findFrom
    by_cases e : z = x
    · simp [e]
    · rw [if_neg e, ih, List.mem_cons]
      simp [Ne.symm e]
theorem findFrom_drop (x : Int) (zs : List Int) (k : Nat) (h : k < zs.length) : findFrom x (zs.drop k) k = if zs[k]?.getD 0 = x then (k : Int) else findFrom x (zs.drop (k + 1)) (k + 1) := by
  rw [List.drop_eq_getElem_cons h]
  simp [findFrom, List.getElem?_eq_getElem h]
def Row (w : World) (b off : Nat) (zs : List Int) : Prop := ∀ k, k < zs.length → w.cell? ⟨b, off + k, none⟩ = some (.int .i64 (zs[k]?.getD 0))
theorem Row.below {w wx : World} {b off B : Nat} {zs : List Int} (h : Row w b off zs) (hb : b < B) (hB : Below B w wx) : Row wx b off zs := fun k hk => (hB.cell (p := ⟨b, off + k, none⟩) hb).trans (h k hk)
theorem Row.at {w : World} {b off : Nat} {zs : List Int} (h : Row w b off zs) {k : Nat} (hk : k < zs.length) : ∃ z : Int, Hid (zs[k]?.getD 0 = z) ∧ w.cell? ⟨b, off + k, none⟩ = some (.int .i64 z) := ⟨_, rfl, h k hk⟩
set_option maxHeartbeats 400000 in
theorem index_any (b off cap : Nat) (zs : List Int) (x : Int) (w : World) (hl : zs.length ≤ 100) (hc : Row w b off zs) :
    Calls Tryz.prog 141 #[.slice (some ⟨b, off, none⟩) zs.length cap, .int .i64 x] w fun e w' => e = .returned (.int .i64 (findFrom x zs 0)) ∧ w' = w := by
  go_enter Tryz.func141, Tryz.ntmps141
  go_wp2
  go_loop [8] (fun i => ∃ k : Nat, k ≤ zs.length ∧ i = .int .i64 k ∧ findFrom x zs 0 = findFrom x (zs.drop k) k) (fun i => zs.length - (intOf i).toNat)
  case atStart => exact ⟨0, Nat.zero_le _, rfl, rfl⟩
  case round =>
    obtain ⟨k, hk, rfl, hf⟩ := hrel
    by_cases hlt : k < zs.length
    · obtain ⟨z, hz, hcell⟩ := Row.at hc hlt
      have hd := findFrom_drop x zs k hlt
      rw [hz.out] at hd
      have HF : Hid (findFrom x zs 0 = findFrom x (zs.drop k) k) := hf
      have HD : Hid (findFrom x (zs.drop k) k = if z = x then (k : Int) else findFrom x (zs.drop (k + 1)) (k + 1)) := hd
      clear hf hd hc
      by_cases hx : x = z
      · subst hx
        go_wp2
        go_ret
        exact ⟨ret_int (by rw [HF.out, HD.out]; simp), rfl⟩
      · have hb : (x == z) = false := by simpa using hx
        go_wp2
        go_round
        case rel => exact ⟨k + 1, by omega, by go_num, by rw [HF.out, HD.out, if_neg (Ne.symm hx)]⟩
        case measure => simp [intOf]; omega
    · have HF : Hid (findFrom x zs 0 = findFrom x (zs.drop k) k) := hf
      clear hf hc
      go_wp2
      go_ret
      exact ⟨ret_int (by rw [HF.out, List.drop_of_length_le (by omega)]; rfl), rfl⟩
set_option maxHeartbeats 400000 in
theorem contains_any (b off cap : Nat) (zs : List Int) (x : Int) (w : World) (hl : zs.length ≤ 100) (hc : Row w b off zs) :
    Calls Tryz.prog 90 #[.slice (some ⟨b, off, none⟩) zs.length cap, .int .i64 x] w fun e w' => e = .returned (.bool (decide (x ∈ zs))) ∧ w' = w := by
  go_enter Tryz.func90, Tryz.ntmps90
  go_wp2_with (go_at_call 141; refine (index_any _ _ _ _ _ _ hl hc).mono ?_; rintro e w' ⟨rfl, rfl⟩)
  go_ret
  exact ⟨ret_bool (by have := findFrom_neg x zs 0; simp [this]), rfl⟩
def NRow (w : World) (b off : Nat) (c : List Nat) : Prop := ∀ k, k < c.length → w.cell? ⟨b, off + k, none⟩ = some (.int .i64 ((c[k]?.getD 0 : Nat) : Int))
theorem NRow.below {w wx : World} {b off B : Nat} {c : List Nat} (h : NRow w b off c) (hb : b < B) (hB : Below B w wx) : NRow wx b off c := fun k hk => (hB.cell (p := ⟨b, off + k, none⟩) hb).trans (h k hk)
theorem NRow.at {w : World} {b off : Nat} {c : List Nat} (h : NRow w b off c) {k : Nat} (hk : k < c.length) : ∃ z : Nat, Hid (c[k]?.getD 0 = z) ∧ w.cell? ⟨b, off + k, none⟩ = some (.int .i64 ((z : Nat) : Int)) := ⟨_, rfl, h k hk⟩
end Go.Proofs.YtaablbmgagiajabGreatDoor
