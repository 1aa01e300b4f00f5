import Derived.Test.YtaablbmgagiajabGreatDoorSConf
namespace Go.Proofs.YtaablbmgagiajabGreatDoor
open Go.RowKit Go.Deep
def mostTo (c : List Nat) : Nat → Nat
  | 0 => 0
  | m + 1 => if apartB m c then max (mostTo c m) (pop 8 m) else mostTo c m
def most (c : List Nat) : Nat := mostTo c (2 ^ c.length)
def confs (zs : List Int) : List Nat := (List.range zs.length).map (conf zs)
theorem confs_length (zs : List Int) : (confs zs).length = zs.length := by simp [confs]
theorem confs_get (zs : List Int) (k : Nat) (h : k < zs.length) : (confs zs)[k]?.getD 0 = conf zs k := by simp [confs, h]
theorem conf_lt (zs : List Int) (k : Nat) (h : zs.length ≤ 8) : conf zs k < 256 := Nat.lt_of_lt_of_le (confTo_lt zs k zs.length) (Nat.pow_le_pow_right (by decide) h)
theorem confs_lt (zs : List Int) (h : zs.length ≤ 8) (k : Nat) : (confs zs)[k]?.getD 0 < 256 := by
  by_cases hk : k < zs.length
  · rw [confs_get zs k hk]; exact conf_lt zs k h
  · simp [confs, hk]
theorem nrow_confs {w : World} {M : Nat} {zs : List Int} (h : w.rowIs M 3 zs.length (fun k => .int .i64 ((conf zs k : Nat) : Int))) : NRow w M 0 (confs zs) := by
  intro k hk
  rw [confs_length] at hk
  rw [Nat.zero_add, h.cell hk, confs_get zs k hk]
theorem apart_n (s : Nat) (M n : Nat) (c : List Nat) (w : World) (hn : c.length = n) (hs : s < 256) (hl : c.length ≤ 8) (hz : ∀ k : Nat, c[k]?.getD 0 < 256) (hc : NRow w M 0 c) :
    Calls Tryz.prog 207 #[.int .i64 (s : Int), .slice (some ⟨M, 0, none⟩) n n] w fun e w' => e = .returned (.bool (apartB s c)) ∧ w' = w := by
  subst hn; exact apart_any s M 0 _ c w hs hl hz hc
set_option maxHeartbeats 1000000 in
theorem most_ok (s d : Int) (b off cap : Nat) (zs : List Int) (w : World) (hok : checkF s zs d = (0, -1)) (hb : b < w.heap.size) (hc : Row w b off zs) (hcap : zs.length ≤ cap) :
    Calls Tryz.prog 184 #[.agg #[.int .i64 s, .slice (some ⟨b, off, none⟩) zs.length cap, .int .i64 d]] w fun e w' =>
      e = .returned (.tuple #[.int .i64 ((most (confs zs) : Nat) : Int), .nilIface]) ∧ Below w.heap.size w w' := by
  have hr := range_pos hok
  unfold rangeB at hr
  simp only [Bool.and_eq_true, inB_iff] at hr
  obtain ⟨⟨_, b21, b22⟩, _⟩ := hr
  have hP : 2 ^ zs.length ≤ 256 := Nat.pow_le_pow_right (n := 2) (by decide) (by omega : zs.length ≤ 8)
  have hw := wrap_two_pow zs.length (by omega)
  obtain ⟨P, hPe⟩ : ∃ P, Hid (2 ^ zs.length = P) := ⟨_, hide rfl⟩
  rw [hPe.out] at hw hP
  go_enter Tryz.func184, Tryz.ntmps184
  go_wp2_with fail
  refine (conf_ok s d b off cap zs _ hok (by simp; omega) (hc.below hb ((Below.refl _ _).alloc (Nat.le_refl _) _)) hcap).mono ?_
  rintro e w1 ⟨⟨M, hM, rfl, hrow⟩, hB⟩
  have hbel : Below w.heap.size w w1 := ((Below.refl _ _).alloc (Nat.le_refl _) _).trans (hB.mono (by simp))
  have hap := fun (m : Nat) (hm : m < 256) => apart_n m M zs.length (confs zs) w1 (confs_length zs) hm (by rw [confs_length]; omega) (confs_lt zs (by omega)) (nrow_confs hrow)
  have HAP := hide hap
  clear hap hB hc hok hM hrow
  have HBEL := hide hbel
  clear hbel
  go_wp2
  rw [hw]
  clear hw
  go_loopw [6, 19] (fun t i wr => wr = w1 ∧ ∃ m : Nat, m ≤ P ∧ i = .int .i64 m ∧ ∃ q : Nat, q ≤ 8 ∧ t = .int .i64 q ∧ Hid (mostTo (confs zs) m = q)) (fun _ i _ => P - (intOf i).toNat)
  case atStart => exact ⟨rfl, 0, Nat.zero_le _, rfl, 0, by omega, rfl, rfl⟩
  case round =>
    obtain ⟨rfl, m, hm, rfl, q, hq, rfl, Hq⟩ := hrel
    by_cases hlt : m < P
    · cases hab : apartB m (confs zs)
      · go_wp2_with (go_at_call 207; refine (unhide HAP _ (by omega)).mono ?_; rintro e w' ⟨rfl, hw'⟩; subst w')
        go_roundw
        case rel => exact ⟨trivial, m + 1, by omega, by go_num, q, hq, rfl, by rw [mostTo, hab]; exact Hq.out⟩
        case measure => simp [intOf]; omega
      · have hp := pop_le 8 m
        by_cases hgt : q < pop 8 m
        · go_wp2_with (first
            | (go_at_call 207; refine (unhide HAP _ (by omega)).mono ?_; rintro e w' ⟨rfl, hw'⟩; subst w')
            | (go_at_call 21; refine (ones_any _ _ (by omega)).mono ?_; rintro e w' ⟨rfl, hw'⟩; subst w'))
          go_roundw
          case rel => exact ⟨trivial, m + 1, by omega, by go_num, pop 8 m, hp, rfl, by rw [mostTo, hab, Hq.out, if_pos rfl]; exact Nat.max_eq_right (by omega)⟩
          case measure => simp [intOf]; omega
        · go_wp2_with (first
            | (go_at_call 207; refine (unhide HAP _ (by omega)).mono ?_; rintro e w' ⟨rfl, hw'⟩; subst w')
            | (go_at_call 21; refine (ones_any _ _ (by omega)).mono ?_; rintro e w' ⟨rfl, hw'⟩; subst w'))
          go_roundw
          case rel => exact ⟨trivial, m + 1, by omega, by go_num, q, hq, rfl, by rw [mostTo, hab, Hq.out, if_pos rfl]; exact Nat.max_eq_left (by omega)⟩
          case measure => simp [intOf]; omega
    · go_wp2
      go_ret2
      have e : m = P := by omega
      subst e
      refine ⟨?_, HBEL.out⟩
      unfold most
      rw [confs_length, hPe.out, Hq.out]
      rfl
theorem most_n (s d : Int) (b off n cap : Nat) (zs : List Int) (w : World) (hn : zs.length = n) (hok : checkF s zs d = (0, -1)) (hb : b < w.heap.size) (hc : Row w b off zs) (hcap : n ≤ cap) :
    Calls Tryz.prog 184 #[.agg #[.int .i64 s, .slice (some ⟨b, off, none⟩) n cap, .int .i64 d]] w fun e w' =>
      e = .returned (.tuple #[.int .i64 ((most (confs zs) : Nat) : Int), .nilIface]) ∧ Below w.heap.size w w' := by
  subst hn; exact most_ok s d b off cap zs w hok hb hc hcap
end Go.Proofs.YtaablbmgagiajabGreatDoor
