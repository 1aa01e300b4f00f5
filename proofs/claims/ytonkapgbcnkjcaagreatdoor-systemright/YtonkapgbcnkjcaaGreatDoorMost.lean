/- The contract of layout.Most: how many routes may be set at once. -/
import Derived.Test.YtonkapgbcnkjcaaGreatDoorConf
namespace Go.Proofs.YtonkapgbcnkjcaaGreatDoor
open Go.RowKit Go.Deep

/-- The greatest number of routes of a set below m that are apart. -/
def mostTo (c : List Nat) : Nat → Nat
  | 0 => 0
  | m + 1 => if apartB m c then max (mostTo c m) (pop 8 m) else mostTo c m
def most (c : List Nat) : Nat := mostTo c (2 ^ c.length)
def confs (zs : List Int) : List Nat := (List.range zs.length).map (conf zs)

theorem confs_length (zs : List Int) : (confs zs).length = zs.length := by simp [confs]
theorem confs_get (zs : List Int) (k : Nat) (h : k < zs.length) : (confs zs)[k]?.getD 0 = conf zs k := by simp [confs, h]
theorem conf_lt (zs : List Int) (k : Nat) (h : zs.length ≤ 8) : conf zs k < 256 := Nat.lt_of_lt_of_le (confTo_lt zs k zs.length) (Nat.pow_le_pow_right (by decide) h)
theorem confs_lt (zs : List Int) (h : zs.length ≤ 8) (k : Nat) : (confs zs)[k]?.getD 0 < 256 := by
  by_cases hk : k < zs.length
  · rw [confs_get zs k hk]; exact conf_lt zs k h
  · simp [confs, hk]

theorem mostTo_le (c : List Nat) (m : Nat) : mostTo c m ≤ 8 := by
  induction m with
  | zero => simp [mostTo]
  | succ m ih =>
    unfold mostTo
    have := pop_le 8 m
    split <;> omega

theorem nrow_confs {w : World} {M : Nat} {zs : List Int} (h : w.rowIs M 3 zs.length (fun k => .int .i64 ((conf zs k : Nat) : Int))) : NRow w M 0 (confs zs) := by
  intro k hk
  rw [confs_length] at hk
  rw [Nat.zero_add, h.cell hk, confs_get zs k hk]

theorem conf_n (s d : Int) (b off n cap : Nat) (zs : List Int) (w : World) (hn : zs.length = n) (hok : checkF s zs d = (0, -1)) (hb : b < w.heap.size) (hc : Row w b off zs) (hcap : n ≤ cap) :
    Calls Tryz.prog 40 #[.agg #[.int .i64 s, .slice (some ⟨b, off, none⟩) n cap, .int .i64 d]] w fun e w' =>
      (∃ M, w.heap.size ≤ M ∧ e = .returned (.tuple #[.slice (some ⟨M, 0, none⟩) n n, .nilIface]) ∧ w'.rowIs M 3 n (fun k => .int .i64 ((conf zs k : Nat) : Int))) ∧ Below w.heap.size w w' := by
  subst hn; exact conf_ok s d b off cap zs w hok hb hc hcap

end Go.Proofs.YtonkapgbcnkjcaaGreatDoor
