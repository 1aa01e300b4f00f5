import Derived.Deep.OwnRows
import Derived.Deep.LoopGhost
import Derived.Test.YtaablbmgagiajabGreatDoorCCheck
namespace Go.Proofs.YtaablbmgagiajabGreatDoor
open Go.RowKit Go.Deep
def meets (zs : List Int) (i j : Nat) : Bool := bits .and .i64 (zs[i]?.getD 0) (zs[j]?.getD 0) != 0
def confTo (zs : List Int) (i : Nat) : Nat → Nat
  | 0 => 0
  | j + 1 => if (i != j && meets zs i j) = true then confTo zs i j ||| 2 ^ j else confTo zs i j
def conf (zs : List Int) (i : Nat) : Nat := confTo zs i zs.length
theorem confTo_lt (zs : List Int) (i j : Nat) : confTo zs i j < 2 ^ j := by
  induction j with
  | zero => simp [confTo]
  | succ j ih =>
    unfold confTo
    split
    · exact Nat.or_lt_two_pow (Nat.lt_trans ih (Nat.pow_lt_pow_right (by decide) (by omega))) (Nat.pow_lt_pow_right (by decide) (by omega))
    · exact Nat.lt_trans ih (Nat.pow_lt_pow_right (by decide) (by omega))
def rowN (zs : List Int) (i j k : Nat) : Nat := if k < i then conf zs k else if k = i then confTo zs i j else 0
def rowF (zs : List Int) (i j : Nat) (k : Nat) : Value := .int .i64 ((rowN zs i j k : Nat) : Int)
theorem rowN_start (zs : List Int) (k : Nat) : rowN zs 0 0 k = 0 := by unfold rowN; simp [confTo]
theorem rowN_next (zs : List Int) (i k : Nat) : rowN zs i zs.length k = rowN zs (i + 1) 0 k := by
  unfold rowN conf
  by_cases h1 : k < i
  · rw [if_pos h1, if_pos (by omega)]
  · by_cases h2 : k = i
    · subst h2; rw [if_neg (by omega), if_pos rfl, if_pos (by omega)]
    · rw [if_neg h1, if_neg h2, if_neg (by omega)]
      split <;> rfl
theorem rowN_skip (zs : List Int) (i j k : Nat) (h : (i != j && meets zs i j) = false) : rowN zs i (j + 1) k = rowN zs i j k := by
  unfold rowN
  rw [show confTo zs i (j + 1) = confTo zs i j by rw [confTo]; simp [h]]
structure CInv (w wr : World) (N M b off n cap : Nat) (zs : List Int) (i j : Nat) : Prop where
  old : Below N w wr
  box : wr.cell? ⟨N, 1, none⟩ = some (.slice (some ⟨b, off, none⟩) n cap)
  row : wr.rowIs M 3 n (rowF zs i j)
theorem CInv.skip {w wr : World} {N M b off n cap : Nat} {zs : List Int} {i j : Nat} (h : CInv w wr N M b off n cap zs i j) (hs : (i != j && meets zs i j) = false) : CInv w wr N M b off n cap zs i (j + 1) :=
  ⟨h.old, h.box, h.row.congr fun k _ => by unfold rowF; rw [rowN_skip _ _ _ _ hs]⟩
theorem CInv.next {w wr : World} {N M b off cap : Nat} {zs : List Int} {i : Nat} (h : CInv w wr N M b off zs.length cap zs i zs.length) : CInv w wr N M b off zs.length cap zs (i + 1) 0 :=
  ⟨h.old, h.box, h.row.congr fun k _ => by unfold rowF; rw [rowN_next]⟩
theorem CInv.put {w wr : World} {N M b off n cap : Nat} {zs : List Int} {i j : Nat} (h : CInv w wr N M b off n cap zs i j) (hM : N < M) (hs : (i != j && meets zs i j) = true) {v : Int} (hv : v = ((confTo zs i j ||| 2 ^ j : Nat) : Int)) :
    CInv w (wr.setCell ⟨M, i, none⟩ (.int .i64 v)) N M b off n cap zs i (j + 1) := by
  refine ⟨h.old.setCell (by show N ≤ M; omega) _, ?_, (h.row.set i _).congr fun k _ => ?_⟩
  · rw [World.cell?_of_block (w := wr) (Below.heap_setCell wr _ _ N (by show N ≠ M; omega))]; exact h.box
  · unfold rowF rowN
    by_cases e : k = i
    · subst e
      rw [if_pos rfl, if_neg (by omega), if_pos rfl, hv, confTo, if_pos hs]
    · rw [if_neg e, if_neg e, if_neg e]
theorem CInv.drew {w wr : World} {N M b off n cap : Nat} {zs : List Int} {i j : Nat} (h : CInv w wr N M b off n cap zs i j) : CInv w wr.drew N M b off n cap zs i j := ⟨h.old.drew, h.box, h.row⟩
theorem infoInt : (Tryz.prog.info? 3).map (fun i => (i.zero, i.size, i.bytes)) = some (some (.int .i64 0), 1, 8) := by kernel_rfl
theorem range_pos {s : Int} {zs : List Int} {d : Int} (h : checkF s zs d = (0, -1)) : rangeB s zs.length d = true := by
  unfold checkF at h
  split at h
  · assumption
  · simp at h
set_option maxHeartbeats 1000000 in
theorem conf_ok (s d : Int) (b off cap : Nat) (zs : List Int) (w : World) (hok : checkF s zs d = (0, -1)) (hb : b < w.heap.size) (hc : Row w b off zs) (hcap : zs.length ≤ cap) :
    Calls Tryz.prog 178 #[.agg #[.int .i64 s, .slice (some ⟨b, off, none⟩) zs.length cap, .int .i64 d]] w fun e w' =>
      (∃ M, w.heap.size ≤ M ∧ e = .returned (.tuple #[.slice (some ⟨M, 0, none⟩) zs.length zs.length, .nilIface]) ∧ w'.rowIs M 3 zs.length (fun k => .int .i64 ((conf zs k : Nat) : Int))) ∧ Below w.heap.size w w' := by
  have hr := range_pos hok
  unfold rangeB at hr
  simp only [Bool.and_eq_true, inB_iff] at hr
  obtain ⟨⟨_, b21, b22⟩, _⟩ := hr
  have HOK := hide hok
  clear hok
  go_enter Tryz.func178, Tryz.ntmps178
  go_wp2_with fail
  refine (check_any _ _ _ _ _ zs _ ⟨rfl, hcap, .inr ⟨b, off, rfl, by simp; omega, hc.below hb ((Below.refl _ _).alloc (Nat.le_refl _) _)⟩⟩).mono ?_
  rintro e w1 ⟨⟨v, rfl, hv⟩, hB⟩
  rw [HOK.out] at hv
  have hv' := hv.ok
  subst hv'
  clear hv
  have hN : w.heap.size < w1.heap.size := by have := hB.size; simp at this; omega
  have hbox : w1.cell? ⟨w.heap.size, 1, none⟩ = some (.slice (some ⟨b, off, none⟩) zs.length cap) := (hB.cell (p := ⟨w.heap.size, 1, none⟩) (by simp)).trans (by simp)
  have hbel : Below w.heap.size w w1 := ((Below.refl _ _).alloc (Nat.le_refl _) _).trans (hB.mono (by simp))
  have hmk := run_make_row' (P := Tryz.prog) 22 3 (.int .i64 0) 8 Tryz.underlying22 infoInt rfl .i64 .i64 zs.length (by omega) (by omega)
  have hinv : CInv w (w1.alloc (.cells (madeCells #[.int .i64 0] zs.length) 3)) w.heap.size w1.heap.size b off zs.length cap zs 0 0 := by
    refine ⟨hbel.alloc (by omega) _, ?_, (World.rowIs_made w1 _ _ _).congr fun k _ => by unfold rowF; rw [rowN_start]; rfl⟩
    rw [World.cell?_alloc_past _ _ _ hN]; exact hbox
  have HINV := hide hinv
  clear hinv hB hbel
  go_wp2
  clear hmk hbox
  generalize w1.heap.size = M at *
  go_loopw [22] (fun i wr => ∃ k : Nat, k ≤ zs.length ∧ i = .int .i64 k ∧ CInv w wr w.heap.size M b off zs.length cap zs k 0) (fun i _ => zs.length - (intOf i).toNat)
  case atStart => exact ⟨0, Nat.zero_le _, rfl, HINV.out⟩
  case round =>
    clear HINV
    obtain ⟨i, hi, rfl, hI⟩ := hrel
    by_cases hlt : i < zs.length
    · obtain ⟨z, hz, hcell⟩ := Row.at (hc.below hb hI.old) hlt
      have hbox := hI.box
      go_wp2
      clear hcell hbox
      go_loopw [30] (fun j wi => ∃ k : Nat, k ≤ zs.length ∧ j = .int .i64 k ∧ CInv w wi w.heap.size M b off zs.length cap zs i k) (fun j _ => zs.length - (intOf j).toNat)
      case atStart => exact ⟨0, Nat.zero_le _, rfl, hI⟩
      case round =>
        clear hI
        obtain ⟨j, hj, rfl, hI⟩ := hrel
        by_cases hlj : j < zs.length
        · obtain ⟨y, hy, hcy⟩ := Row.at (hc.below hb hI.old) hlj
          have hbox := hI.box
          cases hij : ((i : Int) != (j : Int))
          · go_wp2
            go_roundw
            case rel => exact ⟨j + 1, by omega, by go_num, hI.skip (by rw [show (i != j) = false by (have h := hij; simp at h ⊢; omega)]; rfl)⟩
            case measure => simp [intOf]; omega
          · cases hme : (bits BinOp.and IntKind.i64 z y != 0)
            · go_wp2
              go_roundw
              case rel => exact ⟨j + 1, by omega, by go_num, hI.skip (by rw [show meets zs i j = false by unfold meets; rw [hz.out, hy.out]; exact hme]; simp)⟩
              case measure => simp [intOf]; omega
            · obtain ⟨c, hcc, hcM, hfM⟩ : ∃ c : Nat, Hid (confTo zs i j = c) ∧ wr.cell? ⟨M, i, none⟩ = some (.int .i64 (c : Int)) ∧ wr.frozen? ⟨M, i, none⟩ = false :=
                ⟨_, rfl, by rw [hI.row.cell hlt]; unfold rowF rowN; rw [if_neg (by omega), if_pos rfl], hI.row.frozen i⟩
              go_wp2
              go_region
              all_goals go_wp2
              go_roundw
              case rel =>
                refine ⟨j + 1, by omega, by go_num, (hI.put hN (by rw [show (i != j) = true by (have h := hij; simp at h ⊢; omega), show meets zs i j = true by unfold meets; rw [hz.out, hy.out]; exact hme]; rfl) ?_).drew⟩
                have hlt2 : confTo zs i j < 2 ^ 62 := Nat.lt_of_lt_of_le (confTo_lt zs i j) (Nat.pow_le_pow_right (by decide) (by omega))
                rw [wrap_two_pow j (by omega), ← hcc.out, or_nat _ _ (by omega) (two_pow_lt j (by omega))]
              case measure => simp [intOf]; omega
        · clear hc
          go_wp2
          go_roundw
          case rel =>
            have e : j = zs.length := by omega
            subst e
            exact ⟨i + 1, by omega, by go_num, hI.next⟩
          case measure => simp [intOf]; omega
    · clear hc
      go_wp2
      go_ret2
      have e : i = zs.length := by omega
      subst e
      exact ⟨⟨M, by omega, rfl, hI.row.congr fun k hk => by unfold rowF rowN; rw [if_pos hk]⟩, hI.old⟩
end Go.Proofs.YtaablbmgagiajabGreatDoor
