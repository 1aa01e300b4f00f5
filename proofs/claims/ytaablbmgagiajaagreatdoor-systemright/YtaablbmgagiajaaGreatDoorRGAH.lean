import Derived.Deep.OwnRows
import Derived.Deep.LoopGhost
import Derived.Test.YtaablbmgagiajaaGreatDoorRGAG
import Derived.Deep.RegionWith
import Derived.WalkSmall
import Derived.OwnWalk
import Derived.Laws.OwnMore
namespace Go.Proofs.YtaablbmgagiajaaGreatDoor
open Go.RowKit Go.Deep
def meets (zs : List Int) (i j : Nat) : Bool := bits .and .i64 (zs[i]?.getD 0) (zs[j]?.getD 0) != 0
def confTo (zs : List Int) (i : Nat) : Nat → Nat
  | 0 => 0
  | j + 1 => if (i != j && meets zs i j) = true then confTo zs i j ||| 2 ^ j else confTo zs i j
def conf (zs : List Int) (i : Nat) : Nat := confTo zs i zs.length
theorem confTo_lt (zs : List Int) (i j : Nat) : confTo zs i j < 2 ^ j := by
  induction j with
  | zero => simp [confTo]
  | succ j ih =>
    unfold confTo
    split
    · exact Nat.or_lt_two_pow (Nat.lt_trans ih (Nat.pow_lt_pow_right (by decide) (by omega))) (Nat.pow_lt_pow_right (by decide) (by omega))
    · exact Nat.lt_trans ih (Nat.pow_lt_pow_right (by decide) (by omega))
def rowN (zs : List Int) (i j k : Nat) : Nat := if k < i then conf zs k else if k = i then confTo zs i j else 0
def rowF (zs : List Int) (i j : Nat) (k : Nat) : Value := .int .i64 ((rowN zs i j k : Nat) : Int)
theorem rowN_start (zs : List Int) (k : Nat) : rowN zs 0 0 k = 0 := by unfold rowN; simp [confTo]
theorem rowN_next (zs : List Int) (i k : Nat) : rowN zs i zs.length k = rowN zs (i + 1) 0 k := by
  unfold rowN conf
  by_cases h1 : k < i
  · rw [if_pos h1, if_pos (by omega)]
  · by_cases h2 : k = i
    · subst h2; rw [if_neg (by omega), if_pos rfl, if_pos (by omega)]
    · rw [if_neg h1, if_neg h2, if_neg (by omega)]
      split <;> rfl
theorem rowN_skip (zs : List Int) (i j k : Nat) (h : (i != j && meets zs i j) = false) : rowN zs i (j + 1) k = rowN zs i j k := by
  unfold rowN
  rw [show confTo zs i (j + 1) = confTo zs i j by rw [confTo]; simp [h]]
structure CInv (w wr : World) (N M b off n cap : Nat) (zs : List Int) (i j : Nat) : Prop where
  old : Below N w wr
  box : wr.cell? ⟨N, 1, none⟩ = some (.slice (some ⟨b, off, none⟩) n cap)
  row : wr.rowIs M 3 n (rowF zs i j)
theorem CInv.skip {w wr : World} {N M b off n cap : Nat} {zs : List Int} {i j : Nat} (h : CInv w wr N M b off n cap zs i j) (hs : (i != j && meets zs i j) = false) : CInv w wr N M b off n cap zs i (j + 1) :=
  ⟨h.old, h.box, h.row.congr fun k _ => by unfold rowF; rw [rowN_skip _ _ _ _ hs]⟩
theorem CInv.next {w wr : World} {N M b off cap : Nat} {zs : List Int} {i : Nat} (h : CInv w wr N M b off zs.length cap zs i zs.length) : CInv w wr N M b off zs.length cap zs (i + 1) 0 :=
  ⟨h.old, h.box, h.row.congr fun k _ => by unfold rowF; rw [rowN_next]⟩
theorem CInv.put {w wr : World} {N M b off n cap : Nat} {zs : List Int} {i j : Nat} (h : CInv w wr N M b off n cap zs i j) (hM : N < M) (hs : (i != j && meets zs i j) = true) {v : Int} (hv : v = ((confTo zs i j ||| 2 ^ j : Nat) : Int)) :
    CInv w (wr.setCell ⟨M, i, none⟩ (.int .i64 v)) N M b off n cap zs i (j + 1) := by
  refine ⟨h.old.setCell (by show N ≤ M; omega) _, ?_, (h.row.set i _).congr fun k _ => ?_⟩
  · rw [World.cell?_of_block (w := wr) (Below.heap_setCell wr _ _ N (by show N ≠ M; omega))]; exact h.box
  · unfold rowF rowN
    by_cases e : k = i
    · subst e
      rw [if_pos rfl, if_neg (by omega), if_pos rfl, hv, confTo, if_pos hs]
    · rw [if_neg e, if_neg e, if_neg e]
theorem CInv.drew {w wr : World} {N M b off n cap : Nat} {zs : List Int} {i j : Nat} (h : CInv w wr N M b off n cap zs i j) : CInv w wr.drew N M b off n cap zs i j := ⟨h.old.drew, h.box, h.row⟩
theorem infoInt : (Tryz.prog.info? 3).map (fun i => (i.zero, i.size, i.bytes)) = some (some (.int .i64 0), 1, 8) := by kernel_rfl
theorem range_pos {s : Int} {zs : List Int} {d : Int} (h : checkF s zs d = (0, -1)) : rangeB s zs.length d = true := by
  unfold checkF at h
  split at h
  · assumption
  · simp at h
set_option maxHeartbeats 1000000 in
theorem conf_ok (s d : Int) (b off cap : Nat) (zs : List Int) (w : World) (hok : checkF s zs d = (0, -1)) (hb : b < w.heap.size) (hc : Row w b off zs) (hcap : zs.length ≤ cap) :
    Calls Tryz.prog 40 #[.agg #[.int .i64 s, .slice (some ⟨b, off, none⟩) zs.length cap, .int .i64 d]] w fun e w' =>
      (∃ M, w.heap.size ≤ M ∧ e = .returned (.tuple #[.slice (some ⟨M, 0, none⟩) zs.length zs.length, .nilIface]) ∧ w'.rowIs M 3 zs.length (fun k => .int .i64 ((conf zs k : Nat) : Int))) ∧ Below w.heap.size w w' := by
  have hr := range_pos hok
  unfold rangeB at hr
  simp only [Bool.and_eq_true, inB_iff] at hr
  obtain ⟨⟨_, b21, b22⟩, _⟩ := hr
  have HOK := hide hok
  clear hok
  go_enter Tryz.func40, Tryz.ntmps40
  go_wp2_with fail
  refine (check_any _ _ _ _ _ zs _ ⟨rfl, hcap, .inr ⟨b, off, rfl, by simp; omega, hc.below hb ((Below.refl _ _).alloc (Nat.le_refl _) _)⟩⟩).mono ?_
  rintro e w1 ⟨⟨v, rfl, hv⟩, hB⟩
  rw [HOK.out] at hv
  have hv' := hv.ok
  subst hv'
  clear hv
  have hN : w.heap.size < w1.heap.size := by have := hB.size; simp at this; omega
  have hbox : w1.cell? ⟨w.heap.size, 1, none⟩ = some (.slice (some ⟨b, off, none⟩) zs.length cap) := (hB.cell (p := ⟨w.heap.size, 1, none⟩) (by simp)).trans (by simp)
  have hbel : Below w.heap.size w w1 := ((Below.refl _ _).alloc (Nat.le_refl _) _).trans (hB.mono (by simp))
  have hmk := run_make_row' (P := Tryz.prog) 22 3 (.int .i64 0) 8 Tryz.underlying22 infoInt rfl .i64 .i64 zs.length (by omega) (by omega)
  have hinv : CInv w (w1.alloc (.cells (madeCells #[.int .i64 0] zs.length) 3)) w.heap.size w1.heap.size b off zs.length cap zs 0 0 := by
    refine ⟨hbel.alloc (by omega) _, ?_, (World.rowIs_made w1 _ _ _).congr fun k _ => by unfold rowF; rw [rowN_start]; rfl⟩
    rw [World.cell?_alloc_past _ _ _ hN]; exact hbox
  have HINV := hide hinv
  clear hinv hB hbel
  go_wp2
  clear hmk hbox
  generalize w1.heap.size = M at *
  go_loopw [22] (fun i wr => ∃ k : Nat, k ≤ zs.length ∧ i = .int .i64 k ∧ CInv w wr w.heap.size M b off zs.length cap zs k 0) (fun i _ => zs.length - (intOf i).toNat)
  case atStart => exact ⟨0, Nat.zero_le _, rfl, HINV.out⟩
  case round =>
    clear HINV
    obtain ⟨i, hi, rfl, hI⟩ := hrel
    by_cases hlt : i < zs.length
    · obtain ⟨z, hz, hcell⟩ := Row.at (hc.below hb hI.old) hlt
      have hbox := hI.box
      go_wp2
      clear hcell hbox
      go_loopw [30] (fun j wi => ∃ k : Nat, k ≤ zs.length ∧ j = .int .i64 k ∧ CInv w wi w.heap.size M b off zs.length cap zs i k) (fun j _ => zs.length - (intOf j).toNat)
      case atStart => exact ⟨0, Nat.zero_le _, rfl, hI⟩
      case round =>
        clear hI
        obtain ⟨j, hj, rfl, hI⟩ := hrel
        by_cases hlj : j < zs.length
        · obtain ⟨y, hy, hcy⟩ := Row.at (hc.below hb hI.old) hlj
          have hbox := hI.box
          cases hij : ((i : Int) != (j : Int))
          · go_wp2
            go_roundw
            case rel => exact ⟨j + 1, by omega, by go_num, hI.skip (by rw [show (i != j) = false by (have h := hij; simp at h ⊢; omega)]; rfl)⟩
            case measure => simp [intOf]; omega
          · cases hme : (bits BinOp.and IntKind.i64 z y != 0)
            · go_wp2
              go_roundw
              case rel => exact ⟨j + 1, by omega, by go_num, hI.skip (by rw [show meets zs i j = false by unfold meets; rw [hz.out, hy.out]; exact hme]; simp)⟩
              case measure => simp [intOf]; omega
            · obtain ⟨c, hcc, hcM, hfM⟩ : ∃ c : Nat, Hid (confTo zs i j = c) ∧ wr.cell? ⟨M, i, none⟩ = some (.int .i64 (c : Int)) ∧ wr.frozen? ⟨M, i, none⟩ = false :=
                ⟨_, rfl, by rw [hI.row.cell hlt]; unfold rowF rowN; rw [if_neg (by omega), if_pos rfl], hI.row.frozen i⟩
              go_wp2
              go_region
              all_goals go_wp2
              go_roundw
              case rel =>
                refine ⟨j + 1, by omega, by go_num, (hI.put hN (by rw [show (i != j) = true by (have h := hij; simp at h ⊢; omega), show meets zs i j = true by unfold meets; rw [hz.out, hy.out]; exact hme]; rfl) ?_).drew⟩
                have hlt2 : confTo zs i j < 2 ^ 62 := Nat.lt_of_lt_of_le (confTo_lt zs i j) (Nat.pow_le_pow_right (by decide) (by omega))
                rw [wrap_two_pow j (by omega), ← hcc.out, or_nat _ _ (by omega) (two_pow_lt j (by omega))]
              case measure => simp [intOf]; omega
        · clear hc
          go_wp2
          go_roundw
          case rel =>
            have e : j = zs.length := by omega
            subst e
            exact ⟨i + 1, by omega, by go_num, hI.next⟩
          case measure => simp [intOf]; omega
    · clear hc
      go_wp2
      go_ret2
      have e : i = zs.length := by omega
      subst e
      exact ⟨⟨M, by omega, rfl, hI.row.congr fun k hk => by unfold rowF rowN; rw [if_pos hk]⟩, hI.old⟩
theorem shr_bool (x : Int) (i : Nat) (hi : i ≤ 62) : (bits BinOp.and IntKind.i64 (x / 2 ^ i) 1 == 1) = (u64 x).testBit i := by
  rw [shr_bit x i hi, testBit_eq]
  cases (u64 x).testBit i <;> rfl
set_option maxHeartbeats 400000 in
theorem chas_any (x : Int) (i : Nat) (w : World) (hi : i ≤ 62) :
    Calls Tryz.prog 70 #[.int .i64 x, .int .i64 (i : Int)] w fun e w' => e = .returned (.bool ((u64 x).testBit i)) ∧ w' = w := by
  have hb := shr_bool x i hi
  have HB := hide hb
  clear hb
  go_enter Tryz.func70, Tryz.ntmps70
  go_wp2
  go_ret
  exact ⟨ret_bool HB.out, rfl⟩
theorem chas_nat (m i : Nat) (w : World) (hm : m < 9223372036854775808) (hi : i ≤ 62) :
    Calls Tryz.prog 70 #[.int .i64 (m : Int), .int .i64 (i : Int)] w fun e w' => e = .returned (.bool (m.testBit i)) ∧ w' = w := by
  have := chas_any (m : Int) i w hi
  rw [u64_nat m hm] at this
  exact this
set_option maxHeartbeats 1000000 in
theorem clone_any (b off n cap : Nat) (zs : List Int) (w : World) (hn : zs.length = n) (h0 : 0 < n) (h8 : n ≤ 8) (hb : b < w.heap.size) (hc : Row w b off zs) :
    Calls Tryz.prog 41 #[.slice (some ⟨b, off, none⟩) n cap] w fun e w' =>
      (∃ g cg, w.heap.size ≤ g ∧ g < w'.heap.size ∧ n ≤ cg ∧ e = .returned (.slice (some ⟨g, 0, none⟩) n cg) ∧ Row w' g 0 zs) ∧ Below w.heap.size w w' := by
  obtain ⟨i0, hi, hz0, hz1, hz2⟩ := info_parts infoInt
  have HI := hide hi
  have HZ0 := hide hz0
  have HZ1 := hide hz1
  have HZ2 := hide hz2
  have HC := hide hc
  clear hi hz0 hz1 hz2 hc
  have hq : ∀ wx : World, (binOp .eql 22 (.slice (some ⟨b, off, none⟩) n cap) (.slice none 0 0)).run Tryz.prog wx = .ok (.bool false) wx := fun wx => Lib.run_eql_slice_nil wx _ _ _ _ _ _ _ Tryz.underlying22
  go_enter Tryz.func41, Tryz.ntmps41
  go_wp2_with (at_builtin; refine wpList_append_own _ rfl _ _ 22 rfl w.heap.size 3 i0 (.int .i64 0) 1 8 Tryz.underlying22 HI.out HZ0.out HZ1.out HZ2.out rfl (by decide) _ _ _ rfl (World.ownsRow_made w #[] 0 (Nat.le_refl _) (by unfold maxLen; omega) rfl) ⟨b, off, none⟩ n cap (zs.map (Value.int .i64)) rfl (by rw [List.length_map, hn, Nat.mul_one]) ?c1 ?c2 ?c3 ?c4 ?c5 ?_)
  case c1 =>
    intro j u hj
    have hj' : j < zs.length := by
      have := (List.getElem?_eq_some_iff.1 hj).1
      simpa using this
    have e : (⟨b, off, none⟩ : Addr).add j = ⟨b, off + j, none⟩ := by unfold Addr.add; split <;> simp_all
    rw [e, World.cell?_alloc_past _ _ _ hb, HC.out j hj']
    rw [List.getElem?_map, List.getElem?_eq_getElem hj'] at hj
    rw [List.getElem?_eq_getElem hj']
    exact hj
  case c2 =>
    intro u hu
    obtain ⟨z, _, rfl⟩ := List.mem_map.1 hu
    rfl
  case c3 => unfold maxLen; omega
  case c4 => omega
  case c5 => simp
  intro v' w1 hown hgrow _
  obtain ⟨g, cg, rfl, hg1, hg2, hg3⟩ : ∃ g cg, v' = .slice (some ⟨g, 0, none⟩) n cg ∧ w.heap.size ≤ g ∧ g < w1.heap.size ∧ n ≤ cg := by
    rcases hown.2 with ⟨_, h0⟩ | ⟨g, cg, cur, h0, h1, h2, h3, _⟩
    · omega
    · exact ⟨g, cg, h0, h1, blk_lt h2, h3⟩
  have hrow : Row w1 g 0 zs := by
    intro k hk
    have := hown.cellAt k (by omega)
    rw [Nat.zero_add, this]
    simp [hk]
  have hold : Below w.heap.size w w1 := ((Below.refl _ _).alloc (Nat.le_refl _) _).grown hgrow (by simp) (fun j hj => by
    have : w.heap.size = j := by simpa [Value.ownBlock] using hj
    omega)
  have HROW := hide hrow
  have HOLD := hide hold
  clear hrow hold hown hgrow
  go_wp2
  go_ret
  exact ⟨⟨g, cg, hg1, hg2, hg3, rfl, HROW.out⟩, HOLD.out⟩
structure CoreIs (w : World) (p : Nat) (s d : Int) (n : Nat) (zs : List Int) (g cg M : Nat) : Prop where
  blk : w.heap[p]? = some (.cells #[.int .i64 s, .slice (some ⟨g, 0, none⟩) n cg, .int .i64 d, .slice (some ⟨M, 0, none⟩) n n] 87 (0, 0))
  len : zs.length = n
  cap : n ≤ cg
  glt : g < w.heap.size
  row : Row w g 0 zs
  con : w.rowIs M 3 n (fun k => .int .i64 ((conf zs k : Nat) : Int))
  ok : checkF s zs d = (0, -1)
theorem CoreIs.below {w wx : World} {B p : Nat} {s d : Int} {n : Nat} {zs : List Int} {g cg M : Nat} (h : CoreIs w p s d n zs g cg M) (hp : p < B) (hg : g < B) (hM : M < B) (hB : Below B w wx) : CoreIs wx p s d n zs g cg M :=
  ⟨(hB.block p hp).trans h.blk, h.len, h.cap, Nat.lt_of_lt_of_le h.glt hB.size, h.row.below hg hB, h.con.of_block (hB.block M hM), h.ok⟩
theorem CoreIs.plt {w : World} {p : Nat} {s d : Int} {n : Nat} {zs : List Int} {g cg M : Nat} (h : CoreIs w p s d n zs g cg M) : p < w.heap.size := blk_lt h.blk
theorem CoreIs.mlt {w : World} {p : Nat} {s d : Int} {n : Nat} {zs : List Int} {g cg M : Nat} (h : CoreIs w p s d n zs g cg M) : M < w.heap.size := h.con.lt
theorem CoreIs.few {w : World} {p : Nat} {s d : Int} {n : Nat} {zs : List Int} {g cg M : Nat} (h : CoreIs w p s d n zs g cg M) : 1 ≤ n ∧ n ≤ 8 ∧ 1 ≤ s ∧ s ≤ 12 ∧ 0 ≤ d ∧ d ≤ 20 := by
  have hr := range_pos h.ok
  unfold rangeB at hr
  simp only [Bool.and_eq_true, inB_iff] at hr
  have := h.len
  omega
set_option maxHeartbeats 1000000 in
theorem new_ok (s d : Int) (b off n cap : Nat) (zs : List Int) (w : World) (hn : zs.length = n) (hok : checkF s zs d = (0, -1)) (hb : b < w.heap.size) (hc : Row w b off zs) (hcap : n ≤ cap) :
    Calls Tryz.prog 13 #[.agg #[.int .i64 s, .slice (some ⟨b, off, none⟩) n cap, .int .i64 d]] w fun e w' =>
      (∃ p g cg M, w.heap.size ≤ p ∧ w.heap.size ≤ g ∧ w.heap.size ≤ M ∧ e = .returned (.tuple #[.pointer (some ⟨p, 0, none⟩), .nilIface]) ∧ CoreIs w' p s d n zs g cg M) ∧ Below w.heap.size w w' := by
  subst hn
  have hr := range_pos hok
  unfold rangeB at hr
  simp only [Bool.and_eq_true, inB_iff] at hr
  obtain ⟨⟨_, b21, b22⟩, _⟩ := hr
  have hB0 : Below w.heap.size w (w.alloc (.cells #[.int .i64 s, .slice (some ⟨b, off, none⟩) zs.length cap, .int .i64 d] 41)) := (Below.refl _ _).alloc (Nat.le_refl _) _
  have hcf := conf_ok s d b off cap zs _ hok (by simp; omega) (hc.below hb hB0) hcap
  have HCF := hide hcf
  have HOK := hide hok
  have HC := hide hc
  clear hcf hok hc
  go_enter Tryz.func13, Tryz.ntmps13
  go_wp2_with fail
  refine HCF.out.mono ?_
  rintro e w1 ⟨⟨M, hM, rfl, hrw⟩, hB⟩
  have hN1 : w.heap.size < w1.heap.size := by have := hB.size; simp at this; omega
  have hM1 : M < w1.heap.size := hrw.lt
  have hbox : w1.heap[w.heap.size]? = some (.cells #[.int .i64 s, .slice (some ⟨b, off, none⟩) zs.length cap, .int .i64 d] 41 (0, 0)) := (hB.block _ (by simp)).trans (blk_new _ _)
  have c1 : w1.cell? ⟨w.heap.size, 1, none⟩ = some (.slice (some ⟨b, off, none⟩) zs.length cap) := by rw [blk_cell hbox]; rfl
  have hB1 : Below w.heap.size w w1 := hB0.trans (hB.mono (by simp))
  have hcl := clone_any b off zs.length cap zs w1 rfl (by omega) (by omega) (by omega) (HC.out.below hb hB1)
  have HCL := hide hcl
  have HBOX := hide hbox
  have HRW := hide hrw
  have HB1 := hide hB1
  clear hcl hbox hrw hB hB1 hB0 HCF HC
  go_wp2_with fail
  refine HCL.out.mono ?_
  rintro e w2 ⟨⟨g, cg, hg1, hg2, hg3, rfl, hrow⟩, hB2⟩
  have hbox2 : w2.heap[w.heap.size]? = some (.cells #[.int .i64 s, .slice (some ⟨b, off, none⟩) zs.length cap, .int .i64 d] 41 (0, 0)) := (hB2.block _ hN1).trans HBOX.out
  have d0 : w2.cell? ⟨w.heap.size, 0, none⟩ = some (.int .i64 s) := by rw [blk_cell hbox2]; rfl
  have d1 : w2.cell? ⟨w.heap.size, 1, none⟩ = some (.slice (some ⟨b, off, none⟩) zs.length cap) := by rw [blk_cell hbox2]; rfl
  have d2 : w2.cell? ⟨w.heap.size, 2, none⟩ = some (.int .i64 d) := by rw [blk_cell hbox2]; rfl
  have f1 : w2.frozen? ⟨w.heap.size, 1, none⟩ = false := blk_free hbox2 1
  have HB2 := hide hB2
  have HROW := hide hrow
  clear hB2 hrow hbox2 HCL c1
  go_wp2
  go_ret2
  have hN2 : w.heap.size < w2.heap.size := Nat.lt_of_lt_of_le hN1 HB2.out.size
  have hM' : w.heap.size + 1 ≤ M := by simpa using hM
  have hset : Below w.heap.size w2 ((w2.setCell ⟨w.heap.size, 1, none⟩ (.slice (some ⟨g, 0, none⟩) zs.length cg)).alloc (.cells #[.int .i64 s, .slice (some ⟨g, 0, none⟩) zs.length cg, .int .i64 d, .slice (some ⟨M, 0, none⟩) zs.length zs.length] 87)) :=
    (show Below w.heap.size w2 (w2.setCell ⟨w.heap.size, 1, none⟩ (.slice (some ⟨g, 0, none⟩) zs.length cg)) from Below.setCell (Below.refl w.heap.size w2) (p := ⟨w.heap.size, 1, none⟩) (Nat.le_refl _) _).alloc (by simp [World.setCell]; omega) _
  have hk : ∀ k, k < w2.heap.size → k ≠ w.heap.size → ((w2.setCell ⟨w.heap.size, 1, none⟩ (.slice (some ⟨g, 0, none⟩) zs.length cg)).alloc (.cells #[.int .i64 s, .slice (some ⟨g, 0, none⟩) zs.length cg, .int .i64 d, .slice (some ⟨M, 0, none⟩) zs.length zs.length] 87)).heap[k]? = w2.heap[k]? := fun k h1 h2 => by
    rw [Below.heap_alloc _ _ _ (by simp [World.setCell]; omega), Below.heap_setCell _ _ _ _ h2]
  refine ⟨⟨w2.heap.size, g, cg, M, by omega, by omega, by omega, rfl, ?_⟩, (HB1.out.trans (HB2.out.mono (by omega))).trans hset⟩
  refine ⟨?_, rfl, hg3, ?_, fun k hk' => (World.cell?_of_block (w := w2) (hk g hg2 (by omega))).trans (HROW.out k hk'), ?_, HOK.out⟩
  · have := blk_new (w2.setCell ⟨w.heap.size, 1, none⟩ (.slice (some ⟨g, 0, none⟩) zs.length cg)) (.cells #[.int .i64 s, .slice (some ⟨g, 0, none⟩) zs.length cg, .int .i64 d, .slice (some ⟨M, 0, none⟩) zs.length zs.length] 87)
    simpa [World.setCell] using this
  · simp [World.setCell]; omega
  · refine HRW.out.of_block ((hk M ?_ (by omega)).trans (HB2.out.block M hM1))
    exact Nat.lt_of_lt_of_le hM1 HB2.out.size
end Go.Proofs.YtaablbmgagiajaaGreatDoor
