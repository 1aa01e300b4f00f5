import Derived.Test.YtaablbmgagiajabGreatDoorSGAJ
namespace Go.Proofs.YtaablbmgagiajabGreatDoor
open Go.RowKit Go.Deep
structure GS where
  set : Int
  used : Nat → Int
  idle : Nat → Int
def gCells (G : GS) : Array Value := #[.int .i64 G.set, .int .i64 (G.used 0), .int .i64 (G.used 1), .int .i64 (G.used 2), .int .i64 (G.used 3), .int .i64 (G.used 4), .int .i64 (G.used 5), .int .i64 (G.used 6), .int .i64 (G.used 7),
  .int .i64 (G.idle 0), .int .i64 (G.idle 1), .int .i64 (G.idle 2), .int .i64 (G.idle 3), .int .i64 (G.idle 4), .int .i64 (G.idle 5), .int .i64 (G.idle 6), .int .i64 (G.idle 7)]
def stG (S : St) : GS := ⟨(S.set : Int), fun k => (S.used k : Int), S.idle⟩
theorem stG_cells (S : St) : gCells (stG S) = stCells S := rfl
theorem gCells_used (G : GS) (i : Nat) (h : i < 8) : (gCells G)[1 + i]? = some (.int .i64 (G.used i)) := by
  match i, h with
  | 0, _ => rfl | 1, _ => rfl | 2, _ => rfl | 3, _ => rfl | 4, _ => rfl | 5, _ => rfl | 6, _ => rfl | 7, _ => rfl
theorem gCells_idle (G : GS) (i : Nat) (h : i < 8) : (gCells G)[9 + i]? = some (.int .i64 (G.idle i)) := by
  match i, h with
  | 0, _ => rfl | 1, _ => rfl | 2, _ => rfl | 3, _ => rfl | 4, _ => rfl | 5, _ => rfl | 6, _ => rfl | 7, _ => rfl
def GIs (w : World) (q : Nat) (G : GS) : Prop := w.heap[q]? = some (.cells (gCells G) 34 (0, 0))
theorem GIs.set {w : World} {q : Nat} {G : GS} (h : GIs w q G) : w.cell? ⟨q, 0, none⟩ = some (.int .i64 G.set) := (blk_cell h 0).trans rfl
theorem GIs.used {w : World} {q : Nat} {G : GS} (h : GIs w q G) {i : Nat} (hi : i < 8) : w.cell? ⟨q, 1 + i, none⟩ = some (.int .i64 (G.used i)) := (blk_cell h _).trans (gCells_used G i hi)
theorem GIs.idle {w : World} {q : Nat} {G : GS} (h : GIs w q G) {i : Nat} (hi : i < 8) : w.cell? ⟨q, 9 + i, none⟩ = some (.int .i64 (G.idle i)) := (blk_cell h _).trans (gCells_idle G i hi)
theorem GIs.lt {w : World} {q : Nat} {G : GS} (h : GIs w q G) : q < w.heap.size := blk_lt h
theorem GIs.below {w wx : World} {q B : Nat} {G : GS} (h : GIs w q G) (hq : q < B) (hB : Below B w wx) : GIs wx q G := (hB.block q hq).trans h
theorem wpList_load_g {ops : Array Oper} {rest : List Oper} {op : Oper} {a : Act} {w : World} {Q : Exit → Act → World → Prop} (hgd : op.guard = none) (x : Operand) (ho : op.op = .load 34 x)
    (b : Nat) (hx : a.eval x = .pointer (some ⟨b, 0, none⟩)) (G : GS) (hS : GIs w b G)
    (h : wpList Tryz.prog ops Q rest (a.put op.dst (.agg (gCells G))) w) : wpList Tryz.prog ops Q (op :: rest) a w :=
  wpList_plain hgd fun _ hK => wp_load_row _ x ho b hx _ _ _ _ hS Tryz.underlying34 rfl (by rw [stateInfo]; rfl) (hK _ _ h)
def rsB (r cf : Nat) (d : Int) (G : GS) (i : Nat) : Bool :=
  ((bits .and .i64 G.set (cf : Int) == 0 && bits .andNot .i64 (G.used i) (r : Int) == 0) && decide (0 ≤ G.idle i)) && decide (G.idle i ≤ (if G.used i == 0 then d else 1000))
theorem below_drewN' {B : Nat} {a w : World} (h : Below B a w) (n : Nat) : Below B a (w.drewN n) := ⟨h.os, h.tape, h.output, h.size, h.block⟩
set_option maxHeartbeats 4000000 in
set_option maxRecDepth 20000 in
theorem rightlySet_any (p : Nat) (s : Int) (d n : Nat) (zs : List Int) (g cg M : Nat) (G : GS) (i : Nat) (w : World) (hK : CoreIs w p s (d : Int) n zs g cg M) (hi : i < n) :
    Calls Tryz.prog 198 #[.pointer (some ⟨p, 0, none⟩), .agg (gCells G), .int .i64 (i : Int)] w fun e w' =>
      e = .returned (.bool (rsB (rt zs i) (conf zs i) d G i)) ∧ Below w.heap.size w w' := by
  obtain ⟨f1, f8, fs1, fs2, fd1, fd2⟩ := hK.few
  have hi8 : i < 8 := by omega
  have hB : Below w.heap.size w (w.alloc (.cells (gCells G) 34)) := (Below.refl _ _).alloc (Nat.le_refl _) _
  have hpl := hK.plt
  have hgl := hK.glt
  have hml := hK.mlt
  have c0 : (gCells G)[0]? = some (.int .i64 G.set) := rfl
  have cu := gCells_used G i hi8
  have ci := gCells_idle G i hi8
  have k1 : w.cell? ⟨p, 1, none⟩ = some (.slice (some ⟨g, 0, none⟩) n cg) := by rw [blk_cell hK.blk]; rfl
  have k2 : w.cell? ⟨p, 2, none⟩ = some (.int .i64 (d : Int)) := by rw [blk_cell hK.blk]; rfl
  have k3 : w.cell? ⟨p, 3, none⟩ = some (.slice (some ⟨M, 0, none⟩) n n) := by rw [blk_cell hK.blk]; rfl
  obtain ⟨r, hr, ⟨hr4, hr0⟩, hcr⟩ := hK.at hi
  obtain ⟨cf, hcf, hcf8, hcc⟩ := hK.conAt hi
  rw [hr.out, hcf.out]
  have HB := hide hB
  clear hB hK
  obtain ⟨z, hz⟩ : ∃ z, Hid (G.set = z) := ⟨_, hide rfl⟩
  obtain ⟨u, hu⟩ : ∃ u, Hid (G.used i = u) := ⟨_, hide rfl⟩
  obtain ⟨t, ht⟩ : ∃ t, Hid (G.idle i = t) := ⟨_, hide rfl⟩
  have hrs : rsB r cf d G i = (((bits .and .i64 z (cf : Int) == 0 && bits .andNot .i64 u (r : Int) == 0) && decide (0 ≤ t)) && decide (t ≤ (if u == 0 then (d : Int) else 1000))) := by unfold rsB; rw [hz.out, hu.out, ht.out]
  rw [hrs]
  rw [hz.out] at c0
  rw [hu.out] at cu
  rw [ht.out] at ci
  clear hrs hz hu ht hr hcf
  cases hu0 : (u == 0)
  · rw [if_neg (by decide)]
    cases hA : (bits BinOp.and IntKind.i64 z (cf : Int) == 0)
    · go_enter Tryz.func198, Tryz.ntmps198
      go_wp2_with fail
      go_quiet (fail)
      go_wp2
      go_ret
      exact ⟨ret_bool rfl, below_drewN' HB.out _⟩
    · cases hB : (bits BinOp.andNot IntKind.i64 u (r : Int) == 0)
      · go_enter Tryz.func198, Tryz.ntmps198
        go_wp2_with fail
        go_quiet (fail)
        go_wp2
        go_ret
        exact ⟨ret_bool rfl, below_drewN' HB.out _⟩
      · cases hC : decide (0 ≤ t)
        · go_enter Tryz.func198, Tryz.ntmps198
          go_wp2_with fail
          go_quiet (fail)
          go_wp2
          go_ret
          exact ⟨ret_bool rfl, below_drewN' HB.out _⟩
        · cases hD : decide (t ≤ 1000)
          · go_enter Tryz.func198, Tryz.ntmps198
            go_wp2_with fail
            go_quiet (fail)
            go_wp2
            go_ret
            exact ⟨ret_bool rfl, below_drewN' HB.out _⟩
          · go_enter Tryz.func198, Tryz.ntmps198
            go_wp2_with fail
            go_quiet (fail)
            go_wp2
            go_ret
            exact ⟨ret_bool rfl, below_drewN' HB.out _⟩
  · rw [if_pos rfl]
    cases hA : (bits BinOp.and IntKind.i64 z (cf : Int) == 0)
    · go_enter Tryz.func198, Tryz.ntmps198
      go_wp2_with fail
      go_quiet (fail)
      go_wp2
      go_ret
      exact ⟨ret_bool rfl, below_drewN' HB.out _⟩
    · cases hB : (bits BinOp.andNot IntKind.i64 u (r : Int) == 0)
      · go_enter Tryz.func198, Tryz.ntmps198
        go_wp2_with fail
        go_quiet (fail)
        go_wp2
        go_ret
        exact ⟨ret_bool rfl, below_drewN' HB.out _⟩
      · cases hC : decide (0 ≤ t)
        · go_enter Tryz.func198, Tryz.ntmps198
          go_wp2_with fail
          go_quiet (fail)
          go_wp2
          go_ret
          exact ⟨ret_bool rfl, below_drewN' HB.out _⟩
        · cases hD : decide (t ≤ (d : Int))
          · go_enter Tryz.func198, Tryz.ntmps198
            go_wp2_with fail
            go_quiet (fail)
            go_wp2
            go_ret
            exact ⟨ret_bool rfl, below_drewN' HB.out _⟩
          · go_enter Tryz.func198, Tryz.ntmps198
            go_wp2_with fail
            go_quiet (fail)
            go_wp2
            go_ret
            exact ⟨ret_bool rfl, below_drewN' HB.out _⟩
end Go.Proofs.YtaablbmgagiajabGreatDoor
namespace Go.Proofs.YtaablbmgagiajabGreatDoor
open Go.RowKit Go.Deep
def rightAt (zs : List Int) (d : Int) (G : GS) (i : Nat) : Bool := if (u64 G.set).testBit i then rsB (rt zs i) (conf zs i) d G i else (G.used i == 0 && G.idle i == 0)
def allTo (f : Nat → Bool) : Nat → Bool
  | 0 => true
  | i + 1 => allTo f i && f i
theorem allTo_at {f : Nat → Bool} {n i : Nat} (h : f i = false) (hi : i < n) : allTo f n = false := by
  induction n with
  | zero => omega
  | succ n ih =>
    unfold allTo
    by_cases e : i = n
    · subst e; rw [h]; simp
    · rw [ih (by omega)]; rfl
theorem allTo_of {f : Nat → Bool} {n : Nat} (h : allTo f n = true) {i : Nat} (hi : i < n) : f i = true := by
  cases hf : f i
  · rw [allTo_at hf hi] at h; exact absurd h (by decide)
  · rfl
def rightB (zs : List Int) (d : Int) (G : GS) : Bool := (decide (0 ≤ G.set) && decide (G.set < ((2 ^ zs.length : Nat) : Int))) && allTo (rightAt zs d G) 8
structure TInv (w wr : World) (G : GS) : Prop where
  old : Below w.heap.size w wr
  st : GIs wr w.heap.size G
theorem TInv.below {w wr wx : World} {G : GS} (h : TInv w wr G) (hB : Below wr.heap.size wr wx) : TInv w wx G := ⟨h.old.trans (hB.mono h.old.size), h.st.below h.st.lt hB⟩
set_option maxHeartbeats 4000000 in
set_option maxRecDepth 20000 in
theorem right_any (p : Nat) (s : Int) (d n : Nat) (zs : List Int) (g cg M : Nat) (G : GS) (w : World) (hK : CoreIs w p s (d : Int) n zs g cg M) :
    Calls Tryz.prog 175 #[.pointer (some ⟨p, 0, none⟩), .agg (gCells G)] w fun e w' =>
      e = .returned (.bool (rightB zs d G)) ∧ Below w.heap.size w w' := by
  obtain ⟨f1, f8, fs1, fs2, fd1, fd2⟩ := hK.few
  have hI0 : TInv w (w.alloc (.cells (gCells G) 34)) G := ⟨(Below.refl _ _).alloc (Nat.le_refl _) _, blk_new _ _⟩
  have hpl := hK.plt
  have c0 : (gCells G)[0]? = some (.int .i64 G.set) := rfl
  have k1 : w.cell? ⟨p, 1, none⟩ = some (.slice (some ⟨g, 0, none⟩) n cg) := by rw [blk_cell hK.blk]; rfl
  obtain ⟨z, hz⟩ : ∃ z, Hid (G.set = z) := ⟨_, hide rfl⟩
  rw [hz.out] at c0
  have hrb : rightB zs d G = ((decide (0 ≤ z) && decide (z < ((2 ^ n : Nat) : Int))) && allTo (rightAt zs d G) 8) := by unfold rightB; rw [hz.out, hK.len]
  have HRB := hide hrb
  obtain ⟨P, hP⟩ : ∃ P : Nat, Hid (2 ^ n = P) := ⟨_, hide rfl⟩
  have eP : wrap64 (2 ^ n) = (P : Int) := by rw [wrap_two_pow n (by omega), hP.out]
  have HI0 := hide hI0
  have HK := hide hK
  clear hI0 hK hrb
  by_cases hneg : z < 0
  · have hn1 : decide (z < 0) = true := by simpa using hneg
    go_enter Tryz.func175, Tryz.ntmps175
    go_wp2_with fail
    go_quiet (fail)
    go_wp2
    go_ret
    refine ⟨ret_bool ?_, below_drewN' HI0.out.old _⟩
    rw [HRB.out, decide_eq_false (by omega)]; rfl
  have hn1 : decide (z < 0) = false := by simpa using hneg
  by_cases hbig : (P : Int) ≤ z
  · have hn2 : decide ((P : Int) ≤ z) = true := by simpa using hbig
    go_enter Tryz.func175, Tryz.ntmps175
    go_wp2_with fail
    go_quiet (fail)
    go_wp2
    go_ret
    refine ⟨ret_bool ?_, below_drewN' HI0.out.old _⟩
    rw [HRB.out, hP.out, decide_eq_false (show ¬ z < (P : Int) by omega)]; simp
  have hn2 : decide ((P : Int) ≤ z) = false := by simpa using hbig
  obtain ⟨m, rfl⟩ := Int.eq_ofNat_of_zero_le (show 0 ≤ z by omega)
  have hmP : m < 2 ^ n := by rw [hP.out]; omega
  have hm8 : m < 256 := Nat.lt_of_lt_of_le hmP (Nat.pow_le_pow_right (n := 2) (by decide) (show n ≤ 8 by omega))
  have hrb2 : rightB zs d G = allTo (rightAt zs d G) 8 := by rw [HRB.out, hP.out, decide_eq_true (show 0 ≤ (m : Int) by omega), decide_eq_true (show (m : Int) < (P : Int) by omega)]; rfl
  have HR2 := hide hrb2
  have hn3 : decide (P ≤ m) = false := by simp; omega
  clear hrb2 HRB hP
  go_enter Tryz.func175, Tryz.ntmps175
  go_wp2_with fail
  go_quiet (fail)
  go_wp2
  clear c0 k1 eP hneg hbig hn1 hn2 hn3
  go_loopw [21] (fun i wr => ∃ k : Nat, k ≤ 8 ∧ i = .int .i64 k ∧ TInv w wr G ∧ Hid (allTo (rightAt zs d G) k = true)) (fun i _ => 8 - (intOf i).toNat)
  case atStart => exact ⟨0, Nat.zero_le _, rfl, ⟨below_drewN' HI0.out.old _, HI0.out.st⟩, rfl⟩
  case round =>
    clear HI0
    obtain ⟨i, hi, rfl, hI, HA⟩ := hrel
    by_cases hlt : i < 8
    · have c0 := hI.st.set
      rw [hz.out] at c0
      have cu := hI.st.used hlt
      have ci := hI.st.idle hlt
      have hra : rightAt zs d G i = if m.testBit i then rsB (rt zs i) (conf zs i) d G i else (G.used i == 0 && G.idle i == 0) := by unfold rightAt; rw [hz.out, u64_nat m (by omega)]
      obtain ⟨u, hu⟩ : ∃ u, Hid (G.used i = u) := ⟨_, hide rfl⟩
      obtain ⟨t, ht⟩ : ∃ t, Hid (G.idle i = t) := ⟨_, hide rfl⟩
      rw [hu.out] at cu hra
      rw [ht.out] at ci hra
      have hhas := fun wx => chas_nat m i wx (by omega) (by omega)
      cases hb : m.testBit i
      · rw [hb] at hhas hra
        rw [if_neg (by decide)] at hra
        have HH := hide hhas
        have HRA := hide hra
        clear hhas hra hb
        cases hu0 : (u == 0)
        · have hu1 : (u != 0) = true := by rw [bne, hu0]; rfl
          go_wp2_with (go_at_call 197; refine (unhide HH _).mono ?_; rintro e w' ⟨rfl, hw⟩; obtain rfl := hw.symm)
          go_ret
          exact ⟨ret_bool (by rw [HR2.out, allTo_at (i := i) (by rw [HRA.out, hu0]; rfl) hlt]), hI.old⟩
        · have hu1 : (u != 0) = false := by rw [bne, hu0]; rfl
          cases ht0 : (t == 0)
          · have ht1 : (t != 0) = true := by rw [bne, ht0]; rfl
            go_wp2_with (go_at_call 197; refine (unhide HH _).mono ?_; rintro e w' ⟨rfl, hw⟩; obtain rfl := hw.symm)
            go_ret
            exact ⟨ret_bool (by rw [HR2.out, allTo_at (i := i) (by rw [HRA.out, hu0, ht0]; rfl) hlt]), hI.old⟩
          · have ht1 : (t != 0) = false := by rw [bne, ht0]; rfl
            go_wp2_with (go_at_call 197; refine (unhide HH _).mono ?_; rintro e w' ⟨rfl, hw⟩; obtain rfl := hw.symm)
            go_roundw
            case rel => exact ⟨i + 1, by omega, by go_num, hI, by rw [Hid, allTo, HA.out, HRA.out, hu0, ht0]; rfl⟩
            case measure => simp [intOf]; omega
      · have hin : i < n := by
          refine Nat.lt_of_not_le fun hge => ?_
          rw [Nat.testBit_lt_two_pow (Nat.lt_of_lt_of_le hmP (Nat.pow_le_pow_right (by decide) hge))] at hb
          exact absurd hb (by decide)
        rw [hb] at hhas hra
        rw [if_pos rfl] at hra
        have hrs := rightlySet_any p s d n zs g cg M G i wr (HK.out.below HK.out.plt HK.out.glt HK.out.mlt hI.old) hin
        rw [← hra] at hrs
        have HH := hide hhas
        have HRS := hide hrs
        have HI := hide hI
        have hgi := hI.st
        have HGI := hide hgi
        clear hhas hra hb hrs hI hgi
        cases hr : rightAt zs d G i
        · rw [hr] at HRS
          go_wp2_with (first
            | (go_at_call 197; refine (unhide HH _).mono ?_; rintro e w' ⟨rfl, hw⟩; obtain rfl := hw.symm)
            | (refine wpList_load_g rfl _ rfl w.heap.size rfl G HGI.out ?_)
            | (go_at_call 198; refine HRS.out.mono ?_; rintro e w2 ⟨rfl, hB2⟩))
          go_ret
          exact ⟨ret_bool (by rw [HR2.out, allTo_at (i := i) hr hlt]), (HI.out.below hB2).old⟩
        · rw [hr] at HRS
          go_wp2_with (first
            | (go_at_call 197; refine (unhide HH _).mono ?_; rintro e w' ⟨rfl, hw⟩; obtain rfl := hw.symm)
            | (refine wpList_load_g rfl _ rfl w.heap.size rfl G HGI.out ?_)
            | (go_at_call 198; refine HRS.out.mono ?_; rintro e w2 ⟨rfl, hB2⟩))
          go_roundw
          case rel => exact ⟨i + 1, by omega, by go_num, HI.out.below hB2, by rw [Hid, allTo, HA.out, hr]; rfl⟩
          case measure => simp [intOf]; omega
    · have hin : i = 8 := by omega
      subst hin
      go_wp2
      go_ret
      exact ⟨ret_bool (by rw [HR2.out, HA.out]), hI.old⟩
end Go.Proofs.YtaablbmgagiajabGreatDoor
