import Derived.Test.YtaablbmgagiajabGreatDoorGAD
/- The contracts of (*core.Core).rightlySet and (*core.Core).Right, at every state. -/
namespace Go.Proofs.YtaablbmgagiajabGreatDoor
open Go.RowKit Go.Deep

/-- Any state: whatever numbers it has. -/
structure GS where
  set : Int
  used : Nat → Int
  idle : Nat → Int
def gCells (G : GS) : Array Value := #[.int .i64 G.set, .int .i64 (G.used 0), .int .i64 (G.used 1), .int .i64 (G.used 2), .int .i64 (G.used 3), .int .i64 (G.used 4), .int .i64 (G.used 5), .int .i64 (G.used 6), .int .i64 (G.used 7),
  .int .i64 (G.idle 0), .int .i64 (G.idle 1), .int .i64 (G.idle 2), .int .i64 (G.idle 3), .int .i64 (G.idle 4), .int .i64 (G.idle 5), .int .i64 (G.idle 6), .int .i64 (G.idle 7)]
def stG (S : St) : GS := ⟨(S.set : Int), fun k => (S.used k : Int), S.idle⟩
theorem stG_cells (S : St) : gCells (stG S) = stCells S := rfl
theorem gCells_used (G : GS) (i : Nat) (h : i < 8) : (gCells G)[1 + i]? = some (.int .i64 (G.used i)) := by
  match i, h with
  | 0, _ => rfl | 1, _ => rfl | 2, _ => rfl | 3, _ => rfl | 4, _ => rfl | 5, _ => rfl | 6, _ => rfl | 7, _ => rfl
theorem gCells_idle (G : GS) (i : Nat) (h : i < 8) : (gCells G)[9 + i]? = some (.int .i64 (G.idle i)) := by
  match i, h with
  | 0, _ => rfl | 1, _ => rfl | 2, _ => rfl | 3, _ => rfl | 4, _ => rfl | 5, _ => rfl | 6, _ => rfl | 7, _ => rfl
def GIs (w : World) (q : Nat) (G : GS) : Prop := w.heap[q]? = some (.cells (gCells G) 34 (0, 0))
theorem GIs.set {w : World} {q : Nat} {G : GS} (h : GIs w q G) : w.cell? ⟨q, 0, none⟩ = some (.int .i64 G.set) := (blk_cell h 0).trans rfl
theorem GIs.used {w : World} {q : Nat} {G : GS} (h : GIs w q G) {i : Nat} (hi : i < 8) : w.cell? ⟨q, 1 + i, none⟩ = some (.int .i64 (G.used i)) := (blk_cell h _).trans (gCells_used G i hi)
theorem GIs.idle {w : World} {q : Nat} {G : GS} (h : GIs w q G) {i : Nat} (hi : i < 8) : w.cell? ⟨q, 9 + i, none⟩ = some (.int .i64 (G.idle i)) := (blk_cell h _).trans (gCells_idle G i hi)
theorem GIs.lt {w : World} {q : Nat} {G : GS} (h : GIs w q G) : q < w.heap.size := blk_lt h
theorem GIs.below {w wx : World} {q B : Nat} {G : GS} (h : GIs w q G) (hq : q < B) (hB : Below B w wx) : GIs wx q G := (hB.block q hq).trans h
theorem gOne (G : GS) : (gCells G).all (·.oneCell') = true := by simp [gCells, Value.oneCell']

theorem wpList_load_g {ops : Array Oper} {rest : List Oper} {op : Oper} {a : Act} {w : World} {Q : Exit → Act → World → Prop} (hgd : op.guard = none) (x : Operand) (ho : op.op = .load 34 x)
    (b : Nat) (hx : a.eval x = .pointer (some ⟨b, 0, none⟩)) (G : GS) (hS : GIs w b G)
    (h : wpList Tryz.prog ops Q rest (a.put op.dst (.agg (gCells G))) w) : wpList Tryz.prog ops Q (op :: rest) a w :=
  wpList_plain hgd fun _ hK => wp_load_row _ x ho b hx _ _ _ _ hS Tryz.underlying34 rfl (by rw [stateInfo]; rfl) (hK _ _ h)

/-- May a route be set as a state tells it? -/
def rsB (r cf : Nat) (d : Int) (G : GS) (i : Nat) : Bool :=
  ((bits .and .i64 G.set (cf : Int) == 0 && bits .andNot .i64 (G.used i) (r : Int) == 0) && decide (0 ≤ G.idle i)) && decide (G.idle i ≤ (if G.used i == 0 then d else 1000))

theorem below_drewN' {B : Nat} {a w : World} (h : Below B a w) (n : Nat) : Below B a (w.drewN n) := ⟨h.os, h.tape, h.output, h.size, h.block⟩

set_option maxHeartbeats 4000000 in
set_option maxRecDepth 20000 in
theorem rightlySet_any (p : Nat) (s : Int) (d n : Nat) (zs : List Int) (g cg M : Nat) (G : GS) (i : Nat) (w : World) (hK : CoreIs w p s (d : Int) n zs g cg M) (hi : i < n) :
    Calls Tryz.prog 198 #[.pointer (some ⟨p, 0, none⟩), .agg (gCells G), .int .i64 (i : Int)] w fun e w' =>
      e = .returned (.bool (rsB (rt zs i) (conf zs i) d G i)) ∧ Below w.heap.size w w' := by
  obtain ⟨f1, f8, fs1, fs2, fd1, fd2⟩ := hK.few
  have hi8 : i < 8 := by omega
  have hB : Below w.heap.size w (w.alloc (.cells (gCells G) 34)) := (Below.refl _ _).alloc (Nat.le_refl _) _
  have hpl := hK.plt
  have hgl := hK.glt
  have hml := hK.mlt
  have c0 : (gCells G)[0]? = some (.int .i64 G.set) := rfl
  have cu := gCells_used G i hi8
  have ci := gCells_idle G i hi8
  have k1 : w.cell? ⟨p, 1, none⟩ = some (.slice (some ⟨g, 0, none⟩) n cg) := by rw [blk_cell hK.blk]; rfl
  have k2 : w.cell? ⟨p, 2, none⟩ = some (.int .i64 (d : Int)) := by rw [blk_cell hK.blk]; rfl
  have k3 : w.cell? ⟨p, 3, none⟩ = some (.slice (some ⟨M, 0, none⟩) n n) := by rw [blk_cell hK.blk]; rfl
  obtain ⟨r, hr, ⟨hr4, hr0⟩, hcr⟩ := hK.at hi
  obtain ⟨cf, hcf, hcf8, hcc⟩ := hK.conAt hi
  rw [hr.out, hcf.out]
  have HB := hide hB
  clear hB hK
  obtain ⟨z, hz⟩ : ∃ z, Hid (G.set = z) := ⟨_, hide rfl⟩
  obtain ⟨u, hu⟩ : ∃ u, Hid (G.used i = u) := ⟨_, hide rfl⟩
  obtain ⟨t, ht⟩ : ∃ t, Hid (G.idle i = t) := ⟨_, hide rfl⟩
  have hrs : rsB r cf d G i = (((bits .and .i64 z (cf : Int) == 0 && bits .andNot .i64 u (r : Int) == 0) && decide (0 ≤ t)) && decide (t ≤ (if u == 0 then (d : Int) else 1000))) := by unfold rsB; rw [hz.out, hu.out, ht.out]
  rw [hrs]
  rw [hz.out] at c0
  rw [hu.out] at cu
  rw [ht.out] at ci
  clear hrs hz hu ht hr hcf
  cases hu0 : (u == 0)
  · rw [if_neg (by decide)]
    cases hA : (bits BinOp.and IntKind.i64 z (cf : Int) == 0)
    · go_enter Tryz.func198, Tryz.ntmps198
      go_wp2_with fail
      go_quiet (fail)
      go_wp2
      go_ret
      exact ⟨ret_bool rfl, below_drewN' HB.out _⟩
    · cases hB : (bits BinOp.andNot IntKind.i64 u (r : Int) == 0)
      · go_enter Tryz.func198, Tryz.ntmps198
        go_wp2_with fail
        go_quiet (fail)
        go_wp2
        go_ret
        exact ⟨ret_bool rfl, below_drewN' HB.out _⟩
      · cases hC : decide (0 ≤ t)
        · go_enter Tryz.func198, Tryz.ntmps198
          go_wp2_with fail
          go_quiet (fail)
          go_wp2
          go_ret
          exact ⟨ret_bool rfl, below_drewN' HB.out _⟩
        · cases hD : decide (t ≤ 1000)
          · go_enter Tryz.func198, Tryz.ntmps198
            go_wp2_with fail
            go_quiet (fail)
            go_wp2
            go_ret
            exact ⟨ret_bool rfl, below_drewN' HB.out _⟩
          · go_enter Tryz.func198, Tryz.ntmps198
            go_wp2_with fail
            go_quiet (fail)
            go_wp2
            go_ret
            exact ⟨ret_bool rfl, below_drewN' HB.out _⟩
  · rw [if_pos rfl]
    cases hA : (bits BinOp.and IntKind.i64 z (cf : Int) == 0)
    · go_enter Tryz.func198, Tryz.ntmps198
      go_wp2_with fail
      go_quiet (fail)
      go_wp2
      go_ret
      exact ⟨ret_bool rfl, below_drewN' HB.out _⟩
    · cases hB : (bits BinOp.andNot IntKind.i64 u (r : Int) == 0)
      · go_enter Tryz.func198, Tryz.ntmps198
        go_wp2_with fail
        go_quiet (fail)
        go_wp2
        go_ret
        exact ⟨ret_bool rfl, below_drewN' HB.out _⟩
      · cases hC : decide (0 ≤ t)
        · go_enter Tryz.func198, Tryz.ntmps198
          go_wp2_with fail
          go_quiet (fail)
          go_wp2
          go_ret
          exact ⟨ret_bool rfl, below_drewN' HB.out _⟩
        · cases hD : decide (t ≤ (d : Int))
          · go_enter Tryz.func198, Tryz.ntmps198
            go_wp2_with fail
            go_quiet (fail)
            go_wp2
            go_ret
            exact ⟨ret_bool rfl, below_drewN' HB.out _⟩
          · go_enter Tryz.func198, Tryz.ntmps198
            go_wp2_with fail
            go_quiet (fail)
            go_wp2
            go_ret
            exact ⟨ret_bool rfl, below_drewN' HB.out _⟩

end Go.Proofs.YtaablbmgagiajabGreatDoor

/- The contract of (*core.Core).Right. -/
namespace Go.Proofs.YtaablbmgagiajabGreatDoor
open Go.RowKit Go.Deep

/-- May a state be? -/
def rightAt (zs : List Int) (d : Int) (G : GS) (i : Nat) : Bool := if (u64 G.set).testBit i then rsB (rt zs i) (conf zs i) d G i else (G.used i == 0 && G.idle i == 0)
def allTo (f : Nat → Bool) : Nat → Bool
  | 0 => true
  | i + 1 => allTo f i && f i
theorem allTo_at {f : Nat → Bool} {n i : Nat} (h : f i = false) (hi : i < n) : allTo f n = false := by
  induction n with
  | zero => omega
  | succ n ih =>
    unfold allTo
    by_cases e : i = n
    · subst e; rw [h]; simp
    · rw [ih (by omega)]; rfl
theorem allTo_of {f : Nat → Bool} {n : Nat} (h : allTo f n = true) {i : Nat} (hi : i < n) : f i = true := by
  cases hf : f i
  · rw [allTo_at hf hi] at h; exact absurd h (by decide)
  · rfl
theorem allTo_iff {f g : Nat → Bool} {n : Nat} (h : ∀ i, i < n → f i = g i) : allTo f n = allTo g n := by
  induction n with
  | zero => rfl
  | succ n ih => unfold allTo; rw [ih fun i hi => h i (by omega), h n (by omega)]
def rightB (zs : List Int) (d : Int) (G : GS) : Bool := (decide (0 ≤ G.set) && decide (G.set < ((2 ^ zs.length : Nat) : Int))) && allTo (rightAt zs d G) 8

/-- What holds while a state is gone through. -/
structure TInv (w wr : World) (G : GS) : Prop where
  old : Below w.heap.size w wr
  st : GIs wr w.heap.size G
theorem TInv.below {w wr wx : World} {G : GS} (h : TInv w wr G) (hB : Below wr.heap.size wr wx) : TInv w wx G := ⟨h.old.trans (hB.mono h.old.size), h.st.below h.st.lt hB⟩

set_option maxHeartbeats 4000000 in
set_option maxRecDepth 20000 in
theorem right_any (p : Nat) (s : Int) (d n : Nat) (zs : List Int) (g cg M : Nat) (G : GS) (w : World) (hK : CoreIs w p s (d : Int) n zs g cg M) :
    Calls Tryz.prog 175 #[.pointer (some ⟨p, 0, none⟩), .agg (gCells G)] w fun e w' =>
      e = .returned (.bool (rightB zs d G)) ∧ Below w.heap.size w w' := by
  obtain ⟨f1, f8, fs1, fs2, fd1, fd2⟩ := hK.few
  have hI0 : TInv w (w.alloc (.cells (gCells G) 34)) G := ⟨(Below.refl _ _).alloc (Nat.le_refl _) _, blk_new _ _⟩
  have hpl := hK.plt
  have c0 : (gCells G)[0]? = some (.int .i64 G.set) := rfl
  have k1 : w.cell? ⟨p, 1, none⟩ = some (.slice (some ⟨g, 0, none⟩) n cg) := by rw [blk_cell hK.blk]; rfl
  obtain ⟨z, hz⟩ : ∃ z, Hid (G.set = z) := ⟨_, hide rfl⟩
  rw [hz.out] at c0
  have hrb : rightB zs d G = ((decide (0 ≤ z) && decide (z < ((2 ^ n : Nat) : Int))) && allTo (rightAt zs d G) 8) := by unfold rightB; rw [hz.out, hK.len]
  have HRB := hide hrb
  obtain ⟨P, hP⟩ : ∃ P : Nat, Hid (2 ^ n = P) := ⟨_, hide rfl⟩
  have eP : wrap64 (2 ^ n) = (P : Int) := by rw [wrap_two_pow n (by omega), hP.out]
  have HI0 := hide hI0
  have HK := hide hK
  clear hI0 hK hrb
  by_cases hneg : z < 0
  · have hn1 : decide (z < 0) = true := by simpa using hneg
    go_enter Tryz.func175, Tryz.ntmps175
    go_wp2_with fail
    go_quiet (fail)
    go_wp2
    go_ret
    refine ⟨ret_bool ?_, below_drewN' HI0.out.old _⟩
    rw [HRB.out, decide_eq_false (by omega)]; rfl
  have hn1 : decide (z < 0) = false := by simpa using hneg
  by_cases hbig : (P : Int) ≤ z
  · have hn2 : decide ((P : Int) ≤ z) = true := by simpa using hbig
    go_enter Tryz.func175, Tryz.ntmps175
    go_wp2_with fail
    go_quiet (fail)
    go_wp2
    go_ret
    refine ⟨ret_bool ?_, below_drewN' HI0.out.old _⟩
    rw [HRB.out, hP.out, decide_eq_false (show ¬ z < (P : Int) by omega)]; simp
  have hn2 : decide ((P : Int) ≤ z) = false := by simpa using hbig
  obtain ⟨m, rfl⟩ := Int.eq_ofNat_of_zero_le (show 0 ≤ z by omega)
  have hmP : m < 2 ^ n := by rw [hP.out]; omega
  have hm8 : m < 256 := Nat.lt_of_lt_of_le hmP (Nat.pow_le_pow_right (n := 2) (by decide) (show n ≤ 8 by omega))
  have hrb2 : rightB zs d G = allTo (rightAt zs d G) 8 := by rw [HRB.out, hP.out, decide_eq_true (show 0 ≤ (m : Int) by omega), decide_eq_true (show (m : Int) < (P : Int) by omega)]; rfl
  have HR2 := hide hrb2
  have hn3 : decide (P ≤ m) = false := by simp; omega
  clear hrb2 HRB hP
  go_enter Tryz.func175, Tryz.ntmps175
  go_wp2_with fail
  go_quiet (fail)
  go_wp2
  clear c0 k1 eP hneg hbig hn1 hn2 hn3
  go_loopw [21] (fun i wr => ∃ k : Nat, k ≤ 8 ∧ i = .int .i64 k ∧ TInv w wr G ∧ Hid (allTo (rightAt zs d G) k = true)) (fun i _ => 8 - (intOf i).toNat)
  case atStart => exact ⟨0, Nat.zero_le _, rfl, ⟨below_drewN' HI0.out.old _, HI0.out.st⟩, rfl⟩
  case round =>
    clear HI0
    obtain ⟨i, hi, rfl, hI, HA⟩ := hrel
    by_cases hlt : i < 8
    · have c0 := hI.st.set
      rw [hz.out] at c0
      have cu := hI.st.used hlt
      have ci := hI.st.idle hlt
      have hra : rightAt zs d G i = if m.testBit i then rsB (rt zs i) (conf zs i) d G i else (G.used i == 0 && G.idle i == 0) := by unfold rightAt; rw [hz.out, u64_nat m (by omega)]
      obtain ⟨u, hu⟩ : ∃ u, Hid (G.used i = u) := ⟨_, hide rfl⟩
      obtain ⟨t, ht⟩ : ∃ t, Hid (G.idle i = t) := ⟨_, hide rfl⟩
      rw [hu.out] at cu hra
      rw [ht.out] at ci hra
      have hhas := fun wx => chas_nat m i wx (by omega) (by omega)
      cases hb : m.testBit i
      · rw [hb] at hhas hra
        rw [if_neg (by decide)] at hra
        have HH := hide hhas
        have HRA := hide hra
        clear hhas hra hb
        cases hu0 : (u == 0)
        · have hu1 : (u != 0) = true := by rw [bne, hu0]; rfl
          go_wp2_with (go_at_call 197; refine (unhide HH _).mono ?_; rintro e w' ⟨rfl, hw⟩; obtain rfl := hw.symm)
          go_ret
          exact ⟨ret_bool (by rw [HR2.out, allTo_at (i := i) (by rw [HRA.out, hu0]; rfl) hlt]), hI.old⟩
        · have hu1 : (u != 0) = false := by rw [bne, hu0]; rfl
          cases ht0 : (t == 0)
          · have ht1 : (t != 0) = true := by rw [bne, ht0]; rfl
            go_wp2_with (go_at_call 197; refine (unhide HH _).mono ?_; rintro e w' ⟨rfl, hw⟩; obtain rfl := hw.symm)
            go_ret
            exact ⟨ret_bool (by rw [HR2.out, allTo_at (i := i) (by rw [HRA.out, hu0, ht0]; rfl) hlt]), hI.old⟩
          · have ht1 : (t != 0) = false := by rw [bne, ht0]; rfl
            go_wp2_with (go_at_call 197; refine (unhide HH _).mono ?_; rintro e w' ⟨rfl, hw⟩; obtain rfl := hw.symm)
            go_roundw
            case rel => exact ⟨i + 1, by omega, by go_num, hI, by rw [Hid, allTo, HA.out, HRA.out, hu0, ht0]; rfl⟩
            case measure => simp [intOf]; omega
      · have hin : i < n := by
          refine Nat.lt_of_not_le fun hge => ?_
          rw [Nat.testBit_lt_two_pow (Nat.lt_of_lt_of_le hmP (Nat.pow_le_pow_right (by decide) hge))] at hb
          exact absurd hb (by decide)
        rw [hb] at hhas hra
        rw [if_pos rfl] at hra
        have hrs := rightlySet_any p s d n zs g cg M G i wr (HK.out.below HK.out.plt HK.out.glt HK.out.mlt hI.old) hin
        rw [← hra] at hrs
        have HH := hide hhas
        have HRS := hide hrs
        have HI := hide hI
        have hgi := hI.st
        have HGI := hide hgi
        clear hhas hra hb hrs hI hgi
        cases hr : rightAt zs d G i
        · rw [hr] at HRS
          go_wp2_with (first
            | (go_at_call 197; refine (unhide HH _).mono ?_; rintro e w' ⟨rfl, hw⟩; obtain rfl := hw.symm)
            | (refine wpList_load_g rfl _ rfl w.heap.size rfl G HGI.out ?_)
            | (go_at_call 198; refine HRS.out.mono ?_; rintro e w2 ⟨rfl, hB2⟩))
          go_ret
          exact ⟨ret_bool (by rw [HR2.out, allTo_at (i := i) hr hlt]), (HI.out.below hB2).old⟩
        · rw [hr] at HRS
          go_wp2_with (first
            | (go_at_call 197; refine (unhide HH _).mono ?_; rintro e w' ⟨rfl, hw⟩; obtain rfl := hw.symm)
            | (refine wpList_load_g rfl _ rfl w.heap.size rfl G HGI.out ?_)
            | (go_at_call 198; refine HRS.out.mono ?_; rintro e w2 ⟨rfl, hB2⟩))
          go_roundw
          case rel => exact ⟨i + 1, by omega, by go_num, HI.out.below hB2, by rw [Hid, allTo, HA.out, hr]; rfl⟩
          case measure => simp [intOf]; omega
    · have hin : i = 8 := by omega
      subst hin
      go_wp2
      go_ret
      exact ⟨ret_bool (by rw [HR2.out, HA.out]), hI.old⟩

end Go.Proofs.YtaablbmgagiajabGreatDoor

/- A state that may be, taken over; what a step leaves may be. Plain facts. -/
namespace Go.Proofs.YtaablbmgagiajabGreatDoor
open Go.RowKit Go.Deep

/-- Routes that are set, and meet route i. -/
def hitTo (zs : List Int) (m i : Nat) : Nat → Bool
  | 0 => false
  | k + 1 => hitTo zs m i k || (m.testBit k && (k != i && (rt zs i &&& rt zs k != 0)))
theorem hit_iff (zs : List Int) (m i n : Nat) : hitTo zs m i n = true ↔ ∃ k, k < n ∧ m.testBit k = true ∧ k ≠ i ∧ rt zs i &&& rt zs k ≠ 0 := by
  induction n with
  | zero => simp [hitTo]
  | succ n ih =>
    unfold hitTo
    rw [Bool.or_eq_true, ih]
    simp only [Bool.and_eq_true, bne_iff_ne]
    constructor
    · rintro (⟨k, h1, h2⟩ | ⟨h1, h2, h3⟩)
      · exact ⟨k, by omega, h2⟩
      · exact ⟨n, by omega, h1, h2, h3⟩
    · rintro ⟨k, h1, h2, h3, h4⟩
      by_cases e : k = n
      · subst e; exact .inr ⟨h2, h3, h4⟩
      · exact .inl ⟨k, by omega, h2, h3, h4⟩
/-- A state that may be, as sets. -/
def gSt (G : GS) : St := ⟨G.set.toNat, fun k => (G.used k).toNat, G.idle⟩
theorem hit_conf {zs : List Int} {s d : Int} {i m : Nat} (hok : checkF s zs d = (0, -1)) (hi : i < zs.length) (hm : m < 2 ^ zs.length) : (m &&& conf zs i == 0) = !hitTo zs m i zs.length := by
  rw [Bool.eq_iff_iff, beq_iff_eq, Bool.not_eq_true', ← Bool.not_eq_true, hit_iff]
  constructor
  · rintro h0 ⟨k, hk, h1, h2, h3⟩
    have := congrArg (fun x => x.testBit k) h0
    simp only [Nat.testBit_and, Nat.zero_testBit, h1, Bool.true_and] at this
    have h4 := (conf_conf hok i k hi hk).2 ⟨fun e => h2 e.symm, h3⟩
    exact absurd (h4.symm.trans this) (by decide)
  · intro h
    apply Nat.eq_of_testBit_eq
    intro k
    rw [Nat.testBit_and, Nat.zero_testBit]
    by_cases hk : k < zs.length
    · cases h1 : m.testBit k
      · rfl
      · cases h2 : (conf zs i).testBit k
        · rfl
        · obtain ⟨a1, a2⟩ := (conf_conf hok i k hi hk).1 h2
          exact absurd ⟨k, hk, h1, fun e => a1 e.symm, a2⟩ h
    · rw [Nat.testBit_lt_two_pow (Nat.lt_of_lt_of_le hm (Nat.pow_le_pow_right (by decide) (by omega)))]; rfl

theorem wrap_zero (x : Nat) (h : x < 18446744073709551616) : (IntKind.i64.wrap (x : Int) == 0) = (x == 0) := by
  rw [Bool.eq_iff_iff, beq_iff_eq, beq_iff_eq]
  simp [IntKind.wrap, IntKind.bits, IntKind.signed]
  omega
theorem andnot_zero (u : Int) (r : Nat) (h : r < 9223372036854775808) : (bits .andNot .i64 u (r : Int) == 0) = (wo (u64 u) r == 0) := by
  show (IntKind.i64.wrap (((BitVec.ofInt 64 _ &&& ~~~ BitVec.ofInt 64 _).toNat : Nat) : Int) == 0) = _
  rw [andnot_toNat, ofInt64, ofInt64, u64_nat r h]
  exact wrap_zero _ (wo_lt _ (u64_lt u))

/-- What was used lies within the route: just if it is a set of sections that are there, each of them the route's. -/
def subTo (U r : Nat) : Nat → Bool := allTo fun k => !U.testBit k || r.testBit k
theorem sub_same {u : Int} {r sn : Nat} (h1 : -9223372036854775808 ≤ u) (h2 : u < 9223372036854775808) (hr : r < 2 ^ sn) (hs : sn ≤ 12) : (wo (u64 u) r == 0) = ((decide (0 ≤ u) && decide (u < ((2 ^ sn : Nat) : Int))) && subTo u.toNat r sn) := by
  have hp : 2 ^ sn ≤ 2 ^ 12 := Nat.pow_le_pow_right (by decide) hs
  rw [Bool.eq_iff_iff, beq_iff_eq]
  simp only [Bool.and_eq_true, decide_eq_true_eq]
  constructor
  · intro h
    have hle : u64 u ≤ r := by
      rw [wo_zero] at h
      have e : u64 u &&& r = u64 u := by
        apply Nat.eq_of_testBit_eq
        intro j
        rw [Nat.testBit_and]
        cases hj : (u64 u).testBit j
        · rfl
        · rw [h j hj]; rfl
      rw [← e]; exact Nat.and_le_right
    have hu : 0 ≤ u := by unfold u64 at hle; omega
    have he : u64 u = u.toNat := by unfold u64; omega
    rw [he] at hle h
    refine ⟨⟨hu, by omega⟩, ?_⟩
    rw [wo_zero] at h
    unfold subTo
    have : ∀ n, allTo (fun k => !(u.toNat).testBit k || r.testBit k) n = true := by
      intro n
      induction n with
      | zero => rfl
      | succ n ih =>
        unfold allTo
        rw [ih]
        cases hb : (u.toNat).testBit n
        · rfl
        · rw [h n hb]; rfl
    exact this sn
  · rintro ⟨⟨hu, hl⟩, ha⟩
    have he : u64 u = u.toNat := by unfold u64; omega
    rw [he, wo_zero]
    intro k hk
    by_cases hks : k < sn
    · have := allTo_of ha hks
      rw [hk] at this
      simpa using this
    · rw [Nat.testBit_lt_two_pow (show u.toNat < 2 ^ k from Nat.lt_of_lt_of_le (by omega) (Nat.pow_le_pow_right (n := 2) (by decide) (show sn ≤ k by omega)))] at hk
      exact absurd hk (by decide)

/-- Of a route that is set: what the program asks, and what the reference asks, is one. -/
theorem rs_same {zs : List Int} {sn d i m : Nat} {G : GS} (hok : checkF (sn : Int) zs (d : Int) = (0, -1)) (hi : i < zs.length) (hz : G.set = (m : Int)) (hm : m < 2 ^ zs.length) (h1 : -9223372036854775808 ≤ G.used i) (h2 : G.used i < 9223372036854775808) :
    rsB (rt zs i) (conf zs i) d G i = ((((!hitTo zs m i zs.length) && ((decide (0 ≤ G.used i) && decide (G.used i < ((2 ^ sn : Nat) : Int))) && subTo (G.used i).toNat (rt zs i) sn)) && inB (G.idle i) 0 1000) && !(G.used i == 0 && decide ((d : Int) < G.idle i))) := by
  have hr := range_pos hok
  unfold rangeB at hr
  simp only [Bool.and_eq_true, inB_iff] at hr
  obtain ⟨_, hr2, hr3, _⟩ := rt_in hok hi
  rw [Int.toNat_natCast] at hr2
  have hp : 2 ^ zs.length ≤ 2 ^ 8 := Nat.pow_le_pow_right (by decide) (by omega)
  have hcl : conf zs i < 2 ^ zs.length := confTo_lt zs i zs.length
  unfold rsB
  rw [hz, and_nat m _ (by omega) (by omega), nat_beq, hit_conf hok hi hm, andnot_zero _ _ (by omega), sub_same h1 h2 hr2 (by omega)]
  generalize hitTo zs m i zs.length = a
  generalize ((decide (0 ≤ G.used i) && decide (G.used i < ((2 ^ sn : Nat) : Int))) && subTo (G.used i).toNat (rt zs i) sn) = b
  generalize G.idle i = t
  cases hu : (G.used i == 0)
  · rw [if_neg (by decide)]
    unfold inB
    cases a <;> cases b <;> simp
  · rw [if_pos rfl]
    unfold inB
    have e : (decide (0 ≤ t) && decide (t ≤ (d : Int))) = ((decide (0 ≤ t) && decide (t ≤ 1000)) && !decide ((d : Int) < t)) := by
      rw [Bool.eq_iff_iff]
      simp
      omega
    cases a <;> cases b <;> simp
    rw [Bool.eq_iff_iff]
    simp
    omega

/-- Numbers that an int can be. -/
structure GIn (G : GS) : Prop where
  set : -9223372036854775808 ≤ G.set ∧ G.set < 9223372036854775808
  used : ∀ k, -9223372036854775808 ≤ G.used k ∧ G.used k < 9223372036854775808
  idle : ∀ k, -9223372036854775808 ≤ G.idle k ∧ G.idle k < 9223372036854775808

theorem gCells_congr {G G' : GS} (h0 : G.set = G'.set) (h : ∀ k, k < 8 → G.used k = G'.used k ∧ G.idle k = G'.idle k) : gCells G = gCells G' := by
  unfold gCells
  rw [h0, (h 0 (by decide)).1, (h 1 (by decide)).1, (h 2 (by decide)).1, (h 3 (by decide)).1, (h 4 (by decide)).1, (h 5 (by decide)).1, (h 6 (by decide)).1, (h 7 (by decide)).1,
    (h 0 (by decide)).2, (h 1 (by decide)).2, (h 2 (by decide)).2, (h 3 (by decide)).2, (h 4 (by decide)).2, (h 5 (by decide)).2, (h 6 (by decide)).2, (h 7 (by decide)).2]

/-- What is asked of a route that is set, taken apart. -/
theorem rs_parts {zs : List Int} {sn d i m : Nat} {G : GS} (hok : checkF (sn : Int) zs (d : Int) = (0, -1)) (hi : i < zs.length) (hz : G.set = (m : Int)) (hm : m < 2 ^ zs.length) (h1 : -9223372036854775808 ≤ G.used i) (h2 : G.used i < 9223372036854775808) :
    rsB (rt zs i) (conf zs i) d G i = true ↔ hitTo zs m i zs.length = false ∧ 0 ≤ G.used i ∧ wo (G.used i).toNat (rt zs i) = 0 ∧ (0 ≤ G.idle i ∧ G.idle i ≤ 1000) ∧ (G.used i = 0 → G.idle i ≤ (d : Int)) := by
  have hr := range_pos hok
  unfold rangeB at hr
  simp only [Bool.and_eq_true, inB_iff] at hr
  obtain ⟨_, hr2, hr3, _⟩ := rt_in hok hi
  rw [Int.toNat_natCast] at hr2
  rw [rs_same hok hi hz hm h1 h2, ← sub_same h1 h2 hr2 (by omega)]
  simp only [Bool.and_eq_true, Bool.not_eq_true', inB_iff, beq_iff_eq, Bool.and_eq_false_iff, decide_eq_false_iff_not, beq_eq_false_iff_ne]
  constructor
  · rintro ⟨⟨⟨a, b⟩, c⟩, e⟩
    have hs := sub_same h1 h2 hr2 (by omega)
    rw [b] at hs
    simp only [beq_self_eq_true] at hs
    have hs' := hs.symm
    simp only [Bool.and_eq_true, decide_eq_true_eq] at hs'
    have hu : u64 (G.used i) = (G.used i).toNat := by unfold u64; omega
    rw [hu] at b
    refine ⟨a, hs'.1.1, b, c, fun h0 => ?_⟩
    rcases e with e | e
    · exact absurd h0 e
    · omega
  · rintro ⟨a, h0, b, c, e⟩
    have hu : u64 (G.used i) = (G.used i).toNat := by unfold u64; omega
    refine ⟨⟨⟨a, by rw [hu]; exact b⟩, c⟩, ?_⟩
    by_cases h : G.used i = 0
    · right; have := e h; omega
    · left; exact h

theorem right_state {zs : List Int} {sn d n : Nat} {G : GS} (hok : checkF (sn : Int) zs (d : Int) = (0, -1)) (hn : zs.length = n) (hg : GIn G) (h8 : ∀ k, 8 ≤ k → G.used k = 0 ∧ G.idle k = 0) (hR : rightB zs d G = true) : gCells G = stCells (gSt G) ∧ Good (rt zs) n 1000 (gSt G) := by
  have hr := range_pos hok
  unfold rangeB at hr
  simp only [Bool.and_eq_true, inB_iff] at hr
  unfold rightB at hR
  simp only [Bool.and_eq_true, decide_eq_true_eq] at hR
  obtain ⟨⟨h1, h2⟩, h3⟩ := hR
  obtain ⟨m, hm⟩ := Int.eq_ofNat_of_zero_le h1
  have hm2 : m < 2 ^ zs.length := by omega
  have hp : 2 ^ zs.length ≤ 2 ^ 8 := Nat.pow_le_pow_right (by decide) (by omega)
  have hgm : (gSt G).set = m := by show G.set.toNat = m; rw [hm]; rfl
  have hu64 : u64 G.set = m := by rw [hm, u64_nat m (by omega)]
  have hset : ∀ k, m.testBit k = true → k < zs.length ∧ (hitTo zs m k zs.length = false ∧ 0 ≤ G.used k ∧ wo (G.used k).toNat (rt zs k) = 0 ∧ (0 ≤ G.idle k ∧ G.idle k ≤ 1000) ∧ (G.used k = 0 → G.idle k ≤ (d : Int))) := by
    intro k hk
    have hkz : k < zs.length := by
      refine Nat.lt_of_not_le fun hge => ?_
      rw [Nat.testBit_lt_two_pow (Nat.lt_of_lt_of_le hm2 (Nat.pow_le_pow_right (by decide) hge))] at hk
      exact absurd hk (by decide)
    have := allTo_of h3 (show k < 8 by omega)
    unfold rightAt at this
    rw [hu64, hk, if_pos rfl] at this
    exact ⟨hkz, (rs_parts hok hkz hm hm2 (hg.used k).1 (hg.used k).2).1 this⟩
  have hun : ∀ k, m.testBit k = false → G.used k = 0 ∧ G.idle k = 0 := by
    intro k hk
    by_cases hk8 : k < 8
    · have := allTo_of h3 hk8
      unfold rightAt at this
      rw [hu64, hk, if_neg (by decide)] at this
      simpa using this
    · exact h8 k (by omega)
  refine ⟨?_, ?_, ?_, ?_, ?_, ?_⟩
  · rw [← stG_cells]
    refine gCells_congr ?_ fun k hk => ⟨?_, rfl⟩
    · show G.set = ((G.set.toNat : Nat) : Int); omega
    · show G.used k = (((G.used k).toNat : Nat) : Int)
      cases hb : m.testBit k
      · rw [(hun k hb).1]; rfl
      · have := (hset k hb).2.2.1; omega
  · rw [hgm, ← hn]; exact hm2
  · intro i k hi hk hik h4 h5
    rw [hgm] at h4 h5
    have := (hset i h4).2.1
    by_cases h0 : rt zs i &&& rt zs k = 0
    · exact h0
    · have := (hit_iff zs m i zs.length).2 ⟨k, by omega, h5, fun e => hik e.symm, h0⟩
      rw [(hset i h4).2.1] at this
      exact absurd this (by decide)
  · intro k _
    show wo (G.used k).toNat (rt zs k) = 0
    cases hb : m.testBit k
    · rw [(hun k hb).1]; simp [wo]
    · exact (hset k hb).2.2.2.1
  · intro k hk
    have hb : m.testBit k = false := by
      rcases hk with hk | hk
      · exact Nat.testBit_lt_two_pow (Nat.lt_of_lt_of_le hm2 (Nat.pow_le_pow_right (by decide) (by omega)))
      · rw [hgm] at hk; exact hk
    exact ⟨by show (G.used k).toNat = 0; rw [(hun k hb).1]; rfl, (hun k hb).2⟩
  · intro k
    show 0 ≤ G.idle k ∧ G.idle k ≤ 1000
    cases hb : m.testBit k
    · rw [(hun k hb).2]; omega
    · exact (hset k hb).2.2.2.2.1

/-- A route that is set, and was not used: it is not idle beyond the Delay. -/
theorem next_idle {R C : Nat → Nat} {n d c v : Nat} {B : Int} {S : St} (h : Good R n B S) {k : Nat} (hk : k < n) (hu : (nextF R C n d c v S).used k = 0) : (nextF R C n d c v S).idle k ≤ (d : Int) := by
  have hu' : (letTo R d c v S n).used k = 0 := hu
  show (letTo R d c v S n).idle k ≤ (d : Int)
  rw [(letTo_at R d c v S n k hk).2.1] at hu'
  rw [(letTo_at R d c v S n k hk).2.2]
  unfold letOne at hu' ⊢
  by_cases hs : S.set.testBit k = true
  · rw [if_pos hs] at hu' ⊢
    cases hl : leavesB (R k) c (usedOf (R k) c (S.used k)) d (idleOf v k (S.idle k))
    · rw [hl, if_neg (by decide)] at hu'
      rw [if_neg (by decide)]
      have e : usedOf (R k) c (S.used k) = 0 := by rw [← upd_same S.used k (usedOf (R k) c (S.used k))]; exact hu'
      show upd _ _ _ _ ≤ _
      rw [upd_same]
      unfold leavesB at hl
      rw [e] at hl
      simp at hl
      omega
    · rw [if_pos rfl]
      show upd _ _ _ _ ≤ _
      rw [upd_same]; omega
  · rw [if_neg hs]
    have := (h.rest k (.inr (by simpa using hs))).2
    omega

theorem next_right {zs : List Int} {sn d n c v : Nat} {B : Int} {S : St} (hok : checkF (sn : Int) zs (d : Int) = (0, -1)) (hn : zs.length = n) (hG : Good (rt zs) n B S) (hi : ∀ k, k < n → (nextF (rt zs) (conf zs) n d c v S).idle k < 1000) : rightB zs d (stG (nextF (rt zs) (conf zs) n d c v S)) = true := by
  have hN := next_good (d := d) (c := c) (v := v) (by rw [← hn]; exact conf_conf hok) hG
  have hx := fun k hk => next_idle (C := conf zs) (d := d) (c := c) (v := v) hG (k := k) hk
  generalize nextF (rt zs) (conf zs) n d c v S = X at hN hx hi ⊢
  have hr := range_pos hok
  unfold rangeB at hr
  simp only [Bool.and_eq_true, inB_iff] at hr
  have hs := hN.set
  have hp : 2 ^ n ≤ 2 ^ 8 := Nat.pow_le_pow_right (by decide) (by omega)
  unfold rightB
  have e0 : (stG X).set = (X.set : Int) := rfl
  rw [e0, decide_eq_true (show 0 ≤ (X.set : Int) by omega), decide_eq_true (show (X.set : Int) < ((2 ^ zs.length : Nat) : Int) by rw [hn]; omega)]
  have hall : ∀ m, m ≤ 8 → allTo (rightAt zs d (stG X)) m = true := by
    intro m
    induction m with
    | zero => intro _; rfl
    | succ m ih =>
      intro hm
      unfold allTo
      rw [ih (by omega)]
      unfold rightAt
      rw [e0, u64_nat _ (by omega)]
      cases hb : X.set.testBit m
      · have := hN.rest m (.inr hb)
        rw [if_neg (by decide)]
        show (true && (((X.used m : Nat) : Int) == 0 && X.idle m == 0)) = true
        rw [this.1, this.2]; rfl
      · have hmn : m < n := by
          refine Nat.lt_of_not_le fun hge => ?_
          rw [Nat.testBit_lt_two_pow (Nat.lt_of_lt_of_le hs (Nat.pow_le_pow_right (by decide) hge))] at hb
          exact absurd hb (by decide)
        rw [if_pos rfl, Bool.true_and]
        have hul : X.used m < 4096 := (good_ok hok (B := 1000000000) (by rw [hn]; exact ⟨hN.set, hN.apart, hN.used, hN.rest, fun k => by
          by_cases hk : k < n
          · have := hi k hk; have := hN.idle k; omega
          · have := (hN.rest k (.inl (by omega))).2; omega⟩) (Int.le_refl _)).used m
        refine (rs_parts hok (by omega) e0 (by rw [hn]; exact hs) (by show -9223372036854775808 ≤ ((X.used m : Nat) : Int); omega) (by show ((X.used m : Nat) : Int) < _; omega)).2 ⟨?_, by show 0 ≤ ((X.used m : Nat) : Int); omega, ?_, ⟨(hN.idle m).1, by have := hi m hmn; show X.idle m ≤ 1000; omega⟩, fun h0 => hx m hmn ?_⟩
        · cases hh : hitTo zs X.set m zs.length
          · rfl
          · obtain ⟨k, a1, a2, a3, a4⟩ := (hit_iff _ _ _ _).1 hh
            exact absurd (hN.apart m k hmn (by omega) (fun e => a3 e.symm) hb a2) a4
        · show wo (((X.used m : Nat) : Int)).toNat (rt zs m) = 0
          rw [Int.toNat_natCast]; exact hN.used m hmn
        · have : ((X.used m : Nat) : Int) = 0 := h0
          omega
  rw [hall 8 (Nat.le_refl _)]
  rfl


end Go.Proofs.YtaablbmgagiajabGreatDoor
