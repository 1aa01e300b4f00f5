import Derived.Maps.OwnSet
import Derived.Test.YtaablbmgagiajaaGreatDoorRGAS
import Derived.Test.YtaablbmgagiajaaGreatDoorRGAL
namespace Go.Proofs.YtaablbmgagiajaaGreatDoor
open Go.RowKit Go.Deep
structure GS where
  set : Int
  used : Nat → Int
  idle : Nat → Int
def gCells (G : GS) : Array Value := #[.int .i64 G.set, .int .i64 (G.used 0), .int .i64 (G.used 1), .int .i64 (G.used 2), .int .i64 (G.used 3), .int .i64 (G.used 4), .int .i64 (G.used 5), .int .i64 (G.used 6), .int .i64 (G.used 7),
  .int .i64 (G.idle 0), .int .i64 (G.idle 1), .int .i64 (G.idle 2), .int .i64 (G.idle 3), .int .i64 (G.idle 4), .int .i64 (G.idle 5), .int .i64 (G.idle 6), .int .i64 (G.idle 7)]
def stG (S : St) : GS := ⟨(S.set : Int), fun k => (S.used k : Int), S.idle⟩
theorem stG_cells (S : St) : gCells (stG S) = stCells S := rfl
theorem gCells_used (G : GS) (i : Nat) (h : i < 8) : (gCells G)[1 + i]? = some (.int .i64 (G.used i)) := by
  match i, h with
  | 0, _ => rfl | 1, _ => rfl | 2, _ => rfl | 3, _ => rfl | 4, _ => rfl | 5, _ => rfl | 6, _ => rfl | 7, _ => rfl
theorem gCells_idle (G : GS) (i : Nat) (h : i < 8) : (gCells G)[9 + i]? = some (.int .i64 (G.idle i)) := by
  match i, h with
  | 0, _ => rfl | 1, _ => rfl | 2, _ => rfl | 3, _ => rfl | 4, _ => rfl | 5, _ => rfl | 6, _ => rfl | 7, _ => rfl
def GIs (w : World) (q : Nat) (G : GS) : Prop := w.heap[q]? = some (.cells (gCells G) 33 (0, 0))
theorem GIs.set {w : World} {q : Nat} {G : GS} (h : GIs w q G) : w.cell? ⟨q, 0, none⟩ = some (.int .i64 G.set) := (blk_cell h 0).trans rfl
theorem GIs.used {w : World} {q : Nat} {G : GS} (h : GIs w q G) {i : Nat} (hi : i < 8) : w.cell? ⟨q, 1 + i, none⟩ = some (.int .i64 (G.used i)) := (blk_cell h _).trans (gCells_used G i hi)
theorem GIs.idle {w : World} {q : Nat} {G : GS} (h : GIs w q G) {i : Nat} (hi : i < 8) : w.cell? ⟨q, 9 + i, none⟩ = some (.int .i64 (G.idle i)) := (blk_cell h _).trans (gCells_idle G i hi)
theorem GIs.lt {w : World} {q : Nat} {G : GS} (h : GIs w q G) : q < w.heap.size := blk_lt h
theorem GIs.below {w wx : World} {q B : Nat} {G : GS} (h : GIs w q G) (hq : q < B) (hB : Below B w wx) : GIs wx q G := (hB.block q hq).trans h
theorem wpList_load_g {ops : Array Oper} {rest : List Oper} {op : Oper} {a : Act} {w : World} {Q : Exit → Act → World → Prop} (hgd : op.guard = none) (x : Operand) (ho : op.op = .load 33 x)
    (b : Nat) (hx : a.eval x = .pointer (some ⟨b, 0, none⟩)) (G : GS) (hS : GIs w b G)
    (h : wpList Tryz.prog ops Q rest (a.put op.dst (.agg (gCells G))) w) : wpList Tryz.prog ops Q (op :: rest) a w :=
  wpList_plain hgd fun _ hK => wp_load_row _ x ho b hx _ _ _ _ hS Tryz.underlying33 rfl (by rw [stateInfo]; rfl) (hK _ _ h)
def rsB (r cf : Nat) (d : Int) (G : GS) (i : Nat) : Bool :=
  ((bits .and .i64 G.set (cf : Int) == 0 && bits .andNot .i64 (G.used i) (r : Int) == 0) && decide (0 ≤ G.idle i)) && decide (G.idle i ≤ (if G.used i == 0 then d else 1000))
theorem below_drewN' {B : Nat} {a w : World} (h : Below B a w) (n : Nat) : Below B a (w.drewN n) := ⟨h.os, h.tape, h.output, h.size, h.block⟩
set_option maxHeartbeats 4000000 in
set_option maxRecDepth 20000 in
theorem rightlySet_any (p : Nat) (s : Int) (d n : Nat) (zs : List Int) (g cg M : Nat) (G : GS) (i : Nat) (w : World) (hK : CoreIs w p s (d : Int) n zs g cg M) (hi : i < n) :
    Calls Tryz.prog 105 #[.pointer (some ⟨p, 0, none⟩), .agg (gCells G), .int .i64 (i : Int)] w fun e w' =>
      e = .returned (.bool (rsB (rt zs i) (conf zs i) d G i)) ∧ Below w.heap.size w w' := by
  obtain ⟨f1, f8, fs1, fs2, fd1, fd2⟩ := hK.few
  have hi8 : i < 8 := by omega
  have hB : Below w.heap.size w (w.alloc (.cells (gCells G) 33)) := (Below.refl _ _).alloc (Nat.le_refl _) _
  have hpl := hK.plt
  have hgl := hK.glt
  have hml := hK.mlt
  have c0 : (gCells G)[0]? = some (.int .i64 G.set) := rfl
  have cu := gCells_used G i hi8
  have ci := gCells_idle G i hi8
  have k1 : w.cell? ⟨p, 1, none⟩ = some (.slice (some ⟨g, 0, none⟩) n cg) := by rw [blk_cell hK.blk]; rfl
  have k2 : w.cell? ⟨p, 2, none⟩ = some (.int .i64 (d : Int)) := by rw [blk_cell hK.blk]; rfl
  have k3 : w.cell? ⟨p, 3, none⟩ = some (.slice (some ⟨M, 0, none⟩) n n) := by rw [blk_cell hK.blk]; rfl
  obtain ⟨r, hr, ⟨hr4, hr0⟩, hcr⟩ := hK.at hi
  obtain ⟨cf, hcf, hcf8, hcc⟩ := hK.conAt hi
  rw [hr.out, hcf.out]
  have HB := hide hB
  clear hB hK
  obtain ⟨z, hz⟩ : ∃ z, Hid (G.set = z) := ⟨_, hide rfl⟩
  obtain ⟨u, hu⟩ : ∃ u, Hid (G.used i = u) := ⟨_, hide rfl⟩
  obtain ⟨t, ht⟩ : ∃ t, Hid (G.idle i = t) := ⟨_, hide rfl⟩
  have hrs : rsB r cf d G i = (((bits .and .i64 z (cf : Int) == 0 && bits .andNot .i64 u (r : Int) == 0) && decide (0 ≤ t)) && decide (t ≤ (if u == 0 then (d : Int) else 1000))) := by unfold rsB; rw [hz.out, hu.out, ht.out]
  rw [hrs]
  rw [hz.out] at c0
  rw [hu.out] at cu
  rw [ht.out] at ci
  clear hrs hz hu ht hr hcf
  cases hu0 : (u == 0)
  · rw [if_neg (by decide)]
    cases hA : (bits BinOp.and IntKind.i64 z (cf : Int) == 0)
    · go_enter Tryz.func105, Tryz.ntmps105
      go_wp2_with fail
      go_quiet (fail)
      go_wp2
      go_ret
      exact ⟨ret_bool rfl, below_drewN' HB.out _⟩
    · cases hB : (bits BinOp.andNot IntKind.i64 u (r : Int) == 0)
      · go_enter Tryz.func105, Tryz.ntmps105
        go_wp2_with fail
        go_quiet (fail)
        go_wp2
        go_ret
        exact ⟨ret_bool rfl, below_drewN' HB.out _⟩
      · cases hC : decide (0 ≤ t)
        · go_enter Tryz.func105, Tryz.ntmps105
          go_wp2_with fail
          go_quiet (fail)
          go_wp2
          go_ret
          exact ⟨ret_bool rfl, below_drewN' HB.out _⟩
        · cases hD : decide (t ≤ 1000)
          · go_enter Tryz.func105, Tryz.ntmps105
            go_wp2_with fail
            go_quiet (fail)
            go_wp2
            go_ret
            exact ⟨ret_bool rfl, below_drewN' HB.out _⟩
          · go_enter Tryz.func105, Tryz.ntmps105
            go_wp2_with fail
            go_quiet (fail)
            go_wp2
            go_ret
            exact ⟨ret_bool rfl, below_drewN' HB.out _⟩
  · rw [if_pos rfl]
    cases hA : (bits BinOp.and IntKind.i64 z (cf : Int) == 0)
    · go_enter Tryz.func105, Tryz.ntmps105
      go_wp2_with fail
      go_quiet (fail)
      go_wp2
      go_ret
      exact ⟨ret_bool rfl, below_drewN' HB.out _⟩
    · cases hB : (bits BinOp.andNot IntKind.i64 u (r : Int) == 0)
      · go_enter Tryz.func105, Tryz.ntmps105
        go_wp2_with fail
        go_quiet (fail)
        go_wp2
        go_ret
        exact ⟨ret_bool rfl, below_drewN' HB.out _⟩
      · cases hC : decide (0 ≤ t)
        · go_enter Tryz.func105, Tryz.ntmps105
          go_wp2_with fail
          go_quiet (fail)
          go_wp2
          go_ret
          exact ⟨ret_bool rfl, below_drewN' HB.out _⟩
        · cases hD : decide (t ≤ (d : Int))
          · go_enter Tryz.func105, Tryz.ntmps105
            go_wp2_with fail
            go_quiet (fail)
            go_wp2
            go_ret
            exact ⟨ret_bool rfl, below_drewN' HB.out _⟩
          · go_enter Tryz.func105, Tryz.ntmps105
            go_wp2_with fail
            go_quiet (fail)
            go_wp2
            go_ret
            exact ⟨ret_bool rfl, below_drewN' HB.out _⟩
end Go.Proofs.YtaablbmgagiajaaGreatDoor
