/- Laws for a whole state that is read or written; the contract of triumvirkeep.shown: it says yes. -/
import Derived.Test.YtpkfgpagkgmpcaaCoreStep
import Derived.Test.YtpkfgpagkgmpcaaCoreMath
namespace Go.Proofs.Ytpkfgpagkgmpcaa
open Go.RowKit Go.Deep

theorem wpList_load_st {ops : Array Oper} {rest : List Oper} {op : Oper} {a : Act} {w : World} {Q : Exit → Act → World → Prop} (hgd : op.guard = none) (x : Operand) (ho : op.op = .load 40 x)
    (b : Nat) (hx : a.eval x = .pointer (some ⟨b, 0, none⟩)) (S : St) (hS : StIs w b S)
    (h : wpList Try.prog ops Q rest (a.put op.dst (.agg (stCells S))) w) : wpList Try.prog ops Q (op :: rest) a w :=
  wpList_plain hgd fun _ hK => wp_load_row _ x ho b hx _ _ _ _ hS Try.underlying40 rfl (by rw [stateInfo]; rfl) (hK _ _ h)
theorem wpList_store_st {ops : Array Oper} {rest : List Oper} {op : Oper} {a : Act} {w : World} {Q : Exit → Act → World → Prop} (hgd : op.guard = none) (x y : Operand) (ho : op.op = .store 40 x y)
    (b : Nat) (X : St) (hx : a.eval x = .pointer (some ⟨b, 0, none⟩)) (hy : a.eval y = .agg (stCells X)) (S : St) (hS : StIs w b S)
    (h : wpList Try.prog ops Q rest (a.put op.dst undef) (w.setRow b (stCells X))) : wpList Try.prog ops Q (op :: rest) a w :=
  wpList_plain hgd fun _ hK => wp_store_row _ x y ho b _ hx hy _ _ hS (by rw [stateInfo]; rfl) rfl (oneCells X) (hK _ _ h)

/-- What is known behind k steps of the fact, and what was shown. -/
def factIn (k : Nat) : Int := if k = 0 then 3 else if k = 1 then 2 else if k = 2 then 1 else 3
def factSt : Nat → St
  | 0 => st0
  | k + 1 => nextF (rt [3]) (conf [3]) 1 1 (fitN 2 (factIn k)) (fitN 1 1) (factSt k)
def factOut (k : Nat) : Nat := outF (rt [3]) (conf [3]) 1 1 (fitN 2 (factIn k)) (fitN 1 1) (factSt k)
theorem fact_check : checkF 2 [3] 1 = (0, -1) := by decide +kernel
theorem fact0 : factOut 0 = 1 := by decide +kernel
theorem fact1 : factOut 1 = 0 := by decide +kernel
theorem fact2 : factOut 2 = 0 := by decide +kernel
theorem fact3 : factOut 3 = 1 := by decide +kernel
theorem fact_good (k : Nat) : Good (rt [3]) 1 (k : Int) (factSt k) := by
  induction k with
  | zero => exact good0 _ _
  | succ k ih => exact next_good (conf_conf fact_check) ih
/-- The outputs so far, as one number. -/
def factSum : Nat → Nat
  | 0 => 0
  | 1 => 1
  | 2 => 2
  | 3 => 4
  | _ => 9

theorem fact_step (p g cg M : Nat) (k : Nat) (z : Int) (w : World) (hk : k < 4) (hz : factIn k = z) (hK : CoreIs w p 2 1 1 [3] g cg M) :
    Calls Try.prog 11 #[.pointer (some ⟨p, 0, none⟩), .agg (stCells (factSt k)), .agg #[.int .i64 z, .int .i64 1]] w fun e w' =>
      e = .returned (.tuple #[.agg (stCells (factSt (k + 1))), .int .i64 ((factOut k : Nat) : Int)]) ∧ Below w.heap.size w w' := by
  have h := step_any p 2 1 1 [3] g cg M z 1 (factSt k) w hK (good_ok fact_check (fact_good k) (by omega))
  rw [← hz] at h ⊢
  exact h

theorem fact_row {w wx : World} (h : Below (w.heap.size + 1) (w.alloc (.cells #[.int .i64 3] 3)) wx) : Row wx w.heap.size 0 [3] := by
  intro k hk
  rw [h.cell (p := ⟨w.heap.size, 0 + k, none⟩) (Nat.lt_succ_self _)]
  match k, hk with
  | 0, _ => simp

/-- What holds while the fact is gone through. -/
structure FInv (w wr : World) (b p g cg M k : Nat) : Prop where
  old : Below w.heap.size w wr
  K : CoreIs wr p 2 1 1 [3] g cg M
  st : StIs wr b (factSt k)

theorem FInv.below {w wr wx : World} {b p g cg M k : Nat} (h : FInv w wr b p g cg M k) (hB : Below wr.heap.size wr wx) : FInv w wx b p g cg M k :=
  ⟨h.old.trans (hB.mono h.old.size), h.K.below h.K.plt h.K.glt h.K.mlt hB, (hB.block _ h.st.lt).trans h.st⟩
theorem FInv.next {w wr : World} {b p g cg M k : Nat} (h : FInv w wr b p g cg M k) (hb : w.heap.size ≤ b) (hp : p < b) (hg : g < b) (hM : M < b) : FInv w (wr.setRow b (stCells (factSt (k + 1)))) b p g cg M (k + 1) :=
  ⟨below_row h.old hb _, h.K.below (B := b) hp hg hM (below_row (Below.refl _ _) (Nat.le_refl _) _), row_same h.st _⟩

set_option maxHeartbeats 4000000 in
set_option maxRecDepth 20000 in
theorem shown_any (w : World) :
    Calls Try.prog 9 #[] w fun e w' => e = .returned (.bool true) ∧ Below w.heap.size w w' := by
  go_enter Try.func9, Try.ntmps9
  go_wp2_with fail
  refine (new_ok 2 1 w.heap.size 0 1 1 [3] _ rfl fact_check (by simp) (fact_row (Below.refl _ _)) (Nat.le_refl _)).mono ?_
  rintro e w1 ⟨⟨p, g, cg, M, hp, hg, hM, rfl, hK⟩, hB⟩
  have hB1 : Below w.heap.size w w1 := ((Below.refl _ _).alloc (Nat.le_refl _) _).trans (hB.mono (by simp))
  have hs1 := hB1.size
  have hp' : w.heap.size ≤ p := by simp at hp; omega
  have hI0 : FInv w (w1.alloc (.cells (stCells st0) 40)) w1.heap.size p g cg M 0 := by
    have hb : Below w1.heap.size w1 (w1.alloc (.cells (stCells st0) 40)) := (Below.refl _ _).alloc (Nat.le_refl _) _
    exact ⟨hB1.trans (hb.mono hs1), hK.below hK.plt hK.glt hK.mlt hb, blk_new _ _⟩
  have hpl := hK.plt
  have hgl := hK.glt
  have hml := hK.mlt
  have HI0 := hide hI0
  clear hI0 hB hK hg hM hB1
  go_wp2
  go_loopw [4, 21] (fun o i wr => ∃ k : Nat, k ≤ 4 ∧ i = .int .i64 k ∧ o = .int .i64 ((factSum k : Nat) : Int) ∧ FInv w wr w1.heap.size p g cg M k) (fun _ i _ => 4 - (intOf i).toNat)
  case atStart => exact ⟨0, Nat.zero_le _, rfl, rfl, HI0.out⟩
  case round =>
    clear HI0
    obtain ⟨k, hk, rfl, rfl, hI⟩ := hrel
    rcases (by omega : k = 0 ∨ k = 1 ∨ k = 2 ∨ k = 3 ∨ k = 4) with rfl | rfl | rfl | rfl | rfl
    · have hstp : Calls Try.prog 11 #[.pointer (some ⟨p, 0, none⟩), .agg (stCells (factSt 0)), .agg #[.int .i64 3, .int .i64 1]] wr fun e w' =>
          e = .returned (.tuple #[.agg (stCells (factSt 1)), .int .i64 1]) ∧ Hid (FInv w w' w1.heap.size p g cg M 0) := by
        refine (fact_step p g cg M 0 3 wr (by decide) rfl hI.K).mono ?_
        rw [fact0]
        rintro e w' ⟨he, hB⟩
        exact ⟨he, hI.below hB⟩
      have i0 : ∀ wx : World, (Instr.index 51 (.agg #[.int .i64 3, .int .i64 2, .int .i64 1, .int .i64 3]) (.int .i64 0)).run Try.prog wx = .ok (.int .i64 3) wx := fun _ => by kernel_rfl
      have HSTP := hide hstp
      have HI := hide hI
      clear hstp hI
      go_wp2_with (first
        | (refine wpList_load_st rfl _ rfl w1.heap.size rfl (factSt 0) HI.out.st ?_)
        | (go_at_call 11; refine HSTP.out.mono ?_; rintro e w2 ⟨rfl, HF2⟩)
        | (refine wpList_store_st rfl _ _ rfl w1.heap.size (factSt 1) rfl rfl _ HF2.out.st ?_))
      go_roundw
      case rel => exact ⟨1, by decide, rfl, congrArg (Value.int .i64) (by decide +kernel), HF2.out.next hs1 hpl hgl hml⟩
      case measure => decide
    · have hstp : Calls Try.prog 11 #[.pointer (some ⟨p, 0, none⟩), .agg (stCells (factSt 1)), .agg #[.int .i64 2, .int .i64 1]] wr fun e w' =>
          e = .returned (.tuple #[.agg (stCells (factSt 2)), .int .i64 0]) ∧ Hid (FInv w w' w1.heap.size p g cg M 1) := by
        refine (fact_step p g cg M 1 2 wr (by decide) rfl hI.K).mono ?_
        rw [fact1]
        rintro e w' ⟨he, hB⟩
        exact ⟨he, hI.below hB⟩
      have i0 : ∀ wx : World, (Instr.index 51 (.agg #[.int .i64 3, .int .i64 2, .int .i64 1, .int .i64 3]) (.int .i64 1)).run Try.prog wx = .ok (.int .i64 2) wx := fun _ => by kernel_rfl
      have HSTP := hide hstp
      have HI := hide hI
      clear hstp hI
      go_wp2_with (first
        | (refine wpList_load_st rfl _ rfl w1.heap.size rfl (factSt 1) HI.out.st ?_)
        | (go_at_call 11; refine HSTP.out.mono ?_; rintro e w2 ⟨rfl, HF2⟩)
        | (refine wpList_store_st rfl _ _ rfl w1.heap.size (factSt 2) rfl rfl _ HF2.out.st ?_))
      go_roundw
      case rel => exact ⟨2, by decide, rfl, congrArg (Value.int .i64) (by decide +kernel), HF2.out.next hs1 hpl hgl hml⟩
      case measure => decide
    · have hstp : Calls Try.prog 11 #[.pointer (some ⟨p, 0, none⟩), .agg (stCells (factSt 2)), .agg #[.int .i64 1, .int .i64 1]] wr fun e w' =>
          e = .returned (.tuple #[.agg (stCells (factSt 3)), .int .i64 0]) ∧ Hid (FInv w w' w1.heap.size p g cg M 2) := by
        refine (fact_step p g cg M 2 1 wr (by decide) rfl hI.K).mono ?_
        rw [fact2]
        rintro e w' ⟨he, hB⟩
        exact ⟨he, hI.below hB⟩
      have i0 : ∀ wx : World, (Instr.index 51 (.agg #[.int .i64 3, .int .i64 2, .int .i64 1, .int .i64 3]) (.int .i64 2)).run Try.prog wx = .ok (.int .i64 1) wx := fun _ => by kernel_rfl
      have HSTP := hide hstp
      have HI := hide hI
      clear hstp hI
      go_wp2_with (first
        | (refine wpList_load_st rfl _ rfl w1.heap.size rfl (factSt 2) HI.out.st ?_)
        | (go_at_call 11; refine HSTP.out.mono ?_; rintro e w2 ⟨rfl, HF2⟩)
        | (refine wpList_store_st rfl _ _ rfl w1.heap.size (factSt 3) rfl rfl _ HF2.out.st ?_))
      go_roundw
      case rel => exact ⟨3, by decide, rfl, congrArg (Value.int .i64) (by decide +kernel), HF2.out.next hs1 hpl hgl hml⟩
      case measure => decide
    · have hstp : Calls Try.prog 11 #[.pointer (some ⟨p, 0, none⟩), .agg (stCells (factSt 3)), .agg #[.int .i64 3, .int .i64 1]] wr fun e w' =>
          e = .returned (.tuple #[.agg (stCells (factSt 4)), .int .i64 1]) ∧ Hid (FInv w w' w1.heap.size p g cg M 3) := by
        refine (fact_step p g cg M 3 3 wr (by decide) rfl hI.K).mono ?_
        rw [fact3]
        rintro e w' ⟨he, hB⟩
        exact ⟨he, hI.below hB⟩
      have i0 : ∀ wx : World, (Instr.index 51 (.agg #[.int .i64 3, .int .i64 2, .int .i64 1, .int .i64 3]) (.int .i64 3)).run Try.prog wx = .ok (.int .i64 3) wx := fun _ => by kernel_rfl
      have HSTP := hide hstp
      have HI := hide hI
      clear hstp hI
      go_wp2_with (first
        | (refine wpList_load_st rfl _ rfl w1.heap.size rfl (factSt 3) HI.out.st ?_)
        | (go_at_call 11; refine HSTP.out.mono ?_; rintro e w2 ⟨rfl, HF2⟩)
        | (refine wpList_store_st rfl _ _ rfl w1.heap.size (factSt 4) rfl rfl _ HF2.out.st ?_))
      go_roundw
      case rel => exact ⟨4, by decide, rfl, congrArg (Value.int .i64) (by decide +kernel), HF2.out.next hs1 hpl hgl hml⟩
      case measure => decide
    · go_wp2
      go_ret
      exact ⟨rfl, hI.old⟩

end Go.Proofs.Ytpkfgpagkgmpcaa
