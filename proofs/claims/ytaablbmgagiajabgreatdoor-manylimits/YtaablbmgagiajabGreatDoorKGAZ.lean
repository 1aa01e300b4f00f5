import Derived.Test.YtaablbmgagiajabGreatDoorKGAX
import Derived.Test.YtaablbmgagiajabGreatDoorKGAY
import Derived.Conc.EventLaws
import Derived.Conc.Beside
import Derived.Conc.AppendWalk
import Derived.Laws.MakeOwn
namespace Go.Proofs.YtaablbmgagiajabGreatDoor.Ren
open Go Go.Conc
open Go.ConcR (KK WgAt stA smA rd wr mk)
variable (pG : Program)
def c1 : Code → Code
  | .seq a _ => a
  | c => c
def tl5 : Code := c2 (c2 (c2 (c2 (c2 ((((pG.funcs[27]?).getD default).body.getD .skip))))))
def tl6 : Code := c2 (tl5 pG)
def tl7 : Code := c2 (tl6 pG)
def lp1 : Code := ci (ci (c2 (c1 (tl5 pG))))
def lp2 : Code := ci (ci (c2 (c1 (tl6 pG))))
section
variable (p : Pa) (cs : List Frame) (ta : Option Addr) (tc : Nat)
set_option maxRecDepth 100000
def mg (x27 x28 x33 x34 x35 : Value) (J : Nat → Value) (todo : List Item) : Goroutine := { frame := { fn := 27, tmps := #[.slice ta p.m tc, .int .i64 p.n, J 2, J 3, J 4, J 5, ptr p.Ba, ptr p.Bt, ptr p.Wg, J 9, J 10, J 11, J 12, J 13, J 14, J 15, J 16, J 17, J 18, J 19, J 20, J 21, J 22, J 23, J 24, J 25, J 26, x27, x28, J 29, J 30, J 31, J 32, x33, x34, x35, J 36, J 37, J 38, J 39, J 40, J 41, J 42, J 43, J 44, J 45, J 46, J 47], todo, defers := [], mode := .run, kind := .normal }, callers := cs, status := .running, dying := none }
def slp (k : Int) (J : Nat → Value) : Goroutine := mg p cs ta tc (.int .i64 p.n) (.int .i64 k) (J 33) (J 34) (J 35) J [.code (lp1 pG), .inLoop (lp1 pG), .inBlock 0, .code (tl6 pG)]
def sdp (k : Int) (J : Nat → Value) : Goroutine := mg p cs ta tc (J 27) (J 28) (.slice ta p.m tc) (.int .i64 p.m) (.int .i64 k) J [.code (lp2 pG), .inLoop (lp2 pG), .inBlock 2, .code (tl7 pG)]
def gJ (g : Goroutine) (k : Nat) : Value := g.frame.tmps.getD k undef
def s1 (k : Int) (J : Nat → Value) : Goroutine := (nxts pG) true 2 (slp pG p cs ta tc k J)
theorem sil_slp (k : Int) (J : Nat → Value) : SilP true 2 (slp Tryz.prog p cs ta tc k J) := by
  iterate 2 (refine ⟨⟨by kernel_rfl, fun w => by kernel_rfl⟩, ?_⟩)
  trivial
theorem sym_s1 (k : Int) (J : Nat → Value) (w : World) : stepG Tryz.prog true (s1 Tryz.prog p cs ta tc k J) w = .go (fin (s1 Tryz.prog p cs ta tc k J) (.bool (decide (k < (p.n : Int))))) w #[] := by kernel_rfl
def s2 (k : Int) (J : Nat → Value) : Goroutine := (nxts pG) true 9 (fin (s1 pG p cs ta tc k J) (.bool true))
theorem sil_s2 (k : Int) (J : Nat → Value) : SilP true 9 (fin (s1 Tryz.prog p cs ta tc k J) (.bool true)) := by
  iterate 9 (refine ⟨⟨by kernel_rfl, fun w => by kernel_rfl⟩, ?_⟩)
  trivial
def sz (k : Int) (J : Nat → Value) : Frame := (s2 pG p cs ta tc k J).callers.headD default
theorem s2_q0 (k : Int) (J : Nat → Value) : (s2 Tryz.prog) p cs ta tc k J = (q0 Tryz.prog) p.Wg (sz Tryz.prog p cs ta tc k J :: cs) := by kernel_rfl
def s3 (k : Int) (J : Nat → Value) : Goroutine := (nxts pG) true 3 (back (sz pG p cs ta tc k J) cs)
theorem sil_s3 (k : Int) (J : Nat → Value) : SilP true 3 (back (sz Tryz.prog p cs ta tc k J) cs) := by
  iterate 3 (refine ⟨⟨by kernel_rfl, fun w => by kernel_rfl⟩, ?_⟩)
  trivial
theorem spawn_s3 (k : Int) (J : Nat → Value) (w : World) : stepG Tryz.prog true (s3 Tryz.prog p cs ta tc k J) w = .spawn (fin (s3 Tryz.prog p cs ta tc k J) undef) (wb Tryz.prog p) w #[] := by kernel_rfl
def s5 (k : Int) (J : Nat → Value) : Goroutine := (nxts pG) true 3 (fin (s3 pG p cs ta tc k J) undef)
theorem sil_s5 (k : Int) (J : Nat → Value) : SilP true 3 (fin (s3 Tryz.prog p cs ta tc k J) undef) := by
  iterate 3 (refine ⟨⟨by kernel_rfl, fun w => by kernel_rfl⟩, ?_⟩)
  trivial
theorem sym_s5 (k : Int) (J : Nat → Value) (w : World) : stepG Tryz.prog true (s5 Tryz.prog p cs ta tc k J) w = .go (fin (s5 Tryz.prog p cs ta tc k J) (.int .i64 (IntKind.i64.wrap (k + 1)))) w #[] := by kernel_rfl
theorem sil_s6 (k k' : Int) (J : Nat → Value) : SilP true 3 (fin (s5 Tryz.prog p cs ta tc k J) (.int .i64 k')) := by
  iterate 3 (refine ⟨⟨by kernel_rfl, fun w => by kernel_rfl⟩, ?_⟩)
  trivial
theorem slp_s6 (k k' : Int) (J : Nat → Value) : (nxts Tryz.prog) true 3 (fin (s5 Tryz.prog p cs ta tc k J) (.int .i64 k')) = (slp Tryz.prog) p cs ta tc k' (gJ (nxts Tryz.prog true 3 (fin (s5 Tryz.prog p cs ta tc k J) (.int .i64 k')))) := by kernel_rfl
theorem sil_sx (k : Int) (J : Nat → Value) : SilP true 13 (fin (s1 Tryz.prog p cs ta tc k J) (.bool false)) := by
  iterate 13 (refine ⟨⟨by kernel_rfl, fun w => by kernel_rfl⟩, ?_⟩)
  trivial
theorem sdp_sx (k : Int) (J : Nat → Value) : (nxts Tryz.prog) true 13 (fin (s1 Tryz.prog p cs ta tc k J) (.bool false)) = (sdp Tryz.prog) p cs ta tc 0 (gJ (nxts Tryz.prog true 13 (fin (s1 Tryz.prog p cs ta tc k J) (.bool false)))) := by kernel_rfl
theorem run_s (k : Int) (J : Nat → Value) : (s1 Tryz.prog p cs ta tc k J).status = .running ∧ (s3 Tryz.prog p cs ta tc k J).status = .running ∧ (s5 Tryz.prog p cs ta tc k J).status = .running := ⟨by kernel_rfl, by kernel_rfl, by kernel_rfl⟩
def d1 (k : Int) (J : Nat → Value) : Goroutine := (nxts pG) true 2 (sdp pG p cs ta tc k J)
theorem sil_sdp (k : Int) (J : Nat → Value) : SilP true 2 (sdp Tryz.prog p cs ta tc k J) := by
  iterate 2 (refine ⟨⟨by kernel_rfl, fun w => by kernel_rfl⟩, ?_⟩)
  trivial
theorem sym_d1 (k : Int) (J : Nat → Value) (w : World) : stepG Tryz.prog true (d1 Tryz.prog p cs ta tc k J) w = .go (fin (d1 Tryz.prog p cs ta tc k J) (.bool (decide (k < (p.m : Int))))) w #[] := by kernel_rfl
def d2 (k : Int) (J : Nat → Value) : Goroutine := (nxts pG) true 9 (fin (d1 pG p cs ta tc k J) (.bool true))
theorem sil_d2 (k : Int) (J : Nat → Value) : SilP true 9 (fin (d1 Tryz.prog p cs ta tc k J) (.bool true)) := by
  iterate 9 (refine ⟨⟨by kernel_rfl, fun w => by kernel_rfl⟩, ?_⟩)
  trivial
def idx2S (ta : Option Addr) (m tc : Nat) (k : Int) : Sem Next := Instr.indexAt 70 (.slice ta m tc) (.int .i64 k) >>= fun v => pure (.value v)
theorem ix_d2 (k : Int) (J : Nat → Value) (w : World) : atOp (d2 Tryz.prog p cs ta tc k J) = true ∧ (d2 Tryz.prog p cs ta tc k J).frame.fn = 27 ∧ (execOp (d2 Tryz.prog p cs ta tc k J).frame.eval (opAt (d2 Tryz.prog p cs ta tc k J))).runT Tryz.prog w #[] = (idx2S ta p.m tc k).runT Tryz.prog w #[] := ⟨by kernel_rfl, by kernel_rfl, by kernel_rfl⟩
def d3 (k : Int) (J : Nat → Value) (a : Addr) : Goroutine := fin (d2 pG p cs ta tc k J) (.pointer (some a))
theorem ld_d3 (k : Int) (J : Nat → Value) (a : Addr) (w : World) : atOp (d3 Tryz.prog p cs ta tc k J a) = true ∧ (d3 Tryz.prog p cs ta tc k J a).frame.fn = 27 ∧ (execOp (d3 Tryz.prog p cs ta tc k J a).frame.eval (opAt (d3 Tryz.prog p cs ta tc k J a))).runT Tryz.prog w #[] = (ldS a).runT Tryz.prog w #[] := ⟨by kernel_rfl, by kernel_rfl, by kernel_rfl⟩
def d4 (k : Int) (J : Nat → Value) (a : Addr) (s : ByteArray) : Goroutine := (nxts pG) true 4 (fin (d3 pG p cs ta tc k J a) (.string s))
theorem sil_d4 (k : Int) (J : Nat → Value) (a : Addr) (s : ByteArray) : SilP true 4 (fin (d3 Tryz.prog p cs ta tc k J a) (.string s)) := by
  iterate 4 (refine ⟨⟨by kernel_rfl, fun w => by kernel_rfl⟩, ?_⟩)
  trivial
theorem ld_d4 (k : Int) (J : Nat → Value) (a : Addr) (s : ByteArray) (w : World) : atOp (d4 Tryz.prog p cs ta tc k J a s) = true ∧ (d4 Tryz.prog p cs ta tc k J a s).frame.fn = 27 ∧ (execOp (d4 Tryz.prog p cs ta tc k J a s).frame.eval (opAt (d4 Tryz.prog p cs ta tc k J a s))).runT Tryz.prog w #[] = (ldS ⟨p.Bt, 0, none⟩).runT Tryz.prog w #[] := ⟨by kernel_rfl, by kernel_rfl, by kernel_rfl⟩
def d5 (k : Int) (J : Nat → Value) (a : Addr) (s : ByteArray) : Goroutine := (nxts pG) true 3 (fin (d4 pG p cs ta tc k J a s) (.chan (some p.Cn)))
theorem sil_d5 (k : Int) (J : Nat → Value) (a : Addr) (s : ByteArray) : SilP true 3 (fin (d4 Tryz.prog p cs ta tc k J a s) (.chan (some p.Cn))) := by
  iterate 3 (refine ⟨⟨by kernel_rfl, fun w => by kernel_rfl⟩, ?_⟩)
  trivial
theorem comm_d5 (k : Int) (J : Nat → Value) (a : Addr) (s : ByteArray) (w : World) : stepG Tryz.prog true (d5 Tryz.prog p cs ta tc k J a s) w = .comm (d5 Tryz.prog p cs ta tc k J a s) #[scase p.Cn (.agg #[.int .i64 k, .string s]) (.tuple #[])] true .send w #[] := by kernel_rfl
def d6 (k : Int) (J : Nat → Value) (a : Addr) (s : ByteArray) : Goroutine := (nxts pG) true 3 (Go.Conc.served (d5 pG p cs ta tc k J a s) undef)
theorem sil_d6 (k : Int) (J : Nat → Value) (a : Addr) (s : ByteArray) : SilP true 3 (Go.Conc.served (d5 Tryz.prog p cs ta tc k J a s) undef) := by
  iterate 3 (refine ⟨⟨by kernel_rfl, fun w => by kernel_rfl⟩, ?_⟩)
  trivial
theorem sym_d6 (k : Int) (J : Nat → Value) (a : Addr) (s : ByteArray) (w : World) : stepG Tryz.prog true (d6 Tryz.prog p cs ta tc k J a s) w = .go (fin (d6 Tryz.prog p cs ta tc k J a s) (.int .i64 (IntKind.i64.wrap (k + 1)))) w #[] := by kernel_rfl
theorem sil_d7 (k k' : Int) (J : Nat → Value) (a : Addr) (s : ByteArray) : SilP true 3 (fin (d6 Tryz.prog p cs ta tc k J a s) (.int .i64 k')) := by
  iterate 3 (refine ⟨⟨by kernel_rfl, fun w => by kernel_rfl⟩, ?_⟩)
  trivial
theorem sdp_d7 (k k' : Int) (J : Nat → Value) (a : Addr) (s : ByteArray) : (nxts Tryz.prog) true 3 (fin (d6 Tryz.prog p cs ta tc k J a s) (.int .i64 k')) = (sdp Tryz.prog) p cs ta tc k' (gJ (nxts Tryz.prog true 3 (fin (d6 Tryz.prog p cs ta tc k J a s) (.int .i64 k')))) := by kernel_rfl
theorem run_d (k : Int) (J : Nat → Value) (a : Addr) (s : ByteArray) : (d1 Tryz.prog p cs ta tc k J).status = .running ∧ (d2 Tryz.prog p cs ta tc k J).status = .running ∧ (d4 Tryz.prog p cs ta tc k J a s).status = .running ∧ (d5 Tryz.prog p cs ta tc k J a s).status = .running ∧ (d6 Tryz.prog p cs ta tc k J a s).status = .running := ⟨by kernel_rfl, by kernel_rfl, by kernel_rfl, by kernel_rfl, by kernel_rfl⟩
def z1 (k : Int) (J : Nat → Value) : Goroutine := (nxts pG) true 6 (fin (d1 pG p cs ta tc k J) (.bool false))
theorem sil_z1 (k : Int) (J : Nat → Value) : SilP true 6 (fin (d1 Tryz.prog p cs ta tc k J) (.bool false)) := by
  iterate 6 (refine ⟨⟨by kernel_rfl, fun w => by kernel_rfl⟩, ?_⟩)
  trivial
theorem ld_z1 (k : Int) (J : Nat → Value) (w : World) : atOp (z1 Tryz.prog p cs ta tc k J) = true ∧ (z1 Tryz.prog p cs ta tc k J).frame.fn = 27 ∧ (execOp (z1 Tryz.prog p cs ta tc k J).frame.eval (opAt (z1 Tryz.prog p cs ta tc k J))).runT Tryz.prog w #[] = (ldS ⟨p.Bt, 0, none⟩).runT Tryz.prog w #[] := ⟨by kernel_rfl, by kernel_rfl, by kernel_rfl⟩
def z2 (k : Int) (J : Nat → Value) : Goroutine := fin (z1 pG p cs ta tc k J) (.chan (some p.Cn))
def clS (c : Nat) : Sem Next := Builtin.close_ #[] 0 #[.chan (some c)] >>= fun v => pure (.value v)
theorem cl_z2 (k : Int) (J : Nat → Value) (w : World) : atOp (z2 Tryz.prog p cs ta tc k J) = true ∧ (z2 Tryz.prog p cs ta tc k J).frame.fn = 27 ∧ (execOp (z2 Tryz.prog p cs ta tc k J).frame.eval (opAt (z2 Tryz.prog p cs ta tc k J))).runT Tryz.prog w #[] = (clS p.Cn).runT Tryz.prog w #[] := ⟨by kernel_rfl, by kernel_rfl, by kernel_rfl⟩
theorem wake_z2 (k : Int) (J : Nat → Value) : mayWake Tryz.prog (z2 Tryz.prog p cs ta tc k J) = true := by kernel_rfl
def z3 (k : Int) (J : Nat → Value) : Goroutine := (nxts pG) true 4 (fin (z2 pG p cs ta tc k J) (.tuple #[]))
theorem sil_z3 (k : Int) (J : Nat → Value) : SilP true 4 (fin (z2 Tryz.prog p cs ta tc k J) (.tuple #[])) := by
  iterate 4 (refine ⟨⟨by kernel_rfl, fun w => by kernel_rfl⟩, ?_⟩)
  trivial
def wz (k : Int) (J : Nat → Value) : Frame := (z3 pG p cs ta tc k J).callers.headD default
theorem z3_y0 (k : Int) (J : Nat → Value) : (z3 Tryz.prog) p cs ta tc k J = (y0 Tryz.prog) p.Wg (wz Tryz.prog p cs ta tc k J :: cs) := by kernel_rfl
theorem run_z (k : Int) (J : Nat → Value) : (z1 Tryz.prog p cs ta tc k J).status = .running ∧ (z2 Tryz.prog p cs ta tc k J).status = .running := ⟨by kernel_rfl, by kernel_rfl⟩
end
end Go.Proofs.YtaablbmgagiajabGreatDoor.Ren
namespace Go.Proofs.YtaablbmgagiajabGreatDoor.Ren
open Go Go.Conc
open Go.ConcR (KK WgAt stA smA rd wr mk)
open Go.ConcN (st_flag st_waiters)
theorem conv_u32 : ∃ t, Tryz.prog.underlying 189 = some (.pointer t) ∧ Tryz.prog.underlying 184 = some .unsafePointer ∧ (Tryz.prog.info? t).map (fun i => decide (i.size = 0)) = some false := ⟨81, by kernel_rfl, by kernel_rfl, by kernel_rfl⟩
section
variable {S : Sc}
abbrev WkT (S : Sc) (Stop : Goroutine → Prop) : Nat → Goroutine → Prop := Wk Tryz.prog true (KW S) (RdM S) Stop
theorem wk_conv {Stop : Goroutine → Prop} {n : Nat} {g : Goroutine} {src dst : TypeId} {a : Addr} (hr : g.status = .running) (h : ∀ w, atOp g = true ∧ (execOp g.frame.eval (opAt g)).runT Tryz.prog w #[] = (cvS src dst (.pointer (some a))).runT Tryz.prog w #[]) (ht : ∃ t, Tryz.prog.underlying src = some (.pointer t) ∧ Tryz.prog.underlying dst = some .unsafePointer ∧ (Tryz.prog.info? t).map (fun i => decide (i.size = 0)) = some false)
    (hc : ∀ w, KW S w → ∃ v, w.cell? a = some v) (hn : WkT S Stop n (fin g (.pointer (some a)))) : WkT S Stop (n + 1) g :=
  Wk.step (es := #[]) hr (fun w hw => by
    obtain ⟨v, hv⟩ := hc w hw
    exact k_conv (main := true) (h w).1 (h w).2 ht hv) (fun e he => by simp at he) hn
theorem grp_st {w : World} (h : KW S w) : ∃ v, w.cell? (stA S.Wg) = some v := by
  obtain ⟨st, sm, h⟩ := h.grp
  exact ⟨_, h.cellSt⟩
theorem grp_sm {w : World} (h : KW S w) : ∃ v, w.cell? (smA S.Wg) = some v := by
  obtain ⟨st, sm, h⟩ := h.grp
  exact ⟨_, h.cellSm⟩
theorem wk_r4 {Stop : Goroutine → Prop} {k : Nat} (v : Nat) (hv : v ≤ 16) (cs : List Frame) {b : Bool} (hb : ((v : Int) == 1) = b)
    (h : WkT S Stop k (fin (r4 Tryz.prog S.Wg cs (v * KK) v) (.bool b))) : WkT S Stop (k + 1 + 14 + 1 + 5 + 1 + 1 + 11 + 1 + 10) (r0 Tryz.prog S.Wg cs (v * KK)) := by
  have hf : bits .and .u64 ((v : Int) * KK) 2147483648 = 0 := by simpa [KK] using st_flag v 0 (by omega) (by omega)
  have hw : bits .and .u64 ((v : Int) * KK) 2147483647 = 0 := by simpa [KK] using st_waiters v 0 (by omega) (by omega)
  have hd : ((v : Int) * KK).fdiv 4294967296 = v := by simp [KK]
  generalize (v : Int) * KK = X at *
  obtain ⟨_, _, e1, e2, e3, e4, _⟩ := run_r S.Wg cs X (v : Int)
  have a4 : WkT S Stop (k + 1) (r4 Tryz.prog S.Wg cs X v) := wk_sym e4 (fun w => by
    have := sym_r4 S.Wg cs X v w
    rw [hb] at this
    exact this) h
  have a3' := Wk.sil 14 _ (sil_r4 S.Wg cs X (v : Int)) a4
  have a3 : WkT S Stop (k + 1 + 14 + 1) (r3 Tryz.prog S.Wg cs X v) := wk_sym e3 (fun w => by
    have := sym_r3 S.Wg cs X v w
    rw [hw] at this
    exact this) a3'
  have a2 := Wk.sil 5 _ (sil_r3 S.Wg cs X (v : Int)) a3
  have a1 : WkT S Stop (k + 1 + 14 + 1 + 5 + 1 + 1) (r2 Tryz.prog S.Wg cs X) := wk_sym e2 (v := .int .u64 v) (fun w => by
    have := sym_r2 S.Wg cs X w
    rw [hd] at this
    exact this) (wk_sym (g := fin (r2 Tryz.prog S.Wg cs X) (.int .u64 v)) rfl (fun w => by
    have := sym_r2b S.Wg cs X v w
    rw [wrap32 v hv] at this
    exact this) a2)
  have a0 := Wk.sil 11 _ (sil_r2 S.Wg cs X) a1
  have b1 : WkT S Stop (k + 1 + 14 + 1 + 5 + 1 + 1 + 11 + 1) (r1 Tryz.prog S.Wg cs X) := wk_sym e1 (fun w => by
    have := sym_r1 S.Wg cs X w
    rw [hf] at this
    exact this) a0
  exact Wk.sil 10 _ (sil_r0 S.Wg cs X) b1
theorem at_add (hP : S.E.P = Tryz.prog) (hn : S.n ≤ 16) {Next : Goroutine → Prop} {z : Frame} {zs : List Frame} (hb : ∃ n, WkT S (AtGo S Next) n (back z zs)) : AtKdS S Next (q1 Tryz.prog S.Wg (z :: zs)) := by
  obtain ⟨nb, hb⟩ := hb
  obtain ⟨e1, e2, _⟩ := run_r S.Wg (z :: zs) 0 0
  have ke : ∀ g, g.status = .running → (∀ w, stepG Tryz.prog true g w = .go (nxt Tryz.prog true g) w #[mk .enable]) → ((nxt Tryz.prog true g).status = .running ∧ ∀ w, stepG Tryz.prog true (nxt Tryz.prog true g) w = .go (back z zs) w #[]) → AtKeS S Next g := fun g h1 h2 h3 => ⟨h1, _, fun w _ => by rw [hP]; exact h2 w, by
    unfold WkM
    rw [hP]
    exact ⟨nb + 1, Wk.step (es := #[]) h3.1 (fun w _ => h3.2 w) (fun e he => by simp at he) hb⟩⟩
  have a1 : AtA1 S Next (q2 Tryz.prog S.Wg (z :: zs)) := by
    refine ⟨e2, fun v hv => ⟨(r0 Tryz.prog) S.Wg (z :: zs) ((v + 1) * KK), fun w _ hw => ?_, ?_⟩⟩
    · rw [hP]
      refine add_q2 S.Wg (z :: zs) hw.cellSt (hw.thaw 0) ?_
      show IntKind.u64.wrap ((v : Int) * 4294967296 + 4294967296) = ((v : Int) + 1) * 4294967296
      rw [IntKind.wrap_u64]
      omega
    · have ev : ((v : Int) + 1) = ((v + 1 : Nat) : Int) := by omega
      rw [ev]
      unfold WkM
      rw [hP]
      rcases Nat.eq_zero_or_pos v with rfl | hpos
      · obtain ⟨f0, f1, f2⟩ := run_u S.Wg (z :: zs)
        have c2 : WkT S (AtKeS S Next) 0 (u2 Tryz.prog S.Wg (z :: zs)) := Wk.stop (ke _ f2 (ena_u2 S.Wg (z :: zs)) (out_u2 S.Wg z zs))
        have c1 := Wk.sil 39 _ (sil_u2 S.Wg (z :: zs)) c2
        have c0 : WkT S (AtKeS S Next) (0 + 39 + 1) (u1 Tryz.prog S.Wg (z :: zs)) := Wk.step f1 (fun w _ => rd_u1 S.Wg (z :: zs) w) (fun e he => by
          simp only [List.mem_toArray, List.mem_cons, List.not_mem_nil, or_false] at he
          exact .inr ⟨smA S.Wg, rfl, .inl he⟩) c1
        have b0 : WkT S (AtKeS S Next) (0 + 39 + 1 + 1) (u0 Tryz.prog S.Wg (z :: zs)) := wk_conv f0 (cv_u0 S.Wg (z :: zs)) conv_u32 (fun w hw => grp_sm hw) c0
        have b1 := Wk.sil 7 _ (sil_u0 S.Wg (z :: zs)) b0
        have := wk_r4 (S := S) (Stop := AtKeS S Next) 1 (by omega) (z :: zs) (b := true) (by decide) (k := 0 + 39 + 1 + 1 + 7) b1
        exact ⟨_, this⟩
      · obtain ⟨_, _, _, _, _, _, f5, f6, f7⟩ := run_r S.Wg (z :: zs) (((v + 1 : Nat) : Int) * KK) ((v + 1 : Nat) : Int)
        have c7 : WkT S (AtKeS S Next) 0 (r7 Tryz.prog S.Wg (z :: zs) (((v + 1 : Nat) : Int) * KK) ((v + 1 : Nat) : Int)) := Wk.stop (ke _ f7 (ena_r7 S.Wg (z :: zs) _ _) (out_r7 S.Wg z zs _ _))
        have c6' := Wk.sil 7 _ (sil_r7 S.Wg (z :: zs) _ _) c7
        have c6 : WkT S (AtKeS S Next) (0 + 7 + 1) (r6 Tryz.prog S.Wg (z :: zs) (((v + 1 : Nat) : Int) * KK) ((v + 1 : Nat) : Int)) := wk_sym f6 (fun w => by
          have := sym_r6 S.Wg (z :: zs) (((v + 1 : Nat) : Int) * KK) ((v + 1 : Nat) : Int) w
          rw [show decide (((v + 1 : Nat) : Int) > 0) = true from decide_eq_true (by omega)] at this
          exact this) c6'
        have c5' := Wk.sil 25 _ (sil_r6 S.Wg (z :: zs) _ _) c6
        have c5 : WkT S (AtKeS S Next) (0 + 7 + 1 + 25 + 1) (r5 Tryz.prog S.Wg (z :: zs) (((v + 1 : Nat) : Int) * KK) ((v + 1 : Nat) : Int)) := wk_sym f5 (fun w => by
          have := sym_r5 S.Wg (z :: zs) (((v + 1 : Nat) : Int) * KK) ((v + 1 : Nat) : Int) w
          rw [show decide (((v + 1 : Nat) : Int) < 0) = false from decide_eq_false (by omega)] at this
          exact this) c5'
        have c4 := Wk.sil 8 _ (sil_r5 S.Wg (z :: zs) _ _) c5
        exact ⟨_, wk_r4 (S := S) (v + 1) (by omega) (z :: zs) (b := false) (by simp; omega) c4⟩
  exact ⟨e1, _, fun w _ => by rw [hP]; exact dis_q1 S.Wg (z :: zs) w, by
    unfold WkM
    rw [hP]
    exact ⟨_, Wk.sil 34 _ (sil_q2 S.Wg (z :: zs)) (Wk.stop (n := 0) a1)⟩⟩
theorem wk_y5 {Stop : Goroutine → Prop} {k : Nat} (v : Nat) (hv : v ≤ 16) (cs : List Frame) (J : Nat → Value) {b : Bool} (hb : ((v : Int) == 0) = b)
    (h : WkT S Stop k (fin (y5 Tryz.prog S.Wg cs J (v * KK) v) (.bool b))) : WkT S Stop (k + 1 + 7 + 1 + 5 + 1 + 1 + 9) (fin (y2 Tryz.prog S.Wg cs J) (.int .u64 (v * KK))) := by
  have hw : bits .and .u64 ((v : Int) * KK) 2147483647 = 0 := by simpa [KK] using st_waiters v 0 (by omega) (by omega)
  have hd : ((v : Int) * KK).fdiv 4294967296 = v := by simp [KK]
  generalize (v : Int) * KK = X at *
  obtain ⟨_, _, e3, e4, e5, _⟩ := run_y S.Wg cs J X (v : Int) 0
  have a5 : WkT S Stop (k + 1) (y5 Tryz.prog S.Wg cs J X v) := wk_sym e5 (fun w => by
    have := sym_y5 S.Wg cs J X v w
    rw [hb] at this
    exact this) h
  have a4' := Wk.sil 7 _ (sil_y5 S.Wg cs J X (v : Int)) a5
  have a4 : WkT S Stop (k + 1 + 7 + 1) (y4 Tryz.prog S.Wg cs J X v) := wk_sym e4 (fun w => by
    have := sym_y4 S.Wg cs J X v w
    rw [hw] at this
    exact this) a4'
  have a3 := Wk.sil 5 _ (sil_y4 S.Wg cs J X (v : Int)) a4
  have a2 : WkT S Stop (k + 1 + 7 + 1 + 5 + 1 + 1) (y3 Tryz.prog S.Wg cs J X) := wk_sym e3 (v := .int .u64 v) (fun w => by
    have := sym_y3 S.Wg cs J X w
    rw [hd] at this
    exact this) (wk_sym (g := fin (y3 Tryz.prog S.Wg cs J X) (.int .u64 v)) rfl (fun w => by
    have := sym_y3b S.Wg cs J X v w
    rw [wrap32 v hv] at this
    exact this) a3)
  exact Wk.sil 9 _ (sil_y3 S.Wg cs J X) a2
def OutTo (z : Frame) (zs : List Frame) (g : Goroutine) : Prop := ∃ n, Wk Tryz.prog true (fun _ => True) (fun _ => False) (fun g => g = back z zs) n g
theorem at_wait (hP : S.E.P = Tryz.prog) (hn : S.n ≤ 16) {z : Frame} {zs : List Frame} (hA : ∀ J, S.AW (aw Tryz.prog S.Wg (z :: zs) J)) (hO : ∀ g, OutTo z zs g → S.Out g) (J : Nat → Value) : ∃ n, WkM S (AtW1 S) n (aw Tryz.prog S.Wg (z :: zs) J) := by
  unfold WkM
  rw [hP]
  have outg : S.Out (nxt Tryz.prog true (g2 Tryz.prog S.Wg (z :: zs) J)) := hO _ ⟨_, Wk.sil 19 _ (sil_g2 S.Wg (z :: zs) J) (Wk.step (n := 0) (es := #[]) (out_g2 S.Wg z zs J).1 (fun w _ => (out_g2 S.Wg z zs J).2 w) (fun e he => by simp at he) rfl)⟩
  have outh : ∀ X V Y, S.Out (nxt Tryz.prog true (h9 Tryz.prog S.Wg (z :: zs) J X V Y)) := fun X V Y => hO _ ⟨_, Wk.sil 9 _ (sil_h9 S.Wg (z :: zs) J X V Y) (Wk.step (n := 0) (es := #[]) (out_h9 S.Wg z zs J X V Y).1 (fun w _ => (out_h9 S.Wg z zs J X V Y).2 w) (fun e he => by simp at he) rfl)⟩
  have hr := fun X V Y => run_y S.Wg (z :: zs) J X V Y
  have keg : AtKe S (g0 Tryz.prog S.Wg (z :: zs) J) := by
    obtain ⟨_, _, _, _, _, f0, f1, f2, _⟩ := hr 0 0 0
    have a2 : WkT S (AtAcq S) 0 (g2 Tryz.prog S.Wg (z :: zs) J) := Wk.stop ⟨f2, _, fun w _ => by rw [hP]; exact acq_g2 S.Wg (z :: zs) J w, outg⟩
    have a1 : WkT S (AtAcq S) (0 + 1) (g1 Tryz.prog S.Wg (z :: zs) J) := wk_conv f1 (cv_g1 S.Wg (z :: zs) J) conv_wg (fun w hw => grp_st hw) a2
    exact ⟨f0, _, fun w _ => by rw [hP]; exact ena_g0 S.Wg (z :: zs) J w, by
      unfold WkM
      rw [hP]
      exact ⟨_, Wk.sil 3 _ (sil_g1 S.Wg (z :: zs) J) a1⟩⟩
  have w4 : ∀ X V Y, AtW4 S (h6 Tryz.prog S.Wg (z :: zs) J X V Y) := fun X V Y => by
    obtain ⟨_, _, _, _, _, _, _, _, _, _, _, _, _, _, f6, f7, f8, f9⟩ := hr X V Y
    have a2 : WkT S (AtAcq S) 0 (h9 Tryz.prog S.Wg (z :: zs) J X V Y) := Wk.stop ⟨f9, _, fun w _ => by rw [hP]; exact acq_h9 S.Wg (z :: zs) J X V Y w, outh X V Y⟩
    have a1 : WkT S (AtAcq S) (0 + 1) (h8 Tryz.prog S.Wg (z :: zs) J X V Y) := wk_conv f8 (cv_h8 S.Wg (z :: zs) J X V Y) conv_wg (fun w hw => grp_st hw) a2
    have ke : AtKe S (h7 Tryz.prog S.Wg (z :: zs) J X V Y) := ⟨f7, _, fun w _ => by rw [hP]; exact ena_h7 S.Wg (z :: zs) J X V Y w, by
      unfold WkM
      rw [hP]
      exact ⟨_, Wk.sil 3 _ (sil_h8 S.Wg (z :: zs) J X V Y) a1⟩⟩
    exact ⟨f6, _, fun w _ hw => by rw [hP]; exact load_h6 S.Wg (z :: zs) J X V Y hw.cellSt, by
      unfold WkM
      rw [hP]
      exact ⟨_, Wk.sil 11 _ (sil_h7 S.Wg (z :: zs) J X V Y) (Wk.stop (n := 0) ke)⟩⟩
  have w3 : ∀ X V Y, AtW3 S (h5 Tryz.prog S.Wg (z :: zs) J X V Y) := fun X V Y => by
    obtain ⟨_, _, _, _, _, _, _, _, _, _, _, _, _, f5, _⟩ := hr X V Y
    exact ⟨f5, (at_h5 S.Wg (z :: zs) J X V Y).2.2.2, fun w _ st hw => by rw [hP]; exact wait_h5 S.Wg (z :: zs) J X V Y hw.cellSm, _, fun w _ hw => by rw [hP]; exact acq_h5 S.Wg (z :: zs) J X V Y hw.cellSm (hw.thaw 1), by
      unfold WkM
      rw [hP]
      exact ⟨_, Wk.sil 16 _ (sil_h6 S.Wg (z :: zs) J X V Y) (Wk.stop (n := 0) (w4 X V Y))⟩⟩
  have w2 : ∀ v : Nat, v ≤ 16 → AtW2 S v (h1 Tryz.prog S.Wg (z :: zs) J (v * KK) v (v * KK + 1)) := fun v hv => by
    obtain ⟨_, _, _, _, _, _, _, _, _, f1, f2, f3, f4, f5, _⟩ := hr (v * KK) v (v * KK + 1)
    have hf : bits .and .u64 ((v : Int) * KK) 2147483648 = 0 := by simpa [KK] using st_flag v 0 (by omega) (by omega)
    refine ⟨f1, fun v' hv' => ⟨fun e => ?_, fun e => ?_⟩⟩
    · subst e
      refine ⟨_, fun w _ hw => by rw [hP]; exact hit_h1 S.Wg (z :: zs) J _ _ _ hw.cellSt (hw.thaw 0), ?_⟩
      unfold WkM
      rw [hP]
      have a5 : WkT S (AtW3 S) 0 (h5 Tryz.prog S.Wg (z :: zs) J (v' * KK) v' (v' * KK + 1)) := Wk.stop (w3 _ _ _)
      have a4' := Wk.sil 13 _ (sil_h5 S.Wg (z :: zs) J _ _ _) a5
      have a4 : WkT S (AtW3 S) (0 + 13 + 1) (h4 Tryz.prog S.Wg (z :: zs) J (v' * KK) v' (v' * KK + 1)) := wk_sym f4 (fun w => by
        have := sym_h4 S.Wg (z :: zs) J (v' * KK) v' (v' * KK + 1) w
        rw [hf] at this
        exact this) a4'
      have a3' := Wk.sil 9 _ (sil_h4 S.Wg (z :: zs) J _ _ _) a4
      have a3 : WkT S (AtW3 S) (0 + 13 + 1 + 9 + 1) (h3 Tryz.prog S.Wg (z :: zs) J (v' * KK) v' (v' * KK + 1)) := Wk.step f3 (fun w _ => wr_h3 S.Wg (z :: zs) J _ _ _ w) (fun e he => by
        simp only [List.mem_toArray, List.mem_cons, List.not_mem_nil, or_false] at he
        exact .inr ⟨smA S.Wg, rfl, .inr he⟩) a3'
      have a2 : WkT S (AtW3 S) (0 + 13 + 1 + 9 + 1 + 1) (h2 Tryz.prog S.Wg (z :: zs) J (v' * KK) v' (v' * KK + 1)) := wk_conv f2 (cv_h2 S.Wg (z :: zs) J _ _ _) conv_u32 (fun w hw => grp_sm hw) a3
      exact ⟨_, Wk.sil 19 _ (sil_h2 S.Wg (z :: zs) J _ _ _) a2⟩
    · refine ⟨_, fun w _ hw => by
        rw [hP]
        refine miss_h1 S.Wg (z :: zs) J _ _ _ hw.cellSt (hw.thaw 0) (fun e' => e ?_)
        have e' : (v' : Int) * 4294967296 = (v : Int) * 4294967296 := e'
        omega, ?_⟩
      · unfold WkM
        rw [hP]
        exact ⟨_, Wk.sil 9 _ (sil_miss S.Wg (z :: zs) J _ _ _) (Wk.stop (n := 0) (by rw [aw_miss]; exact hA _))⟩
  have w1 : AtW1 S (y2 Tryz.prog S.Wg (z :: zs) J) := by
    refine ⟨(hr 0 0 0).2.1, fun v hv => ⟨_, fun w _ hw => by rw [hP]; exact load_y2 S.Wg (z :: zs) J hw.cellSt, fun e => ?_, fun e => ?_⟩⟩
    · subst e
      unfold WkM
      rw [hP]
      have a0 : WkT S (AtKe S) 0 (g0 Tryz.prog S.Wg (z :: zs) J) := Wk.stop keg
      have a1 := Wk.sil 6 _ (sil_g0 S.Wg (z :: zs) J) a0
      exact ⟨_, wk_y5 (S := S) 0 (by omega) (z :: zs) J (b := true) (by decide) (by simpa using a1)⟩
    · unfold WkM
      rw [hP]
      obtain ⟨_, _, _, _, _, _, _, _, f0, _⟩ := hr (v * KK) v (v * KK + 1)
      have a1 : WkT S (AtW2 S v) 0 (h1 Tryz.prog S.Wg (z :: zs) J (v * KK) v (v * KK + 1)) := Wk.stop (w2 v (by omega))
      have a0' := Wk.sil 12 _ (sil_h1 S.Wg (z :: zs) J _ _ _) a1
      have a0 : WkT S (AtW2 S v) (0 + 12 + 1) (h0 Tryz.prog S.Wg (z :: zs) J (v * KK) v) := wk_sym f0 (fun w => by
        have := sym_h0 S.Wg (z :: zs) J (v * KK) v w
        rw [show IntKind.u64.wrap ((v : Int) * KK + 1) = (v : Int) * KK + 1 by
          show IntKind.u64.wrap ((v : Int) * 4294967296 + 1) = (v : Int) * 4294967296 + 1
          rw [IntKind.wrap_u64]
          omega] at this
        exact this) a0'
      have b0 := Wk.sil 10 _ (sil_h0 S.Wg (z :: zs) J _ _) a0
      exact ⟨_, wk_y5 (S := S) v (by omega) (z :: zs) J (b := false) (by simp; omega) b0⟩
  exact ⟨_, Wk.sil 16 _ (sil_aw S.Wg (z :: zs) J) (Wk.stop (n := 0) w1)⟩
theorem at_kd (hP : S.E.P = Tryz.prog) {z : Frame} {zs : List Frame} (hA : ∀ J, S.AW (aw Tryz.prog S.Wg (z :: zs) J)) : AtKd S (y1 Tryz.prog S.Wg (z :: zs)) := ⟨(run_y S.Wg (z :: zs) (fun _ => undef) 0 0 0).1, _, fun w _ => by rw [hP]; exact dis_y1 S.Wg (z :: zs) w, by
  unfold WkM
  rw [hP]
  exact ⟨_, Wk.sil 3 _ (sil_y1 S.Wg (z :: zs)) (Wk.stop (n := 0) (by rw [aw_y1]; exact hA _))⟩⟩
end
end Go.Proofs.YtaablbmgagiajabGreatDoor.Ren
namespace Go.Proofs.YtaablbmgagiajabGreatDoor.Ren
open Go Go.Conc
open Go.ConcR (KK WgAt stA smA rd wr mk)
variable (pG : Program)
structure PaOk (p : Pa) (ta : Option Addr) : Prop where
  n16 : p.n ≤ 16
  m50 : p.m ≤ 50
  bt : ∃ t, p.w0.heap[p.Bt]? = some (.cells #[.chan (some p.Cn)] t)
  ba : ∃ t, p.w0.heap[p.Ba]? = some (.cells #[.slice (some ⟨p.An, 0, none⟩) p.m p.m] t)
  btn : p.Bt ≠ p.Wg ∧ p.Bt ≠ p.Cn ∧ p.Bt ≠ p.An
  ban : p.Ba ≠ p.Wg ∧ p.Ba ≠ p.Cn ∧ p.Ba ≠ p.An
  bts : ¬ p.Shun (.cell ⟨p.Bt, 0, none⟩)
  bas : ¬ p.Shun (.cell ⟨p.Ba, 0, none⟩)
  txt : ∀ k, k < p.m → ∃ a, ta = some a ∧ p.w0.cell? (a.add k) = some (.string (p.tx k)) ∧ a.block < p.w0.heap.size ∧ a.block ≠ p.Wg ∧ a.block ≠ p.Cn ∧ a.block ≠ p.An ∧ ¬ p.Shun (.cell (a.add k))
section
variable {p : Pa} {ta : Option Addr} {AW Out : Goroutine → Prop}
theorem cell_low {w : World} (h : KW ((p.sc Tryz.prog) AW Out) w) {a : Addr} (hb : a.block < p.w0.heap.size) (h1 : a.block ≠ p.Wg) (h2 : a.block ≠ p.Cn) (h3 : a.block ≠ p.An) : w.cell? a = p.w0.cell? a := by
  have := h.low a.block hb h1 h2 h3
  unfold World.cell?
  rw [this]
  rfl
theorem bt_cell (X : PaOk p ta) {w : World} (h : KW ((p.sc Tryz.prog) AW Out) w) : w.cell? ⟨p.Bt, 0, none⟩ = some (.chan (some p.Cn)) := by
  obtain ⟨t, ht⟩ := X.bt
  rw [cell_low h (heap_lt ht) X.btn.1 X.btn.2.1 X.btn.2.2, cells_cell ht]
  rfl
theorem ba_cell (X : PaOk p ta) {w : World} (h : KW ((p.sc Tryz.prog) AW Out) w) : w.cell? ⟨p.Ba, 0, none⟩ = some (.slice (some ⟨p.An, 0, none⟩) p.m p.m) := by
  obtain ⟨t, ht⟩ := X.ba
  rw [cell_low h (heap_lt ht) X.ban.1 X.ban.2.1 X.ban.2.2, cells_cell ht]
  rfl
theorem bt_rd (X : PaOk p ta) : RdE ((p.sc Tryz.prog) AW Out) ⟨.cell ⟨p.Bt, 0, none⟩, false, false⟩ := by
  obtain ⟨t, ht⟩ := X.bt
  exact ⟨_, ⟨_, rfl, heap_lt ht, X.btn.1, X.btn.2.2, X.bts⟩, rfl⟩
theorem ba_rd (X : PaOk p ta) : RdE ((p.sc Tryz.prog) AW Out) ⟨.cell ⟨p.Ba, 0, none⟩, false, false⟩ := by
  obtain ⟨t, ht⟩ := X.ba
  exact ⟨_, ⟨_, rfl, heap_lt ht, X.ban.1, X.ban.2.2, X.bas⟩, rfl⟩
theorem one_ev {Q : Event → Prop} {e : Event} (h : Q e) : ∀ e' ∈ (#[e] : Array Event), Q e' := fun e' he => by
  simp only [List.mem_toArray, List.mem_cons, List.not_mem_nil, or_false] at he
  rw [he]
  exact h
theorem wb_at : atOp (w1 Tryz.prog p) = true ∧ atOp (w2 Tryz.prog p) = true ∧ (w1 Tryz.prog p).status = .running ∧ (w2 Tryz.prog p).status = .running ∧ (w1 Tryz.prog p).frame.fn = 67 ∧ (w2 Tryz.prog p).frame.fn = 67 ∧ (wb Tryz.prog p).status = .running := ⟨by kernel_rfl, by kernel_rfl, by kernel_rfl, by kernel_rfl, by kernel_rfl, by kernel_rfl, by kernel_rfl⟩
theorem seen_rd1 (a : Addr) : seen Tryz.prog 67 #[⟨.cell a, false, false⟩] = #[⟨.cell a, false, false⟩] := by kernel_rfl
theorem seen_rdA (a : Addr) : seen Tryz.prog 27 #[⟨.cell a, false, false⟩] = #[⟨.cell a, false, false⟩] := by kernel_rfl
theorem seen_clA (c : Nat) : seen Tryz.prog 27 #[⟨.obj c, false, true⟩, ⟨.obj c, true, true⟩] = #[⟨.obj c, false, true⟩, ⟨.obj c, true, true⟩] := by kernel_rfl
theorem wk_born (X : PaOk p ta) : ∃ n, WkW ((p.sc Tryz.prog) AW Out) ((p.sc Tryz.prog) AW Out).AR n (wb Tryz.prog p) := by
  obtain ⟨a1, a2, r1, r2, f1, f2, _⟩ := wb_at (p := p)
  have s4 : Wk Tryz.prog false (KW ((p.sc Tryz.prog) AW Out)) (RdE ((p.sc Tryz.prog) AW Out)) ((p.sc Tryz.prog) AW Out).AR 0 (w4 Tryz.prog p) := Wk.stop ⟨_, w4_rcv p⟩
  have s3 := Wk.sil 9 _ (sil_w3 p) s4
  have s2 := Wk.step r2 (fun w hw => k_ld (main := false) a2 (ld_w2 p w) (ba_cell X hw) (by rw [f2]; exact seen_rd1 _)) (one_ev (ba_rd X)) s3
  have s1 := Wk.step r1 (fun w hw => k_ld (main := false) a1 (ld_w1 p w) (bt_cell X hw) (by rw [f1]; exact seen_rd1 _)) (one_ev (bt_rd X)) s2
  exact ⟨_, Wk.sil 6 _ (sil_wb p) s1⟩
theorem run_idx2 {a : Addr} {m tc k : Nat} (h : k < m) (w : World) : (idx2S (some a) m tc k).run Tryz.prog w = .ok (.value (.pointer (some (a.add k)))) w ∧ (idx2S (some a) m tc k).events Tryz.prog w #[] = #[] := by
  have hu : Tryz.prog.underlying 70 = some (.slice (Tryz.prog.elem 70)) := by kernel_rfl
  have hs : (sizeOf (Tryz.prog.elem 70)).run Tryz.prog w = .ok 1 w := by kernel_rfl
  have hi : (0 ≤ (k : Int) ∧ (k : Int) < (m : Int)) := by omega
  simp [idx2S, run_indexAt_slice (h := hu), events_indexAt_slice (h := hu) (hi := hi), hi, hs, Addr.add]
theorem run_clS {w : World} {c s r : Nat} (h : w.heap[c]? = some (.chan 0 #[] false s r false)) : (clS c).run Tryz.prog w = .ok (.value (.tuple #[])) (w.setChan c 0 #[] true s r false) ∧ (clS c).events Tryz.prog w #[] = #[⟨.obj c, false, true⟩, ⟨.obj c, true, true⟩] := by
  have h1 := run_close_open (P := Tryz.prog) #[] 0 h
  have h2 := events_close_open (P := Tryz.prog) (es := #[]) #[] 0 h
  exact ⟨by simp [clS, h1, World.setChan], by simp [clS, h2]⟩
def awS (p : Pa) (cs : List Frame) (ta : Option Addr) (tc : Nat) (g : Goroutine) : Prop := ∃ k J' J, g = (aw Tryz.prog) p.Wg (wz Tryz.prog p cs ta tc k J' :: cs) J
def outS (p : Pa) (cs : List Frame) (ta : Option Addr) (tc : Nat) (g : Goroutine) : Prop := ∃ k J', OutTo (wz Tryz.prog p cs ta tc k J') cs g
def Pa.so (p : Pa) (cs : List Frame) (ta : Option Addr) (tc : Nat) : Sc := (p.sc pG) (awS p cs ta tc) (outS p cs ta tc)
variable {cs : List Frame} {tc : Nat}
theorem so_aw (X : PaOk p ta) (g : Goroutine) (h : ((p.so Tryz.prog) cs ta tc).AW g) : g.status = .running ∧ ∃ n, WkM ((p.so Tryz.prog) cs ta tc) (AtW1 ((p.so Tryz.prog) cs ta tc)) n g := by
  obtain ⟨k, J', J, rfl⟩ := h
  exact ⟨rfl, at_wait (S := (p.so Tryz.prog) cs ta tc) rfl X.n16 (fun J => ⟨k, J', J, rfl⟩) (fun g hg => ⟨k, J', hg⟩) J⟩
theorem so_snd (X : PaOk p ta) : ∀ (l : Nat), l ≤ p.m → ∀ J, Snd ((p.so Tryz.prog) cs ta tc) l (sdp Tryz.prog p cs ta tc ((p.m - l : Nat) : Int) J) := by
  intro l
  induction l with
  | zero =>
    intro _ J
    obtain ⟨r1, r2⟩ := run_z p cs ta tc (p.m : Int) J
    have hK := at_kd (S := (p.so Tryz.prog) cs ta tc) rfl (z := (wz Tryz.prog) p cs ta tc p.m J) (zs := cs) (fun J' => ⟨_, J, J', rfl⟩)
    have hK0 : WkT ((p.so Tryz.prog) cs ta tc) (AtKd ((p.so Tryz.prog) cs ta tc)) 0 (y1 Tryz.prog p.Wg (wz Tryz.prog p cs ta tc p.m J :: cs)) := Wk.stop hK
    have hK1 := Wk.sil 3 _ (sil_y0 p.Wg (wz Tryz.prog p cs ta tc p.m J :: cs)) hK0
    rw [← z3_y0] at hK1
    have hK2 := Wk.sil 4 _ (sil_z3 p cs ta tc p.m J) hK1
    have hcl : AtClo ((p.so Tryz.prog) cs ta tc) (z2 Tryz.prog p cs ta tc p.m J) := by
      refine ⟨r2, wake_z2 .., fin (z2 Tryz.prog p cs ta tc p.m J) (.tuple #[]), rfl, fun w s r _ hc => ?_, _, hK2⟩
      have hc : w.heap[p.Cn]? = some (.chan 0 #[] false s r false) := hc
      obtain ⟨e1, e2, e3⟩ := cl_z2 p cs ta tc p.m J w
      obtain ⟨k1, k2⟩ := runT_pair e3
      obtain ⟨q1, q2⟩ := run_clS hc
      have h3 := k_value (main := true) e1 (k1.trans q1)
      rw [k2, q2, e2, seen_clA] at h3
      exact h3
    have a2 : WkT ((p.so Tryz.prog) cs ta tc) (AtClo ((p.so Tryz.prog) cs ta tc)) 0 (z2 Tryz.prog p cs ta tc p.m J) := Wk.stop hcl
    have a1 : WkT ((p.so Tryz.prog) cs ta tc) (AtClo ((p.so Tryz.prog) cs ta tc)) (0 + 1) (z1 Tryz.prog p cs ta tc p.m J) := Wk.step r1 (fun w hw => by
      obtain ⟨e1, e2, e3⟩ := ld_z1 p cs ta tc p.m J w
      exact k_ld (main := true) e1 e3 (bt_cell X hw) (by rw [e2]; exact seen_rdA _)) (one_ev (.inl (bt_rd X))) a2
    have a0 := Wk.sil 6 _ (sil_z1 p cs ta tc p.m J) a1
    have b1 : WkT ((p.so Tryz.prog) cs ta tc) (AtClo ((p.so Tryz.prog) cs ta tc)) (0 + 1 + 6 + 1) (d1 Tryz.prog p cs ta tc p.m J) := wk_sym (run_d p cs ta tc p.m J default .empty).1 (fun w => by
      have := sym_d1 p cs ta tc p.m J w
      rw [show decide ((p.m : Int) < (p.m : Int)) = false from decide_eq_false (by omega)] at this
      exact this) a0
    exact ⟨_, Wk.sil 2 _ (sil_sdp p cs ta tc p.m J) b1⟩
  | succ l ih =>
    intro hl J
    have hk : p.m - (l + 1) < p.m := by omega
    obtain ⟨a, rfl, hc, hb, n1, n2, n3, hsh⟩ := X.txt _ hk
    have ih := ih (by omega)
    have ek : (((p.m - (l + 1) : Nat) : Int) + 1) = ((p.m - l : Nat) : Int) := by omega
    have hm := X.m50
    generalize hkk : p.m - (l + 1) = k at *
    have blk : (a.add k).block = a.block := by cases a with | mk b o s => simp [Addr.add]; try (split <;> rfl)
    have hb : (a.add k).block < p.w0.heap.size := by rw [blk]; exact hb
    have n1 : (a.add k).block ≠ p.Wg := by rw [blk]; exact n1
    have n2 : (a.add k).block ≠ p.Cn := by rw [blk]; exact n2
    have n3 : (a.add k).block ≠ p.An := by rw [blk]; exact n3
    obtain ⟨r1, r2, r4, r5, r6⟩ := run_d p cs (some a) tc k J (a.add k) (p.tx k)
    have hS : AtSend ((p.so Tryz.prog) cs (some a) tc) k (Snd ((p.so Tryz.prog) cs (some a) tc) l) (d5 Tryz.prog p cs (some a) tc k J (a.add k) (p.tx k)) := by
      refine ⟨r5, fun w _ => comm_d5 p cs (some a) tc k J (a.add k) (p.tx k) w, ?_⟩
      have key := ih (gJ (nxts Tryz.prog true 3 (fin (d6 Tryz.prog p cs (some a) tc k J (a.add k) (p.tx k)) (.int .i64 ((p.m - l : Nat) : Int)))))
      rw [← sdp_d7] at key
      have go : ∀ {Stop : Goroutine → Prop}, (∃ n, WkM ((p.so Tryz.prog) cs (some a) tc) Stop n (nxts Tryz.prog true 3 (fin (d6 Tryz.prog p cs (some a) tc k J (a.add k) (p.tx k)) (.int .i64 ((p.m - l : Nat) : Int))))) → ∃ n, WkM ((p.so Tryz.prog) cs (some a) tc) Stop n (Go.Conc.served (d5 Tryz.prog p cs (some a) tc k J (a.add k) (p.tx k)) undef) := fun {Stop} ⟨n, hn⟩ => by
        have b2 := Wk.sil (K := KW ((p.so Tryz.prog) cs (some a) tc)) (Ok := RdM ((p.so Tryz.prog) cs (some a) tc)) (Stop := Stop) 3 _ (sil_d7 p cs (some a) tc k ((p.m - l : Nat) : Int) J (a.add k) (p.tx k)) hn
        have b1 : WkT ((p.so Tryz.prog) cs (some a) tc) Stop (n + 3 + 1) (d6 Tryz.prog p cs (some a) tc k J (a.add k) (p.tx k)) := wk_sym r6 (fun w => by
          have := sym_d6 p cs (some a) tc k J (a.add k) (p.tx k) w
          rw [ek, show IntKind.i64.wrap ((p.m - l : Nat) : Int) = ((p.m - l : Nat) : Int) by rw [IntKind.wrap_i64]; omega] at this
          exact this) b2
        exact ⟨_, Wk.sil 3 _ (sil_d6 p cs (some a) tc k J (a.add k) (p.tx k)) b1⟩
      cases l with
      | zero => exact go key
      | succ l => exact go key
    have c5 : WkT ((p.so Tryz.prog) cs (some a) tc) (AtSend ((p.so Tryz.prog) cs (some a) tc) k (Snd ((p.so Tryz.prog) cs (some a) tc) l)) 0 (d5 Tryz.prog p cs (some a) tc k J (a.add k) (p.tx k)) := Wk.stop hS
    have c4' := Wk.sil 3 _ (sil_d5 p cs (some a) tc k J (a.add k) (p.tx k)) c5
    have c4 : WkT ((p.so Tryz.prog) cs (some a) tc) (AtSend ((p.so Tryz.prog) cs (some a) tc) k (Snd ((p.so Tryz.prog) cs (some a) tc) l)) (0 + 3 + 1) (d4 Tryz.prog p cs (some a) tc k J (a.add k) (p.tx k)) := Wk.step r4 (fun w hw => by
      obtain ⟨e1, e2, e3⟩ := ld_d4 p cs (some a) tc k J (a.add k) (p.tx k) w
      exact k_ld (main := true) e1 e3 (bt_cell X hw) (by rw [e2]; exact seen_rdA _)) (one_ev (.inl (bt_rd X))) c4'
    have c3' := Wk.sil 4 _ (sil_d4 p cs (some a) tc k J (a.add k) (p.tx k)) c4
    have c3 : WkT ((p.so Tryz.prog) cs (some a) tc) (AtSend ((p.so Tryz.prog) cs (some a) tc) k (Snd ((p.so Tryz.prog) cs (some a) tc) l)) (0 + 3 + 1 + 4 + 1) (d3 Tryz.prog p cs (some a) tc k J (a.add k)) := Wk.step rfl (fun w hw => by
      obtain ⟨e1, e2, e3⟩ := ld_d3 p cs (some a) tc k J (a.add k) w
      exact k_ld (main := true) e1 e3 (by rw [cell_low hw (a := a.add k) hb n1 n2 n3]; exact hc) (by rw [e2]; exact seen_rdA _)) (one_ev (.inl ⟨a.add k, ⟨a.add k, rfl, hb, n1, n3, hsh⟩, rfl⟩)) c3'
    have c2 : WkT ((p.so Tryz.prog) cs (some a) tc) (AtSend ((p.so Tryz.prog) cs (some a) tc) k (Snd ((p.so Tryz.prog) cs (some a) tc) l)) (0 + 3 + 1 + 4 + 1 + 1) (d2 Tryz.prog p cs (some a) tc k J) := Wk.step (es := #[]) r2 (fun w _ => by
      obtain ⟨e1, e2, e3⟩ := ix_d2 p cs (some a) tc k J w
      obtain ⟨k1, k2⟩ := runT_pair e3
      obtain ⟨q1, q2⟩ := run_idx2 (a := a) (tc := tc) hk w
      have h3 := k_value (main := true) e1 (k1.trans q1)
      rw [k2, q2, seen_none] at h3
      exact h3) (fun e he => by simp at he) c3
    have c1' := Wk.sil 9 _ (sil_d2 p cs (some a) tc k J) c2
    have c1 : WkT ((p.so Tryz.prog) cs (some a) tc) (AtSend ((p.so Tryz.prog) cs (some a) tc) k (Snd ((p.so Tryz.prog) cs (some a) tc) l)) (0 + 3 + 1 + 4 + 1 + 1 + 9 + 1) (d1 Tryz.prog p cs (some a) tc k J) := wk_sym r1 (fun w => by
      have := sym_d1 p cs (some a) tc k J w
      rw [show decide ((k : Int) < (p.m : Int)) = true from decide_eq_true (by omega)] at this
      exact this) c1'
    have c0 := Wk.sil 2 _ (sil_sdp p cs (some a) tc k J) c1
    refine ⟨0 + 3 + 1 + 4 + 1 + 1 + 9 + 1 + 2, ?_⟩
    have e : ((p.so Tryz.prog) cs (some a) tc).m - (l + 1) = k := hkk
    rw [e]
    exact c0
theorem so_spw (X : PaOk p ta) : ∀ (r : Nat), r ≤ p.n → ∀ J, Spw ((p.so Tryz.prog) cs ta tc) r (slp Tryz.prog p cs ta tc ((p.n - r : Nat) : Int) J) := by
  intro r
  induction r with
  | zero =>
    intro _ J
    have key := so_snd (cs := cs) (tc := tc) X p.m (Nat.le_refl _) (gJ (nxts Tryz.prog true 13 (fin (s1 Tryz.prog p cs ta tc p.n J) (.bool false))))
    rw [Nat.sub_self] at key
    have e0 := sdp_sx p cs ta tc p.n J
    have key : Snd ((p.so Tryz.prog) cs ta tc) p.m (nxts Tryz.prog true 13 (fin (s1 Tryz.prog p cs ta tc p.n J) (.bool false))) := by rw [e0]; exact key
    have go : ∀ {Stop : Goroutine → Prop}, (∃ n, WkM ((p.so Tryz.prog) cs ta tc) Stop n (nxts Tryz.prog true 13 (fin (s1 Tryz.prog p cs ta tc p.n J) (.bool false)))) → ∃ n, WkM ((p.so Tryz.prog) cs ta tc) Stop n (slp Tryz.prog p cs ta tc p.n J) := fun {Stop} ⟨n, hn⟩ => by
      have b2 := Wk.sil (K := KW ((p.so Tryz.prog) cs ta tc)) (Ok := RdM ((p.so Tryz.prog) cs ta tc)) (Stop := Stop) 13 _ (sil_sx p cs ta tc p.n J) hn
      have b1 : WkT ((p.so Tryz.prog) cs ta tc) Stop (n + 13 + 1) (s1 Tryz.prog p cs ta tc p.n J) := wk_sym (run_s p cs ta tc p.n J).1 (fun w => by
        have := sym_s1 p cs ta tc p.n J w
        rw [show decide ((p.n : Int) < (p.n : Int)) = false from decide_eq_false (by omega)] at this
        exact this) b2
      exact ⟨_, Wk.sil 2 _ (sil_slp p cs ta tc p.n J) b1⟩
    show Snd ((p.so Tryz.prog) cs ta tc) p.m _
    cases hm : p.m with
    | zero => rw [hm] at key; exact go key
    | succ l => rw [hm] at key; exact go key
  | succ r ih =>
    intro hr J
    have ih := ih (by omega)
    have hn := X.n16
    have ek : (((p.n - (r + 1) : Nat) : Int) + 1) = ((p.n - r : Nat) : Int) := by omega
    have hk : p.n - (r + 1) < p.n := by omega
    generalize p.n - (r + 1) = k at *
    obtain ⟨r1, r3, r5⟩ := run_s p cs ta tc k J
    have hnext : Spw ((p.so Tryz.prog) cs ta tc) r (fin (s3 Tryz.prog p cs ta tc k J) undef) := by
      have key := ih (gJ (nxts Tryz.prog true 3 (fin (s5 Tryz.prog p cs ta tc k J) (.int .i64 ((p.n - r : Nat) : Int)))))
      rw [← slp_s6] at key
      have go : ∀ {Stop : Goroutine → Prop}, (∃ n, WkM ((p.so Tryz.prog) cs ta tc) Stop n (nxts Tryz.prog true 3 (fin (s5 Tryz.prog p cs ta tc k J) (.int .i64 ((p.n - r : Nat) : Int))))) → ∃ n, WkM ((p.so Tryz.prog) cs ta tc) Stop n (fin (s3 Tryz.prog p cs ta tc k J) undef) := fun {Stop} ⟨n, hn⟩ => by
        have b2 := Wk.sil (K := KW ((p.so Tryz.prog) cs ta tc)) (Ok := RdM ((p.so Tryz.prog) cs ta tc)) (Stop := Stop) 3 _ (sil_s6 p cs ta tc k ((p.n - r : Nat) : Int) J) hn
        have b1 : WkT ((p.so Tryz.prog) cs ta tc) Stop (n + 3 + 1) (s5 Tryz.prog p cs ta tc k J) := wk_sym r5 (fun w => by
          have := sym_s5 p cs ta tc k J w
          rw [ek, show IntKind.i64.wrap ((p.n - r : Nat) : Int) = ((p.n - r : Nat) : Int) by rw [IntKind.wrap_i64]; omega] at this
          exact this) b2
        exact ⟨_, Wk.sil 3 _ (sil_s5 p cs ta tc k J) b1⟩
      cases r with
      | zero =>
        have key : Snd ((p.so Tryz.prog) cs ta tc) p.m _ := key
        show Snd ((p.so Tryz.prog) cs ta tc) p.m _
        cases hm : p.m with
        | zero => rw [hm] at key; exact go key
        | succ l => rw [hm] at key; exact go key
      | succ r => exact go key
    have hgo : AtGo ((p.so Tryz.prog) cs ta tc) (Spw ((p.so Tryz.prog) cs ta tc) r) (s3 Tryz.prog p cs ta tc k J) := ⟨r3, _, _, fun w _ => spawn_s3 p cs ta tc k J w, (wb_at (p := p)).2.2.2.2.2.2, wk_born X, hnext⟩
    have hkd : AtKdS ((p.so Tryz.prog) cs ta tc) (Spw ((p.so Tryz.prog) cs ta tc) r) (q1 Tryz.prog p.Wg (sz Tryz.prog p cs ta tc k J :: cs)) := at_add (S := (p.so Tryz.prog) cs ta tc) rfl X.n16 ⟨_, Wk.sil 3 _ (sil_s3 p cs ta tc k J) (Wk.stop (n := 0) hgo)⟩
    have a0 : WkT ((p.so Tryz.prog) cs ta tc) (AtKdS ((p.so Tryz.prog) cs ta tc) (Spw ((p.so Tryz.prog) cs ta tc) r)) 0 (q1 Tryz.prog p.Wg (sz Tryz.prog p cs ta tc k J :: cs)) := Wk.stop hkd
    have a1 := Wk.sil 12 _ (sil_q0 p.Wg (sz Tryz.prog p cs ta tc k J :: cs)) a0
    rw [← s2_q0] at a1
    have a2 := Wk.sil 9 _ (sil_s2 p cs ta tc k J) a1
    have a3 : WkT ((p.so Tryz.prog) cs ta tc) (AtKdS ((p.so Tryz.prog) cs ta tc) (Spw ((p.so Tryz.prog) cs ta tc) r)) (0 + 12 + 9 + 1) (s1 Tryz.prog p cs ta tc k J) := wk_sym r1 (fun w => by
      have := sym_s1 p cs ta tc k J w
      rw [show decide ((k : Int) < (p.n : Int)) = true from decide_eq_true (by omega)] at this
      exact this) a2
    exact ⟨_, Wk.sil 2 _ (sil_slp p cs ta tc k J) a3⟩
end
end Go.Proofs.YtaablbmgagiajabGreatDoor.Ren
namespace Go.Proofs.YtaablbmgagiajabGreatDoor.Ren
open Go Go.Conc
open Go.ConcN (sumTo upd sumTo_upd upd_ne upd_same)
structure Wb {α : Type} (P : Program) (r : α → α → Prop) (Keep : World → Trace → Prop) (St : α → Goroutine → World → Prop) (Stop : Goroutine → World → Prop) : Prop where
  step : ∀ x g w, St x g w → Stop g w ∨ (g.status = .running ∧ ∀ d, St x g (w.at d) ∧ ∃ g' w' es, stepG P true g (w.at d) = .go g' w' es ∧ (∀ t fn pos, Keep (w.at d) t → Keep w' (t ++ MemOp.ofEvents 0 fn pos es)) ∧ ∃ y, r y x ∧ St y g' w')
  kdraws : ∀ w t d, Keep w t → Keep (w.at d) t
  mute : ∀ w t i fn pos es, i ≠ 0 → (∀ e ∈ es, Event.mute e = true) → Keep w t → Keep w (t ++ MemOp.ofEvents i fn pos es)
theorem slip {P : Program} {gs : Array Goroutine} {t : Trace} {q : Nat → Nat} {i : Nat} {a g : Goroutine} {w : World} {sl' : Option (Nat × Nat)} (h0 : gs[0]? = some a) (hrun : a.status = .running) (hL : Leavers P t gs q) (hpos : 0 < i) (hi : gs[i]? = some g) (hg : g.status = .running) :
    ∃ gs' es q', runT P (crowd gs w sl') i = (.next (crowd gs' w sl'), MemOp.ofEvents i g.frame.fn g.frame.place es) ∧ (∀ e ∈ es, Event.mute e = true) ∧ gs'.size = gs.size ∧ gs'[0]? = some a ∧ Leavers P (t ++ MemOp.ofEvents i g.frame.fn g.frame.place es) gs' q' ∧ sumTo gs'.size q' < sumTo gs.size q := by
  have hq := hL.old i g hpos hi
  have hi0 : (i == 0) = false := by simp; omega
  have hlt : i < gs.size := (Array.getElem?_eq_some_iff.1 hi).1
  cases hqi : q i with
  | zero => rw [hqi] at hq; rw [hq.1] at hg; cases hg
  | succ k =>
    rw [hqi] at hq
    rcases hq with ⟨hf, _⟩ | ⟨_, g', es, hm, hstp, hq'⟩
    · rw [hf] at hg; cases hg
    have hrunT := runT_crowd_go (P := P) (sl := sl') (i := i) hi (by rw [hi0]; exact hstp w)
    have hsum : sumTo gs.size (upd q i k) + (k + 1) = sumTo gs.size q + k := by
      have := sumTo_upd q k id hlt
      simpa [hqi] using this
    refine ⟨_, es, upd q i k, hrunT, hm, by simp, ?_, ⟨fun j x hj hx => ?_, fun j hj => ?_⟩, by simp only [Array.size_setIfInBounds, Array.size_map]; omega⟩
    · have hne : i ≠ 0 := by omega
      rw [Array.getElem?_setIfInBounds_ne hne, Array.getElem?_map, h0]
      simp [woken_run hrun]
    · by_cases hji : i = j
      · subst hji
        rw [Array.getElem?_setIfInBounds_self_of_lt (by simpa using hlt)] at hx
        obtain rfl := Option.some.inj hx
        rw [upd_same, Deaf_own]
        exact hq'
      · rw [Array.getElem?_setIfInBounds_ne hji, Array.getElem?_map] at hx
        obtain ⟨y, hy, rfl⟩ := Option.map_eq_some_iff.1 hx
        have hqj := hL.old j y hj hy
        rw [woken_quitsD hqj, upd_ne q k (Ne.symm hji), Deaf_other t hji _ (fun op hop => by obtain ⟨e, _, rfl⟩ := Go.Conc.mem_ofEvents hop; rfl)]
        exact hqj
    · rw [Deaf_other t (g' := i) (by simp at hj; omega) _ (fun op hop => by obtain ⟨e, _, rfl⟩ := Go.Conc.mem_ofEvents hop; rfl)]
      exact hL.above j (by simpa using hj)
theorem mains {P : Program} {gs : Array Goroutine} {t : Trace} {q : Nat → Nat} {a a' : Goroutine} {w w' : World} {es : Array Event} {sl' : Option (Nat × Nat)} (h0 : gs[0]? = some a) (hL : Leavers P t gs q) (hs : stepG P true a w = .go a' w' es) :
    ∃ gs', runT P (crowd gs w sl') 0 = (.next (crowd gs' w' sl'), MemOp.ofEvents 0 a.frame.fn a.frame.place es) ∧ gs'.size = gs.size ∧ gs'[0]? = some a' ∧ Leavers P (t ++ MemOp.ofEvents 0 a.frame.fn a.frame.place es) gs' q := by
  have hlt : 0 < gs.size := (Array.getElem?_eq_some_iff.1 h0).1
  refine ⟨_, runT_crowd_go (P := P) (sl := sl') (i := 0) h0 (show stepG P (0 == 0) a w = _ from hs), by simp, by simp [hlt], ⟨fun j x hj hx => ?_, fun j hj => ?_⟩⟩
  · have hne : 0 ≠ j := by omega
    rw [Array.getElem?_setIfInBounds_ne hne, Array.getElem?_map] at hx
    obtain ⟨y, hy, rfl⟩ := Option.map_eq_some_iff.1 hx
    have hq := hL.old j y hj hy
    rw [woken_quitsD hq, Deaf_other t (by omega) _ (fun op hop => by obtain ⟨e, _, rfl⟩ := Go.Conc.mem_ofEvents hop; rfl)]
    exact hq
  · rw [Deaf_other t (g' := 0) (by simp at hj; omega) _ (fun op hop => by obtain ⟨e, _, rfl⟩ := Go.Conc.mem_ofEvents hop; rfl)]
    exact hL.above j (by simpa using hj)
theorem leavers_awake {P : Program} {gs : Array Goroutine} {t : Trace} {q : Nat → Nat} {a : Goroutine} (h0 : gs[0]? = some a) (hrun : a.status = .running) (hL : Leavers P t gs q) : ∀ g ∈ gs, awake g := by
  intro g hg
  obtain ⟨i, hi, rfl⟩ := Array.mem_iff_getElem.1 hg
  rcases Nat.eq_zero_or_pos i with rfl | hpos
  · have : gs[0] = a := by simpa [Array.getElem?_eq_getElem hi] using h0
    rw [this]; exact awake_of (.inl hrun)
  · exact awake_of ((hL.old i _ hpos (Array.getElem?_eq_getElem hi)).status.elim .inl fun x => .inr (.inr x))
theorem wb_run {α : Type} {P : Program} {r : α → α → Prop} {Keep : World → Trace → Prop} {St : α → Goroutine → World → Prop} {Stop : Goroutine → World → Prop} (H : Wb P r Keep St Stop) (x : α) (hx : Acc r x) :
    ∀ (S : Nat) (gs : Array Goroutine) (a : Goroutine) (w : World) (sl : Option (Nat × Nat)) (t : Trace) (q : Nat → Nat), sumTo gs.size q < S → gs[0]? = some a → Leavers P t gs q → Keep w t → St x a w →
      ∃ N gs' a' w' sl' t' q', runNT P N (crowd gs w sl) t = (.next (crowd gs' w' sl'), t') ∧ gs'.size = gs.size ∧ gs'[0]? = some a' ∧ Stop a' w' ∧ Leavers P t' gs' q' ∧ Keep w' t' := by
  induction hx with
  | intro x _ ih =>
    intro S
    induction S with
    | zero => intro gs a w sl t q hS; omega
    | succ S ihS =>
      intro gs a w sl t q hS h0 hL hK hx
      rcases H.step x a w hx with hs | ⟨hrun, hstep⟩
      · exact ⟨0, gs, a, w, sl, t, q, rfl, rfl, h0, hs, hL, hK⟩
      obtain ⟨i, g, d, sl', hi, hg, hst⟩ := crowd_pick (P := P) (w := w) (sl := sl) (leavers_awake h0 hrun hL) ⟨0, a, h0, hrun⟩
      rcases Nat.eq_zero_or_pos i with rfl | hpos
      · obtain rfl : g = a := by rw [h0] at hi; exact (Option.some.inj hi).symm
        obtain ⟨_, g', w', es, k1, k2, y, k3, k4⟩ := hstep d
        obtain ⟨gs1, j1, j2, j3, j4⟩ := mains (sl' := sl') h0 hL k1
        obtain ⟨N, gs', a', w'', sl'', t', q', m1, m2, m3, m4, m5, m6⟩ := ih y k3 _ gs1 g' w' sl' _ q (Nat.lt_succ_self _) j3 j4 (k2 _ _ _ (H.kdraws w t d hK)) k4
        exact ⟨N + 1, gs', a', w'', sl'', t', q', by simp only [runNT, hst, j1]; exact m1, m2.trans j2, m3, m4, m5, m6⟩
      · obtain ⟨gs1, es, q1, j1, j2, j3, j4, j5, j6⟩ := slip (w := w.at d) (sl' := sl') h0 hrun hL hpos hi hg
        obtain ⟨N, gs', a', w'', sl'', t', q', m1, m2, m3, m4, m5, m6⟩ := ihS gs1 a (w.at d) sl' _ q1 (by omega) j4 j5 (H.mute _ _ i _ _ es (by omega) j2 (H.kdraws w t d hK)) (hstep d).1
        exact ⟨N + 1, gs', a', w'', sl'', t', q', by simp only [runNT, hst, j1]; exact m1, m2.trans j3, m3, m4, m5, m6⟩
def Unt (T : Nat → Prop) (t : Trace) : Prop := ∀ op ∈ t, ∀ a, op.act.touch? = some a → ∀ ad : Addr, T ad.block → a.loc ≠ .cell ad
theorem Unt.app {T : Nat → Prop} {t u : Trace} (h : Unt T t) (hu : Unt T u) : Unt T (t ++ u) := fun op hop => (Array.mem_append.1 hop).elim (h op) (hu op)
theorem Unt.mute {T : Nat → Prop} {t : Trace} (h : Unt T t) {i : Nat} {fn : FuncId} {pos : String} {es : Array Event} (hm : ∀ e ∈ es, Event.mute e = true) : Unt T (t ++ MemOp.ofEvents i fn pos es) := h.app fun op hop a ha => by
  obtain ⟨e, he, rfl⟩ := Go.Conc.mem_ofEvents hop
  have := Go.Conc.touch_mute (hm e he)
  rw [this] at ha
  cases ha
theorem touch_low {x : MemAct} {B : Nat} {a : Touch} (h : x.low B) (ha : x.touch? = some a) : a.loc.low B := by
  cases x with
  | access e =>
    simp only [MemAct.touch?, Option.some.injEq] at ha
    subst ha
    exact h
  | mark m =>
    cases m <;> simp only [MemAct.touch?, Option.some.injEq, reduceCtorEq] at ha
    · subst ha
      exact h
    · subst ha
      exact h
  | _ => cases ha
theorem Unt.low {T : Nat → Prop} {Shun : Loc → Prop} {B : Nat} {t : Trace} (h : Past Shun B t) (hT : ∀ b, T b → B ≤ b) : Unt T t := fun op hop a ha ad hb e => by
  have h1 := h.seen op hop
  have h2 := hT _ hb
  have h3 : a.loc.low B := touch_low h1 ha
  rw [e] at h3
  have h3 : ad.block < B := h3
  omega
end Go.Proofs.YtaablbmgagiajabGreatDoor.Ren
namespace Go.Proofs.YtaablbmgagiajabGreatDoor.Ren
open Go Go.Conc
open Go.ConcR (KK WgAt stA smA rd wr mk)
variable (pG : Program)
def Wm (P : Program) (D : World → World → Array Event → Prop) (Stop : Goroutine → World → Prop) : Nat → (World → Prop) → Goroutine → Prop
  | 0, K, g => ∀ w, K w → Stop g w
  | n + 1, K, g => g.status = .running ∧ ∃ g' K', (∀ w d, K' w → K' (w.at d)) ∧ (∀ w, K w → ∃ w' es, stepG P true g w = .go g' w' es ∧ D w w' es ∧ K' w') ∧ Wm P D Stop n K' g'
section
variable {P : Program} {D : World → World → Array Event → Prop} {Stop : Goroutine → World → Prop} {Keep : World → Trace → Prop}
theorem wb_wm (hD : ∀ w w' es t fn pos, D w w' es → Keep w t → Keep w' (t ++ MemOp.ofEvents 0 fn pos es)) (hK : ∀ w t d, Keep w t → Keep (w.at d) t) (hm : ∀ w t i fn pos es, i ≠ 0 → (∀ e ∈ es, Event.mute e = true) → Keep w t → Keep w (t ++ MemOp.ofEvents i fn pos es)) :
    Wb P (fun a b : Nat => a < b) Keep (fun n g w => ∃ K : World → Prop, (∀ w d, K w → K (w.at d)) ∧ K w ∧ Wm P D Stop n K g) Stop where
  kdraws := hK
  mute := hm
  step := by
    rintro n g w ⟨K, h1, h2, h3⟩
    cases n with
    | zero => exact .inl (h3 w h2)
    | succ n =>
      obtain ⟨hr, g', K', k1, k2, k3⟩ := h3
      refine .inr ⟨hr, fun d => ⟨⟨K, h1, h1 w d h2, hr, g', K', k1, k2, k3⟩, ?_⟩⟩
      obtain ⟨w', es, j1, j2, j3⟩ := k2 (w.at d) (h1 w d h2)
      exact ⟨g', w', es, j1, fun t fn pos => hD _ _ _ _ _ _ j2, n, Nat.lt_succ_self n, K', k1, j3, k3⟩
theorem wm_sil (hD : ∀ w, D w w #[]) {K : World → Prop} (hK : ∀ w d, K w → K (w.at d)) {m : Nat} : ∀ (n : Nat) (g : Goroutine), SilP true n g → Wm Tryz.prog D Stop m K (nxts Tryz.prog true n g) → Wm Tryz.prog D Stop (m + n) K g
  | 0, _, _, h => h
  | n + 1, g, hs, h => ⟨hs.1.1, (nxt Tryz.prog) true g, K, hK, fun w hw => ⟨w, #[], hs.1.2 w, hD w, hw⟩, wm_sil hD hK n (nxt Tryz.prog true g) hs.2 h⟩
theorem wm_sym (hD : ∀ w, D w w #[]) {K : World → Prop} (hK : ∀ w d, K w → K (w.at d)) {m : Nat} {g : Goroutine} {v : Value} (hr : g.status = .running) (h : ∀ w, stepG Tryz.prog true g w = .go (fin g v) w #[]) (hn : Wm Tryz.prog D Stop m K (fin g v)) : Wm Tryz.prog D Stop (m + 1) K g :=
  ⟨hr, fin g v, K, hK, fun w hw => ⟨w, #[], h w, hD w, hw⟩, hn⟩
end
structure Fx (H : World) (l : List Obj) (w : World) : Prop where
  size : w.heap.size = H.heap.size + l.length
  low : ∀ b, b < H.heap.size → w.heap[b]? = H.heap[b]?
  new : ∀ j, w.heap[H.heap.size + j]? = l[j]?
  os : w.os = H.os
  out : w.output = H.output
  tape : w.tape = H.tape
theorem Fx.refl (w : World) : Fx w [] w := ⟨rfl, fun _ _ => rfl, fun j => by simp, rfl, rfl, rfl⟩
theorem Fx.at {H w : World} {l : List Obj} (h : Fx H l w) (d : Nat) : Fx H l (w.at d) := ⟨h.size, h.low, h.new, h.os, h.out, h.tape⟩
theorem Fx.push {H w : World} {l : List Obj} (h : Fx H l w) (o : Obj) : Fx H (l ++ [o]) { w with heap := w.heap.push o } := by
  have hs := h.size
  refine ⟨by simp [hs]; omega, fun b hb => ?_, fun j => ?_, h.os, h.out, h.tape⟩
  · show (w.heap.push o)[b]? = _
    rw [Array.getElem?_push, if_neg (by omega)]
    exact h.low b hb
  · show (w.heap.push o)[H.heap.size + j]? = _
    rw [Array.getElem?_push]
    by_cases hj : H.heap.size + j = w.heap.size
    · rw [if_pos hj, List.getElem?_append_right (by omega)]
      rw [show j - l.length = 0 by omega]
      rfl
    · rw [if_neg hj, h.new j]
      rcases Nat.lt_or_ge j l.length with h1 | h1
      · rw [List.getElem?_append_left h1]
      · rw [List.getElem?_eq_none h1, List.getElem?_eq_none (by simp; omega)]
theorem Fx.set {H w : World} {l : List Obj} {x v : Value} {t : TypeId} (h : Fx H (l ++ [.cells #[x] t]) w) : Fx H (l ++ [.cells #[v] t]) (w.setCell ⟨H.heap.size + l.length, 0, none⟩ v) := by
  have hs := h.size
  have hl : w.heap[H.heap.size + l.length]? = some (.cells #[x] t) := by rw [h.new]; simp
  refine ⟨by rw [World.size_setCell]; simpa using hs, fun b hb => ?_, fun j => ?_, h.os, h.out, h.tape⟩
  · rw [heap_setCell_other _ _ b _ (by show b ≠ H.heap.size + l.length; omega)]
    exact h.low b hb
  · by_cases hj : j = l.length
    · subst hj
      rw [heap_setCell_same w _ 0 #[x] t v hl]
      simp
    · rw [heap_setCell_other _ _ _ _ (by show H.heap.size + j ≠ H.heap.size + l.length; omega), h.new]
      rcases Nat.lt_or_ge j l.length with h1 | h1
      · rw [List.getElem?_append_left h1, List.getElem?_append_left h1]
      · rw [List.getElem?_eq_none (by simp; omega), List.getElem?_eq_none (by simp; omega)]
section
variable (p : Pa) (cs : List Frame) (ta : Option Addr) (tc : Nat)
set_option maxRecDepth 100000
def al0 (n : Int) : Goroutine := { frame := Frame.enter pG 27 #[.slice ta p.m tc, .int .i64 n] .normal, callers := cs, status := .running, dying := none }
def al1 (n : Int) : Goroutine := (nxts pG) true 10 (al0 pG p cs ta tc n)
theorem sil_al0 (n : Int) : SilP true 10 (al0 Tryz.prog p cs ta tc n) := by
  iterate 10 (refine ⟨⟨by kernel_rfl, fun w => by kernel_rfl⟩, ?_⟩)
  trivial
theorem sym_al1 (n : Int) (w : World) : stepG Tryz.prog true (al1 Tryz.prog p cs ta tc n) w = .go (fin (al1 Tryz.prog p cs ta tc n) (.bool (decide ((p.m : Int) > 50)))) w #[] := by kernel_rfl
def al2 (n : Int) : Goroutine := (nxts pG) true 2 (fin (al1 pG p cs ta tc n) (.bool false))
theorem sil_al1 (n : Int) : SilP true 2 (fin (al1 Tryz.prog p cs ta tc n) (.bool false)) := by
  iterate 2 (refine ⟨⟨by kernel_rfl, fun w => by kernel_rfl⟩, ?_⟩)
  trivial
theorem sym_al2 (n : Int) (w : World) : stepG Tryz.prog true (al2 Tryz.prog p cs ta tc n) w = .go (fin (al2 Tryz.prog p cs ta tc n) (.bool (decide (n < 1)))) w #[] := by kernel_rfl
def al3 (n : Int) : Goroutine := (nxts pG) true 3 (fin (al2 pG p cs ta tc n) (.bool false))
theorem sil_al2 (n : Int) : SilP true 3 (fin (al2 Tryz.prog p cs ta tc n) (.bool false)) := by
  iterate 3 (refine ⟨⟨by kernel_rfl, fun w => by kernel_rfl⟩, ?_⟩)
  trivial
theorem sym_al3 (n : Int) (w : World) : stepG Tryz.prog true (al3 Tryz.prog p cs ta tc n) w = .go (fin (al3 Tryz.prog p cs ta tc n) (.bool (decide (n > 16)))) w #[] := by kernel_rfl
def al4 (n : Int) : Goroutine := (nxts pG) true 8 (fin (al3 pG p cs ta tc n) (.bool false))
theorem sil_al3 (n : Int) : SilP true 8 (fin (al3 Tryz.prog p cs ta tc n) (.bool false)) := by
  iterate 8 (refine ⟨⟨by kernel_rfl, fun w => by kernel_rfl⟩, ?_⟩)
  trivial
def msS (m : Int) : Sem Next := Instr.makeSlice 70 (.int .i64 m) (.int .i64 m) >>= fun v => pure (.value v)
theorem ms_al4 (n : Int) (w : World) : atOp (al4 Tryz.prog p cs ta tc n) = true ∧ (execOp (al4 Tryz.prog p cs ta tc n).frame.eval (opAt (al4 Tryz.prog p cs ta tc n))).runT Tryz.prog w #[] = (msS p.m).runT Tryz.prog w #[] := ⟨by kernel_rfl, by kernel_rfl⟩
def al5 (n : Int) (An : Nat) : Goroutine := fin (al4 pG p cs ta tc n) (.slice (some ⟨An, 0, none⟩) p.m p.m)
theorem new_al5 (n : Int) (An : Nat) (w : World) : stepG Tryz.prog true (al5 Tryz.prog p cs ta tc n An) w = .go (fin (al5 Tryz.prog p cs ta tc n An) (ptr w.heap.size)) { w with heap := w.heap.push (.cells #[.slice none 0 0] 70) } #[] := by kernel_rfl
def al6 (n : Int) (An Ba : Nat) : Goroutine := fin (al5 pG p cs ta tc n An) (ptr Ba)
theorem st_al6 (n : Int) (An Ba : Nat) (w : World) : atOp (al6 Tryz.prog p cs ta tc n An Ba) = true ∧ (execOp (al6 Tryz.prog p cs ta tc n An Ba).frame.eval (opAt (al6 Tryz.prog p cs ta tc n An Ba))).runT Tryz.prog w #[] = (stS ⟨Ba, 0, none⟩ (.slice (some ⟨An, 0, none⟩) p.m p.m)).runT Tryz.prog w #[] := ⟨by kernel_rfl, by kernel_rfl⟩
def al7 (n : Int) (An Ba : Nat) : Goroutine := (nxts pG) true 3 (fin (al6 pG p cs ta tc n An Ba) undef)
theorem sil_al6 (n : Int) (An Ba : Nat) : SilP true 3 (fin (al6 Tryz.prog p cs ta tc n An Ba) undef) := by
  iterate 3 (refine ⟨⟨by kernel_rfl, fun w => by kernel_rfl⟩, ?_⟩)
  trivial
theorem new_al7 (n : Int) (An Ba : Nat) (w : World) : stepG Tryz.prog true (al7 Tryz.prog p cs ta tc n An Ba) w = .go (fin (al7 Tryz.prog p cs ta tc n An Ba) (.chan (some w.heap.size))) { w with heap := w.heap.push (.chan 0 #[] false 0 0 false) } #[] := by kernel_rfl
def al8 (n : Int) (An Ba Cn : Nat) : Goroutine := fin (al7 pG p cs ta tc n An Ba) (.chan (some Cn))
theorem new_al8 (n : Int) (An Ba Cn : Nat) (w : World) : stepG Tryz.prog true (al8 Tryz.prog p cs ta tc n An Ba Cn) w = .go (fin (al8 Tryz.prog p cs ta tc n An Ba Cn) (ptr w.heap.size)) { w with heap := w.heap.push (.cells #[.chan none] 114) } #[] := by kernel_rfl
def al9 (n : Int) (An Ba Cn Bt : Nat) : Goroutine := fin (al8 pG p cs ta tc n An Ba Cn) (ptr Bt)
theorem st_al9 (n : Int) (An Ba Cn Bt : Nat) (w : World) : atOp (al9 Tryz.prog p cs ta tc n An Ba Cn Bt) = true ∧ (execOp (al9 Tryz.prog p cs ta tc n An Ba Cn Bt).frame.eval (opAt (al9 Tryz.prog p cs ta tc n An Ba Cn Bt))).runT Tryz.prog w #[] = (stS ⟨Bt, 0, none⟩ (.chan (some Cn))).runT Tryz.prog w #[] := ⟨by kernel_rfl, by kernel_rfl⟩
def al10 (n : Int) (An Ba Cn Bt : Nat) : Goroutine := (nxts pG) true 3 (fin (al9 pG p cs ta tc n An Ba Cn Bt) undef)
theorem sil_al9 (n : Int) (An Ba Cn Bt : Nat) : SilP true 3 (fin (al9 Tryz.prog p cs ta tc n An Ba Cn Bt) undef) := by
  iterate 3 (refine ⟨⟨by kernel_rfl, fun w => by kernel_rfl⟩, ?_⟩)
  trivial
theorem new_al10 (n : Int) (An Ba Cn Bt : Nat) (w : World) : stepG Tryz.prog true (al10 Tryz.prog p cs ta tc n An Ba Cn Bt) w = .go (fin (al10 Tryz.prog p cs ta tc n An Ba Cn Bt) (ptr w.heap.size)) { w with heap := w.heap.push (.cells #[.int .u64 0, .int .u32 0] 122) } #[] := by kernel_rfl
def al11 : Goroutine := fin (al10 pG p cs ta tc p.n p.An p.Ba p.Cn p.Bt) (ptr p.Wg)
theorem sil_al11 : SilP true 9 (al11 Tryz.prog p cs ta tc) := by
  iterate 9 (refine ⟨⟨by kernel_rfl, fun w => by kernel_rfl⟩, ?_⟩)
  trivial
theorem slp_al11 : (nxts Tryz.prog) true 9 (al11 Tryz.prog p cs ta tc) = (slp Tryz.prog) p cs ta tc 0 (gJ (nxts Tryz.prog true 9 (al11 Tryz.prog p cs ta tc))) := by kernel_rfl
theorem run_al (n : Int) (An Ba Cn Bt : Nat) : (al1 Tryz.prog p cs ta tc n).status = .running ∧ (al2 Tryz.prog p cs ta tc n).status = .running ∧ (al3 Tryz.prog p cs ta tc n).status = .running ∧ (al4 Tryz.prog p cs ta tc n).status = .running ∧ (al7 Tryz.prog p cs ta tc n An Ba).status = .running ∧ (al10 Tryz.prog p cs ta tc n An Ba Cn Bt).status = .running ∧ (al6 Tryz.prog p cs ta tc n An Ba).frame.fn = 27 ∧ (al9 Tryz.prog p cs ta tc n An Ba Cn Bt).frame.fn = 27 ∧ (al4 Tryz.prog p cs ta tc n).frame.fn = 27 := ⟨by kernel_rfl, by kernel_rfl, by kernel_rfl, by kernel_rfl, by kernel_rfl, by kernel_rfl, by kernel_rfl, by kernel_rfl, by kernel_rfl⟩
end
def DB (bnd : World → Nat) (Shun : Loc → Prop) (T : Nat → Prop) (w w' : World) (es : Array Event) : Prop := bnd w ≤ bnd w' ∧ (∀ e ∈ es, EvL Shun (bnd w') e) ∧ ∀ e ∈ es, ∀ a, (MemAct.ofEvent e).touch? = some a → ∀ ad : Addr, T ad.block → a.loc ≠ .cell ad
def KeepB (bnd : World → Nat) (Shun : Loc → Prop) (T : Nat → Prop) (w : World) (t : Trace) : Prop := Past Shun (bnd w) t ∧ Unt T t
section
variable {bnd : World → Nat} {Shun : Loc → Prop} {T : Nat → Prop}
theorem DB.none (w : World) : DB bnd Shun T w w #[] := ⟨Nat.le_refl _, fun e he => by simp at he, fun e he => by simp at he⟩
theorem DB.quiet {w w' : World} (h : bnd w ≤ bnd w') : DB bnd Shun T w w' #[] := ⟨h, fun e he => by simp at he, fun e he => by simp at he⟩
theorem DB.cell {w w' : World} {a : Addr} {b : Bool} (h : bnd w ≤ bnd w') (hs : ¬ Shun (.cell a)) (hb : a.block < bnd w') (hT : ¬ T a.block) : DB bnd Shun T w w' #[⟨.cell a, b, false⟩] := by
  refine ⟨h, one_ev (evL_cell a b hs hb), one_ev fun x hx ad had e => ?_⟩
  simp only [ofEvent_cell0, MemAct.touch?, Option.some.injEq] at hx
  subst hx
  cases e
  exact hT had
theorem keepB_own {w w' : World} {es : Array Event} {t : Trace} {fn : FuncId} {pos : String} (h : DB bnd Shun T w w' es) (hk : KeepB bnd Shun T w t) : KeepB bnd Shun T w' (t ++ MemOp.ofEvents 0 fn pos es) :=
  ⟨(hk.1.mono h.1).own h.2.1, hk.2.app fun op hop a ha ad had => by
    obtain ⟨e, he, rfl⟩ := Go.Conc.mem_ofEvents hop
    exact h.2.2 e he a ha ad had⟩
theorem keepB_mute {w : World} {t : Trace} {i : Nat} {fn : FuncId} {pos : String} {es : Array Event} (hi : i ≠ 0) (hm : ∀ e ∈ es, Event.mute e = true) (hk : KeepB bnd Shun T w t) : KeepB bnd Shun T w (t ++ MemOp.ofEvents i fn pos es) := ⟨hk.1.mute hi hm, hk.2.mute hm⟩
theorem wm_run {P : Program} {Stop : Goroutine → World → Prop} (hbnd : ∀ w d, bnd (World.at w d) = bnd w) {n : Nat} {K : World → Prop} (hK : ∀ w d, K w → K (World.at w d)) {gs : Array Goroutine} {a : Goroutine} {w : World} {sl : Option (Nat × Nat)} {t : Trace} {q : Nat → Nat} (h : Wm P (DB bnd Shun T) Stop n K a) (hw : K w) (h0 : gs[0]? = some a) (hL : Leavers P t gs q) (hP : KeepB bnd Shun T w t) :
    ∃ N gs' a' w' sl' t' q', runNT P N (crowd gs w sl) t = (.next (crowd gs' w' sl'), t') ∧ gs'.size = gs.size ∧ gs'[0]? = some a' ∧ Stop a' w' ∧ Leavers P t' gs' q' ∧ KeepB bnd Shun T w' t' :=
  wb_run (wb_wm (D := DB bnd Shun T) (Stop := Stop) (fun _ _ _ _ _ _ h k => keepB_own h k) (fun w t d k => by unfold KeepB at k ⊢; rw [hbnd]; exact k) (fun _ _ _ _ _ _ hi hm k => keepB_mute hi hm k)) n (Nat.lt_wfRel.wf.apply n) _ gs a w sl t q (Nat.lt_succ_self _) h0 hL hP ⟨K, hK, hw, h⟩
end
theorem run_ms {m : Nat} (hm : m ≤ 60) (w : World) : (msS m).run Tryz.prog w = .ok (.value (.slice (some ⟨w.heap.size, 0, none⟩) m m)) { w with heap := w.heap.push (.cells (madeCells #[.string .empty] m) 9) } ∧ (msS m).events Tryz.prog w #[] = #[] := by
  have ht : Tryz.prog.underlying 70 = some (.slice 9) := by kernel_rfl
  have hi : ∃ i, Tryz.prog.info? 9 = some i ∧ i.zero = some (.string .empty) ∧ i.size = 1 ∧ i.bytes = 16 := ⟨(Tryz.prog.info? 9).getD default, by kernel_rfl, by kernel_rfl, by kernel_rfl, by kernel_rfl⟩
  obtain ⟨i, h1, h2, h3, h4⟩ := hi
  have hr := run_makeSlice (P := Tryz.prog) w 70 9 i (.string .empty) ht h1 h2 .i64 .i64 (m : Int) (m : Int) (by omega) (by omega) (by rw [h3]; simp; omega) (by rw [h4]; omega) (by omega)
  have he := events_make (P := Tryz.prog) w 70 9 i (.string .empty) ht h1 h2 .i64 .i64 (m : Int) (m : Int) (by omega) (by omega) (by rw [h4]; omega) (by omega) (by rw [h4]; simp; omega) #[]
  rw [h3] at hr
  refine ⟨?_, ?_⟩
  · simp only [msS, Sem.run_bind, hr]
    simp only [Int.toNat_natCast, Nat.mul_one]
    rfl
  · simp only [msS, Sem.events_bind, he, hr]
    simp
theorem seen_wrA (a : Addr) : seen Tryz.prog 27 #[⟨.cell a, true, false⟩] = #[⟨.cell a, true, false⟩] := by kernel_rfl
section
variable {p : Pa} {cs : List Frame} {ta : Option Addr} {tc : Nat} {H : World}
def fiveS (p : Pa) : List Obj := [.cells (madeCells #[.string .empty] p.m) 9, .cells #[.slice (some ⟨p.An, 0, none⟩) p.m p.m] 70, .chan 0 #[] false 0 0 false, .cells #[.chan (some p.Cn)] 114, .cells #[.int .u64 0, .int .u32 0] 122]
theorem al_walk (hm : p.m ≤ 50) (hn1 : 1 ≤ p.n) (hn : p.n ≤ 16) (hA : p.An = H.heap.size) (hBa : p.Ba = H.heap.size + 1) (hC : p.Cn = H.heap.size + 2) (hBt : p.Bt = H.heap.size + 3) (hW : p.Wg = H.heap.size + 4) {Shun : Loc → Prop} (hSh : ∀ a : Addr, H.heap.size ≤ a.block → ¬ Shun (.cell a)) :
    ∃ k, Wm Tryz.prog (DB (fun w => min w.heap.size p.Wg) Shun (· = p.An)) (fun g w => (∃ J, g = (slp Tryz.prog) p cs ta tc 0 J) ∧ Fx H (fiveS p) w) k (Fx H []) (al0 Tryz.prog p cs ta tc p.n) := by
  obtain ⟨r1, r2, r3, r4, r7, r10, f6, f9, f4⟩ := run_al p cs ta tc p.n p.An p.Ba p.Cn p.Bt
  have fat : ∀ {l : List Obj} (w : World) (d : Nat), Fx H l w → Fx H l (w.at d) := fun w d h => h.at d
  have e11 : Wm Tryz.prog (DB (fun w => min w.heap.size p.Wg) Shun (· = p.An)) (fun g w => (∃ J, g = (slp Tryz.prog) p cs ta tc 0 J) ∧ Fx H (fiveS p) w) 0 (Fx H (fiveS p)) (nxts Tryz.prog true 9 (al11 Tryz.prog p cs ta tc)) := fun w hw => ⟨⟨_, slp_al11 p cs ta tc⟩, hw⟩
  have e10' := wm_sil (fun w => DB.none w) fat 9 _ (sil_al11 p cs ta tc) e11
  have e10 : Wm Tryz.prog (DB (fun w => min w.heap.size p.Wg) Shun (· = p.An)) (fun g w => (∃ J, g = (slp Tryz.prog) p cs ta tc 0 J) ∧ Fx H (fiveS p) w) (0 + 9 + 1) (Fx H [.cells (madeCells #[.string .empty] p.m) 9, .cells #[.slice (some ⟨p.An, 0, none⟩) p.m p.m] 70, .chan 0 #[] false 0 0 false, .cells #[.chan (some p.Cn)] 114]) (al10 Tryz.prog p cs ta tc p.n p.An p.Ba p.Cn p.Bt) :=
    ⟨r10, _, _, fat, fun w hw => ⟨_, _, by
      have h := new_al10 p cs ta tc p.n p.An p.Ba p.Cn p.Bt w
      have hs : w.heap.size = p.Wg := by rw [hw.size, hW]; rfl
      rw [hs] at h
      exact h, DB.quiet (by simp; omega), hw.push _⟩, e10'⟩
  have e9' := wm_sil (fun w => DB.none w) fat 3 _ (sil_al9 p cs ta tc p.n p.An p.Ba p.Cn p.Bt) e10
  have e9 : Wm Tryz.prog (DB (fun w => min w.heap.size p.Wg) Shun (· = p.An)) (fun g w => (∃ J, g = (slp Tryz.prog) p cs ta tc 0 J) ∧ Fx H (fiveS p) w) (0 + 9 + 1 + 3 + 1) (Fx H [.cells (madeCells #[.string .empty] p.m) 9, .cells #[.slice (some ⟨p.An, 0, none⟩) p.m p.m] 70, .chan 0 #[] false 0 0 false, .cells #[.chan none] 114]) (al9 Tryz.prog p cs ta tc p.n p.An p.Ba p.Cn p.Bt) :=
    ⟨rfl, _, _, fat, fun w hw => ⟨_, _, by
      obtain ⟨h1, h2⟩ := st_al9 p cs ta tc p.n p.An p.Ba p.Cn p.Bt w
      have hc : w.heap[p.Bt]? = some (.cells #[.chan none] 114) := by rw [hBt, hw.new 3]; rfl
      exact k_st (main := true) h1 h2 (v := .chan none) rfl (by rw [cells_cell hc]; rfl) (cells_thaw hc) (by rw [f9]; exact seen_wrA _), DB.cell (by rw [World.size_setCell]; exact Nat.le_refl _) (hSh _ (by show _ ≤ p.Bt; omega)) (by
        have := hw.size
        simp only [List.length_cons, List.length_nil] at this
        show p.Bt < min _ _
        rw [World.size_setCell]
        omega) (by show ¬ p.Bt = p.An; omega), by
      have := Fx.set (H := H) (w := w) (v := .chan (some p.Cn)) (l := [.cells (madeCells #[.string .empty] p.m) 9, .cells #[.slice (some ⟨p.An, 0, none⟩) p.m p.m] 70, .chan 0 #[] false 0 0 false]) hw
      rw [hBt]
      exact this⟩, e9'⟩
  have e8 : Wm Tryz.prog (DB (fun w => min w.heap.size p.Wg) Shun (· = p.An)) (fun g w => (∃ J, g = (slp Tryz.prog) p cs ta tc 0 J) ∧ Fx H (fiveS p) w) (0 + 9 + 1 + 3 + 1 + 1) (Fx H [.cells (madeCells #[.string .empty] p.m) 9, .cells #[.slice (some ⟨p.An, 0, none⟩) p.m p.m] 70, .chan 0 #[] false 0 0 false]) (al8 Tryz.prog p cs ta tc p.n p.An p.Ba p.Cn) :=
    ⟨rfl, _, _, fat, fun w hw => ⟨_, _, by
      have h := new_al8 p cs ta tc p.n p.An p.Ba p.Cn w
      have hs : w.heap.size = p.Bt := by rw [hw.size, hBt]; rfl
      rw [hs] at h
      exact h, DB.quiet (by simp; omega), hw.push _⟩, e9⟩
  have e7 : Wm Tryz.prog (DB (fun w => min w.heap.size p.Wg) Shun (· = p.An)) (fun g w => (∃ J, g = (slp Tryz.prog) p cs ta tc 0 J) ∧ Fx H (fiveS p) w) (0 + 9 + 1 + 3 + 1 + 1 + 1) (Fx H [.cells (madeCells #[.string .empty] p.m) 9, .cells #[.slice (some ⟨p.An, 0, none⟩) p.m p.m] 70]) (al7 Tryz.prog p cs ta tc p.n p.An p.Ba) :=
    ⟨r7, _, _, fat, fun w hw => ⟨_, _, by
      have h := new_al7 p cs ta tc p.n p.An p.Ba w
      have hs : w.heap.size = p.Cn := by rw [hw.size, hC]; rfl
      rw [hs] at h
      exact h, DB.quiet (by simp; omega), hw.push _⟩, e8⟩
  have e6' := wm_sil (fun w => DB.none w) fat 3 _ (sil_al6 p cs ta tc p.n p.An p.Ba) e7
  have e6 : Wm Tryz.prog (DB (fun w => min w.heap.size p.Wg) Shun (· = p.An)) (fun g w => (∃ J, g = (slp Tryz.prog) p cs ta tc 0 J) ∧ Fx H (fiveS p) w) (0 + 9 + 1 + 3 + 1 + 1 + 1 + 3 + 1) (Fx H [.cells (madeCells #[.string .empty] p.m) 9, .cells #[.slice none 0 0] 70]) (al6 Tryz.prog p cs ta tc p.n p.An p.Ba) :=
    ⟨rfl, _, _, fat, fun w hw => ⟨_, _, by
      obtain ⟨h1, h2⟩ := st_al6 p cs ta tc p.n p.An p.Ba w
      have hc : w.heap[p.Ba]? = some (.cells #[.slice none 0 0] 70) := by rw [hBa, hw.new 1]; rfl
      exact k_st (main := true) h1 h2 (v := .slice none 0 0) rfl (by rw [cells_cell hc]; rfl) (cells_thaw hc) (by rw [f6]; exact seen_wrA _), DB.cell (by rw [World.size_setCell]; exact Nat.le_refl _) (hSh _ (by show _ ≤ p.Ba; omega)) (by
        have := hw.size
        simp only [List.length_cons, List.length_nil] at this
        show p.Ba < min _ _
        rw [World.size_setCell]
        omega) (by show ¬ p.Ba = p.An; omega), by
      have := Fx.set (H := H) (w := w) (v := .slice (some ⟨p.An, 0, none⟩) p.m p.m) (l := [.cells (madeCells #[.string .empty] p.m) 9]) hw
      rw [hBa]
      exact this⟩, e6'⟩
  have e5 : Wm Tryz.prog (DB (fun w => min w.heap.size p.Wg) Shun (· = p.An)) (fun g w => (∃ J, g = (slp Tryz.prog) p cs ta tc 0 J) ∧ Fx H (fiveS p) w) (0 + 9 + 1 + 3 + 1 + 1 + 1 + 3 + 1 + 1) (Fx H [.cells (madeCells #[.string .empty] p.m) 9]) (al5 Tryz.prog p cs ta tc p.n p.An) :=
    ⟨rfl, _, _, fat, fun w hw => ⟨_, _, by
      have h := new_al5 p cs ta tc p.n p.An w
      have hs : w.heap.size = p.Ba := by rw [hw.size, hBa]; rfl
      rw [hs] at h
      exact h, DB.quiet (by simp; omega), hw.push _⟩, e6⟩
  have e4 : Wm Tryz.prog (DB (fun w => min w.heap.size p.Wg) Shun (· = p.An)) (fun g w => (∃ J, g = (slp Tryz.prog) p cs ta tc 0 J) ∧ Fx H (fiveS p) w) (0 + 9 + 1 + 3 + 1 + 1 + 1 + 3 + 1 + 1 + 1) (Fx H []) (al4 Tryz.prog p cs ta tc p.n) :=
    ⟨r4, _, _, fat, fun w hw => ⟨_, _, by
      obtain ⟨h1, h2⟩ := ms_al4 p cs ta tc p.n w
      obtain ⟨k1, k2⟩ := runT_pair h2
      obtain ⟨q1, q2⟩ := run_ms (Nat.le_trans hm (by decide)) w
      have h3 := k_value (main := true) h1 (k1.trans q1)
      rw [k2, q2, seen_none] at h3
      have hs : w.heap.size = p.An := by rw [hw.size, hA]; rfl
      rw [hs] at h3
      exact h3, DB.quiet (by simp; omega), hw.push _⟩, e5⟩
  have e3' := wm_sil (fun w => DB.none w) fat 8 _ (sil_al3 p cs ta tc p.n) e4
  have e3 := wm_sym (fun w => DB.none w) fat r3 (v := .bool false) (fun w => by
    have := sym_al3 p cs ta tc p.n w
    rw [show decide ((p.n : Int) > 16) = false from decide_eq_false (by omega)] at this
    exact this) e3'
  have e2' := wm_sil (fun w => DB.none w) fat 3 _ (sil_al2 p cs ta tc p.n) e3
  have e2 := wm_sym (fun w => DB.none w) fat r2 (v := .bool false) (fun w => by
    have := sym_al2 p cs ta tc p.n w
    rw [show decide ((p.n : Int) < 1) = false from decide_eq_false (by omega)] at this
    exact this) e2'
  have e1' := wm_sil (fun w => DB.none w) fat 2 _ (sil_al1 p cs ta tc p.n) e2
  have e1 := wm_sym (fun w => DB.none w) fat r1 (v := .bool false) (fun w => by
    have := sym_al1 p cs ta tc p.n w
    rw [show decide ((p.m : Int) > 50) = false from decide_eq_false (by omega)] at this
    exact this) e1'
  exact ⟨_, wm_sil (fun w => DB.none w) fat 10 _ (sil_al0 p cs ta tc p.n) e1⟩
end
variable (pG : Program)
section
variable (p : Pa) (z : Frame) (zs : List Frame) (ta : Option Addr) (tc : Nat) (k : Int) (J : Nat → Value)
set_option maxRecDepth 100000
def x1 : Goroutine := (nxts pG) true 3 (back (wz pG p (z :: zs) ta tc k J) (z :: zs))
theorem sil_x0 : SilP true 3 (back (wz Tryz.prog p (z :: zs) ta tc k J) (z :: zs)) := by
  iterate 3 (refine ⟨⟨by kernel_rfl, fun w => by kernel_rfl⟩, ?_⟩)
  trivial
theorem ld_x1 (w : World) : atOp (x1 Tryz.prog p z zs ta tc k J) = true ∧ (x1 Tryz.prog p z zs ta tc k J).frame.fn = 27 ∧ (x1 Tryz.prog p z zs ta tc k J).status = .running ∧ (execOp (x1 Tryz.prog p z zs ta tc k J).frame.eval (opAt (x1 Tryz.prog p z zs ta tc k J))).runT Tryz.prog w #[] = (ldS ⟨p.Ba, 0, none⟩).runT Tryz.prog w #[] := ⟨by kernel_rfl, by kernel_rfl, by kernel_rfl, by kernel_rfl⟩
def x2 (v : Value) : Goroutine := fin (x1 pG p z zs ta tc k J) v
theorem sil_x2 (v : Value) : SilP true 4 (x2 Tryz.prog p z zs ta tc k J v) := by
  iterate 4 (refine ⟨⟨by kernel_rfl, fun w => by kernel_rfl⟩, ?_⟩)
  trivial
theorem out_x2 (v : Value) : (nxts Tryz.prog true 4 (x2 Tryz.prog p z zs ta tc k J v)).status = .running ∧ ∀ w, stepG Tryz.prog true (nxts Tryz.prog true 4 (x2 Tryz.prog p z zs ta tc k J v)) w = .go { frame := z.finish (.tuple #[v, .nilIface]), callers := zs, status := .running, dying := none } w #[] := ⟨by kernel_rfl, fun w => by kernel_rfl⟩
theorem ses_same (f : Nat → Nat) (s : ByteArray) : [Frame.enter Tryz.prog 23 #[.string s] .normal].map (rF f) = [Frame.enter Tryz.prog 23 #[.string s] .normal] := by
  rw [List.map_cons, List.map_nil, enter_rF]
  simp [rV]
end
theorem wm_of_wk {bnd : World → Nat} {Shun : Loc → Prop} {T : Nat → Prop} {Stop Stop' : Goroutine → World → Prop} {Q : Goroutine → Prop} {K : World → Prop} (hK : ∀ w d, K w → K (World.at w d)) (hQ : ∀ g, Q g → ∃ m, Wm Tryz.prog (DB bnd Shun T) Stop m K g) : ∀ (n : Nat) (g : Goroutine), Wk Tryz.prog true (fun _ => True) (fun _ => False) Q n g → ∃ m, Wm Tryz.prog (DB bnd Shun T) Stop m K g
  | 0, g, h => hQ g h
  | n + 1, g, h => by
    rcases h with h | ⟨hr, g', es, h1, h2, h3⟩
    · exact hQ g h
    · obtain ⟨m, hm⟩ := wm_of_wk (Stop' := Stop') hK hQ n g' h3
      have he : es = #[] := by
        apply Array.eq_empty_of_size_eq_zero
        rcases Nat.eq_zero_or_pos es.size with h0 | h0
        · exact h0
        · exact (h2 es[0] (Array.getElem_mem h0)).elim
      subst he
      exact ⟨m + 1, hr, g', K, hK, fun w hw => ⟨w, #[], h1 w trivial, DB.none w, hw⟩, hm⟩
structure AlOk (p : Pa) (ta : Option Addr) (H W0 : World) : Prop where
  m50 : p.m ≤ 50
  n1 : 1 ≤ p.n
  n16 : p.n ≤ 16
  shun : ∀ a : Addr, H.heap.size ≤ a.block → ¬ p.Shun (.cell a)
  rdshun : ∀ a : Addr, p.R a.block → ¬ p.Shun (.cell a)
  low : LowOk p.R p.O p.B p.os W0.heap
  same : ∀ k, p.R k ∨ p.O k → H.heap[k]? = W0.heap[k]?
  h0 : p.h0 = (h0Of Classical.propDecidable) p.R p.O p.B W0.heap
  B : p.B ≤ H.heap.size
  os : H.os = p.os
  txt : ∀ k, k < p.m → ∃ a, ta = some a ∧ H.cell? (a.add k) = some (.string (p.tx k)) ∧ a.block < H.heap.size ∧ ¬ p.Shun (.cell (a.add k))
  cont : ∀ i, i < p.m → Cont (env Tryz.prog p.B p.R p.O p.os) ([Frame.enter Tryz.prog 23 #[.string (p.tx i)] .normal], p.h0) (p.Rr i)
  val : ∀ i v w, i < p.m → p.Rr i v w → p.ans i v
  ans : ∀ i v, p.ans i v → ∃ l, v = .string l
def Pa.lay (p : Pa) (H w0 : World) (j s : Nat) : Pa := { p with w0, An := H.heap.size, Ba := H.heap.size + 1, Cn := H.heap.size + 2, Bt := H.heap.size + 3, Wg := H.heap.size + 4, j0 := j, s0 := s }
section
variable {p : Pa} {ta : Option Addr} {H W0 w0 : World} {j s tc : Nat} {cs : List Frame}
theorem lay_ok (X : AlOk p ta H W0) (h : Fx H (fiveS (p.lay H w0 j s)) w0) : PaOk (p.lay H w0 j s) ta where
  n16 := X.n16
  m50 := X.m50
  bt := ⟨_, by
    have := h.new 3
    exact this⟩
  ba := ⟨_, by
    have := h.new 1
    exact this⟩
  btn := by show H.heap.size + 3 ≠ H.heap.size + 4 ∧ H.heap.size + 3 ≠ H.heap.size + 2 ∧ H.heap.size + 3 ≠ H.heap.size; omega
  ban := by show H.heap.size + 1 ≠ H.heap.size + 4 ∧ H.heap.size + 1 ≠ H.heap.size + 2 ∧ H.heap.size + 1 ≠ H.heap.size; omega
  bts := X.shun _ (by show H.heap.size ≤ H.heap.size + 3; omega)
  bas := X.shun _ (by show H.heap.size ≤ H.heap.size + 1; omega)
  txt k hk := by
    obtain ⟨a, h1, h2, h3, h4⟩ := X.txt k hk
    have hs := h.size
    refine ⟨a, h1, ?_, ?_, ?_, ?_, ?_, h4⟩
    · have blk : (a.add k).block = a.block := by cases a with | mk b o s => simp [Addr.add]; try (split <;> rfl)
      have := h.low (a.add k).block (by omega)
      have e : w0.cell? (a.add k) = H.cell? (a.add k) := by
        unfold World.cell?
        rw [this]
      exact e.trans h2
    · show a.block < w0.heap.size; omega
    · show a.block ≠ H.heap.size + 4; omega
    · show a.block ≠ H.heap.size + 2; omega
    · show a.block ≠ H.heap.size; omega
theorem lay_sc (X : AlOk p ta H W0) (hj : 1 ≤ j) (h : Fx H (fiveS (p.lay H w0 j s)) w0) : ScOk ((p.lay H w0 j s).so Tryz.prog cs ta tc) where
  hW := by
    have := h.size
    show H.heap.size + 4 < w0.heap.size
    simp [fiveS] at this
    omega
  hC := by
    have := h.size
    show H.heap.size + 2 < w0.heap.size
    simp [fiveS] at this
    omega
  hA := by
    have := h.size
    show H.heap.size < w0.heap.size
    simp [fiveS] at this
    omega
  wa := by show H.heap.size + 4 ≠ H.heap.size; omega
  wc := by show H.heap.size + 4 ≠ H.heap.size + 2; omega
  ca := by show H.heap.size + 2 ≠ H.heap.size; omega
  hn := X.n1
  hn16 := X.n16
  j0 := hj
  aw := so_aw (lay_ok X h)
  ar := ar_ok (p := p.lay H w0 j s) X.n16 (fun i v _ hv => X.ans i v hv)
  rt := rtOk X.low.g
  call := callOk X.low.g X.low.gs
  code := codeOk X.low.gs
  cont i hi := X.cont i hi
  val i v w hi hv := X.val i v w hi hv
  plain i v f hv := by
    obtain ⟨l, rfl⟩ := X.ans i v hv
    rw [rV]
  flw i w hi hw := by
    have hlt : ∀ k, p.R k ∨ p.O k → k < p.B := fun k hk => hk.elim (fun x => (X.low.ro k x).1) (fun x => (X.low.op k x).1)
    have hB := X.B
    have hz : w0.heap.size ≤ w.heap.size := hw.size
    have hs := h.size
    have := Follows.begin (w := w) X.low (fun k hk => by
      have h1 := hlt k hk
      have h2 : w.heap[k]? = w0.heap[k]? := hw.low k (by show k < w0.heap.size; omega) (by show k ≠ H.heap.size + 4; omega) (by show k ≠ H.heap.size + 2; omega) (by show k ≠ H.heap.size; omega)
      rw [h2, h.low k (by omega)]
      exact X.same k hk) (by omega) (by
      have h1 : w.os = w0.os := hw.os
      rw [h1, h.os]
      exact X.os) (g := 23) (args := #[.string (p.tx i)]) (by kernel_rfl) (fun v hv => by
      simp only [List.mem_toArray, List.mem_cons, List.not_mem_nil, or_false] at hv
      subst hv
      simp [okV])
    refine ⟨fun j => if j < p.B then j else w.heap.size + (j - p.B), ?_, ses_same _ _, ?_, fun b hb => ?_⟩
    · rw [← X.h0] at this
      exact this
    · show p.h0.size = p.B
      rw [X.h0, h0Of_size]
    · have hb : p.B ≤ b := hb
      show w0.heap.size ≤ if b < p.B then b else w.heap.size + (b - p.B)
      rw [if_neg (by omega)]
      omega
  EB := by
    have := X.B
    have hs := h.size
    show p.B ≤ w0.heap.size
    omega
  rdlo b hb := by
    have h1 : b < p.B := hb.elim (fun x => (X.low.ro b x).1) (fun x => (X.low.op b x).1)
    have := X.B
    have hs := h.size
    refine ⟨?_, ?_, ?_, ?_⟩
    · show b < w0.heap.size; omega
    · show b ≠ H.heap.size + 4; omega
    · show b ≠ H.heap.size + 2; omega
    · show b ≠ H.heap.size; omega
  rdshun a ha := X.rdshun a ha
theorem lay_kw (h : Fx H (fiveS (p.lay H w0 j s)) w0) {AW Out : Goroutine → Prop} : KW ((p.lay H w0 j s).sc Tryz.prog AW Out) w0 where
  low _ _ _ _ _ := rfl
  grp := ⟨0, 0, h.new 4⟩
  pay := ⟨_, h.new 0, size_madeCells _ _⟩
  chn := ⟨_, _, _, h.new 2⟩
  os := rfl
  out := rfl
  tape := rfl
  size := Nat.le_refl _
end
section
variable {p : Pa} {ta : Option Addr} {H W0 : World} {tc : Nat} {z : Frame} {zs : List Frame}
structure AlEnd (p : Pa) (H : World) (w : World) : Prop where
  low : ∀ b, b < H.heap.size → w.heap[b]? = H.heap[b]?
  os : w.os = H.os
  out : w.output = H.output
  tape : w.tape = H.tape
  size : H.heap.size + 5 ≤ w.heap.size
  ans : ∃ cs, w.heap[H.heap.size]? = some (.cells cs 9) ∧ cs.size = p.m ∧ ∀ i, i < p.m → ∃ v, cs[i]? = some v ∧ p.ans i v
theorem AlEnd.at {w : World} (h : AlEnd p H w) (d : Nat) : AlEnd p H (w.at d) := ⟨h.low, h.os, h.out, h.tape, h.size, h.ans⟩
def alOut (p : Pa) (H : World) (z : Frame) (zs : List Frame) : Goroutine := { frame := z.finish (.tuple #[.slice (some ⟨H.heap.size, 0, none⟩) p.m p.m, .nilIface]), callers := zs, status := .running, dying := none }
theorem al_out {w0 : World} {j s : Nat} (X : AlOk p ta H W0) (h : Fx H (fiveS (p.lay H w0 j s)) w0) {k : Int} {J : Nat → Value} {n : Nat} {g : Goroutine} (hg : Wk Tryz.prog true (fun _ => True) (fun _ => False) (fun g => g = back (wz Tryz.prog (p.lay H w0 j s) (z :: zs) ta tc k J) (z :: zs)) n g) :
    ∃ m, Wm Tryz.prog (DB (fun w => w.heap.size) (fun l => p.Shun l ∨ ((p.lay H w0 j s).so Tryz.prog (z :: zs) ta tc).Sh l) (fun _ => False)) (fun g w => g = alOut p H z zs ∧ KW ((p.lay H w0 j s).so Tryz.prog (z :: zs) ta tc) w ∧ AlEnd p H w) m (fun w => KW ((p.lay H w0 j s).so Tryz.prog (z :: zs) ta tc) w ∧ AlEnd p H w) g := by
  have hK : ∀ (w : World) (d : Nat), (KW ((p.lay H w0 j s).so Tryz.prog (z :: zs) ta tc) w ∧ AlEnd p H w) → KW ((p.lay H w0 j s).so Tryz.prog (z :: zs) ta tc) (w.at d) ∧ AlEnd p H (w.at d) := fun w d hw => ⟨hw.1.at d, hw.2.at d⟩
  refine wm_of_wk (Stop' := fun _ _ => True) hK (fun g hq => ?_) n g hg
  subst hq
  have o := out_x2 (p.lay H w0 j s) z zs ta tc k J (.slice (some ⟨H.heap.size, 0, none⟩) p.m p.m)
  have a2 : Wm Tryz.prog (DB (fun w => w.heap.size) (fun l => p.Shun l ∨ ((p.lay H w0 j s).so Tryz.prog (z :: zs) ta tc).Sh l) (fun _ => False)) (fun g w => g = alOut p H z zs ∧ KW ((p.lay H w0 j s).so Tryz.prog (z :: zs) ta tc) w ∧ AlEnd p H w) 1 (fun w => KW ((p.lay H w0 j s).so Tryz.prog (z :: zs) ta tc) w ∧ AlEnd p H w) (nxts Tryz.prog true 4 (x2 Tryz.prog (p.lay H w0 j s) z zs ta tc k J (.slice (some ⟨H.heap.size, 0, none⟩) p.m p.m))) :=
    ⟨o.1, alOut p H z zs, _, hK, fun w hw => ⟨w, #[], o.2 w, DB.none w, hw⟩, fun w hw => ⟨rfl, hw⟩⟩
  have a1' := wm_sil (fun w => DB.none w) hK 4 _ (sil_x2 (p.lay H w0 j s) z zs ta tc k J (.slice (some ⟨H.heap.size, 0, none⟩) p.m p.m)) a2
  have a1 : Wm Tryz.prog (DB (fun w => w.heap.size) (fun l => p.Shun l ∨ ((p.lay H w0 j s).so Tryz.prog (z :: zs) ta tc).Sh l) (fun _ => False)) (fun g w => g = alOut p H z zs ∧ KW ((p.lay H w0 j s).so Tryz.prog (z :: zs) ta tc) w ∧ AlEnd p H w) (1 + 4 + 1) (fun w => KW ((p.lay H w0 j s).so Tryz.prog (z :: zs) ta tc) w ∧ AlEnd p H w) (x1 Tryz.prog (p.lay H w0 j s) z zs ta tc k J) := by
    refine ⟨(ld_x1 (p.lay H w0 j s) z zs ta tc k J w0).2.2.1, _, _, hK, fun w hw => ?_, a1'⟩
    obtain ⟨e1, e2, _, e3⟩ := ld_x1 (p.lay H w0 j s) z zs ta tc k J w
    refine ⟨w, _, k_ld (main := true) e1 e3 (ba_cell (lay_ok X h) hw.1) (by rw [e2]; exact seen_rdA _), DB.cell (Nat.le_refl _) ?_ ?_ id, hw⟩
    · rintro (h1 | ⟨a, h1, h2⟩)
      · exact X.shun _ (by show H.heap.size ≤ H.heap.size + 1; omega) h1
      · cases h1
        have h2 : H.heap.size + 1 = H.heap.size + 4 := h2
        omega
    · have := hw.2.size
      show H.heap.size + 1 < w.heap.size
      omega
  exact ⟨_, wm_sil (fun w => DB.none w) hK 3 _ (sil_x0 (p.lay H w0 j s) z zs ta tc k J) a1⟩
theorem all_beside (X : AlOk p ta H W0) {gs : Array Goroutine} {t : Trace} {q : Nat → Nat} (sl : Option (Nat × Nat)) (h0 : gs[0]? = some (al0 Tryz.prog p (z :: zs) ta tc p.n)) (hL : Leavers Tryz.prog t gs q) (hP : Past p.Shun H.heap.size t) :
    ∃ N gs' w' sl' t' q', runNT Tryz.prog N (crowd gs H sl) t = (.next (crowd gs' w' sl'), t') ∧ gs'[0]? = some (alOut p H z zs) ∧ Leavers Tryz.prog t' gs' q' ∧ Past (fun l => p.Shun l ∨ ∃ a, l = .cell a ∧ a.block = H.heap.size + 4) w'.heap.size t' ∧ AlEnd p H w' := by
  have hpos : 1 ≤ gs.size := (Array.getElem?_eq_some_iff.1 h0).1
  obtain ⟨k, hk⟩ := al_walk (p := p.lay H H gs.size 0) (cs := z :: zs) (ta := ta) (tc := tc) (H := H) X.m50 X.n1 X.n16 rfl rfl rfl rfl rfl (Shun := p.Shun) X.shun
  have hPk : KeepB (fun w => min w.heap.size (p.lay H H gs.size 0).Wg) p.Shun (· = (p.lay H H gs.size 0).An) H t := by
    refine ⟨?_, Unt.low hP (fun b hb => ?_)⟩
    · have e : min H.heap.size (p.lay H H gs.size 0).Wg = H.heap.size := Nat.min_eq_left (by show H.heap.size ≤ H.heap.size + 4; omega)
      show Past p.Shun (min H.heap.size (p.lay H H gs.size 0).Wg) t
      rw [e]
      exact hP
    · have hb : b = H.heap.size := hb
      omega
  obtain ⟨N1, gs1, a1, w1, sl1, t1, q1, r1, r2, r3, ⟨⟨J, rfl⟩, r4⟩, r5, r6, r7⟩ := wm_run (sl := sl) (fun w d => rfl) (K := Fx H []) (fun w d h => Fx.at h d) hk (Fx.refl H) h0 hL hPk
  have r4 : Fx H (fiveS (p.lay H w1 gs1.size t1.size)) w1 := r4
  have hspw := so_spw (cs := z :: zs) (tc := tc) (lay_ok X r4) p.n (Nat.le_refl _) J
  have hspw : Spw ((p.lay H w1 gs1.size t1.size).so Tryz.prog (z :: zs) ta tc) p.n (slp Tryz.prog (p.lay H w1 gs1.size t1.size) (z :: zs) ta tc ((p.n - p.n : Nat) : Int) J) := hspw
  rw [Nat.sub_self] at hspw
  obtain ⟨N2, gs2, w2, sl2, t2, m1, a, q2, e1, ⟨kk, J', nn, e2⟩, e3, e4, e5, e6, cs, e7, e8, e9⟩ := all_start (S := (p.lay H w1 gs1.size t1.size).so Tryz.prog (z :: zs) ta tc) (lay_sc X (by omega) r4) (B := min w1.heap.size (H.heap.size + 4)) sl1 rfl r3 r5 r6 (Nat.min_le_left _ _) (Nat.min_le_right _ _) rfl (fun op hop x hx ad had => r7 op hop x hx ad had) (lay_kw r4) (r4.new 4) (r4.new 2) hspw
  have hend : AlEnd p H w2 := by
    have hs := r4.size
    have hz : w1.heap.size ≤ w2.heap.size := e6.size
    simp only [fiveS, List.length_cons, List.length_nil] at hs
    refine ⟨fun b hb => ?_, ?_, ?_, ?_, by omega, cs, e7, e8, e9⟩
    · have h1 : w2.heap[b]? = w1.heap[b]? := e6.low b (by show b < w1.heap.size; omega) (by show b ≠ H.heap.size + 4; omega) (by show b ≠ H.heap.size + 2; omega) (by show b ≠ H.heap.size; omega)
      rw [h1]
      exact r4.low b hb
    · have h1 : w2.os = w1.os := e6.os
      rw [h1, r4.os]
    · have h1 : w2.output = w1.output := e6.out
      rw [h1, r4.out]
    · have h1 : w2.tape = w1.tape := e6.tape
      rw [h1, r4.tape]
  obtain ⟨m, hm⟩ := al_out X r4 e2
  obtain ⟨N3, gs3, a3, w3, sl3, t3, q3, f1, f2, f3, ⟨rfl, f4, f5⟩, f6, f7, f8⟩ := wm_run (sl := sl2) (fun w d => rfl) (fun w d h => ⟨KW.at h.1 d, AlEnd.at h.2 d⟩) hm ⟨e6, hend⟩ e1 e4 ⟨e5, fun op _ x _ ad had => had.elim⟩
  refine ⟨N1 + N2 + N3, gs3, w3, sl3, t3, q3, ?_, f3, f6, f7, f5⟩
  have h12 : runNT Tryz.prog (N1 + N2) (crowd gs H sl) t = (.next (crowd gs2 w2 sl2), t2) := by
    rw [runNT_add, r1]
    exact m1
  rw [runNT_add, h12]
  exact f1
end
end Go.Proofs.YtaablbmgagiajabGreatDoor.Ren
namespace Go.Proofs.YtaablbmgagiajabGreatDoor.Ren
open Go Go.Conc
structure Grew (H w : World) : Prop where
  size : H.heap.size ≤ w.heap.size
  low : ∀ b, b < H.heap.size → w.heap[b]? = H.heap[b]?
  os : w.os = H.os
  out : w.output = H.output
  tape : w.tape = H.tape
theorem Grew.refl (w : World) : Grew w w := ⟨Nat.le_refl _, fun _ _ => rfl, rfl, rfl, rfl⟩
theorem Grew.at {H w : World} (h : Grew H w) (d : Nat) : Grew H (w.at d) := ⟨h.size, h.low, h.os, h.out, h.tape⟩
theorem Grew.trans {a b c : World} (h : Grew a b) (k : Grew b c) : Grew a c := ⟨Nat.le_trans h.size k.size, fun x hx => (k.low x (Nat.lt_of_lt_of_le hx h.size)).trans (h.low x hx), k.os.trans h.os, k.out.trans h.out, k.tape.trans h.tape⟩
theorem AlEnd.grew {p : Pa} {H w : World} (h : AlEnd p H w) : Grew H w := ⟨by have := h.size; omega, h.low, h.os, h.out, h.tape⟩
def nxO {α : Type} (r : α → α → Prop) : Option α → Option α → Prop
  | none, some _ => True
  | some y, some x => r y x
  | _, none => False
theorem acc_nxO {α : Type} {r : α → α → Prop} {x : α} (h : Acc r x) : Acc (nxO r) (some x) := by
  have h0 : Acc (nxO r) none := Acc.intro _ fun y hy => by cases y <;> exact hy.elim
  induction h with
  | intro x _ ih =>
    refine Acc.intro _ fun y hy => ?_
    cases y with
    | none => exact h0
    | some y => exact ih y hy
section
variable {R O : Nat → Prop} {B : Nat} {os : Os} {W0 H : World} {s : ByteArray} {Rr : Value → World → Prop} {An : Value → Prop} {Shun : Loc → Prop} {z : Frame} {zs : List Frame}
def ShunLow (Shun : Loc → Prop) (b : Nat) : Prop := ∀ l, Shun l → ∃ a : Addr, l = .cell a ∧ a.block < b
theorem evl_ses (hS : ShunLow Shun H.heap.size) (hR : ∀ a : Addr, R a.block → ¬ Shun (.cell a)) (hRl : ∀ k, R k → k < H.heap.size) {f : Nat → Nat} {n bd : Nat} (hbd : H.heap.size ≤ bd) (hf : ∀ b, (env Tryz.prog B R O os).I n b → H.heap.size ≤ f b ∧ f b < bd) {e : Event} (he : EvOk (env Tryz.prog B R O os) f n e) : EvL Shun bd e := by
  have hq := quiet_ses he
  refine ⟨fun x hx hs => ?_, hq.1, hq.2, ?_⟩
  · obtain ⟨a, ha, hab⟩ := hS _ hs
    rcases he with ⟨m, rfl, hm⟩ | ⟨k, hk, hsy, h1 | ⟨a', h1, h2⟩⟩ | ⟨a', h1, rfl⟩ | h1
    · cases m <;> first | exact hm.elim | simp [MemAct.ofEvent, MemAct.touch?] at hx
    · obtain ⟨loc, wr, sy⟩ := e
      dsimp only at h1 hsy
      subst h1
      subst hsy
      cases wr <;> simp only [MemAct.ofEvent, MemAct.touch?, Option.some.injEq] at hx <;> subst hx <;> cases ha
    · obtain ⟨loc, wr, sy⟩ := e
      dsimp only at h2
      subst h2
      simp only [MemAct.ofEvent, MemAct.touch?, Option.some.injEq] at hx
      subst hx
      cases ha
      have := (hf k hk).1
      omega
    · simp only [MemAct.ofEvent, MemAct.touch?, Option.some.injEq] at hx
      subst hx
      exact absurd hs (hR a' h1)
    · obtain ⟨loc, wr, sy⟩ := e
      dsimp only at h1
      subst h1
      simp only [MemAct.ofEvent, MemAct.touch?, Option.some.injEq] at hx
      subst hx
      cases ha
  · rcases he with ⟨m, rfl, hm⟩ | ⟨k, hk, hsy, h1 | ⟨a', h1, h2⟩⟩ | ⟨a', h1, rfl⟩ | h1
    · cases m <;> first | exact hm.elim | trivial
    · obtain ⟨loc, wr, sy⟩ := e
      dsimp only at h1 hsy
      subst h1
      subst hsy
      cases wr <;> exact (hf k hk).2
    · obtain ⟨loc, wr, sy⟩ := e
      dsimp only at h2
      subst h2
      show a'.block < bd
      rw [h1]
      exact (hf k hk).2
    · show a'.block < bd
      have := hRl _ h1
      omega
    · obtain ⟨loc, wr, sy⟩ := e
      dsimp only at h1
      subst h1
      trivial
def sesOut (z : Frame) (zs : List Frame) (v : Value) : Goroutine := { frame := z.finish v, callers := zs, status := .running, dying := none }
theorem wb_ses (low : LowOk R O B os W0.heap) (hB : B ≤ H.heap.size) (cont : Cont (env Tryz.prog B R O os) ([Frame.enter Tryz.prog 23 #[.string s] .normal], (h0Of Classical.propDecidable) R O B W0.heap) Rr) (val : ∀ v w, Rr v w → An v) (str : ∀ v, An v → ∃ l, v = .string l) (hS : ShunLow Shun H.heap.size) (hR : ∀ a : Addr, R a.block → ¬ Shun (.cell a)) :
    Wb Tryz.prog (nxO (Nx (env Tryz.prog B R O os))) (KeepB (fun w => w.heap.size) Shun (fun _ => False)) (fun x g w => match x with
      | some y => ∃ f, Follows (env Tryz.prog B R O os) tM ([Frame.enter Tryz.prog 23 #[.string s] .normal], (h0Of Classical.propDecidable) R O B W0.heap) f y w ∧ g = gor (y.1.map (rF f)) (z :: zs) ∧ (∀ b, B ≤ b → b < y.2.size → H.heap.size ≤ f b) ∧ Grew H w
      | none => (∃ v, An v ∧ g = sesOut z zs v) ∧ Grew H w) (fun g w => (∃ v, An v ∧ g = sesOut z zs v) ∧ Grew H w) where
  kdraws := fun w t d k => k
  mute := fun w t i fn pos es hi hm k => keepB_mute hi hm k
  step := by
    intro x g w hx
    cases x with
    | none => exact .inl hx
    | some y =>
      obtain ⟨f, h1, rfl, h3, h4⟩ := hx
      have hRl : ∀ k, R k → k < H.heap.size := fun k hk => by have := (low.ro k hk).1; omega
      have hrt : RtOk (env Tryz.prog B R O os) := rtOk low.g
      refine .inr ⟨gor_status (by simp), fun d => ?_⟩
      have h1' : Follows (env Tryz.prog B R O os) tM ([Frame.enter Tryz.prog 23 #[.string s] .normal], (h0Of Classical.propDecidable) R O B W0.heap) f y (w.at d) := ⟨h1.fit, h1.rel, h1.os, h1.ok, h1.reach⟩
      have hg := h4.at d
      refine ⟨⟨f, h1', rfl, h3, hg⟩, ?_⟩
      have hlow : ∀ k, (env Tryz.prog B R O os).I y.2.size k → f k < (w.at d).heap.size := fun k hk => low_lt h1'.fit h1'.rel hk.2
      by_cases hlv : Leaves1 y.1
      · obtain ⟨v, wl, w', es, k1, k2, _, k4, k5⟩ := h1'.leave hrt cont hlv true z zs
        have hv := val v wl k2
        obtain ⟨l, rfl⟩ := str v hv
        rw [show rV f (.string l) = .string l by rw [rV]] at k4
        have hsz : w'.heap.size = (w.at d).heap.size := by have := k5.size; omega
        refine ⟨_, w', es, k4, fun t fn pos hk => keepB_own ⟨by show (w.at d).heap.size ≤ w'.heap.size; omega, fun e he => evl_ses hS hR hRl (by show H.heap.size ≤ w'.heap.size; have := hg.size; omega) (fun b hb => ⟨h3 b hb.1 hb.2, by
          show f b < w'.heap.size
          rw [hsz]; exact hlow b hb⟩) (k5.evs e he), fun _ _ _ _ _ hf => hf.elim⟩ hk, none, trivial, ⟨_, hv, rfl⟩, ?_⟩
        exact ⟨by have := hg.size; omega, fun b hb => by
          rw [k5.stay b (by have := hg.size; omega) fun k hk he => ?_]
          · exact hg.low b hb
          · have := h3 k hk.1 hk.2
            omega, k5.os.trans hg.os, k5.out.trans hg.out, k5.tape.trans hg.tape⟩
      · obtain ⟨y', w', es, k1, k2, k3, k4, k5⟩ := h1'.step hrt (callOk low.g low.gs) (codeOk low.gs) cont hlv true (z :: zs)
        have hsz := k2.size
        have hgs := hg.size
        have hown : ∀ b, B ≤ b → b < y'.2.size → H.heap.size ≤ f b ∧ f b < w'.heap.size := fun b hb1 hb2 => by
          rcases Nat.lt_or_ge b y.2.size with hlt | hge
          · have h5 := h3 b hb1 hlt
            have h6 := hlow b ⟨hb1, hlt⟩
            omega
          · have h5 := h1'.rel.new b hge
            omega
        refine ⟨_, w', es, k1, fun t fn pos hk => keepB_own ⟨by show (w.at d).heap.size ≤ w'.heap.size; omega, fun e he => evl_ses hS hR hRl (by show H.heap.size ≤ w'.heap.size; omega) (fun b hb => hown b hb.1 hb.2) (k2.evs e he), fun _ _ _ _ _ hf => hf.elim⟩ hk, some y', k5, f, k4, rfl, fun b hb1 hb2 => (hown b hb1 hb2).1, ?_⟩
        exact ⟨by omega, fun b hb => by
          rw [k2.stay b (by omega) fun k hk he => ?_]
          · exact hg.low b hb
          · have := h3 k hk.1 hk.2
            omega, k2.os.trans hg.os, k2.out.trans hg.out, k2.tape.trans hg.tape⟩
theorem ses_beside (low : LowOk R O B os W0.heap) (same : ∀ k, R k ∨ O k → H.heap[k]? = W0.heap[k]?) (hB : B ≤ H.heap.size) (hos : H.os = os) (cont : Cont (env Tryz.prog B R O os) ([Frame.enter Tryz.prog 23 #[.string s] .normal], (h0Of Classical.propDecidable) R O B W0.heap) Rr) (val : ∀ v w, Rr v w → An v) (str : ∀ v, An v → ∃ l, v = .string l) (hS : ShunLow Shun H.heap.size) (hR : ∀ a : Addr, R a.block → ¬ Shun (.cell a))
    {gs : Array Goroutine} {t : Trace} {q : Nat → Nat} (sl : Option (Nat × Nat)) (h0 : gs[0]? = some (gor [Frame.enter Tryz.prog 23 #[.string s] .normal] (z :: zs))) (hL : Leavers Tryz.prog t gs q) (hP : Past Shun H.heap.size t) :
    ∃ N gs' w' sl' t' q' v, runNT Tryz.prog N (crowd gs H sl) t = (.next (crowd gs' w' sl'), t') ∧ gs'[0]? = some (sesOut z zs v) ∧ An v ∧ Leavers Tryz.prog t' gs' q' ∧ Past Shun w'.heap.size t' ∧ Grew H w' := by
  have hb := Follows.begin (w := H) low same hB hos (g := 23) (args := #[.string s]) (by kernel_rfl) (fun v hv => by
    simp only [List.mem_toArray, List.mem_cons, List.not_mem_nil, or_false] at hv
    subst hv
    simp [okV])
  obtain ⟨N, gs', a', w', sl', t', q', r1, r2, r3, ⟨⟨v, hv, rfl⟩, r4⟩, r5, r6⟩ := wb_run (wb_ses (H := H) (z := z) (zs := zs) low hB cont val str hS hR) (some ([Frame.enter Tryz.prog 23 #[.string s] .normal], (h0Of Classical.propDecidable) R O B W0.heap)) (acc_nxO cont.acc) _ gs _ H sl t q (Nat.lt_succ_self _) h0 hL ⟨hP, fun _ _ _ _ _ hf => hf.elim⟩ ⟨_, hb, by rw [ses_same], fun b h1 h2 => by
    have h2 : b < (h0Of Classical.propDecidable R O B W0.heap).size := h2
    rw [h0Of_size] at h2
    omega, Grew.refl H⟩
  exact ⟨N, gs', w', sl', t', q', v, r1, r3, hv, r5, r6.1, r4⟩
end
section
variable {R O : Nat → Prop} {B : Nat} {os : Os} {W0 H : World} {gf : FuncId} {args : Array Value} {Rr : Value → World → Prop} {An : Value → Prop} {Shun : Loc → Prop} {z : Frame} {zs : List Frame}
theorem wb_fn (low : LowOk R O B os W0.heap) (hB : B ≤ H.heap.size) (cont : Cont (env Tryz.prog B R O os) ([Frame.enter Tryz.prog gf args .normal], (h0Of Classical.propDecidable) R O B W0.heap) Rr) (val : ∀ v w, Rr v w → An v) (plain : ∀ v f, An v → rV f v = v) (hS : ShunLow Shun H.heap.size) (hR : ∀ a : Addr, R a.block → ¬ Shun (.cell a)) :
    Wb Tryz.prog (nxO (Nx (env Tryz.prog B R O os))) (KeepB (fun w => w.heap.size) Shun (fun _ => False)) (fun x g w => match x with
      | some y => ∃ f, Follows (env Tryz.prog B R O os) tM ([Frame.enter Tryz.prog gf args .normal], (h0Of Classical.propDecidable) R O B W0.heap) f y w ∧ g = gor (y.1.map (rF f)) (z :: zs) ∧ (∀ b, B ≤ b → b < y.2.size → H.heap.size ≤ f b) ∧ Grew H w
      | none => (∃ v, An v ∧ g = sesOut z zs v) ∧ Grew H w) (fun g w => (∃ v, An v ∧ g = sesOut z zs v) ∧ Grew H w) where
  kdraws := fun w t d k => k
  mute := fun w t i fn pos es hi hm k => keepB_mute hi hm k
  step := by
    intro x g w hx
    cases x with
    | none => exact .inl hx
    | some y =>
      obtain ⟨f, h1, rfl, h3, h4⟩ := hx
      have hRl : ∀ k, R k → k < H.heap.size := fun k hk => by have := (low.ro k hk).1; omega
      have hrt : RtOk (env Tryz.prog B R O os) := rtOk low.g
      refine .inr ⟨gor_status (by simp), fun d => ?_⟩
      have h1' : Follows (env Tryz.prog B R O os) tM ([Frame.enter Tryz.prog gf args .normal], (h0Of Classical.propDecidable) R O B W0.heap) f y (w.at d) := ⟨h1.fit, h1.rel, h1.os, h1.ok, h1.reach⟩
      have hg := h4.at d
      refine ⟨⟨f, h1', rfl, h3, hg⟩, ?_⟩
      have hlow : ∀ k, (env Tryz.prog B R O os).I y.2.size k → f k < (w.at d).heap.size := fun k hk => low_lt h1'.fit h1'.rel hk.2
      by_cases hlv : Leaves1 y.1
      · obtain ⟨v, wl, w', es, k1, k2, _, k4, k5⟩ := h1'.leave hrt cont hlv true z zs
        have hv := val v wl k2
        rw [plain v f hv] at k4
        have hsz : w'.heap.size = (w.at d).heap.size := by have := k5.size; omega
        refine ⟨_, w', es, k4, fun t fn pos hk => keepB_own ⟨by show (w.at d).heap.size ≤ w'.heap.size; omega, fun e he => evl_ses hS hR hRl (by show H.heap.size ≤ w'.heap.size; have := hg.size; omega) (fun b hb => ⟨h3 b hb.1 hb.2, by
          show f b < w'.heap.size
          rw [hsz]; exact hlow b hb⟩) (k5.evs e he), fun _ _ _ _ _ hf => hf.elim⟩ hk, none, trivial, ⟨_, hv, rfl⟩, ?_⟩
        exact ⟨by have := hg.size; omega, fun b hb => by
          rw [k5.stay b (by have := hg.size; omega) fun k hk he => ?_]
          · exact hg.low b hb
          · have := h3 k hk.1 hk.2
            omega, k5.os.trans hg.os, k5.out.trans hg.out, k5.tape.trans hg.tape⟩
      · obtain ⟨y', w', es, k1, k2, k3, k4, k5⟩ := h1'.step hrt (callOk low.g low.gs) (codeOk low.gs) cont hlv true (z :: zs)
        have hsz := k2.size
        have hgs := hg.size
        have hown : ∀ b, B ≤ b → b < y'.2.size → H.heap.size ≤ f b ∧ f b < w'.heap.size := fun b hb1 hb2 => by
          rcases Nat.lt_or_ge b y.2.size with hlt | hge
          · have h5 := h3 b hb1 hlt
            have h6 := hlow b ⟨hb1, hlt⟩
            omega
          · have h5 := h1'.rel.new b hge
            omega
        refine ⟨_, w', es, k1, fun t fn pos hk => keepB_own ⟨by show (w.at d).heap.size ≤ w'.heap.size; omega, fun e he => evl_ses hS hR hRl (by show H.heap.size ≤ w'.heap.size; omega) (fun b hb => hown b hb.1 hb.2) (k2.evs e he), fun _ _ _ _ _ hf => hf.elim⟩ hk, some y', k5, f, k4, rfl, fun b hb1 hb2 => (hown b hb1 hb2).1, ?_⟩
        exact ⟨by omega, fun b hb => by
          rw [k2.stay b (by omega) fun k hk he => ?_]
          · exact hg.low b hb
          · have := h3 k hk.1 hk.2
            omega, k2.os.trans hg.os, k2.out.trans hg.out, k2.tape.trans hg.tape⟩
theorem fn_beside (hT : tF.contains gf = true) (hok : okAll (env Tryz.prog B R O os) B args) (hsame : ∀ f, args.map (rV f) = args) (low : LowOk R O B os W0.heap) (same : ∀ k, R k ∨ O k → H.heap[k]? = W0.heap[k]?) (hB : B ≤ H.heap.size) (hos : H.os = os) (cont : Cont (env Tryz.prog B R O os) ([Frame.enter Tryz.prog gf args .normal], (h0Of Classical.propDecidable) R O B W0.heap) Rr) (val : ∀ v w, Rr v w → An v) (plain : ∀ v f, An v → rV f v = v) (hS : ShunLow Shun H.heap.size) (hR : ∀ a : Addr, R a.block → ¬ Shun (.cell a))
    {gs : Array Goroutine} {t : Trace} {q : Nat → Nat} (sl : Option (Nat × Nat)) (h0 : gs[0]? = some (gor [Frame.enter Tryz.prog gf args .normal] (z :: zs))) (hL : Leavers Tryz.prog t gs q) (hP : Past Shun H.heap.size t) :
    ∃ N gs' w' sl' t' q' v, runNT Tryz.prog N (crowd gs H sl) t = (.next (crowd gs' w' sl'), t') ∧ gs'[0]? = some (sesOut z zs v) ∧ An v ∧ Leavers Tryz.prog t' gs' q' ∧ Past Shun w'.heap.size t' ∧ Grew H w' := by
  have hb := Follows.begin (w := H) low same hB hos (g := gf) (args := args) hT hok
  obtain ⟨N, gs', a', w', sl', t', q', r1, r2, r3, ⟨⟨v, hv, rfl⟩, r4⟩, r5, r6⟩ := wb_run (wb_fn (H := H) (z := z) (zs := zs) low hB cont val plain hS hR) (some ([Frame.enter Tryz.prog gf args .normal], (h0Of Classical.propDecidable) R O B W0.heap)) (acc_nxO cont.acc) _ gs _ H sl t q (Nat.lt_succ_self _) h0 hL ⟨hP, fun _ _ _ _ _ hf => hf.elim⟩ ⟨_, hb, by rw [List.map_cons, List.map_nil, enter_rF, hsame], fun b h1 h2 => by
    have h2 : b < (h0Of Classical.propDecidable R O B W0.heap).size := h2
    rw [h0Of_size] at h2
    omega, Grew.refl H⟩
  exact ⟨N, gs', w', sl', t', q', v, r1, r3, hv, r5, r6.1, r4⟩
end
end Go.Proofs.YtaablbmgagiajabGreatDoor.Ren
