import Derived.Test.YtaablbmgagiajabGreatDoorKGAU
namespace Go.Proofs.YtaablbmgagiajabGreatDoor.Ren
open Go Go.Conc
open Go.ConcR (KK WgAt stA smA rd wr mk)
open Go.ConcN (st_flag st_waiters)
section
variable (Wg : Nat) (z : Frame) (zs : List Frame)
set_option maxRecDepth 100000
def back : Goroutine := { frame := z.finish (.tuple #[]), callers := zs, status := .running, dying := none }
theorem run_m6 (X V : Int) : (m60t Tryz.prog Wg (z :: zs) X V).status = .running ∧ (m60f Tryz.prog Wg (z :: zs) X V).status = .running ∧ (m61t Tryz.prog Wg (z :: zs) X V).status = .running ∧ (p3 Tryz.prog Wg (z :: zs)).status = .running := ⟨by kernel_rfl, by kernel_rfl, by kernel_rfl, by kernel_rfl⟩
theorem out_m60t (X V : Int) : (nxt Tryz.prog false (m60t Tryz.prog Wg (z :: zs) X V)).status = .running ∧ ∀ w, stepG Tryz.prog false (nxt Tryz.prog false (m60t Tryz.prog Wg (z :: zs) X V)) w = .go (back z zs) w #[] := ⟨by kernel_rfl, fun w => by kernel_rfl⟩
theorem out_m60f (X V : Int) : (nxt Tryz.prog false (m60f Tryz.prog Wg (z :: zs) X V)).status = .running ∧ ∀ w, stepG Tryz.prog false (nxt Tryz.prog false (m60f Tryz.prog Wg (z :: zs) X V)) w = .go (back z zs) w #[] := ⟨by kernel_rfl, fun w => by kernel_rfl⟩
theorem out_m61t (X V : Int) : (nxt Tryz.prog false (m61t Tryz.prog Wg (z :: zs) X V)).status = .running ∧ ∀ w, stepG Tryz.prog false (nxt Tryz.prog false (m61t Tryz.prog Wg (z :: zs) X V)) w = .go (back z zs) w #[] := ⟨by kernel_rfl, fun w => by kernel_rfl⟩
theorem out_p3 : (nxt Tryz.prog false (p3 Tryz.prog Wg (z :: zs))).status = .running ∧ ∀ w, stepG Tryz.prog false (nxt Tryz.prog false (p3 Tryz.prog Wg (z :: zs))) w = .go (back z zs) w #[] := ⟨by kernel_rfl, fun w => by kernel_rfl⟩
variable {Wg z zs}
theorem quits_out {g : Goroutine} {q : Nat} (h1 : g.status = .running) (h2 : ∀ w, stepG Tryz.prog false g w = .go (nxt Tryz.prog false g) w #[mk .enable]) (h3 : (nxt Tryz.prog false g).status = .running ∧ ∀ w, stepG Tryz.prog false (nxt Tryz.prog false g) w = .go (back z zs) w #[]) (hT : QuitsD Tryz.prog q 0 (back z zs)) : QuitsD Tryz.prog (q + 2) 1 g :=
  QuitsD.said (mk .enable) rfl h1 h2 (QuitsD.ctl h3.1 h3.2 hT)
theorem fdivK (v wt : Nat) (h : wt ≤ 1) : ((v : Int) * KK + (wt : Int)).fdiv 4294967296 = v := by
  show ((v : Int) * 4294967296 + (wt : Int)).fdiv 4294967296 = v
  rw [Int.fdiv_eq_ediv_of_nonneg _ (by decide)]
  omega
theorem wrap32 (v : Nat) (h : v ≤ 16) : IntKind.i32.wrap (v : Int) = v := by
  rw [IntKind.wrap_i32]
  omega
theorem wk_sym {main : Bool} {K : World → Prop} {Ok : Event → Prop} {Stop : Goroutine → Prop} {n : Nat} {g : Goroutine} {v : Value} (hr : g.status = .running) (h : ∀ w, stepG Tryz.prog main g w = .go (fin g v) w #[]) (hn : Wk Tryz.prog main K Ok Stop n (fin g v)) : Wk Tryz.prog main K Ok Stop (n + 1) g := Wk.step hr (fun w _ => h w) (fun e he => by simp at he) hn
theorem run_m1 (cs : List Frame) (X V : Int) : (m1 Tryz.prog Wg cs X).status = .running ∧ (m2 Tryz.prog Wg cs X).status = .running ∧ (m3 Tryz.prog Wg cs X V).status = .running := ⟨by kernel_rfl, by kernel_rfl, by kernel_rfl⟩
theorem run_m4 (cs : List Frame) (X V : Int) : (m40 Tryz.prog Wg cs X V).status = .running ∧ (m41 Tryz.prog Wg cs X V).status = .running ∧ (m50 Tryz.prog Wg cs X V).status = .running ∧ (m51 Tryz.prog Wg cs X V).status = .running := ⟨by kernel_rfl, by kernel_rfl, by kernel_rfl, by kernel_rfl⟩
theorem wk_m3 {K : World → Prop} {Ok : Event → Prop} {Stop : Goroutine → Prop} {k : Nat} (v wt : Nat) (hv : v ≤ 16) (hwt : wt ≤ 1) (cs : List Frame)
    (h : Wk Tryz.prog false K Ok Stop k (fin (m3 Tryz.prog Wg cs (v * KK + wt) v) (.int .u64 wt))) : Wk Tryz.prog false K Ok Stop (k + 1 + 5 + 1 + 1 + 11 + 1 + 10) (m0 Tryz.prog Wg cs (v * KK + wt)) := by
  have hf : bits .and .u64 ((v : Int) * KK + (wt : Int)) 2147483648 = 0 := st_flag v wt (by omega) hwt
  have hw : bits .and .u64 ((v : Int) * KK + (wt : Int)) 2147483647 = (wt : Int) := st_waiters v wt (by omega) hwt
  have hd := fdivK v wt hwt
  generalize (v : Int) * KK + (wt : Int) = X at *
  have r := run_m1 (Wg := Wg) cs X (v : Int)
  have a3 : Wk Tryz.prog false K Ok Stop (k + 1) (m3 Tryz.prog Wg cs X v) := wk_sym r.2.2 (fun w => by
    have := sym_m3 Wg cs X v w
    rw [hw] at this
    exact this) h
  have a2 := Wk.sil 5 _ (sil_m3 Wg cs X (v : Int)) a3
  have a1 : Wk Tryz.prog false K Ok Stop (k + 1 + 5 + 1 + 1) (m2 Tryz.prog Wg cs X) := wk_sym r.2.1 (v := .int .u64 v) (fun w => by
    have := sym_m2 Wg cs X w
    rw [hd] at this
    exact this) (wk_sym (g := fin (m2 Tryz.prog Wg cs X) (.int .u64 v)) rfl (fun w => by
    have := sym_m2b Wg cs X v w
    rw [wrap32 v hv] at this
    exact this) a2)
  have a0 := Wk.sil 11 _ (sil_m2 Wg cs X) a1
  have b1 : Wk Tryz.prog false K Ok Stop (k + 1 + 5 + 1 + 1 + 11 + 1) (m1 Tryz.prog Wg cs X) := wk_sym r.1 (fun w => by
    have := sym_m1 Wg cs X w
    rw [hf] at this
    exact this) a0
  exact Wk.sil 10 _ (sil_m0 Wg cs X) b1
end
end Go.Proofs.YtaablbmgagiajabGreatDoor.Ren
