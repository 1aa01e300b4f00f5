import Derived.Great.BuildSlice
import Derived.Test.YtaablbmgagiajabGreatDoorSGBD
namespace Go.Proofs.YtaablbmgagiajabGreatDoor
open Go.RowKit Go.Deep
variable {N win : Nat} {c : DkC} {D : SC} {L : RC} {S : SY}
set_option maxHeartbeats 4000000 in
set_option maxRecDepth 100000 in
theorem see_ord (V : World) (b off cp k : Nat) (x y : Int) (h : DkIs V N c D L win S) (hk : k < 3) (hr : Row V b off [(k : Int), x, y]) :
    Calls Tryz.prog 154 #[.pointer (some ⟨c.d, 0, none⟩), .slice (some ⟨b, off, none⟩) 3 cp] V fun e V' => e = .returned (.string (txt [115, 101, 101])) ∧ SyGo V V' N D L win (seeSy k x y S) := by
  have c3 := h.c3
  have r0 : V.cell? ⟨b, off, none⟩ = some (.int .i64 (k : Int)) := hr 0 (by simp)
  have r1 : V.cell? ⟨b, off + 1, none⟩ = some (.int .i64 x) := hr 1 (by simp)
  have r2 : V.cell? ⟨b, off + 2, none⟩ = some (.int .i64 y) := hr 2 (by simp)
  have HC : Hid (Calls Tryz.prog 18 #[.pointer (some ⟨D.p, 0, none⟩), .int .i64 (k : Int), .agg #[.int .i64 x, .int .i64 y]] V.drew fun e w' => e = .returned .nilIface ∧ Hid (SyGo V w' N D L win (seeSy k x y S))) := hide (by
    refine (sysee_any N D L win S V.drew k x y hk (h.sys.below (Below.refl _ _).drew)).mono ?_
    rintro e w' ⟨rfl, hg⟩
    exact ⟨rfl, hide (hg.pre (Below.refl _ _).drew)⟩)
  clear h hr
  go_enter Tryz.func154, Tryz.ntmps154
  go_wp2
  go_region_with (first | (go_at_call 18; refine HC.out.mono ?_; rintro e w1 ⟨rfl, hg⟩) | (go_at_call 159; refine (throw_nil _).mono ?_; rintro e w2 ⟨rfl, rfl⟩))
  all_goals
    go_wp2
    go_ret
    exact ⟨rfl, hg.out⟩
set_option maxHeartbeats 4000000 in
set_option maxRecDepth 100000 in
theorem calm_ord {W : Seen} {liar T : Nat} (V : World) (b off cp n : Nat) (h : DkIs V N c D L win S) (hn : n ≤ 100) (hr : Row V b off [(n : Int)]) (hI : ClInv L W liar win T S) (hL : LOk L) (hT : T + 6 * n < 700000) :
    Calls Tryz.prog 144 #[.pointer (some ⟨c.d, 0, none⟩), .slice (some ⟨b, off, none⟩) 1 cp] V fun e V' => e = .returned (.string (txt [99, 97, 108, 109])) ∧ ∃ S', calmTo L win n S S' ∧ ClInv L W liar win (T + 6 * n) S' ∧ SyGo V V' N D L win S' := by
  have c3 := h.c3
  have r0 : V.cell? ⟨b, off, none⟩ = some (.int .i64 (n : Int)) := hr 0 (by simp)
  have HC : Hid (Calls Tryz.prog 16 #[.pointer (some ⟨D.p, 0, none⟩), .int .i64 (n : Int)] V.drew fun e w' => e = .returned (.tuple #[]) ∧ Hid (∃ S', calmTo L win n S S' ∧ ClInv L W liar win (T + 6 * n) S' ∧ SyGo V w' N D L win S')) := hide (by
    refine (calm_any N D L win S V.drew n (h.sys.below (Below.refl _ _).drew) hI hL (by omega) (by omega) h.le).mono ?_
    rintro e w' ⟨rfl, S', h1, h2, hg⟩
    exact ⟨rfl, hide ⟨S', h1, h2, hg.pre (Below.refl _ _).drew⟩⟩)
  have t1 : decide ((n : Int) < 0) = false := decide_eq_false (by omega)
  have t2 : decide (100 < (n : Int)) = false := decide_eq_false (by omega)
  have t3 : ¬ (n : Int) < 0 := by omega
  have t4 : ¬ 100 < (n : Int) := by omega
  have t5 : ¬ 100 < n := by omega
  clear h hr hI hT hn
  go_enter Tryz.func144, Tryz.ntmps144
  go_wp2
  go_region_with (go_at_call 16; refine HC.out.mono ?_; rintro e w1 ⟨rfl, hg⟩)
  all_goals
    go_wp2
    go_ret
    exact ⟨rfl, hg.out⟩
end Go.Proofs.YtaablbmgagiajabGreatDoor
