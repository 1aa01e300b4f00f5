import Derived.Test.YtonkapgbcnkjcaaGreatDoorGAL
import Derived.Deep.RegionHeld
import Derived.Test.YtonkapgbcnkjcaaGreatDoorVtDone
import Derived.Lib.SliceRun
/- What is seen while rounds go by: plain facts. -/
namespace Go.Proofs.YtonkapgbcnkjcaaGreatDoor
open Go.RowKit Go.Deep

/-- What each sees was seen, from its cycle on. -/
def CSeen (L : RC) (W : Seen) (liar : Nat) (S : SY) : Prop := ∀ k, k < 3 → k ≠ liar → ∀ n : Nat, (S.rp k).cycle ≤ n → SeenN W k n (fitN L.s (S.rp k).sx) (fitN L.n (S.rp k).sy)
structure ClInv (L : RC) (W : Seen) (liar win T : Nat) (S : SY) : Prop where
  inv : SInv L W liar win T S
  seen : CSeen L W liar S
section
variable {L : RC} {W : Seen} {liar win T n k : Nat} {S : SY}
theorem takeS_sees (F : FR) (R : RS) : (takeS L F R).sx = R.sx ∧ (takeS L F R).sy = R.sy := by
  unfold takeS
  split
  · unfold doneR
    split
    · exact ⟨rfl, rfl⟩
    · split <;> exact ⟨rfl, rfl⟩
  · split
    · exact ⟨rfl, rfl⟩
    · split
      · exact ⟨rfl, rfl⟩
      · split
        · exact ⟨rfl, rfl⟩
        · split
          · unfold learnR
            split <;> exact ⟨rfl, rfl⟩
          · exact ⟨rfl, rfl⟩
theorem CSeen.arrive (h : CSeen L W liar S) (i : Nat) : CSeen L W liar (arriveSy L win i S) := by
  intro k hk hl n hn
  have key : (S.rp k).cycle ≤ ((arriveSy L win i S).rp k).cycle ∧ ((arriveSy L win i S).rp k).sx = (S.rp k).sx ∧ ((arriveSy L win i S).rp k).sy = (S.rp k).sy := by
    unfold arriveSy comeSy
    split
    · exact ⟨Int.le_refl _, rfl, rfl⟩
    · split
      · exact ⟨Int.le_refl _, rfl, rfl⟩
      · show (S.rp k).cycle ≤ (upd S.rp _ _ k).cycle ∧ (upd S.rp _ _ k).sx = _ ∧ (upd S.rp _ _ k).sy = _
        by_cases e : k = (pkAt S.net i).dst
        · rw [← e, upd_same]; exact ⟨takeS_cycle _ _, takeS_sees _ _⟩
        · rw [upd_other _ _ e]; exact ⟨Int.le_refl _, rfl, rfl⟩
  rw [key.2.1, key.2.2]
  exact h k hk hl n (Int.le_trans key.1 hn)
theorem ClInv.runAll (hL : LOk L) : ∀ (m : Nat) (S : SY), ClInv L W liar win T S → ClInv L W liar win T (runAll L win m S)
  | 0, _, h => h
  | m + 1, S, h => by
    cases hnet : S.net with
    | nil => rw [runAll_nil hnet]; exact h
    | cons p l => exact ClInv.runAll hL m _ ⟨(h.inv.arrive hL (by rw [hnet]; simp)).1, h.seen.arrive 0⟩
theorem ClInv.tick (h : ClInv L W liar win T S) (hk : k < 3) : ClInv L W liar win (T + 1) (tickSy L k S) := by
  obtain ⟨n, c1, _⟩ := (h.inv.rp k hk).cyc
  refine ⟨h.inv.tick hk c1 fun hl => h.seen k hk hl n (by omega), fun j hj hl n hn => ?_⟩
  have key : ((tickSy L k S).rp j).cycle = (S.rp j).cycle ∧ ((tickSy L k S).rp j).sx = (S.rp j).sx ∧ ((tickSy L k S).rp j).sy = (S.rp j).sy := by
    show (upd S.rp k _ j).cycle = _ ∧ (upd S.rp k _ j).sx = _ ∧ (upd S.rp k _ j).sy = _
    by_cases e : j = k
    · subst e; rw [upd_same]; exact ⟨rfl, rfl, rfl⟩
    · rw [upd_other _ _ e]; exact ⟨rfl, rfl, rfl⟩
  rw [key.2.1, key.2.2]
  exact h.seen j hj hl n (by rw [key.1] at hn; exact hn)
theorem ClInv.vtick (h : ClInv L W liar win T S) : ClInv L W liar win T (vtickSy S) := ⟨h.inv.vtick, h.seen⟩
/-- The first k tick. -/
def tickTo (L : RC) (S : SY) : Nat → SY
  | 0 => S
  | k + 1 => tickSy L k (tickTo L S k)
theorem ClInv.ticks (h : ClInv L W liar win T S) : ∀ k, k ≤ 3 → ClInv L W liar win (T + k) (tickTo L S k)
  | 0, _ => h
  | k + 1, hk => (h.ticks k (by omega)).tick (by omega)
theorem tickTo_three (S : SY) : tickTo L S 3 = ticksSy L S := rfl
/-- So many halves. -/
def halfTo (L : RC) (win : Nat) : Nat → SY → SY → Prop
  | 0, S, S' => S' = S
  | j + 1, S, S' => ∃ S1 m, halfTo L win j S S1 ∧ S' = runAll L win m (ticksSy L S1) ∧ S'.net = []
theorem round_of {m : Nat} {S1 S2 : SY} (hm : (runAll L win m S).net = []) (hh : halfTo L win 2 (runAll L win m S) S2) (e : S1 = vtickSy S2) : roundTo L win S S1 := by
  obtain ⟨A, m2, ⟨B, m1, hB, hA, nA⟩, h2, n2⟩ := hh
  have hB' : B = runAll L win m S := hB
  subst hB'
  subst hA
  subst h2
  exact ⟨m, m1, m2, hm, nA, n2, e⟩
theorem calm_snoc {S' S2 : SY} : ∀ {k : Nat} {S : SY}, calmTo L win k S S' → roundTo L win S' S2 → calmTo L win (k + 1) S S2
  | 0, S, h, hr => by
    have e : S' = S := h
    subst e
    exact ⟨S2, hr, rfl⟩
  | k + 1, S, ⟨A, hA, hk⟩, hr => ⟨A, hA, calm_snoc hk hr⟩
end
end Go.Proofs.YtonkapgbcnkjcaaGreatDoor

/- The contract of a system's Calm. -/
namespace Go.Proofs.YtonkapgbcnkjcaaGreatDoor
open Go.RowKit Go.Deep

theorem SyIs.vt6 {w : World} {N win : Nat} {D : SC} {L : RC} {S : SY} (h : SyIs w N D L win S) : w.cell? ⟨D.p, 6, none⟩ = some (.pointer (some ⟨D.vp, 0, none⟩)) := (h.at 6).trans rfl

set_option maxHeartbeats 4000000 in
set_option maxRecDepth 20000 in
theorem calm_any {W : Seen} {liar T : Nat} (N : Nat) (D : SC) (L : RC) (win : Nat) (S : SY) (w : World) (n : Nat) (h : SyIs w N D L win S) (hI : ClInv L W liar win T S) (hL : LOk L) (hT : T + 6 * n < 700000) (hn : n ≤ 1000) (hN : N ≤ w.heap.size) :
    Calls Tryz.prog 18 #[.pointer (some ⟨D.p, 0, none⟩), .int .i64 (n : Int)] w fun e w' => e = .returned (.tuple #[]) ∧ ∃ S', calmTo L win n S S' ∧ ClInv L W liar win (T + 6 * n) S' ∧ SyGo w w' N D L win S' := by
  have HST : Hid (∃ S', calmTo L win 0 S S' ∧ ClInv L W liar win (T + 6 * 0) S' ∧ SyGo w w N D L win S') := hide ⟨S, rfl, hI, h.goes⟩
  have HL := hide hL
  -- all comes
  have hall : ∀ (wr : World) (S' : SY) (T' : Nat), T' < 800000 → ClInv L W liar win T' S' → SyGo w wr N D L win S' → Calls Tryz.prog 48 #[.pointer (some ⟨D.p, 0, none⟩)] wr fun e w' => e = .returned (.tuple #[]) ∧ Hid (∃ m, (runAll L win m S').net = [] ∧ ClInv L W liar win T' (runAll L win m S') ∧ SyGo w w' N D L win (runAll L win m S')) := by
    intro wr S' T' hT' hI' hg
    obtain ⟨D1, hp1, hS1, hm1, hg1⟩ := hg
    obtain ⟨m, hm⟩ := hI'.inv.ends HL.out
    have hc := arriveAll_any N D1 L win S' wr m hS1 hI'.inv HL.out hT' (Nat.le_trans hN hm1.size) hm
    rw [hp1] at hc
    refine hc.mono ?_
    rintro e w2 ⟨rfl, hg⟩
    exact ⟨rfl, hide ⟨m, hm, ClInv.runAll HL.out m S' hI', SyGo.then hp1 hm1 hg1 hg⟩⟩
  -- one ticks
  have htick : ∀ (wr : World) (S' : SY) (T' k : Nat), k < 3 → T' < 800000 → ClInv L W liar win T' S' → SyGo w wr N D L win S' → Calls Tryz.prog 49 #[.pointer (some ⟨D.p, 0, none⟩), .int .i64 (k : Int)] wr fun e w' => e = .returned (.tuple #[]) ∧ Hid (ClInv L W liar win (T' + 1) (tickSy L k S') ∧ SyGo w w' N D L win (tickSy L k S')) := by
    intro wr S' T' k hk hT' hI' hg
    obtain ⟨D1, hp1, hS1, hm1, hg1⟩ := hg
    obtain ⟨hok, _⟩ := (hI'.inv.rp k hk).ok hk HL.out hT' hI'.inv.vok.few
    have hc := tickRep_any N D1 L win S' wr k hk hS1 hok (hI'.inv.rp k hk).id (Nat.le_trans hN hm1.size) hI'.inv.many
    rw [hp1] at hc
    refine hc.mono ?_
    rintro e w2 ⟨rfl, hg⟩
    exact ⟨rfl, hide ⟨hI'.tick hk, SyGo.then hp1 hm1 hg1 hg⟩⟩
  -- the voter's tick
  have hvt : ∀ (wr : World) (S' : SY) (T' : Nat), ClInv L W liar win T' S' → SyGo w wr N D L win S' → ∃ vp : Nat, wr.cell? ⟨D.p, 6, none⟩ = some (.pointer (some ⟨vp, 0, none⟩)) ∧ Hid (Calls Tryz.prog 50 #[.pointer (some ⟨vp, 0, none⟩)] wr fun e w' => e = .returned (.tuple #[]) ∧ SyGo w w' N D L win (vtickSy S')) := by
    intro wr S' T' hI' hg
    obtain ⟨D1, hp1, hS1, hm1, hg1⟩ := hg
    refine ⟨D1.vp, by rw [← hp1]; exact hS1.vt6, hide ?_⟩
    refine (tick_any N D1.vp win D1.tv S'.v wr hS1.vt hI'.inv.vok).mono ?_
    rintro e w2 ⟨rfl, hV, hm⟩
    exact ⟨rfl, SyGo.then hp1 hm1 hg1 (hS1.putV hm hV (Moved.refl _ _))⟩
  have HALL := hide hall
  have HTK := hide htick
  have HVT := hide hvt
  clear hall htick hvt h hI hL
  go_enter Tryz.func18, Tryz.ntmps18
  go_wp2_with fail
  go_loopw [6] (fun j wr => ∃ k : Nat, k ≤ n ∧ j = .int .i64 k ∧ ∃ S', calmTo L win k S S' ∧ ClInv L W liar win (T + 6 * k) S' ∧ SyGo w wr N D L win S') (fun j _ => n - (intOf j).toNat)
  case atStart => exact ⟨0, by omega, rfl, HST.out⟩
  case round =>
    obtain ⟨k, hk, rfl, S', hcal, hI', hgo⟩ := hrel
    clear HST
    by_cases hkn : k < n
    · have hk' : (k : Int) < (n : Int) := by omega
      have HC1 := hide (HALL.out wr S' (T + 6 * k) (by omega) hI' hgo)
      have HCAL := hide hcal
      clear hcal hI' hgo
      go_wp2_with fail
      refine HC1.out.mono ?_
      rintro e w1 ⟨rfl, HG1⟩
      clear HC1
      obtain ⟨m0, hm0, hI0, hg0⟩ := HG1.out
      obtain ⟨S0, hS0⟩ : ∃ S0, Hid (runAll L win m0 S' = S0) := ⟨_, hide rfl⟩
      rw [hS0.out] at hm0 hI0 hg0
      have HM0 := hide hm0
      have HS2 : Hid (∃ S2, halfTo L win 0 S0 S2 ∧ ClInv L W liar win (T + 6 * k + 3 * 0) S2 ∧ SyGo w w1 N D L win S2) := hide ⟨S0, rfl, hI0, hg0⟩
      clear HG1 hm0 hI0 hg0
      go_wp2_with fail
      go_loopw [10] (fun j wr => ∃ a : Nat, a ≤ 2 ∧ j = .int .i64 a ∧ ∃ S2, halfTo L win a S0 S2 ∧ ClInv L W liar win (T + 6 * k + 3 * a) S2 ∧ SyGo w wr N D L win S2) (fun j _ => 2 - (intOf j).toNat)
      case atStart => exact ⟨0, by omega, rfl, HS2.out⟩
      case round =>
        obtain ⟨a, ha, rfl, S2, hh, hI2, hg2⟩ := hrel
        clear HS2
        by_cases ha2 : a < 2
        · have ha' : (a : Int) < 2 := by omega
          have HH := hide hh
          have HS3 : Hid (ClInv L W liar win (T + 6 * k + 3 * a + 0) (tickTo L S2 0) ∧ SyGo w wr N D L win (tickTo L S2 0)) := hide ⟨hI2, hg2⟩
          clear hh hI2 hg2
          go_wp2_with fail
          go_loopw [12] (fun j wr => ∃ b : Nat, b ≤ 3 ∧ j = .int .i64 b ∧ ClInv L W liar win (T + 6 * k + 3 * a + b) (tickTo L S2 b) ∧ SyGo w wr N D L win (tickTo L S2 b)) (fun j _ => 3 - (intOf j).toNat)
          case atStart => exact ⟨0, by omega, rfl, HS3.out⟩
          case round =>
            obtain ⟨b, hb, rfl, hI3, hg3⟩ := hrel
            clear HS3
            by_cases hb3 : b < 3
            · have hb' : (b : Int) < 3 := by omega
              have HC3 := hide (HTK.out wr (tickTo L S2 b) (T + 6 * k + 3 * a + b) b hb3 (by omega) hI3 hg3)
              clear hI3 hg3
              go_wp2_with fail
              refine HC3.out.mono ?_
              rintro e w3 ⟨rfl, HG3⟩
              clear HC3
              go_wp2
              go_roundw
              case rel => exact ⟨b + 1, by omega, by go_num, HG3.out⟩
              case measure => simp [intOf]; omega
            · have e3 : b = 3 := by omega
              subst e3
              have HC4 := hide (HALL.out wr (tickTo L S2 3) (T + 6 * k + 3 * a + 3) (by omega) hI3 hg3)
              clear hI3 hg3
              go_wp2_with fail
              refine HC4.out.mono ?_
              rintro e w4 ⟨rfl, HG4⟩
              clear HC4
              go_wp2
              go_roundw
              case rel =>
                obtain ⟨m, hm, hI4, hg4⟩ := HG4.out
                exact ⟨a + 1, by omega, by go_num, _, ⟨S2, m, HH.out, rfl, hm⟩, hI4, hg4⟩
              case measure => simp [intOf]; omega
        · have e2 : a = 2 := by omega
          subst e2
          obtain ⟨vp, cv, HV⟩ := HVT.out wr S2 _ hI2 hg2
          have HEND : Hid (calmTo L win (k + 1) S (vtickSy S2) ∧ ClInv L W liar win (T + 6 * k + 3 * 2) (vtickSy S2)) := hide ⟨calm_snoc HCAL.out (round_of (m := m0) (S2 := S2) (by rw [hS0.out]; exact HM0.out) (by rw [hS0.out]; exact hh) rfl), hI2.vtick⟩
          clear hh hI2 hg2
          go_wp2_with fail
          refine HV.out.mono ?_
          rintro e w5 ⟨rfl, hg5⟩
          go_wp2
          go_roundw
          case rel => exact ⟨k + 1, by omega, by go_num, _, HEND.out.1, HEND.out.2, hg5⟩
          case measure => simp [intOf]; omega
    · have e3 : k = n := by omega
      have hk' : ¬ (k : Int) < (n : Int) := by omega
      have HE : Hid (∃ S', calmTo L win n S S' ∧ ClInv L W liar win (T + 6 * n) S' ∧ SyGo w wr N D L win S') := hide (by rw [← e3]; exact ⟨S', hcal, hI', hgo⟩)
      clear hcal hI' hgo e3
      go_wp2
      go_end0
      exact ⟨rfl, HE.out⟩
end Go.Proofs.YtonkapgbcnkjcaaGreatDoor

/- The contracts of a system's See, Tick, Asks, Deliver, Lose, Twice, Latch, Many. -/
namespace Go.Proofs.YtonkapgbcnkjcaaGreatDoor
open Go.RowKit Go.Deep

section
variable {W : Seen} {liar T : Nat}
theorem many_any (N : Nat) (D : SC) (L : RC) (win : Nat) (S : SY) (w : World) (h : SyIs w N D L win S) :
    Calls Tryz.prog 23 #[.pointer (some ⟨D.p, 0, none⟩)] w fun e w' => e = .returned (.int .i64 (S.net.length : Int)) ∧ w' = w := by
  obtain ⟨a, cap, c7⟩ := h.net7
  clear h
  go_enter Tryz.func23, Tryz.ntmps23
  go_wp2
  go_ret
  exact ⟨rfl, rfl⟩
theorem sylatch_any (N : Nat) (D : SC) (L : RC) (win : Nat) (S : SY) (w : World) (h : SyIs w N D L win S) :
    Calls Tryz.prog 34 #[.pointer (some ⟨D.p, 0, none⟩)] w fun e w' => e = .returned (.tuple #[]) ∧ SyGo w w' N D L win (latchSy S) := by
  have c6 := h.vt6
  have HC : Hid (Calls Tryz.prog 66 #[.pointer (some ⟨D.vp, 0, none⟩)] w fun e w' => e = .returned (.tuple #[]) ∧ SyGo w w' N D L win (latchSy S)) := hide (by
    refine (latch_any N D.vp win D.tv S.v w h.vt).mono ?_
    rintro e w2 ⟨rfl, hV, hm⟩
    exact ⟨rfl, h.putV hm hV (Moved.refl _ _)⟩)
  clear h
  go_enter Tryz.func34, Tryz.ntmps34
  go_wp2_with fail
  refine HC.out.mono ?_
  rintro e w2 ⟨rfl, hg⟩
  go_wp2
  go_end0
  exact ⟨rfl, hg⟩
theorem isRep_lt {k : Nat} (hk : k < 3) : isRep (k : Int) = true := by unfold isRep; simp; omega
theorem sytick_any (N : Nat) (D : SC) (L : RC) (win : Nat) (S : SY) (w : World) (k : Nat) (hk : k < 3) (h : SyIs w N D L win S) (hI : SInv L W liar win T S) (hL : LOk L) (hT : T < 800000) (hN : N ≤ w.heap.size) :
    Calls Tryz.prog 25 #[.pointer (some ⟨D.p, 0, none⟩), .int .i64 (k : Int)] w fun e w' => e = .returned .nilIface ∧ SyGo w w' N D L win (tickSy L k S) := by
  obtain ⟨hok, _⟩ := (hI.rp k hk).ok hk hL hT hI.vok.few
  have HC := hide (tickRep_any N D L win S w k hk h hok (hI.rp k hk).id hN hI.many)
  have HR := hide (sysRep_any (k : Int) w)
  rw [isRep_lt hk] at HR
  clear h hI hok
  go_enter Tryz.func25, Tryz.ntmps25
  go_wp2_with fail
  refine HR.out.mono ?_
  rintro e wz ⟨rfl, rfl⟩
  go_wp2_with fail
  refine HC.out.mono ?_
  rintro e w2 ⟨rfl, hg⟩
  go_wp2
  go_ret
  exact ⟨rfl, hg⟩
theorem sytick3_any (N : Nat) (D : SC) (L : RC) (win : Nat) (S : SY) (w : World) (h : SyIs w N D L win S) (hok : VOk win S.v) :
    Calls Tryz.prog 25 #[.pointer (some ⟨D.p, 0, none⟩), .int .i64 3] w fun e w' => e = .returned .nilIface ∧ SyGo w w' N D L win (vtickSy S) := by
  have HR := hide (sysRep_any 3 w)
  rw [show isRep 3 = false from rfl] at HR
  have c6 := h.vt6
  have HC : Hid (Calls Tryz.prog 50 #[.pointer (some ⟨D.vp, 0, none⟩)] w fun e w' => e = .returned (.tuple #[]) ∧ SyGo w w' N D L win (vtickSy S)) := hide (by
    refine (tick_any N D.vp win D.tv S.v w h.vt hok).mono ?_
    rintro e w2 ⟨rfl, hV, hm⟩
    exact ⟨rfl, h.putV hm hV (Moved.refl _ _)⟩)
  clear h hok
  go_enter Tryz.func25, Tryz.ntmps25
  go_wp2_with fail
  refine HR.out.mono ?_
  rintro e wz ⟨rfl, rfl⟩
  go_wp2_with fail
  refine HC.out.mono ?_
  rintro e w2 ⟨rfl, hg⟩
  go_wp2
  go_ret
  exact ⟨rfl, hg⟩
theorem syasks_any (N : Nat) (D : SC) (L : RC) (win : Nat) (S : SY) (w : World) (k : Nat) (hk : k < 3) (h : SyIs w N D L win S) (hI : SInv L W liar win T S) (hN : N ≤ w.heap.size) :
    Calls Tryz.prog 26 #[.pointer (some ⟨D.p, 0, none⟩), .int .i64 (k : Int)] w fun e w' => e = .returned .nilIface ∧ SyGo w w' N D L win (asksSy k S) := by
  have HR := hide (sysRep_any (k : Int) w)
  rw [isRep_lt hk] at HR
  have hk' : (k : Int) < 3 := by omega
  have cr := h.rpAt hk
  have hid := (hI.rp k hk).id
  have HC : Hid (Calls Tryz.prog 54 #[.pointer (some ⟨D.rp k, 0, none⟩)] w fun e w1 => e = .returned (.agg (fCells (asksR (S.rp k)))) ∧ Hid (Calls Tryz.prog 53 #[.pointer (some ⟨D.p, 0, none⟩), .agg (fCells (asksR (S.rp k)))] w1 fun e w' => e = .returned (.tuple #[]) ∧ SyGo w w' N D L win (asksSy k S))) := hide (by
    refine (asks_any (D.rp k) (D.C k) (S.rp k) w (h.rp k hk)).mono ?_
    rintro e w1 ⟨rfl, hB⟩
    refine ⟨rfl, hide ?_⟩
    refine (sendOthers_any N D L win S w1 (asksR (S.rp k)) k (h.below hB) (by show ((S.rp k).id : Int) = _; rw [hid]) (Nat.le_trans hN hB.size) hI.many).mono ?_
    rintro e w2 ⟨rfl, hg⟩
    exact ⟨rfl, hg.pre hB⟩)
  clear h hI
  go_enter Tryz.func26, Tryz.ntmps26
  go_wp2_with fail
  refine HR.out.mono ?_
  rintro e wz ⟨rfl, rfl⟩
  go_wp2_with fail
  refine HC.out.mono ?_
  rintro e w1 ⟨rfl, HS⟩
  go_wp2_with fail
  refine HS.out.mono ?_
  rintro e w2 ⟨rfl, hg⟩
  go_wp2
  go_ret
  exact ⟨rfl, hg⟩

/-- Of the i-th: what Deliver, Lose, Twice do. -/
theorem deliver_any (N : Nat) (D : SC) (L : RC) (win : Nat) (S : SY) (w : World) (i : Nat) (h : SyIs w N D L win S) (hI : SInv L W liar win T S) (hL : LOk L) (hT : T < 800000) (hN : N ≤ w.heap.size) :
    Calls Tryz.prog 27 #[.pointer (some ⟨D.p, 0, none⟩), .int .i64 (i : Int)] w fun e w' => (∃ v, e = .returned v) ∧ SyGo w w' N D L win (if i < S.net.length then arriveSy L win i S else S) := by
  have HR := hide (underWay_any N D L win S w i h)
  by_cases hi : i < S.net.length
  · rw [decide_eq_true hi] at HR
    rw [if_pos hi]
    have HC := hide (arrive_any N D L win S w i h hI hL hT hi hN)
    clear h hI
    go_enter Tryz.func27, Tryz.ntmps27
    go_wp2_with fail
    refine HR.out.mono ?_
    rintro e wz ⟨rfl, rfl⟩
    go_wp2_with fail
    refine HC.out.mono ?_
    rintro e w2 ⟨rfl, hg⟩
    go_wp2
    go_ret
    exact ⟨⟨_, rfl⟩, hg⟩
  · rw [decide_eq_false hi] at HR
    rw [if_neg hi]
    have HG := hide h.goes
    clear h hI
    go_enter Tryz.func27, Tryz.ntmps27
    go_wp2_with fail
    refine HR.out.mono ?_
    rintro e wz ⟨rfl, rfl⟩
    go_wp2
    go_ret
    exact ⟨⟨_, rfl⟩, HG.out⟩
theorem lose_any (N : Nat) (D : SC) (L : RC) (win : Nat) (S : SY) (w : World) (i : Nat) (h : SyIs w N D L win S) (hle : S.net.length ≤ 120) :
    Calls Tryz.prog 28 #[.pointer (some ⟨D.p, 0, none⟩), .int .i64 (i : Int)] w fun e w' => (∃ v, e = .returned v) ∧ SyGo w w' N D L win (if i < S.net.length then outSy i S else S) := by
  have HR := hide (underWay_any N D L win S w i h)
  by_cases hi : i < S.net.length
  · rw [decide_eq_true hi] at HR
    rw [if_pos hi]
    have HC := hide (remove_any N D L win S w i h hi hle)
    clear h
    go_enter Tryz.func28, Tryz.ntmps28
    go_wp2_with fail
    refine HR.out.mono ?_
    rintro e wz ⟨rfl, rfl⟩
    go_wp2_with fail
    refine HC.out.mono ?_
    rintro e w2 ⟨rfl, hg⟩
    go_wp2
    go_ret
    exact ⟨⟨_, rfl⟩, hg⟩
  · rw [decide_eq_false hi] at HR
    rw [if_neg hi]
    have HG := hide h.goes
    clear h
    go_enter Tryz.func28, Tryz.ntmps28
    go_wp2_with fail
    refine HR.out.mono ?_
    rintro e wz ⟨rfl, rfl⟩
    go_wp2
    go_ret
    exact ⟨⟨_, rfl⟩, HG.out⟩
set_option maxHeartbeats 1000000 in
set_option maxRecDepth 20000 in
theorem twice_any (N : Nat) (D : SC) (L : RC) (win : Nat) (S : SY) (w : World) (i : Nat) (h : SyIs w N D L win S) (hle : S.net.length ≤ 120) (hN : N ≤ w.heap.size) :
    Calls Tryz.prog 29 #[.pointer (some ⟨D.p, 0, none⟩), .int .i64 (i : Int)] w fun e w' => (∃ v, e = .returned v) ∧ SyGo w w' N D L win (if i < S.net.length then putSy (pkAt S.net i) S else S) := by
  have HR := hide (underWay_any N D L win S w i h)
  by_cases hi : i < S.net.length
  · rw [decide_eq_true hi] at HR
    rw [if_pos hi]
    have hi' : (i : Int) < (S.net.length : Int) := by omega
    obtain ⟨g, cap, hnv⟩ := h.netHas (by omega)
    have hrg := h.pkRange hnv hi
    have hby := h.bytes hi
    have hput := syput_any N D L win S w (pkAt S.net i) _ h hby hN hle
    have c7 : w.cell? ⟨D.p, 7, none⟩ = some (.slice (some ⟨g, 0, none⟩) S.net.length cap) := (h.at 7).trans (by show some D.nv = _; rw [hnv])
    obtain ⟨q, hq⟩ : ∃ q, Hid (pkAt S.net i = q) := ⟨_, hide rfl⟩
    obtain ⟨u, hu⟩ : ∃ u, Hid (D.us[i]?.getD undef = u) := ⟨_, hide rfl⟩
    rw [hq.out, hu.out] at hrg hput
    rw [hq.out]
    have HC := hide hput
    have HRG := hide hrg
    clear h hput hrg hby hnv
    go_enter Tryz.func29, Tryz.ntmps29
    go_wp2_with fail
    refine HR.out.mono ?_
    rintro e wz ⟨rfl, rfl⟩
    go_wp2_with (refine wpList_load_mid rfl 103 _ rfl g (i * 3) rfl _ _ HRG.out Tryz.underlying103 rfl (by rw [infoPacket3]; rfl) ?_)
    refine HC.out.mono ?_
    rintro e w2 ⟨rfl, hg⟩
    go_wp2
    go_ret
    exact ⟨⟨_, rfl⟩, hg⟩
  · rw [decide_eq_false hi] at HR
    rw [if_neg hi]
    have HG := hide h.goes
    clear h
    go_enter Tryz.func29, Tryz.ntmps29
    go_wp2_with fail
    refine HR.out.mono ?_
    rintro e wz ⟨rfl, rfl⟩
    go_wp2
    go_ret
    exact ⟨⟨_, rfl⟩, HG.out⟩
end
end Go.Proofs.YtonkapgbcnkjcaaGreatDoor

/- The contract of a system's See. -/
namespace Go.Proofs.YtonkapgbcnkjcaaGreatDoor
open Go.RowKit Go.Deep

set_option maxHeartbeats 1000000 in
set_option maxRecDepth 20000 in
theorem sysee_any (N : Nat) (D : SC) (L : RC) (win : Nat) (S : SY) (w : World) (k : Nat) (x y : Int) (hk : k < 3) (h : SyIs w N D L win S) :
    Calls Tryz.prog 17 #[.pointer (some ⟨D.p, 0, none⟩), .int .i64 (k : Int), .agg #[.int .i64 x, .int .i64 y]] w fun e w' => e = .returned .nilIface ∧ SyGo w w' N D L win (seeSy k x y S) := by
  obtain ⟨W, hW⟩ : ∃ W, Hid (w.alloc (.cells #[.int .i64 x, .int .i64 y] 30) = W) := ⟨_, hide rfl⟩
  have hB0 : Below w.heap.size w W := by rw [← hW.out]; exact (Below.refl _ _).alloc (Nat.le_refl _) _
  have hbx : W.heap[w.heap.size]? = some (.cells #[.int .i64 x, .int .i64 y] 30 (0, 0)) := by rw [← hW.out]; exact blk_new _ _
  have HR := hide (sysRep_any (k : Int) W)
  rw [isRep_lt hk] at HR
  have hk' : (k : Int) < 3 := by omega
  have hS := h.below hB0
  have cr := hS.rpAt hk
  have x0 : W.cell? ⟨w.heap.size, 0, none⟩ = some (.int .i64 x) := (blk_cell hbx 0).trans rfl
  have x1 : W.cell? ⟨w.heap.size, 1, none⟩ = some (.int .i64 y) := (blk_cell hbx 1).trans rfl
  have HC : Hid (Calls Tryz.prog 47 #[.pointer (some ⟨D.rp k, 0, none⟩), .agg #[.int .i64 x, .int .i64 y]] W.drew fun e w' => e = .returned (.tuple #[]) ∧ SyGo w w' N D L win (seeSy k x y S)) := hide (by
    refine (see_any (D.rp k) (D.C k) (S.rp k) x y W.drew (hS.drew.rp k hk)).mono ?_
    rintro e w2 ⟨rfl, hR, hm⟩
    obtain ⟨h1, h2⟩ := hS.drew.putR hk hm hR
    exact ⟨rfl, SyGo.pre ⟨D, rfl, h1, h2, Gr.refl _ _⟩ (hB0.drew)⟩)
  clear h hS hbx hB0
  go_enter Tryz.func17, Tryz.ntmps17
  go_wp2_with fail
  rw [show w.alloc (.cells #[.int .i64 x, .int .i64 y] 30) = W from hW.out]
  refine HR.out.mono ?_
  rintro e wz ⟨rfl, rfl⟩
  go_wp2_with fail
  go_region_with ((go_at_call 47; refine HC.out.mono ?_; rintro e w2 ⟨rfl, hg⟩))
  all_goals
    go_wp2
    go_ret
    exact ⟨rfl, hg⟩
end Go.Proofs.YtonkapgbcnkjcaaGreatDoor

/- The contract of a system's Replica. -/
namespace Go.Proofs.YtonkapgbcnkjcaaGreatDoor
open Go.RowKit Go.Deep

theorem results_mid {P : Program} {f : Func} {tmps : Array Value} {w : World} {a b k : Tmp} {t : TypeId} {ad : Addr} {v : Value} (hf : f.results = #[.tmp a, .cell b t, .tmp k]) (hb : tmps.getD b undef = .pointer (some ad)) (hl : (loadVar t ad).run P w = .ok v w) :
    (results f tmps).run P w = .ok (.tuple #[tmps.getD a undef, v, tmps.getD k undef]) w := by
  have hb' : tmps[b]?.getD undef = .pointer (some ad) := by simpa using hb
  simp only [results, hf]
  simp [asAddr, hb', hl]

set_option maxHeartbeats 2000000 in
set_option maxRecDepth 20000 in
theorem sreplica_any (N : Nat) (D : SC) (L : RC) (win : Nat) (S : SY) (w : World) (k : Nat) (hk : k < 3) (h : SyIs w N D L win S) :
    Calls Tryz.prog 12 #[.pointer (some ⟨D.p, 0, none⟩), .int .i64 (k : Int)] w fun e w' => e = .returned (.tuple #[.int .i64 (S.rp k).cycle, .agg (stCells (S.rp k).st), .nilIface]) ∧ Below w.heap.size w w' := by
  obtain ⟨W, hW⟩ : ∃ W, Hid (w.alloc (.cells (stCells st0) 33) = W) := ⟨_, hide rfl⟩
  have hB0 : Below w.heap.size w W := by rw [← hW.out]; exact (Below.refl _ _).alloc (Nat.le_refl _) _
  have hbx : StIs W w.heap.size st0 := by rw [← hW.out]; exact blk_new _ _
  have HR := hide (sysRep_any (k : Int) W)
  rw [isRep_lt hk] at HR
  have hk' : (k : Int) < 3 := by omega
  have hS := h.below hB0
  have HSS : Hid (∀ wx, Below W.heap.size W wx → wx.cell? ⟨D.p, 3 + k, none⟩ = some (.pointer (some ⟨D.rp k, 0, none⟩)) ∧ ∃ Y, StIs wx w.heap.size Y) := hide fun wx hx => ⟨(hS.below hx).rpAt hk, st0, (hx.block _ (blk_lt hbx)).trans hbx⟩
  have HC1 : Hid (Calls Tryz.prog 38 #[.pointer (some ⟨D.rp k, 0, none⟩)] W.drew fun e w' => e = .returned (.int .i64 (S.rp k).cycle) ∧ w' = W.drew) := hide (cycle_any (D.rp k) (D.C k) (S.rp k) W.drew (hS.drew.rp k hk))
  have HC2 : Hid (Calls Tryz.prog 39 #[.pointer (some ⟨D.rp k, 0, none⟩)] W.drew fun e w' => e = .returned (.agg (stCells (S.rp k).st)) ∧ Below W.heap.size W w' ∧ StIs w' w.heap.size st0) := hide (by
    refine (rstate_any (D.rp k) (D.C k) (S.rp k) W.drew (hS.drew.rp k hk)).mono ?_
    rintro e w2 ⟨rfl, hB⟩
    have hB2 : Below W.heap.size W w2 := (Below.refl _ _).drew.trans hB
    exact ⟨rfl, hB2, (hB2.block _ (blk_lt hbx)).trans hbx⟩)
  have HB0 := hide hB0
  obtain ⟨cy, hcy⟩ : ∃ cy, Hid ((S.rp k).cycle = cy) := ⟨_, hide rfl⟩
  obtain ⟨X, hX⟩ : ∃ X, Hid ((S.rp k).st = X) := ⟨_, hide rfl⟩
  rw [hcy.out] at HC1 ⊢
  rw [hX.out] at HC2 ⊢
  have hsz : w.heap.size < W.heap.size := blk_lt hbx
  have HNE := hide (Nat.ne_of_lt hS.lt)
  have hpne : w.heap.size ≠ D.p := by have := h.lt; omega
  clear h hS hbx hB0 hcy hX
  go_enter Tryz.func12, Tryz.ntmps12
  go_wp2_with fail
  rw [show w.alloc (.cells #[.int .i64 0, .int .i64 0, .int .i64 0, .int .i64 0, .int .i64 0, .int .i64 0, .int .i64 0, .int .i64 0, .int .i64 0, .int .i64 0, .int .i64 0, .int .i64 0, .int .i64 0, .int .i64 0, .int .i64 0, .int .i64 0, .int .i64 0] 33) = W from hW.out]
  refine HR.out.mono ?_
  rintro e wz ⟨rfl, rfl⟩
  clear hW
  go_wp2_with fail
  refine wp_region_held_drew (S := fun w' => w'.cell? ⟨D.p, 3 + k, none⟩ = some (.pointer (some ⟨D.rp k, 0, none⟩)) ∧ ∃ Y, StIs w' w.heap.size Y) (by kernel_rfl) (HSS.out _ (Below.refl _ _).drew) (fun hHeld => ?_)
  refine wpAnyH_take (i := 0) (oi := _) (v := .pointer (some ⟨D.p, 0, none⟩)) rfl (by kernel_rfl) (by kernel_rfl) (by kernel_rfl) (fun _ _ _ h => h) (Or.inl ⟨by rfl, fun w _ => by go_simp⟩) hHeld ?_
  simp only [Act.put, List.getElem_toArray, List.getElem_cons_zero, List.setIfInBounds_toArray, List.set_cons_succ, List.set_cons_zero]
  refine wpAnyH_take (i := 1) (oi := _) (v := .int .i64 (k : Int)) rfl (by kernel_rfl) (by kernel_rfl) (by kernel_rfl) (fun _ _ _ h => h) (Or.inl ⟨by rfl, fun w _ => by go_simp⟩) hHeld ?_
  simp only [Act.put, List.getElem_toArray, List.getElem_cons_succ, List.getElem_cons_zero, List.setIfInBounds_toArray, List.set_cons_succ, List.set_cons_zero]
  refine wpAnyH_take (i := 2) (oi := _) (v := .pointer (some ⟨D.p, 0, none⟩)) rfl (by kernel_rfl) (by kernel_rfl) (by kernel_rfl) (fun _ _ _ h => h) (Or.inl ⟨by rfl, fun w _ => by go_simp⟩) hHeld ?_
  simp only [Act.put, List.getElem_toArray, List.getElem_cons_succ, List.getElem_cons_zero, List.setIfInBounds_toArray, List.set_cons_succ, List.set_cons_zero]
  refine wpAnyH_take (i := 3) (oi := _) (v := .pointer (some ⟨D.p, 3, none⟩)) rfl (by kernel_rfl) (by kernel_rfl) (by kernel_rfl) (fun _ _ _ h => h) (Or.inl ⟨by rfl, fun w _ => by go_simp⟩) hHeld ?_
  simp only [Act.put, List.getElem_toArray, List.getElem_cons_succ, List.getElem_cons_zero, List.setIfInBounds_toArray, List.set_cons_succ, List.set_cons_zero]
  refine wpAnyH_take (i := 4) (oi := _) (v := .pointer (some ⟨D.p, 3 + k, none⟩)) rfl (by kernel_rfl) (by kernel_rfl) (by kernel_rfl) (fun _ _ _ h => h) (Or.inl ⟨by rfl, fun w _ => by go_simp⟩) hHeld ?_
  simp only [Act.put, List.getElem_toArray, List.getElem_cons_succ, List.getElem_cons_zero, List.setIfInBounds_toArray, List.set_cons_succ, List.set_cons_zero]
  refine wpAnyH_take (i := 5) (oi := _) (v := .pointer (some ⟨D.rp k, 0, none⟩)) rfl (by kernel_rfl) (by kernel_rfl) (by kernel_rfl) (fun _ _ _ h => h) (Or.inl ⟨by rfl, fun w h => by obtain ⟨h1, _⟩ := h; go_simp⟩) hHeld ?_
  simp only [Act.put, List.getElem_toArray, List.getElem_cons_succ, List.getElem_cons_zero, List.setIfInBounds_toArray, List.set_cons_succ, List.set_cons_zero]
  refine wpAnyH_take (i := 7) (oi := _) (v := .pointer (some ⟨D.p, 0, none⟩)) rfl (by kernel_rfl) (by kernel_rfl) (by kernel_rfl) (fun _ _ _ h => h) (Or.inl ⟨by rfl, fun w _ => by go_simp⟩) hHeld ?_
  simp only [Act.put, List.getElem_toArray, List.getElem_cons_succ, List.getElem_cons_zero, List.setIfInBounds_toArray, List.set_cons_succ, List.set_cons_zero]
  refine wpAnyH_take (i := 8) (oi := _) (v := .int .i64 (k : Int)) rfl (by kernel_rfl) (by kernel_rfl) (by kernel_rfl) (fun _ _ _ h => h) (Or.inl ⟨by rfl, fun w _ => by go_simp⟩) hHeld ?_
  simp only [Act.put, List.getElem_toArray, List.getElem_cons_succ, List.getElem_cons_zero, List.setIfInBounds_toArray, List.set_cons_succ, List.set_cons_zero]
  refine wpAnyH_take (i := 9) (oi := _) (v := .pointer (some ⟨D.p, 0, none⟩)) rfl (by kernel_rfl) (by kernel_rfl) (by kernel_rfl) (fun _ _ _ h => h) (Or.inl ⟨by rfl, fun w _ => by go_simp⟩) hHeld ?_
  simp only [Act.put, List.getElem_toArray, List.getElem_cons_succ, List.getElem_cons_zero, List.setIfInBounds_toArray, List.set_cons_succ, List.set_cons_zero]
  refine wpAnyH_take (i := 10) (oi := _) (v := .pointer (some ⟨D.p, 3, none⟩)) rfl (by kernel_rfl) (by kernel_rfl) (by kernel_rfl) (fun _ _ _ h => h) (Or.inl ⟨by rfl, fun w _ => by go_simp⟩) hHeld ?_
  simp only [Act.put, List.getElem_toArray, List.getElem_cons_succ, List.getElem_cons_zero, List.setIfInBounds_toArray, List.set_cons_succ, List.set_cons_zero]
  refine wpAnyH_take (i := 11) (oi := _) (v := .pointer (some ⟨D.p, 3 + k, none⟩)) rfl (by kernel_rfl) (by kernel_rfl) (by kernel_rfl) (fun _ _ _ h => h) (Or.inl ⟨by rfl, fun w _ => by go_simp⟩) hHeld ?_
  simp only [Act.put, List.getElem_toArray, List.getElem_cons_succ, List.getElem_cons_zero, List.setIfInBounds_toArray, List.set_cons_succ, List.set_cons_zero]
  refine wpAnyH_take (i := 12) (oi := _) (v := .pointer (some ⟨D.rp k, 0, none⟩)) rfl (by kernel_rfl) (by kernel_rfl) (by kernel_rfl) (fun _ _ _ h => h) (Or.inl ⟨by rfl, fun w h => by obtain ⟨h1, _⟩ := h; go_simp⟩) hHeld ?_
  simp only [Act.put, List.getElem_toArray, List.getElem_cons_succ, List.getElem_cons_zero, List.setIfInBounds_toArray, List.set_cons_succ, List.set_cons_zero]
  refine wpAnyH_ready (rs := [6]) (by kernel_rfl) (by simp) ?_
  refine AllReadyH.cons (o := _) rfl (fun K hK => ?_) AllReadyH.nil
  rw [if_pos (by rfl)]
  go_simp
  go_at_call 38
  refine HC1.out.mono ?_
  rintro e w5 ⟨rfl, rfl⟩
  dsimp only
  refine hK.out _ _ (HSS.out _ (Below.refl _ _).drew) (fun hHeld => ?_)
  clear hK K
  refine wpAnyH_ready (rs := [13]) (by kernel_rfl) (by simp) ?_
  refine AllReadyH.cons (o := _) rfl (fun K hK => ?_) AllReadyH.nil
  rw [if_pos (by rfl)]
  go_simp
  go_at_call 39
  refine HC2.out.mono ?_
  rintro e w6 ⟨rfl, hB6, hst6⟩
  dsimp only
  refine hK.out _ _ (HSS.out _ hB6) (fun hHeld => ?_)
  clear hK K
  refine wpAnyH_take (i := 14) (oi := _) (v := .int .i64 cy) rfl (by kernel_rfl) (by kernel_rfl) (by kernel_rfl) (fun _ _ _ h => h) (Or.inl ⟨by rfl, fun w _ => by go_simp⟩) hHeld ?_
  simp only [Act.put, List.getElem_toArray, List.getElem_cons_succ, List.getElem_cons_zero, List.setIfInBounds_toArray, List.set_cons_succ, List.set_cons_zero]
  refine wpAnyH_ready (rs := [15]) (by kernel_rfl) (by simp) ?_
  refine AllReadyH.cons (o := _) rfl (fun K hK => ?_) AllReadyH.nil
  rw [if_pos (by rfl)]
  refine wp_store_row _ _ _ rfl _ _ rfl rfl _ _ hst6 (by rw [stateInfo]; rfl) rfl (oneCells X) ?_
  refine hK.out _ _ ⟨(World.cell?_of_block (w := w6) (row_other _ _ _ _ (fun e => hpne e.symm))).trans (HSS.out _ hB6).1, X, row_same hst6 X⟩ (fun hHeld => ?_)
  clear hK K
  simp only [Act.put]
  refine wpAnyH_take (i := 16) (oi := _) (v := .nilIface) rfl (by kernel_rfl) (by kernel_rfl) (by kernel_rfl) (fun _ _ _ h => h) (Or.inl ⟨by rfl, fun w _ => by go_simp⟩) hHeld ?_
  simp only [Act.put, List.getElem_toArray, List.getElem_cons_succ, List.getElem_cons_zero, List.setIfInBounds_toArray, List.set_cons_succ, List.set_cons_zero]
  refine wpAnyH_done (by kernel_rfl) ?_ _
  have HST := hide (row_same hst6 X)
  have HBB := hide (below_row (HB0.out.trans (hB6.mono (by omega))) (Nat.le_refl w.heap.size) (stCells X))
  clear hHeld hst6 hB6
  generalize w6.setRow w.heap.size (stCells X) = w7 at HST HBB ⊢
  go_wp2
  exact bodyPost_ret (results_mid rfl rfl (load_s HST.out)) rfl ⟨rfl, HBB.out⟩
end Go.Proofs.YtonkapgbcnkjcaaGreatDoor

/- The contracts of a voter's Trace, and of slices.Clone. -/
namespace Go.Proofs.YtonkapgbcnkjcaaGreatDoor
open Go.RowKit Go.Deep

set_option maxHeartbeats 1000000 in
theorem cloneC_any (N : Nat) (tv : Value) (l : List Cm) (w : World) (h : TIs w N tv l) (hl : l.length ≤ 1000) :
    Calls Tryz.prog 67 #[tv] w fun e w' => (∃ v, e = .returned v ∧ TIs w' w.heap.size v l) ∧ Below w.heap.size w w' := by
  rcases h.2 with ⟨rfl, h0⟩ | ⟨g, cap, cur, rfl, h1, h2, h3, h4, h5, h6⟩
  · have e : l = [] := List.length_eq_zero_iff.1 h0
    subst e
    clear h h0
    have hq : ∀ wx : World, (binOp .eql 47 (.slice none 0 0) (.slice none 0 0)).run Tryz.prog wx = .ok (.bool true) wx := fun wx => by kernel_rfl
    go_enter Tryz.func67, Tryz.ntmps67
    go_wp2
    go_ret
    exact ⟨⟨_, rfl, World.ownsRow_nil _ _ _ _⟩, Below.refl _ _⟩
  · obtain ⟨i0, hi, hz0, hz1, hz2⟩ := info_parts infoCommit
    have HI := hide hi
    have HZ0 := hide hz0
    have HZ1 := hide hz1
    have HZ2 := hide hz2
    have HT := hide h6
    have HG := hide h2
    have hgl := blk_lt h2
    have hq : ∀ wx : World, (binOp .eql 47 (.slice (some ⟨g, 0, none⟩) l.length cap) (.slice none 0 0)).run Tryz.prog wx = .ok (.bool false) wx := fun wx => Lib.run_eql_slice_nil wx _ _ _ _ _ _ _ Tryz.underlying47
    clear hi hz0 hz1 hz2 h h6 h2 h5 h4
    go_enter Tryz.func67, Tryz.ntmps67
    go_wp2_with (at_builtin; refine wpList_append_own _ rfl _ _ 47 rfl w.heap.size 59 i0 (.agg #[.int .i64 0, .int .i64 0, .int .i64 0]) 3 24 Tryz.underlying47 HI.out HZ0.out HZ1.out HZ2.out rfl (by decide) _ _ _ rfl (World.ownsRow_made w #[] 0 (Nat.le_refl _) (by unfold maxLen; omega) rfl) ⟨g, 0, none⟩ l.length cap (cmL l) rfl (cmL_length l) ?c1 ?c2 ?c3 ?c4 ?c5 ?_)
    case c1 =>
      intro j u hj
      have hj' : j < l.length * 3 := by
        have := (List.getElem?_eq_some_iff.1 hj).1
        rw [cmL_length] at this
        exact this
      have e : (⟨g, 0, none⟩ : Addr).add j = ⟨g, j, none⟩ := by unfold Addr.add; split <;> simp_all
      rw [e, World.cell?_alloc_past _ _ _ hgl, blk_cell HG.out, ← Array.getElem?_toList]
      have := HT.out
      rw [← this, List.getElem?_take, if_pos hj'] at hj
      exact hj
    case c2 => exact cmL_one l
    case c3 => unfold maxLen; omega
    case c4 => omega
    case c5 => simp
    intro v' w1 hown hgrow _
    have hold : Below w.heap.size w w1 := ((Below.refl _ _).alloc (Nat.le_refl _) _).grown hgrow (by simp) (fun j hj => by
      have : w.heap.size = j := by simpa [Value.ownBlock] using hj
      omega)
    have ht : TIs w1 w.heap.size v' l := by
      unfold TIs
      simpa using hown
    have HT1 := hide ht
    have HOLD := hide hold
    clear ht hold hown hgrow
    go_wp2
    go_ret
    exact ⟨⟨_, rfl, HT1.out⟩, HOLD.out⟩

set_option maxHeartbeats 1000000 in
theorem trace_any (N p win : Nat) (tv : Value) (S : VS) (w : World) (h : VIs w N p win tv S) (hok : VOk win S) :
    Calls Tryz.prog 36 #[.pointer (some ⟨p, 0, none⟩)] w fun e w' => (∃ v, e = .returned v ∧ TIs w' w.heap.size v S.tr) ∧ Below w.heap.size w w' := by
  have c0 : w.cell? ⟨p, 0, none⟩ = some tv := (h.at 0).trans rfl
  have HC := hide (cloneC_any N tv S.tr w h.row hok.few)
  clear h hok
  go_enter Tryz.func36, Tryz.ntmps36
  go_wp2_with (go_at_call 67; refine HC.out.mono ?_; rintro e w' ⟨⟨v, rfl, ht⟩, hB⟩)
  go_ret
  exact ⟨⟨_, rfl, ht⟩, hB⟩

end Go.Proofs.YtonkapgbcnkjcaaGreatDoor

/- The contracts of a system's Trace, Shown, Latched, Out. -/
namespace Go.Proofs.YtonkapgbcnkjcaaGreatDoor
open Go.RowKit Go.Deep

theorem strace_any (N : Nat) (D : SC) (L : RC) (win : Nat) (S : SY) (w : World) (h : SyIs w N D L win S) (hok : VOk win S.v) :
    Calls Tryz.prog 11 #[.pointer (some ⟨D.p, 0, none⟩)] w fun e w' => (∃ v, e = .returned v ∧ TIs w' w.heap.size v S.v.tr) ∧ Below w.heap.size w w' := by
  have c6 := h.vt6
  have HC := hide (trace_any N D.vp win D.tv S.v w h.vt hok)
  clear h hok
  go_enter Tryz.func11, Tryz.ntmps11
  go_wp2_with fail
  refine HC.out.mono ?_
  rintro e w2 ⟨⟨v, rfl, ht⟩, hB⟩
  go_wp2
  go_ret
  exact ⟨⟨v, rfl, ht⟩, hB⟩
theorem slatched_any (N : Nat) (D : SC) (L : RC) (win : Nat) (S : SY) (w : World) (h : SyIs w N D L win S) :
    Calls Tryz.prog 19 #[.pointer (some ⟨D.p, 0, none⟩)] w fun e w' => e = .returned (.bool S.v.lat) ∧ w' = w := by
  have c6 := h.vt6
  have HC := hide (latched_any N D.vp win D.tv S.v w h.vt)
  clear h
  go_enter Tryz.func19, Tryz.ntmps19
  go_wp2_with fail
  refine HC.out.mono ?_
  rintro e w2 ⟨rfl, rfl⟩
  go_wp2
  go_ret
  exact ⟨rfl, rfl⟩
theorem sout_any (N : Nat) (D : SC) (L : RC) (win : Nat) (S : SY) (w : World) (h : SyIs w N D L win S) :
    Calls Tryz.prog 10 #[.pointer (some ⟨D.p, 0, none⟩)] w fun e w' => e = .returned (.int .i64 (S.v.out : Int)) ∧ w' = w := by
  have c6 := h.vt6
  have HC := hide (out_any N D.vp win D.tv S.v w h.vt)
  clear h
  go_enter Tryz.func10, Tryz.ntmps10
  go_wp2_with fail
  refine HC.out.mono ?_
  rintro e w2 ⟨rfl, rfl⟩
  go_wp2
  go_ret
  exact ⟨rfl, rfl⟩

/-! ### Bytes, cloned -/
theorem infoByteZ : (Tryz.prog.info? 5).map (fun i => (i.zero, i.size, i.bytes)) = some (some (.int .u8 0), 1, 1) := by kernel_rfl
set_option maxHeartbeats 1000000 in
theorem cloneB_any (a : Option Addr) (len cap : Nat) (l : List Nat) (w : World) (h : IsB w a len cap l) (hl : len ≤ 1000) :
    Calls Tryz.prog 65 #[.slice a len cap] w fun e w' => (∃ v, e = .returned v ∧ w'.ownsRow w.heap.size 5 1 v len (u8s l)) ∧ Below w.heap.size w w' := by
  obtain ⟨h1, h2, h3, h4⟩ := h
  subst h1
  cases a with
  | none =>
    have e : l = [] := by
      rcases h4 with e | ⟨b, off, e, _⟩
      · exact e
      · simp at e
    subst e
    have hq : ∀ wx : World, (binOp .eql 36 (.slice none 0 cap) (.slice none 0 0)).run Tryz.prog wx = .ok (.bool true) wx := fun wx => Lib.run_eql_slice_nil wx _ _ _ _ _ _ _ Tryz.underlying36
    clear h4 h3
    go_enter Tryz.func65, Tryz.ntmps65
    go_wp2
    go_ret
    exact ⟨⟨_, rfl, World.ownsRow_nil _ _ _ _⟩, Below.refl _ _⟩
  | some ad =>
    obtain ⟨i0, hi, hz0, hz1, hz2⟩ := info_parts infoByteZ
    have HI := hide hi
    have HZ0 := hide hz0
    have HZ1 := hide hz1
    have HZ2 := hide hz2
    have H4 : Hid (∀ j u, (u8s l)[j]? = some u → (w.alloc (.cells #[] 5)).cell? (ad.add j) = some u) := hide fun j u hj => by
      have hj' : j < l.length := by have := (List.getElem?_eq_some_iff.1 hj).1; simpa [u8s] using this
      rcases h4 with e | ⟨b, off, e, hb, hr⟩
      · rw [e] at hj'; simp at hj'
      · obtain rfl := Option.some.inj e
        have e2 : (⟨b, off, none⟩ : Addr).add j = ⟨b, off + j, none⟩ := by unfold Addr.add; split <;> simp_all
        rw [e2, World.cell?_alloc_past _ _ _ hb, hr j hj']
        unfold u8s at hj
        rw [List.getElem?_map, List.getElem?_eq_getElem hj'] at hj
        rw [← hj, List.getElem?_eq_getElem hj']
        rfl
    have hq : ∀ wx : World, (binOp .eql 36 (.slice (some ad) l.length cap) (.slice none 0 0)).run Tryz.prog wx = .ok (.bool false) wx := fun wx => Lib.run_eql_slice_nil wx _ _ _ _ _ _ _ Tryz.underlying36
    clear hi hz0 hz1 hz2 h4 h3
    go_enter Tryz.func65, Tryz.ntmps65
    go_wp2_with (at_builtin; refine wpList_append_own _ rfl _ _ 36 rfl w.heap.size 5 i0 (.int .u8 0) 1 1 Tryz.underlying36 HI.out HZ0.out HZ1.out HZ2.out rfl (by decide) _ _ _ rfl (World.ownsRow_made w #[] 0 (Nat.le_refl _) (by unfold maxLen; omega) rfl) ad l.length cap (u8s l) rfl ?c0 ?c1 ?c2 ?c3 ?c4 ?c5 ?_)
    case c0 => simp [u8s]
    case c1 => exact H4.out
    case c2 => exact u8s_one l
    case c3 => unfold maxLen; omega
    case c4 => omega
    case c5 => simp
    intro v' w1 hown hgrow _
    have hold : Below w.heap.size w w1 := ((Below.refl _ _).alloc (Nat.le_refl _) _).grown hgrow (by simp) (fun j hj => by
      have : w.heap.size = j := by simpa [Value.ownBlock] using hj
      omega)
    have ht : w1.ownsRow w.heap.size 5 1 v' l.length (u8s l) := by simpa using hown
    have HT1 := hide ht
    have HOLD := hide hold
    clear ht hold hown hgrow
    go_wp2
    go_ret
    exact ⟨⟨_, rfl, HT1.out⟩, HOLD.out⟩
end Go.Proofs.YtonkapgbcnkjcaaGreatDoor
