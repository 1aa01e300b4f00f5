import Derived.Test.YtaablbmgagiajabGreatDoorGAJ
import Derived.Deep.RegionHeld
import Derived.Test.YtaablbmgagiajabGreatDoorGAG
import Derived.Lib.SliceRun
/- The contract of a system's Calm. -/
namespace Go.Proofs.YtaablbmgagiajabGreatDoor
open Go.RowKit Go.Deep

theorem SyIs.vt6 {w : World} {N win : Nat} {D : SC} {L : RC} {S : SY} (h : SyIs w N D L win S) : w.cell? ⟨D.p, 6, none⟩ = some (.pointer (some ⟨D.vp, 0, none⟩)) := (h.at 6).trans rfl

set_option maxHeartbeats 4000000 in
set_option maxRecDepth 20000 in
theorem calm_any {W : Seen} {liar T : Nat} (N : Nat) (D : SC) (L : RC) (win : Nat) (S : SY) (w : World) (n : Nat) (h : SyIs w N D L win S) (hI : ClInv L W liar win T S) (hL : LOk L) (hT : T + 6 * n < 700000) (hn : n ≤ 1000) (hN : N ≤ w.heap.size) :
    Calls Tryz.prog 16 #[.pointer (some ⟨D.p, 0, none⟩), .int .i64 (n : Int)] w fun e w' => e = .returned (.tuple #[]) ∧ ∃ S', calmTo L win n S S' ∧ ClInv L W liar win (T + 6 * n) S' ∧ SyGo w w' N D L win S' := by
  have HST : Hid (∃ S', calmTo L win 0 S S' ∧ ClInv L W liar win (T + 6 * 0) S' ∧ SyGo w w N D L win S') := hide ⟨S, rfl, hI, h.goes⟩
  have HL := hide hL
  -- all comes
  have hall : ∀ (wr : World) (S' : SY) (T' : Nat), T' < 800000 → ClInv L W liar win T' S' → SyGo w wr N D L win S' → Calls Tryz.prog 45 #[.pointer (some ⟨D.p, 0, none⟩)] wr fun e w' => e = .returned (.tuple #[]) ∧ Hid (∃ m, (runAll L win m S').net = [] ∧ ClInv L W liar win T' (runAll L win m S') ∧ SyGo w w' N D L win (runAll L win m S')) := by
    intro wr S' T' hT' hI' hg
    obtain ⟨D1, hp1, hS1, hm1, hg1⟩ := hg
    obtain ⟨m, hm⟩ := hI'.inv.ends HL.out
    have hc := arriveAll_any N D1 L win S' wr m hS1 hI'.inv HL.out hT' (Nat.le_trans hN hm1.size) hm
    rw [hp1] at hc
    refine hc.mono ?_
    rintro e w2 ⟨rfl, hg⟩
    exact ⟨rfl, hide ⟨m, hm, ClInv.runAll HL.out m S' hI', SyGo.then hp1 hm1 hg1 hg⟩⟩
  -- one ticks
  have htick : ∀ (wr : World) (S' : SY) (T' k : Nat), k < 3 → T' < 800000 → ClInv L W liar win T' S' → SyGo w wr N D L win S' → Calls Tryz.prog 46 #[.pointer (some ⟨D.p, 0, none⟩), .int .i64 (k : Int)] wr fun e w' => e = .returned (.tuple #[]) ∧ Hid (ClInv L W liar win (T' + 1) (tickSy L k S') ∧ SyGo w w' N D L win (tickSy L k S')) := by
    intro wr S' T' k hk hT' hI' hg
    obtain ⟨D1, hp1, hS1, hm1, hg1⟩ := hg
    obtain ⟨hok, _⟩ := (hI'.inv.rp k hk).ok hk HL.out hT' hI'.inv.vok.few
    have hc := tickRep_any N D1 L win S' wr k hk hS1 hok (hI'.inv.rp k hk).id (Nat.le_trans hN hm1.size) hI'.inv.many
    rw [hp1] at hc
    refine hc.mono ?_
    rintro e w2 ⟨rfl, hg⟩
    exact ⟨rfl, hide ⟨hI'.tick hk, SyGo.then hp1 hm1 hg1 hg⟩⟩
  -- the voter's tick
  have hvt : ∀ (wr : World) (S' : SY) (T' : Nat), ClInv L W liar win T' S' → SyGo w wr N D L win S' → ∃ vp : Nat, wr.cell? ⟨D.p, 6, none⟩ = some (.pointer (some ⟨vp, 0, none⟩)) ∧ Hid (Calls Tryz.prog 47 #[.pointer (some ⟨vp, 0, none⟩)] wr fun e w' => e = .returned (.tuple #[]) ∧ SyGo w w' N D L win (vtickSy S')) := by
    intro wr S' T' hI' hg
    obtain ⟨D1, hp1, hS1, hm1, hg1⟩ := hg
    refine ⟨D1.vp, by rw [← hp1]; exact hS1.vt6, hide ?_⟩
    refine (tick_any N D1.vp win D1.tv S'.v wr hS1.vt hI'.inv.vok).mono ?_
    rintro e w2 ⟨rfl, hV, hm⟩
    exact ⟨rfl, SyGo.then hp1 hm1 hg1 (hS1.putV hm hV (Moved.refl _ _))⟩
  have HALL := hide hall
  have HTK := hide htick
  have HVT := hide hvt
  clear hall htick hvt h hI hL
  go_enter Tryz.func16, Tryz.ntmps16
  go_wp2_with fail
  go_loopw [6] (fun j wr => ∃ k : Nat, k ≤ n ∧ j = .int .i64 k ∧ ∃ S', calmTo L win k S S' ∧ ClInv L W liar win (T + 6 * k) S' ∧ SyGo w wr N D L win S') (fun j _ => n - (intOf j).toNat)
  case atStart => exact ⟨0, by omega, rfl, HST.out⟩
  case round =>
    obtain ⟨k, hk, rfl, S', hcal, hI', hgo⟩ := hrel
    clear HST
    by_cases hkn : k < n
    · have hk' : (k : Int) < (n : Int) := by omega
      have HC1 := hide (HALL.out wr S' (T + 6 * k) (by omega) hI' hgo)
      have HCAL := hide hcal
      clear hcal hI' hgo
      go_wp2_with fail
      refine HC1.out.mono ?_
      rintro e w1 ⟨rfl, HG1⟩
      clear HC1
      obtain ⟨m0, hm0, hI0, hg0⟩ := HG1.out
      obtain ⟨S0, hS0⟩ : ∃ S0, Hid (runAll L win m0 S' = S0) := ⟨_, hide rfl⟩
      rw [hS0.out] at hm0 hI0 hg0
      have HM0 := hide hm0
      have HS2 : Hid (∃ S2, halfTo L win 0 S0 S2 ∧ ClInv L W liar win (T + 6 * k + 3 * 0) S2 ∧ SyGo w w1 N D L win S2) := hide ⟨S0, rfl, hI0, hg0⟩
      clear HG1 hm0 hI0 hg0
      go_wp2_with fail
      go_loopw [10] (fun j wr => ∃ a : Nat, a ≤ 2 ∧ j = .int .i64 a ∧ ∃ S2, halfTo L win a S0 S2 ∧ ClInv L W liar win (T + 6 * k + 3 * a) S2 ∧ SyGo w wr N D L win S2) (fun j _ => 2 - (intOf j).toNat)
      case atStart => exact ⟨0, by omega, rfl, HS2.out⟩
      case round =>
        obtain ⟨a, ha, rfl, S2, hh, hI2, hg2⟩ := hrel
        clear HS2
        by_cases ha2 : a < 2
        · have ha' : (a : Int) < 2 := by omega
          have HH := hide hh
          have HS3 : Hid (ClInv L W liar win (T + 6 * k + 3 * a + 0) (tickTo L S2 0) ∧ SyGo w wr N D L win (tickTo L S2 0)) := hide ⟨hI2, hg2⟩
          clear hh hI2 hg2
          go_wp2_with fail
          go_loopw [12] (fun j wr => ∃ b : Nat, b ≤ 3 ∧ j = .int .i64 b ∧ ClInv L W liar win (T + 6 * k + 3 * a + b) (tickTo L S2 b) ∧ SyGo w wr N D L win (tickTo L S2 b)) (fun j _ => 3 - (intOf j).toNat)
          case atStart => exact ⟨0, by omega, rfl, HS3.out⟩
          case round =>
            obtain ⟨b, hb, rfl, hI3, hg3⟩ := hrel
            clear HS3
            by_cases hb3 : b < 3
            · have hb' : (b : Int) < 3 := by omega
              have HC3 := hide (HTK.out wr (tickTo L S2 b) (T + 6 * k + 3 * a + b) b hb3 (by omega) hI3 hg3)
              clear hI3 hg3
              go_wp2_with fail
              refine HC3.out.mono ?_
              rintro e w3 ⟨rfl, HG3⟩
              clear HC3
              go_wp2
              go_roundw
              case rel => exact ⟨b + 1, by omega, by go_num, HG3.out⟩
              case measure => simp [intOf]; omega
            · have e3 : b = 3 := by omega
              subst e3
              have HC4 := hide (HALL.out wr (tickTo L S2 3) (T + 6 * k + 3 * a + 3) (by omega) hI3 hg3)
              clear hI3 hg3
              go_wp2_with fail
              refine HC4.out.mono ?_
              rintro e w4 ⟨rfl, HG4⟩
              clear HC4
              go_wp2
              go_roundw
              case rel =>
                obtain ⟨m, hm, hI4, hg4⟩ := HG4.out
                exact ⟨a + 1, by omega, by go_num, _, ⟨S2, m, HH.out, rfl, hm⟩, hI4, hg4⟩
              case measure => simp [intOf]; omega
        · have e2 : a = 2 := by omega
          subst e2
          obtain ⟨vp, cv, HV⟩ := HVT.out wr S2 _ hI2 hg2
          have HEND : Hid (calmTo L win (k + 1) S (vtickSy S2) ∧ ClInv L W liar win (T + 6 * k + 3 * 2) (vtickSy S2)) := hide ⟨calm_snoc HCAL.out (round_of (m := m0) (S2 := S2) (by rw [hS0.out]; exact HM0.out) (by rw [hS0.out]; exact hh) rfl), hI2.vtick⟩
          clear hh hI2 hg2
          go_wp2_with fail
          refine HV.out.mono ?_
          rintro e w5 ⟨rfl, hg5⟩
          go_wp2
          go_roundw
          case rel => exact ⟨k + 1, by omega, by go_num, _, HEND.out.1, HEND.out.2, hg5⟩
          case measure => simp [intOf]; omega
    · have e3 : k = n := by omega
      have hk' : ¬ (k : Int) < (n : Int) := by omega
      have HE : Hid (∃ S', calmTo L win n S S' ∧ ClInv L W liar win (T + 6 * n) S' ∧ SyGo w wr N D L win S') := hide (by rw [← e3]; exact ⟨S', hcal, hI', hgo⟩)
      clear hcal hI' hgo e3
      go_wp2
      go_end0
      exact ⟨rfl, HE.out⟩
end Go.Proofs.YtaablbmgagiajabGreatDoor

/- The contracts of a system's See, Tick, Asks, Deliver, Lose, Twice, Latch, Many. -/
namespace Go.Proofs.YtaablbmgagiajabGreatDoor
open Go.RowKit Go.Deep

section
variable {W : Seen} {liar T : Nat}
theorem many_any (N : Nat) (D : SC) (L : RC) (win : Nat) (S : SY) (w : World) (h : SyIs w N D L win S) :
    Calls Tryz.prog 30 #[.pointer (some ⟨D.p, 0, none⟩)] w fun e w' => e = .returned (.int .i64 (S.net.length : Int)) ∧ w' = w := by
  obtain ⟨a, cap, c7⟩ := h.net7
  clear h
  go_enter Tryz.func30, Tryz.ntmps30
  go_wp2
  go_ret
  exact ⟨rfl, rfl⟩
theorem sylatch_any (N : Nat) (D : SC) (L : RC) (win : Nat) (S : SY) (w : World) (h : SyIs w N D L win S) :
    Calls Tryz.prog 41 #[.pointer (some ⟨D.p, 0, none⟩)] w fun e w' => e = .returned (.tuple #[]) ∧ SyGo w w' N D L win (latchSy S) := by
  have c6 := h.vt6
  have HC : Hid (Calls Tryz.prog 85 #[.pointer (some ⟨D.vp, 0, none⟩)] w fun e w' => e = .returned (.tuple #[]) ∧ SyGo w w' N D L win (latchSy S)) := hide (by
    refine (latch_any N D.vp win D.tv S.v w h.vt).mono ?_
    rintro e w2 ⟨rfl, hV, hm⟩
    exact ⟨rfl, h.putV hm hV (Moved.refl _ _)⟩)
  clear h
  go_enter Tryz.func41, Tryz.ntmps41
  go_wp2_with fail
  refine HC.out.mono ?_
  rintro e w2 ⟨rfl, hg⟩
  go_wp2
  go_end0
  exact ⟨rfl, hg⟩
theorem isRep_lt {k : Nat} (hk : k < 3) : isRep (k : Int) = true := by unfold isRep; simp; omega
theorem sytick_any (N : Nat) (D : SC) (L : RC) (win : Nat) (S : SY) (w : World) (k : Nat) (hk : k < 3) (h : SyIs w N D L win S) (hI : SInv L W liar win T S) (hL : LOk L) (hT : T < 800000) (hN : N ≤ w.heap.size) :
    Calls Tryz.prog 32 #[.pointer (some ⟨D.p, 0, none⟩), .int .i64 (k : Int)] w fun e w' => e = .returned .nilIface ∧ SyGo w w' N D L win (tickSy L k S) := by
  obtain ⟨hok, _⟩ := (hI.rp k hk).ok hk hL hT hI.vok.few
  have HC := hide (tickRep_any N D L win S w k hk h hok (hI.rp k hk).id hN hI.many)
  have HR := hide (sysRep_any (k : Int) w)
  rw [isRep_lt hk] at HR
  clear h hI hok
  go_enter Tryz.func32, Tryz.ntmps32
  go_wp2_with fail
  refine HR.out.mono ?_
  rintro e wz ⟨rfl, rfl⟩
  go_wp2_with fail
  refine HC.out.mono ?_
  rintro e w2 ⟨rfl, hg⟩
  go_wp2
  go_ret
  exact ⟨rfl, hg⟩
theorem sytick3_any (N : Nat) (D : SC) (L : RC) (win : Nat) (S : SY) (w : World) (h : SyIs w N D L win S) (hok : VOk win S.v) :
    Calls Tryz.prog 32 #[.pointer (some ⟨D.p, 0, none⟩), .int .i64 3] w fun e w' => e = .returned .nilIface ∧ SyGo w w' N D L win (vtickSy S) := by
  have HR := hide (sysRep_any 3 w)
  rw [show isRep 3 = false from rfl] at HR
  have c6 := h.vt6
  have HC : Hid (Calls Tryz.prog 47 #[.pointer (some ⟨D.vp, 0, none⟩)] w fun e w' => e = .returned (.tuple #[]) ∧ SyGo w w' N D L win (vtickSy S)) := hide (by
    refine (tick_any N D.vp win D.tv S.v w h.vt hok).mono ?_
    rintro e w2 ⟨rfl, hV, hm⟩
    exact ⟨rfl, h.putV hm hV (Moved.refl _ _)⟩)
  clear h hok
  go_enter Tryz.func32, Tryz.ntmps32
  go_wp2_with fail
  refine HR.out.mono ?_
  rintro e wz ⟨rfl, rfl⟩
  go_wp2_with fail
  refine HC.out.mono ?_
  rintro e w2 ⟨rfl, hg⟩
  go_wp2
  go_ret
  exact ⟨rfl, hg⟩
theorem syasks_any (N : Nat) (D : SC) (L : RC) (win : Nat) (S : SY) (w : World) (k : Nat) (hk : k < 3) (h : SyIs w N D L win S) (hI : SInv L W liar win T S) (hN : N ≤ w.heap.size) :
    Calls Tryz.prog 33 #[.pointer (some ⟨D.p, 0, none⟩), .int .i64 (k : Int)] w fun e w' => e = .returned .nilIface ∧ SyGo w w' N D L win (asksSy k S) := by
  have HR := hide (sysRep_any (k : Int) w)
  rw [isRep_lt hk] at HR
  have hk' : (k : Int) < 3 := by omega
  have cr := h.rpAt hk
  have hid := (hI.rp k hk).id
  have HC : Hid (Calls Tryz.prog 73 #[.pointer (some ⟨D.rp k, 0, none⟩)] w fun e w1 => e = .returned (.agg (fCells (asksR (S.rp k)))) ∧ Hid (Calls Tryz.prog 72 #[.pointer (some ⟨D.p, 0, none⟩), .agg (fCells (asksR (S.rp k)))] w1 fun e w' => e = .returned (.tuple #[]) ∧ SyGo w w' N D L win (asksSy k S))) := hide (by
    refine (asks_any (D.rp k) (D.C k) (S.rp k) w (h.rp k hk)).mono ?_
    rintro e w1 ⟨rfl, hB⟩
    refine ⟨rfl, hide ?_⟩
    refine (sendOthers_any N D L win S w1 (asksR (S.rp k)) k (h.below hB) (by show ((S.rp k).id : Int) = _; rw [hid]) (Nat.le_trans hN hB.size) hI.many).mono ?_
    rintro e w2 ⟨rfl, hg⟩
    exact ⟨rfl, hg.pre hB⟩)
  clear h hI
  go_enter Tryz.func33, Tryz.ntmps33
  go_wp2_with fail
  refine HR.out.mono ?_
  rintro e wz ⟨rfl, rfl⟩
  go_wp2_with fail
  refine HC.out.mono ?_
  rintro e w1 ⟨rfl, HS⟩
  go_wp2_with fail
  refine HS.out.mono ?_
  rintro e w2 ⟨rfl, hg⟩
  go_wp2
  go_ret
  exact ⟨rfl, hg⟩

/-- Of the i-th: what Deliver, Lose, Twice do. -/
theorem deliver_any (N : Nat) (D : SC) (L : RC) (win : Nat) (S : SY) (w : World) (i : Nat) (h : SyIs w N D L win S) (hI : SInv L W liar win T S) (hL : LOk L) (hT : T < 800000) (hN : N ≤ w.heap.size) :
    Calls Tryz.prog 34 #[.pointer (some ⟨D.p, 0, none⟩), .int .i64 (i : Int)] w fun e w' => (∃ v, e = .returned v) ∧ SyGo w w' N D L win (if i < S.net.length then arriveSy L win i S else S) := by
  have HR := hide (underWay_any N D L win S w i h)
  by_cases hi : i < S.net.length
  · rw [decide_eq_true hi] at HR
    rw [if_pos hi]
    have HC := hide (arrive_any N D L win S w i h hI hL hT hi hN)
    clear h hI
    go_enter Tryz.func34, Tryz.ntmps34
    go_wp2_with fail
    refine HR.out.mono ?_
    rintro e wz ⟨rfl, rfl⟩
    go_wp2_with fail
    refine HC.out.mono ?_
    rintro e w2 ⟨rfl, hg⟩
    go_wp2
    go_ret
    exact ⟨⟨_, rfl⟩, hg⟩
  · rw [decide_eq_false hi] at HR
    rw [if_neg hi]
    have HG := hide h.goes
    clear h hI
    go_enter Tryz.func34, Tryz.ntmps34
    go_wp2_with fail
    refine HR.out.mono ?_
    rintro e wz ⟨rfl, rfl⟩
    go_wp2
    go_ret
    exact ⟨⟨_, rfl⟩, HG.out⟩
theorem lose_any (N : Nat) (D : SC) (L : RC) (win : Nat) (S : SY) (w : World) (i : Nat) (h : SyIs w N D L win S) (hle : S.net.length ≤ 120) :
    Calls Tryz.prog 35 #[.pointer (some ⟨D.p, 0, none⟩), .int .i64 (i : Int)] w fun e w' => (∃ v, e = .returned v) ∧ SyGo w w' N D L win (if i < S.net.length then outSy i S else S) := by
  have HR := hide (underWay_any N D L win S w i h)
  by_cases hi : i < S.net.length
  · rw [decide_eq_true hi] at HR
    rw [if_pos hi]
    have HC := hide (remove_any N D L win S w i h hi hle)
    clear h
    go_enter Tryz.func35, Tryz.ntmps35
    go_wp2_with fail
    refine HR.out.mono ?_
    rintro e wz ⟨rfl, rfl⟩
    go_wp2_with fail
    refine HC.out.mono ?_
    rintro e w2 ⟨rfl, hg⟩
    go_wp2
    go_ret
    exact ⟨⟨_, rfl⟩, hg⟩
  · rw [decide_eq_false hi] at HR
    rw [if_neg hi]
    have HG := hide h.goes
    clear h
    go_enter Tryz.func35, Tryz.ntmps35
    go_wp2_with fail
    refine HR.out.mono ?_
    rintro e wz ⟨rfl, rfl⟩
    go_wp2
    go_ret
    exact ⟨⟨_, rfl⟩, HG.out⟩
set_option maxHeartbeats 1000000 in
set_option maxRecDepth 20000 in
theorem twice_any (N : Nat) (D : SC) (L : RC) (win : Nat) (S : SY) (w : World) (i : Nat) (h : SyIs w N D L win S) (hle : S.net.length ≤ 120) (hN : N ≤ w.heap.size) :
    Calls Tryz.prog 36 #[.pointer (some ⟨D.p, 0, none⟩), .int .i64 (i : Int)] w fun e w' => (∃ v, e = .returned v) ∧ SyGo w w' N D L win (if i < S.net.length then putSy (pkAt S.net i) S else S) := by
  have HR := hide (underWay_any N D L win S w i h)
  by_cases hi : i < S.net.length
  · rw [decide_eq_true hi] at HR
    rw [if_pos hi]
    have hi' : (i : Int) < (S.net.length : Int) := by omega
    obtain ⟨g, cap, hnv⟩ := h.netHas (by omega)
    have hrg := h.pkRange hnv hi
    have hby := h.bytes hi
    have hput := syput_any N D L win S w (pkAt S.net i) _ h hby hN hle
    have c7 : w.cell? ⟨D.p, 7, none⟩ = some (.slice (some ⟨g, 0, none⟩) S.net.length cap) := (h.at 7).trans (by show some D.nv = _; rw [hnv])
    obtain ⟨q, hq⟩ : ∃ q, Hid (pkAt S.net i = q) := ⟨_, hide rfl⟩
    obtain ⟨u, hu⟩ : ∃ u, Hid (D.us[i]?.getD undef = u) := ⟨_, hide rfl⟩
    rw [hq.out, hu.out] at hrg hput
    rw [hq.out]
    have HC := hide hput
    have HRG := hide hrg
    clear h hput hrg hby hnv
    go_enter Tryz.func36, Tryz.ntmps36
    go_wp2_with fail
    refine HR.out.mono ?_
    rintro e wz ⟨rfl, rfl⟩
    go_wp2_with (refine wpList_load_mid rfl 134 _ rfl g (i * 3) rfl _ _ HRG.out Tryz.underlying134 rfl (by rw [infoPacket3]; rfl) ?_)
    refine HC.out.mono ?_
    rintro e w2 ⟨rfl, hg⟩
    go_wp2
    go_ret
    exact ⟨⟨_, rfl⟩, hg⟩
  · rw [decide_eq_false hi] at HR
    rw [if_neg hi]
    have HG := hide h.goes
    clear h
    go_enter Tryz.func36, Tryz.ntmps36
    go_wp2_with fail
    refine HR.out.mono ?_
    rintro e wz ⟨rfl, rfl⟩
    go_wp2
    go_ret
    exact ⟨⟨_, rfl⟩, HG.out⟩
end
end Go.Proofs.YtaablbmgagiajabGreatDoor

/- The contract of a system's See. -/
namespace Go.Proofs.YtaablbmgagiajabGreatDoor
open Go.RowKit Go.Deep

set_option maxHeartbeats 1000000 in
set_option maxRecDepth 20000 in
theorem sysee_any (N : Nat) (D : SC) (L : RC) (win : Nat) (S : SY) (w : World) (k : Nat) (x y : Int) (hk : k < 3) (h : SyIs w N D L win S) :
    Calls Tryz.prog 18 #[.pointer (some ⟨D.p, 0, none⟩), .int .i64 (k : Int), .agg #[.int .i64 x, .int .i64 y]] w fun e w' => e = .returned .nilIface ∧ SyGo w w' N D L win (seeSy k x y S) := by
  obtain ⟨W, hW⟩ : ∃ W, Hid (w.alloc (.cells #[.int .i64 x, .int .i64 y] 31) = W) := ⟨_, hide rfl⟩
  have hB0 : Below w.heap.size w W := by rw [← hW.out]; exact (Below.refl _ _).alloc (Nat.le_refl _) _
  have hbx : W.heap[w.heap.size]? = some (.cells #[.int .i64 x, .int .i64 y] 31 (0, 0)) := by rw [← hW.out]; exact blk_new _ _
  have HR := hide (sysRep_any (k : Int) W)
  rw [isRep_lt hk] at HR
  have hk' : (k : Int) < 3 := by omega
  have hS := h.below hB0
  have cr := hS.rpAt hk
  have x0 : W.cell? ⟨w.heap.size, 0, none⟩ = some (.int .i64 x) := (blk_cell hbx 0).trans rfl
  have x1 : W.cell? ⟨w.heap.size, 1, none⟩ = some (.int .i64 y) := (blk_cell hbx 1).trans rfl
  have HC : Hid (Calls Tryz.prog 50 #[.pointer (some ⟨D.rp k, 0, none⟩), .agg #[.int .i64 x, .int .i64 y]] W.drew fun e w' => e = .returned (.tuple #[]) ∧ SyGo w w' N D L win (seeSy k x y S)) := hide (by
    refine (see_any (D.rp k) (D.C k) (S.rp k) x y W.drew (hS.drew.rp k hk)).mono ?_
    rintro e w2 ⟨rfl, hR, hm⟩
    obtain ⟨h1, h2⟩ := hS.drew.putR hk hm hR
    exact ⟨rfl, SyGo.pre ⟨D, rfl, h1, h2, Gr.refl _ _⟩ (hB0.drew)⟩)
  clear h hS hbx hB0
  go_enter Tryz.func18, Tryz.ntmps18
  go_wp2_with fail
  rw [show w.alloc (.cells #[.int .i64 x, .int .i64 y] 31) = W from hW.out]
  refine HR.out.mono ?_
  rintro e wz ⟨rfl, rfl⟩
  go_wp2_with fail
  go_region_with ((go_at_call 50; refine HC.out.mono ?_; rintro e w2 ⟨rfl, hg⟩))
  all_goals
    go_wp2
    go_ret
    exact ⟨rfl, hg⟩
end Go.Proofs.YtaablbmgagiajabGreatDoor

/- The contract of a system's Replica. -/
namespace Go.Proofs.YtaablbmgagiajabGreatDoor
open Go.RowKit Go.Deep

theorem results_mid {P : Program} {f : Func} {tmps : Array Value} {w : World} {a b k : Tmp} {t : TypeId} {ad : Addr} {v : Value} (hf : f.results = #[.tmp a, .cell b t, .tmp k]) (hb : tmps.getD b undef = .pointer (some ad)) (hl : (loadVar t ad).run P w = .ok v w) :
    (results f tmps).run P w = .ok (.tuple #[tmps.getD a undef, v, tmps.getD k undef]) w := by
  have hb' : tmps[b]?.getD undef = .pointer (some ad) := by simpa using hb
  simp only [results, hf]
  simp [asAddr, hb', hl]

set_option maxHeartbeats 2000000 in
set_option maxRecDepth 20000 in
theorem sreplica_any (N : Nat) (D : SC) (L : RC) (win : Nat) (S : SY) (w : World) (k : Nat) (hk : k < 3) (h : SyIs w N D L win S) :
    Calls Tryz.prog 20 #[.pointer (some ⟨D.p, 0, none⟩), .int .i64 (k : Int)] w fun e w' => e = .returned (.tuple #[.int .i64 (S.rp k).cycle, .agg (stCells (S.rp k).st), .nilIface]) ∧ Below w.heap.size w w' := by
  obtain ⟨W, hW⟩ : ∃ W, Hid (w.alloc (.cells (stCells st0) 34) = W) := ⟨_, hide rfl⟩
  have hB0 : Below w.heap.size w W := by rw [← hW.out]; exact (Below.refl _ _).alloc (Nat.le_refl _) _
  have hbx : StIs W w.heap.size st0 := by rw [← hW.out]; exact blk_new _ _
  have HR := hide (sysRep_any (k : Int) W)
  rw [isRep_lt hk] at HR
  have hk' : (k : Int) < 3 := by omega
  have hS := h.below hB0
  have HSS : Hid (∀ wx, Below W.heap.size W wx → wx.cell? ⟨D.p, 3 + k, none⟩ = some (.pointer (some ⟨D.rp k, 0, none⟩)) ∧ ∃ Y, StIs wx w.heap.size Y) := hide fun wx hx => ⟨(hS.below hx).rpAt hk, st0, (hx.block _ (blk_lt hbx)).trans hbx⟩
  have HC1 : Hid (Calls Tryz.prog 53 #[.pointer (some ⟨D.rp k, 0, none⟩)] W.drew fun e w' => e = .returned (.int .i64 (S.rp k).cycle) ∧ w' = W.drew) := hide (cycle_any (D.rp k) (D.C k) (S.rp k) W.drew (hS.drew.rp k hk))
  have HC2 : Hid (Calls Tryz.prog 54 #[.pointer (some ⟨D.rp k, 0, none⟩)] W.drew fun e w' => e = .returned (.agg (stCells (S.rp k).st)) ∧ Below W.heap.size W w' ∧ StIs w' w.heap.size st0) := hide (by
    refine (rstate_any (D.rp k) (D.C k) (S.rp k) W.drew (hS.drew.rp k hk)).mono ?_
    rintro e w2 ⟨rfl, hB⟩
    have hB2 : Below W.heap.size W w2 := (Below.refl _ _).drew.trans hB
    exact ⟨rfl, hB2, (hB2.block _ (blk_lt hbx)).trans hbx⟩)
  have HB0 := hide hB0
  obtain ⟨cy, hcy⟩ : ∃ cy, Hid ((S.rp k).cycle = cy) := ⟨_, hide rfl⟩
  obtain ⟨X, hX⟩ : ∃ X, Hid ((S.rp k).st = X) := ⟨_, hide rfl⟩
  rw [hcy.out] at HC1 ⊢
  rw [hX.out] at HC2 ⊢
  have hsz : w.heap.size < W.heap.size := blk_lt hbx
  have HNE := hide (Nat.ne_of_lt hS.lt)
  have hpne : w.heap.size ≠ D.p := by have := h.lt; omega
  clear h hS hbx hB0 hcy hX
  go_enter Tryz.func20, Tryz.ntmps20
  go_wp2_with fail
  rw [show w.alloc (.cells #[.int .i64 0, .int .i64 0, .int .i64 0, .int .i64 0, .int .i64 0, .int .i64 0, .int .i64 0, .int .i64 0, .int .i64 0, .int .i64 0, .int .i64 0, .int .i64 0, .int .i64 0, .int .i64 0, .int .i64 0, .int .i64 0, .int .i64 0] 34) = W from hW.out]
  refine HR.out.mono ?_
  rintro e wz ⟨rfl, rfl⟩
  clear hW
  go_wp2_with fail
  refine wp_region_held_drew (S := fun w' => w'.cell? ⟨D.p, 3 + k, none⟩ = some (.pointer (some ⟨D.rp k, 0, none⟩)) ∧ ∃ Y, StIs w' w.heap.size Y) (by kernel_rfl) (HSS.out _ (Below.refl _ _).drew) (fun hHeld => ?_)
  refine wpAnyH_take (i := 0) (oi := _) (v := .pointer (some ⟨D.p, 0, none⟩)) rfl (by kernel_rfl) (by kernel_rfl) (by kernel_rfl) (fun _ _ _ h => h) (Or.inl ⟨by rfl, fun w _ => by go_simp⟩) hHeld ?_
  simp only [Act.put, List.getElem_toArray, List.getElem_cons_zero, List.setIfInBounds_toArray, List.set_cons_succ, List.set_cons_zero]
  refine wpAnyH_take (i := 1) (oi := _) (v := .int .i64 (k : Int)) rfl (by kernel_rfl) (by kernel_rfl) (by kernel_rfl) (fun _ _ _ h => h) (Or.inl ⟨by rfl, fun w _ => by go_simp⟩) hHeld ?_
  simp only [Act.put, List.getElem_toArray, List.getElem_cons_succ, List.getElem_cons_zero, List.setIfInBounds_toArray, List.set_cons_succ, List.set_cons_zero]
  refine wpAnyH_take (i := 2) (oi := _) (v := .pointer (some ⟨D.p, 0, none⟩)) rfl (by kernel_rfl) (by kernel_rfl) (by kernel_rfl) (fun _ _ _ h => h) (Or.inl ⟨by rfl, fun w _ => by go_simp⟩) hHeld ?_
  simp only [Act.put, List.getElem_toArray, List.getElem_cons_succ, List.getElem_cons_zero, List.setIfInBounds_toArray, List.set_cons_succ, List.set_cons_zero]
  refine wpAnyH_take (i := 3) (oi := _) (v := .pointer (some ⟨D.p, 3, none⟩)) rfl (by kernel_rfl) (by kernel_rfl) (by kernel_rfl) (fun _ _ _ h => h) (Or.inl ⟨by rfl, fun w _ => by go_simp⟩) hHeld ?_
  simp only [Act.put, List.getElem_toArray, List.getElem_cons_succ, List.getElem_cons_zero, List.setIfInBounds_toArray, List.set_cons_succ, List.set_cons_zero]
  refine wpAnyH_take (i := 4) (oi := _) (v := .pointer (some ⟨D.p, 3 + k, none⟩)) rfl (by kernel_rfl) (by kernel_rfl) (by kernel_rfl) (fun _ _ _ h => h) (Or.inl ⟨by rfl, fun w _ => by go_simp⟩) hHeld ?_
  simp only [Act.put, List.getElem_toArray, List.getElem_cons_succ, List.getElem_cons_zero, List.setIfInBounds_toArray, List.set_cons_succ, List.set_cons_zero]
  refine wpAnyH_take (i := 5) (oi := _) (v := .pointer (some ⟨D.rp k, 0, none⟩)) rfl (by kernel_rfl) (by kernel_rfl) (by kernel_rfl) (fun _ _ _ h => h) (Or.inl ⟨by rfl, fun w h => by obtain ⟨h1, _⟩ := h; go_simp⟩) hHeld ?_
  simp only [Act.put, List.getElem_toArray, List.getElem_cons_succ, List.getElem_cons_zero, List.setIfInBounds_toArray, List.set_cons_succ, List.set_cons_zero]
  refine wpAnyH_take (i := 7) (oi := _) (v := .pointer (some ⟨D.p, 0, none⟩)) rfl (by kernel_rfl) (by kernel_rfl) (by kernel_rfl) (fun _ _ _ h => h) (Or.inl ⟨by rfl, fun w _ => by go_simp⟩) hHeld ?_
  simp only [Act.put, List.getElem_toArray, List.getElem_cons_succ, List.getElem_cons_zero, List.setIfInBounds_toArray, List.set_cons_succ, List.set_cons_zero]
  refine wpAnyH_take (i := 8) (oi := _) (v := .int .i64 (k : Int)) rfl (by kernel_rfl) (by kernel_rfl) (by kernel_rfl) (fun _ _ _ h => h) (Or.inl ⟨by rfl, fun w _ => by go_simp⟩) hHeld ?_
  simp only [Act.put, List.getElem_toArray, List.getElem_cons_succ, List.getElem_cons_zero, List.setIfInBounds_toArray, List.set_cons_succ, List.set_cons_zero]
  refine wpAnyH_take (i := 9) (oi := _) (v := .pointer (some ⟨D.p, 0, none⟩)) rfl (by kernel_rfl) (by kernel_rfl) (by kernel_rfl) (fun _ _ _ h => h) (Or.inl ⟨by rfl, fun w _ => by go_simp⟩) hHeld ?_
  simp only [Act.put, List.getElem_toArray, List.getElem_cons_succ, List.getElem_cons_zero, List.setIfInBounds_toArray, List.set_cons_succ, List.set_cons_zero]
  refine wpAnyH_take (i := 10) (oi := _) (v := .pointer (some ⟨D.p, 3, none⟩)) rfl (by kernel_rfl) (by kernel_rfl) (by kernel_rfl) (fun _ _ _ h => h) (Or.inl ⟨by rfl, fun w _ => by go_simp⟩) hHeld ?_
  simp only [Act.put, List.getElem_toArray, List.getElem_cons_succ, List.getElem_cons_zero, List.setIfInBounds_toArray, List.set_cons_succ, List.set_cons_zero]
  refine wpAnyH_take (i := 11) (oi := _) (v := .pointer (some ⟨D.p, 3 + k, none⟩)) rfl (by kernel_rfl) (by kernel_rfl) (by kernel_rfl) (fun _ _ _ h => h) (Or.inl ⟨by rfl, fun w _ => by go_simp⟩) hHeld ?_
  simp only [Act.put, List.getElem_toArray, List.getElem_cons_succ, List.getElem_cons_zero, List.setIfInBounds_toArray, List.set_cons_succ, List.set_cons_zero]
  refine wpAnyH_take (i := 12) (oi := _) (v := .pointer (some ⟨D.rp k, 0, none⟩)) rfl (by kernel_rfl) (by kernel_rfl) (by kernel_rfl) (fun _ _ _ h => h) (Or.inl ⟨by rfl, fun w h => by obtain ⟨h1, _⟩ := h; go_simp⟩) hHeld ?_
  simp only [Act.put, List.getElem_toArray, List.getElem_cons_succ, List.getElem_cons_zero, List.setIfInBounds_toArray, List.set_cons_succ, List.set_cons_zero]
  refine wpAnyH_ready (rs := [6]) (by kernel_rfl) (by simp) ?_
  refine AllReadyH.cons (o := _) rfl (fun K hK => ?_) AllReadyH.nil
  rw [if_pos (by rfl)]
  go_simp
  go_at_call 53
  refine HC1.out.mono ?_
  rintro e w5 ⟨rfl, rfl⟩
  dsimp only
  refine hK.out _ _ (HSS.out _ (Below.refl _ _).drew) (fun hHeld => ?_)
  clear hK K
  refine wpAnyH_ready (rs := [13]) (by kernel_rfl) (by simp) ?_
  refine AllReadyH.cons (o := _) rfl (fun K hK => ?_) AllReadyH.nil
  rw [if_pos (by rfl)]
  go_simp
  go_at_call 54
  refine HC2.out.mono ?_
  rintro e w6 ⟨rfl, hB6, hst6⟩
  dsimp only
  refine hK.out _ _ (HSS.out _ hB6) (fun hHeld => ?_)
  clear hK K
  refine wpAnyH_take (i := 14) (oi := _) (v := .int .i64 cy) rfl (by kernel_rfl) (by kernel_rfl) (by kernel_rfl) (fun _ _ _ h => h) (Or.inl ⟨by rfl, fun w _ => by go_simp⟩) hHeld ?_
  simp only [Act.put, List.getElem_toArray, List.getElem_cons_succ, List.getElem_cons_zero, List.setIfInBounds_toArray, List.set_cons_succ, List.set_cons_zero]
  refine wpAnyH_ready (rs := [15]) (by kernel_rfl) (by simp) ?_
  refine AllReadyH.cons (o := _) rfl (fun K hK => ?_) AllReadyH.nil
  rw [if_pos (by rfl)]
  refine wp_store_row _ _ _ rfl _ _ rfl rfl _ _ hst6 (by rw [stateInfo]; rfl) rfl (oneCells X) ?_
  refine hK.out _ _ ⟨(World.cell?_of_block (w := w6) (row_other _ _ _ _ (fun e => hpne e.symm))).trans (HSS.out _ hB6).1, X, row_same hst6 X⟩ (fun hHeld => ?_)
  clear hK K
  simp only [Act.put]
  refine wpAnyH_take (i := 16) (oi := _) (v := .nilIface) rfl (by kernel_rfl) (by kernel_rfl) (by kernel_rfl) (fun _ _ _ h => h) (Or.inl ⟨by rfl, fun w _ => by go_simp⟩) hHeld ?_
  simp only [Act.put, List.getElem_toArray, List.getElem_cons_succ, List.getElem_cons_zero, List.setIfInBounds_toArray, List.set_cons_succ, List.set_cons_zero]
  refine wpAnyH_done (by kernel_rfl) ?_ _
  have HST := hide (row_same hst6 X)
  have HBB := hide (below_row (HB0.out.trans (hB6.mono (by omega))) (Nat.le_refl w.heap.size) (stCells X))
  clear hHeld hst6 hB6
  generalize w6.setRow w.heap.size (stCells X) = w7 at HST HBB ⊢
  go_wp2
  exact bodyPost_ret (results_mid rfl rfl (load_s HST.out)) rfl ⟨rfl, HBB.out⟩
end Go.Proofs.YtaablbmgagiajabGreatDoor

/- The contracts of a voter's Trace, and of slices.Clone. -/
namespace Go.Proofs.YtaablbmgagiajabGreatDoor
open Go.RowKit Go.Deep

set_option maxHeartbeats 1000000 in
theorem cloneC_any (N : Nat) (tv : Value) (l : List Cm) (w : World) (h : TIs w N tv l) (hl : l.length ≤ 1000) :
    Calls Tryz.prog 86 #[tv] w fun e w' => (∃ v, e = .returned v ∧ TIs w' w.heap.size v l) ∧ Below w.heap.size w w' := by
  rcases h.2 with ⟨rfl, h0⟩ | ⟨g, cap, cur, rfl, h1, h2, h3, h4, h5, h6⟩
  · have e : l = [] := List.length_eq_zero_iff.1 h0
    subst e
    clear h h0
    have hq : ∀ wx : World, (binOp .eql 28 (.slice none 0 0) (.slice none 0 0)).run Tryz.prog wx = .ok (.bool true) wx := fun wx => by kernel_rfl
    go_enter Tryz.func86, Tryz.ntmps86
    go_wp2
    go_ret
    exact ⟨⟨_, rfl, World.ownsRow_nil _ _ _ _⟩, Below.refl _ _⟩
  · obtain ⟨i0, hi, hz0, hz1, hz2⟩ := info_parts infoCommit
    have HI := hide hi
    have HZ0 := hide hz0
    have HZ1 := hide hz1
    have HZ2 := hide hz2
    have HT := hide h6
    have HG := hide h2
    have hgl := blk_lt h2
    have hq : ∀ wx : World, (binOp .eql 28 (.slice (some ⟨g, 0, none⟩) l.length cap) (.slice none 0 0)).run Tryz.prog wx = .ok (.bool false) wx := fun wx => Lib.run_eql_slice_nil wx _ _ _ _ _ _ _ Tryz.underlying28
    clear hi hz0 hz1 hz2 h h6 h2 h5 h4
    go_enter Tryz.func86, Tryz.ntmps86
    go_wp2_with (at_builtin; refine wpList_append_own _ rfl _ _ 28 rfl w.heap.size 49 i0 (.agg #[.int .i64 0, .int .i64 0, .int .i64 0]) 3 24 Tryz.underlying28 HI.out HZ0.out HZ1.out HZ2.out rfl (by decide) _ _ _ rfl (World.ownsRow_made w #[] 0 (Nat.le_refl _) (by unfold maxLen; omega) rfl) ⟨g, 0, none⟩ l.length cap (cmL l) rfl (cmL_length l) ?c1 ?c2 ?c3 ?c4 ?c5 ?_)
    case c1 =>
      intro j u hj
      have hj' : j < l.length * 3 := by
        have := (List.getElem?_eq_some_iff.1 hj).1
        rw [cmL_length] at this
        exact this
      have e : (⟨g, 0, none⟩ : Addr).add j = ⟨g, j, none⟩ := by unfold Addr.add; split <;> simp_all
      rw [e, World.cell?_alloc_past _ _ _ hgl, blk_cell HG.out, ← Array.getElem?_toList]
      have := HT.out
      rw [← this, List.getElem?_take, if_pos hj'] at hj
      exact hj
    case c2 => exact cmL_one l
    case c3 => unfold maxLen; omega
    case c4 => omega
    case c5 => simp
    intro v' w1 hown hgrow _
    have hold : Below w.heap.size w w1 := ((Below.refl _ _).alloc (Nat.le_refl _) _).grown hgrow (by simp) (fun j hj => by
      have : w.heap.size = j := by simpa [Value.ownBlock] using hj
      omega)
    have ht : TIs w1 w.heap.size v' l := by
      unfold TIs
      simpa using hown
    have HT1 := hide ht
    have HOLD := hide hold
    clear ht hold hown hgrow
    go_wp2
    go_ret
    exact ⟨⟨_, rfl, HT1.out⟩, HOLD.out⟩

set_option maxHeartbeats 1000000 in
theorem trace_any (N p win : Nat) (tv : Value) (S : VS) (w : World) (h : VIs w N p win tv S) (hok : VOk win S) :
    Calls Tryz.prog 42 #[.pointer (some ⟨p, 0, none⟩)] w fun e w' => (∃ v, e = .returned v ∧ TIs w' w.heap.size v S.tr) ∧ Below w.heap.size w w' := by
  have c0 : w.cell? ⟨p, 0, none⟩ = some tv := (h.at 0).trans rfl
  have HC := hide (cloneC_any N tv S.tr w h.row hok.few)
  clear h hok
  go_enter Tryz.func42, Tryz.ntmps42
  go_wp2_with (go_at_call 86; refine HC.out.mono ?_; rintro e w' ⟨⟨v, rfl, ht⟩, hB⟩)
  go_ret
  exact ⟨⟨_, rfl, ht⟩, hB⟩

end Go.Proofs.YtaablbmgagiajabGreatDoor

/- The contracts of a system's Trace, Shown, Latched, Out. -/
namespace Go.Proofs.YtaablbmgagiajabGreatDoor
open Go.RowKit Go.Deep

theorem strace_any (N : Nat) (D : SC) (L : RC) (win : Nat) (S : SY) (w : World) (h : SyIs w N D L win S) (hok : VOk win S.v) :
    Calls Tryz.prog 13 #[.pointer (some ⟨D.p, 0, none⟩)] w fun e w' => (∃ v, e = .returned v ∧ TIs w' w.heap.size v S.v.tr) ∧ Below w.heap.size w w' := by
  have c6 := h.vt6
  have HC := hide (trace_any N D.vp win D.tv S.v w h.vt hok)
  clear h hok
  go_enter Tryz.func13, Tryz.ntmps13
  go_wp2_with fail
  refine HC.out.mono ?_
  rintro e w2 ⟨⟨v, rfl, ht⟩, hB⟩
  go_wp2
  go_ret
  exact ⟨⟨v, rfl, ht⟩, hB⟩
theorem slatched_any (N : Nat) (D : SC) (L : RC) (win : Nat) (S : SY) (w : World) (h : SyIs w N D L win S) :
    Calls Tryz.prog 14 #[.pointer (some ⟨D.p, 0, none⟩)] w fun e w' => e = .returned (.bool S.v.lat) ∧ w' = w := by
  have c6 := h.vt6
  have HC := hide (latched_any N D.vp win D.tv S.v w h.vt)
  clear h
  go_enter Tryz.func14, Tryz.ntmps14
  go_wp2_with fail
  refine HC.out.mono ?_
  rintro e w2 ⟨rfl, rfl⟩
  go_wp2
  go_ret
  exact ⟨rfl, rfl⟩
theorem sout_any (N : Nat) (D : SC) (L : RC) (win : Nat) (S : SY) (w : World) (h : SyIs w N D L win S) :
    Calls Tryz.prog 17 #[.pointer (some ⟨D.p, 0, none⟩)] w fun e w' => e = .returned (.int .i64 (S.v.out : Int)) ∧ w' = w := by
  have c6 := h.vt6
  have HC := hide (out_any N D.vp win D.tv S.v w h.vt)
  clear h
  go_enter Tryz.func17, Tryz.ntmps17
  go_wp2_with fail
  refine HC.out.mono ?_
  rintro e w2 ⟨rfl, rfl⟩
  go_wp2
  go_ret
  exact ⟨rfl, rfl⟩

/-! ### Bytes, cloned -/
theorem infoByteZ : (Tryz.prog.info? 5).map (fun i => (i.zero, i.size, i.bytes)) = some (some (.int .u8 0), 1, 1) := by kernel_rfl
set_option maxHeartbeats 1000000 in
theorem cloneB_any (a : Option Addr) (len cap : Nat) (l : List Nat) (w : World) (h : IsB w a len cap l) (hl : len ≤ 1000) :
    Calls Tryz.prog 84 #[.slice a len cap] w fun e w' => (∃ v, e = .returned v ∧ w'.ownsRow w.heap.size 5 1 v len (u8s l)) ∧ Below w.heap.size w w' := by
  obtain ⟨h1, h2, h3, h4⟩ := h
  subst h1
  cases a with
  | none =>
    have e : l = [] := by
      rcases h4 with e | ⟨b, off, e, _⟩
      · exact e
      · simp at e
    subst e
    have hq : ∀ wx : World, (binOp .eql 37 (.slice none 0 cap) (.slice none 0 0)).run Tryz.prog wx = .ok (.bool true) wx := fun wx => Lib.run_eql_slice_nil wx _ _ _ _ _ _ _ Tryz.underlying37
    clear h4 h3
    go_enter Tryz.func84, Tryz.ntmps84
    go_wp2
    go_ret
    exact ⟨⟨_, rfl, World.ownsRow_nil _ _ _ _⟩, Below.refl _ _⟩
  | some ad =>
    obtain ⟨i0, hi, hz0, hz1, hz2⟩ := info_parts infoByteZ
    have HI := hide hi
    have HZ0 := hide hz0
    have HZ1 := hide hz1
    have HZ2 := hide hz2
    have H4 : Hid (∀ j u, (u8s l)[j]? = some u → (w.alloc (.cells #[] 5)).cell? (ad.add j) = some u) := hide fun j u hj => by
      have hj' : j < l.length := by have := (List.getElem?_eq_some_iff.1 hj).1; simpa [u8s] using this
      rcases h4 with e | ⟨b, off, e, hb, hr⟩
      · rw [e] at hj'; simp at hj'
      · obtain rfl := Option.some.inj e
        have e2 : (⟨b, off, none⟩ : Addr).add j = ⟨b, off + j, none⟩ := by unfold Addr.add; split <;> simp_all
        rw [e2, World.cell?_alloc_past _ _ _ hb, hr j hj']
        unfold u8s at hj
        rw [List.getElem?_map, List.getElem?_eq_getElem hj'] at hj
        rw [← hj, List.getElem?_eq_getElem hj']
        rfl
    have hq : ∀ wx : World, (binOp .eql 37 (.slice (some ad) l.length cap) (.slice none 0 0)).run Tryz.prog wx = .ok (.bool false) wx := fun wx => Lib.run_eql_slice_nil wx _ _ _ _ _ _ _ Tryz.underlying37
    clear hi hz0 hz1 hz2 h4 h3
    go_enter Tryz.func84, Tryz.ntmps84
    go_wp2_with (at_builtin; refine wpList_append_own _ rfl _ _ 37 rfl w.heap.size 5 i0 (.int .u8 0) 1 1 Tryz.underlying37 HI.out HZ0.out HZ1.out HZ2.out rfl (by decide) _ _ _ rfl (World.ownsRow_made w #[] 0 (Nat.le_refl _) (by unfold maxLen; omega) rfl) ad l.length cap (u8s l) rfl ?c0 ?c1 ?c2 ?c3 ?c4 ?c5 ?_)
    case c0 => simp [u8s]
    case c1 => exact H4.out
    case c2 => exact u8s_one l
    case c3 => unfold maxLen; omega
    case c4 => omega
    case c5 => simp
    intro v' w1 hown hgrow _
    have hold : Below w.heap.size w w1 := ((Below.refl _ _).alloc (Nat.le_refl _) _).grown hgrow (by simp) (fun j hj => by
      have : w.heap.size = j := by simpa [Value.ownBlock] using hj
      omega)
    have ht : w1.ownsRow w.heap.size 5 1 v' l.length (u8s l) := by simpa using hown
    have HT1 := hide ht
    have HOLD := hide hold
    clear ht hold hown hgrow
    go_wp2
    go_ret
    exact ⟨⟨_, rfl, HT1.out⟩, HOLD.out⟩
end Go.Proofs.YtaablbmgagiajabGreatDoor

/- The contract of a system's Says. -/
namespace Go.Proofs.YtaablbmgagiajabGreatDoor
open Go.RowKit Go.Deep

set_option maxHeartbeats 1000000 in
set_option maxRecDepth 20000 in
theorem says_any (N : Nat) (D : SC) (L : RC) (win : Nat) (S : SY) (w : World) (k dst : Nat) (a : Option Addr) (len cap : Nat) (l : List Nat) (hk : k < 3) (hd : dst ≤ 3) (hkd : k ≠ dst) (h : SyIs w N D L win S) (hb : IsB w a len cap l) (hl : len ≤ 1000) (hle : S.net.length ≤ 120) (hN : N ≤ w.heap.size) :
    Calls Tryz.prog 40 #[.pointer (some ⟨D.p, 0, none⟩), .int .i64 (k : Int), .int .i64 (dst : Int), .slice a len cap] w fun e w' => (∃ v, e = .returned v) ∧ SyGo w w' N D L win (if len ≤ 80 then putSy ⟨k, dst, l⟩ S else S) := by
  have HR1 := hide (sysRep_any (k : Int) w)
  rw [isRep_lt hk] at HR1
  have HR2 := hide (sysRep_any (dst : Int) w)
  have hne : ((k : Int) == (dst : Int)) = false := by simp; omega
  have hpost : ∀ (b : Bool), isRep (dst : Int) = b → (!b && ((dst : Int) != 3)) = false := by
    rintro b rfl
    unfold isRep
    rcases (by omega : dst = 0 ∨ dst = 1 ∨ dst = 2 ∨ dst = 3) with rfl | rfl | rfl | rfl <;> rfl
  by_cases h80 : len ≤ 80
  · rw [if_pos h80]
    have h80' : ¬ (80 : Int) < (len : Int) := by omega
    have HC : Hid (Calls Tryz.prog 84 #[.slice a len cap] w fun e w1 => ∃ va vn vc, e = .returned (.slice va vn vc) ∧ Hid (Calls Tryz.prog 77 #[.pointer (some ⟨D.p, 0, none⟩), .agg #[.int .i64 (k : Int), .int .i64 (dst : Int), .slice va vn vc]] w1 fun e w' => e = .returned (.tuple #[]) ∧ SyGo w w' N D L win (putSy ⟨k, dst, l⟩ S))) := hide (by
      refine (cloneB_any a len cap l w hb hl).mono ?_
      rintro e w1 ⟨⟨v, rfl, hv⟩, hB⟩
      have hbs : BytesIs w1 v l := bytes_own hb.2.2.1 (by rw [hb.1]; exact hv)
      obtain ⟨va, vc, hve⟩ : ∃ va vc, v = .slice va l.length vc := by obtain ⟨_, x, c, e, _⟩ := hbs; exact ⟨x, c, e⟩
      subst hve
      refine ⟨va, _, vc, rfl, hide ?_⟩
      refine (syput_any N D L win S w1 ⟨k, dst, l⟩ _ (h.below hB) hbs (Nat.le_trans hN hB.size) hle).mono ?_
      rintro e w2 ⟨rfl, hg⟩
      exact ⟨rfl, hg.pre hB⟩)
    cases hr : isRep (dst : Int)
    · rw [hr] at HR2
      have h3 : ((dst : Int) != 3) = false := by simpa using hpost false hr
      clear h hb hpost hr
      go_enter Tryz.func40, Tryz.ntmps40
      go_wp2_with fail
      refine HR1.out.mono ?_
      rintro e wz ⟨rfl, rfl⟩
      go_wp2_with fail
      refine HR2.out.mono ?_
      rintro e wz ⟨rfl, rfl⟩
      go_wp2_with fail
      refine HC.out.mono ?_
      rintro e w1 ⟨va, vn, vc, rfl, HP⟩
      go_wp2_with fail
      refine HP.out.mono ?_
      rintro e w2 ⟨rfl, hg⟩
      go_wp2
      go_ret
      exact ⟨⟨_, rfl⟩, hg⟩
    · rw [hr] at HR2
      clear h hb hpost hr
      go_enter Tryz.func40, Tryz.ntmps40
      go_wp2_with fail
      refine HR1.out.mono ?_
      rintro e wz ⟨rfl, rfl⟩
      go_wp2_with fail
      refine HR2.out.mono ?_
      rintro e wz ⟨rfl, rfl⟩
      go_wp2_with fail
      refine HC.out.mono ?_
      rintro e w1 ⟨va, vn, vc, rfl, HP⟩
      go_wp2_with fail
      refine HP.out.mono ?_
      rintro e w2 ⟨rfl, hg⟩
      go_wp2
      go_ret
      exact ⟨⟨_, rfl⟩, hg⟩
  · rw [if_neg h80]
    have h80' : (80 : Int) < (len : Int) := by omega
    have HG := hide h.goes
    cases hr : isRep (dst : Int)
    · rw [hr] at HR2
      have h3 : ((dst : Int) != 3) = false := by simpa using hpost false hr
      clear h hb hpost hr
      go_enter Tryz.func40, Tryz.ntmps40
      go_wp2_with fail
      refine HR1.out.mono ?_
      rintro e wz ⟨rfl, rfl⟩
      go_wp2_with fail
      refine HR2.out.mono ?_
      rintro e wz ⟨rfl, rfl⟩
      go_wp2
      go_ret
      exact ⟨⟨_, rfl⟩, HG.out⟩
    · rw [hr] at HR2
      clear h hb hpost hr
      go_enter Tryz.func40, Tryz.ntmps40
      go_wp2_with fail
      refine HR1.out.mono ?_
      rintro e wz ⟨rfl, rfl⟩
      go_wp2_with fail
      refine HR2.out.mono ?_
      rintro e wz ⟨rfl, rfl⟩
      go_wp2
      go_ret
      exact ⟨⟨_, rfl⟩, HG.out⟩
end Go.Proofs.YtaablbmgagiajabGreatDoor

/- The contract of a system's Crash. -/
namespace Go.Proofs.YtaablbmgagiajabGreatDoor
open Go.RowKit Go.Deep

/-- A system's own block, whoever its replicas are. -/
def syC (L : RC) (g0 c0 : Nat) (r : Nat → Value) (v nv lo : Value) : Array Value := #[.int .i64 (L.s : Int), .slice (some ⟨g0, 0, none⟩) L.n c0, .int .i64 (L.d : Int), r 0, r 1, r 2, v, nv, lo]
theorem syC_put (L : RC) (g0 c0 : Nat) (r : Nat → Value) (v nv lo u : Value) {k : Nat} (hk : k < 3) : (syC L g0 c0 r v nv lo).setIfInBounds (3 + k) u = syC L g0 c0 (upd r k u) v nv lo := by
  rcases (by omega : k = 0 ∨ k = 1 ∨ k = 2) with rfl | rfl | rfl <;> rfl
theorem syC_at (L : RC) (g0 c0 : Nat) (r : Nat → Value) (v nv lo : Value) {k : Nat} (hk : k < 3) : (syC L g0 c0 r v nv lo)[3 + k]? = some (r k) := by
  rcases (by omega : k = 0 ∨ k = 1 ∨ k = 2) with rfl | rfl | rfl <;> rfl
/-- All blocks of a replica lie from B on. -/
def FromB (B q : Nat) (C : RC) : Prop := B ≤ q ∧ B ≤ C.pc ∧ B ≤ C.g ∧ B ≤ C.M ∧ B ≤ C.g2

set_option maxHeartbeats 1000000 in
set_option maxRecDepth 20000 in
theorem crash_low (p g0 c0 : Nat) (L : RC) (r : Nat → Value) (v nv lo : Value) (k : Nat) (w : World) (hk : k < 3) (hL : LOk L) (hb : w.heap[p]? = some (.cells (syC L g0 c0 r v nv lo) 90 (0, 0))) (hrow : Row w g0 0 L.zs) (hlt : g0 < w.heap.size) (hcap : L.n ≤ c0) :
    Calls Tryz.prog 38 #[.pointer (some ⟨p, 0, none⟩), .int .i64 (k : Int)] w fun e w' => e = .returned .nilIface ∧ ∃ q C, FromB w.heap.size q C ∧ LineIs C L ∧ RpIs w' q C (new0 k) ∧ w'.heap[p]? = some (.cells (syC L g0 c0 (upd r k (.pointer (some ⟨q, 0, none⟩))) v nv lo) 90 (0, 0)) ∧ Mod w w' (· = p) := by
  have c0' : w.cell? ⟨p, 0, none⟩ = some (.int .i64 (L.s : Int)) := (blk_cell hb 0).trans rfl
  have c1 : w.cell? ⟨p, 1, none⟩ = some (.slice (some ⟨g0, 0, none⟩) L.n c0) := (blk_cell hb 1).trans rfl
  have c2 : w.cell? ⟨p, 2, none⟩ = some (.int .i64 (L.d : Int)) := (blk_cell hb 2).trans rfl
  have hk' : (k : Int) < 3 := by omega
  have hpl := blk_lt hb
  have hcall : Calls Tryz.prog 80 #[.int .i64 (k : Int), .agg #[.int .i64 (L.s : Int), .slice (some ⟨g0, 0, none⟩) L.n c0, .int .i64 (L.d : Int)]] w fun e w1 => ∃ q C, e = .returned (.tuple #[.pointer (some ⟨q, 0, none⟩), .nilIface]) ∧ (w1.cell? ⟨p, 3 + k, none⟩ = some (r k) ∧ w1.frozen? ⟨p, 3 + k, none⟩ = false) ∧
      Hid (FromB w.heap.size q C ∧ LineIs C L ∧ RpIs (w1.setCell ⟨p, 3 + k, none⟩ (.pointer (some ⟨q, 0, none⟩))) q C (new0 k) ∧ (w1.setCell ⟨p, 3 + k, none⟩ (.pointer (some ⟨q, 0, none⟩))).heap[p]? = some (.cells (syC L g0 c0 (upd r k (.pointer (some ⟨q, 0, none⟩))) v nv lo) 90 (0, 0)) ∧ Mod w (w1.setCell ⟨p, 3 + k, none⟩ (.pointer (some ⟨q, 0, none⟩))) (· = p)) := by
    refine (rnew_ok k L.s L.d g0 0 L.n c0 L.zs w hk hL.len hL.ok hlt hrow hcap).mono ?_
    rintro e w1 ⟨⟨q, C, q1, q2, q3, q4, q5, e1, e2, e3, e4, rfl, hR⟩, hB⟩
    have hb1 := (hB.block p hpl).trans hb
    have hm : Mod w1 (w1.setCell ⟨p, 3 + k, none⟩ (.pointer (some ⟨q, 0, none⟩))) (· = p) := (Mod.refl _ _).set _ _ (fun _ => rfl)
    refine ⟨q, C, rfl, ⟨(blk_cell hb1 _).trans (syC_at L g0 c0 r v nv lo hk), blk_free hb1 _⟩, hide ⟨⟨q1, q2, q3, q4, q5⟩, ⟨e1, e2, e3, e4⟩, hR.other hm ⟨by omega, by omega, by omega, by omega, by omega⟩, ?_, (Mod.ofBelow hB _).set _ _ (fun _ => rfl)⟩⟩
    rw [blk_set hb1, syC_put _ _ _ _ _ _ _ _ hk]
  have HC := hide hcall
  clear hcall hb hrow hL
  go_enter Tryz.func38, Tryz.ntmps38
  go_wp2_with fail
  refine HC.out.mono ?_
  rintro e w1 ⟨q, C, rfl, ⟨z0, z1⟩, HM⟩
  go_wp2
  go_ret
  exact ⟨rfl, q, C, HM.out⟩

theorem syCells_eq (D : SC) (L : RC) : syCells D L = syC L D.g0 D.c0 (fun j => .pointer (some ⟨D.rp j, 0, none⟩)) (.pointer (some ⟨D.vp, 0, none⟩)) D.nv (.int .i64 D.lost) := rfl
theorem upd_ptr (rp : Nat → Nat) (k q : Nat) : upd (fun j => Value.pointer (some ⟨rp j, 0, none⟩)) k (.pointer (some ⟨q, 0, none⟩)) = fun j => .pointer (some ⟨upd rp k q j, 0, none⟩) := by
  funext j
  unfold upd
  split <;> rfl
theorem crash_any (N : Nat) (D : SC) (L : RC) (win : Nat) (S : SY) (w : World) (k : Nat) (hk : k < 3) (hL : LOk L) (h : SyIs w N D L win S) (hN : N ≤ w.heap.size) :
    Calls Tryz.prog 38 #[.pointer (some ⟨D.p, 0, none⟩), .int .i64 (k : Int)] w fun e w' => e = .returned .nilIface ∧ SyGo w w' N D L win (crashSy k S) := by
  refine (crash_low D.p D.g0 D.c0 L _ _ _ _ k w hk hL (by rw [← syCells_eq]; exact h.blk) h.row h.lt0 h.cap0).mono ?_
  rintro e w' ⟨rfl, q, C, hF, hl, hR, hb, hm⟩
  refine ⟨rfl, ?_⟩
  obtain ⟨f1, f2, f3, f4, f5⟩ := hF
  rw [upd_ptr] at hb
  have hT : ∀ j, j = D.p → Wr D j := fun j hj => .inl hj
  obtain ⟨_, ⟨h2, h3⟩, h4, h5, h6⟩ := h.part hm hT
  have hw : ∀ x, Wr ⟨D.p, D.g0, D.c0, upd D.rp k q, upd D.C k C, D.vp, D.tv, D.nv, D.us, D.lost⟩ x → Wr D x ∨ x = q := fun x hx => by
    rcases hx with y | y | ⟨j, hj, y⟩ | y | y
    · exact .inl (.inl y)
    · exact .inl (.inr (.inl y))
    · by_cases e : j = k
      · right
        have y' : x = upd D.rp k q j := y
        rw [e, upd_same] at y'; exact y'
      · left
        have y' : x = upd D.rp k q j := y
        rw [upd_other _ _ e] at y'
        exact .inr (.inr (.inl ⟨j, hj, y'⟩))
    · exact .inl (.inr (.inr (.inr (.inl y))))
    · exact .inl (.inr (.inr (.inr (.inr y))))
  have hs : ∀ y, Sta ⟨D.p, D.g0, D.c0, upd D.rp k q, upd D.C k C, D.vp, D.tv, D.nv, D.us, D.lost⟩ y → Sta D y ∨ (y = C.pc ∨ y = C.g ∨ y = C.M ∨ y = C.g2) := fun y hy => by
    rcases hy with z | ⟨j, hj, z⟩
    · exact .inl (.inl z)
    · by_cases e : j = k
      · right
        have z' : y = (upd D.C k C j).pc ∨ y = (upd D.C k C j).g ∨ y = (upd D.C k C j).M ∨ y = (upd D.C k C j).g2 := z
        rw [e, upd_same] at z'; exact z'
      · left
        have z' : y = (upd D.C k C j).pc ∨ y = (upd D.C k C j).g ∨ y = (upd D.C k C j).M ∨ y = (upd D.C k C j).g2 := z
        rw [upd_other _ _ e] at z'
        exact .inr ⟨j, hj, z'⟩
  have hlt : ∀ j, j < 3 → D.rp j < w.heap.size := fun j hj => (h.tyR hj).lt
  refine ⟨⟨D.p, D.g0, D.c0, upd D.rp k q, upd D.C k C, D.vp, D.tv, D.nv, D.us, D.lost⟩, rfl, ⟨hb, h2, h3, h.cap0, fun j hj => ?_, fun j hj => ?_, fun i j hi hj hij => ?_, h5 fun x hx e => ?_, h6 fun g hg e => (h.ne7 g hg) e, fun x y hx hy e => ?_, fun x hx => ?_, fun y hy => ?_⟩, hm.mono fun i _ hi => hT i hi, fun x hx => (hw x hx).imp id fun e => by omega, fun y hy => (hs y hy).imp id fun e => by omega⟩
  · show RpIs w' (upd D.rp k q j) (upd D.C k C j) (upd S.rp k (new0 k) j)
    by_cases e : j = k
    · rw [e, upd_same, upd_same, upd_same]; exact hR
    · rw [upd_other _ _ e, upd_other _ _ e, upd_other _ _ e]; exact h4 j hj (fun x => (h.tyR hj).ne h.tyP (by decide) x)
  · show LineIs (upd D.C k C j) L
    by_cases e : j = k
    · rw [e, upd_same]; exact hl
    · rw [upd_other _ _ e]; exact h.ln j hj
  · show upd D.rp k q i ≠ upd D.rp k q j
    have li := hlt i hi
    have lj := hlt j hj
    by_cases e : i = k
    · rw [e, upd_same, upd_other _ _ (by omega)]; omega
    · rw [upd_other _ _ e]
      by_cases e2 : j = k
      · rw [e2, upd_same]; omega
      · rw [upd_other _ _ e2]; exact h.ne i j hi hj hij
  · rcases hx with hx | hx
    · exact h.tyV.ne h.tyP (by decide) (hx.symm.trans e)
    · exact (h.tyT hx).ne h.tyP (by decide) e
  · rcases hw x hx with a | a
    · rcases hs y hy with b | b
      · exact h.sep x y a b e
      · have := h.wrLt a
        omega
    · rcases hs y hy with b | b
      · have := h.staLt b
        omega
      · have := hR.ap
        omega
  · rcases hw x hx with a | a
    · exact h.base x a
    · omega
  · rcases hs y hy with b | b
    · exact h.sbase y b
    · omega
end Go.Proofs.YtaablbmgagiajabGreatDoor
