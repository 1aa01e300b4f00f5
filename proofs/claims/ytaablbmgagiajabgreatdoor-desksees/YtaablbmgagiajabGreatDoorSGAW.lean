import Derived.Test.YtaablbmgagiajabGreatDoorSGAV
import Derived.Deep.RegionHeld
import Derived.Lib.SliceRun
import Derived.Test.YtaablbmgagiajabGreatDoorSGAO
namespace Go.Proofs.YtaablbmgagiajabGreatDoor
open Go.RowKit Go.Deep
def roundTo (L : RC) (win : Nat) (S S' : SY) : Prop := ∃ m0 m1 m2, (runAll L win m0 S).net = [] ∧ (runAll L win m1 (ticksSy L (runAll L win m0 S))).net = [] ∧ (runAll L win m2 (ticksSy L (runAll L win m1 (ticksSy L (runAll L win m0 S))))).net = [] ∧ S' = vtickSy (runAll L win m2 (ticksSy L (runAll L win m1 (ticksSy L (runAll L win m0 S)))))
def calmTo (L : RC) (win : Nat) : Nat → SY → SY → Prop
  | 0, S, S' => S' = S
  | n + 1, S, S' => ∃ S1, roundTo L win S S1 ∧ calmTo L win n S1 S'
section
variable {L : RC} {W : Seen} {win T n k : Nat} {S S1 : SY}
theorem SInv.ticks (hW : ∀ j n x b, W j n x b) (h : SInv L W 3 win T S) : SInv L W 3 win (T + 3) (ticksSy L S) := by
  have one : ∀ {T : Nat} {S : SY} {k : Nat}, k < 3 → SInv L W 3 win T S → SInv L W 3 win (T + 1) (tickSy L k S) := fun {T S k} hk h => by
    obtain ⟨n, c1, _⟩ := (h.rp k hk).cyc
    exact h.tick hk c1 fun _ => ⟨fun _ _ => hW _ _ _ _, fun _ _ => hW _ _ _ _⟩
  exact one (by omega) (one (by omega) (one (by omega) h))
structure Stand (L : RC) (W : Seen) (win T b : Nat) (S : SY) : Prop where
  inv : SInv L W 3 win T S
  net : S.net = []
  lat : S.v.lat = false
  left : b ≤ S.v.left
  wins : b ≤ win
theorem Half.few {S' : SY} (h : Half L W win T (ticksSy L S) S') : S.v.tr.length ≤ S'.v.tr.length ∧ S'.v.tr.length ≤ S.v.tr.length + 1 := by
  rcases h.how with ⟨⟨k, _, _, _, e⟩, _, _⟩ | ⟨e, _⟩
  · rw [e, ticks_v]; simp
  · rw [e, ticks_v]; omega
theorem Stand.tick {b : Nat} (h : Stand L W win T (b + 2) S) : Stand L W win T (b + 1) (vtickSy S) := by
  have hl := h.left
  have e : tickF S.v = ⟨S.v.tr, S.v.b, S.v.x, S.v.left - 1, S.v.out, S.v.left - 1 == 0⟩ := by unfold tickF; rw [h.lat]; rfl
  refine ⟨h.inv.vtick, h.net, ?_, ?_, by have := h.wins; omega⟩
  · show (tickF S.v).lat = false
    rw [e]
    show (S.v.left - 1 == 0) = false
    simp; omega
  · show b + 1 ≤ (tickF S.v).left
    rw [e]
    show b + 1 ≤ S.v.left - 1
    omega
end
end Go.Proofs.YtaablbmgagiajabGreatDoor
namespace Go.Proofs.YtaablbmgagiajabGreatDoor
open Go.RowKit Go.Deep
def CSeen (L : RC) (W : Seen) (liar : Nat) (S : SY) : Prop := ∀ k, k < 3 → k ≠ liar → ∀ n : Nat, (S.rp k).cycle ≤ n → SeenN W k n (fitN L.s (S.rp k).sx) (fitN L.n (S.rp k).sy)
structure ClInv (L : RC) (W : Seen) (liar win T : Nat) (S : SY) : Prop where
  inv : SInv L W liar win T S
  seen : CSeen L W liar S
section
variable {L : RC} {W : Seen} {liar win T n k : Nat} {S : SY}
theorem takeS_sees (F : FR) (R : RS) : (takeS L F R).sx = R.sx ∧ (takeS L F R).sy = R.sy := by
  unfold takeS
  split
  · unfold doneR
    split
    · exact ⟨rfl, rfl⟩
    · split <;> exact ⟨rfl, rfl⟩
  · split
    · exact ⟨rfl, rfl⟩
    · split
      · exact ⟨rfl, rfl⟩
      · split
        · exact ⟨rfl, rfl⟩
        · split
          · unfold learnR
            split <;> exact ⟨rfl, rfl⟩
          · exact ⟨rfl, rfl⟩
theorem CSeen.arrive (h : CSeen L W liar S) (i : Nat) : CSeen L W liar (arriveSy L win i S) := by
  intro k hk hl n hn
  have key : (S.rp k).cycle ≤ ((arriveSy L win i S).rp k).cycle ∧ ((arriveSy L win i S).rp k).sx = (S.rp k).sx ∧ ((arriveSy L win i S).rp k).sy = (S.rp k).sy := by
    unfold arriveSy comeSy
    split
    · exact ⟨Int.le_refl _, rfl, rfl⟩
    · split
      · exact ⟨Int.le_refl _, rfl, rfl⟩
      · show (S.rp k).cycle ≤ (upd S.rp _ _ k).cycle ∧ (upd S.rp _ _ k).sx = _ ∧ (upd S.rp _ _ k).sy = _
        by_cases e : k = (pkAt S.net i).dst
        · rw [← e, upd_same]; exact ⟨takeS_cycle _ _, takeS_sees _ _⟩
        · rw [upd_other _ _ e]; exact ⟨Int.le_refl _, rfl, rfl⟩
  rw [key.2.1, key.2.2]
  exact h k hk hl n (Int.le_trans key.1 hn)
theorem ClInv.runAll (hL : LOk L) : ∀ (m : Nat) (S : SY), ClInv L W liar win T S → ClInv L W liar win T (runAll L win m S)
  | 0, _, h => h
  | m + 1, S, h => by
    cases hnet : S.net with
    | nil => rw [runAll_nil hnet]; exact h
    | cons p l => exact ClInv.runAll hL m _ ⟨(h.inv.arrive hL (by rw [hnet]; simp)).1, h.seen.arrive 0⟩
theorem ClInv.tick (h : ClInv L W liar win T S) (hk : k < 3) : ClInv L W liar win (T + 1) (tickSy L k S) := by
  obtain ⟨n, c1, _⟩ := (h.inv.rp k hk).cyc
  refine ⟨h.inv.tick hk c1 fun hl => h.seen k hk hl n (by omega), fun j hj hl n hn => ?_⟩
  have key : ((tickSy L k S).rp j).cycle = (S.rp j).cycle ∧ ((tickSy L k S).rp j).sx = (S.rp j).sx ∧ ((tickSy L k S).rp j).sy = (S.rp j).sy := by
    show (upd S.rp k _ j).cycle = _ ∧ (upd S.rp k _ j).sx = _ ∧ (upd S.rp k _ j).sy = _
    by_cases e : j = k
    · subst e; rw [upd_same]; exact ⟨rfl, rfl, rfl⟩
    · rw [upd_other _ _ e]; exact ⟨rfl, rfl, rfl⟩
  rw [key.2.1, key.2.2]
  exact h.seen j hj hl n (by rw [key.1] at hn; exact hn)
theorem ClInv.vtick (h : ClInv L W liar win T S) : ClInv L W liar win T (vtickSy S) := ⟨h.inv.vtick, h.seen⟩
def tickTo (L : RC) (S : SY) : Nat → SY
  | 0 => S
  | k + 1 => tickSy L k (tickTo L S k)
theorem ClInv.ticks (h : ClInv L W liar win T S) : ∀ k, k ≤ 3 → ClInv L W liar win (T + k) (tickTo L S k)
  | 0, _ => h
  | k + 1, hk => (h.ticks k (by omega)).tick (by omega)
def halfTo (L : RC) (win : Nat) : Nat → SY → SY → Prop
  | 0, S, S' => S' = S
  | j + 1, S, S' => ∃ S1 m, halfTo L win j S S1 ∧ S' = runAll L win m (ticksSy L S1) ∧ S'.net = []
theorem round_of {m : Nat} {S1 S2 : SY} (hm : (runAll L win m S).net = []) (hh : halfTo L win 2 (runAll L win m S) S2) (e : S1 = vtickSy S2) : roundTo L win S S1 := by
  obtain ⟨A, m2, ⟨B, m1, hB, hA, nA⟩, h2, n2⟩ := hh
  have hB' : B = runAll L win m S := hB
  subst hB'
  subst hA
  subst h2
  exact ⟨m, m1, m2, hm, nA, n2, e⟩
theorem calm_snoc {S' S2 : SY} : ∀ {k : Nat} {S : SY}, calmTo L win k S S' → roundTo L win S' S2 → calmTo L win (k + 1) S S2
  | 0, S, h, hr => by
    have e : S' = S := h
    subst e
    exact ⟨S2, hr, rfl⟩
  | k + 1, S, ⟨A, hA, hk⟩, hr => ⟨A, hA, calm_snoc hk hr⟩
end
end Go.Proofs.YtaablbmgagiajabGreatDoor
namespace Go.Proofs.YtaablbmgagiajabGreatDoor
open Go.RowKit Go.Deep
theorem SyIs.vt6 {w : World} {N win : Nat} {D : SC} {L : RC} {S : SY} (h : SyIs w N D L win S) : w.cell? ⟨D.p, 6, none⟩ = some (.pointer (some ⟨D.vp, 0, none⟩)) := (h.at 6).trans rfl
set_option maxHeartbeats 4000000 in
set_option maxRecDepth 20000 in
theorem calm_any {W : Seen} {liar T : Nat} (N : Nat) (D : SC) (L : RC) (win : Nat) (S : SY) (w : World) (n : Nat) (h : SyIs w N D L win S) (hI : ClInv L W liar win T S) (hL : LOk L) (hT : T + 6 * n < 7000000) (hn : n ≤ 1000) (hN : N ≤ w.heap.size) :
    Calls Tryz.prog 16 #[.pointer (some ⟨D.p, 0, none⟩), .int .i64 (n : Int)] w fun e w' => e = .returned (.tuple #[]) ∧ ∃ S', calmTo L win n S S' ∧ ClInv L W liar win (T + 6 * n) S' ∧ SyGo w w' N D L win S' := by
  have HST : Hid (∃ S', calmTo L win 0 S S' ∧ ClInv L W liar win (T + 6 * 0) S' ∧ SyGo w w N D L win S') := hide ⟨S, rfl, hI, h.goes⟩
  have HL := hide hL
  have hall : ∀ (wr : World) (S' : SY) (T' : Nat), T' < 8000000 → ClInv L W liar win T' S' → SyGo w wr N D L win S' → Calls Tryz.prog 45 #[.pointer (some ⟨D.p, 0, none⟩)] wr fun e w' => e = .returned (.tuple #[]) ∧ Hid (∃ m, (runAll L win m S').net = [] ∧ ClInv L W liar win T' (runAll L win m S') ∧ SyGo w w' N D L win (runAll L win m S')) := by
    intro wr S' T' hT' hI' hg
    obtain ⟨D1, hp1, hS1, hm1, hg1⟩ := hg
    obtain ⟨m, hm⟩ := hI'.inv.ends HL.out
    have hc := arriveAll_any N D1 L win S' wr m hS1 hI'.inv HL.out hT' (Nat.le_trans hN hm1.size) hm
    rw [hp1] at hc
    refine hc.mono ?_
    rintro e w2 ⟨rfl, hg⟩
    exact ⟨rfl, hide ⟨m, hm, ClInv.runAll HL.out m S' hI', SyGo.then hp1 hm1 hg1 hg⟩⟩
  have htick : ∀ (wr : World) (S' : SY) (T' k : Nat), k < 3 → T' < 8000000 → ClInv L W liar win T' S' → SyGo w wr N D L win S' → Calls Tryz.prog 46 #[.pointer (some ⟨D.p, 0, none⟩), .int .i64 (k : Int)] wr fun e w' => e = .returned (.tuple #[]) ∧ Hid (ClInv L W liar win (T' + 1) (tickSy L k S') ∧ SyGo w w' N D L win (tickSy L k S')) := by
    intro wr S' T' k hk hT' hI' hg
    obtain ⟨D1, hp1, hS1, hm1, hg1⟩ := hg
    obtain ⟨hok, _⟩ := (hI'.inv.rp k hk).ok hk HL.out hT' hI'.inv.vok.few
    have hc := tickRep_any N D1 L win S' wr k hk hS1 hok (hI'.inv.rp k hk).id (Nat.le_trans hN hm1.size) hI'.inv.many
    rw [hp1] at hc
    refine hc.mono ?_
    rintro e w2 ⟨rfl, hg⟩
    exact ⟨rfl, hide ⟨hI'.tick hk, SyGo.then hp1 hm1 hg1 hg⟩⟩
  have hvt : ∀ (wr : World) (S' : SY) (T' : Nat), ClInv L W liar win T' S' → SyGo w wr N D L win S' → ∃ vp : Nat, wr.cell? ⟨D.p, 6, none⟩ = some (.pointer (some ⟨vp, 0, none⟩)) ∧ Hid (Calls Tryz.prog 47 #[.pointer (some ⟨vp, 0, none⟩)] wr fun e w' => e = .returned (.tuple #[]) ∧ SyGo w w' N D L win (vtickSy S')) := by
    intro wr S' T' hI' hg
    obtain ⟨D1, hp1, hS1, hm1, hg1⟩ := hg
    refine ⟨D1.vp, by rw [← hp1]; exact hS1.vt6, hide ?_⟩
    refine (tick_any N D1.vp win D1.tv S'.v wr hS1.vt hI'.inv.vok).mono ?_
    rintro e w2 ⟨rfl, hV, hm⟩
    exact ⟨rfl, SyGo.then hp1 hm1 hg1 (hS1.putV hm hV (Moved.refl _ _))⟩
  have HALL := hide hall
  have HTK := hide htick
  have HVT := hide hvt
  clear hall htick hvt h hI hL
  go_enter Tryz.func16, Tryz.ntmps16
  go_wp2_with fail
  go_loopw [6] (fun j wr => ∃ k : Nat, k ≤ n ∧ j = .int .i64 k ∧ ∃ S', calmTo L win k S S' ∧ ClInv L W liar win (T + 6 * k) S' ∧ SyGo w wr N D L win S') (fun j _ => n - (intOf j).toNat)
  case atStart => exact ⟨0, by omega, rfl, HST.out⟩
  case round =>
    obtain ⟨k, hk, rfl, S', hcal, hI', hgo⟩ := hrel
    clear HST
    by_cases hkn : k < n
    · have hk' : (k : Int) < (n : Int) := by omega
      have HC1 := hide (HALL.out wr S' (T + 6 * k) (by omega) hI' hgo)
      have HCAL := hide hcal
      clear hcal hI' hgo
      go_wp2_with fail
      refine HC1.out.mono ?_
      rintro e w1 ⟨rfl, HG1⟩
      clear HC1
      obtain ⟨m0, hm0, hI0, hg0⟩ := HG1.out
      obtain ⟨S0, hS0⟩ : ∃ S0, Hid (runAll L win m0 S' = S0) := ⟨_, hide rfl⟩
      rw [hS0.out] at hm0 hI0 hg0
      have HM0 := hide hm0
      have HS2 : Hid (∃ S2, halfTo L win 0 S0 S2 ∧ ClInv L W liar win (T + 6 * k + 3 * 0) S2 ∧ SyGo w w1 N D L win S2) := hide ⟨S0, rfl, hI0, hg0⟩
      clear HG1 hm0 hI0 hg0
      go_wp2_with fail
      go_loopw [10] (fun j wr => ∃ a : Nat, a ≤ 2 ∧ j = .int .i64 a ∧ ∃ S2, halfTo L win a S0 S2 ∧ ClInv L W liar win (T + 6 * k + 3 * a) S2 ∧ SyGo w wr N D L win S2) (fun j _ => 2 - (intOf j).toNat)
      case atStart => exact ⟨0, by omega, rfl, HS2.out⟩
      case round =>
        obtain ⟨a, ha, rfl, S2, hh, hI2, hg2⟩ := hrel
        clear HS2
        by_cases ha2 : a < 2
        · have ha' : (a : Int) < 2 := by omega
          have HH := hide hh
          have HS3 : Hid (ClInv L W liar win (T + 6 * k + 3 * a + 0) (tickTo L S2 0) ∧ SyGo w wr N D L win (tickTo L S2 0)) := hide ⟨hI2, hg2⟩
          clear hh hI2 hg2
          go_wp2_with fail
          go_loopw [12] (fun j wr => ∃ b : Nat, b ≤ 3 ∧ j = .int .i64 b ∧ ClInv L W liar win (T + 6 * k + 3 * a + b) (tickTo L S2 b) ∧ SyGo w wr N D L win (tickTo L S2 b)) (fun j _ => 3 - (intOf j).toNat)
          case atStart => exact ⟨0, by omega, rfl, HS3.out⟩
          case round =>
            obtain ⟨b, hb, rfl, hI3, hg3⟩ := hrel
            clear HS3
            by_cases hb3 : b < 3
            · have hb' : (b : Int) < 3 := by omega
              have HC3 := hide (HTK.out wr (tickTo L S2 b) (T + 6 * k + 3 * a + b) b hb3 (by omega) hI3 hg3)
              clear hI3 hg3
              go_wp2_with fail
              refine HC3.out.mono ?_
              rintro e w3 ⟨rfl, HG3⟩
              clear HC3
              go_wp2
              go_roundw
              case rel => exact ⟨b + 1, by omega, by go_num, HG3.out⟩
              case measure => simp [intOf]; omega
            · have e3 : b = 3 := by omega
              subst e3
              have HC4 := hide (HALL.out wr (tickTo L S2 3) (T + 6 * k + 3 * a + 3) (by omega) hI3 hg3)
              clear hI3 hg3
              go_wp2_with fail
              refine HC4.out.mono ?_
              rintro e w4 ⟨rfl, HG4⟩
              clear HC4
              go_wp2
              go_roundw
              case rel =>
                obtain ⟨m, hm, hI4, hg4⟩ := HG4.out
                exact ⟨a + 1, by omega, by go_num, _, ⟨S2, m, HH.out, rfl, hm⟩, hI4, hg4⟩
              case measure => simp [intOf]; omega
        · have e2 : a = 2 := by omega
          subst e2
          obtain ⟨vp, cv, HV⟩ := HVT.out wr S2 _ hI2 hg2
          have HEND : Hid (calmTo L win (k + 1) S (vtickSy S2) ∧ ClInv L W liar win (T + 6 * k + 3 * 2) (vtickSy S2)) := hide ⟨calm_snoc HCAL.out (round_of (m := m0) (S2 := S2) (by rw [hS0.out]; exact HM0.out) (by rw [hS0.out]; exact hh) rfl), hI2.vtick⟩
          clear hh hI2 hg2
          go_wp2_with fail
          refine HV.out.mono ?_
          rintro e w5 ⟨rfl, hg5⟩
          go_wp2
          go_roundw
          case rel => exact ⟨k + 1, by omega, by go_num, _, HEND.out.1, HEND.out.2, hg5⟩
          case measure => simp [intOf]; omega
    · have e3 : k = n := by omega
      have hk' : ¬ (k : Int) < (n : Int) := by omega
      have HE : Hid (∃ S', calmTo L win n S S' ∧ ClInv L W liar win (T + 6 * n) S' ∧ SyGo w wr N D L win S') := hide (by rw [← e3]; exact ⟨S', hcal, hI', hgo⟩)
      clear hcal hI' hgo e3
      go_wp2
      go_end0
      exact ⟨rfl, HE.out⟩
end Go.Proofs.YtaablbmgagiajabGreatDoor
namespace Go.Proofs.YtaablbmgagiajabGreatDoor
open Go.RowKit Go.Deep
section
variable {W : Seen} {liar T : Nat}
theorem isRep_lt {k : Nat} (hk : k < 3) : isRep (k : Int) = true := by unfold isRep; simp; omega
end
end Go.Proofs.YtaablbmgagiajabGreatDoor
namespace Go.Proofs.YtaablbmgagiajabGreatDoor
open Go.RowKit Go.Deep
set_option maxHeartbeats 1000000 in
set_option maxRecDepth 20000 in
theorem sysee_any (N : Nat) (D : SC) (L : RC) (win : Nat) (S : SY) (w : World) (k : Nat) (x y : Int) (hk : k < 3) (h : SyIs w N D L win S) :
    Calls Tryz.prog 18 #[.pointer (some ⟨D.p, 0, none⟩), .int .i64 (k : Int), .agg #[.int .i64 x, .int .i64 y]] w fun e w' => e = .returned .nilIface ∧ SyGo w w' N D L win (seeSy k x y S) := by
  obtain ⟨W, hW⟩ : ∃ W, Hid (w.alloc (.cells #[.int .i64 x, .int .i64 y] 31) = W) := ⟨_, hide rfl⟩
  have hB0 : Below w.heap.size w W := by rw [← hW.out]; exact (Below.refl _ _).alloc (Nat.le_refl _) _
  have hbx : W.heap[w.heap.size]? = some (.cells #[.int .i64 x, .int .i64 y] 31 (0, 0)) := by rw [← hW.out]; exact blk_new _ _
  have HR := hide (sysRep_any (k : Int) W)
  rw [isRep_lt hk] at HR
  have hk' : (k : Int) < 3 := by omega
  have hS := h.below hB0
  have cr := hS.rpAt hk
  have x0 : W.cell? ⟨w.heap.size, 0, none⟩ = some (.int .i64 x) := (blk_cell hbx 0).trans rfl
  have x1 : W.cell? ⟨w.heap.size, 1, none⟩ = some (.int .i64 y) := (blk_cell hbx 1).trans rfl
  have HC : Hid (Calls Tryz.prog 50 #[.pointer (some ⟨D.rp k, 0, none⟩), .agg #[.int .i64 x, .int .i64 y]] W.drew fun e w' => e = .returned (.tuple #[]) ∧ SyGo w w' N D L win (seeSy k x y S)) := hide (by
    refine (see_any (D.rp k) (D.C k) (S.rp k) x y W.drew (hS.drew.rp k hk)).mono ?_
    rintro e w2 ⟨rfl, hR, hm⟩
    obtain ⟨h1, h2⟩ := hS.drew.putR hk hm hR
    exact ⟨rfl, SyGo.pre ⟨D, rfl, h1, h2, Gr.refl _ _⟩ (hB0.drew)⟩)
  clear h hS hbx hB0
  go_enter Tryz.func18, Tryz.ntmps18
  go_wp2_with fail
  rw [show w.alloc (.cells #[.int .i64 x, .int .i64 y] 31) = W from hW.out]
  refine HR.out.mono ?_
  rintro e wz ⟨rfl, rfl⟩
  go_wp2_with fail
  go_region_with ((go_at_call 50; refine HC.out.mono ?_; rintro e w2 ⟨rfl, hg⟩))
  all_goals
    go_wp2
    go_ret
    exact ⟨rfl, hg⟩
end Go.Proofs.YtaablbmgagiajabGreatDoor
namespace Go.Proofs.YtaablbmgagiajabGreatDoor
open Go.RowKit Go.Deep
set_option maxHeartbeats 1000000 in
theorem cloneC_any (N : Nat) (tv : Value) (l : List Cm) (w : World) (h : TIs w N tv l) (hl : l.length ≤ 1000) :
    Calls Tryz.prog 86 #[tv] w fun e w' => (∃ v, e = .returned v ∧ TIs w' w.heap.size v l) ∧ Below w.heap.size w w' := by
  rcases h.2 with ⟨rfl, h0⟩ | ⟨g, cap, cur, rfl, h1, h2, h3, h4, h5, h6⟩
  · have e : l = [] := List.length_eq_zero_iff.1 h0
    subst e
    clear h h0
    have hq : ∀ wx : World, (binOp .eql 28 (.slice none 0 0) (.slice none 0 0)).run Tryz.prog wx = .ok (.bool true) wx := fun wx => by kernel_rfl
    go_enter Tryz.func86, Tryz.ntmps86
    go_wp2
    go_ret
    exact ⟨⟨_, rfl, World.ownsRow_nil _ _ _ _⟩, Below.refl _ _⟩
  · obtain ⟨i0, hi, hz0, hz1, hz2⟩ := info_parts infoCommit
    have HI := hide hi
    have HZ0 := hide hz0
    have HZ1 := hide hz1
    have HZ2 := hide hz2
    have HT := hide h6
    have HG := hide h2
    have hgl := blk_lt h2
    have hq : ∀ wx : World, (binOp .eql 28 (.slice (some ⟨g, 0, none⟩) l.length cap) (.slice none 0 0)).run Tryz.prog wx = .ok (.bool false) wx := fun wx => Lib.run_eql_slice_nil wx _ _ _ _ _ _ _ Tryz.underlying28
    clear hi hz0 hz1 hz2 h h6 h2 h5 h4
    go_enter Tryz.func86, Tryz.ntmps86
    go_wp2_with (at_builtin; refine wpList_append_own _ rfl _ _ 28 rfl w.heap.size 49 i0 (.agg #[.int .i64 0, .int .i64 0, .int .i64 0]) 3 24 Tryz.underlying28 HI.out HZ0.out HZ1.out HZ2.out rfl (by decide) _ _ _ rfl (World.ownsRow_made w #[] 0 (Nat.le_refl _) (by unfold maxLen; omega) rfl) ⟨g, 0, none⟩ l.length cap (cmL l) rfl (cmL_length l) ?c1 ?c2 ?c3 ?c4 ?c5 ?_)
    case c1 =>
      intro j u hj
      have hj' : j < l.length * 3 := by
        have := (List.getElem?_eq_some_iff.1 hj).1
        rw [cmL_length] at this
        exact this
      have e : (⟨g, 0, none⟩ : Addr).add j = ⟨g, j, none⟩ := by unfold Addr.add; split <;> simp_all
      rw [e, World.cell?_alloc_past _ _ _ hgl, blk_cell HG.out, ← Array.getElem?_toList]
      have := HT.out
      rw [← this, List.getElem?_take, if_pos hj'] at hj
      exact hj
    case c2 => exact cmL_one l
    case c3 => unfold maxLen; omega
    case c4 => omega
    case c5 => simp
    intro v' w1 hown hgrow _
    have hold : Below w.heap.size w w1 := ((Below.refl _ _).alloc (Nat.le_refl _) _).grown hgrow (by simp) (fun j hj => by
      have : w.heap.size = j := by simpa [Value.ownBlock] using hj
      omega)
    have ht : TIs w1 w.heap.size v' l := by
      unfold TIs
      simpa using hown
    have HT1 := hide ht
    have HOLD := hide hold
    clear ht hold hown hgrow
    go_wp2
    go_ret
    exact ⟨⟨_, rfl, HT1.out⟩, HOLD.out⟩
set_option maxHeartbeats 1000000 in
theorem trace_any (N p win : Nat) (tv : Value) (S : VS) (w : World) (h : VIs w N p win tv S) (hok : VOk win S) :
    Calls Tryz.prog 42 #[.pointer (some ⟨p, 0, none⟩)] w fun e w' => (∃ v, e = .returned v ∧ TIs w' w.heap.size v S.tr) ∧ Below w.heap.size w w' := by
  have c0 : w.cell? ⟨p, 0, none⟩ = some tv := (h.at 0).trans rfl
  have HC := hide (cloneC_any N tv S.tr w h.row hok.few)
  clear h hok
  go_enter Tryz.func42, Tryz.ntmps42
  go_wp2_with (go_at_call 86; refine HC.out.mono ?_; rintro e w' ⟨⟨v, rfl, ht⟩, hB⟩)
  go_ret
  exact ⟨⟨_, rfl, ht⟩, hB⟩
end Go.Proofs.YtaablbmgagiajabGreatDoor
namespace Go.Proofs.YtaablbmgagiajabGreatDoor
open Go.RowKit Go.Deep
theorem strace_any (N : Nat) (D : SC) (L : RC) (win : Nat) (S : SY) (w : World) (h : SyIs w N D L win S) (hok : VOk win S.v) :
    Calls Tryz.prog 13 #[.pointer (some ⟨D.p, 0, none⟩)] w fun e w' => (∃ v, e = .returned v ∧ TIs w' w.heap.size v S.v.tr) ∧ Below w.heap.size w w' := by
  have c6 := h.vt6
  have HC := hide (trace_any N D.vp win D.tv S.v w h.vt hok)
  clear h hok
  go_enter Tryz.func13, Tryz.ntmps13
  go_wp2_with fail
  refine HC.out.mono ?_
  rintro e w2 ⟨⟨v, rfl, ht⟩, hB⟩
  go_wp2
  go_ret
  exact ⟨⟨v, rfl, ht⟩, hB⟩
theorem slatched_any (N : Nat) (D : SC) (L : RC) (win : Nat) (S : SY) (w : World) (h : SyIs w N D L win S) :
    Calls Tryz.prog 14 #[.pointer (some ⟨D.p, 0, none⟩)] w fun e w' => e = .returned (.bool S.v.lat) ∧ w' = w := by
  have c6 := h.vt6
  have HC := hide (latched_any N D.vp win D.tv S.v w h.vt)
  clear h
  go_enter Tryz.func14, Tryz.ntmps14
  go_wp2_with fail
  refine HC.out.mono ?_
  rintro e w2 ⟨rfl, rfl⟩
  go_wp2
  go_ret
  exact ⟨rfl, rfl⟩
theorem sout_any (N : Nat) (D : SC) (L : RC) (win : Nat) (S : SY) (w : World) (h : SyIs w N D L win S) :
    Calls Tryz.prog 17 #[.pointer (some ⟨D.p, 0, none⟩)] w fun e w' => e = .returned (.int .i64 (S.v.out : Int)) ∧ w' = w := by
  have c6 := h.vt6
  have HC := hide (out_any N D.vp win D.tv S.v w h.vt)
  clear h
  go_enter Tryz.func17, Tryz.ntmps17
  go_wp2_with fail
  refine HC.out.mono ?_
  rintro e w2 ⟨rfl, rfl⟩
  go_wp2
  go_ret
  exact ⟨rfl, rfl⟩
end Go.Proofs.YtaablbmgagiajabGreatDoor
namespace Go.Proofs.YtaablbmgagiajabGreatDoor
open Go.RowKit Go.Deep
theorem sshown_any (N : Nat) (D : SC) (L : RC) (win : Nat) (S : SY) (w : World) (h : SyIs w N D L win S) (hok : VOk win S.v) :
    Calls Tryz.prog 15 #[.pointer (some ⟨D.p, 0, none⟩)] w fun e w' => e = .returned (.int .i64 (shownF S.v)) ∧ Below w.heap.size w w' := by
  have c6 := h.vt6
  have HC := hide (shown_any N D.vp win D.tv S.v w h.vt hok)
  clear h hok
  go_enter Tryz.func15, Tryz.ntmps15
  go_wp2_with fail
  refine HC.out.mono ?_
  rintro e w2 ⟨rfl, hB⟩
  go_wp2
  go_ret
  exact ⟨rfl, hB⟩
end Go.Proofs.YtaablbmgagiajabGreatDoor
namespace Go.Proofs.YtaablbmgagiajabGreatDoor
open Go.RowKit Go.Deep
def syC (L : RC) (g0 c0 : Nat) (r : Nat → Value) (v nv lo : Value) : Array Value := #[.int .i64 (L.s : Int), .slice (some ⟨g0, 0, none⟩) L.n c0, .int .i64 (L.d : Int), r 0, r 1, r 2, v, nv, lo]
theorem syC_put (L : RC) (g0 c0 : Nat) (r : Nat → Value) (v nv lo u : Value) {k : Nat} (hk : k < 3) : (syC L g0 c0 r v nv lo).setIfInBounds (3 + k) u = syC L g0 c0 (upd r k u) v nv lo := by
  rcases (by omega : k = 0 ∨ k = 1 ∨ k = 2) with rfl | rfl | rfl <;> rfl
theorem syC_at (L : RC) (g0 c0 : Nat) (r : Nat → Value) (v nv lo : Value) {k : Nat} (hk : k < 3) : (syC L g0 c0 r v nv lo)[3 + k]? = some (r k) := by
  rcases (by omega : k = 0 ∨ k = 1 ∨ k = 2) with rfl | rfl | rfl <;> rfl
def FromB (B q : Nat) (C : RC) : Prop := B ≤ q ∧ B ≤ C.pc ∧ B ≤ C.g ∧ B ≤ C.M ∧ B ≤ C.g2
set_option maxHeartbeats 1000000 in
set_option maxRecDepth 20000 in
theorem crash_low (p g0 c0 : Nat) (L : RC) (r : Nat → Value) (v nv lo : Value) (k : Nat) (w : World) (hk : k < 3) (hL : LOk L) (hb : w.heap[p]? = some (.cells (syC L g0 c0 r v nv lo) 90 (0, 0))) (hrow : Row w g0 0 L.zs) (hlt : g0 < w.heap.size) (hcap : L.n ≤ c0) :
    Calls Tryz.prog 38 #[.pointer (some ⟨p, 0, none⟩), .int .i64 (k : Int)] w fun e w' => e = .returned .nilIface ∧ ∃ q C, FromB w.heap.size q C ∧ LineIs C L ∧ RpIs w' q C (new0 k) ∧ w'.heap[p]? = some (.cells (syC L g0 c0 (upd r k (.pointer (some ⟨q, 0, none⟩))) v nv lo) 90 (0, 0)) ∧ Mod w w' (· = p) := by
  have c0' : w.cell? ⟨p, 0, none⟩ = some (.int .i64 (L.s : Int)) := (blk_cell hb 0).trans rfl
  have c1 : w.cell? ⟨p, 1, none⟩ = some (.slice (some ⟨g0, 0, none⟩) L.n c0) := (blk_cell hb 1).trans rfl
  have c2 : w.cell? ⟨p, 2, none⟩ = some (.int .i64 (L.d : Int)) := (blk_cell hb 2).trans rfl
  have hk' : (k : Int) < 3 := by omega
  have hpl := blk_lt hb
  have hcall : Calls Tryz.prog 80 #[.int .i64 (k : Int), .agg #[.int .i64 (L.s : Int), .slice (some ⟨g0, 0, none⟩) L.n c0, .int .i64 (L.d : Int)]] w fun e w1 => ∃ q C, e = .returned (.tuple #[.pointer (some ⟨q, 0, none⟩), .nilIface]) ∧ (w1.cell? ⟨p, 3 + k, none⟩ = some (r k) ∧ w1.frozen? ⟨p, 3 + k, none⟩ = false) ∧
      Hid (FromB w.heap.size q C ∧ LineIs C L ∧ RpIs (w1.setCell ⟨p, 3 + k, none⟩ (.pointer (some ⟨q, 0, none⟩))) q C (new0 k) ∧ (w1.setCell ⟨p, 3 + k, none⟩ (.pointer (some ⟨q, 0, none⟩))).heap[p]? = some (.cells (syC L g0 c0 (upd r k (.pointer (some ⟨q, 0, none⟩))) v nv lo) 90 (0, 0)) ∧ Mod w (w1.setCell ⟨p, 3 + k, none⟩ (.pointer (some ⟨q, 0, none⟩))) (· = p)) := by
    refine (rnew_ok k L.s L.d g0 0 L.n c0 L.zs w hk hL.len hL.ok hlt hrow hcap).mono ?_
    rintro e w1 ⟨⟨q, C, q1, q2, q3, q4, q5, e1, e2, e3, e4, rfl, hR⟩, hB⟩
    have hb1 := (hB.block p hpl).trans hb
    have hm : Mod w1 (w1.setCell ⟨p, 3 + k, none⟩ (.pointer (some ⟨q, 0, none⟩))) (· = p) := (Mod.refl _ _).set _ _ (fun _ => rfl)
    refine ⟨q, C, rfl, ⟨(blk_cell hb1 _).trans (syC_at L g0 c0 r v nv lo hk), blk_free hb1 _⟩, hide ⟨⟨q1, q2, q3, q4, q5⟩, ⟨e1, e2, e3, e4⟩, hR.other hm ⟨by omega, by omega, by omega, by omega, by omega⟩, ?_, (Mod.ofBelow hB _).set _ _ (fun _ => rfl)⟩⟩
    rw [blk_set hb1, syC_put _ _ _ _ _ _ _ _ hk]
  have HC := hide hcall
  clear hcall hb hrow hL
  go_enter Tryz.func38, Tryz.ntmps38
  go_wp2_with fail
  refine HC.out.mono ?_
  rintro e w1 ⟨q, C, rfl, ⟨z0, z1⟩, HM⟩
  go_wp2
  go_ret
  exact ⟨rfl, q, C, HM.out⟩
end Go.Proofs.YtaablbmgagiajabGreatDoor
