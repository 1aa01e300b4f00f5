import Derived.Test.YtaablbmgagiajabGreatDoorSGAV
import Derived.Deep.RegionHeld
import Derived.Lib.SliceRun
import Derived.Test.YtaablbmgagiajabGreatDoorSGAO
namespace Go.Proofs.YtaablbmgagiajabGreatDoor
open Go.RowKit Go.Deep
def CSeen (L : RC) (W : Seen) (liar : Nat) (S : SY) : Prop := ∀ k, k < 3 → k ≠ liar → ∀ n : Nat, (S.rp k).cycle ≤ n → SeenN W k n (fitN L.s (S.rp k).sx) (fitN L.n (S.rp k).sy)
structure ClInv (L : RC) (W : Seen) (liar win T : Nat) (S : SY) : Prop where
  inv : SInv L W liar win T S
  seen : CSeen L W liar S
section
variable {L : RC} {W : Seen} {liar win T n k : Nat} {S : SY}
theorem takeS_sees (F : FR) (R : RS) : (takeS L F R).sx = R.sx ∧ (takeS L F R).sy = R.sy := by
  unfold takeS
  split
  · unfold doneR
    split
    · exact ⟨rfl, rfl⟩
    · split <;> exact ⟨rfl, rfl⟩
  · split
    · exact ⟨rfl, rfl⟩
    · split
      · exact ⟨rfl, rfl⟩
      · split
        · exact ⟨rfl, rfl⟩
        · split
          · unfold learnR
            split <;> exact ⟨rfl, rfl⟩
          · exact ⟨rfl, rfl⟩
theorem CSeen.arrive (h : CSeen L W liar S) (i : Nat) : CSeen L W liar (arriveSy L win i S) := by
  intro k hk hl n hn
  have key : (S.rp k).cycle ≤ ((arriveSy L win i S).rp k).cycle ∧ ((arriveSy L win i S).rp k).sx = (S.rp k).sx ∧ ((arriveSy L win i S).rp k).sy = (S.rp k).sy := by
    unfold arriveSy comeSy
    split
    · exact ⟨Int.le_refl _, rfl, rfl⟩
    · split
      · exact ⟨Int.le_refl _, rfl, rfl⟩
      · show (S.rp k).cycle ≤ (upd S.rp _ _ k).cycle ∧ (upd S.rp _ _ k).sx = _ ∧ (upd S.rp _ _ k).sy = _
        by_cases e : k = (pkAt S.net i).dst
        · rw [← e, upd_same]; exact ⟨takeS_cycle _ _, takeS_sees _ _⟩
        · rw [upd_other _ _ e]; exact ⟨Int.le_refl _, rfl, rfl⟩
  rw [key.2.1, key.2.2]
  exact h k hk hl n (Int.le_trans key.1 hn)
theorem ClInv.runAll (hL : LOk L) : ∀ (m : Nat) (S : SY), ClInv L W liar win T S → ClInv L W liar win T (runAll L win m S)
  | 0, _, h => h
  | m + 1, S, h => by
    cases hnet : S.net with
    | nil => rw [runAll_nil hnet]; exact h
    | cons p l => exact ClInv.runAll hL m _ ⟨(h.inv.arrive hL (by rw [hnet]; simp)).1, h.seen.arrive 0⟩
theorem ClInv.tick (h : ClInv L W liar win T S) (hk : k < 3) : ClInv L W liar win (T + 1) (tickSy L k S) := by
  obtain ⟨n, c1, _⟩ := (h.inv.rp k hk).cyc
  refine ⟨h.inv.tick hk c1 fun hl => h.seen k hk hl n (by omega), fun j hj hl n hn => ?_⟩
  have key : ((tickSy L k S).rp j).cycle = (S.rp j).cycle ∧ ((tickSy L k S).rp j).sx = (S.rp j).sx ∧ ((tickSy L k S).rp j).sy = (S.rp j).sy := by
    show (upd S.rp k _ j).cycle = _ ∧ (upd S.rp k _ j).sx = _ ∧ (upd S.rp k _ j).sy = _
    by_cases e : j = k
    · subst e; rw [upd_same]; exact ⟨rfl, rfl, rfl⟩
    · rw [upd_other _ _ e]; exact ⟨rfl, rfl, rfl⟩
  rw [key.2.1, key.2.2]
  exact h.seen j hj hl n (by rw [key.1] at hn; exact hn)
theorem ClInv.vtick (h : ClInv L W liar win T S) : ClInv L W liar win T (vtickSy S) := ⟨h.inv.vtick, h.seen⟩
def tickTo (L : RC) (S : SY) : Nat → SY
  | 0 => S
  | k + 1 => tickSy L k (tickTo L S k)
theorem ClInv.ticks (h : ClInv L W liar win T S) : ∀ k, k ≤ 3 → ClInv L W liar win (T + k) (tickTo L S k)
  | 0, _ => h
  | k + 1, hk => (h.ticks k (by omega)).tick (by omega)
def halfTo (L : RC) (win : Nat) : Nat → SY → SY → Prop
  | 0, S, S' => S' = S
  | j + 1, S, S' => ∃ S1 m, halfTo L win j S S1 ∧ S' = runAll L win m (ticksSy L S1) ∧ S'.net = []
theorem round_of {m : Nat} {S1 S2 : SY} (hm : (runAll L win m S).net = []) (hh : halfTo L win 2 (runAll L win m S) S2) (e : S1 = vtickSy S2) : roundTo L win S S1 := by
  obtain ⟨A, m2, ⟨B, m1, hB, hA, nA⟩, h2, n2⟩ := hh
  have hB' : B = runAll L win m S := hB
  subst hB'
  subst hA
  subst h2
  exact ⟨m, m1, m2, hm, nA, n2, e⟩
theorem calm_snoc {S' S2 : SY} : ∀ {k : Nat} {S : SY}, calmTo L win k S S' → roundTo L win S' S2 → calmTo L win (k + 1) S S2
  | 0, S, h, hr => by
    have e : S' = S := h
    subst e
    exact ⟨S2, hr, rfl⟩
  | k + 1, S, ⟨A, hA, hk⟩, hr => ⟨A, hA, calm_snoc hk hr⟩
end
end Go.Proofs.YtaablbmgagiajabGreatDoor
namespace Go.Proofs.YtaablbmgagiajabGreatDoor
open Go.RowKit Go.Deep
theorem SyIs.vt6 {w : World} {N win : Nat} {D : SC} {L : RC} {S : SY} (h : SyIs w N D L win S) : w.cell? ⟨D.p, 6, none⟩ = some (.pointer (some ⟨D.vp, 0, none⟩)) := (h.at 6).trans rfl
set_option maxHeartbeats 4000000 in
set_option maxRecDepth 20000 in
theorem calm_any {W : Seen} {liar T : Nat} (N : Nat) (D : SC) (L : RC) (win : Nat) (S : SY) (w : World) (n : Nat) (h : SyIs w N D L win S) (hI : ClInv L W liar win T S) (hL : LOk L) (hT : T + 6 * n < 7000000) (hn : n ≤ 1000) (hN : N ≤ w.heap.size) :
    Calls Tryz.prog 16 #[.pointer (some ⟨D.p, 0, none⟩), .int .i64 (n : Int)] w fun e w' => e = .returned (.tuple #[]) ∧ ∃ S', calmTo L win n S S' ∧ ClInv L W liar win (T + 6 * n) S' ∧ SyGo w w' N D L win S' := by
  have HST : Hid (∃ S', calmTo L win 0 S S' ∧ ClInv L W liar win (T + 6 * 0) S' ∧ SyGo w w N D L win S') := hide ⟨S, rfl, hI, h.goes⟩
  have HL := hide hL
  have hall : ∀ (wr : World) (S' : SY) (T' : Nat), T' < 8000000 → ClInv L W liar win T' S' → SyGo w wr N D L win S' → Calls Tryz.prog 45 #[.pointer (some ⟨D.p, 0, none⟩)] wr fun e w' => e = .returned (.tuple #[]) ∧ Hid (∃ m, (runAll L win m S').net = [] ∧ ClInv L W liar win T' (runAll L win m S') ∧ SyGo w w' N D L win (runAll L win m S')) := by
    intro wr S' T' hT' hI' hg
    obtain ⟨D1, hp1, hS1, hm1, hg1⟩ := hg
    obtain ⟨m, hm⟩ := hI'.inv.ends HL.out
    have hc := arriveAll_any N D1 L win S' wr m hS1 hI'.inv HL.out hT' (Nat.le_trans hN hm1.size) hm
    rw [hp1] at hc
    refine hc.mono ?_
    rintro e w2 ⟨rfl, hg⟩
    exact ⟨rfl, hide ⟨m, hm, ClInv.runAll HL.out m S' hI', SyGo.then hp1 hm1 hg1 hg⟩⟩
  have htick : ∀ (wr : World) (S' : SY) (T' k : Nat), k < 3 → T' < 8000000 → ClInv L W liar win T' S' → SyGo w wr N D L win S' → Calls Tryz.prog 46 #[.pointer (some ⟨D.p, 0, none⟩), .int .i64 (k : Int)] wr fun e w' => e = .returned (.tuple #[]) ∧ Hid (ClInv L W liar win (T' + 1) (tickSy L k S') ∧ SyGo w w' N D L win (tickSy L k S')) := by
    intro wr S' T' k hk hT' hI' hg
    obtain ⟨D1, hp1, hS1, hm1, hg1⟩ := hg
    obtain ⟨hok, _⟩ := (hI'.inv.rp k hk).ok hk HL.out hT' hI'.inv.vok.few
    have hc := tickRep_any N D1 L win S' wr k hk hS1 hok (hI'.inv.rp k hk).id (Nat.le_trans hN hm1.size) hI'.inv.many
    rw [hp1] at hc
    refine hc.mono ?_
    rintro e w2 ⟨rfl, hg⟩
    exact ⟨rfl, hide ⟨hI'.tick hk, SyGo.then hp1 hm1 hg1 hg⟩⟩
  have hvt : ∀ (wr : World) (S' : SY) (T' : Nat), ClInv L W liar win T' S' → SyGo w wr N D L win S' → ∃ vp : Nat, wr.cell? ⟨D.p, 6, none⟩ = some (.pointer (some ⟨vp, 0, none⟩)) ∧ Hid (Calls Tryz.prog 47 #[.pointer (some ⟨vp, 0, none⟩)] wr fun e w' => e = .returned (.tuple #[]) ∧ SyGo w w' N D L win (vtickSy S')) := by
    intro wr S' T' hI' hg
    obtain ⟨D1, hp1, hS1, hm1, hg1⟩ := hg
    refine ⟨D1.vp, by rw [← hp1]; exact hS1.vt6, hide ?_⟩
    refine (tick_any N D1.vp win D1.tv S'.v wr hS1.vt hI'.inv.vok).mono ?_
    rintro e w2 ⟨rfl, hV, hm⟩
    exact ⟨rfl, SyGo.then hp1 hm1 hg1 (hS1.putV hm hV (Moved.refl _ _))⟩
  have HALL := hide hall
  have HTK := hide htick
  have HVT := hide hvt
  clear hall htick hvt h hI hL
  go_enter Tryz.func16, Tryz.ntmps16
  go_wp2_with fail
  go_loopw [6] (fun j wr => ∃ k : Nat, k ≤ n ∧ j = .int .i64 k ∧ ∃ S', calmTo L win k S S' ∧ ClInv L W liar win (T + 6 * k) S' ∧ SyGo w wr N D L win S') (fun j _ => n - (intOf j).toNat)
  case atStart => exact ⟨0, by omega, rfl, HST.out⟩
  case round =>
    obtain ⟨k, hk, rfl, S', hcal, hI', hgo⟩ := hrel
    clear HST
    by_cases hkn : k < n
    · have hk' : (k : Int) < (n : Int) := by omega
      have HC1 := hide (HALL.out wr S' (T + 6 * k) (by omega) hI' hgo)
      have HCAL := hide hcal
      clear hcal hI' hgo
      go_wp2_with fail
      refine HC1.out.mono ?_
      rintro e w1 ⟨rfl, HG1⟩
      clear HC1
      obtain ⟨m0, hm0, hI0, hg0⟩ := HG1.out
      obtain ⟨S0, hS0⟩ : ∃ S0, Hid (runAll L win m0 S' = S0) := ⟨_, hide rfl⟩
      rw [hS0.out] at hm0 hI0 hg0
      have HM0 := hide hm0
      have HS2 : Hid (∃ S2, halfTo L win 0 S0 S2 ∧ ClInv L W liar win (T + 6 * k + 3 * 0) S2 ∧ SyGo w w1 N D L win S2) := hide ⟨S0, rfl, hI0, hg0⟩
      clear HG1 hm0 hI0 hg0
      go_wp2_with fail
      go_loopw [10] (fun j wr => ∃ a : Nat, a ≤ 2 ∧ j = .int .i64 a ∧ ∃ S2, halfTo L win a S0 S2 ∧ ClInv L W liar win (T + 6 * k + 3 * a) S2 ∧ SyGo w wr N D L win S2) (fun j _ => 2 - (intOf j).toNat)
      case atStart => exact ⟨0, by omega, rfl, HS2.out⟩
      case round =>
        obtain ⟨a, ha, rfl, S2, hh, hI2, hg2⟩ := hrel
        clear HS2
        by_cases ha2 : a < 2
        · have ha' : (a : Int) < 2 := by omega
          have HH := hide hh
          have HS3 : Hid (ClInv L W liar win (T + 6 * k + 3 * a + 0) (tickTo L S2 0) ∧ SyGo w wr N D L win (tickTo L S2 0)) := hide ⟨hI2, hg2⟩
          clear hh hI2 hg2
          go_wp2_with fail
          go_loopw [12] (fun j wr => ∃ b : Nat, b ≤ 3 ∧ j = .int .i64 b ∧ ClInv L W liar win (T + 6 * k + 3 * a + b) (tickTo L S2 b) ∧ SyGo w wr N D L win (tickTo L S2 b)) (fun j _ => 3 - (intOf j).toNat)
          case atStart => exact ⟨0, by omega, rfl, HS3.out⟩
          case round =>
            obtain ⟨b, hb, rfl, hI3, hg3⟩ := hrel
            clear HS3
            by_cases hb3 : b < 3
            · have hb' : (b : Int) < 3 := by omega
              have HC3 := hide (HTK.out wr (tickTo L S2 b) (T + 6 * k + 3 * a + b) b hb3 (by omega) hI3 hg3)
              clear hI3 hg3
              go_wp2_with fail
              refine HC3.out.mono ?_
              rintro e w3 ⟨rfl, HG3⟩
              clear HC3
              go_wp2
              go_roundw
              case rel => exact ⟨b + 1, by omega, by go_num, HG3.out⟩
              case measure => simp [intOf]; omega
            · have e3 : b = 3 := by omega
              subst e3
              have HC4 := hide (HALL.out wr (tickTo L S2 3) (T + 6 * k + 3 * a + 3) (by omega) hI3 hg3)
              clear hI3 hg3
              go_wp2_with fail
              refine HC4.out.mono ?_
              rintro e w4 ⟨rfl, HG4⟩
              clear HC4
              go_wp2
              go_roundw
              case rel =>
                obtain ⟨m, hm, hI4, hg4⟩ := HG4.out
                exact ⟨a + 1, by omega, by go_num, _, ⟨S2, m, HH.out, rfl, hm⟩, hI4, hg4⟩
              case measure => simp [intOf]; omega
        · have e2 : a = 2 := by omega
          subst e2
          obtain ⟨vp, cv, HV⟩ := HVT.out wr S2 _ hI2 hg2
          have HEND : Hid (calmTo L win (k + 1) S (vtickSy S2) ∧ ClInv L W liar win (T + 6 * k + 3 * 2) (vtickSy S2)) := hide ⟨calm_snoc HCAL.out (round_of (m := m0) (S2 := S2) (by rw [hS0.out]; exact HM0.out) (by rw [hS0.out]; exact hh) rfl), hI2.vtick⟩
          clear hh hI2 hg2
          go_wp2_with fail
          refine HV.out.mono ?_
          rintro e w5 ⟨rfl, hg5⟩
          go_wp2
          go_roundw
          case rel => exact ⟨k + 1, by omega, by go_num, _, HEND.out.1, HEND.out.2, hg5⟩
          case measure => simp [intOf]; omega
    · have e3 : k = n := by omega
      have hk' : ¬ (k : Int) < (n : Int) := by omega
      have HE : Hid (∃ S', calmTo L win n S S' ∧ ClInv L W liar win (T + 6 * n) S' ∧ SyGo w wr N D L win S') := hide (by rw [← e3]; exact ⟨S', hcal, hI', hgo⟩)
      clear hcal hI' hgo e3
      go_wp2
      go_end0
      exact ⟨rfl, HE.out⟩
end Go.Proofs.YtaablbmgagiajabGreatDoor
namespace Go.Proofs.YtaablbmgagiajabGreatDoor
open Go.RowKit Go.Deep
section
variable {W : Seen} {liar T : Nat}
theorem isRep_lt {k : Nat} (hk : k < 3) : isRep (k : Int) = true := by unfold isRep; simp; omega
end
end Go.Proofs.YtaablbmgagiajabGreatDoor
namespace Go.Proofs.YtaablbmgagiajabGreatDoor
open Go.RowKit Go.Deep
set_option maxHeartbeats 1000000 in
set_option maxRecDepth 20000 in
theorem sysee_any (N : Nat) (D : SC) (L : RC) (win : Nat) (S : SY) (w : World) (k : Nat) (x y : Int) (hk : k < 3) (h : SyIs w N D L win S) :
    Calls Tryz.prog 18 #[.pointer (some ⟨D.p, 0, none⟩), .int .i64 (k : Int), .agg #[.int .i64 x, .int .i64 y]] w fun e w' => e = .returned .nilIface ∧ SyGo w w' N D L win (seeSy k x y S) := by
  obtain ⟨W, hW⟩ : ∃ W, Hid (w.alloc (.cells #[.int .i64 x, .int .i64 y] 31) = W) := ⟨_, hide rfl⟩
  have hB0 : Below w.heap.size w W := by rw [← hW.out]; exact (Below.refl _ _).alloc (Nat.le_refl _) _
  have hbx : W.heap[w.heap.size]? = some (.cells #[.int .i64 x, .int .i64 y] 31 (0, 0)) := by rw [← hW.out]; exact blk_new _ _
  have HR := hide (sysRep_any (k : Int) W)
  rw [isRep_lt hk] at HR
  have hk' : (k : Int) < 3 := by omega
  have hS := h.below hB0
  have cr := hS.rpAt hk
  have x0 : W.cell? ⟨w.heap.size, 0, none⟩ = some (.int .i64 x) := (blk_cell hbx 0).trans rfl
  have x1 : W.cell? ⟨w.heap.size, 1, none⟩ = some (.int .i64 y) := (blk_cell hbx 1).trans rfl
  have HC : Hid (Calls Tryz.prog 50 #[.pointer (some ⟨D.rp k, 0, none⟩), .agg #[.int .i64 x, .int .i64 y]] W.drew fun e w' => e = .returned (.tuple #[]) ∧ SyGo w w' N D L win (seeSy k x y S)) := hide (by
    refine (see_any (D.rp k) (D.C k) (S.rp k) x y W.drew (hS.drew.rp k hk)).mono ?_
    rintro e w2 ⟨rfl, hR, hm⟩
    obtain ⟨h1, h2⟩ := hS.drew.putR hk hm hR
    exact ⟨rfl, SyGo.pre ⟨D, rfl, h1, h2, Gr.refl _ _⟩ (hB0.drew)⟩)
  clear h hS hbx hB0
  go_enter Tryz.func18, Tryz.ntmps18
  go_wp2_with fail
  rw [show w.alloc (.cells #[.int .i64 x, .int .i64 y] 31) = W from hW.out]
  refine HR.out.mono ?_
  rintro e wz ⟨rfl, rfl⟩
  go_wp2_with fail
  go_region_with ((go_at_call 50; refine HC.out.mono ?_; rintro e w2 ⟨rfl, hg⟩))
  all_goals
    go_wp2
    go_ret
    exact ⟨rfl, hg⟩
end Go.Proofs.YtaablbmgagiajabGreatDoor
namespace Go.Proofs.YtaablbmgagiajabGreatDoor
open Go.RowKit Go.Deep
set_option maxHeartbeats 1000000 in
theorem cloneC_any (N : Nat) (tv : Value) (l : List Cm) (w : World) (h : TIs w N tv l) (hl : l.length ≤ 1000) :
    Calls Tryz.prog 86 #[tv] w fun e w' => (∃ v, e = .returned v ∧ TIs w' w.heap.size v l) ∧ Below w.heap.size w w' := by
  rcases h.2 with ⟨rfl, h0⟩ | ⟨g, cap, cur, rfl, h1, h2, h3, h4, h5, h6⟩
  · have e : l = [] := List.length_eq_zero_iff.1 h0
    subst e
    clear h h0
    have hq : ∀ wx : World, (binOp .eql 28 (.slice none 0 0) (.slice none 0 0)).run Tryz.prog wx = .ok (.bool true) wx := fun wx => by kernel_rfl
    go_enter Tryz.func86, Tryz.ntmps86
    go_wp2
    go_ret
    exact ⟨⟨_, rfl, World.ownsRow_nil _ _ _ _⟩, Below.refl _ _⟩
  · obtain ⟨i0, hi, hz0, hz1, hz2⟩ := info_parts infoCommit
    have HI := hide hi
    have HZ0 := hide hz0
    have HZ1 := hide hz1
    have HZ2 := hide hz2
    have HT := hide h6
    have HG := hide h2
    have hgl := blk_lt h2
    have hq : ∀ wx : World, (binOp .eql 28 (.slice (some ⟨g, 0, none⟩) l.length cap) (.slice none 0 0)).run Tryz.prog wx = .ok (.bool false) wx := fun wx => Lib.run_eql_slice_nil wx _ _ _ _ _ _ _ Tryz.underlying28
    clear hi hz0 hz1 hz2 h h6 h2 h5 h4
    go_enter Tryz.func86, Tryz.ntmps86
    go_wp2_with (at_builtin; refine wpList_append_own _ rfl _ _ 28 rfl w.heap.size 49 i0 (.agg #[.int .i64 0, .int .i64 0, .int .i64 0]) 3 24 Tryz.underlying28 HI.out HZ0.out HZ1.out HZ2.out rfl (by decide) _ _ _ rfl (World.ownsRow_made w #[] 0 (Nat.le_refl _) (by unfold maxLen; omega) rfl) ⟨g, 0, none⟩ l.length cap (cmL l) rfl (cmL_length l) ?c1 ?c2 ?c3 ?c4 ?c5 ?_)
    case c1 =>
      intro j u hj
      have hj' : j < l.length * 3 := by
        have := (List.getElem?_eq_some_iff.1 hj).1
        rw [cmL_length] at this
        exact this
      have e : (⟨g, 0, none⟩ : Addr).add j = ⟨g, j, none⟩ := by unfold Addr.add; split <;> simp_all
      rw [e, World.cell?_alloc_past _ _ _ hgl, blk_cell HG.out, ← Array.getElem?_toList]
      have := HT.out
      rw [← this, List.getElem?_take, if_pos hj'] at hj
      exact hj
    case c2 => exact cmL_one l
    case c3 => unfold maxLen; omega
    case c4 => omega
    case c5 => simp
    intro v' w1 hown hgrow _
    have hold : Below w.heap.size w w1 := ((Below.refl _ _).alloc (Nat.le_refl _) _).grown hgrow (by simp) (fun j hj => by
      have : w.heap.size = j := by simpa [Value.ownBlock] using hj
      omega)
    have ht : TIs w1 w.heap.size v' l := by
      unfold TIs
      simpa using hown
    have HT1 := hide ht
    have HOLD := hide hold
    clear ht hold hown hgrow
    go_wp2
    go_ret
    exact ⟨⟨_, rfl, HT1.out⟩, HOLD.out⟩
set_option maxHeartbeats 1000000 in
theorem trace_any (N p win : Nat) (tv : Value) (S : VS) (w : World) (h : VIs w N p win tv S) (hok : VOk win S) :
    Calls Tryz.prog 42 #[.pointer (some ⟨p, 0, none⟩)] w fun e w' => (∃ v, e = .returned v ∧ TIs w' w.heap.size v S.tr) ∧ Below w.heap.size w w' := by
  have c0 : w.cell? ⟨p, 0, none⟩ = some tv := (h.at 0).trans rfl
  have HC := hide (cloneC_any N tv S.tr w h.row hok.few)
  clear h hok
  go_enter Tryz.func42, Tryz.ntmps42
  go_wp2_with (go_at_call 86; refine HC.out.mono ?_; rintro e w' ⟨⟨v, rfl, ht⟩, hB⟩)
  go_ret
  exact ⟨⟨_, rfl, ht⟩, hB⟩
end Go.Proofs.YtaablbmgagiajabGreatDoor
namespace Go.Proofs.YtaablbmgagiajabGreatDoor
open Go.RowKit Go.Deep
theorem strace_any (N : Nat) (D : SC) (L : RC) (win : Nat) (S : SY) (w : World) (h : SyIs w N D L win S) (hok : VOk win S.v) :
    Calls Tryz.prog 13 #[.pointer (some ⟨D.p, 0, none⟩)] w fun e w' => (∃ v, e = .returned v ∧ TIs w' w.heap.size v S.v.tr) ∧ Below w.heap.size w w' := by
  have c6 := h.vt6
  have HC := hide (trace_any N D.vp win D.tv S.v w h.vt hok)
  clear h hok
  go_enter Tryz.func13, Tryz.ntmps13
  go_wp2_with fail
  refine HC.out.mono ?_
  rintro e w2 ⟨⟨v, rfl, ht⟩, hB⟩
  go_wp2
  go_ret
  exact ⟨⟨v, rfl, ht⟩, hB⟩
theorem slatched_any (N : Nat) (D : SC) (L : RC) (win : Nat) (S : SY) (w : World) (h : SyIs w N D L win S) :
    Calls Tryz.prog 14 #[.pointer (some ⟨D.p, 0, none⟩)] w fun e w' => e = .returned (.bool S.v.lat) ∧ w' = w := by
  have c6 := h.vt6
  have HC := hide (latched_any N D.vp win D.tv S.v w h.vt)
  clear h
  go_enter Tryz.func14, Tryz.ntmps14
  go_wp2_with fail
  refine HC.out.mono ?_
  rintro e w2 ⟨rfl, rfl⟩
  go_wp2
  go_ret
  exact ⟨rfl, rfl⟩
theorem sout_any (N : Nat) (D : SC) (L : RC) (win : Nat) (S : SY) (w : World) (h : SyIs w N D L win S) :
    Calls Tryz.prog 17 #[.pointer (some ⟨D.p, 0, none⟩)] w fun e w' => e = .returned (.int .i64 (S.v.out : Int)) ∧ w' = w := by
  have c6 := h.vt6
  have HC := hide (out_any N D.vp win D.tv S.v w h.vt)
  clear h
  go_enter Tryz.func17, Tryz.ntmps17
  go_wp2_with fail
  refine HC.out.mono ?_
  rintro e w2 ⟨rfl, rfl⟩
  go_wp2
  go_ret
  exact ⟨rfl, rfl⟩
end Go.Proofs.YtaablbmgagiajabGreatDoor
namespace Go.Proofs.YtaablbmgagiajabGreatDoor
open Go.RowKit Go.Deep
theorem sshown_any (N : Nat) (D : SC) (L : RC) (win : Nat) (S : SY) (w : World) (h : SyIs w N D L win S) (hok : VOk win S.v) :
    Calls Tryz.prog 15 #[.pointer (some ⟨D.p, 0, none⟩)] w fun e w' => e = .returned (.int .i64 (shownF S.v)) ∧ Below w.heap.size w w' := by
  have c6 := h.vt6
  have HC := hide (shown_any N D.vp win D.tv S.v w h.vt hok)
  clear h hok
  go_enter Tryz.func15, Tryz.ntmps15
  go_wp2_with fail
  refine HC.out.mono ?_
  rintro e w2 ⟨rfl, hB⟩
  go_wp2
  go_ret
  exact ⟨rfl, hB⟩
end Go.Proofs.YtaablbmgagiajabGreatDoor
namespace Go.Proofs.YtaablbmgagiajabGreatDoor
open Go.RowKit Go.Deep
def syC (L : RC) (g0 c0 : Nat) (r : Nat → Value) (v nv lo : Value) : Array Value := #[.int .i64 (L.s : Int), .slice (some ⟨g0, 0, none⟩) L.n c0, .int .i64 (L.d : Int), r 0, r 1, r 2, v, nv, lo]
theorem syC_put (L : RC) (g0 c0 : Nat) (r : Nat → Value) (v nv lo u : Value) {k : Nat} (hk : k < 3) : (syC L g0 c0 r v nv lo).setIfInBounds (3 + k) u = syC L g0 c0 (upd r k u) v nv lo := by
  rcases (by omega : k = 0 ∨ k = 1 ∨ k = 2) with rfl | rfl | rfl <;> rfl
theorem syC_at (L : RC) (g0 c0 : Nat) (r : Nat → Value) (v nv lo : Value) {k : Nat} (hk : k < 3) : (syC L g0 c0 r v nv lo)[3 + k]? = some (r k) := by
  rcases (by omega : k = 0 ∨ k = 1 ∨ k = 2) with rfl | rfl | rfl <;> rfl
def FromB (B q : Nat) (C : RC) : Prop := B ≤ q ∧ B ≤ C.pc ∧ B ≤ C.g ∧ B ≤ C.M ∧ B ≤ C.g2
set_option maxHeartbeats 1000000 in
set_option maxRecDepth 20000 in
theorem crash_low (p g0 c0 : Nat) (L : RC) (r : Nat → Value) (v nv lo : Value) (k : Nat) (w : World) (hk : k < 3) (hL : LOk L) (hb : w.heap[p]? = some (.cells (syC L g0 c0 r v nv lo) 90 (0, 0))) (hrow : Row w g0 0 L.zs) (hlt : g0 < w.heap.size) (hcap : L.n ≤ c0) :
    Calls Tryz.prog 38 #[.pointer (some ⟨p, 0, none⟩), .int .i64 (k : Int)] w fun e w' => e = .returned .nilIface ∧ ∃ q C, FromB w.heap.size q C ∧ LineIs C L ∧ RpIs w' q C (new0 k) ∧ w'.heap[p]? = some (.cells (syC L g0 c0 (upd r k (.pointer (some ⟨q, 0, none⟩))) v nv lo) 90 (0, 0)) ∧ Mod w w' (· = p) := by
  have c0' : w.cell? ⟨p, 0, none⟩ = some (.int .i64 (L.s : Int)) := (blk_cell hb 0).trans rfl
  have c1 : w.cell? ⟨p, 1, none⟩ = some (.slice (some ⟨g0, 0, none⟩) L.n c0) := (blk_cell hb 1).trans rfl
  have c2 : w.cell? ⟨p, 2, none⟩ = some (.int .i64 (L.d : Int)) := (blk_cell hb 2).trans rfl
  have hk' : (k : Int) < 3 := by omega
  have hpl := blk_lt hb
  have hcall : Calls Tryz.prog 80 #[.int .i64 (k : Int), .agg #[.int .i64 (L.s : Int), .slice (some ⟨g0, 0, none⟩) L.n c0, .int .i64 (L.d : Int)]] w fun e w1 => ∃ q C, e = .returned (.tuple #[.pointer (some ⟨q, 0, none⟩), .nilIface]) ∧ (w1.cell? ⟨p, 3 + k, none⟩ = some (r k) ∧ w1.frozen? ⟨p, 3 + k, none⟩ = false) ∧
      Hid (FromB w.heap.size q C ∧ LineIs C L ∧ RpIs (w1.setCell ⟨p, 3 + k, none⟩ (.pointer (some ⟨q, 0, none⟩))) q C (new0 k) ∧ (w1.setCell ⟨p, 3 + k, none⟩ (.pointer (some ⟨q, 0, none⟩))).heap[p]? = some (.cells (syC L g0 c0 (upd r k (.pointer (some ⟨q, 0, none⟩))) v nv lo) 90 (0, 0)) ∧ Mod w (w1.setCell ⟨p, 3 + k, none⟩ (.pointer (some ⟨q, 0, none⟩))) (· = p)) := by
    refine (rnew_ok k L.s L.d g0 0 L.n c0 L.zs w hk hL.len hL.ok hlt hrow hcap).mono ?_
    rintro e w1 ⟨⟨q, C, q1, q2, q3, q4, q5, e1, e2, e3, e4, rfl, hR⟩, hB⟩
    have hb1 := (hB.block p hpl).trans hb
    have hm : Mod w1 (w1.setCell ⟨p, 3 + k, none⟩ (.pointer (some ⟨q, 0, none⟩))) (· = p) := (Mod.refl _ _).set _ _ (fun _ => rfl)
    refine ⟨q, C, rfl, ⟨(blk_cell hb1 _).trans (syC_at L g0 c0 r v nv lo hk), blk_free hb1 _⟩, hide ⟨⟨q1, q2, q3, q4, q5⟩, ⟨e1, e2, e3, e4⟩, hR.other hm ⟨by omega, by omega, by omega, by omega, by omega⟩, ?_, (Mod.ofBelow hB _).set _ _ (fun _ => rfl)⟩⟩
    rw [blk_set hb1, syC_put _ _ _ _ _ _ _ _ hk]
  have HC := hide hcall
  clear hcall hb hrow hL
  go_enter Tryz.func38, Tryz.ntmps38
  go_wp2_with fail
  refine HC.out.mono ?_
  rintro e w1 ⟨q, C, rfl, ⟨z0, z1⟩, HM⟩
  go_wp2
  go_ret
  exact ⟨rfl, q, C, HM.out⟩
end Go.Proofs.YtaablbmgagiajabGreatDoor
namespace Go.Proofs.YtaablbmgagiajabGreatDoor
open Go.RowKit Go.Deep
def sy0 (win : Nat) : SY := ⟨fun k => new0 k, vs0 win, []⟩
structure NwInv (w wr : World) (L : RC) (p g0 c0 k : Nat) (rp : Nat → Nat) (C : Nat → RC) (B : Nat → Nat) : Prop where
  old : Below w.heap.size w wr
  blk : wr.heap[p]? = some (.cells (syC L g0 c0 (fun j => if j < k then .pointer (some ⟨rp j, 0, none⟩) else .pointer none) (.pointer none) (.slice none 0 0) (.int .i64 0)) 90 (0, 0))
  row : Row wr g0 0 L.zs
  lo0 : w.heap.size ≤ g0 ∧ g0 < p
  cap : L.n ≤ c0
  rp : ∀ j, j < k → RpIs wr (rp j) (C j) (new0 j) ∧ LineIs (C j) L ∧ FromB (B j) (rp j) (C j) ∧ (rp j < B (j + 1) ∧ (C j).pc < B (j + 1) ∧ (C j).g < B (j + 1) ∧ (C j).M < B (j + 1) ∧ (C j).g2 < B (j + 1))
  B0 : p < B 0
  Bk : B k ≤ wr.heap.size
  mono : ∀ j, j < k → B j ≤ B (j + 1)
theorem NwInv.Ble {w wr : World} {L : RC} {p g0 c0 k : Nat} {rp : Nat → Nat} {C : Nat → RC} {B : Nat → Nat} (h : NwInv w wr L p g0 c0 k rp C B) {i : Nat} : ∀ {j : Nat}, i ≤ j → j ≤ k → B i ≤ B j
  | 0, hij, _ => by rw [show i = 0 by omega]; exact Nat.le_refl _
  | j + 1, hij, hj => by
    by_cases e : i = j + 1
    · rw [e]; exact Nat.le_refl _
    · exact Nat.le_trans (h.Ble (i := i) (j := j) (by omega) (by omega)) (h.mono j (by omega))
theorem NwInv.next {w wr w' : World} {L : RC} {p g0 c0 k : Nat} {rp : Nat → Nat} {C : Nat → RC} {B : Nat → Nat} (h : NwInv w wr L p g0 c0 k rp C B) (hw : w.heap.size ≤ p) {q : Nat} {C1 : RC} (hF : FromB wr.heap.size q C1) (hl : LineIs C1 L) (hR : RpIs w' q C1 (new0 k))
    (hb : w'.heap[p]? = some (.cells (syC L g0 c0 (upd (fun j => if j < k then .pointer (some ⟨rp j, 0, none⟩) else .pointer none) k (.pointer (some ⟨q, 0, none⟩))) (.pointer none) (.slice none 0 0) (.int .i64 0)) 90 (0, 0))) (hm : Mod wr w' (· = p)) :
    NwInv w w' L p g0 c0 (k + 1) (upd rp k q) (upd C k C1) (upd (upd B k wr.heap.size) (k + 1) w'.heap.size) := by
  have hpl := blk_lt h.blk
  have hBk := h.Bk
  have hB0 := h.B0
  have hg := h.lo0
  have hBle : ∀ j, j ≤ k → B j ≤ wr.heap.size := fun j hj => Nat.le_trans (h.Ble hj (Nat.le_refl _)) hBk
  have hpB : ∀ j, j ≤ k → p < B j := fun j hj => Nat.lt_of_lt_of_le hB0 (h.Ble (Nat.zero_le _) hj)
  have hub : ∀ j, j < k → upd (upd B k wr.heap.size) (k + 1) w'.heap.size j = B j := fun j hj => by rw [upd_other _ _ (by omega), upd_other _ _ (by omega)]
  have huk : upd (upd B k wr.heap.size) (k + 1) w'.heap.size k = wr.heap.size := by rw [upd_other _ _ (by omega), upd_same]
  have huk1 : upd (upd B k wr.heap.size) (k + 1) w'.heap.size (k + 1) = w'.heap.size := upd_same _ _ _
  have hfn : (fun j => if j < k + 1 then Value.pointer (some ⟨upd rp k q j, 0, none⟩) else .pointer none) = upd (fun j => if j < k then .pointer (some ⟨rp j, 0, none⟩) else .pointer none) k (.pointer (some ⟨q, 0, none⟩)) := by
    funext j
    unfold upd
    by_cases e : j = k
    · rw [if_pos e, if_pos e, if_pos (by omega)]
    · rw [if_neg e, if_neg e]
      show (if j < k + 1 then _ else _) = (if j < k then _ else _)
      by_cases e2 : j < k
      · rw [if_pos e2, if_pos (by omega)]
      · rw [if_neg e2, if_neg (by omega)]
  refine ⟨⟨hm.os.trans h.old.os, hm.tape.trans h.old.tape, hm.output.trans h.old.output, Nat.le_trans h.old.size hm.size, fun j hj => (hm.block j (Nat.lt_of_lt_of_le hj h.old.size) (by omega)).trans (h.old.block j hj)⟩, by rw [hfn]; exact hb, fun i hi => (World.cell?_of_block (w := wr) (hm.block g0 (by omega) (by omega))).trans (h.row i hi), h.lo0, h.cap, fun j hj => ?_, ?_, by rw [huk1]; exact Nat.le_refl _, fun j hj => ?_⟩
  · by_cases e : j = k
    · subst e
      rw [upd_same, upd_same, huk, huk1]
      exact ⟨hR, hl, hF, hR.lt, hR.core.plt, hR.core.glt, hR.core.mlt, hR.lt2⟩
    · obtain ⟨a1, a2, a3, a4, a5, a6, a7, a8⟩ := h.rp j (by omega)
      rw [upd_other _ _ e, upd_other _ _ e, hub j (by omega)]
      have hj1 : B (j + 1) ≤ upd (upd B k wr.heap.size) (k + 1) w'.heap.size (j + 1) := by
        by_cases e2 : j + 1 = k
        · rw [e2, huk]; exact hBk
        · rw [hub _ (by omega)]; exact Nat.le_refl _
      have hp := hpB j (by omega)
      obtain ⟨b1, b2, b3, b4, b5⟩ := a3
      exact ⟨a1.other hm ⟨by omega, by omega, by omega, by omega, by omega⟩, a2, ⟨b1, b2, b3, b4, b5⟩, by omega, by omega, by omega, by omega, by omega⟩
  · by_cases e : k = 0
    · subst e; rw [huk]; omega
    · rw [hub 0 (by omega)]; exact hB0
  · by_cases e : j = k
    · subst e; rw [huk, huk1]; exact hm.size
    · rw [hub j (by omega)]
      by_cases e2 : j + 1 = k
      · rw [e2, huk]; exact hBle j (by omega)
      · rw [hub _ (by omega)]; exact h.mono j (by omega)
theorem NwInv.done {w wr w' : World} {L : RC} {p g0 c0 win vp : Nat} {rp : Nat → Nat} {C : Nat → RC} {B : Nat → Nat} (h : NwInv w wr L p g0 c0 3 rp C B) (hw : w.heap.size ≤ p) (hB : Below wr.heap.size wr w') (hvp : vp = wr.heap.size) (hV : VIs w' wr.heap.size vp win (.slice none 0 0) (vs0 win)) (N : Nat) (hN : N ≤ w.heap.size) :
    SyIs (w'.setCell ⟨p, 6, none⟩ (.pointer (some ⟨vp, 0, none⟩))) N ⟨p, g0, c0, rp, C, vp, .slice none 0 0, .slice none 0 0, [], 0⟩ L win (sy0 win) ∧ Below w.heap.size w (w'.setCell ⟨p, 6, none⟩ (.pointer (some ⟨vp, 0, none⟩))) := by
  have hpl := blk_lt h.blk
  have hm : Mod w' (w'.setCell ⟨p, 6, none⟩ (.pointer (some ⟨vp, 0, none⟩))) (· = p) := (Mod.refl _ _).set _ _ (fun _ => rfl)
  have hb1 := (hB.block p hpl).trans h.blk
  have hg := h.lo0
  have hB0 := h.B0
  have hpB : ∀ j, j ≤ 3 → p < B j := fun j hj => Nat.lt_of_lt_of_le hB0 (h.Ble (Nat.zero_le _) hj)
  have hBw : ∀ j, j ≤ 3 → B j ≤ wr.heap.size := fun j hj => Nat.le_trans (h.Ble hj (Nat.le_refl _)) h.Bk
  have hcr : ∀ j, j < 3 → RpIs wr (rp j) (C j) (new0 j) := fun j hj => (h.rp j hj).1
  refine ⟨⟨?_, fun i hi => (World.cell?_of_block (w := w') (hm.block g0 (Nat.lt_of_lt_of_le (by omega) hB.size) (by omega))).trans (h.row.below (B := wr.heap.size) (by omega) hB i hi), by rw [show (w'.setCell ⟨p, 6, none⟩ (.pointer (some ⟨vp, 0, none⟩))).heap.size = w'.heap.size by simp [World.setCell]]; exact Nat.lt_of_lt_of_le (show g0 < wr.heap.size by omega) hB.size, h.cap, fun k hk => ?_, fun k hk => (h.rp k hk).2.1, fun i j hi hj hij => ?_, ?_, ⟨World.ownsRow_nil _ _ _ _, rfl, fun i hi => by simp [sy0] at hi⟩, fun x y hx hy e => ?_, fun x hx => ?_, fun y hy => ?_⟩, ?_⟩
  · rw [blk_set hb1]
    rfl
  · obtain ⟨a1, _, ⟨b1, b2, b3, b4, b5⟩, _⟩ := h.rp k hk
    have hp := hpB k (by omega)
    exact (a1.below hB).other hm ⟨by omega, by omega, by omega, by omega, by omega⟩
  · obtain ⟨_, _, ⟨b1, _⟩, u1, _⟩ := h.rp i hi
    obtain ⟨_, _, ⟨c1, _⟩, v1, _⟩ := h.rp j hj
    show rp i ≠ rp j
    rcases (by omega : i < j ∨ j < i) with e | e
    · have := h.Ble (i := i + 1) (j := j) (by omega) (by omega); omega
    · have := h.Ble (i := j + 1) (j := i) (by omega) (by omega); omega
  · refine ⟨?_, World.ownsRow_nil _ _ _ _, by show N ≤ vp; omega⟩
    exact (hm.block vp hV.lt (by omega)).trans hV.blk
  · have hx' : x = p ∨ (∃ j, j < 3 ∧ x = rp j) ∨ x = vp := by
      rcases hx with z | z | z | z | z
      · exact .inl z
      · simp [Value.ownBlock] at z
      · exact .inr (.inl z)
      · exact .inr (.inr z)
      · simp [Value.ownBlock] at z
    rcases hx' with rfl | ⟨j, hj, rfl⟩ | rfl
    · rcases hy with hy | ⟨i, hi, hy⟩
      · have hy' : y = g0 := hy
        omega
      · obtain ⟨_, _, ⟨b1, b2, b3, b4, b5⟩, _⟩ := h.rp i hi
        have hp := hpB i (by omega)
        have hy' : y = (C i).pc ∨ y = (C i).g ∨ y = (C i).M ∨ y = (C i).g2 := hy
        omega
    · obtain ⟨a1, _, ⟨b1, _⟩, u1, _⟩ := h.rp j hj
      have hp := hpB j (by omega)
      rcases hy with hy | ⟨i, hi, hy⟩
      · have hy' : y = g0 := hy
        omega
      · obtain ⟨_, _, ⟨d1, d2, d3, d4, d5⟩, f1, f2, f3, f4, f5⟩ := h.rp i hi
        have hy' : y = (C i).pc ∨ y = (C i).g ∨ y = (C i).M ∨ y = (C i).g2 := hy
        rcases (by omega : i = j ∨ i < j ∨ j < i) with rfl | e2 | e2
        · have := a1.ap; omega
        · have := h.Ble (i := i + 1) (j := j) (by omega) (by omega); omega
        · have := h.Ble (i := j + 1) (j := i) (by omega) (by omega); omega
    · rcases hy with hy | ⟨i, hi, hy⟩
      · have hy' : y = g0 := hy
        omega
      · obtain ⟨_, _, _, f1, f2, f3, f4, f5⟩ := h.rp i hi
        have := hBw (i + 1) (by omega)
        have hy' : y = (C i).pc ∨ y = (C i).g ∨ y = (C i).M ∨ y = (C i).g2 := hy
        omega
  · rcases hx with z | z | ⟨j, hj, z⟩ | z | z
    · have z' : x = p := z
      omega
    · simp [Value.ownBlock] at z
    · obtain ⟨_, _, ⟨b1, _⟩, _⟩ := h.rp j hj
      have hp := hpB j (by omega)
      have z' : x = rp j := z
      omega
    · have z' : x = vp := z
      omega
    · simp [Value.ownBlock] at z
  · rcases hy with hy | ⟨i, hi, hy⟩
    · have hy' : y = g0 := hy
      omega
    · obtain ⟨_, _, ⟨b1, b2, b3, b4, b5⟩, _⟩ := h.rp i hi
      have hp := hpB i (by omega)
      have hy' : y = (C i).pc ∨ y = (C i).g ∨ y = (C i).M ∨ y = (C i).g2 := hy
      omega
  · exact (h.old.trans (hB.mono h.old.size)).setCell hw _
set_option maxHeartbeats 2000000 in
set_option maxRecDepth 20000 in
theorem synew_any (N : Nat) (L : RC) (win b off cap : Nat) (w : World) (hL : LOk L) (h1 : 1 ≤ win) (h2 : win ≤ 20) (hb : b < w.heap.size) (hrow : Row w b off L.zs) (hN : N ≤ w.heap.size) :
    Calls Tryz.prog 24 #[.agg #[.int .i64 (L.s : Int), .slice (some ⟨b, off, none⟩) L.n cap, .int .i64 (L.d : Int)], .int .i64 (win : Int)] w fun e w' => (∃ D, e = .returned (.tuple #[.pointer (some ⟨D.p, 0, none⟩), .nilIface]) ∧ w.heap.size ≤ D.p ∧ SyIs w' N D L win (sy0 win)) ∧ Below w.heap.size w w' := by
  have hf := hL.few
  obtain ⟨W, hW⟩ : ∃ W, Hid (w.alloc (.cells #[.int .i64 (L.s : Int), .slice (some ⟨b, off, none⟩) L.n cap, .int .i64 (L.d : Int)] 42) = W) := ⟨_, hide rfl⟩
  have hB0 : Below w.heap.size w W := by rw [← hW.out]; exact (Below.refl _ _).alloc (Nat.le_refl _) _
  have hbx : W.heap[w.heap.size]? = some (.cells #[.int .i64 (L.s : Int), .slice (some ⟨b, off, none⟩) L.n cap, .int .i64 (L.d : Int)] 42 (0, 0)) := by rw [← hW.out]; exact blk_new _ _
  have HC : Hid (Calls Tryz.prog 64 #[.slice (some ⟨b, off, none⟩) L.n cap] W fun e w1 => ∃ g cg, e = .returned (.slice (some ⟨g, 0, none⟩) L.n cg) ∧ (w1.cell? ⟨w.heap.size, 1, none⟩ = some (.slice (some ⟨b, off, none⟩) L.n cap) ∧ w1.frozen? ⟨w.heap.size, 1, none⟩ = false ∧ w1.cell? ⟨w.heap.size, 0, none⟩ = some (.int .i64 (L.s : Int)) ∧ w1.cell? ⟨w.heap.size, 2, none⟩ = some (.int .i64 (L.d : Int))) ∧
      Hid ((w1.setCell ⟨w.heap.size, 1, none⟩ (.slice (some ⟨g, 0, none⟩) L.n cg)).heap[w.heap.size]? = some (.cells #[.int .i64 (L.s : Int), .slice (some ⟨g, 0, none⟩) L.n cg, .int .i64 (L.d : Int)] 42 (0, 0)) ∧ Row (w1.setCell ⟨w.heap.size, 1, none⟩ (.slice (some ⟨g, 0, none⟩) L.n cg)) g 0 L.zs ∧ w.heap.size < g ∧ g < (w1.setCell ⟨w.heap.size, 1, none⟩ (.slice (some ⟨g, 0, none⟩) L.n cg)).heap.size ∧ L.n ≤ cg ∧ Below w.heap.size w (w1.setCell ⟨w.heap.size, 1, none⟩ (.slice (some ⟨g, 0, none⟩) L.n cg)))) := hide (by
    refine (clone_any b off L.n cap L.zs W hL.len (by omega) (by omega) (Nat.lt_of_lt_of_le hb hB0.size) (hrow.below hb hB0)).mono ?_
    rintro e w1 ⟨⟨g, cg, g1, g2, g3, rfl, g4⟩, hB⟩
    have hlt := blk_lt hbx
    have hb1 := (hB.block _ hlt).trans hbx
    refine ⟨g, cg, rfl, ⟨(blk_cell hb1 1).trans rfl, blk_free hb1 1, (blk_cell hb1 0).trans rfl, (blk_cell hb1 2).trans rfl⟩, hide ⟨(blk_set hb1 1 _).trans rfl, fun i hi => (World.cell?_of_block (w := w1) (Below.heap_setCell _ _ _ _ (by show g ≠ w.heap.size; omega))).trans (g4 i hi), by omega, by simp [World.setCell]; exact g2, g3, ?_⟩⟩
    exact (hB0.trans (hB.mono hB0.size)).setCell (Nat.le_refl _) _)
  have x1 : W.cell? ⟨w.heap.size, 1, none⟩ = some (.slice (some ⟨b, off, none⟩) L.n cap) := (blk_cell hbx 1).trans rfl
  have HL := hide hL
  clear hrow hbx hB0 hL
  go_enter Tryz.func24, Tryz.ntmps24
  go_wp2_with fail
  rw [show w.alloc (.cells #[.int .i64 (L.s : Int), .slice (some ⟨b, off, none⟩) L.n cap, .int .i64 (L.d : Int)] 42) = W from hW.out]
  refine HC.out.mono ?_
  rintro e w1 ⟨g, cg, rfl, ⟨z0, z1, z2, z3⟩, HM⟩
  clear HC x1 hW
  go_wp2_with fail
  have HS12 : Hid ((w1.setCell ⟨w.heap.size, 1, none⟩ (.slice (some ⟨g, 0, none⟩) L.n cg)).heap.size = w1.heap.size) := by rw [Hid]; simp [World.setCell]
  generalize w1.setCell ⟨w.heap.size, 1, none⟩ (.slice (some ⟨g, 0, none⟩) L.n cg) = w2 at HM HS12 ⊢
  obtain ⟨hb2, hr2, hg1, hg2, hcg, hB2⟩ := HM.out
  have HST : Hid (∃ rp C B, NwInv w (w2.alloc (.cells #[.int .i64 (L.s : Int), .slice (some ⟨g, 0, none⟩) L.n cg, .int .i64 (L.d : Int), .pointer none, .pointer none, .pointer none, .pointer none, .slice none 0 0, .int .i64 0] 90)) L w1.heap.size g cg 0 rp C B) := hide (by rw [← HS12.out]; exact ⟨fun _ => 0, fun _ => L, fun _ => w2.heap.size + 1, hB2.alloc hB2.size _, blk_new _ _, hr2.below (B := w2.heap.size) hg2 ((Below.refl _ _).alloc (Nat.le_refl _) _), ⟨by omega, hg2⟩, hcg, fun j hj => absurd hj (by omega), by omega, by simp, fun j hj => absurd hj (by omega)⟩)
  have hsz : w.heap.size ≤ w1.heap.size := by rw [← HS12.out]; exact hB2.size
  clear HM hb2 hr2 hcg hB2 z0 z1 z2 z3
  go_loopw [18] (fun j wr => ∃ k : Nat, k ≤ 3 ∧ j = .int .i64 k ∧ ∃ rp C B, NwInv w wr L w1.heap.size g cg k rp C B) (fun j _ => 3 - (intOf j).toNat)
  case atStart => exact ⟨0, by omega, rfl, HST.out⟩
  case round =>
    obtain ⟨k, hk, rfl, rp, C, B, hI⟩ := hrel
    clear HST
    have hlt := blk_lt hI.blk
    by_cases hk3 : k < 3
    · have hk' : (k : Int) < 3 := by omega
      have HCR : Hid (Calls Tryz.prog 38 #[.pointer (some ⟨w1.heap.size, 0, none⟩), .int .i64 (k : Int)] wr fun e w' => e = .returned .nilIface ∧ Hid (∃ rp C B, NwInv w w' L w1.heap.size g cg (k + 1) rp C B)) := hide (by
        refine (crash_low w1.heap.size g cg L _ _ _ _ k wr hk3 HL.out hI.blk hI.row (by have := hI.lo0; omega) hI.cap).mono ?_
        rintro e w' ⟨rfl, q, C1, hF, hl, hR, hb, hm⟩
        exact ⟨rfl, hide ⟨_, _, _, hI.next hsz hF hl hR hb hm⟩⟩)
      clear hI
      go_wp2_with fail
      refine HCR.out.mono ?_
      rintro e w3 ⟨rfl, HR⟩
      go_wp2
      go_roundw
      case rel => exact ⟨k + 1, by omega, by go_num, HR.out⟩
      case measure => simp [intOf]; omega
    · have e3 : k = 3 := by omega
      subst e3
      have HV : Hid (Calls Tryz.prog 65 #[.int .i64 (win : Int)] wr fun e w' => e = .returned (.tuple #[.pointer (some ⟨wr.heap.size, 0, none⟩), .nilIface]) ∧ (w'.cell? ⟨w1.heap.size, 6, none⟩ = some (.pointer none) ∧ w'.frozen? ⟨w1.heap.size, 6, none⟩ = false) ∧ Hid (SyIs (w'.setCell ⟨w1.heap.size, 6, none⟩ (.pointer (some ⟨wr.heap.size, 0, none⟩))) N ⟨w1.heap.size, g, cg, rp, C, wr.heap.size, .slice none 0 0, .slice none 0 0, [], 0⟩ L win (sy0 win) ∧ Below w.heap.size w (w'.setCell ⟨w1.heap.size, 6, none⟩ (.pointer (some ⟨wr.heap.size, 0, none⟩))))) := hide (by
        refine (vnew_ok win wr h1 h2).mono ?_
        rintro e w' ⟨rfl, hV, _, hB⟩
        have hb1 := (hB.block _ hlt).trans hI.blk
        exact ⟨rfl, ⟨(blk_cell hb1 6).trans rfl, blk_free hb1 6⟩, hide (hI.done hsz hB rfl hV N hN)⟩)
      clear hI
      go_wp2_with fail
      refine HV.out.mono ?_
      rintro e w4 ⟨rfl, ⟨q0, q1⟩, HE⟩
      go_wp2
      go_ret2
      exact ⟨⟨_, rfl, hsz, HE.out.1⟩, HE.out.2⟩
end Go.Proofs.YtaablbmgagiajabGreatDoor
