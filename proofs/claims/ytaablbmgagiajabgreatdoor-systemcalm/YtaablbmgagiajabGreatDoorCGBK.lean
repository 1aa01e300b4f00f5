import Derived.Test.YtaablbmgagiajabGreatDoorCGBF
import Derived.Test.YtaablbmgagiajabGreatDoorCGBG
import Derived.Test.YtaablbmgagiajabGreatDoorCGBH
import Derived.Test.YtaablbmgagiajabGreatDoorCGBI
import Derived.Test.YtaablbmgagiajabGreatDoorCGBJ
import Derived.Test.YtaablbmgagiajabGreatDoorCGBD
import Derived.Test.YtaablbmgagiajabGreatDoorCGBC
import Derived.Deep.RegionHeld3
import Derived.Deep.DeepCutAuto
import Derived.OpenShut
import Derived.ChangeSame
import Derived.ChangeArms
import Derived.WideShapes
import Derived.Test.YtaablbmgagiajabGreatDoorCGAA
import Derived.Deep.SlicePairs
import Derived.Test.YtaablbmgagiajabGreatDoorCGBE
namespace Go.Proofs.YtaablbmgagiajabGreatDoor
open Go.RowKit Go.Deep
def lkA (A : TS) (j : Nat) : TS := ⟨A.S, A.fx, A.fy, A.seen ++ ([sgOf A 0 true, sgOf A 1 true, sgOf A 2 true].take j)⟩
structure LkInv (V wr w : World) (N q : Nat) (E : TC) (L : RC) (win liar : Nat) (A : TS) (X : SD) (j : Nat) : Prop where
  go : TaGo w wr N q E L win liar (lkA A j)
  box : wr.heap[w.heap.size]? = some (.cells (sdL X).toArray 39 (0, 0))
  le : V.heap.size ≤ wr.heap.size
section
variable {V wr w : World} {N q : Nat} {E : TC} {L : RC} {win liar T : Nat} {A : TS} {X : SD} {j : Nat}
theorem DoIn.lk (h : DoIn V w N q E L win liar A X) : LkInv V V w N q E L win liar A X 0 := by
  refine ⟨?_, h.box, Nat.le_refl _⟩
  have e : lkA A 0 = A := by unfold lkA; rw [List.take_zero, List.append_nil]
  rw [e]
  exact h.ta.goes.pre h.old
theorem LkInv.x2 (h : LkInv V wr w N q E L win liar A X j) : wr.cell? ⟨w.heap.size, 2, none⟩ = some (.int .i64 X.n) := (blk_cell h.box 2).trans (by simp [sdL])
theorem lkA_next (A : TS) (hj : j < 3) : lkA A (j + 1) = ⟨(lkA A j).S, (lkA A j).fx, (lkA A j).fy, (lkA A j).seen ++ [sgOf (lkA A j) j true]⟩ := by
  rcases (by omega : j = 0 ∨ j = 1 ∨ j = 2) with rfl | rfl | rfl <;> simp [lkA, sgOf]
theorem LkInv.next (h : LkInv V wr w N q E L win liar A X j) (hj : j < 3) (hsl : A.seen.length ≤ 900) : Calls Tryz.prog 31 #[.pointer (some ⟨q, 0, none⟩), .int .i64 (j : Int), .bool true] wr fun e w2 => e = .returned (.tuple #[]) ∧ Hid (LkInv V w2 w N q E L win liar A X (j + 1)) := by
  obtain ⟨E', e1, e2, e3, e4, hT, hm⟩ := h.go
  refine (looks_any N q E' L win liar (lkA A j) wr j true hj hT ?_).mono ?_
  · show (A.seen ++ _).length ≤ 1000
    rw [List.length_append, List.length_take]
    have : min j [sgOf A 0 true, sgOf A 1 true, sgOf A 2 true].length ≤ j := Nat.min_le_left _ _
    omega
  · rintro e w2 ⟨rfl, hg, hk⟩
    refine ⟨rfl, hide ⟨?_, (hk _ ⟨_, _, h.box⟩).trans h.box, ?_⟩⟩
    · rw [lkA_next A hj]
      exact hg.then ⟨e1, e2, e3, e4⟩ hm
    · obtain ⟨_, _, _, _, _, _, hm2⟩ := hg
      exact Nat.le_trans h.le hm2.size
theorem LkInv.calm (h : LkInv V wr w N q E L win liar A X 3) (n : Nat) (hI : TlInv L liar win T A) (hL : LOk L) (hT : T < 600000) (hn : n ≤ 3) (hw : 10 ≤ X.wh) :
    Calls Tryz.prog 16 #[.pointer (some ⟨E.D.p, 0, none⟩), .int .i64 (n : Int)] wr fun e w2 => e = .returned (.tuple #[]) ∧ ∃ A', StepTo L win liar X.wh A A' ∧ TaGo w w2 N q E L win liar A' := by
  obtain ⟨E', e1, e2, e3, e4, hT3, hm⟩ := h.go
  have key := calm_any (W := WOf L (sees3 A)) (liar := liar) (T := T) N E'.D L win A.S wr n hT3.sy hI.cl hL (by omega) (by omega) hT3.size
  rw [e4] at key
  refine key.mono ?_
  rintro e w2 ⟨rfl, S', hc, _, hg⟩
  refine ⟨rfl, ⟨S', A.fx, A.fy, sees3 A⟩, StepTo.calm A n S' hw hn hc, ?_⟩
  exact (hT3.went hg).then ⟨e1, e2, e3, e4⟩ hm
end
set_option maxHeartbeats 1000000 in
set_option maxRecDepth 20000 in
theorem does_10 (N q : Nat) (E : TC) (L : RC) (win liar T : Nat) (A : TS) (w : World) (X : SD) (h : TaIs w N q E L win liar A) (hI : TlInv L liar win T A) (hL : LOk L) (hT : T < 600000) (hsl : A.seen.length ≤ 900) (hwh : X.wh = 10) :
    Calls Tryz.prog 12 #[.pointer (some ⟨q, 0, none⟩), .agg (sdL X).toArray] w fun e w' => e = .returned (.tuple #[]) ∧ ∃ A', StepTo L win liar X.wh A A' ∧ TaGo w w' N q E L win liar A' := by
  obtain ⟨W, hW⟩ : ∃ W, Hid (w.alloc (.cells (sdL X).toArray 39) = W) := ⟨_, hide rfl⟩
  have hBW : Below w.heap.size w W := by rw [← hW.out]; exact (Below.refl _ _).alloc (Nat.le_refl _) _
  have HDO : Hid (DoIn W w N q E L win liar A X) := hide ⟨hBW, h.below hBW, by rw [← hW.out]; exact blk_new _ _⟩
  have x1 := HDO.out.x1
  have c0 := HDO.out.c0
  have HPK := hide fun wx => pick_any X.k 3 wx (by decide) (by decide)
  obtain ⟨k1, k2⟩ := pickF_in X.k 3 (by decide) (by decide)
  obtain ⟨k, hk⟩ := Int.eq_ofNat_of_zero_le k1
  rw [hk] at HPK k2
  have hk3 : k < 3 := by omega
  obtain ⟨cs, hcs⟩ : ∃ cs, Hid ((sdL X).toArray = cs) := ⟨_, hide rfl⟩
  rw [hcs.out] at hW ⊢
  have hle := hI.inv.many
  have HI := hide hI
  have HL := hide hL
  have HWH := hide hwh
  clear h hBW hk k1 hwh hI hL
  go_enter Tryz.func12, Tryz.ntmps12
  go_wp2_with fail
  rw [show w.alloc (.cells cs 39) = W from hW.out]
  clear hW hcs
  go_quiet ((go_at_call 25; exact Calls.quiet_of_same (unhide HPK _)))
  have HV : Hid (DoIn (W.drewN nq) w N q E L win liar A X) := hide (HDO.out.below (below_drewN (Below.refl _ _) nq))
  generalize W.drewN nq = V at HV ⊢
  clear HDO x1 c0 HPK
  have x2 := HV.out.x2
  have x0 := HV.out.x0
  have hVl : w.heap.size < V.heap.size := blk_lt HV.out.box
  rw [HWH.out] at x0
  have HMN := hide (many_any N E.D L win A.S V HV.out.ta.sy)
  have HPN := hide fun wx (hp : 0 < (A.S.net.length : Int)) => pick_any X.n (A.S.net.length : Int) wx hp (by omega)
  have hpin := fun hp => pickF_in X.n (A.S.net.length : Int) hp (by omega)
  obtain ⟨m, hm⟩ : ∃ m, Hid (A.S.net.length = m) := ⟨_, hide rfl⟩
  rw [hm.out] at HMN HPN hpin hle
  go_wp2_with fail
  refine HMN.out.mono ?_
  rintro e wz ⟨rfl, hwz⟩
  subst wz
  by_cases hm0 : m = 0
  · have hm0' : ¬ (0 : Int) < (m : Int) := by omega
    clear HPN hpin
    have HLK : Hid (∀ (j : Nat) (wr : World), j < 3 → LkInv V wr w N q E L win liar A X j → Calls Tryz.prog 31 #[.pointer (some ⟨q, 0, none⟩), .int .i64 (j : Int), .bool true] wr fun e w2 => e = .returned (.tuple #[]) ∧ Hid (LkInv V w2 w N q E L win liar A X (j + 1))) := hide fun j wr hj h => h.next hj hsl
    have HST := hide (HV.out.lk)
    obtain ⟨a1, a2⟩ := pickF_in X.n 4 (by decide) (by decide)
    obtain ⟨cn, hcn⟩ := Int.eq_ofNat_of_zero_le a1
    have HPA := hide fun wx => pick_any X.n 4 wx (by decide) (by decide)
    rw [hcn] at HPA a2
    clear HV hVl
    go_wp2_with fail
    clear x2 x0
    go_loopw [11] (fun r wr => ∃ j : Nat, j ≤ 3 ∧ r = .int .i64 j ∧ LkInv V wr w N q E L win liar A X j) (fun r _ => 3 - (intOf r).toNat)
    case atStart => exact ⟨0, by omega, rfl, HST.out⟩
    case round =>
      clear HST
      obtain ⟨j, hj, rfl, hLk⟩ := hrel
      by_cases hj3 : j < 3
      · have hj' : (j : Int) < 3 := by omega
        have HC := hide (HLK.out j wr hj3 hLk)
        clear hLk
        go_wp2_with (go_at_call 31; refine HC.out.mono ?_)
        rintro e w2 ⟨he, hg⟩
        subst he
        have HG := hide hg.out
        clear hg
        go_wp2
        go_roundw
        case rel => exact ⟨j + 1, by omega, by go_num, HG.out⟩
        case measure => simp [intOf]; omega
      · have e3 : j = 3 := by omega
        subst e3
        have y2 := hLk.x2
        have HC := hide (hLk.calm cn HI.out HL.out hT (by omega) (show 10 ≤ X.wh by rw [HWH.out]; decide))
        clear hLk HLK
        go_wp2_with (first
          | (go_at_call 25; refine (unhide HPA _).mono ?_)
          | (go_at_call 16; refine HC.out.mono ?_))
        rintro e w5 ⟨rfl, hw5⟩
        subst w5
        go_wp2_with (go_at_call 16; refine HC.out.mono ?_)
        rintro e w6 ⟨he, hg⟩
        subst he
        have HG := hide hg
        clear hg
        go_wp2_with fail
        go_end0
        exact ⟨rfl, HG.out⟩
  · have hm0' : (0 : Int) < (m : Int) := by omega
    obtain ⟨j1, j2⟩ := hpin hm0'
    obtain ⟨i, hi⟩ := Int.eq_ofNat_of_zero_le j1
    have HPI := hide fun wx => HPN.out wx hm0'
    rw [hi] at HPI j2
    have hil : i < m := by omega
    clear HPN hpin j1 hi
    go_wp2_with (go_at_call 25; refine (unhide HPI _).mono ?_)
    rintro e wz ⟨rfl, hwz⟩
    subst wz
    have HLK : Hid (∀ (j : Nat) (wr : World), j < 3 → LkInv V wr w N q E L win liar A X j → Calls Tryz.prog 31 #[.pointer (some ⟨q, 0, none⟩), .int .i64 (j : Int), .bool true] wr fun e w2 => e = .returned (.tuple #[]) ∧ Hid (LkInv V w2 w N q E L win liar A X (j + 1))) := hide fun j wr hj h => h.next hj hsl
    have HST := hide (HV.out.lk)
    obtain ⟨a1, a2⟩ := pickF_in X.n 4 (by decide) (by decide)
    obtain ⟨cn, hcn⟩ := Int.eq_ofNat_of_zero_le a1
    have HPA := hide fun wx => pick_any X.n 4 wx (by decide) (by decide)
    rw [hcn] at HPA a2
    clear HV hVl
    go_wp2_with fail
    clear x2 x0
    go_loopw [11] (fun r wr => ∃ j : Nat, j ≤ 3 ∧ r = .int .i64 j ∧ LkInv V wr w N q E L win liar A X j) (fun r _ => 3 - (intOf r).toNat)
    case atStart => exact ⟨0, by omega, rfl, HST.out⟩
    case round =>
      clear HST
      obtain ⟨j, hj, rfl, hLk⟩ := hrel
      by_cases hj3 : j < 3
      · have hj' : (j : Int) < 3 := by omega
        have HC := hide (HLK.out j wr hj3 hLk)
        clear hLk
        go_wp2_with (go_at_call 31; refine HC.out.mono ?_)
        rintro e w2 ⟨he, hg⟩
        subst he
        have HG := hide hg.out
        clear hg
        go_wp2
        go_roundw
        case rel => exact ⟨j + 1, by omega, by go_num, HG.out⟩
        case measure => simp [intOf]; omega
      · have e3 : j = 3 := by omega
        subst e3
        have y2 := hLk.x2
        have HC := hide (hLk.calm cn HI.out HL.out hT (by omega) (show 10 ≤ X.wh by rw [HWH.out]; decide))
        clear hLk HLK
        go_wp2_with (first
          | (go_at_call 25; refine (unhide HPA _).mono ?_)
          | (go_at_call 16; refine HC.out.mono ?_))
        rintro e w5 ⟨rfl, hw5⟩
        subst w5
        go_wp2_with (go_at_call 16; refine HC.out.mono ?_)
        rintro e w6 ⟨he, hg⟩
        subst he
        have HG := hide hg
        clear hg
        go_wp2_with fail
        go_end0
        exact ⟨rfl, HG.out⟩
end Go.Proofs.YtaablbmgagiajabGreatDoor
namespace Go.Proofs.YtaablbmgagiajabGreatDoor
open Go.RowKit Go.Deep
theorem does_any (N q : Nat) (E : TC) (L : RC) (win liar T : Nat) (A : TS) (w : World) (X : SD) (h : TaIs w N q E L win liar A) (hI : TlInv L liar win T A) (hL : LOk L) (hT : T < 600000) (hsl : A.seen.length ≤ 900) (htab : HasTab w) (hby : IsB w X.ba X.bl X.bc X.bs) (hbl : X.bl ≤ 200) :
    Calls Tryz.prog 12 #[.pointer (some ⟨q, 0, none⟩), .agg (sdL X).toArray] w fun e w' => e = .returned (.tuple #[]) ∧ ∃ A', StepTo L win liar X.wh A A' ∧ TaGo w w' N q E L win liar A' := by
  by_cases hw : X.wh < 0 ∨ 12 < X.wh
  · exact does_no N q E L win liar T A w X h hI hL hw
  · rcases (by omega : X.wh = 0 ∨ X.wh = 1 ∨ X.wh = 2 ∨ X.wh = 3 ∨ X.wh = 4 ∨ X.wh = 5 ∨ X.wh = 6 ∨ X.wh = 7 ∨ X.wh = 8 ∨ X.wh = 9 ∨ X.wh = 10 ∨ X.wh = 11 ∨ X.wh = 12) with e | e | e | e | e | e | e | e | e | e | e | e | e
    · exact does_0 N q E L win liar T A w X h hI hL e
    · exact does_1 N q E L win liar T A w X h hI hL hT (by omega) e
    · exact does_2 N q E L win liar T A w X h hI hL e
    · exact does_3 N q E L win liar T A w X h hI hL hT e
    · exact does_4 N q E L win liar T A w X h hI hL e
    · exact does_5 N q E L win liar T A w X h hI hL e
    · exact does_6 N q E L win liar T A w X h hI hL htab e
    · exact does_7 N q E L win liar T A w X h hI hL e
    · exact does_8 N q E L win liar T A w X h hI hL e
    · exact does_9 N q E L win liar T A w X h hI hL hby hbl e
    · exact does_10 N q E L win liar T A w X h hI hL hT hsl e
    · exact does_11 N q E L win liar T A w X h hI hL e
    · exact does_12 N q E L win liar T A w X h hI hL e
end Go.Proofs.YtaablbmgagiajabGreatDoor
namespace Go.Proofs.YtaablbmgagiajabGreatDoor
open Go.RowKit Go.Deep
def rL : RC := ⟨4, 2, 3, [3, 12, 6], 0, 0, 0, 0, 0, 0⟩
theorem rL_ok : LOk rL := ⟨by decide +kernel, rfl⟩
def rD : Cm := ⟨15, 5, 1⟩
theorem ran_out0 : outOf rL st0 15 5 = 1 := by decide +kernel
theorem ran_out1 : outOf rL (inSt rL st0 15 5) 15 5 = 1 := by decide +kernel
def seeTo : Nat → SY
  | 0 => sy0 10
  | k + 1 => seeSy k 15 5 (seeTo k)
abbrev WT : Seen := fun _ _ _ _ => True
theorem seeTo_inv : ∀ k, k ≤ 3 → SInv rL WT 3 10 0 (seeTo k)
  | 0, _ => SInv.new (by decide) (by decide)
  | k + 1, hk => (seeTo_inv k (by omega)).see (by omega) 15 5
theorem seeTo_cl : ClInv rL WT 3 10 0 (seeTo 3) := ⟨seeTo_inv 3 (Nat.le_refl _), fun _ _ _ _ _ => ⟨fun _ _ => trivial, fun _ _ => trivial⟩⟩
def Sees15 (S : SY) : Prop := ∀ r, r < 3 → (S.rp r).sx = 15 ∧ (S.rp r).sy = 5
def RanP (i : Nat) (S : SY) : Prop := Sees15 S ∧ ((i = 0 ∧ AllFresh S ∧ S.v.tr = []) ∨ (i = 1 ∧ Mid rL S ∧ S.v.tr = []) ∨ (i = 2 ∧ AllFresh S ∧ S.v.tr = [rD]) ∨ (i = 3 ∧ Mid rL S ∧ S.v.tr = [rD]) ∨ (i = 4 ∧ S.v.tr = [rD, rD]) ∨ 5 ≤ i)
theorem ran_want {S : SY} (h : Sees15 S) : wantC rL S = 15 ∧ wantV rL S = 5 := by
  unfold wantC wantV
  rw [(h 0 (by omega)).1, (h 1 (by omega)).1, (h 2 (by omega)).1, (h 0 (by omega)).2, (h 1 (by omega)).2, (h 2 (by omega)).2]
  decide
theorem ran_half {i T : Nat} {S S' : SY} (h0 : SInv rL WT 3 10 T S) (hp : RanP i S) (h : Half rL WT 10 (T + 3) (ticksSy rL S) S') : RanP (i + 1) S' := by
  obtain ⟨hs, hp⟩ := hp
  have hw := ran_want hs
  refine ⟨fun r hr => by have := h.want r hr; exact ⟨this.1.trans (hs r hr).1, this.2.trans (hs r hr).2⟩, ?_⟩
  rcases hp with ⟨rfl, hf, ht⟩ | ⟨rfl, hm, ht⟩ | ⟨rfl, hf, ht⟩ | ⟨rfl, hm, ht⟩ | ⟨rfl, _⟩ | h5
  · obtain ⟨e, hm⟩ := h.fresh h0 hf
    exact .inr (.inl ⟨rfl, hm, e.trans ht⟩)
  · obtain ⟨hf, e⟩ := h.mid h0 hm
    refine .inr (.inr (.inl ⟨rfl, hf, ?_⟩))
    rw [e, ht]
    unfold wantD
    rw [hw.1, hw.2, ht, show outOf rL (stAt rL [] [].length) ((15 : Nat) : Int) ((5 : Nat) : Int) = 1 from ran_out0]
    rfl
  · obtain ⟨e, hm⟩ := h.fresh h0 hf
    exact .inr (.inr (.inr (.inl ⟨rfl, hm, e.trans ht⟩)))
  · obtain ⟨_, e⟩ := h.mid h0 hm
    refine .inr (.inr (.inr (.inr (.inl ⟨rfl, ?_⟩))))
    rw [e, ht]
    unfold wantD
    rw [hw.1, hw.2, ht, show outOf rL (stAt rL [rD] [rD].length) ((15 : Nat) : Int) ((5 : Nat) : Int) = 1 from ran_out1]
    rfl
  · exact .inr (.inr (.inr (.inr (.inr (by omega)))))
  · exact .inr (.inr (.inr (.inr (.inr (by omega)))))
theorem ran_tick {i : Nat} {S : SY} (hp : RanP i S) : RanP i (vtickSy S) := by
  obtain ⟨hs, hp⟩ := hp
  have e := vtick_tr S
  have hf : AllFresh S → AllFresh (vtickSy S) := fun h r hr => by
    have := h r hr
    exact ⟨by rw [e]; exact this.cyc, this.ticks, this.smp⟩
  have hm : Mid rL S → Mid rL (vtickSy S) := fun h r hr => by
    have := h r hr
    rw [e]; exact this
  refine ⟨hs, ?_⟩
  rw [e]
  rcases hp with ⟨h1, h2, h3⟩ | ⟨h1, h2, h3⟩ | ⟨h1, h2, h3⟩ | ⟨h1, h2, h3⟩ | h | h
  · exact .inl ⟨h1, hf h2, h3⟩
  · exact .inr (.inl ⟨h1, hm h2, h3⟩)
  · exact .inr (.inr (.inl ⟨h1, hf h2, h3⟩))
  · exact .inr (.inr (.inr (.inl ⟨h1, hm h2, h3⟩)))
  · exact .inr (.inr (.inr (.inr (.inl h))))
  · exact .inr (.inr (.inr (.inr (.inr h))))
theorem ran_calm {S' : SY} (h : calmTo rL 10 2 (seeTo 3) S') : S'.v.tr = [rD, rD] ∧ S'.v.lat = false := by
  have hst : Stand rL WT 10 0 3 (seeTo 3) := ⟨seeTo_inv 3 (Nat.le_refl _), rfl, rfl, by show 3 ≤ 10; omega, by omega⟩
  have hp : RanP 0 (seeTo 3) := by
    refine ⟨fun r hr => ?_, .inl ⟨rfl, fun r hr => ?_, rfl⟩⟩
    · rcases (by omega : r = 0 ∨ r = 1 ∨ r = 2) with rfl | rfl | rfl <;> exact ⟨rfl, rfl⟩
    · rcases (by omega : r = 0 ∨ r = 1 ∨ r = 2) with rfl | rfl | rfl <;> exact ⟨rfl, rfl, rfl⟩
  obtain ⟨⟨_, q⟩, s, _⟩ := rounds rL_ok (fun _ _ _ _ => trivial) (fun i S S' T h0 _ hp h => ran_half h0 hp h) (fun i S hp => ran_tick hp) 2 0 0 (seeTo 3) S' hst (by show 0 + 2 * 2 < 1000; omega) hp h
  refine ⟨?_, s.lat⟩
  rcases q with q | q | q | q | q | q
  · omega
  · omega
  · omega
  · omega
  · exact q.2
  · omega
end Go.Proofs.YtaablbmgagiajabGreatDoor
namespace Go.Proofs.YtaablbmgagiajabGreatDoor
open Go.RowKit Go.Deep
theorem sshown_any (N : Nat) (D : SC) (L : RC) (win : Nat) (S : SY) (w : World) (h : SyIs w N D L win S) (hok : VOk win S.v) :
    Calls Tryz.prog 15 #[.pointer (some ⟨D.p, 0, none⟩)] w fun e w' => e = .returned (.int .i64 (shownF S.v)) ∧ Below w.heap.size w w' := by
  have c6 := h.vt6
  have HC := hide (shown_any N D.vp win D.tv S.v w h.vt hok)
  clear h hok
  go_enter Tryz.func15, Tryz.ntmps15
  go_wp2_with fail
  refine HC.out.mono ?_
  rintro e w2 ⟨rfl, hB⟩
  go_wp2
  go_ret
  exact ⟨rfl, hB⟩
end Go.Proofs.YtaablbmgagiajabGreatDoor
namespace Go.Proofs.YtaablbmgagiajabGreatDoor
open Go.RowKit Go.Deep
structure RnInv (w wr : World) (N p k : Nat) : Prop where
  old : Below w.heap.size w wr
  le : w.heap.size ≤ N
  sz : N ≤ wr.heap.size
  sy : ∃ D, D.p = p ∧ SyIs wr N D rL 10 (seeTo k)
theorem syGo_below {w w' : World} {N win B : Nat} {D : SC} {L : RC} {S S' : SY} (h : SyIs w N D L win S) (hg : SyGo w w' N D L win S') (hB : B ≤ N) (hN : N ≤ w.heap.size) : Below B w w' := by
  obtain ⟨_, _, _, hm, _⟩ := hg
  exact hm.toBelow (Nat.le_trans hB hN) fun k hk hw => by have := h.base k hw; omega
theorem RnInv.see {w wr : World} {N p k : Nat} (h : RnInv w wr N p k) (hk : k < 3) : Calls Tryz.prog 18 #[.pointer (some ⟨p, 0, none⟩), .int .i64 (k : Int), .agg #[.int .i64 15, .int .i64 5]] wr fun e w' => e = .returned .nilIface ∧ Hid (RnInv w w' N p (k + 1)) := by
  obtain ⟨D, rfl, hS⟩ := h.sy
  refine (sysee_any N D rL 10 (seeTo k) wr k 15 5 hk hS).mono ?_
  rintro e w' ⟨he, hg⟩
  have hB := syGo_below hS hg h.le h.sz
  obtain ⟨D', hp, hS', hm, _⟩ := hg
  exact ⟨he, hide ⟨h.old.trans hB, h.le, Nat.le_trans h.sz hm.size, D', hp, hS'⟩⟩
structure RnEnd (w wr : World) (N p : Nat) (S : SY) : Prop where
  old : Below w.heap.size w wr
  sy : ∃ D, D.p = p ∧ SyIs wr N D rL 10 S
  tr : S.v.tr = [rD, rD]
  lat : S.v.lat = false
  ok : VOk 10 S.v
theorem RnInv.calm {w wr : World} {N p : Nat} (h : RnInv w wr N p 3) : Calls Tryz.prog 16 #[.pointer (some ⟨p, 0, none⟩), .int .i64 2] wr fun e w' => e = .returned (.tuple #[]) ∧ Hid (∃ S, RnEnd w w' N p S) := by
  obtain ⟨D, rfl, hS⟩ := h.sy
  refine (calm_any (W := WT) (liar := 3) (T := 0) N D rL 10 (seeTo 3) wr 2 hS seeTo_cl rL_ok (by omega) (by omega) h.sz).mono ?_
  rintro e w' ⟨he, S', hc, hI, hg⟩
  have hB := syGo_below hS hg h.le h.sz
  obtain ⟨D', hp, hS', _, _⟩ := hg
  obtain ⟨e1, e2⟩ := ran_calm hc
  exact ⟨he, hide ⟨S', h.old.trans hB, ⟨D', hp, hS'⟩, e1, e2, hI.inv.vok⟩⟩
set_option maxHeartbeats 2000000 in
set_option maxRecDepth 20000 in
theorem ran_any (w : World) : Calls Tryz.prog 10 #[] w fun e w' => e = .returned (.bool true) ∧ Below w.heap.size w w' := by
  obtain ⟨W, hW⟩ : ∃ W, Hid (w.alloc (.cells #[.int .i64 3, .int .i64 12, .int .i64 6] 3) = W) := ⟨_, hide rfl⟩
  have hBW : Below w.heap.size w W := by rw [← hW.out]; exact (Below.refl _ _).alloc (Nat.le_refl _) _
  have hbW : W.heap[w.heap.size]? = some (.cells #[.int .i64 3, .int .i64 12, .int .i64 6] 3 (0, 0)) := by rw [← hW.out]; exact blk_new _ _
  have HNW : Hid (Calls Tryz.prog 24 #[.agg #[.int .i64 4, .slice (some ⟨w.heap.size, 0, none⟩) 3 3, .int .i64 2], .int .i64 10] W fun e w' => ∃ p, e = .returned (.tuple #[.pointer (some ⟨p, 0, none⟩), .nilIface]) ∧ Hid (RnInv w w' W.heap.size p 0)) := hide (by
    have hrow : Row W w.heap.size 0 rL.zs := fun k hk => by
      have hk3 : k < 3 := hk
      rw [blk_cell hbW]
      rcases (by omega : k = 0 ∨ k = 1 ∨ k = 2) with rfl | rfl | rfl <;> rfl
    refine (synew_any W.heap.size rL 10 w.heap.size 0 3 W rL_ok (by decide) (by decide) (blk_lt hbW) hrow (Nat.le_refl _)).mono ?_
    rintro e w' ⟨⟨D, he, _, hS⟩, hB⟩
    exact ⟨D.p, he, hide ⟨hBW.trans (hB.mono hBW.size), hBW.size, hB.size, D, rfl, hS⟩⟩)
  clear hBW hbW
  go_enter Tryz.func10, Tryz.ntmps10
  go_wp2_with fail
  rw [show w.alloc (.cells #[.int .i64 3, .int .i64 12, .int .i64 6] 3) = W from hW.out]
  refine HNW.out.mono ?_
  rintro e w1 ⟨p, rfl, HR0⟩
  clear HNW hW
  go_wp2_with fail
  go_loopw [3] (fun i wr => ∃ k : Nat, k ≤ 3 ∧ i = .int .i64 k ∧ RnInv w wr W.heap.size p k) (fun i _ => 3 - (intOf i).toNat)
  case atStart => exact ⟨0, by omega, rfl, HR0.out⟩
  case round =>
    clear HR0
    obtain ⟨k, hk, rfl, hR⟩ := hrel
    by_cases hk3 : k < 3
    · have hk' : (k : Int) < 3 := by omega
      have HC := hide (hR.see hk3)
      clear hR
      go_wp2_with (go_at_call 18; refine HC.out.mono ?_)
      rintro e w2 ⟨he, HG⟩
      subst he
      go_wp2
      go_roundw
      case rel => exact ⟨k + 1, by omega, by go_num, HG.out⟩
      case measure => simp [intOf]; omega
    · have e3 : k = 3 := by omega
      subst e3
      have HC := hide hR.calm
      clear hR
      go_wp2_with (go_at_call 16; refine HC.out.mono ?_)
      rintro e w2 ⟨he, HG⟩
      subst he
      clear HC
      obtain ⟨S, hE⟩ := HG.out
      obtain ⟨D, hp, hS⟩ := hE.sy
      subst hp
      have HTR := hide (strace_any W.heap.size D rL 10 S w2 hS hE.ok)
      have HE := hide hE
      have HS := hide hS
      clear HG hE hS
      go_wp2_with (go_at_call 13; refine HTR.out.mono ?_)
      rintro e w3 ⟨⟨v, rfl, hTr⟩, hB3⟩
      have HL := hide (slatched_any W.heap.size D rL 10 S w3 (HS.out.below hB3))
      have HSH := hide (sshown_any W.heap.size D rL 10 S w3 (HS.out.below hB3) HE.out.ok)
      rw [HE.out.lat] at HL
      rw [show shownF S.v = 1 by unfold shownF; rw [HE.out.lat, HE.out.tr]; rfl] at HSH
      rw [HE.out.tr] at hTr
      obtain ⟨g, cap, rfl, hg1, hg2, _⟩ := hTr.has (by decide)
      have HT := hide hTr
      have HB3 := hide (HE.out.old.trans (hB3.mono HE.out.old.size))
      have hsz := HE.out.old.size
      have hsz3 := hB3.size
      clear HTR HE hTr hB3 HS
      go_wp2_with (go_at_call 14; refine HL.out.mono ?_)
      rintro e wz ⟨rfl, hwz⟩
      subst wz
      go_wp2_with (go_at_call 15; refine HSH.out.mono ?_)
      rintro e w4 ⟨rfl, hB4⟩
      have HT4 : Hid (∀ k : Nat, k < 2 → w4.cell? ⟨g, k * 3, none⟩ = some (.int .i64 15) ∧ w4.cell? ⟨g, k * 3 + 1, none⟩ = some (.int .i64 5) ∧ w4.cell? ⟨g, k * 3 + 2, none⟩ = some (.int .i64 1)) := hide fun k hk => by
        have hr := (HT.out.same (w' := w4) fun g' hg' => by
          have : g = g' := by simpa [Value.ownBlock] using hg'
          exact hB4.block g' (by omega)).range (k := k) hk
        have e : cmAt [rD, rD] k = rD := by rcases (by omega : k = 0 ∨ k = 1) with rfl | rfl <;> rfl
        rw [e] at hr
        exact ⟨hr 0 _ rfl, hr 1 _ rfl, hr 2 _ rfl⟩
      have HBE : Hid (Below w.heap.size w w4) := hide (HB3.out.trans (hB4.mono (by omega)))
      clear HL HSH HT HB3 hB4
      go_wp2_with fail
      go_loopw [5] (fun i wr => ∃ k : Nat, k ≤ 2 ∧ i = .int .i64 k ∧ wr = w4) (fun i _ => 2 - (intOf i).toNat)
      case atStart => exact ⟨0, by omega, rfl, rfl⟩
      case round =>
        obtain ⟨k, hk, rfl, hwr⟩ := hrel
        subst wr
        by_cases hk2 : k < 2
        · have hk2' : (k : Int) < 2 := by omega
          obtain ⟨t0, t1, t2⟩ := HT4.out k hk2
          go_wp2
          go_roundw
          case rel => exact ⟨k + 1, by omega, by go_num, by first | rfl | trivial⟩
          case measure => simp [intOf]; omega
        · have e2 : k = 2 := by omega
          subst e2
          go_wp2
          go_ret
          exact ⟨rfl, HBE.out⟩
end Go.Proofs.YtaablbmgagiajabGreatDoor
namespace Go.Proofs.YtaablbmgagiajabGreatDoor
open Go.RowKit Go.Deep
theorem infoStep : (Tryz.prog.info? 39).map (·.size) = some 29 := by kernel_rfl
structure PlInv (w wr : World) (N q : Nat) (L : RC) (win liar : Nat) (k : Nat) : Prop where
  old : Below w.heap.size w wr
  ge : w.heap.size ≤ q
  ok : LOk L
  is : ∃ E' A, TaIs wr N q E' L win liar A ∧ TlInv L liar win (18 * k) A ∧ A.seen.length ≤ 3 * k
theorem TaGo.old {w wr w' : World} {N q : Nat} {E : TC} {L : RC} {win liar : Nat} {A A' : TS} (h : TaIs wr N q E L win liar A) (hB : Below w.heap.size w wr) (hq : w.heap.size ≤ q) (hg : TaGo wr w' N q E L win liar A') : Below w.heap.size w w' := by
  obtain ⟨_, _, _, _, _, _, hm⟩ := hg
  refine hB.trans (hm.toBelow hB.size fun k hk hw => ?_)
  rcases hw with hw | hw
  · omega
  · have := h.lq; omega
theorem StepTo.few {L : RC} {win liar : Nat} {wh : Int} {A B : TS} (h : StepTo L win liar wh A B) : B.seen.length ≤ A.seen.length + 3 := by
  refine h (fun B => B.seen.length ≤ A.seen.length + 3) ?_ ?_ ?_ ?_ ?_ ?_ ?_ ?_ ?_ ?_ ?_ ?_ ?_ <;> (intros; simp [sees3])
theorem PlInv.does {w wr : World} {N q : Nat} {L : RC} {win liar k : Nat} {X : SD} (h : PlInv w wr N q L win liar k) (hk : k ≤ 120) (htab : HasTab w) (h0 : 0 < w.heap.size) (hby : IsB w X.ba X.bl X.bc X.bs) (hbl : X.bl ≤ 200) :
    Calls Tryz.prog 12 #[.pointer (some ⟨q, 0, none⟩), .agg (sdL X).toArray] wr fun e w' => e = .returned (.tuple #[]) ∧ Hid (PlInv w w' N q L win liar (k + 1)) := by
  obtain ⟨E', A, hT, hI, hs⟩ := h.is
  refine (does_any N q E' L win liar (18 * k) A wr X hT hI h.ok (by omega) (by omega) (htab.below h.old h0) (hby.below h.old) hbl).mono ?_
  rintro e w' ⟨he, A', hst, hg⟩
  have hold := TaGo.old hT h.old h.ge hg
  obtain ⟨E2, _, _, _, _, hT2, _⟩ := hg
  refine ⟨he, hide ⟨hold, h.ge, h.ok, E2, A', hT2, ?_, ?_⟩⟩
  · rw [show 18 * (k + 1) = 18 * k + 18 by omega]
    exact (hst.keeps h.ok hI).1
  · have := hst.few; omega
theorem StepAt.load {w wr : World} {al : Option Addr} {ll : Nat} (h : StepAt w al ll) (hB : Below w.heap.size w wr) {i : Nat} (hi : i < ll) : ∃ (b off : Nat) (X : SD), al = some ⟨b, off, none⟩ ∧ b < w.heap.size ∧ w.rangeAt b (off + i * 29) (sdL X) ∧ wr.rangeAt b (off + i * 29) (sdL X) ∧ IsB w X.ba X.bl X.bc X.bs := by
  obtain ⟨b, off, X, h1, h2, h3, h4, _⟩ := h i hi
  exact ⟨b, off, X, h1, h2, h3, fun j v hv => (hB.cell (p := ⟨b, off + i * 29 + j, none⟩) h2).trans (h3 j v hv), h4⟩
end Go.Proofs.YtaablbmgagiajabGreatDoor
namespace Go.Proofs.YtaablbmgagiajabGreatDoor
open Go.RowKit Go.Deep
section
variable {L : RC} {W : Seen} {win T n k : Nat} {S S' : SY} {A B : TS}
theorem take_fresh {V : VS} (hl : V.lat = false) (hw : V.left = win) (F : FR) : (takeF win V F).1.left = win ∧ (((takeF win V F).1.tr = V.tr ∧ (takeF win V F).1.lat = false) ∨ (F 0 = 2 ∧ (takeF win V F).1.tr.length = V.tr.length + 1 ∧ ((takeF win V F).1.out = 0 → V.tr.length + 1 < 1000 → (takeF win V F).1.lat = false))) := by
  unfold takeF
  split
  · exact ⟨hw, .inl ⟨rfl, hl⟩⟩
  · rename_i hh
    split
    · exact ⟨hw, .inl ⟨rfl, hl⟩⟩
    · split
      · exact ⟨hw, .inl ⟨rfl, hl⟩⟩
      · rename_i hp
        split
        · exact ⟨hw, .inl ⟨rfl, hl⟩⟩
        · refine ⟨rfl, .inr ⟨?_, ?_, fun ho hc => ?_⟩⟩
          · have h1 : hearB V F = true := by simpa using hh
            unfold hearB kindB at h1
            unfold passB at hp
            simp only [Bool.and_eq_true, Bool.or_eq_true, beq_iff_eq] at h1 hp
            rcases h1.1 with e | e
            · exact e
            · exact absurd (.inl (.inr e)) hp
          · show (V.tr ++ [cmF F]).length = _
            simp
          · show (decide (2 ≤ pop 8 (outN _ _)) || decide (1000 ≤ V.tr.length + 1)) = false
            have e0 : outN (castS V (F 1).toNat (cmF F)) (cmF F) = 0 := ho
            rw [e0, decide_eq_false (by decide), decide_eq_false (by omega)]
            rfl
def voteB (p : Pk) : Bool := decide (p.dst = 3) && (decide ((decF p.b).1 = 0) && decide ((decF p.b).2 0 = 2))
def votesIn (l : List Pk) : Nat := (l.filter voteB).length
theorem votesIn_le (l : List Pk) : votesIn l ≤ l.length := List.length_filter_le _ _
theorem votesIn_put {p : Pk} (h : voteB p = false) (l : List Pk) : votesIn (putP p l) = votesIn l := by
  unfold putP votesIn
  split
  · rfl
  · rw [List.filter_append, List.filter_cons, h]; simp
theorem voteB_sent {src dst : Nat} {F : FR} (h : F 0 ≠ 2) : voteB ⟨src, dst, bytesF F⟩ = false := by
  unfold voteB
  rcases dec_bytes F with e | e
  · rw [decide_eq_false e]; simp
  · have e0 : (decF (bytesF F)).2 0 = F 0 := e 0 (by omega)
    show (_ && (_ && decide ((decF (bytesF F)).2 0 = 2))) = false
    rw [e0, decide_eq_false h]; simp
theorem votesIn_sends {src dst : Nat} : ∀ (Fs : List FR) (l : List Pk), (∀ F ∈ Fs, F 0 ≠ 2) → votesIn (sendsN src dst Fs l) = votesIn l
  | [], _, _ => rfl
  | F :: r, l, h => (votesIn_sends r _ fun G hG => h G (by simp [hG])).trans (votesIn_put (voteB_sent (h F (by simp))) l)
theorem votesIn_others {src : Nat} {F : FR} (h : F 0 ≠ 2) (l : List Pk) : ∀ k, votesIn (othersN src F l k) = votesIn l
  | 0 => rfl
  | k + 1 => by
    unfold othersN
    split
    · exact votesIn_others h l k
    · exact (votesIn_put (voteB_sent h) _).trans (votesIn_others h l k)
theorem votesIn_alls {src : Nat} : ∀ (Fs : List FR) (l : List Pk), (∀ F ∈ Fs, F 0 ≠ 2) → votesIn (allsN src Fs l) = votesIn l
  | [], _, _ => rfl
  | F :: r, l, h => (votesIn_alls r _ fun G hG => h G (by simp [hG])).trans (votesIn_others (h F (by simp)) l 3)
theorem take_told (V : VS) (F : FR) : ∀ G ∈ (takeF win V F).2.1, G 0 ≠ 2 := by
  have hd : ∀ k d, doneF k d 0 ≠ 2 := fun k d => by show (3 : Int) ≠ 2; decide
  intro G hG
  unfold takeF at hG
  split at hG
  · simp at hG
  · split at hG
    · unfold pastF at hG
      split at hG
      · simp only [List.mem_cons, List.not_mem_nil, or_false] at hG
        rw [hG]; exact hd _ _
      · simp only [List.mem_cons, List.not_mem_nil, or_false] at hG
        rcases hG with e | e <;> rw [e] <;> exact hd _ _
    · split at hG
      · simp at hG
      · split at hG
        · simp at hG
        · simp only [List.mem_cons, List.not_mem_nil, or_false] at hG
          rw [hG]; exact hd _ _
theorem takeT_told (F : FR) (R : RS) : ∀ G ∈ takeT L F R, G 0 ≠ 2 := by
  intro G hG
  unfold takeT doneT at hG
  split at hG
  · split at hG
    · simp at hG
    · split at hG
      · simp only [List.mem_cons, List.not_mem_nil, or_false] at hG
        rw [hG]; show (4 : Int) ≠ 2; decide
      · simp at hG
  · split at hG
    · simp at hG
    · split at hG
      · simp only [List.mem_cons, List.not_mem_nil, or_false] at hG
        rw [hG]; show (5 : Int) ≠ 2; decide
      · simp at hG
structure Time (win : Nat) (S : SY) : Prop where
  lat : S.v.lat = false
  left : S.v.left = win
theorem Time.arrive (h : Time win S) (hI : SInv L W 3 win T S) (hL : LOk L) {i : Nat} (hi : i < S.net.length) (hc : S.v.tr.length + 1 < 1000) : Time win (arriveSy L win i S) ∧ (arriveSy L win i S).v.tr.length ≤ S.v.tr.length + 1 := by
  have hA := (hI.arrive hL hi).1.out0
  unfold arriveSy comeSy at hA ⊢
  split
  · exact ⟨⟨h.lat, h.left⟩, by show S.v.tr.length ≤ _; omega⟩
  · rename_i hn
    rw [if_neg hn] at hA
    split
    · rename_i hd
      rw [if_pos hd] at hA
      have ho : (takeF win S.v (decF (pkAt S.net i).b).2).1.out = 0 := hA
      obtain ⟨a, b⟩ := take_fresh h.lat h.left (decF (pkAt S.net i).b).2
      rcases b with ⟨b1, b2⟩ | ⟨_, b1, b2⟩
      · exact ⟨⟨b2, a⟩, by show (takeF win S.v _).1.tr.length ≤ _; rw [b1]; omega⟩
      · exact ⟨⟨b2 ho hc, a⟩, by show (takeF win S.v _).1.tr.length ≤ _; omega⟩
    · exact ⟨⟨h.lat, h.left⟩, by show S.v.tr.length ≤ _; omega⟩
theorem Time.first (h : Time win S) (hI : SInv L W 3 win T S) (hL : LOk L) {p : Pk} {l : List Pk} (he : S.net = p :: l) (hc : S.v.tr.length + votesIn S.net < 999) : Time win (arriveSy L win 0 S) ∧ (arriveSy L win 0 S).v.tr.length + votesIn (arriveSy L win 0 S).net ≤ S.v.tr.length + votesIn S.net := by
  have hA := (hI.arrive hL (i := 0) (by rw [he]; simp)).1.out0
  have hpk : pkAt S.net 0 = p := by rw [he]; rfl
  have hou : outSy 0 S = ⟨S.rp, S.v, l⟩ := by unfold outSy; rw [he]; rfl
  have hvl : votesIn S.net = (if voteB p then 1 else 0) + votesIn l := by
    rw [he]; unfold votesIn
    rw [List.filter_cons]
    split <;> simp <;> omega
  unfold arriveSy at hA ⊢
  rw [hpk, hou] at hA ⊢
  unfold comeSy at hA ⊢
  split
  · exact ⟨⟨h.lat, h.left⟩, by show S.v.tr.length + votesIn l ≤ _; omega⟩
  · rename_i hn
    rw [if_neg hn] at hA
    split
    · rename_i hd
      rw [if_pos hd] at hA
      have ho : (takeF win S.v (decF p.b).2).1.out = 0 := hA
      obtain ⟨a, b⟩ := take_fresh h.lat h.left (decF p.b).2
      have hnet : votesIn (voteNet win p.src ⟨S.rp, S.v, l⟩ (decF p.b).2) = votesIn l := by
        unfold voteNet
        split
        · exact votesIn_alls _ _ (take_told S.v _)
        · exact votesIn_sends _ _ (take_told S.v _)
      rcases b with ⟨b1, b2⟩ | ⟨b0, b1, b2⟩
      · exact ⟨⟨b2, a⟩, by show (takeF win S.v _).1.tr.length + votesIn (voteNet win p.src ⟨S.rp, S.v, l⟩ _) ≤ _; rw [b1, hnet]; omega⟩
      · have hv : voteB p = true := by
          unfold voteB
          have h1 : (decF p.b).1 = 0 := by
            by_cases e : (decF p.b).1 = 0
            · exact e
            · exact absurd (.inl e) hn
          rw [hd, h1, b0]; rfl
        rw [hv, if_pos rfl] at hvl
        exact ⟨⟨b2 ho (by omega), a⟩, by show (takeF win S.v _).1.tr.length + votesIn (voteNet win p.src ⟨S.rp, S.v, l⟩ _) ≤ _; rw [hnet]; omega⟩
    · refine ⟨⟨h.lat, h.left⟩, ?_⟩
      show S.v.tr.length + votesIn (sendsN p.dst p.src (takeT L (decF p.b).2 (S.rp p.dst)) l) ≤ _
      rw [votesIn_sends _ _ (takeT_told _ _)]; omega
theorem Time.all (hL : LOk L) : ∀ (m : Nat) (S : SY), Time win S → SInv L W 3 win T S → S.v.tr.length + votesIn S.net < 999 → Time win (runAll L win m S) ∧ SInv L W 3 win T (runAll L win m S) ∧ (runAll L win m S).v.tr.length ≤ S.v.tr.length + votesIn S.net
  | 0, S, h, hI, _ => ⟨h, hI, by show S.v.tr.length ≤ _; omega⟩
  | m + 1, S, h, hI, hc => by
    cases hnet : S.net with
    | nil => rw [runAll_nil hnet]; exact ⟨h, hI, by omega⟩
    | cons p l =>
      obtain ⟨a, b⟩ := h.first hI hL hnet hc
      obtain ⟨q1, q2, q3⟩ := Time.all hL m _ a (hI.arrive hL (by rw [hnet]; simp)).1 (by omega)
      rw [← hnet]
      exact ⟨q1, q2, Nat.le_trans q3 b⟩
theorem StepTo.time {wh : Int} (hs : StepTo L win 3 wh A B) (hw : wh < 10) (hL : LOk L) (hI : TlInv L 3 win T A) (h : Time win A.S) (hc : A.S.v.tr.length + 1 < 1000) : Time win B.S ∧ B.S.v.tr.length ≤ A.S.v.tr.length + 1 := by
  refine hs (fun B => Time win B.S ∧ B.S.v.tr.length ≤ A.S.v.tr.length + 1) ?_ ?_ ?_ ?_ ?_ ?_ ?_ ?_ ?_ ?_ ?_ ?_ ?_
  · exact ⟨h, by omega⟩
  · intro _ _ _ _
    exact ⟨⟨h.lat, h.left⟩, by show A.S.v.tr.length ≤ _; omega⟩
  · intro _ _
    exact ⟨⟨h.lat, h.left⟩, by show A.S.v.tr.length ≤ _; omega⟩
  · intro _ _
    exact ⟨⟨h.lat, h.left⟩, by show A.S.v.tr.length ≤ _; omega⟩
  · intro i hi
    exact h.arrive hI.inv hL hi hc
  · intro _
    exact ⟨⟨h.lat, h.left⟩, by show A.S.v.tr.length ≤ _; omega⟩
  · intro _ _
    exact ⟨⟨h.lat, h.left⟩, by show A.S.v.tr.length ≤ _; omega⟩
  · intro _ _ _ _ _ _ _ _ _ _
    exact ⟨⟨h.lat, h.left⟩, by show A.S.v.tr.length ≤ _; omega⟩
  · intro _ _
    exact ⟨⟨h.lat, h.left⟩, by show A.S.v.tr.length ≤ _; omega⟩
  · intro _ _ _ _ _ _
    exact ⟨⟨h.lat, h.left⟩, by show A.S.v.tr.length ≤ _; omega⟩
  · intro _ _ hx _ _
    omega
  · intro hx
    omega
  · intro hx
    omega
theorem roundsC {P : Nat → SY → Prop} (c : Nat) (hL : LOk L) (hW : ∀ j n x b, W j n x b)
    (hP : ∀ i S S' T, SInv L W 3 win T S → S.net = [] → P i S → Half L W win (T + 3) (ticksSy L S) S' → P (i + 1) S')
    (hV : ∀ i S, P i S → P i (vtickSy S)) : ∀ (n i T : Nat) (S S' : SY), Stand L W win T (c + n + 1) S → S.v.tr.length + 2 * n < 1000 → P i S → calmTo L win n S S' → P (i + 2 * n) S' ∧ Stand L W win (T + 6 * n) (c + 1) S' ∧ S'.v.tr.length ≤ S.v.tr.length + 2 * n
  | 0, i, T, S, S', h, _, hp, hc => by
    have e : S' = S := hc
    subst e
    exact ⟨hp, h, by omega⟩
  | n + 1, i, T, S, S', h, hcap, hp, hc => by
    obtain ⟨S1, ⟨m0, m1, m2, e0, e1, e2, e⟩, hc1⟩ := hc
    rw [runAll_nil h.net] at e0 e1 e2 e
    have h1 := half_step hL hW h.inv h.net h.lat (by omega) e1
    have p1 := hP i S _ T h.inv h.net hp h1
    have f1 := h1.few
    generalize runAll L win m1 (ticksSy L S) = A at h1 p1 f1 e1 e2 e
    have s1 : Stand L W win (T + 3) (c + n + 2) A := h1.stand h.left h.wins
    have h2 := half_step hL hW s1.inv s1.net s1.lat (by omega) e2
    have p2 := hP (i + 1) A _ (T + 3) s1.inv s1.net p1 h2
    have f2 := h2.few
    generalize runAll L win m2 (ticksSy L A) = B at h2 p2 f2 e2 e
    have s2 : Stand L W win (T + 3 + 3) (c + n + 2) B := h2.stand s1.left s1.wins
    subst e
    have s3 := s2.tick
    have hl := vtick_tr B
    obtain ⟨q1, q2, q3⟩ := roundsC c hL hW hP hV n (i + 1 + 1) (T + 3 + 3) (vtickSy B) S' s3 (by rw [hl]; omega) (hV _ _ p2) hc1
    refine ⟨?_, ?_, ?_⟩
    · rw [show i + 2 * (n + 1) = i + 1 + 1 + 2 * n by omega]; exact q1
    · rw [show T + 6 * (n + 1) = T + 3 + 3 + 6 * n by omega]; exact q2
    · rw [hl] at q3; omega
theorem calm_ran {m0 : Nat} (hm : (runAll L win m0 S).net = []) (h : calmTo L win (n + 1) S S') (hmin : ∀ j, (runAll L win j S).net = [] → runAll L win j S = runAll L win m0 S) : calmTo L win (n + 1) (runAll L win m0 S) S' := by
  obtain ⟨S1, ⟨j0, m1, m2, e0, e1, e2, e⟩, hc⟩ := h
  rw [hmin j0 e0] at e1 e2 e
  refine ⟨S1, ⟨0, m1, m2, hm, e1, e2, e⟩, hc⟩
theorem runAll_uniq {a b : Nat} (ha : (runAll L win a S).net = []) (hb : (runAll L win b S).net = []) : runAll L win a S = runAll L win b S := by
  rcases Nat.le_total a b with h | h
  · obtain ⟨d, rfl⟩ := Nat.exists_eq_add_of_le h
    rw [runAll_add, runAll_nil ha]
  · obtain ⟨d, rfl⟩ := Nat.exists_eq_add_of_le h
    rw [runAll_add, runAll_nil hb]
theorem two3_self (a : Nat) : two3 a a a = a := by
  unfold two3
  rw [Nat.and_self, Nat.or_self, Nat.or_self]
theorem goes_sync {t0 i : Nat} (h : Goes L t0 i S) (hi : 5 ≤ i) : Sync S ∧ t0 < S.v.tr.length := by
  rcases h with ⟨_, ⟨e, _⟩ | ⟨e, _⟩ | ⟨e, _⟩⟩ | ⟨hf, ht⟩
  · omega
  · omega
  · omega
  · exact ⟨hf.elim (·.sync) (·.sync), ht⟩
theorem calm_six (hL : LOk L) (hI : SInv L WT 3 20 T S) (h : Time 20 S) (ht : S.v.tr.length ≤ 120) (hc : calmTo L 20 6 S S') : Stand L WT 20 (T + 36) 14 S' ∧ Sync S' ∧ S.v.tr.length < S'.v.tr.length ∧ S'.v.tr.length ≤ 300 := by
  obtain ⟨m0, hm⟩ := hI.ends hL
  have hn := hI.many
  have hv := votesIn_le S.net
  obtain ⟨a, b, c⟩ := Time.all hL m0 S h hI (by omega)
  have hrun := (SInv.runsAll hL m0 S hI).tr
  have hc' := calm_ran hm hc fun j hj => runAll_uniq hj hm
  have hst : Stand L WT 20 T (13 + 6 + 1) (runAll L 20 m0 S) := ⟨b, hm, a.lat, by rw [a.left]; omega, by omega⟩
  obtain ⟨q1, q2, q3⟩ := roundsC (P := Goes L (runAll L 20 m0 S).v.tr.length) 13 hL (fun _ _ _ _ => trivial) (fun i S S' T h0 _ hp h => goes_half h0 hp h) (fun i S hp => goes_tick hp) 6 0 T _ S' hst (by omega) (.inl ⟨Nat.le_refl _, .inl ⟨by omega, level_zero b⟩⟩) hc'
  obtain ⟨s1, s2⟩ := goes_sync q1 (by omega)
  obtain ⟨x, hx⟩ := hrun
  have hlen : S.v.tr.length ≤ (runAll L 20 m0 S).v.tr.length := by rw [hx]; simp
  exact ⟨q2, s1, by omega, by omega⟩
theorem calm_five {x y : Int} (hL : LOk L) (hst : Stand L WT 20 T 14 S) (hs : Sync S) (ht : S.v.tr.length ≤ 300) (hsee : ∀ r, r < 3 → (S.rp r).sx = x ∧ (S.rp r).sy = y) (hc : calmTo L 20 5 S S') : Stand L WT 20 (T + 30) 1 S' ∧ Sync S' ∧ ∃ d o, S'.v.tr = d ++ [⟨(fitN L.s x : Nat), (fitN L.n y : Nat), o⟩] := by
  have hw : wantC L S = fitN L.s x ∧ wantV L S = fitN L.n y := by
    unfold wantC wantV
    rw [(hsee 0 (by omega)).1, (hsee 1 (by omega)).1, (hsee 2 (by omega)).1, (hsee 0 (by omega)).2, (hsee 1 (by omega)).2, (hsee 2 (by omega)).2]
    exact ⟨two3_self _, two3_self _⟩
  obtain ⟨q1, q2, q3⟩ := roundsC (P := Lasts L (fitN L.s x) (fitN L.n y)) 8 hL (fun _ _ _ _ => trivial) (fun i S S' T h0 _ hp h => lasts_half h0 hp h) (fun i S hp => lasts_tick hp) 5 0 T S S' hst (by omega) ⟨hw, .inl ⟨rfl, hs⟩⟩ hc
  obtain ⟨_, q⟩ := q1
  rcases q with ⟨e, _⟩ | ⟨hf, hl⟩
  · omega
  · refine ⟨⟨q2.inv, q2.net, q2.lat, by have := q2.left; omega, by omega⟩, hf.elim (·.sync) (·.sync), ?_⟩
    rcases hl with e | e | e
    · exact e
    · omega
    · omega
end
end Go.Proofs.YtaablbmgagiajabGreatDoor
namespace Go.Proofs.YtaablbmgagiajabGreatDoor
open Go.RowKit Go.Deep
structure CmInv (w wr : World) (N q : Nat) (L : RC) (k : Nat) : Prop where
  old : Below w.heap.size w wr
  ge : w.heap.size ≤ q
  ok : LOk L
  is : ∃ E' A, TaIs wr N q E' L 20 3 A ∧ TlInv L 3 20 (18 * k) A ∧ A.seen.length ≤ 3 * k ∧ Time 20 A.S ∧ A.S.v.tr.length ≤ k
theorem CmInv.does {w wr : World} {N q : Nat} {L : RC} {k : Nat} {X : SD} (h : CmInv w wr N q L k) (hk : k ≤ 120) (hx : X.wh < 10) (htab : HasTab w) (h0 : 0 < w.heap.size) (hby : IsB w X.ba X.bl X.bc X.bs) (hbl : X.bl ≤ 200) :
    Calls Tryz.prog 12 #[.pointer (some ⟨q, 0, none⟩), .agg (sdL X).toArray] wr fun e w' => e = .returned (.tuple #[]) ∧ Hid (CmInv w w' N q L (k + 1)) := by
  obtain ⟨E', A, hT, hI, hs, hti, htr⟩ := h.is
  refine (does_any N q E' L 20 3 (18 * k) A wr X hT hI h.ok (by omega) (by omega) (htab.below h.old h0) (hby.below h.old) hbl).mono ?_
  rintro e w' ⟨he, A', hst, hg⟩
  have hold := TaGo.old hT h.old h.ge hg
  obtain ⟨E2, _, _, _, _, hT2, _⟩ := hg
  obtain ⟨t1, t2⟩ := hst.time hx h.ok hI hti (by omega)
  refine ⟨he, hide ⟨hold, h.ge, h.ok, E2, A', hT2, ?_, ?_, t1, by omega⟩⟩
  · rw [show 18 * (k + 1) = 18 * k + 18 by omega]
    exact (hst.keeps h.ok hI).1
  · have := hst.few; omega
theorem CmInv.skip {w wr : World} {N q : Nat} {L : RC} {k : Nat} (h : CmInv w wr N q L k) : CmInv w wr N q L (k + 1) := by
  obtain ⟨E', A, hT, hI, hs, hti, htr⟩ := h.is
  exact ⟨h.old, h.ge, h.ok, E', A, hT, hI.later (by omega), by omega, hti, by omega⟩
structure CpInv (w wr : World) (N q p b off cap : Nat) (L : RC) (T : Nat) (S : SY) : Prop where
  old : Below w.heap.size w wr
  ge : w.heap.size ≤ q
  is : ∃ E A, TaIs wr N q E L 20 3 A ∧ A.S = S ∧ E.D.p = p ∧ E.b = b ∧ E.off = off ∧ E.cap = cap
  inv : SInv L WT 3 20 T S
section
variable {w wr wx : World} {N q p b off cap : Nat} {L : RC} {T : Nat} {S S' : SY}
theorem CmInv.cp {k : Nat} (h : CmInv w wr N q L k) (hk : k ≤ 120) : ∃ p b off cap S, CpInv w wr N q p b off cap L 2200 S ∧ Time 20 S ∧ S.v.tr.length ≤ 120 := by
  obtain ⟨E', A, hT, hI, hs, hti, htr⟩ := h.is
  exact ⟨_, _, _, _, A.S, ⟨h.old, h.ge, ⟨E', A, hT, rfl, rfl, rfl, rfl, rfl⟩, (hI.inv.le fun _ _ _ _ _ => trivial).later (by omega)⟩, hti, by omega⟩
theorem CpInv.below (h : CpInv w wr N q p b off cap L T S) (hB : Below wr.heap.size wr wx) : CpInv w wx N q p b off cap L T S := by
  obtain ⟨E, A, hT, e⟩ := h.is
  exact ⟨h.old.trans (hB.mono h.old.size), h.ge, ⟨E, A, hT.below hB, e⟩, h.inv⟩
theorem CpInv.at (h : CpInv w wr N q p b off cap L T S) : wr.cell? ⟨q, 0, none⟩ = some (.pointer (some ⟨p, 0, none⟩)) ∧ wr.cell? ⟨q, 1, none⟩ = some (.int .i64 (L.s : Int)) ∧ wr.cell? ⟨q, 2, none⟩ = some (.slice (some ⟨b, off, none⟩) L.n cap) ∧ wr.cell? ⟨q, 3, none⟩ = some (.int .i64 (L.d : Int)) := by
  obtain ⟨E, A, hT, _, rfl, rfl, rfl, rfl⟩ := h.is
  exact ⟨(hT.at 0).trans rfl, (hT.at 1).trans rfl, (hT.at 2).trans rfl, (hT.at 3).trans rfl⟩
theorem CpInv.go (h : CpInv w wr N q p b off cap L T S) {T' : Nat} (hI : SInv L WT 3 20 T' S') : ∃ D, D.p = p ∧ SyIs wr N D L 20 S ∧ N ≤ wr.heap.size ∧ ∀ wx, SyGo wr wx N D L 20 S' → CpInv w wx N q p b off cap L T' S' := by
  obtain ⟨E, A, hT, rfl, rfl, rfl, rfl, rfl⟩ := h.is
  refine ⟨E.D, rfl, hT.sy, hT.size, fun wx hg => ?_⟩
  have hg2 := hT.went hg
  have hold := TaGo.old hT h.old h.ge hg2
  obtain ⟨E2, e1, e2, e3, e4, hT2, _⟩ := hg2
  exact ⟨hold, h.ge, ⟨E2, _, hT2, rfl, e4, e1, e2, congrArg Prod.fst e3⟩, hI⟩
theorem CpInv.calm (h : CpInv w wr N q p b off cap L T S) (hL : LOk L) (n : Nat) (hn : n ≤ 6) (hT : T ≤ 3000) : Calls Tryz.prog 16 #[.pointer (some ⟨p, 0, none⟩), .int .i64 (n : Int)] wr fun e w' => e = .returned (.tuple #[]) ∧ Hid (∃ S', calmTo L 20 n S S' ∧ CpInv w w' N q p b off cap L (T + 6 * n) S') := by
  obtain ⟨E, A, hTA, hS, hp, hb, ho, hc⟩ := h.is
  subst hS
  have hcl : ClInv L WT 3 20 T A.S := ⟨h.inv, fun _ _ _ _ _ => ⟨fun _ _ => trivial, fun _ _ => trivial⟩⟩
  have key := calm_any (W := WT) (liar := 3) (T := T) N E.D L 20 A.S wr n hTA.sy hcl hL (by omega) (by omega) hTA.size
  rw [hp] at key
  refine key.mono ?_
  rintro e w2 ⟨he, S', hc', hI, hg⟩
  refine ⟨he, hide ⟨S', hc', ?_⟩⟩
  have hg2 := hTA.went hg
  have hold := TaGo.old hTA h.old h.ge hg2
  obtain ⟨E2, e1, e2, e3, e4, hT2, _⟩ := hg2
  exact ⟨hold, h.ge, ⟨E2, _, hT2, rfl, e4.trans hp, e1.trans hb, e2.trans ho, (congrArg Prod.fst e3).trans hc⟩, hI.inv⟩
theorem CpInv.see (h : CpInv w wr N q p b off cap L T S) (k : Nat) (hk : k < 3) (x y : Int) : Calls Tryz.prog 18 #[.pointer (some ⟨p, 0, none⟩), .int .i64 (k : Int), .agg #[.int .i64 x, .int .i64 y]] wr fun e w' => e = .returned .nilIface ∧ Hid (CpInv w w' N q p b off cap L T (seeSy k x y S)) := by
  obtain ⟨D, rfl, hS, _, hgo⟩ := h.go (h.inv.see hk x y)
  refine (sysee_any N D L 20 S wr k x y hk hS).mono ?_
  rintro e w' ⟨he, hg⟩
  exact ⟨he, hide (hgo w' hg)⟩
theorem CpInv.trace (h : CpInv w wr N q p b off cap L T S) : Calls Tryz.prog 13 #[.pointer (some ⟨p, 0, none⟩)] wr fun e w' => (∃ v, e = .returned v ∧ TIs w' wr.heap.size v S.v.tr) ∧ Below wr.heap.size wr w' := by
  obtain ⟨D, rfl, hS, _, _⟩ := h.go h.inv
  exact strace_any N D L 20 S wr hS h.inv.vok
theorem CpInv.latched (h : CpInv w wr N q p b off cap L T S) : Calls Tryz.prog 14 #[.pointer (some ⟨p, 0, none⟩)] wr fun e w' => e = .returned (.bool S.v.lat) ∧ w' = wr := by
  obtain ⟨D, rfl, hS, _, _⟩ := h.go h.inv
  exact slatched_any N D L 20 S wr hS
theorem CpInv.out (h : CpInv w wr N q p b off cap L T S) : Calls Tryz.prog 17 #[.pointer (some ⟨p, 0, none⟩)] wr fun e w' => e = .returned (.int .i64 (S.v.out : Int)) ∧ w' = wr := by
  obtain ⟨D, rfl, hS, _, _⟩ := h.go h.inv
  exact sout_any N D L 20 S wr hS
theorem CpInv.shown (h : CpInv w wr N q p b off cap L T S) : Calls Tryz.prog 15 #[.pointer (some ⟨p, 0, none⟩)] wr fun e w' => e = .returned (.int .i64 (shownF S.v)) ∧ Below wr.heap.size wr w' := by
  obtain ⟨D, rfl, hS, _, _⟩ := h.go h.inv
  exact sshown_any N D L 20 S wr hS h.inv.vok
theorem CpInv.replica (h : CpInv w wr N q p b off cap L T S) (k : Nat) (hk : k < 3) : Calls Tryz.prog 20 #[.pointer (some ⟨p, 0, none⟩), .int .i64 (k : Int)] wr fun e w' => e = .returned (.tuple #[.int .i64 (S.rp k).cycle, .agg (stCells (S.rp k).st), .nilIface]) ∧ Below wr.heap.size wr w' := by
  obtain ⟨D, rfl, hS, _, _⟩ := h.go h.inv
  exact sreplica_any N D L 20 S wr k hk hS
theorem CpInv.line (h : CpInv w wr N q p b off cap L T S) : Row wr b off L.zs ∧ b < wr.heap.size ∧ L.n ≤ cap := by
  obtain ⟨E, A, hT, _, rfl, rfl, rfl, rfl⟩ := h.is
  exact ⟨hT.row, Nat.lt_of_lt_of_le hT.lb.1 hT.size, hT.cap⟩
end
theorem pop_all : ∀ n : Fin 9, ∀ s : Fin 256, s.val < 2 ^ n.val → pop 8 s.val ≤ n.val := by decide +kernel
theorem pop_at {n s : Nat} (hn : n ≤ 8) (h : s < 2 ^ n) : pop 8 s ≤ n := pop_all ⟨n, by omega⟩ ⟨s, Nat.lt_of_lt_of_le h (Nat.pow_le_pow_right (n := 2) (by decide) (show n ≤ 8 by omega))⟩ h
end Go.Proofs.YtaablbmgagiajabGreatDoor
namespace Go.Proofs.YtaablbmgagiajabGreatDoor
open Go.RowKit Go.Deep
theorem fit_line (s d : Nat) (x0 x1 : Int) (b off n cap : Nat) (zs : List Int) (w : World) (hn : zs.length = n) (hok : checkF s zs d = (0, -1)) (hb : b < w.heap.size) (hc : Row w b off zs) (hcap : n ≤ cap) :
    Calls Tryz.prog 19 #[.agg #[.int .i64 (s : Int), .slice (some ⟨b, off, none⟩) n cap, .int .i64 (d : Int)], .agg #[.int .i64 x0, .int .i64 x1]] w fun e w' =>
      e = .returned (.tuple #[.agg #[.int .i64 ((fitN s x0 : Nat) : Int), .int .i64 ((fitN n x1 : Nat) : Int)], .nilIface]) ∧ Below w.heap.size w w' := by
  have hr := range_pos hok
  unfold rangeB at hr
  simp only [Bool.and_eq_true, inB_iff] at hr
  have h1 := fit_ok (s : Int) (d : Int) x0 x1 b off cap zs w hok hb hc (by omega)
  rw [fitN_eq s x0 (by omega), fitN_eq zs.length x1 (by omega), hn] at h1
  exact h1
def seesTo (x y : Int) (S : SY) : Nat → SY
  | 0 => S
  | k + 1 => seeSy k x y (seesTo x y S k)
theorem seesTo_v (x y : Int) (S : SY) : ∀ k, (seesTo x y S k).v = S.v ∧ (seesTo x y S k).net = S.net ∧ ∀ r, ((seesTo x y S k).rp r).cycle = (S.rp r).cycle
  | 0 => ⟨rfl, rfl, fun _ => rfl⟩
  | k + 1 => by
    obtain ⟨h1, h2, h3⟩ := seesTo_v x y S k
    refine ⟨h1, h2, fun r => ?_⟩
    show (upd (seesTo x y S k).rp k _ r).cycle = _
    by_cases e : r = k
    · subst e; rw [upd_same]; exact h3 r
    · rw [upd_other _ _ e]; exact h3 r
theorem seesTo_sees (x y : Int) (S : SY) : ∀ k r, r < k → ((seesTo x y S k).rp r).sx = x ∧ ((seesTo x y S k).rp r).sy = y
  | 0, r, h => by omega
  | k + 1, r, h => by
    show (upd (seesTo x y S k).rp k _ r).sx = x ∧ (upd (seesTo x y S k).rp k _ r).sy = y
    by_cases e : r = k
    · subst e; rw [upd_same]; exact ⟨rfl, rfl⟩
    · rw [upd_other _ _ e]; exact seesTo_sees x y S k r (by omega)
theorem pick17 : 3 + (pickF 17 18).toNat = 20 := by decide +kernel
theorem pick3 : (pickF 3 4).toNat = 3 := by decide +kernel
theorem infoIn2 : (Tryz.prog.info? 31).map (·.size) = some 2 := by kernel_rfl
theorem row_same2 {w : World} {g : Nat} {old : Array Value} {t : TypeId} (h : w.heap[g]? = some (.cells old t (0, 0))) (cells : Array Value) : (w.setRow g cells).heap[g]? = some (.cells cells t (0, 0)) := by
  exact setRow_heap w g _ _ _ _ h
set_option maxHeartbeats 4000000 in
set_option maxRecDepth 20000 in
theorem scalm_any (x0 x1 : Int) (a : Option Addr) (len cap : Nat) (al : Option Addr) (ll cl : Nat) (ix iy : Int) (w : World) (hm : len ≤ maxLen) (hrt : ∀ i, i < len → ∃ b off z, a = some ⟨b, off, none⟩ ∧ b < w.heap.size ∧ w.cell? ⟨b, off + i, none⟩ = some (.int .i64 z)) (hs : StepAt w al ll) (hml : ll ≤ maxLen) (htab : HasTab w) (h0 : 0 < w.heap.size) :
    Calls Tryz.prog 4 #[.int .i64 x0, .int .i64 x1, .slice a len cap, .slice al ll cl, .agg #[.int .i64 ix, .int .i64 iy]] w fun e w' => e = .returned (.bool true) ∧ Below w.heap.size w w' := by
  unfold maxLen at hm
  obtain ⟨W, hW⟩ : ∃ W, Hid (w.alloc (.cells #[.int .i64 ix, .int .i64 iy] 31) = W) := ⟨_, hide rfl⟩
  have hBW : Below w.heap.size w W := by rw [← hW.out]; exact (Below.refl _ _).alloc (Nat.le_refl _) _
  have hbx : W.heap[w.heap.size]? = some (.cells #[.int .i64 ix, .int .i64 iy] 31 (0, 0)) := by rw [← hW.out]; exact blk_new _ _
  have hws : w.heap.size < W.heap.size := blk_lt hbx
  have hs' := hs.below hBW
  have HFT := hide (fits_any al ll cl W hs' hml)
  by_cases hl : 30 < len
  · clear hrt hs HFT htab hs'
    go_enter Tryz.func4, Tryz.ntmps4
    go_wp2
    go_ret
    exact ⟨rfl, by rw [show w.alloc (.cells #[.int .i64 ix, .int .i64 iy] 31) = W from hW.out]; exact hBW⟩
  · have hl' : ¬ (30 : Int) < (len : Int) := by omega
    have HRT : Hid (∀ i, i < len → ∃ b off z, a = some ⟨b, off, none⟩ ∧ b < W.heap.size ∧ W.cell? ⟨b, off + i, none⟩ = some (.int .i64 z)) := hide fun i hi => by
      obtain ⟨b, off, z, h1, h2, h3⟩ := hrt i hi
      exact ⟨b, off, z, h1, Nat.lt_of_lt_of_le h2 hBW.size, (hBW.cell (p := ⟨b, off + i, none⟩) h2).trans h3⟩
    have HS := hide hs'
    have HTB := hide (htab.below hBW h0)
    have HBX : Hid (∀ wx, Below W.heap.size W wx → wx.cell? ⟨w.heap.size, 0, none⟩ = some (.int .i64 ix) ∧ wx.cell? ⟨w.heap.size, 1, none⟩ = some (.int .i64 iy)) := hide fun wx hx => by
      have hb := (hx.block _ hws).trans hbx
      exact ⟨(blk_cell hb 0).trans rfl, (blk_cell hb 1).trans rfl⟩
    have HBW := hide hBW
    have h0W : 0 < W.heap.size := by omega
    clear hrt hs htab hs' hbx hBW
    go_enter Tryz.func4, Tryz.ntmps4
    go_wp2_with fail
    rw [show w.alloc (.cells #[.int .i64 ix, .int .i64 iy] 31) = W from hW.out]
    clear hW
    refine HFT.out.mono ?_
    rintro e wz ⟨⟨r, rfl, hr⟩, hwz⟩
    subst wz
    clear HFT
    cases r
    · go_wp2
      go_ret
      exact ⟨rfl, HBW.out⟩
    · obtain ⟨hll, hby⟩ := hr rfl
      have HBY := hide hby
      clear hr hby
      have HRN := hide (ran_any W)
      go_wp2_with (go_at_call 10; refine HRN.out.mono ?_)
      rintro e w1 ⟨rfl, hB1⟩
      have hs1 := hB1.size
      have HTL := hide (tells_any x0 x1 17 3 a len cap w1 (by omega) fun i hi => by
        obtain ⟨b, off, z, h1, h2, h3⟩ := HRT.out i hi
        exact ⟨b, off, z, h1, Nat.lt_of_lt_of_le h2 hB1.size, (hB1.cell (p := ⟨b, off + i, none⟩) h2).trans h3⟩)
      rw [pick17, pick3] at HTL
      have HB1 := hide hB1
      clear HRN hB1 HRT
      go_wp2_with (go_at_call 11; refine HTL.out.mono ?_)
      rintro e w2 ⟨⟨N, q, E, L, rfl, hq, hL, hT⟩, hB2⟩
      have HP : Hid (CmInv W w2 N q L 0) := hide ⟨HB1.out.trans (hB2.mono HB1.out.size), Nat.le_trans hs1 hq, hL, E, _, hT, ⟨SInv.new (by decide) (by decide), fun _ _ => ⟨rfl, rfl⟩⟩, Nat.le_refl _, ⟨rfl, rfl⟩, Nat.le_refl _⟩
      have HL := hide hL
      clear HTL HB1 hB2 hT hq hL
      go_wp2_with fail
      go_loopw [12] (fun i wr => ∃ k : Nat, k ≤ ll ∧ i = .int .i64 k ∧ CmInv W wr N q L k) (fun i _ => ll - (intOf i).toNat)
      case atStart => exact ⟨0, Nat.zero_le _, rfl, HP.out⟩
      case round =>
        clear HP
        obtain ⟨k, hk, rfl, hP⟩ := hrel
        by_cases hlt : k < ll
        · obtain ⟨b, off, X, rfl, hb, hr1, hr2, hby⟩ := HS.out.load hP.old hlt
          have g0 : wr.cell? ⟨b, off + k * 29, none⟩ = some (.int .i64 X.wh) := hr2 0 _ (by simp [sdL])
          by_cases hx : X.wh < 10
          · have HC := hide (hP.does (X := X) (by omega) hx HTB.out h0W hby (HBY.out k b off X hlt rfl hr1))
            have HR := hide hr2
            clear hP hr1 hr2 hby
            go_wp2_with (first
              | (refine wpList_load_mid rfl 39 _ rfl b (off + k * 29) rfl (sdL X) _ HR.out Tryz.underlying39 rfl (by rw [infoStep, sdL_len]) ?_)
              | (go_at_call 12; refine HC.out.mono ?_))
            rintro e w3 ⟨rfl, HG⟩
            go_wp2
            go_roundw
            case rel => exact ⟨k + 1, by omega, by go_num, HG.out⟩
            case measure => simp [intOf]; omega
          · have HG := hide hP.skip
            clear hP hr1 hr2 hby
            go_wp2
            go_roundw
            case rel => exact ⟨k + 1, by omega, by go_num, HG.out⟩
            case measure => simp [intOf]; omega
        · have e2 : k = ll := by omega
          subst e2
          obtain ⟨p, b, off, cp, S, hC, hti, htr⟩ := hP.cp (by omega)
          obtain ⟨c0, _⟩ := hC.at
          have HTR := hide hC.trace
          have HC0 := hide hC
          clear hP HS HBY hC
          go_wp2_with (go_at_call 13; refine HTR.out.mono ?_)
          rintro e w3 ⟨⟨v, rfl, hTr⟩, hB3⟩
          obtain ⟨ta, tc, rfl⟩ := hTr.shape
          have hC3 := HC0.out.below hB3
          obtain ⟨d0, _⟩ := hC3.at
          have HCM : Hid (Calls Tryz.prog 16 #[.pointer (some ⟨p, 0, none⟩), .int .i64 6] w3 fun e w' => e = .returned (.tuple #[]) ∧ Hid (∃ S', calmTo L 20 6 S S' ∧ CpInv W w' N q p b off cp L (2200 + 6 * 6) S')) := hide (hC3.calm HL.out 6 (by omega) (by omega))
          have HI := hide hC3.inv
          have HTI := hide hti
          obtain ⟨n0, hn0⟩ : ∃ n0, Hid (S.v.tr.length = n0) := ⟨_, hide rfl⟩
          rw [hn0.out] at htr ⊢
          clear hTr hB3 hC3 HC0 HTR c0 hti
          go_wp2_with (go_at_call 16; refine HCM.out.mono ?_)
          rintro e w4 ⟨rfl, HG⟩
          obtain ⟨S1, hc1, hC4⟩ := HG.out
          obtain ⟨hst1, hsy1, hlt1, hle1⟩ := calm_six HL.out HI.out HTI.out (by rw [hn0.out]; exact htr) hc1
          have HLAT := hide hC4.latched
          rw [hst1.lat] at HLAT
          have HOUT := hide hC4.inv.out0
          obtain ⟨c0, _⟩ := hC4.at
          have HTR := hide hC4.trace
          have HST := hide hst1
          have HSY := hide hsy1
          have HC4 := hide hC4
          rw [hn0.out] at hlt1
          clear HG HCM hC4 hst1 hsy1 hc1 d0 HI HTI
          go_wp2_with (go_at_call 14; refine HLAT.out.mono ?_)
          rintro e wz ⟨rfl, hwz⟩
          subst wz
          go_wp2_with (go_at_call 13; refine HTR.out.mono ?_)
          rintro e w5 ⟨⟨v, rfl, hTr⟩, hB5⟩
          obtain ⟨ta5, tc5, rfl⟩ := hTr.shape
          have hC5 := HC4.out.below hB5
          obtain ⟨d0, _⟩ := hC5.at
          have HOU := hide hC5.out
          rw [HOUT.out] at HOU
          have HC5 := hide hC5
          have hlt2 : ¬ (S1.v.tr.length : Int) ≤ (n0 : Int) := by omega
          have hlt3 : decide (S1.v.tr.length ≤ n0) = false := by simp; omega
          clear hTr hB5 HTR hC5 HC4 HLAT c0 HOUT
          go_wp2_with (go_at_call 17; refine HOU.out.mono ?_)
          rintro e wz ⟨rfl, hwz⟩
          subst wz
          clear HOU d0
          go_wp2_with fail
          go_loopw [15] (fun j wr => ∃ r : Nat, r ≤ 3 ∧ j = .int .i64 r ∧ CpInv W wr N q p b off cp L (2200 + 6 * 6) (seesTo ix iy S1 r)) (fun j _ => 3 - (intOf j).toNat)
          case atStart => exact ⟨0, by omega, rfl, HC5.out⟩
          case round =>
            clear HC5
            obtain ⟨r, hr3, rfl, hC⟩ := hrel
            by_cases hr : r < 3
            · have hr' : (r : Int) < 3 := by omega
              obtain ⟨c0, _⟩ := hC.at
              obtain ⟨g0, g1⟩ := HBX.out wr hC.old
              have HSE := hide ((hC.below (Below.refl _ _).drew).see r hr ix iy)
              clear hC
              go_wp2_with fail
              refine wp_region_held_drew (S := fun w' => w'.cell? ⟨q, 0, none⟩ = some (.pointer (some ⟨p, 0, none⟩)) ∧ w'.cell? ⟨w.heap.size, 0, none⟩ = some (.int .i64 ix) ∧ w'.cell? ⟨w.heap.size, 1, none⟩ = some (.int .i64 iy)) (by kernel_rfl) ⟨c0, g0, g1⟩ (fun hHeld => ?_)
              refine wpAnyH_take (i := 0) (oi := _) (v := .pointer (some ⟨q, 0, none⟩)) rfl (by kernel_rfl) (by kernel_rfl) (by kernel_rfl) (fun _ _ _ h => h) (Or.inl ⟨by kernel_rfl, fun w _ => by go_simp⟩) hHeld ?_
              simp only [Act.put, List.getElem_toArray, List.getElem_cons_zero, List.setIfInBounds_toArray, List.set_cons_succ, List.set_cons_zero]
              refine wpAnyH_take (i := 1) (oi := _) (v := .pointer (some ⟨q, 0, none⟩)) rfl (by kernel_rfl) (by kernel_rfl) (by kernel_rfl) (fun _ _ _ h => h) (Or.inl ⟨by kernel_rfl, fun w _ => by go_simp⟩) hHeld ?_
              simp only [Act.put, List.getElem_toArray, List.getElem_cons_succ, List.getElem_cons_zero, List.setIfInBounds_toArray, List.set_cons_succ, List.set_cons_zero]
              refine wpAnyH_take (i := 2) (oi := _) (v := .pointer (some ⟨q, 0, none⟩)) rfl (by kernel_rfl) (by kernel_rfl) (by kernel_rfl) (fun _ _ _ h => h) (Or.inl ⟨by kernel_rfl, fun w _ => by go_simp⟩) hHeld ?_
              simp only [Act.put, List.getElem_toArray, List.getElem_cons_succ, List.getElem_cons_zero, List.setIfInBounds_toArray, List.set_cons_succ, List.set_cons_zero]
              refine wpAnyH_take (i := 3) (oi := _) (v := .pointer (some ⟨p, 0, none⟩)) rfl (by kernel_rfl) (by kernel_rfl) (by kernel_rfl) (fun _ _ _ h => h) (Or.inl ⟨by kernel_rfl, fun w h => by obtain ⟨h1, h2, h3⟩ := h; go_simp⟩) hHeld ?_
              simp only [Act.put, List.getElem_toArray, List.getElem_cons_succ, List.getElem_cons_zero, List.setIfInBounds_toArray, List.set_cons_succ, List.set_cons_zero]
              refine wpAnyH_take (i := 4) (oi := _) (v := .int .i64 (r : Int)) rfl (by kernel_rfl) (by kernel_rfl) (by kernel_rfl) (fun _ _ _ h => h) (Or.inl ⟨by kernel_rfl, fun w _ => by go_simp⟩) hHeld ?_
              simp only [Act.put, List.getElem_toArray, List.getElem_cons_succ, List.getElem_cons_zero, List.setIfInBounds_toArray, List.set_cons_succ, List.set_cons_zero]
              refine wpAnyH_take (i := 5) (oi := _) (v := .agg #[.int .i64 ix, .int .i64 iy]) rfl (by kernel_rfl) (by kernel_rfl) (by kernel_rfl) (fun _ _ _ h => h) (Or.inl ⟨by kernel_rfl, fun w h => by obtain ⟨h1, h2, h3⟩ := h; go_simp⟩) hHeld ?_
              simp only [Act.put, List.getElem_toArray, List.getElem_cons_succ, List.getElem_cons_zero, List.setIfInBounds_toArray, List.set_cons_succ, List.set_cons_zero]
              refine wpAnyH_ready (rs := [6]) (by kernel_rfl) (by simp) ?_
              refine AllReadyH.cons (o := _) rfl (fun K hK => ?_) AllReadyH.nil
              rw [if_pos (by rfl)]
              go_simp
              go_at_call 18
              refine HSE.out.mono ?_
              rintro e w6 ⟨rfl, HG⟩
              dsimp only
              obtain ⟨c0', _⟩ := HG.out.at
              obtain ⟨g0', g1'⟩ := HBX.out w6 HG.out.old
              refine hK.out _ _ ⟨c0', g0', g1'⟩ (fun hHeld => ?_)
              clear hK K
              refine wpAnyH_take (i := 7) (oi := _) (v := .bool false) rfl (by kernel_rfl) (by kernel_rfl) (by kernel_rfl) (fun _ _ _ h => h) (Or.inl ⟨by kernel_rfl, fun w _ => by go_simp⟩) hHeld ?_
              simp only [Act.put, List.getElem_toArray, List.getElem_cons_succ, List.getElem_cons_zero, List.setIfInBounds_toArray, List.set_cons_succ, List.set_cons_zero]
              refine wpAnyH_done (by kernel_rfl) ?_ _
              clear c0' g0' g1'
              go_wp2
              go_roundw
              case rel => exact ⟨r + 1, by omega, by go_num, HG.out⟩
              case measure => simp [intOf]; omega
            · have er : r = 3 := by omega
              subst er
              obtain ⟨sv1, sv2, sv3⟩ := seesTo_v ix iy S1 3
              have hst3 : Stand L WT 20 (2200 + 6 * 6) 14 (seesTo ix iy S1 3) := ⟨hC.inv, sv2.trans HST.out.net, by rw [sv1]; exact HST.out.lat, by rw [sv1]; exact HST.out.left, HST.out.wins⟩
              have hsy3 : Sync (seesTo ix iy S1 3) := fun r hr => by rw [sv1, sv3]; exact HSY.out r hr
              have hse3 := seesTo_sees ix iy S1 3
              have hle3 : (seesTo ix iy S1 3).v.tr.length ≤ 300 := by rw [sv1]; exact hle1
              obtain ⟨c0, _⟩ := hC.at
              have HCM : Hid (Calls Tryz.prog 16 #[.pointer (some ⟨p, 0, none⟩), .int .i64 5] wr fun e w' => e = .returned (.tuple #[]) ∧ Hid (∃ S', calmTo L 20 5 (seesTo ix iy S1 3) S' ∧ CpInv W w' N q p b off cp L (2200 + 6 * 6 + 6 * 5) S')) := hide (hC.calm HL.out 5 (by omega) (by omega))
              have HS3 := hide hst3
              have HY3 := hide hsy3
              clear hC hst3 hsy3 sv1 sv2 sv3 HST HSY
              go_wp2_with (go_at_call 16; refine HCM.out.mono ?_)
              rintro e w6 ⟨rfl, HG⟩
              obtain ⟨S2, hc2, hC6⟩ := HG.out
              obtain ⟨hst4, hsy4, dd, oo, htr4⟩ := calm_five HL.out HS3.out HY3.out hle3 hse3 hc2
              clear HG HCM HS3 HY3 hse3 hle3 hc2 c0
              have hLF := HL.out.few
              have HFIT : Hid (∀ wx, Below w6.heap.size w6 wx → Calls Tryz.prog 19 #[.agg #[.int .i64 (L.s : Int), .slice (some ⟨b, off, none⟩) L.n cp, .int .i64 (L.d : Int)], .agg #[.int .i64 ix, .int .i64 iy]] wx fun e w' =>
                  e = .returned (.tuple #[.agg #[.int .i64 ((fitN L.s ix : Nat) : Int), .int .i64 ((fitN L.n iy : Nat) : Int)], .nilIface]) ∧ Hid (Below wx.heap.size wx w')) := hide fun wx hx => by
                obtain ⟨hrow, hbl, hcp⟩ := (hC6.below hx).line
                refine (fit_line L.s L.d ix iy b off L.n cp L.zs wx HL.out.len HL.out.ok hbl hrow hcp).mono ?_
                rintro e w' ⟨he, hB⟩
                exact ⟨he, hide hB⟩
              have HCELL : Hid (∀ wx, Below w6.heap.size w6 wx → wx.cell? ⟨q, 1, none⟩ = some (.int .i64 (L.s : Int)) ∧ wx.cell? ⟨q, 2, none⟩ = some (.slice (some ⟨b, off, none⟩) L.n cp) ∧ wx.cell? ⟨q, 3, none⟩ = some (.int .i64 (L.d : Int)) ∧ wx.cell? ⟨w.heap.size, 0, none⟩ = some (.int .i64 ix) ∧ wx.cell? ⟨w.heap.size, 1, none⟩ = some (.int .i64 iy)) := hide fun wx hx => by
                obtain ⟨_, e1, e2, e3⟩ := (hC6.below hx).at
                obtain ⟨g0, g1⟩ := HBX.out wx (hC6.below hx).old
                exact ⟨e1, e2, e3, g0, g1⟩
              obtain ⟨fc, hfc⟩ : ∃ fc, Hid (fitN L.s ix = fc) := ⟨_, hide rfl⟩
              obtain ⟨fv, hfv⟩ : ∃ fv, Hid (fitN L.n iy = fv) := ⟨_, hide rfl⟩
              rw [hfc.out, hfv.out] at HFIT htr4
              have HC6 := hide hC6
              have HST4 := hide hst4
              have HSY4 := hide hsy4
              have HTR4 := hide htr4
              clear hC6 hst4 hsy4 htr4
              go_wp2_with fail
              go_cut [16, 17] from 104 to 117 (fun b e wc => ∃ g, b = .pointer (some ⟨g, 0, none⟩) ∧ e = .nilIface ∧ w6.heap.size ≤ g ∧ Below w6.heap.size w6 wc ∧ wc.heap[g]? = some (.cells #[.int .i64 (fc : Int), .int .i64 (fv : Int)] 31 (0, 0)))
              case first =>
                have hss : ∀ wx, Below w6.heap.size w6 wx → wx.cell? ⟨q, 1, none⟩ = some (.int .i64 (L.s : Int)) ∧ wx.cell? ⟨q, 2, none⟩ = some (.slice (some ⟨b, off, none⟩) L.n cp) ∧ wx.cell? ⟨q, 3, none⟩ = some (.int .i64 (L.d : Int)) ∧ wx.cell? ⟨w.heap.size, 0, none⟩ = some (.int .i64 ix) ∧ wx.cell? ⟨w.heap.size, 1, none⟩ = some (.int .i64 iy) := fun wx hx => HCELL.out wx hx
                refine wp_region_held_drew (S := fun w' => w'.cell? ⟨q, 1, none⟩ = some (.int .i64 (L.s : Int)) ∧ w'.cell? ⟨q, 2, none⟩ = some (.slice (some ⟨b, off, none⟩) L.n cp) ∧ w'.cell? ⟨q, 3, none⟩ = some (.int .i64 (L.d : Int)) ∧ w'.cell? ⟨w.heap.size, 0, none⟩ = some (.int .i64 ix) ∧ w'.cell? ⟨w.heap.size, 1, none⟩ = some (.int .i64 iy)) (by kernel_rfl) (hss _ (Below.refl _ _).drew) (fun hHeld => ?_)
                refine wpAnyH_take (i := 0) (oi := _) (v := .pointer (some ⟨q, 0, none⟩)) rfl (by kernel_rfl) (by kernel_rfl) (by kernel_rfl) (fun _ _ _ h => h) (Or.inl ⟨by kernel_rfl, fun w _ => by go_simp⟩) hHeld ?_
                simp only [Act.put, List.getElem_toArray, List.getElem_cons_zero, List.setIfInBounds_toArray, List.set_cons_succ, List.set_cons_zero]
                refine wpAnyH_take (i := 1) (oi := _) (v := .pointer (some ⟨q, 0, none⟩)) rfl (by kernel_rfl) (by kernel_rfl) (by kernel_rfl) (fun _ _ _ h => h) (Or.inl ⟨by kernel_rfl, fun w _ => by go_simp⟩) hHeld ?_
                simp only [Act.put, List.getElem_toArray, List.getElem_cons_succ, List.getElem_cons_zero, List.setIfInBounds_toArray, List.set_cons_succ, List.set_cons_zero]
                refine wpAnyH_take (i := 2) (oi := _) (v := .pointer (some ⟨q, 1, none⟩)) rfl (by kernel_rfl) (by kernel_rfl) (by kernel_rfl) (fun _ _ _ h => h) (Or.inl ⟨by kernel_rfl, fun w _ => by go_simp⟩) hHeld ?_
                simp only [Act.put, List.getElem_toArray, List.getElem_cons_succ, List.getElem_cons_zero, List.setIfInBounds_toArray, List.set_cons_succ, List.set_cons_zero]
                refine wpAnyH_take (i := 3) (oi := _) (v := .agg #[.int .i64 (L.s : Int), .slice (some ⟨b, off, none⟩) L.n cp, .int .i64 (L.d : Int)]) rfl (by kernel_rfl) (by kernel_rfl) (by kernel_rfl) (fun _ _ _ h => h) (Or.inl ⟨by kernel_rfl, fun w h => by obtain ⟨h1, h2, h3, h4, h5⟩ := h; go_simp⟩) hHeld ?_
                simp only [Act.put, List.getElem_toArray, List.getElem_cons_succ, List.getElem_cons_zero, List.setIfInBounds_toArray, List.set_cons_succ, List.set_cons_zero]
                refine wpAnyH_take (i := 4) (oi := _) (v := .agg #[.int .i64 ix, .int .i64 iy]) rfl (by kernel_rfl) (by kernel_rfl) (by kernel_rfl) (fun _ _ _ h => h) (Or.inl ⟨by kernel_rfl, fun w h => by obtain ⟨h1, h2, h3, h4, h5⟩ := h; go_simp⟩) hHeld ?_
                simp only [Act.put, List.getElem_toArray, List.getElem_cons_succ, List.getElem_cons_zero, List.setIfInBounds_toArray, List.set_cons_succ, List.set_cons_zero]
                refine wpAnyH_ready (rs := [5, 9]) (by kernel_rfl) (by simp) ?_
                refine AllReadyH.cons (o := _) rfl (fun K hK => ?_) (AllReadyH.cons (o := _) rfl (fun K hK => ?_) AllReadyH.nil)
                · rw [if_pos (by rfl)]
                  go_simp
                  go_at_call 19
                  refine (unhide HFIT _ (Below.refl _ _).drew).mono ?_
                  rintro e w7 ⟨rfl, HB7⟩
                  dsimp only
                  have hB7 : Below w6.heap.size w6 w7 := (Below.refl _ _).drew.trans HB7.out
                  refine hK.out _ _ (hss _ hB7) (fun hHeld => ?_)
                  clear hK K
                  refine wpAnyH_take (i := 6) (oi := _) (v := .tuple #[.agg #[.int .i64 (fc : Int), .int .i64 (fv : Int)], .nilIface]) rfl (by kernel_rfl) (by kernel_rfl) (by kernel_rfl) (fun _ _ _ h => h) (Or.inl ⟨by kernel_rfl, fun w _ => by go_simp⟩) hHeld ?_
                  simp only [Act.put, List.getElem_toArray, List.getElem_cons_succ, List.getElem_cons_zero, List.setIfInBounds_toArray, List.set_cons_succ, List.set_cons_zero]
                  refine wpAnyH_take (i := 7) (oi := _) (v := .agg #[.int .i64 (fc : Int), .int .i64 (fv : Int)]) rfl (by kernel_rfl) (by kernel_rfl) (by kernel_rfl) (fun _ _ _ h => h) (Or.inl ⟨by kernel_rfl, fun w _ => by go_simp⟩) hHeld ?_
                  simp only [Act.put, List.getElem_toArray, List.getElem_cons_succ, List.getElem_cons_zero, List.setIfInBounds_toArray, List.set_cons_succ, List.set_cons_zero]
                  refine wpAnyH_take (i := 8) (oi := _) (v := .nilIface) rfl (by kernel_rfl) (by kernel_rfl) (by kernel_rfl) (fun _ _ _ h => h) (Or.inl ⟨by kernel_rfl, fun w _ => by go_simp⟩) hHeld ?_
                  simp only [Act.put, List.getElem_toArray, List.getElem_cons_succ, List.getElem_cons_zero, List.setIfInBounds_toArray, List.set_cons_succ, List.set_cons_zero]
                  refine wpAnyH_ready (rs := [9]) (by kernel_rfl) (by simp) ?_
                  refine AllReadyH.cons (o := _) rfl (fun K hK => ?_) AllReadyH.nil
                  rw [if_pos (by rfl)]
                  go_simp
                  have hz : (w7.alloc (.cells #[.int .i64 0, .int .i64 0] 31)).heap[w7.heap.size]? = some (.cells #[.int .i64 0, .int .i64 0] 31 (0, 0)) := blk_new _ _
                  have hB8 : Below w6.heap.size w6 (w7.alloc (.cells #[.int .i64 0, .int .i64 0] 31)) := hB7.alloc hB7.size _
                  refine hK.out _ _ (hss _ hB8) (fun hHeld => ?_)
                  clear hK K
                  refine wpAnyH_ready (rs := [10]) (by kernel_rfl) (by simp) ?_
                  refine AllReadyH.cons (o := _) rfl (fun K hK => ?_) AllReadyH.nil
                  rw [if_pos (by rfl)]
                  refine wp_store_row _ _ _ rfl _ #[.int .i64 (fc : Int), .int .i64 (fv : Int)] rfl rfl _ _ hz (by rw [infoIn2]; rfl) rfl (by simp [Value.oneCell']) ?_
                  have hB9 := below_row hB8 hB7.size #[.int .i64 (fc : Int), .int .i64 (fv : Int)]
                  have hz9 := row_same2 hz #[.int .i64 (fc : Int), .int .i64 (fv : Int)]
                  refine hK.out _ _ (hss _ hB9) (fun hHeld => ?_)
                  clear hK K
                  refine wpAnyH_take (i := 11) (oi := _) (v := .nilIface) rfl (by kernel_rfl) (by kernel_rfl) (by kernel_rfl) (fun _ _ _ h => h) (Or.inl ⟨by kernel_rfl, fun w _ => by go_simp⟩) hHeld ?_
                  simp only [Act.put, List.getElem_toArray, List.getElem_cons_succ, List.getElem_cons_zero, List.setIfInBounds_toArray, List.set_cons_succ, List.set_cons_zero]
                  refine wpAnyH_done (by kernel_rfl) ?_ _
                  go_wp2_with fail
                  go_meet
                  exact ⟨_, rfl, rfl, hB7.size, hB9, hz9⟩
                · rw [if_pos (by rfl)]
                  go_simp
                  have hz : (w6.alloc (.cells #[.int .i64 0, .int .i64 0] 31)).drew.heap[w6.heap.size]? = some (.cells #[.int .i64 0, .int .i64 0] 31 (0, 0)) := blk_new _ _
                  have hB7 : Below w6.heap.size w6 (w6.alloc (.cells #[.int .i64 0, .int .i64 0] 31)).drew := ((Below.refl _ _).alloc (Nat.le_refl _) _).drew
                  refine hK.out _ _ (hss _ hB7) (fun hHeld => ?_)
                  clear hK K
                  refine wpAnyH_ready (rs := [5]) (by kernel_rfl) (by simp) ?_
                  refine AllReadyH.cons (o := _) rfl (fun K hK => ?_) AllReadyH.nil
                  rw [if_pos (by rfl)]
                  go_simp
                  go_at_call 19
                  refine (unhide HFIT _ hB7).mono ?_
                  rintro e w7 ⟨rfl, HB7⟩
                  dsimp only
                  have hB8 : Below w6.heap.size w6 w7 := hB7.trans (HB7.out.mono hB7.size)
                  have hz8 : w7.heap[w6.heap.size]? = some (.cells #[.int .i64 0, .int .i64 0] 31 (0, 0)) := (HB7.out.block _ (blk_lt hz)).trans hz
                  refine hK.out _ _ (hss _ hB8) (fun hHeld => ?_)
                  clear hK K
                  refine wpAnyH_take (i := 6) (oi := _) (v := .tuple #[.agg #[.int .i64 (fc : Int), .int .i64 (fv : Int)], .nilIface]) rfl (by kernel_rfl) (by kernel_rfl) (by kernel_rfl) (fun _ _ _ h => h) (Or.inl ⟨by kernel_rfl, fun w _ => by go_simp⟩) hHeld ?_
                  simp only [Act.put, List.getElem_toArray, List.getElem_cons_succ, List.getElem_cons_zero, List.setIfInBounds_toArray, List.set_cons_succ, List.set_cons_zero]
                  refine wpAnyH_take (i := 7) (oi := _) (v := .agg #[.int .i64 (fc : Int), .int .i64 (fv : Int)]) rfl (by kernel_rfl) (by kernel_rfl) (by kernel_rfl) (fun _ _ _ h => h) (Or.inl ⟨by kernel_rfl, fun w _ => by go_simp⟩) hHeld ?_
                  simp only [Act.put, List.getElem_toArray, List.getElem_cons_succ, List.getElem_cons_zero, List.setIfInBounds_toArray, List.set_cons_succ, List.set_cons_zero]
                  refine wpAnyH_take (i := 8) (oi := _) (v := .nilIface) rfl (by kernel_rfl) (by kernel_rfl) (by kernel_rfl) (fun _ _ _ h => h) (Or.inl ⟨by kernel_rfl, fun w _ => by go_simp⟩) hHeld ?_
                  simp only [Act.put, List.getElem_toArray, List.getElem_cons_succ, List.getElem_cons_zero, List.setIfInBounds_toArray, List.set_cons_succ, List.set_cons_zero]
                  refine wpAnyH_ready (rs := [10]) (by kernel_rfl) (by simp) ?_
                  refine AllReadyH.cons (o := _) rfl (fun K hK => ?_) AllReadyH.nil
                  rw [if_pos (by rfl)]
                  refine wp_store_row _ _ _ rfl _ #[.int .i64 (fc : Int), .int .i64 (fv : Int)] rfl rfl _ _ hz8 (by rw [infoIn2]; rfl) rfl (by simp [Value.oneCell']) ?_
                  have hB9 := below_row hB8 (Nat.le_refl _) #[.int .i64 (fc : Int), .int .i64 (fv : Int)]
                  have hz9 := row_same2 hz8 #[.int .i64 (fc : Int), .int .i64 (fv : Int)]
                  refine hK.out _ _ (hss _ hB9) (fun hHeld => ?_)
                  clear hK K
                  refine wpAnyH_take (i := 11) (oi := _) (v := .nilIface) rfl (by kernel_rfl) (by kernel_rfl) (by kernel_rfl) (fun _ _ _ h => h) (Or.inl ⟨by kernel_rfl, fun w _ => by go_simp⟩) hHeld ?_
                  simp only [Act.put, List.getElem_toArray, List.getElem_cons_succ, List.getElem_cons_zero, List.setIfInBounds_toArray, List.set_cons_succ, List.set_cons_zero]
                  refine wpAnyH_done (by kernel_rfl) ?_ _
                  go_wp2_with fail
                  go_meet
                  exact ⟨_, rfl, rfl, Nat.le_refl _, hB9, hz9⟩
              case rest =>
                obtain ⟨g, rfl, rfl, hg, hBc, hzc⟩ := hcut
                have hgl := blk_lt hzc
                have hCc := HC6.out.below hBc
                obtain ⟨c0, _⟩ := hCc.at
                have HTR := hide hCc.trace
                have HCc := hide hCc
                have HZC := hide hzc
                obtain ⟨tr, htr⟩ : ∃ tr, Hid (S2.v.tr = tr) := ⟨_, hide rfl⟩
                rw [htr.out] at HTR HTR4
                have hnn : tr.length = dd.length + 1 := by rw [HTR4.out]; simp
                have hcm : cmAt tr dd.length = ⟨(fc : Int), (fv : Int), oo⟩ := by rw [HTR4.out]; exact cmAt_new _ _
                have hsh : shownF S2.v = oo := by
                  unfold shownF
                  rw [HST4.out.lat, htr.out, hnn, show dd.length + 1 - 1 = dd.length by omega, hcm]
                  rfl
                have hoo : ∃ o : Nat, oo = (o : Int) ∧ o < 2 ^ L.n := by
                  obtain ⟨c', v', hd, _⟩ := HST4.out.inv.tr dd.length (by rw [htr.out, hnn]; omega)
                  rw [htr.out, hcm] at hd
                  exact ⟨_, congrArg Cm.o hd, showTo_lt _ _ _ _ _ _ (Nat.le_refl _)⟩
                obtain ⟨o, ho, hol⟩ := hoo
                subst ho
                have hpop := pop_at (n := L.n) (s := o) (by omega) hol
                have ho8 : o < 256 := Nat.lt_of_lt_of_le hol (Nat.pow_le_pow_right (n := 2) (by decide) (show L.n ≤ 8 by omega))
                have hcyc : ∀ r, r < 3 → (S2.rp r).cycle = ((dd.length + 1 : Nat) : Int) := fun r hr => by
                  have := HSY4.out r hr
                  rw [htr.out, hnn] at this
                  exact this
                have HCY := hide hcyc
                have HSHW := hide hsh
                have hfew := HST4.out.inv.vok.few
                rw [htr.out, hnn] at hfew
                clear hBc hCc HFIT HCELL hcyc hsh HST4 HSY4 HC6 hzc
                go_wp2_with (go_at_call 13; refine HTR.out.mono ?_)
                rintro e w8 ⟨⟨v, rfl, hTr⟩, hB8⟩
                obtain ⟨g2, c2, rfl, hg2, hgl2, hc2⟩ := hTr.has (by omega)
                rw [hnn] at hTr hc2 ⊢
                obtain ⟨m, hm'⟩ : ∃ m, Hid (dd.length = m) := ⟨_, hide rfl⟩
                rw [hm'.out] at hnn hcm HCY hfew hTr hc2 ⊢
                have hC8 := HCc.out.below hB8
                have HX : Hid (∀ wx, Below w8.heap.size w8 wx → (wx.cell? ⟨g2, m * 3, none⟩ = some (.int .i64 (fc : Int)) ∧ wx.cell? ⟨g2, m * 3 + 1, none⟩ = some (.int .i64 (fv : Int)) ∧ wx.cell? ⟨g2, m * 3 + 2, none⟩ = some (.int .i64 (o : Int))) ∧ wx.cell? ⟨g, 0, none⟩ = some (.int .i64 (fc : Int)) ∧ wx.cell? ⟨g, 1, none⟩ = some (.int .i64 (fv : Int))) := hide fun wx hx => by
                  have hr := (hTr.same (w' := wx) fun g' hg' => by
                    have : g2 = g' := by simpa [Value.ownBlock] using hg'
                    exact hx.block g' (by omega)).range (k := m) (by omega)
                  rw [hcm] at hr
                  have hb := (hx.block g (Nat.lt_of_lt_of_le hgl hB8.size)).trans ((hB8.block g hgl).trans HZC.out)
                  exact ⟨⟨hr 0 _ rfl, hr 1 _ rfl, hr 2 _ rfl⟩, (blk_cell hb 0).trans rfl, (blk_cell hb 1).trans rfl⟩
                have HC8 := hide hC8
                obtain ⟨⟨t0, t1, t2⟩, z0, z1⟩ := HX.out w8 (Below.refl _ _)
                have q1 : ((m : Int) + 1 - 1) = (m : Int) := by omega
                have q2 : (m : Int) < ((m + 1 : Nat) : Int) := by omega
                clear hTr hB8 HTR c0 hC8 hcm HCc HZC
                go_wp2_with fail
                go_quiet (fail)
                go_wp2_with fail
                have HBD : Hid (Below w8.heap.size w8 w8.drew) := hide (Below.refl _ _).drew
                go_loopw [19] (fun j wr => ∃ r : Nat, r ≤ 3 ∧ j = .int .i64 r ∧ Below w8.heap.size w8 wr) (fun j _ => 3 - (intOf j).toNat)
                case atStart => exact ⟨0, by omega, rfl, below_drewN (Below.refl _ _) _⟩
                case round =>
                  obtain ⟨r, hr3, rfl, hBr⟩ := hrel
                  have hCr := HC8.out.below hBr
                  obtain ⟨c0, e1, e2, e3⟩ := hCr.at
                  by_cases hr : r < 3
                  · have hr' : (r : Int) < 3 := by omega
                    have HRP := hide (hCr.replica r hr)
                    rw [HCY.out r hr] at HRP
                    obtain ⟨X, hX⟩ : ∃ X, Hid ((S2.rp r).st = X) := ⟨_, hide rfl⟩
                    rw [hX.out] at HRP
                    have HBR := hide hBr
                    clear hCr hBr e1 e2 e3
                    go_wp2_with (go_at_call 20; refine HRP.out.mono ?_)
                    rintro e w9 ⟨rfl, hB9⟩
                    have HS0 : Hid (StIs (w9.alloc (.cells (stCells st0) 34)) w9.heap.size st0) := hide (blk_new _ _)
                    have HB9 := hide hB9
                    clear HRP c0 hB9
                    go_wp2_with (refine wpList_store_s rfl _ _ rfl w9.heap.size st0 X rfl rfl HS0.out ?_)
                    intro V HF
                    have hBV : Below w9.heap.size w9 V := ((Below.refl _ _).alloc (Nat.le_refl _) _).trans (HF.out.2.2 w9.heap.size (Nat.le_refl _))
                    have HBV := hide (HBR.out.trans ((HB9.out.trans (hBV.mono HB9.out.size)).mono HBR.out.size))
                    clear HF HS0 hBV HB9 HBR
                    go_wp2
                    go_roundw
                    case rel => exact ⟨r + 1, by omega, by go_num, HBV.out⟩
                    case measure => simp [intOf]; omega
                  · have er : r = 3 := by omega
                    subst er
                    have HSHN : Hid (∀ wx, Below wr.heap.size wr wx → Calls Tryz.prog 15 #[.pointer (some ⟨p, 0, none⟩)] wx fun e w' => e = .returned (.int .i64 (o : Int)) ∧ Hid (Below wx.heap.size wx w')) := hide fun wx hx => by
                      have h := (hCr.below hx).shown
                      rw [HSHW.out] at h
                      refine h.mono ?_
                      rintro e w' ⟨he, hB⟩
                      exact ⟨he, hide hB⟩
                    have HSS : Hid (∀ wx, Below wr.heap.size wr wx → wx.cell? ⟨q, 0, none⟩ = some (.pointer (some ⟨p, 0, none⟩)) ∧ wx.cell? ⟨q, 2, none⟩ = some (.slice (some ⟨b, off, none⟩) L.n cp) ∧ wx.cell? ⟨g2, m * 3 + 2, none⟩ = some (.int .i64 (o : Int))) := hide fun wx hx => by
                      obtain ⟨d0, _, d2, _⟩ := (hCr.below hx).at
                      exact ⟨d0, d2, (HX.out wx (hBr.trans (hx.mono hBr.size))).1.2.2⟩
                    have HE := hide hCr.old
                    have HBWW := hide (HBW.out.trans (hCr.old.mono HBW.out.size))
                    clear hCr c0 e1 e2 e3 t0 t1 t2 z0 z1 HX HC8
                    go_wp2_with fail
                    refine wp_region_held_drew (S := fun w' => w'.cell? ⟨q, 0, none⟩ = some (.pointer (some ⟨p, 0, none⟩)) ∧ w'.cell? ⟨q, 2, none⟩ = some (.slice (some ⟨b, off, none⟩) L.n cp) ∧ w'.cell? ⟨g2, m * 3 + 2, none⟩ = some (.int .i64 (o : Int))) (by kernel_rfl) (HSS.out _ (Below.refl _ _).drew) (fun hHeld => ?_)
                    refine wpAnyH_take (i := 0) (oi := _) (v := .pointer (some ⟨q, 0, none⟩)) rfl (by kernel_rfl) (by kernel_rfl) (by kernel_rfl) (fun _ _ _ h => h) (Or.inl ⟨by kernel_rfl, fun w _ => by go_simp⟩) hHeld ?_
                    simp only [Act.put, List.getElem_toArray, List.getElem_cons_zero, List.setIfInBounds_toArray, List.set_cons_succ, List.set_cons_zero]
                    refine wpAnyH_take (i := 1) (oi := _) (v := .pointer (some ⟨q, 0, none⟩)) rfl (by kernel_rfl) (by kernel_rfl) (by kernel_rfl) (fun _ _ _ h => h) (Or.inl ⟨by kernel_rfl, fun w _ => by go_simp⟩) hHeld ?_
                    simp only [Act.put, List.getElem_toArray, List.getElem_cons_succ, List.getElem_cons_zero, List.setIfInBounds_toArray, List.set_cons_succ, List.set_cons_zero]
                    refine wpAnyH_take (i := 2) (oi := _) (v := .pointer (some ⟨q, 0, none⟩)) rfl (by kernel_rfl) (by kernel_rfl) (by kernel_rfl) (fun _ _ _ h => h) (Or.inl ⟨by kernel_rfl, fun w _ => by go_simp⟩) hHeld ?_
                    simp only [Act.put, List.getElem_toArray, List.getElem_cons_succ, List.getElem_cons_zero, List.setIfInBounds_toArray, List.set_cons_succ, List.set_cons_zero]
                    refine wpAnyH_take (i := 3) (oi := _) (v := .pointer (some ⟨p, 0, none⟩)) rfl (by kernel_rfl) (by kernel_rfl) (by kernel_rfl) (fun _ _ _ h => h) (Or.inl ⟨by kernel_rfl, fun w h => by obtain ⟨h1, h2, h3⟩ := h; go_simp⟩) hHeld ?_
                    simp only [Act.put, List.getElem_toArray, List.getElem_cons_succ, List.getElem_cons_zero, List.setIfInBounds_toArray, List.set_cons_succ, List.set_cons_zero]
                    refine wpAnyH_take (i := 5) (oi := _) (v := .slice (some ⟨g2, 0, none⟩) (m + 1) c2) rfl (by kernel_rfl) (by kernel_rfl) (by kernel_rfl) (fun _ _ _ h => h) (Or.inl ⟨by kernel_rfl, fun w _ => by go_simp⟩) hHeld ?_
                    simp only [Act.put, List.getElem_toArray, List.getElem_cons_succ, List.getElem_cons_zero, List.setIfInBounds_toArray, List.set_cons_succ, List.set_cons_zero]
                    refine wpAnyH_take (i := 6) (oi := _) (v := .slice (some ⟨g2, 0, none⟩) (m + 1) c2) rfl (by kernel_rfl) (by kernel_rfl) (by kernel_rfl) (fun _ _ _ h => h) (Or.inl ⟨by kernel_rfl, fun w _ => by go_simp⟩) hHeld ?_
                    simp only [Act.put, List.getElem_toArray, List.getElem_cons_succ, List.getElem_cons_zero, List.setIfInBounds_toArray, List.set_cons_succ, List.set_cons_zero]
                    refine wpAnyH_take (i := 7) (oi := _) (v := .int .i64 ((m + 1 : Nat) : Int)) rfl (by kernel_rfl) (by kernel_rfl) (by kernel_rfl) (fun _ _ _ h => h) (Or.inl ⟨by kernel_rfl, fun w _ => by go_simp⟩) hHeld ?_
                    simp only [Act.put, List.getElem_toArray, List.getElem_cons_succ, List.getElem_cons_zero, List.setIfInBounds_toArray, List.set_cons_succ, List.set_cons_zero]
                    refine wpAnyH_take (i := 8) (oi := _) (v := .int .i64 (m : Int)) rfl (by kernel_rfl) (by kernel_rfl) (by kernel_rfl) (fun _ _ _ h => h) (Or.inl ⟨by kernel_rfl, fun w _ => by go_simp; simp [IntKind.wrap, IntKind.bits, IntKind.signed]; omega⟩) hHeld ?_
                    simp only [Act.put, List.getElem_toArray, List.getElem_cons_succ, List.getElem_cons_zero, List.setIfInBounds_toArray, List.set_cons_succ, List.set_cons_zero]
                    refine wpAnyH_take (i := 9) (oi := _) (v := .pointer (some ⟨g2, m * 3, none⟩)) rfl (by kernel_rfl) (by kernel_rfl) (by kernel_rfl) (fun _ _ _ h => h) (Or.inl ⟨by kernel_rfl, fun w _ => by go_simp; intro hh; omega⟩) hHeld ?_
                    simp only [Act.put, List.getElem_toArray, List.getElem_cons_succ, List.getElem_cons_zero, List.setIfInBounds_toArray, List.set_cons_succ, List.set_cons_zero]
                    refine wpAnyH_take (i := 10) (oi := _) (v := .pointer (some ⟨g2, m * 3 + 2, none⟩)) rfl (by kernel_rfl) (by kernel_rfl) (by kernel_rfl) (fun _ _ _ h => h) (Or.inl ⟨by kernel_rfl, fun w _ => by go_simp⟩) hHeld ?_
                    simp only [Act.put, List.getElem_toArray, List.getElem_cons_succ, List.getElem_cons_zero, List.setIfInBounds_toArray, List.set_cons_succ, List.set_cons_zero]
                    refine wpAnyH_take (i := 11) (oi := _) (v := .int .i64 (o : Int)) rfl (by kernel_rfl) (by kernel_rfl) (by kernel_rfl) (fun _ _ _ h => h) (Or.inl ⟨by kernel_rfl, fun w h => by obtain ⟨h1, h2, h3⟩ := h; go_simp⟩) hHeld ?_
                    simp only [Act.put, List.getElem_toArray, List.getElem_cons_succ, List.getElem_cons_zero, List.setIfInBounds_toArray, List.set_cons_succ, List.set_cons_zero]
                    refine wpAnyH_ready (rs := [4]) (by kernel_rfl) (by simp) ?_
                    refine AllReadyH.cons (o := _) rfl (fun K hK => ?_) AllReadyH.nil
                    rw [if_pos (by rfl)]
                    go_simp
                    go_at_call 15
                    refine (unhide HSHN _ (Below.refl _ _).drew).mono ?_
                    rintro e wa ⟨rfl, HBa⟩
                    dsimp only
                    have hBa : Below wr.heap.size wr wa := (Below.refl _ _).drew.trans HBa.out
                    refine hK.out _ _ (HSS.out _ hBa) (fun hHeld => ?_)
                    clear hK K
                    refine wpAnyH_take (i := 12) (oi := _) (v := .bool true) rfl (by kernel_rfl) (by kernel_rfl) (by kernel_rfl) (fun _ _ _ h => h) (Or.inl ⟨by kernel_rfl, fun w _ => by go_simp⟩) hHeld ?_
                    simp only [Act.put, List.getElem_toArray, List.getElem_cons_succ, List.getElem_cons_zero, List.setIfInBounds_toArray, List.set_cons_succ, List.set_cons_zero]
                    refine wpAnyH_take (i := 13) (oi := _) (v := .bool true) rfl (by kernel_rfl) (by kernel_rfl) (by kernel_rfl) (fun _ _ _ h => h) (Or.inl ⟨by kernel_rfl, fun w _ => by go_simp⟩) hHeld ?_
                    simp only [Act.put, List.getElem_toArray, List.getElem_cons_succ, List.getElem_cons_zero, List.setIfInBounds_toArray, List.set_cons_succ, List.set_cons_zero]
                    refine wpAnyH_take (i := 14) (oi := _) (v := .pointer (some ⟨q, 0, none⟩)) rfl (by kernel_rfl) (by kernel_rfl) (by kernel_rfl) (fun _ _ _ h => h) (Or.inl ⟨by kernel_rfl, fun w _ => by go_simp⟩) hHeld ?_
                    simp only [Act.put, List.getElem_toArray, List.getElem_cons_succ, List.getElem_cons_zero, List.setIfInBounds_toArray, List.set_cons_succ, List.set_cons_zero]
                    refine wpAnyH_take (i := 15) (oi := _) (v := .pointer (some ⟨q, 0, none⟩)) rfl (by kernel_rfl) (by kernel_rfl) (by kernel_rfl) (fun _ _ _ h => h) (Or.inl ⟨by kernel_rfl, fun w _ => by go_simp⟩) hHeld ?_
                    simp only [Act.put, List.getElem_toArray, List.getElem_cons_succ, List.getElem_cons_zero, List.setIfInBounds_toArray, List.set_cons_succ, List.set_cons_zero]
                    refine wpAnyH_take (i := 16) (oi := _) (v := .pointer (some ⟨q, 0, none⟩)) rfl (by kernel_rfl) (by kernel_rfl) (by kernel_rfl) (fun _ _ _ h => h) (Or.inl ⟨by kernel_rfl, fun w _ => by go_simp⟩) hHeld ?_
                    simp only [Act.put, List.getElem_toArray, List.getElem_cons_succ, List.getElem_cons_zero, List.setIfInBounds_toArray, List.set_cons_succ, List.set_cons_zero]
                    refine wpAnyH_take (i := 17) (oi := _) (v := .pointer (some ⟨p, 0, none⟩)) rfl (by kernel_rfl) (by kernel_rfl) (by kernel_rfl) (fun _ _ _ h => h) (Or.inl ⟨by kernel_rfl, fun w h => by obtain ⟨h1, h2, h3⟩ := h; go_simp⟩) hHeld ?_
                    simp only [Act.put, List.getElem_toArray, List.getElem_cons_succ, List.getElem_cons_zero, List.setIfInBounds_toArray, List.set_cons_succ, List.set_cons_zero]
                    refine wpAnyH_take (i := 21) (oi := _) (v := .pointer (some ⟨q, 0, none⟩)) rfl (by kernel_rfl) (by kernel_rfl) (by kernel_rfl) (fun _ _ _ h => h) (Or.inl ⟨by kernel_rfl, fun w _ => by go_simp⟩) hHeld ?_
                    simp only [Act.put, List.getElem_toArray, List.getElem_cons_succ, List.getElem_cons_zero, List.setIfInBounds_toArray, List.set_cons_succ, List.set_cons_zero]
                    refine wpAnyH_take (i := 22) (oi := _) (v := .pointer (some ⟨q, 0, none⟩)) rfl (by kernel_rfl) (by kernel_rfl) (by kernel_rfl) (fun _ _ _ h => h) (Or.inl ⟨by kernel_rfl, fun w _ => by go_simp⟩) hHeld ?_
                    simp only [Act.put, List.getElem_toArray, List.getElem_cons_succ, List.getElem_cons_zero, List.setIfInBounds_toArray, List.set_cons_succ, List.set_cons_zero]
                    refine wpAnyH_take (i := 23) (oi := _) (v := .pointer (some ⟨q, 1, none⟩)) rfl (by kernel_rfl) (by kernel_rfl) (by kernel_rfl) (fun _ _ _ h => h) (Or.inl ⟨by kernel_rfl, fun w _ => by go_simp⟩) hHeld ?_
                    simp only [Act.put, List.getElem_toArray, List.getElem_cons_succ, List.getElem_cons_zero, List.setIfInBounds_toArray, List.set_cons_succ, List.set_cons_zero]
                    refine wpAnyH_take (i := 24) (oi := _) (v := .pointer (some ⟨q, 2, none⟩)) rfl (by kernel_rfl) (by kernel_rfl) (by kernel_rfl) (fun _ _ _ h => h) (Or.inl ⟨by kernel_rfl, fun w _ => by go_simp⟩) hHeld ?_
                    simp only [Act.put, List.getElem_toArray, List.getElem_cons_succ, List.getElem_cons_zero, List.setIfInBounds_toArray, List.set_cons_succ, List.set_cons_zero]
                    refine wpAnyH_take (i := 25) (oi := _) (v := .slice (some ⟨b, off, none⟩) L.n cp) rfl (by kernel_rfl) (by kernel_rfl) (by kernel_rfl) (fun _ _ _ h => h) (Or.inl ⟨by kernel_rfl, fun w h => by obtain ⟨h1, h2, h3⟩ := h; go_simp⟩) hHeld ?_
                    simp only [Act.put, List.getElem_toArray, List.getElem_cons_succ, List.getElem_cons_zero, List.setIfInBounds_toArray, List.set_cons_succ, List.set_cons_zero]
                    refine wpAnyH_take (i := 26) (oi := _) (v := .int .i64 (L.n : Int)) rfl (by kernel_rfl) (by kernel_rfl) (by kernel_rfl) (fun _ _ _ h => h) (Or.inl ⟨by kernel_rfl, fun w _ => by go_simp⟩) hHeld ?_
                    simp only [Act.put, List.getElem_toArray, List.getElem_cons_succ, List.getElem_cons_zero, List.setIfInBounds_toArray, List.set_cons_succ, List.set_cons_zero]
                    refine wpAnyH_ready (rs := [18]) (by kernel_rfl) (by simp) ?_
                    refine AllReadyH.cons (o := _) rfl (fun K hK => ?_) AllReadyH.nil
                    rw [if_pos (by rfl)]
                    go_simp
                    go_at_call 15
                    refine (unhide HSHN _ hBa).mono ?_
                    rintro e wb ⟨rfl, HBb⟩
                    dsimp only
                    have hBb : Below wr.heap.size wr wb := hBa.trans (HBb.out.mono hBa.size)
                    refine hK.out _ _ (HSS.out _ hBb) (fun hHeld => ?_)
                    clear hK K
                    refine wpAnyH_take (i := 19) (oi := _) (v := .int .u64 (o : Int)) rfl (by kernel_rfl) (by kernel_rfl) (by kernel_rfl) (fun _ _ _ h => h) (Or.inl ⟨by kernel_rfl, fun w _ => by go_simp; simp [IntKind.wrap, IntKind.bits, IntKind.signed]; omega⟩) hHeld ?_
                    simp only [Act.put, List.getElem_toArray, List.getElem_cons_succ, List.getElem_cons_zero, List.setIfInBounds_toArray, List.set_cons_succ, List.set_cons_zero]
                    refine wpAnyH_ready (rs := [20]) (by kernel_rfl) (by simp) ?_
                    refine AllReadyH.cons (o := _) rfl (fun K hK => ?_) AllReadyH.nil
                    rw [if_pos (by rfl)]
                    go_simp
                    go_at_call 21
                    refine (ones_any o _ ho8).mono ?_
                    rintro e wz ⟨rfl, hwz⟩
                    subst wz
                    dsimp only
                    refine hK.out _ _ (HSS.out _ hBb) (fun hHeld => ?_)
                    clear hK K
                    have hpp : ((pop 8 o : Nat) : Int) ≤ (L.n : Int) := by omega
                    refine wpAnyH_take (i := 27) (oi := _) (v := .bool true) rfl (by kernel_rfl) (by kernel_rfl) (by kernel_rfl) (fun _ _ _ h => h) (Or.inl ⟨by kernel_rfl, fun w _ => by go_simp⟩) hHeld ?_
                    simp only [Act.put, List.getElem_toArray, List.getElem_cons_succ, List.getElem_cons_zero, List.setIfInBounds_toArray, List.set_cons_succ, List.set_cons_zero]
                    refine wpAnyH_take (i := 28) (oi := _) (v := .bool true) rfl (by kernel_rfl) (by kernel_rfl) (by kernel_rfl) (fun _ _ _ h => h) (Or.inl ⟨by kernel_rfl, fun w _ => by go_simp⟩) hHeld ?_
                    simp only [Act.put, List.getElem_toArray, List.getElem_cons_succ, List.getElem_cons_zero, List.setIfInBounds_toArray, List.set_cons_succ, List.set_cons_zero]
                    refine wpAnyH_take (i := 29) (oi := _) (v := .bool true) rfl (by kernel_rfl) (by kernel_rfl) (by kernel_rfl) (fun _ _ _ h => h) (Or.inl ⟨by kernel_rfl, fun w _ => by go_simp⟩) hHeld ?_
                    simp only [Act.put, List.getElem_toArray, List.getElem_cons_succ, List.getElem_cons_zero, List.setIfInBounds_toArray, List.set_cons_succ, List.set_cons_zero]
                    refine wpAnyH_done (by kernel_rfl) ?_ _
                    go_wp2_with fail
                    go_ret
                    exact ⟨rfl, HBWW.out.trans (hBb.mono HBWW.out.size)⟩
end Go.Proofs.YtaablbmgagiajabGreatDoor
namespace Go.Proofs.YtaablbmgagiajabGreatDoor
open Go.ChangeShapes Go.WideShapes Go.RowKit
def numAt (cs : Array Value) (i : Nat) : Int :=
  match cs[i]? with
  | some (.int _ z) => z
  | _ => 0
theorem fOf_cells (cs : Array Value) (hs : cs.size = 23) (h : ∀ i, i < 23 → ∃ z : Int, cs[i]? = some (.int .i64 z)) : cs = fCells (numAt cs) := by
  apply Array.ext_getElem?
  intro i
  by_cases hi : i < 23
  · obtain ⟨z, hz⟩ := h i hi
    rw [fCells_at _ i hi, hz]
    unfold numAt
    rw [hz]
  · rw [Array.getElem?_eq_none (by omega), Array.getElem?_eq_none (by rw [fCells_size]; omega)]
theorem cut_mid (l : List Value) (a b k n : Nat) (hk : k + n ≤ b) : ((((l.drop a).take b).drop k).take n) = (l.drop (a + k)).take n := by
  rw [List.drop_take, List.drop_drop, List.take_take, show min n (b - k) = n by omega]
section
variable {H : Type} {enc : TypeId × Value → H} {W : World} {base : Nat} {spare : Nat → Bool} {held : Bool}
theorem one_at {cs : Array Value} {i : Nat} {z : Int} (h : (cs.toList.drop i).take 1 = [.int .i64 z]) : cs[i]? = some (.int .i64 z) := by
  have := congrArg (fun l => l[0]?) h
  simpa [List.getElem?_take, List.getElem?_drop] using this
theorem int_at {cs : Array Value} {fuel i : Nat} {y : DataW H × List MemPlace} (h : DataW.trod enc Tryz.prog W base spare held fuel 3 ((cs.toList.drop i).take 1) = some y) : ∃ z : Int, cs[i]? = some (.int .i64 z) := by
  obtain ⟨z, e, _, _⟩ := DataW.trod_int Tryz.underlying3 h
  exact ⟨z, one_at e⟩
theorem ints_at8 {cs : Array Value} {fuel i : Nat} {y : DataW H × List MemPlace} (h : DataW.trod enc Tryz.prog W base spare held fuel 32 ((cs.toList.drop i).take 8) = some y) (k : Nat) (hk : k < 8) : ∃ z : Int, cs[i + k]? = some (.int .i64 z) := by
  have c1 : Tryz.prog.cellsOf 3 = 1 := by kernel_rfl
  obtain ⟨ys, m, _, _, _, hy, hz⟩ := DataW.trod_array Tryz.underlying32 h
  have hk' := hz k (by omega)
  obtain ⟨y, hy'⟩ : ∃ y, ys[k]? = some y := ⟨_, List.getElem?_eq_getElem (by omega)⟩
  rw [hy', c1, Nat.mul_one, cut_mid _ _ _ _ _ (by omega)] at hk'
  exact int_at hk'
end
end Go.Proofs.YtaablbmgagiajabGreatDoor
namespace Go.Proofs.YtaablbmgagiajabGreatDoor
open Go.ChangeShapes Go.WideShapes Go.RowKit Go.Deep
section
variable {H : Type} {enc : TypeId × Value → H} {W : World} {base : Nat} {spare : Nat → Bool} {held : Bool}
set_option maxRecDepth 10000 in
theorem frame_of_trod {cs : Array Value} {fuel : Nat} {x : DataW H × List MemPlace} (hsz : cs.size = 23) (hf : DataW.trod enc Tryz.prog W base spare held fuel 36 cs.toList = some x) : cs = fCells (numAt cs) := by
  have c17 : Tryz.prog.cellsOf 34 = 17 := by kernel_rfl
  have c2 : Tryz.prog.cellsOf 31 = 2 := by kernel_rfl
  have c8 : Tryz.prog.cellsOf 32 = 8 := by kernel_rfl
  have c1 : Tryz.prog.cellsOf 3 = 1 := by kernel_rfl
  obtain ⟨xs, n, _, _, _, hlen, hx⟩ := DataW.trod_struct Tryz.underlying36 hf
  have hl6 : xs.length = 6 := hlen
  obtain ⟨y0, y1, y2, y3, y4, y5, rfl⟩ := six hl6
  have h0 : DataW.trod enc Tryz.prog W base spare held n 3 ((cs.toList.drop 0).take (Tryz.prog.cellsOf 3)) = some y0 := hx 0 _ rfl
  have h1 : DataW.trod enc Tryz.prog W base spare held n 3 ((cs.toList.drop 1).take (Tryz.prog.cellsOf 3)) = some y1 := hx 1 _ rfl
  have h2 : DataW.trod enc Tryz.prog W base spare held n 3 ((cs.toList.drop 2).take (Tryz.prog.cellsOf 3)) = some y2 := hx 2 _ rfl
  have h3 : DataW.trod enc Tryz.prog W base spare held n 31 ((cs.toList.drop 3).take (Tryz.prog.cellsOf 31)) = some y3 := hx 3 _ rfl
  have h4 : DataW.trod enc Tryz.prog W base spare held n 3 ((cs.toList.drop 5).take (Tryz.prog.cellsOf 3)) = some y4 := hx 4 _ rfl
  have h5 : DataW.trod enc Tryz.prog W base spare held n 34 ((cs.toList.drop 6).take (Tryz.prog.cellsOf 34)) = some y5 := hx 5 _ rfl
  clear hx
  rw [c1] at h0 h1 h2 h4
  rw [c2] at h3
  rw [c17] at h5
  obtain ⟨xi, ni, _, _, _, hleni, hxi⟩ := DataW.trod_struct Tryz.underlying31 h3
  have hl2 : xi.length = 2 := hleni
  obtain ⟨i0, i1, rfl⟩ := two hl2
  have g0 : DataW.trod enc Tryz.prog W base spare held ni 3 ((((cs.toList.drop 3).take 2).drop 0).take (Tryz.prog.cellsOf 3)) = some i0 := hxi 0 _ rfl
  have g1 : DataW.trod enc Tryz.prog W base spare held ni 3 ((((cs.toList.drop 3).take 2).drop 1).take (Tryz.prog.cellsOf 3)) = some i1 := hxi 1 _ rfl
  rw [c1, cut_mid _ _ _ _ _ (by omega)] at g0 g1
  clear hxi
  obtain ⟨xt, nt, _, _, _, hlent, hxt⟩ := DataW.trod_struct Tryz.underlying34 h5
  have hl3 : xt.length = 3 := hlent
  obtain ⟨s0, s1, s2, rfl⟩ := three hl3
  have q0 : DataW.trod enc Tryz.prog W base spare held nt 3 ((((cs.toList.drop 6).take 17).drop 0).take (Tryz.prog.cellsOf 3)) = some s0 := hxt 0 _ rfl
  have q1 : DataW.trod enc Tryz.prog W base spare held nt 32 ((((cs.toList.drop 6).take 17).drop 1).take (Tryz.prog.cellsOf 32)) = some s1 := hxt 1 _ rfl
  have q2 : DataW.trod enc Tryz.prog W base spare held nt 32 ((((cs.toList.drop 6).take 17).drop 9).take (Tryz.prog.cellsOf 32)) = some s2 := hxt 2 _ rfl
  rw [c1, cut_mid _ _ _ _ _ (by omega)] at q0
  rw [c8, cut_mid _ _ _ _ _ (by omega)] at q1 q2
  clear hxt
  refine fOf_cells cs hsz fun i hi => ?_
  rcases (by omega : i = 0 ∨ i = 1 ∨ i = 2 ∨ i = 3 ∨ i = 4 ∨ i = 5 ∨ i = 6 ∨ (7 ≤ i ∧ i < 15) ∨ 15 ≤ i) with rfl | rfl | rfl | rfl | rfl | rfl | rfl | hj | hj
  · exact int_at h0
  · exact int_at h1
  · exact int_at h2
  · exact int_at g0
  · exact int_at g1
  · exact int_at h4
  · exact int_at q0
  · have := ints_at8 q1 (i - 7) (by omega)
    rwa [show 6 + 1 + (i - 7) = i by omega] at this
  · have := ints_at8 q2 (i - 15) (by omega)
    rwa [show 6 + 9 + (i - 15) = i by omega] at this
theorem bytes_of_trod {cs : List Value} {fuel : Nat} {x : DataW H × List MemPlace} (hf : DataW.trod enc Tryz.prog W base spare held fuel 37 cs = some x) : ∃ (a : Option Addr) (len cap : Nat) (l : List Nat), cs = [.slice a len cap] ∧ len ≤ maxLen ∧ IsB W a len cap l := by
  rcases open_ints Tryz.underlying37 Tryz.underlying5 (by kernel_rfl) hf with ⟨hcs, _⟩ | ⟨ad, n, c, zs, hcs, _, hl, hm, hz, _, hcell, hwz⟩
  · exact ⟨none, 0, 0, [], hcs, by unfold maxLen; omega, ⟨rfl, Nat.le_refl _, fun _ h => by simp at h, .inl rfl⟩⟩
  · have hzl : n ≤ zs.length := by rw [hz]; split <;> omega
    have hb : ∀ z ∈ zs, 0 ≤ z ∧ z ≤ 255 := fun z hz => bounds_u8 (hwz z hz)
    refine ⟨some ad, n, c, (zs.take n).map Int.toNat, hcs, by omega, ⟨by simp; omega, hl, fun c hc => ?_, ?_⟩⟩
    · obtain ⟨z, hz1, rfl⟩ := List.mem_map.1 hc
      have := hb z (List.mem_of_mem_take hz1)
      omega
    · by_cases h0 : n = 0
      · subst h0; exact .inl (by simp)
      · obtain ⟨b, off, rfl, hc⟩ := ints_at hcell (by omega)
        refine .inr ⟨b, off, rfl, World.block_lt_of_cell? _ _ (hc 0 (by omega)), fun k hk => ?_⟩
        have hk' : k < n := by simp at hk; omega
        have hkz : k < zs.length := by omega
        rw [hc k hkz]
        have hbk := hb _ (List.getElem_mem hkz)
        simp [List.getD, hk', hkz, Int.toNat_of_nonneg hbk.1]
theorem open_steps {a : Option Addr} {len cap : Nat} {fuel : Nat} {x : DataW H × List MemPlace} (hf : DataW.trod enc Tryz.prog W base spare held fuel 23 [.slice a len cap] = some x) : len ≤ maxLen ∧ StepAt W a len := by
  have c29 : Tryz.prog.cellsOf 39 = 29 := by kernel_rfl
  have c23 : Tryz.prog.cellsOf 36 = 23 := by kernel_rfl
  have c2 : Tryz.prog.cellsOf 31 = 2 := by kernel_rfl
  have c1 : Tryz.prog.cellsOf 3 = 1 := by kernel_rfl
  have cb : Tryz.prog.cellsOf 37 = 1 := by kernel_rfl
  rcases open_slice Tryz.underlying23 hf with ⟨hcs, _⟩ | ⟨ad, l, c, m, n, D, Pl, hcs, hb, hl, hm, hmm, _, hx⟩
  · simp at hcs
    obtain ⟨rfl, rfl, rfl⟩ := hcs
    exact ⟨by unfold maxLen; omega, fun i hi => by omega⟩
  · simp at hcs
    obtain ⟨rfl, rfl, rfl⟩ := hcs
    refine ⟨by omega, fun i hi => ?_⟩
    have each : ∀ j, j < len → ∃ (cs : List Value) (X : SD), cs.length = 29 ∧ (∀ k, k < 29 → W.cell? (ad.add (j * 29 + k)) = cs[k]?) ∧ cs = sdL X ∧ IsB W X.ba X.bl X.bc X.bs ∧ X.bl ≤ maxLen := fun j hj => by
      obtain ⟨cs, e1, e2⟩ := hx j (by rw [hmm]; split <;> omega)
      rw [c29] at e1
      obtain ⟨_, hlen, hcell⟩ := World.cells?_some e1
      obtain ⟨xs, k, _, _, _, hxl, hfi⟩ := DataW.trod_struct Tryz.underlying39 e2
      have hl6 : xs.length = 6 := hxl
      obtain ⟨y0, y1, y2, y3, y4, y5, rfl⟩ := six hl6
      have g0 : DataW.trod enc Tryz.prog W base spare held k 3 ((cs.drop 0).take (Tryz.prog.cellsOf 3)) = some y0 := hfi 0 _ rfl
      have g1 : DataW.trod enc Tryz.prog W base spare held k 3 ((cs.drop 1).take (Tryz.prog.cellsOf 3)) = some y1 := hfi 1 _ rfl
      have g2 : DataW.trod enc Tryz.prog W base spare held k 3 ((cs.drop 2).take (Tryz.prog.cellsOf 3)) = some y2 := hfi 2 _ rfl
      have g3 : DataW.trod enc Tryz.prog W base spare held k 31 ((cs.drop 3).take (Tryz.prog.cellsOf 31)) = some y3 := hfi 3 _ rfl
      have g4 : DataW.trod enc Tryz.prog W base spare held k 36 ((cs.drop 5).take (Tryz.prog.cellsOf 36)) = some y4 := hfi 4 _ rfl
      have g5 : DataW.trod enc Tryz.prog W base spare held k 37 ((cs.drop 28).take (Tryz.prog.cellsOf 37)) = some y5 := hfi 5 _ rfl
      rw [c1] at g0 g1 g2
      rw [c2] at g3
      rw [c23] at g4
      rw [cb] at g5
      clear hfi
      obtain ⟨z0, e0, _, _⟩ := DataW.trod_int Tryz.underlying3 g0
      obtain ⟨z1, e1', _, _⟩ := DataW.trod_int Tryz.underlying3 g1
      obtain ⟨z2, e2', _, _⟩ := DataW.trod_int Tryz.underlying3 g2
      obtain ⟨xi, ni, _, _, _, hleni, hxi⟩ := DataW.trod_struct Tryz.underlying31 g3
      have hl2 : xi.length = 2 := hleni
      obtain ⟨i0, i1, rfl⟩ := two hl2
      have f0 : DataW.trod enc Tryz.prog W base spare held ni 3 ((((cs.drop 3).take 2).drop 0).take (Tryz.prog.cellsOf 3)) = some i0 := hxi 0 _ rfl
      have f1 : DataW.trod enc Tryz.prog W base spare held ni 3 ((((cs.drop 3).take 2).drop 1).take (Tryz.prog.cellsOf 3)) = some i1 := hxi 1 _ rfl
      rw [c1, cut_mid _ _ _ _ _ (by omega)] at f0 f1
      obtain ⟨z3, e3, _, _⟩ := DataW.trod_int Tryz.underlying3 f0
      obtain ⟨z4, e4, _, _⟩ := DataW.trod_int Tryz.underlying3 f1
      have h23 : ((cs.drop 5).take 23).toArray.size = 23 := by simp; omega
      have hfr := frame_of_trod (cs := ((cs.drop 5).take 23).toArray) h23 (by simpa using g4)
      have e5 : (cs.drop 5).take 23 = (fCells (numAt ((cs.drop 5).take 23).toArray)).toList := by
        have := congrArg Array.toList hfr
        simpa using this
      obtain ⟨ba, bl, bc, bs, e6, hbl, hib⟩ := bytes_of_trod g5
      refine ⟨cs, ⟨z0, z1, z2, z3, z4, numAt ((cs.drop 5).take 23).toArray, ba, bl, bc, bs⟩, hlen, fun k hk => by rw [← hcell k hk, add_add], ?_, hib, hbl⟩
      have part : ∀ (i : Nat) (v : Value), (cs.drop i).take 1 = [v] → cs.drop i = v :: cs.drop (i + 1) := fun i v h => by
        cases hd : cs.drop i with
        | nil => rw [hd] at h; simp at h
        | cons u r =>
          rw [hd] at h
          simp at h
          rw [h, show cs.drop (i + 1) = r by rw [← List.drop_drop, hd]; rfl]
      have p0 := part 0 _ e0
      have p1 := part 1 _ e1'
      have p2 := part 2 _ e2'
      have p3 := part 3 _ e3
      have p4 := part 4 _ e4
      have p28 := part 28 _ e6
      have p5 : cs.drop 5 = (cs.drop 5).take 23 ++ cs.drop 28 := by
        have h := (List.take_append_drop 23 (cs.drop 5)).symm
        rw [List.drop_drop] at h
        exact h
      have p29 : cs.drop 29 = [] := List.drop_eq_nil_of_le (by omega)
      have hcs : cs = cs.drop 0 := rfl
      unfold sdL
      conv => lhs; rw [hcs, p0, p1, p2, p3, p4, p5, p28, p29, e5]
      simp
    obtain ⟨cs, X, hlen, hcell, rfl, hib, hbl⟩ := each i hi
    obtain ⟨cs0, X0, hlen0, hcell0, rfl, _, _⟩ := each 0 (by omega)
    obtain ⟨b, off, spot⟩ := ad
    have hspot : spot = none := by
      have := hcell0 0 (by omega)
      simpa [Addr.add] using World.cell?_spot this
    subst hspot
    have hc : ∀ k, k < 29 → W.cell? ⟨b, off + (i * 29 + k), none⟩ = (sdL X)[k]? := fun k hk => by rw [← hcell k hk, add_plain]
    refine ⟨b, off, X, rfl, World.block_lt_of_cell? _ _ (hc 0 (by omega)), fun j v hv => ?_, hib, hbl⟩
    have hj : j < 29 := by have := (List.getElem?_eq_some_iff.1 hv).1; rw [sdL_len] at this; exact this
    rw [show off + i * 29 + j = off + (i * 29 + j) by omega, hc j hj, hv]
end
end Go.Proofs.YtaablbmgagiajabGreatDoor
