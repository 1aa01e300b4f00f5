import Derived.Test.YtaablbmgagiajabGreatDoorLGBF
import Derived.Test.YtaablbmgagiajabGreatDoorLGBG
import Derived.Test.YtaablbmgagiajabGreatDoorLGBH
import Derived.Test.YtaablbmgagiajabGreatDoorLGBI
import Derived.Test.YtaablbmgagiajabGreatDoorLGBJ
import Derived.Test.YtaablbmgagiajabGreatDoorLGBD
import Derived.Test.YtaablbmgagiajabGreatDoorLGBC
import Derived.Deep.DeepCutAuto
import Derived.OpenShut
import Derived.ChangeSame
import Derived.ChangeArms
import Derived.WideShapes
import Derived.Test.YtaablbmgagiajabGreatDoorLGAA
import Derived.Deep.SlicePairs
import Derived.Test.YtaablbmgagiajabGreatDoorLGBE
namespace Go.Proofs.YtaablbmgagiajabGreatDoor
open Go.RowKit Go.Deep
def lkA (A : TS) (j : Nat) : TS := ⟨A.S, A.fx, A.fy, A.seen ++ ([sgOf A 0 true, sgOf A 1 true, sgOf A 2 true].take j)⟩
structure LkInv (V wr w : World) (N q : Nat) (E : TC) (L : RC) (win liar : Nat) (A : TS) (X : SD) (j : Nat) : Prop where
  go : TaGo w wr N q E L win liar (lkA A j)
  box : wr.heap[w.heap.size]? = some (.cells (sdL X).toArray 39 (0, 0))
  le : V.heap.size ≤ wr.heap.size
section
variable {V wr w : World} {N q : Nat} {E : TC} {L : RC} {win liar T : Nat} {A : TS} {X : SD} {j : Nat}
theorem DoIn.lk (h : DoIn V w N q E L win liar A X) : LkInv V V w N q E L win liar A X 0 := by
  refine ⟨?_, h.box, Nat.le_refl _⟩
  have e : lkA A 0 = A := by unfold lkA; rw [List.take_zero, List.append_nil]
  rw [e]
  exact h.ta.goes.pre h.old
theorem LkInv.x2 (h : LkInv V wr w N q E L win liar A X j) : wr.cell? ⟨w.heap.size, 2, none⟩ = some (.int .i64 X.n) := (blk_cell h.box 2).trans (by simp [sdL])
theorem lkA_next (A : TS) (hj : j < 3) : lkA A (j + 1) = ⟨(lkA A j).S, (lkA A j).fx, (lkA A j).fy, (lkA A j).seen ++ [sgOf (lkA A j) j true]⟩ := by
  rcases (by omega : j = 0 ∨ j = 1 ∨ j = 2) with rfl | rfl | rfl <;> simp [lkA, sgOf]
theorem LkInv.next (h : LkInv V wr w N q E L win liar A X j) (hj : j < 3) (hsl : A.seen.length ≤ 900) : Calls Tryz.prog 31 #[.pointer (some ⟨q, 0, none⟩), .int .i64 (j : Int), .bool true] wr fun e w2 => e = .returned (.tuple #[]) ∧ Hid (LkInv V w2 w N q E L win liar A X (j + 1)) := by
  obtain ⟨E', e1, e2, e3, e4, hT, hm⟩ := h.go
  refine (looks_any N q E' L win liar (lkA A j) wr j true hj hT ?_).mono ?_
  · show (A.seen ++ _).length ≤ 1000
    rw [List.length_append, List.length_take]
    have : min j [sgOf A 0 true, sgOf A 1 true, sgOf A 2 true].length ≤ j := Nat.min_le_left _ _
    omega
  · rintro e w2 ⟨rfl, hg, hk⟩
    refine ⟨rfl, hide ⟨?_, (hk _ ⟨_, _, h.box⟩).trans h.box, ?_⟩⟩
    · rw [lkA_next A hj]
      exact hg.then ⟨e1, e2, e3, e4⟩ hm
    · obtain ⟨_, _, _, _, _, _, hm2⟩ := hg
      exact Nat.le_trans h.le hm2.size
theorem LkInv.calm (h : LkInv V wr w N q E L win liar A X 3) (n : Nat) (hI : TlInv L liar win T A) (hL : LOk L) (hT : T < 600000) (hn : n ≤ 3) (hw : 10 ≤ X.wh) :
    Calls Tryz.prog 16 #[.pointer (some ⟨E.D.p, 0, none⟩), .int .i64 (n : Int)] wr fun e w2 => e = .returned (.tuple #[]) ∧ ∃ A', StepTo L win liar X.wh A A' ∧ TaGo w w2 N q E L win liar A' := by
  obtain ⟨E', e1, e2, e3, e4, hT3, hm⟩ := h.go
  have key := calm_any (W := WOf L (sees3 A)) (liar := liar) (T := T) N E'.D L win A.S wr n hT3.sy hI.cl hL (by omega) (by omega) hT3.size
  rw [e4] at key
  refine key.mono ?_
  rintro e w2 ⟨rfl, S', hc, _, hg⟩
  refine ⟨rfl, ⟨S', A.fx, A.fy, sees3 A⟩, StepTo.calm A n S' hw hn hc, ?_⟩
  exact (hT3.went hg).then ⟨e1, e2, e3, e4⟩ hm
end
set_option maxHeartbeats 1000000 in
set_option maxRecDepth 20000 in
theorem does_10 (N q : Nat) (E : TC) (L : RC) (win liar T : Nat) (A : TS) (w : World) (X : SD) (h : TaIs w N q E L win liar A) (hI : TlInv L liar win T A) (hL : LOk L) (hT : T < 600000) (hsl : A.seen.length ≤ 900) (hwh : X.wh = 10) :
    Calls Tryz.prog 12 #[.pointer (some ⟨q, 0, none⟩), .agg (sdL X).toArray] w fun e w' => e = .returned (.tuple #[]) ∧ ∃ A', StepTo L win liar X.wh A A' ∧ TaGo w w' N q E L win liar A' := by
  obtain ⟨W, hW⟩ : ∃ W, Hid (w.alloc (.cells (sdL X).toArray 39) = W) := ⟨_, hide rfl⟩
  have hBW : Below w.heap.size w W := by rw [← hW.out]; exact (Below.refl _ _).alloc (Nat.le_refl _) _
  have HDO : Hid (DoIn W w N q E L win liar A X) := hide ⟨hBW, h.below hBW, by rw [← hW.out]; exact blk_new _ _⟩
  have x1 := HDO.out.x1
  have c0 := HDO.out.c0
  have HPK := hide fun wx => pick_any X.k 3 wx (by decide) (by decide)
  obtain ⟨k1, k2⟩ := pickF_in X.k 3 (by decide) (by decide)
  obtain ⟨k, hk⟩ := Int.eq_ofNat_of_zero_le k1
  rw [hk] at HPK k2
  have hk3 : k < 3 := by omega
  obtain ⟨cs, hcs⟩ : ∃ cs, Hid ((sdL X).toArray = cs) := ⟨_, hide rfl⟩
  rw [hcs.out] at hW ⊢
  have hle := hI.inv.many
  have HI := hide hI
  have HL := hide hL
  have HWH := hide hwh
  clear h hBW hk k1 hwh hI hL
  go_enter Tryz.func12, Tryz.ntmps12
  go_wp2_with fail
  rw [show w.alloc (.cells cs 39) = W from hW.out]
  clear hW hcs
  go_quiet ((go_at_call 25; exact Calls.quiet_of_same (unhide HPK _)))
  have HV : Hid (DoIn (W.drewN nq) w N q E L win liar A X) := hide (HDO.out.below (below_drewN (Below.refl _ _) nq))
  generalize W.drewN nq = V at HV ⊢
  clear HDO x1 c0 HPK
  have x2 := HV.out.x2
  have x0 := HV.out.x0
  have hVl : w.heap.size < V.heap.size := blk_lt HV.out.box
  rw [HWH.out] at x0
  have HMN := hide (many_any N E.D L win A.S V HV.out.ta.sy)
  have HPN := hide fun wx (hp : 0 < (A.S.net.length : Int)) => pick_any X.n (A.S.net.length : Int) wx hp (by omega)
  have hpin := fun hp => pickF_in X.n (A.S.net.length : Int) hp (by omega)
  obtain ⟨m, hm⟩ : ∃ m, Hid (A.S.net.length = m) := ⟨_, hide rfl⟩
  rw [hm.out] at HMN HPN hpin hle
  go_wp2_with fail
  refine HMN.out.mono ?_
  rintro e wz ⟨rfl, hwz⟩
  subst wz
  by_cases hm0 : m = 0
  · have hm0' : ¬ (0 : Int) < (m : Int) := by omega
    clear HPN hpin
    have HLK : Hid (∀ (j : Nat) (wr : World), j < 3 → LkInv V wr w N q E L win liar A X j → Calls Tryz.prog 31 #[.pointer (some ⟨q, 0, none⟩), .int .i64 (j : Int), .bool true] wr fun e w2 => e = .returned (.tuple #[]) ∧ Hid (LkInv V w2 w N q E L win liar A X (j + 1))) := hide fun j wr hj h => h.next hj hsl
    have HST := hide (HV.out.lk)
    obtain ⟨a1, a2⟩ := pickF_in X.n 4 (by decide) (by decide)
    obtain ⟨cn, hcn⟩ := Int.eq_ofNat_of_zero_le a1
    have HPA := hide fun wx => pick_any X.n 4 wx (by decide) (by decide)
    rw [hcn] at HPA a2
    clear HV hVl
    go_wp2_with fail
    clear x2 x0
    go_loopw [11] (fun r wr => ∃ j : Nat, j ≤ 3 ∧ r = .int .i64 j ∧ LkInv V wr w N q E L win liar A X j) (fun r _ => 3 - (intOf r).toNat)
    case atStart => exact ⟨0, by omega, rfl, HST.out⟩
    case round =>
      clear HST
      obtain ⟨j, hj, rfl, hLk⟩ := hrel
      by_cases hj3 : j < 3
      · have hj' : (j : Int) < 3 := by omega
        have HC := hide (HLK.out j wr hj3 hLk)
        clear hLk
        go_wp2_with (go_at_call 31; refine HC.out.mono ?_)
        rintro e w2 ⟨he, hg⟩
        subst he
        have HG := hide hg.out
        clear hg
        go_wp2
        go_roundw
        case rel => exact ⟨j + 1, by omega, by go_num, HG.out⟩
        case measure => simp [intOf]; omega
      · have e3 : j = 3 := by omega
        subst e3
        have y2 := hLk.x2
        have HC := hide (hLk.calm cn HI.out HL.out hT (by omega) (show 10 ≤ X.wh by rw [HWH.out]; decide))
        clear hLk HLK
        go_wp2_with (first
          | (go_at_call 25; refine (unhide HPA _).mono ?_)
          | (go_at_call 16; refine HC.out.mono ?_))
        rintro e w5 ⟨rfl, hw5⟩
        subst w5
        go_wp2_with (go_at_call 16; refine HC.out.mono ?_)
        rintro e w6 ⟨he, hg⟩
        subst he
        have HG := hide hg
        clear hg
        go_wp2_with fail
        go_end0
        exact ⟨rfl, HG.out⟩
  · have hm0' : (0 : Int) < (m : Int) := by omega
    obtain ⟨j1, j2⟩ := hpin hm0'
    obtain ⟨i, hi⟩ := Int.eq_ofNat_of_zero_le j1
    have HPI := hide fun wx => HPN.out wx hm0'
    rw [hi] at HPI j2
    have hil : i < m := by omega
    clear HPN hpin j1 hi
    go_wp2_with (go_at_call 25; refine (unhide HPI _).mono ?_)
    rintro e wz ⟨rfl, hwz⟩
    subst wz
    have HLK : Hid (∀ (j : Nat) (wr : World), j < 3 → LkInv V wr w N q E L win liar A X j → Calls Tryz.prog 31 #[.pointer (some ⟨q, 0, none⟩), .int .i64 (j : Int), .bool true] wr fun e w2 => e = .returned (.tuple #[]) ∧ Hid (LkInv V w2 w N q E L win liar A X (j + 1))) := hide fun j wr hj h => h.next hj hsl
    have HST := hide (HV.out.lk)
    obtain ⟨a1, a2⟩ := pickF_in X.n 4 (by decide) (by decide)
    obtain ⟨cn, hcn⟩ := Int.eq_ofNat_of_zero_le a1
    have HPA := hide fun wx => pick_any X.n 4 wx (by decide) (by decide)
    rw [hcn] at HPA a2
    clear HV hVl
    go_wp2_with fail
    clear x2 x0
    go_loopw [11] (fun r wr => ∃ j : Nat, j ≤ 3 ∧ r = .int .i64 j ∧ LkInv V wr w N q E L win liar A X j) (fun r _ => 3 - (intOf r).toNat)
    case atStart => exact ⟨0, by omega, rfl, HST.out⟩
    case round =>
      clear HST
      obtain ⟨j, hj, rfl, hLk⟩ := hrel
      by_cases hj3 : j < 3
      · have hj' : (j : Int) < 3 := by omega
        have HC := hide (HLK.out j wr hj3 hLk)
        clear hLk
        go_wp2_with (go_at_call 31; refine HC.out.mono ?_)
        rintro e w2 ⟨he, hg⟩
        subst he
        have HG := hide hg.out
        clear hg
        go_wp2
        go_roundw
        case rel => exact ⟨j + 1, by omega, by go_num, HG.out⟩
        case measure => simp [intOf]; omega
      · have e3 : j = 3 := by omega
        subst e3
        have y2 := hLk.x2
        have HC := hide (hLk.calm cn HI.out HL.out hT (by omega) (show 10 ≤ X.wh by rw [HWH.out]; decide))
        clear hLk HLK
        go_wp2_with (first
          | (go_at_call 25; refine (unhide HPA _).mono ?_)
          | (go_at_call 16; refine HC.out.mono ?_))
        rintro e w5 ⟨rfl, hw5⟩
        subst w5
        go_wp2_with (go_at_call 16; refine HC.out.mono ?_)
        rintro e w6 ⟨he, hg⟩
        subst he
        have HG := hide hg
        clear hg
        go_wp2_with fail
        go_end0
        exact ⟨rfl, HG.out⟩
end Go.Proofs.YtaablbmgagiajabGreatDoor
namespace Go.Proofs.YtaablbmgagiajabGreatDoor
open Go.RowKit Go.Deep
theorem does_any (N q : Nat) (E : TC) (L : RC) (win liar T : Nat) (A : TS) (w : World) (X : SD) (h : TaIs w N q E L win liar A) (hI : TlInv L liar win T A) (hL : LOk L) (hT : T < 600000) (hsl : A.seen.length ≤ 900) (htab : HasTab w) (hby : IsB w X.ba X.bl X.bc X.bs) (hbl : X.bl ≤ 200) :
    Calls Tryz.prog 12 #[.pointer (some ⟨q, 0, none⟩), .agg (sdL X).toArray] w fun e w' => e = .returned (.tuple #[]) ∧ ∃ A', StepTo L win liar X.wh A A' ∧ TaGo w w' N q E L win liar A' := by
  by_cases hw : X.wh < 0 ∨ 12 < X.wh
  · exact does_no N q E L win liar T A w X h hI hL hw
  · rcases (by omega : X.wh = 0 ∨ X.wh = 1 ∨ X.wh = 2 ∨ X.wh = 3 ∨ X.wh = 4 ∨ X.wh = 5 ∨ X.wh = 6 ∨ X.wh = 7 ∨ X.wh = 8 ∨ X.wh = 9 ∨ X.wh = 10 ∨ X.wh = 11 ∨ X.wh = 12) with e | e | e | e | e | e | e | e | e | e | e | e | e
    · exact does_0 N q E L win liar T A w X h hI hL e
    · exact does_1 N q E L win liar T A w X h hI hL hT (by omega) e
    · exact does_2 N q E L win liar T A w X h hI hL e
    · exact does_3 N q E L win liar T A w X h hI hL hT e
    · exact does_4 N q E L win liar T A w X h hI hL e
    · exact does_5 N q E L win liar T A w X h hI hL e
    · exact does_6 N q E L win liar T A w X h hI hL htab e
    · exact does_7 N q E L win liar T A w X h hI hL e
    · exact does_8 N q E L win liar T A w X h hI hL e
    · exact does_9 N q E L win liar T A w X h hI hL hby hbl e
    · exact does_10 N q E L win liar T A w X h hI hL hT hsl e
    · exact does_11 N q E L win liar T A w X h hI hL e
    · exact does_12 N q E L win liar T A w X h hI hL e
end Go.Proofs.YtaablbmgagiajabGreatDoor
namespace Go.Proofs.YtaablbmgagiajabGreatDoor
open Go.RowKit Go.Deep
def rL : RC := ⟨4, 2, 3, [3, 12, 6], 0, 0, 0, 0, 0, 0⟩
theorem rL_ok : LOk rL := ⟨by decide +kernel, rfl⟩
def rD : Cm := ⟨15, 5, 1⟩
theorem ran_out0 : outOf rL st0 15 5 = 1 := by decide +kernel
theorem ran_out1 : outOf rL (inSt rL st0 15 5) 15 5 = 1 := by decide +kernel
def seeTo : Nat → SY
  | 0 => sy0 10
  | k + 1 => seeSy k 15 5 (seeTo k)
abbrev WT : Seen := fun _ _ _ _ => True
theorem seeTo_inv : ∀ k, k ≤ 3 → SInv rL WT 3 10 0 (seeTo k)
  | 0, _ => SInv.new (by decide) (by decide)
  | k + 1, hk => (seeTo_inv k (by omega)).see (by omega) 15 5
theorem seeTo_cl : ClInv rL WT 3 10 0 (seeTo 3) := ⟨seeTo_inv 3 (Nat.le_refl _), fun _ _ _ _ _ => ⟨fun _ _ => trivial, fun _ _ => trivial⟩⟩
def Sees15 (S : SY) : Prop := ∀ r, r < 3 → (S.rp r).sx = 15 ∧ (S.rp r).sy = 5
def RanP (i : Nat) (S : SY) : Prop := Sees15 S ∧ ((i = 0 ∧ AllFresh S ∧ S.v.tr = []) ∨ (i = 1 ∧ Mid rL S ∧ S.v.tr = []) ∨ (i = 2 ∧ AllFresh S ∧ S.v.tr = [rD]) ∨ (i = 3 ∧ Mid rL S ∧ S.v.tr = [rD]) ∨ (i = 4 ∧ S.v.tr = [rD, rD]) ∨ 5 ≤ i)
theorem ran_want {S : SY} (h : Sees15 S) : wantC rL S = 15 ∧ wantV rL S = 5 := by
  unfold wantC wantV
  rw [(h 0 (by omega)).1, (h 1 (by omega)).1, (h 2 (by omega)).1, (h 0 (by omega)).2, (h 1 (by omega)).2, (h 2 (by omega)).2]
  decide
theorem ran_half {i T : Nat} {S S' : SY} (h0 : SInv rL WT 3 10 T S) (hp : RanP i S) (h : Half rL WT 10 (T + 3) (ticksSy rL S) S') : RanP (i + 1) S' := by
  obtain ⟨hs, hp⟩ := hp
  have hw := ran_want hs
  refine ⟨fun r hr => by have := h.want r hr; exact ⟨this.1.trans (hs r hr).1, this.2.trans (hs r hr).2⟩, ?_⟩
  rcases hp with ⟨rfl, hf, ht⟩ | ⟨rfl, hm, ht⟩ | ⟨rfl, hf, ht⟩ | ⟨rfl, hm, ht⟩ | ⟨rfl, _⟩ | h5
  · obtain ⟨e, hm⟩ := h.fresh h0 hf
    exact .inr (.inl ⟨rfl, hm, e.trans ht⟩)
  · obtain ⟨hf, e⟩ := h.mid h0 hm
    refine .inr (.inr (.inl ⟨rfl, hf, ?_⟩))
    rw [e, ht]
    unfold wantD
    rw [hw.1, hw.2, ht, show outOf rL (stAt rL [] [].length) ((15 : Nat) : Int) ((5 : Nat) : Int) = 1 from ran_out0]
    rfl
  · obtain ⟨e, hm⟩ := h.fresh h0 hf
    exact .inr (.inr (.inr (.inl ⟨rfl, hm, e.trans ht⟩)))
  · obtain ⟨_, e⟩ := h.mid h0 hm
    refine .inr (.inr (.inr (.inr (.inl ⟨rfl, ?_⟩))))
    rw [e, ht]
    unfold wantD
    rw [hw.1, hw.2, ht, show outOf rL (stAt rL [rD] [rD].length) ((15 : Nat) : Int) ((5 : Nat) : Int) = 1 from ran_out1]
    rfl
  · exact .inr (.inr (.inr (.inr (.inr (by omega)))))
  · exact .inr (.inr (.inr (.inr (.inr (by omega)))))
theorem ran_tick {i : Nat} {S : SY} (hp : RanP i S) : RanP i (vtickSy S) := by
  obtain ⟨hs, hp⟩ := hp
  have e := vtick_tr S
  have hf : AllFresh S → AllFresh (vtickSy S) := fun h r hr => by
    have := h r hr
    exact ⟨by rw [e]; exact this.cyc, this.ticks, this.smp⟩
  have hm : Mid rL S → Mid rL (vtickSy S) := fun h r hr => by
    have := h r hr
    rw [e]; exact this
  refine ⟨hs, ?_⟩
  rw [e]
  rcases hp with ⟨h1, h2, h3⟩ | ⟨h1, h2, h3⟩ | ⟨h1, h2, h3⟩ | ⟨h1, h2, h3⟩ | h | h
  · exact .inl ⟨h1, hf h2, h3⟩
  · exact .inr (.inl ⟨h1, hm h2, h3⟩)
  · exact .inr (.inr (.inl ⟨h1, hf h2, h3⟩))
  · exact .inr (.inr (.inr (.inl ⟨h1, hm h2, h3⟩)))
  · exact .inr (.inr (.inr (.inr (.inl h))))
  · exact .inr (.inr (.inr (.inr (.inr h))))
theorem ran_calm {S' : SY} (h : calmTo rL 10 2 (seeTo 3) S') : S'.v.tr = [rD, rD] ∧ S'.v.lat = false := by
  have hst : Stand rL WT 10 0 3 (seeTo 3) := ⟨seeTo_inv 3 (Nat.le_refl _), rfl, rfl, by show 3 ≤ 10; omega, by omega⟩
  have hp : RanP 0 (seeTo 3) := by
    refine ⟨fun r hr => ?_, .inl ⟨rfl, fun r hr => ?_, rfl⟩⟩
    · rcases (by omega : r = 0 ∨ r = 1 ∨ r = 2) with rfl | rfl | rfl <;> exact ⟨rfl, rfl⟩
    · rcases (by omega : r = 0 ∨ r = 1 ∨ r = 2) with rfl | rfl | rfl <;> exact ⟨rfl, rfl, rfl⟩
  obtain ⟨⟨_, q⟩, s, _⟩ := rounds rL_ok (fun _ _ _ _ => trivial) (fun i S S' T h0 _ hp h => ran_half h0 hp h) (fun i S hp => ran_tick hp) 2 0 0 (seeTo 3) S' hst (by show 0 + 2 * 2 < 1000; omega) hp h
  refine ⟨?_, s.lat⟩
  rcases q with q | q | q | q | q | q
  · omega
  · omega
  · omega
  · omega
  · exact q.2
  · omega
end Go.Proofs.YtaablbmgagiajabGreatDoor
namespace Go.Proofs.YtaablbmgagiajabGreatDoor
open Go.RowKit Go.Deep
theorem sshown_any (N : Nat) (D : SC) (L : RC) (win : Nat) (S : SY) (w : World) (h : SyIs w N D L win S) (hok : VOk win S.v) :
    Calls Tryz.prog 15 #[.pointer (some ⟨D.p, 0, none⟩)] w fun e w' => e = .returned (.int .i64 (shownF S.v)) ∧ Below w.heap.size w w' := by
  have c6 := h.vt6
  have HC := hide (shown_any N D.vp win D.tv S.v w h.vt hok)
  clear h hok
  go_enter Tryz.func15, Tryz.ntmps15
  go_wp2_with fail
  refine HC.out.mono ?_
  rintro e w2 ⟨rfl, hB⟩
  go_wp2
  go_ret
  exact ⟨rfl, hB⟩
end Go.Proofs.YtaablbmgagiajabGreatDoor
namespace Go.Proofs.YtaablbmgagiajabGreatDoor
open Go.RowKit Go.Deep
structure RnInv (w wr : World) (N p k : Nat) : Prop where
  old : Below w.heap.size w wr
  le : w.heap.size ≤ N
  sz : N ≤ wr.heap.size
  sy : ∃ D, D.p = p ∧ SyIs wr N D rL 10 (seeTo k)
theorem syGo_below {w w' : World} {N win B : Nat} {D : SC} {L : RC} {S S' : SY} (h : SyIs w N D L win S) (hg : SyGo w w' N D L win S') (hB : B ≤ N) (hN : N ≤ w.heap.size) : Below B w w' := by
  obtain ⟨_, _, _, hm, _⟩ := hg
  exact hm.toBelow (Nat.le_trans hB hN) fun k hk hw => by have := h.base k hw; omega
theorem RnInv.see {w wr : World} {N p k : Nat} (h : RnInv w wr N p k) (hk : k < 3) : Calls Tryz.prog 18 #[.pointer (some ⟨p, 0, none⟩), .int .i64 (k : Int), .agg #[.int .i64 15, .int .i64 5]] wr fun e w' => e = .returned .nilIface ∧ Hid (RnInv w w' N p (k + 1)) := by
  obtain ⟨D, rfl, hS⟩ := h.sy
  refine (sysee_any N D rL 10 (seeTo k) wr k 15 5 hk hS).mono ?_
  rintro e w' ⟨he, hg⟩
  have hB := syGo_below hS hg h.le h.sz
  obtain ⟨D', hp, hS', hm, _⟩ := hg
  exact ⟨he, hide ⟨h.old.trans hB, h.le, Nat.le_trans h.sz hm.size, D', hp, hS'⟩⟩
structure RnEnd (w wr : World) (N p : Nat) (S : SY) : Prop where
  old : Below w.heap.size w wr
  sy : ∃ D, D.p = p ∧ SyIs wr N D rL 10 S
  tr : S.v.tr = [rD, rD]
  lat : S.v.lat = false
  ok : VOk 10 S.v
theorem RnInv.calm {w wr : World} {N p : Nat} (h : RnInv w wr N p 3) : Calls Tryz.prog 16 #[.pointer (some ⟨p, 0, none⟩), .int .i64 2] wr fun e w' => e = .returned (.tuple #[]) ∧ Hid (∃ S, RnEnd w w' N p S) := by
  obtain ⟨D, rfl, hS⟩ := h.sy
  refine (calm_any (W := WT) (liar := 3) (T := 0) N D rL 10 (seeTo 3) wr 2 hS seeTo_cl rL_ok (by omega) (by omega) h.sz).mono ?_
  rintro e w' ⟨he, S', hc, hI, hg⟩
  have hB := syGo_below hS hg h.le h.sz
  obtain ⟨D', hp, hS', _, _⟩ := hg
  obtain ⟨e1, e2⟩ := ran_calm hc
  exact ⟨he, hide ⟨S', h.old.trans hB, ⟨D', hp, hS'⟩, e1, e2, hI.inv.vok⟩⟩
set_option maxHeartbeats 2000000 in
set_option maxRecDepth 20000 in
theorem ran_any (w : World) : Calls Tryz.prog 10 #[] w fun e w' => e = .returned (.bool true) ∧ Below w.heap.size w w' := by
  obtain ⟨W, hW⟩ : ∃ W, Hid (w.alloc (.cells #[.int .i64 3, .int .i64 12, .int .i64 6] 3) = W) := ⟨_, hide rfl⟩
  have hBW : Below w.heap.size w W := by rw [← hW.out]; exact (Below.refl _ _).alloc (Nat.le_refl _) _
  have hbW : W.heap[w.heap.size]? = some (.cells #[.int .i64 3, .int .i64 12, .int .i64 6] 3 (0, 0)) := by rw [← hW.out]; exact blk_new _ _
  have HNW : Hid (Calls Tryz.prog 24 #[.agg #[.int .i64 4, .slice (some ⟨w.heap.size, 0, none⟩) 3 3, .int .i64 2], .int .i64 10] W fun e w' => ∃ p, e = .returned (.tuple #[.pointer (some ⟨p, 0, none⟩), .nilIface]) ∧ Hid (RnInv w w' W.heap.size p 0)) := hide (by
    have hrow : Row W w.heap.size 0 rL.zs := fun k hk => by
      have hk3 : k < 3 := hk
      rw [blk_cell hbW]
      rcases (by omega : k = 0 ∨ k = 1 ∨ k = 2) with rfl | rfl | rfl <;> rfl
    refine (synew_any W.heap.size rL 10 w.heap.size 0 3 W rL_ok (by decide) (by decide) (blk_lt hbW) hrow (Nat.le_refl _)).mono ?_
    rintro e w' ⟨⟨D, he, _, hS⟩, hB⟩
    exact ⟨D.p, he, hide ⟨hBW.trans (hB.mono hBW.size), hBW.size, hB.size, D, rfl, hS⟩⟩)
  clear hBW hbW
  go_enter Tryz.func10, Tryz.ntmps10
  go_wp2_with fail
  rw [show w.alloc (.cells #[.int .i64 3, .int .i64 12, .int .i64 6] 3) = W from hW.out]
  refine HNW.out.mono ?_
  rintro e w1 ⟨p, rfl, HR0⟩
  clear HNW hW
  go_wp2_with fail
  go_loopw [3] (fun i wr => ∃ k : Nat, k ≤ 3 ∧ i = .int .i64 k ∧ RnInv w wr W.heap.size p k) (fun i _ => 3 - (intOf i).toNat)
  case atStart => exact ⟨0, by omega, rfl, HR0.out⟩
  case round =>
    clear HR0
    obtain ⟨k, hk, rfl, hR⟩ := hrel
    by_cases hk3 : k < 3
    · have hk' : (k : Int) < 3 := by omega
      have HC := hide (hR.see hk3)
      clear hR
      go_wp2_with (go_at_call 18; refine HC.out.mono ?_)
      rintro e w2 ⟨he, HG⟩
      subst he
      go_wp2
      go_roundw
      case rel => exact ⟨k + 1, by omega, by go_num, HG.out⟩
      case measure => simp [intOf]; omega
    · have e3 : k = 3 := by omega
      subst e3
      have HC := hide hR.calm
      clear hR
      go_wp2_with (go_at_call 16; refine HC.out.mono ?_)
      rintro e w2 ⟨he, HG⟩
      subst he
      clear HC
      obtain ⟨S, hE⟩ := HG.out
      obtain ⟨D, hp, hS⟩ := hE.sy
      subst hp
      have HTR := hide (strace_any W.heap.size D rL 10 S w2 hS hE.ok)
      have HE := hide hE
      have HS := hide hS
      clear HG hE hS
      go_wp2_with (go_at_call 13; refine HTR.out.mono ?_)
      rintro e w3 ⟨⟨v, rfl, hTr⟩, hB3⟩
      have HL := hide (slatched_any W.heap.size D rL 10 S w3 (HS.out.below hB3))
      have HSH := hide (sshown_any W.heap.size D rL 10 S w3 (HS.out.below hB3) HE.out.ok)
      rw [HE.out.lat] at HL
      rw [show shownF S.v = 1 by unfold shownF; rw [HE.out.lat, HE.out.tr]; rfl] at HSH
      rw [HE.out.tr] at hTr
      obtain ⟨g, cap, rfl, hg1, hg2, _⟩ := hTr.has (by decide)
      have HT := hide hTr
      have HB3 := hide (HE.out.old.trans (hB3.mono HE.out.old.size))
      have hsz := HE.out.old.size
      have hsz3 := hB3.size
      clear HTR HE hTr hB3 HS
      go_wp2_with (go_at_call 14; refine HL.out.mono ?_)
      rintro e wz ⟨rfl, hwz⟩
      subst wz
      go_wp2_with (go_at_call 15; refine HSH.out.mono ?_)
      rintro e w4 ⟨rfl, hB4⟩
      have HT4 : Hid (∀ k : Nat, k < 2 → w4.cell? ⟨g, k * 3, none⟩ = some (.int .i64 15) ∧ w4.cell? ⟨g, k * 3 + 1, none⟩ = some (.int .i64 5) ∧ w4.cell? ⟨g, k * 3 + 2, none⟩ = some (.int .i64 1)) := hide fun k hk => by
        have hr := (HT.out.same (w' := w4) fun g' hg' => by
          have : g = g' := by simpa [Value.ownBlock] using hg'
          exact hB4.block g' (by omega)).range (k := k) hk
        have e : cmAt [rD, rD] k = rD := by rcases (by omega : k = 0 ∨ k = 1) with rfl | rfl <;> rfl
        rw [e] at hr
        exact ⟨hr 0 _ rfl, hr 1 _ rfl, hr 2 _ rfl⟩
      have HBE : Hid (Below w.heap.size w w4) := hide (HB3.out.trans (hB4.mono (by omega)))
      clear HL HSH HT HB3 hB4
      go_wp2_with fail
      go_loopw [5] (fun i wr => ∃ k : Nat, k ≤ 2 ∧ i = .int .i64 k ∧ wr = w4) (fun i _ => 2 - (intOf i).toNat)
      case atStart => exact ⟨0, by omega, rfl, rfl⟩
      case round =>
        obtain ⟨k, hk, rfl, hwr⟩ := hrel
        subst wr
        by_cases hk2 : k < 2
        · have hk2' : (k : Int) < 2 := by omega
          obtain ⟨t0, t1, t2⟩ := HT4.out k hk2
          go_wp2
          go_roundw
          case rel => exact ⟨k + 1, by omega, by go_num, by first | rfl | trivial⟩
          case measure => simp [intOf]; omega
        · have e2 : k = 2 := by omega
          subst e2
          go_wp2
          go_ret
          exact ⟨rfl, HBE.out⟩
end Go.Proofs.YtaablbmgagiajabGreatDoor
namespace Go.Proofs.YtaablbmgagiajabGreatDoor
open Go.RowKit Go.Deep
theorem infoStep : (Tryz.prog.info? 39).map (·.size) = some 29 := by kernel_rfl
structure PlInv (w wr : World) (N q : Nat) (L : RC) (win liar : Nat) (k : Nat) : Prop where
  old : Below w.heap.size w wr
  ge : w.heap.size ≤ q
  ok : LOk L
  is : ∃ E' A, TaIs wr N q E' L win liar A ∧ TlInv L liar win (18 * k) A ∧ A.seen.length ≤ 3 * k
theorem TaGo.old {w wr w' : World} {N q : Nat} {E : TC} {L : RC} {win liar : Nat} {A A' : TS} (h : TaIs wr N q E L win liar A) (hB : Below w.heap.size w wr) (hq : w.heap.size ≤ q) (hg : TaGo wr w' N q E L win liar A') : Below w.heap.size w w' := by
  obtain ⟨_, _, _, _, _, _, hm⟩ := hg
  refine hB.trans (hm.toBelow hB.size fun k hk hw => ?_)
  rcases hw with hw | hw
  · omega
  · have := h.lq; omega
theorem StepTo.few {L : RC} {win liar : Nat} {wh : Int} {A B : TS} (h : StepTo L win liar wh A B) : B.seen.length ≤ A.seen.length + 3 := by
  refine h (fun B => B.seen.length ≤ A.seen.length + 3) ?_ ?_ ?_ ?_ ?_ ?_ ?_ ?_ ?_ ?_ ?_ ?_ ?_ <;> (intros; simp [sees3])
theorem PlInv.does {w wr : World} {N q : Nat} {L : RC} {win liar k : Nat} {X : SD} (h : PlInv w wr N q L win liar k) (hk : k ≤ 120) (htab : HasTab w) (h0 : 0 < w.heap.size) (hby : IsB w X.ba X.bl X.bc X.bs) (hbl : X.bl ≤ 200) :
    Calls Tryz.prog 12 #[.pointer (some ⟨q, 0, none⟩), .agg (sdL X).toArray] wr fun e w' => e = .returned (.tuple #[]) ∧ Hid (PlInv w w' N q L win liar (k + 1)) := by
  obtain ⟨E', A, hT, hI, hs⟩ := h.is
  refine (does_any N q E' L win liar (18 * k) A wr X hT hI h.ok (by omega) (by omega) (htab.below h.old h0) (hby.below h.old) hbl).mono ?_
  rintro e w' ⟨he, A', hst, hg⟩
  have hold := TaGo.old hT h.old h.ge hg
  obtain ⟨E2, _, _, _, _, hT2, _⟩ := hg
  refine ⟨he, hide ⟨hold, h.ge, h.ok, E2, A', hT2, ?_, ?_⟩⟩
  · rw [show 18 * (k + 1) = 18 * k + 18 by omega]
    exact (hst.keeps h.ok hI).1
  · have := hst.few; omega
theorem StepAt.load {w wr : World} {al : Option Addr} {ll : Nat} (h : StepAt w al ll) (hB : Below w.heap.size w wr) {i : Nat} (hi : i < ll) : ∃ (b off : Nat) (X : SD), al = some ⟨b, off, none⟩ ∧ b < w.heap.size ∧ w.rangeAt b (off + i * 29) (sdL X) ∧ wr.rangeAt b (off + i * 29) (sdL X) ∧ IsB w X.ba X.bl X.bc X.bs := by
  obtain ⟨b, off, X, h1, h2, h3, h4, _⟩ := h i hi
  exact ⟨b, off, X, h1, h2, h3, fun j v hv => (hB.cell (p := ⟨b, off + i * 29 + j, none⟩) h2).trans (h3 j v hv), h4⟩
end Go.Proofs.YtaablbmgagiajabGreatDoor
namespace Go.Proofs.YtaablbmgagiajabGreatDoor
open Go.RowKit Go.Deep
section
variable {L : RC} {W : Seen} {liar win T n k : Nat} {S S' : SY} {A B : TS}
theorem take_lat {V : VS} (h : V.lat = true) (F : FR) : (takeF win V F).1 = V := by
  have hp : passB V F = true := by unfold passB; rw [h]; simp
  unfold takeF
  split
  · rfl
  · split
    · rfl
    · rfl
theorem tick_lat {V : VS} (h : V.lat = true) : tickF V = V := by unfold tickF; rw [h]; rfl
def LatTo (S S' : SY) : Prop := S.v.lat = true → S'.v.lat = true ∧ S'.v.tr = S.v.tr
theorem LatTo.refl (S : SY) : LatTo S S := fun h => ⟨h, rfl⟩
theorem LatTo.trans {S1 S2 : SY} (h : LatTo S S1) (g : LatTo S1 S2) : LatTo S S2 := fun e => ⟨(g (h e).1).1, (g (h e).1).2.trans (h e).2⟩
theorem LatTo.of (h : S'.v = S.v) : LatTo S S' := fun e => by rw [h]; exact ⟨e, rfl⟩
theorem lat_arrive (L : RC) (win i : Nat) (S : SY) : LatTo S (arriveSy L win i S) := by
  intro e
  unfold arriveSy comeSy
  split
  · exact ⟨e, rfl⟩
  · split
    · show (takeF win S.v _).1.lat = true ∧ (takeF win S.v _).1.tr = _
      rw [take_lat e]; exact ⟨e, rfl⟩
    · exact ⟨e, rfl⟩
theorem lat_all (L : RC) (win : Nat) : ∀ (m : Nat) (S : SY), LatTo S (runAll L win m S)
  | 0, S => LatTo.refl S
  | m + 1, S => (lat_arrive L win 0 S).trans (lat_all L win m _)
theorem lat_vtick (S : SY) : LatTo S (vtickSy S) := fun e => by
  show (tickF S.v).lat = true ∧ (tickF S.v).tr = _
  rw [tick_lat e]; exact ⟨e, rfl⟩
theorem lat_ticks (L : RC) (S : SY) : LatTo S (ticksSy L S) := LatTo.of rfl
theorem lat_round (h : roundTo L win S S') : LatTo S S' := by
  obtain ⟨m0, m1, m2, _, _, _, e⟩ := h
  subst e
  exact ((((lat_all L win m0 S).trans (lat_ticks L _)).trans (lat_all L win m1 _)).trans (lat_ticks L _)).trans ((lat_all L win m2 _).trans (lat_vtick _))
theorem lat_calm : ∀ (n : Nat) (S : SY), calmTo L win n S S' → LatTo S S'
  | 0, S, e => by
    have e' : S' = S := e
    subst e'
    exact LatTo.refl _
  | n + 1, S, ⟨S1, hr, hc⟩ => (lat_round hr).trans (lat_calm n S1 hc)
theorem StepTo.lat {wh : Int} (hs : StepTo L win liar wh A B) : LatTo A.S B.S := by
  refine hs (fun B => LatTo A.S B.S) ?_ ?_ ?_ ?_ ?_ ?_ ?_ ?_ ?_ ?_ ?_ ?_ ?_
  · exact LatTo.refl _
  · intro _ _ _ _
    exact LatTo.of rfl
  · intro _ _
    exact LatTo.of rfl
  · intro _ _
    exact LatTo.of rfl
  · intro i _
    exact lat_arrive L win i _
  · intro _
    exact LatTo.of rfl
  · intro _ _
    exact LatTo.of rfl
  · intro _ _ _ _ _ _ _ _ _ _
    exact LatTo.of rfl
  · intro _ _
    exact LatTo.of rfl
  · intro _ _ _ _ _ _
    exact LatTo.of rfl
  · intro n S' _ _ h
    exact lat_calm n _ h
  · intro _
    exact lat_vtick _
  · intro _
    exact fun e => ⟨rfl, rfl⟩
structure ShowOk (L : RC) (tr : List Cm) (o : Nat) : Prop where
  lt : o < 2 ^ L.n
  apart : ∀ i k, i < L.n → k < L.n → i ≠ k → o.testBit i = true → o.testBit k = true → rt L.zs i &&& rt L.zs k = 0
  clear : tr.length ≠ 0 → ∃ c : Nat, (cmAt tr (tr.length - 1)).c = (c : Int) ∧ c < 2 ^ L.s ∧ ∀ k, k < L.n → o.testBit k = true → wo (rt L.zs k) c = 0
theorem shows_ok (h : SInv L W liar win T S) (hL : LOk L) : ∃ o : Nat, shownF S.v = (o : Int) ∧ ShowOk L S.v.tr o ∧ (S.v.lat = true → o = 0) := by
  have hz : ∀ b, (0 : Nat).testBit b = true → False := fun b hb => by simp at hb
  unfold shownF
  by_cases e : (S.v.lat || S.v.tr.length == 0) = true
  · rw [if_pos e]
    refine ⟨0, rfl, ⟨Nat.two_pow_pos _, fun i k _ _ _ hb _ => (hz i hb).elim, fun hn => ?_⟩, fun _ => rfl⟩
    obtain ⟨c, v, hd, hc, _⟩ := h.tr (S.v.tr.length - 1) (by omega)
    exact ⟨c, by rw [hd], hc, fun k _ hb => (hz k hb).elim⟩
  · rw [if_neg e]
    rw [Bool.or_eq_true, not_or] at e
    have hn : S.v.tr.length ≠ 0 := fun x => e.2 (by rw [x]; rfl)
    obtain ⟨c, v, hd, hc, hv, _⟩ := h.tr (S.v.tr.length - 1) (by omega)
    refine ⟨outOf L (stAt L S.v.tr (S.v.tr.length - 1)) c v, by rw [hd], ⟨showTo_lt _ _ _ _ _ _ (Nat.le_refl _), fun i k hi hk hik hbi hbk => ?_, fun _ => ⟨c, by rw [hd], hc, fun k hk hb => ?_⟩⟩, fun x => absurd x e.1⟩
    · have hg := inSt_good hL (stAt_good hL S.v.tr (S.v.tr.length - 1) (by omega)) c v
      have bit : ∀ j, (outOf L (stAt L S.v.tr (S.v.tr.length - 1)) c v).testBit j = true → (inSt L (stAt L S.v.tr (S.v.tr.length - 1)) c v).set.testBit j = true := fun j hj => by
        unfold outOf outF at hj
        rw [showTo_bit] at hj
        unfold showB at hj
        simp only [Bool.and_eq_true, Nat.testBit_and] at hj
        exact hj.2.1.1
      exact hg.apart i k hi hk hik (bit i hbi) (bit k hbk)
    · unfold outOf outF at hb
      rw [showTo_bit] at hb
      unfold showB at hb
      simp only [Bool.and_eq_true, beq_iff_eq] at hb
      have := hb.2.2.2
      have hfit : fitN L.s (c : Int) = c := fit_small hc (by have := hL.few; omega)
      rw [hfit] at this
      exact this
theorem ShowOk.held {tr : List Cm} {o m : Nat} (h : ShowOk L tr o) (hm : m < L.n) (hb : o.testBit m = true) : heldTo (rt L.zs) o m &&& rt L.zs m = 0 := held_apart h.apart hm hb m (Nat.le_refl _)
theorem held_clear {R : Nat → Nat} {o c : Nat} : ∀ m, (∀ k, k < m → o.testBit k = true → wo (R k) c = 0) → wo (heldTo R o m) c = 0
  | 0, _ => by simp [heldTo, wo]
  | m + 1, h => by
    have ih := held_clear m fun k hk => h k (by omega)
    unfold heldTo
    split
    · exact or_sub ih (h m (by omega) ‹_›)
    · exact ih
end
end Go.Proofs.YtaablbmgagiajabGreatDoor
namespace Go.Proofs.YtaablbmgagiajabGreatDoor
open Go.RowKit Go.Deep
structure LtInv (w wr : World) (N q : Nat) (L : RC) (win liar k : Nat) (lat : Bool) (v : Value) (n : Nat) : Prop where
  old : Below w.heap.size w wr
  ge : w.heap.size ≤ q
  ok : LOk L
  is : ∃ E A, TaIs wr N q E L win liar A ∧ TlInv L liar win (18 * k) A ∧ A.seen.length ≤ 3 * k ∧ A.S.v.lat = lat ∧ A.S.v.tr.length = n ∧ (∃ M, TIs wr M v A.S.v.tr) ∧ ∀ g, v.ownBlock = some g → g = E.z
structure LsInv (w wr : World) (N q p : Nat) (L : RC) (win liar k : Nat) (lat : Bool) (v : Value) (tr : List Cm) (S : SY) : Prop where
  old : Below w.heap.size w wr
  ge : w.heap.size ≤ q
  ok : LOk L
  is : ∃ E A, TaIs wr N q E L win liar A ∧ TlInv L liar win (18 * (k + 1)) A ∧ A.seen.length ≤ 3 * (k + 1) ∧ A.S = S ∧ E.D.p = p
  row : ∃ M, TIs wr M v tr
  grow : ∃ a, S.v.tr = tr ++ a
  held : lat = true → S.v.lat = true ∧ S.v.tr = tr
section
variable {w wr wx : World} {N q p win liar k n : Nat} {L : RC} {lat : Bool} {v : Value} {tr : List Cm} {S : SY}
theorem LtInv.does {X : SD} (h : LtInv w wr N q L win liar k lat v n) (hk : k ≤ 120) (htab : HasTab w) (h0 : 0 < w.heap.size) (hby : IsB w X.ba X.bl X.bc X.bs) (hbl : X.bl ≤ 200) :
    Calls Tryz.prog 12 #[.pointer (some ⟨q, 0, none⟩), .agg (sdL X).toArray] wr fun e w' => e = .returned (.tuple #[]) ∧ Hid (∃ p tr S, tr.length = n ∧ LsInv w w' N q p L win liar k lat v tr S) := by
  obtain ⟨E, A, hT, hI, hs, hl, hn, ⟨M, hM⟩, hz⟩ := h.is
  refine (does_any N q E L win liar (18 * k) A wr X hT hI h.ok (by omega) (by omega) (htab.below h.old h0) (hby.below h.old) hbl).mono ?_
  rintro e w' ⟨he, A', hst, hg⟩
  have hold := TaGo.old hT h.old h.ge hg
  obtain ⟨E2, _, _, _, _, hT2, hm⟩ := hg
  obtain ⟨hk1, hk2⟩ := hst.keeps h.ok hI
  refine ⟨he, hide ⟨E2.D.p, A.S.v.tr, A'.S, hn, hold, h.ge, h.ok, ⟨E2, A', hT2, ?_, ?_, rfl, rfl⟩, ⟨M, hM.same fun g hg => ?_⟩, hk2, fun e => ?_⟩⟩
  · rw [show 18 * (k + 1) = 18 * k + 18 by omega]
    exact hk1
  · have := hst.few; omega
  · have e := hz g hg
    subst e
    refine hm.block _ hT.zz.2.2 fun x => ?_
    rcases x with x | x
    · exact hT.zz.1.2 x
    · exact x.2 rfl
  · exact hst.lat (hl.trans e)
theorem LsInv.below (h : LsInv w wr N q p L win liar k lat v tr S) (hB : Below wr.heap.size wr wx) : LsInv w wx N q p L win liar k lat v tr S := by
  obtain ⟨E, A, hT, e⟩ := h.is
  obtain ⟨M, hM⟩ := h.row
  refine ⟨h.old.trans (hB.mono h.old.size), h.ge, h.ok, ⟨E, A, hT.below hB, e⟩, ⟨M, hM.same fun g hg => hB.block g ?_⟩, h.grow, h.held⟩
  obtain ⟨_, cur, hc⟩ := hM.own hg
  exact blk_lt hc
theorem LsInv.sys (h : LsInv w wr N q p L win liar k lat v tr S) : ∃ D, D.p = p ∧ SyIs wr N D L win S ∧ VOk win S.v := by
  obtain ⟨E, A, hT, hI, _, rfl, rfl⟩ := h.is
  exact ⟨E.D, rfl, hT.sy, hI.inv.vok⟩
theorem LsInv.trace (h : LsInv w wr N q p L win liar k lat v tr S) : Calls Tryz.prog 13 #[.pointer (some ⟨p, 0, none⟩)] wr fun e w' => (∃ v, e = .returned v ∧ TIs w' wr.heap.size v S.v.tr) ∧ Below wr.heap.size wr w' := by
  obtain ⟨D, rfl, hS, hv⟩ := h.sys
  exact strace_any N D L win S wr hS hv
theorem LsInv.latched (h : LsInv w wr N q p L win liar k lat v tr S) : Calls Tryz.prog 14 #[.pointer (some ⟨p, 0, none⟩)] wr fun e w' => e = .returned (.bool S.v.lat) ∧ w' = wr := by
  obtain ⟨D, rfl, hS, hv⟩ := h.sys
  exact slatched_any N D L win S wr hS
theorem LsInv.shown (h : LsInv w wr N q p L win liar k lat v tr S) : Calls Tryz.prog 15 #[.pointer (some ⟨p, 0, none⟩)] wr fun e w' => e = .returned (.int .i64 (shownF S.v)) ∧ Below wr.heap.size wr w' := by
  obtain ⟨D, rfl, hS, hv⟩ := h.sys
  exact sshown_any N D L win S wr hS hv
theorem LsInv.at (h : LsInv w wr N q p L win liar k lat v tr S) : wr.cell? ⟨q, 0, none⟩ = some (.pointer (some ⟨p, 0, none⟩)) ∧ ∃ b off cap, wr.cell? ⟨q, 2, none⟩ = some (.slice (some ⟨b, off, none⟩) L.n cap) ∧ Row wr b off L.zs ∧ L.n ≤ cap := by
  obtain ⟨E, A, hT, _, _, _, rfl⟩ := h.is
  exact ⟨(hT.at 0).trans rfl, E.b, E.off, E.cap, (hT.at 2).trans rfl, hT.row, hT.cap⟩
theorem LsInv.shows (h : LsInv w wr N q p L win liar k lat v tr S) : ∃ o : Nat, shownF S.v = (o : Int) ∧ ShowOk L S.v.tr o ∧ (S.v.lat = true → o = 0) := by
  obtain ⟨E, A, hT, hI, _, rfl, rfl⟩ := h.is
  exact shows_ok hI.inv h.ok
theorem LsInv.few (h : LsInv w wr N q p L win liar k lat v tr S) : S.v.tr.length ≤ 1000 := by
  obtain ⟨D, rfl, hS, hv⟩ := h.sys
  exact hv.few
theorem LsInv.next {v' : Value} (h : LsInv w wr N q p L win liar k lat v tr S) (hT : TIs wx wr.heap.size v' S.v.tr) (hB : Below wr.heap.size wr wx) : LtInv w wx N q L win liar (k + 1) S.v.lat v' S.v.tr.length := by
  obtain ⟨E, A, hTA, hI, hs, hS, _⟩ := h.is
  subst hS
  have hT2 := hTA.below hB
  by_cases hb : ∃ g, v'.ownBlock = some g
  · obtain ⟨g, hg⟩ := hb
    obtain ⟨hge, cur, hcur⟩ := hT.own hg
    have hgl : g < wx.heap.size := blk_lt hcur
    refine ⟨h.old.trans (hB.mono h.old.size), h.ge, h.ok, ⟨E.D, E.b, E.off, E.cap, E.sv, g⟩, A, ⟨hT2.blk, hT2.row, hT2.sy, hT2.seen, hT2.lb, hT2.lq, hT2.far, hT2.cap, hT2.size, ⟨fun x => ?_, fun x => ?_⟩, fun x => ?_, hgl⟩, hI, hs, rfl, rfl, ⟨_, hT⟩, fun g' hg' => ?_⟩
    · have x' : Wr E.D g := x
      have := hTA.sy.wrLt x'; omega
    · have x' : g = q := x
      have := hTA.lt; omega
    · have x' : E.sv.ownBlock = some g := x
      have := (hTA.own x').lt; omega
    · rw [hg] at hg'; exact (Option.some.inj hg').symm
  · exact ⟨h.old.trans (hB.mono h.old.size), h.ge, h.ok, E, A, hT2, hI, hs, rfl, rfl, ⟨_, hT⟩, fun g hg => absurd ⟨g, hg⟩ hb⟩
end
end Go.Proofs.YtaablbmgagiajabGreatDoor
namespace Go.Proofs.YtaablbmgagiajabGreatDoor
open Go.RowKit Go.Deep
theorem bit_at (m i : Nat) (hm : m < 9223372036854775808) (hi : i ≤ 62) : (bits BinOp.and IntKind.i64 ((m : Int) / 2 ^ i) 1 == 1) = m.testBit i := by
  have h1 := shr_bool (m : Int) i hi
  rw [u64_nat m hm] at h1
  exact h1
set_option maxHeartbeats 4000000 in
set_option maxRecDepth 20000 in
theorem slat_any (x0 x1 x2 x3 : Int) (a : Option Addr) (len cap : Nat) (al : Option Addr) (ll cl : Nat) (w : World) (hm : len ≤ maxLen) (hrt : ∀ i, i < len → ∃ b off z, a = some ⟨b, off, none⟩ ∧ b < w.heap.size ∧ w.cell? ⟨b, off + i, none⟩ = some (.int .i64 z)) (hs : StepAt w al ll) (hml : ll ≤ maxLen) (htab : HasTab w) (h0 : 0 < w.heap.size) :
    Calls Tryz.prog 3 #[.int .i64 x0, .int .i64 x1, .slice a len cap, .int .i64 x2, .int .i64 x3, .slice al ll cl] w fun e w' => e = .returned (.bool true) ∧ Below w.heap.size w w' := by
  have HFT := hide (fits_any al ll cl w hs hml)
  unfold maxLen at hm
  by_cases hl : 30 < len
  · clear hrt hs HFT htab
    go_enter Tryz.func3, Tryz.ntmps3
    go_wp2
    go_ret
    exact ⟨rfl, Below.refl _ _⟩
  · have hl' : ¬ (30 : Int) < (len : Int) := by omega
    have HRT := hide hrt
    have HS := hide hs
    have HTB := hide htab
    clear hrt hs htab
    go_enter Tryz.func3, Tryz.ntmps3
    go_wp2_with fail
    refine HFT.out.mono ?_
    rintro e wz ⟨⟨r, rfl, hr⟩, hwz⟩
    subst wz
    clear HFT
    cases r
    · go_wp2
      go_ret
      exact ⟨rfl, Below.refl _ _⟩
    · obtain ⟨hll, hby⟩ := hr rfl
      have HBY := hide hby
      clear hr hby
      have HRN := hide (ran_any w)
      go_wp2_with (go_at_call 10; refine HRN.out.mono ?_)
      rintro e w1 ⟨rfl, hB1⟩
      have hs1 := hB1.size
      have HTL := hide (tells_any x0 x1 x2 x3 a len cap w1 (by omega) fun i hi => by
        obtain ⟨b, off, z, h1, h2, h3⟩ := HRT.out i hi
        exact ⟨b, off, z, h1, Nat.lt_of_lt_of_le h2 hB1.size, (hB1.cell (p := ⟨b, off + i, none⟩) h2).trans h3⟩)
      have HB1 := hide hB1
      clear HRN hB1 HRT
      obtain ⟨w1', w2'⟩ := pickF_in x2 18 (by decide) (by decide)
      obtain ⟨win, hwin⟩ : ∃ win, Hid (3 + (pickF x2 18).toNat = win) := ⟨_, hide rfl⟩
      obtain ⟨liar, hliar⟩ : ∃ liar, Hid ((pickF x3 4).toNat = liar) := ⟨_, hide rfl⟩
      rw [hwin.out, hliar.out] at HTL
      have hw3 : 1 ≤ win ∧ win ≤ 20 := by rw [← hwin.out]; omega
      clear hwin hliar w1' w2'
      go_wp2_with (go_at_call 11; refine HTL.out.mono ?_)
      rintro e w2 ⟨⟨N, q, E, L, rfl, hq, hL, hT⟩, hB2⟩
      have HP : Hid (LtInv w w2 N q L win liar 0 false (.slice none 0 0) 0) := hide ⟨HB1.out.trans (hB2.mono HB1.out.size), Nat.le_trans hs1 hq, hL, E, _, hT, ⟨SInv.new hw3.1 hw3.2, fun _ _ => ⟨rfl, rfl⟩⟩, Nat.le_refl _, rfl, rfl, ⟨0, World.ownsRow_nil _ _ _ _⟩, fun g hg => by simp [Value.ownBlock] at hg⟩
      clear HTL HB1 hB2 hT hq hL
      go_wp2_with fail
      go_loopw [14, 15, 16] (fun lv v i wr => ∃ (k n c : Nat) (lat : Bool) (a' : Option Addr), k ≤ ll ∧ lv = .bool lat ∧ v = .slice a' n c ∧ i = .int .i64 k ∧ LtInv w wr N q L win liar k lat (.slice a' n c) n) (fun _ _ i _ => ll - (intOf i).toNat)
      case atStart => exact ⟨0, 0, 0, false, none, Nat.zero_le _, rfl, rfl, rfl, HP.out⟩
      case round =>
        clear HP
        obtain ⟨k, n, c, lat, a', hk, rfl, rfl, rfl, hP⟩ := hrel
        by_cases hlt : k < ll
        · obtain ⟨b, off, X, rfl, hb, hr1, hr2, hby⟩ := HS.out.load hP.old hlt
          have HC := hide (hP.does (X := X) (by omega) HTB.out h0 hby (HBY.out k b off X hlt rfl hr1))
          have HR := hide hr2
          clear hP hr1 hr2 hby
          go_wp2_with (first
            | (refine wpList_load_mid rfl 39 _ rfl b (off + k * 29) rfl (sdL X) _ HR.out Tryz.underlying39 rfl (by rw [infoStep, sdL_len]) ?_)
            | (go_at_call 12; refine HC.out.mono ?_))
          rintro e w3 ⟨rfl, HG⟩
          clear HC HR
          obtain ⟨p, tr, S, hn, hLs⟩ := HG.out
          obtain ⟨c0, _⟩ := hLs.at
          have HTR := hide hLs.trace
          have HLS := hide hLs
          clear HG hLs
          go_wp2_with (go_at_call 13; refine HTR.out.mono ?_)
          rintro e w4 ⟨⟨v, rfl, hTr⟩, hB4⟩
          obtain ⟨a2, c2, rfl⟩ := hTr.shape
          obtain ⟨m, hmm⟩ : ∃ m, Hid (S.v.tr.length = m) := ⟨_, hide rfl⟩
          have hLs4 := HLS.out.below hB4
          obtain ⟨d0, bR, oR, cR, d2, hRow, hcR⟩ := hLs4.at
          have HLAT := hide hLs4.latched
          have HTI := hide hTr
          have HB4 := hide hB4
          have HL4 := hide hLs4
          have hfew := hLs4.few
          have hle : n ≤ m := by
            obtain ⟨x, hx⟩ := hLs4.grow
            rw [← hmm.out, hx, ← hn]; simp
          have hll' : lat = true → S.v.lat = true ∧ m = n := fun e => by
            obtain ⟨e1, e2⟩ := hLs4.held e
            exact ⟨e1, by rw [← hmm.out, e2, hn]⟩
          obtain ⟨sl, hsl⟩ : ∃ sl, Hid (S.v.lat = sl) := ⟨_, hide rfl⟩
          rw [hsl.out] at HLAT hll'
          rw [hmm.out] at HTI hfew ⊢
          have HROW := hide hRow
          clear hTr hB4 hLs4 HTR c0 hRow
          have HNXT : Hid (∀ wx, Below w4.heap.size w4 wx → LtInv w wx N q L win liar (k + 1) sl (.slice a2 m c2) m) := hide fun wx hx => by
            have h6 : TIs wx w3.heap.size (.slice a2 m c2) S.v.tr := HTI.out.same fun g hg => hx.block g (by obtain ⟨_, cur, hc⟩ := HTI.out.own hg; exact blk_lt hc)
            have := HLS.out.next h6 (HB4.out.trans (hx.mono HB4.out.size))
            rw [hsl.out, hmm.out] at this
            exact this
          have hnl : ¬ (m : Int) < (n : Int) := by omega
          have HCMP : Hid (∀ wx, Below w4.heap.size w4 wx → ∀ j, j < n → ∃ g1 g2 y1 y2 y3, a' = some ⟨g1, 0, none⟩ ∧ a2 = some ⟨g2, 0, none⟩ ∧ n ≤ c ∧ m ≤ c2 ∧ wx.cell? ⟨g1, j * 3, none⟩ = some (.int .i64 y1) ∧ wx.cell? ⟨g1, j * 3 + 1, none⟩ = some (.int .i64 y2) ∧ wx.cell? ⟨g1, j * 3 + 2, none⟩ = some (.int .i64 y3) ∧ wx.cell? ⟨g2, j * 3, none⟩ = some (.int .i64 y1) ∧ wx.cell? ⟨g2, j * 3 + 1, none⟩ = some (.int .i64 y2) ∧ wx.cell? ⟨g2, j * 3 + 2, none⟩ = some (.int .i64 y3)) := hide fun wx hx j hj => by
            obtain ⟨M, hM⟩ := HL4.out.row
            obtain ⟨x, hx2⟩ := HL4.out.grow
            have hjn : j < tr.length := by omega
            have hjm : j < S.v.tr.length := by rw [hmm.out]; omega
            obtain ⟨g1, c1', e1, _, hl1, hc1⟩ := hM.has (by omega)
            have hTm : TIs w4 w3.heap.size (.slice a2 S.v.tr.length c2) S.v.tr := by rw [hmm.out]; exact HTI.out
            obtain ⟨g2, c2', e2, _, hl2, hc2⟩ := hTm.has (by omega)
            simp only [Value.slice.injEq] at e1 e2
            obtain ⟨e1a, e1b, e1c⟩ := e1
            obtain ⟨e2a, e2b, e2c⟩ := e2
            subst e1a e1c e2a e2c
            have r1 := (hM.same (w' := wx) fun g' hg' => by
              have : g1 = g' := by simpa [Value.ownBlock] using hg'
              exact hx.block g' (by omega)).range (k := j) hjn
            have r2 := (hTm.same (w' := wx) fun g' hg' => by
              have : g2 = g' := by simpa [Value.ownBlock] using hg'
              exact hx.block g' (by omega)).range (k := j) hjm
            have ec : cmAt S.v.tr j = cmAt tr j := by rw [hx2]; exact cmAt_app hjn _
            rw [ec] at r2
            exact ⟨g1, g2, _, _, _, rfl, rfl, by omega, by rw [hmm.out] at hc2; omega, r1 0 _ rfl, r1 1 _ rfl, r1 2 _ rfl, r2 0 _ rfl, r2 1 _ rfl, r2 2 _ rfl⟩
          cases lat <;> cases sl
          case true.false => exact absurd (hll' rfl).1 (by decide)
          all_goals
            try
              have hq := (hll' rfl).2
              have hq2 : ((m : Int) != (n : Int)) = false := by simp; omega
              clear hq
            clear hll'
            go_wp2_with (go_at_call 14; refine HLAT.out.mono ?_; rintro e wz ⟨rfl, hwz⟩; subst wz)
            go_loopw [18] (fun j wr => ∃ r : Nat, r ≤ n ∧ j = .int .i64 r ∧ Below w4.heap.size w4 wr) (fun j _ => n - (intOf j).toNat)
            case atStart => exact ⟨0, Nat.zero_le _, rfl, Below.refl _ _⟩
            case round =>
              obtain ⟨r, hrn, rfl, hBr⟩ := hrel
              by_cases hr : r < n
              · have hr' : (r : Int) < (n : Int) := by omega
                have hr2 : (r : Int) < (m : Int) := by omega
                obtain ⟨g1, g2, y1, y2, y3, rfl, rfl, q1, q2, t1, t2, t3, t4, t5, t6⟩ := HCMP.out wr hBr r hr
                have HBR := hide hBr
                clear hBr
                go_wp2_with fail
                go_quiet (fail)
                go_wp2
                go_roundw
                case rel => exact ⟨r + 1, by omega, by go_num, below_drewN HBR.out _⟩
                case measure => simp [intOf]; omega
              · have er : r = n := by omega
                subst er
                have hLr := HL4.out.below hBr
                have HLR := hide hLr.latched
                rw [hsl.out] at HLR
                obtain ⟨f0, _⟩ := hLr.at
                obtain ⟨o, ho, hSO, ho0⟩ := hLr.shows
                have HSH := hide hLr.shown
                rw [ho] at HSH
                have HSO := hide hSO
                rw [hsl.out] at ho0
                have HBR := hide hBr
                clear hBr hLr hSO ho HCMP HLAT d0
                go_wp2_with (go_at_call 14; refine HLR.out.mono ?_; rintro e wz ⟨rfl, hwz⟩; subst wz)
                go_wp2_with (go_at_call 15; refine HSH.out.mono ?_; rintro e w6 ⟨rfl, hB6⟩; refine Hid.out ?_)
                refine hide ?_
                have hBw6 : Below w4.heap.size w4 w6 := HBR.out.trans (hB6.mono HBR.out.size)
                have HB6 := hide hBw6
                clear hB6 hBw6 HLR HSH f0 HBR
                try
                  have e0 := ho0 rfl
                  have hoz : ((o : Int) != 0) = false := by rw [e0]; rfl
                  clear e0
                have HO0 := hide ho0
                clear ho0
                have hL6 := HL4.out.below HB6.out
                have hok := hL6.ok
                have hfz := hok.few
                obtain ⟨e0, b6, o6, c6, e2, hRow6, hc6⟩ := hL6.at
                have hRl : ∀ k, k < L.n → rt L.zs k < 4096 := fun kk hkk => (rt_in hok.ok (by rw [hok.len]; exact hkk)).2.2.1
                have HRL := hide hRl
                have HRW := hide hRow6
                have HOK := hide hok
                have HL6 := hide hL6
                have hon : o < 2 ^ L.n := HSO.out.lt
                have ho8 : o < 256 := Nat.lt_of_lt_of_le hon (Nat.pow_le_pow_right (n := 2) (by decide) (show L.n ≤ 8 by omega))
                clear hL6 hok hRl hRow6 hon
                go_wp2_with fail
                go_loopw [20, 21] (fun h j wr => ∃ r : Nat, r ≤ L.n ∧ j = .int .i64 r ∧ h = .int .i64 ((heldTo (rt L.zs) o r : Nat) : Int) ∧ wr = w6) (fun _ j _ => L.n - (intOf j).toNat)
                case atStart => exact ⟨0, Nat.zero_le _, rfl, rfl, rfl⟩
                case round =>
                  obtain ⟨r, hrn, rfl, rfl, hwr⟩ := hrel
                  subst wr
                  have hh4 : heldTo (rt L.zs) o r < 4096 := held_lt fun kk hkk => HRL.out kk (by omega)
                  have hhs : heldTo (rt L.zs) o (r + 1) = if o.testBit r then heldTo (rt L.zs) o r ||| rt L.zs r else heldTo (rt L.zs) o r := rfl
                  have HHS := hide hhs
                  by_cases hr : r < L.n
                  · have hr' : (r : Int) < (L.n : Int) := by omega
                    have hrz : r < L.zs.length := by rw [HOK.out.len]; exact hr
                    obtain ⟨hz1, _, hz3, _⟩ := rt_in HOK.out.ok hrz
                    have cr : w6.cell? ⟨b6, o6 + r, none⟩ = some (.int .i64 ((rt L.zs r : Nat) : Int)) := by
                      have := HRW.out r hrz
                      rw [hz1] at this
                      exact this
                    have hap := fun hb => HSO.out.held (m := r) hr hb
                    have tb := bit_at o r (by omega) (by omega)
                    obtain ⟨hd, hhd⟩ : ∃ hd, Hid (heldTo (rt L.zs) o r = hd) := ⟨_, hide rfl⟩
                    obtain ⟨z, hz⟩ : ∃ z, Hid (rt L.zs r = z) := ⟨_, hide rfl⟩
                    rw [hhd.out] at hh4 HHS hap ⊢
                    rw [hz.out] at cr hz3 HHS hap
                    clear hhs hz1
                    cases hob : o.testBit r
                    · rw [hob] at tb HHS
                      clear hap hob
                      go_wp2
                      go_roundw
                      case rel => exact ⟨r + 1, by omega, by go_num, by rw [HHS.out]; rfl, by first | rfl | trivial⟩
                      case measure => simp [intOf]; omega
                    · first
                      | (have e0 : o = 0 := (by first | exact HO0.out rfl | exact HO0.out trivial); rw [e0] at hob; simp at hob; done)
                      | (rw [hob] at tb HHS
                         have hz0 := hap hob
                         have hh0 : (bits BinOp.and IntKind.i64 (hd : Int) (z : Int) != 0) = false := by rw [and_nat _ _ (by omega) (by omega), hz0]; rfl
                         have eho : bits BinOp.or IntKind.i64 (hd : Int) (z : Int) = ((hd ||| z : Nat) : Int) := by rw [or_nat _ _ (by omega) (by omega)]
                         obtain ⟨h2, hh2⟩ : ∃ h2, Hid (hd ||| z = h2) := ⟨_, hide rfl⟩
                         rw [hh2.out] at eho HHS
                         clear hap hob hz0
                         go_wp2
                         go_roundw
                         case rel => exact ⟨r + 1, by omega, by go_num, by rw [HHS.out]; rfl, by first | rfl | trivial⟩
                         case measure => simp [intOf]; omega)
                  · have er : r = L.n := by omega
                    subst er
                    clear HHS
                    have HNX := hide (HNXT.out _ HB6.out)
                    by_cases hm0 : m = 0
                    · subst hm0
                      go_wp2
                      go_roundw
                      case rel => exact ⟨k + 1, 0, c2, _, a2, by omega, rfl, rfl, by go_num, HNX.out⟩
                      case measure => simp [intOf]; omega
                    · have hmp : (0 : Int) < (m : Int) := by omega
                      obtain ⟨cl', hcl, hclt, hclr⟩ := HSO.out.clear (by rw [hmm.out]; exact hm0)
                      have hwo : wo (heldTo (rt L.zs) o L.n) cl' = 0 := held_clear L.n fun kk hkk hb => hclr kk hkk hb
                      have hcl5 : cl' < 4096 := Nat.lt_of_lt_of_le hclt (Nat.pow_le_pow_right (n := 2) (by decide) (show L.s ≤ 12 by omega))
                      have hmt : (bits BinOp.andNot IntKind.i64 ((heldTo (rt L.zs) o L.n : Nat) : Int) (cl' : Int) != 0) = false := by rw [andnot_nat _ _ (by omega) (by omega), hwo]; rfl
                      obtain ⟨g2, c2', e2', _, hl2, hc2⟩ := HTI.out.has (by rw [hmm.out]; omega)
                      rw [hmm.out] at e2' hc2
                      simp only [Value.slice.injEq] at e2'
                      obtain ⟨e2a, _, e2c⟩ := e2'
                      subst e2a e2c
                      have ct : w6.cell? ⟨g2, (m - 1) * 3, none⟩ = some (.int .i64 (cl' : Int)) := by
                        have r2 := (HTI.out.same (w' := w6) fun g' hg' => by
                          have : g2 = g' := by simpa [Value.ownBlock] using hg'
                          exact HB6.out.block g' (by omega)).range (k := m - 1) (by rw [hmm.out]; omega)
                        have := r2 0 _ rfl
                        rw [hmm.out] at hcl
                        rw [hcl] at this
                        exact this
                      obtain ⟨m1, hm1⟩ : ∃ m1, m = m1 + 1 := ⟨m - 1, by omega⟩
                      subst hm1
                      rw [show m1 + 1 - 1 = m1 by omega] at ct
                      obtain ⟨hd, hhd⟩ : ∃ hd, Hid (heldTo (rt L.zs) o L.n = hd) := ⟨_, hide rfl⟩
                      rw [hhd.out] at hmt hh4 ⊢
                      clear hwo hclr hcl
                      go_wp2
                      go_roundw
                      case rel => exact ⟨k + 1, m1 + 1, c2, _, _, by omega, rfl, rfl, by go_num, HNX.out⟩
                      case measure => simp [intOf]; omega
        · have e2 : k = ll := by omega
          subst e2
          have HO := hide hP.old
          clear hP
          go_wp2
          go_ret
          exact ⟨rfl, HO.out⟩
end Go.Proofs.YtaablbmgagiajabGreatDoor
namespace Go.Proofs.YtaablbmgagiajabGreatDoor
open Go.ChangeShapes Go.WideShapes Go.RowKit
def numAt (cs : Array Value) (i : Nat) : Int :=
  match cs[i]? with
  | some (.int _ z) => z
  | _ => 0
theorem fOf_cells (cs : Array Value) (hs : cs.size = 23) (h : ∀ i, i < 23 → ∃ z : Int, cs[i]? = some (.int .i64 z)) : cs = fCells (numAt cs) := by
  apply Array.ext_getElem?
  intro i
  by_cases hi : i < 23
  · obtain ⟨z, hz⟩ := h i hi
    rw [fCells_at _ i hi, hz]
    unfold numAt
    rw [hz]
  · rw [Array.getElem?_eq_none (by omega), Array.getElem?_eq_none (by rw [fCells_size]; omega)]
theorem cut_mid (l : List Value) (a b k n : Nat) (hk : k + n ≤ b) : ((((l.drop a).take b).drop k).take n) = (l.drop (a + k)).take n := by
  rw [List.drop_take, List.drop_drop, List.take_take, show min n (b - k) = n by omega]
section
variable {H : Type} {enc : TypeId × Value → H} {W : World} {base : Nat} {spare : Nat → Bool} {held : Bool}
theorem one_at {cs : Array Value} {i : Nat} {z : Int} (h : (cs.toList.drop i).take 1 = [.int .i64 z]) : cs[i]? = some (.int .i64 z) := by
  have := congrArg (fun l => l[0]?) h
  simpa [List.getElem?_take, List.getElem?_drop] using this
theorem int_at {cs : Array Value} {fuel i : Nat} {y : DataW H × List MemPlace} (h : DataW.trod enc Tryz.prog W base spare held fuel 3 ((cs.toList.drop i).take 1) = some y) : ∃ z : Int, cs[i]? = some (.int .i64 z) := by
  obtain ⟨z, e, _, _⟩ := DataW.trod_int Tryz.underlying3 h
  exact ⟨z, one_at e⟩
theorem ints_at8 {cs : Array Value} {fuel i : Nat} {y : DataW H × List MemPlace} (h : DataW.trod enc Tryz.prog W base spare held fuel 32 ((cs.toList.drop i).take 8) = some y) (k : Nat) (hk : k < 8) : ∃ z : Int, cs[i + k]? = some (.int .i64 z) := by
  have c1 : Tryz.prog.cellsOf 3 = 1 := by kernel_rfl
  obtain ⟨ys, m, _, _, _, hy, hz⟩ := DataW.trod_array Tryz.underlying32 h
  have hk' := hz k (by omega)
  obtain ⟨y, hy'⟩ : ∃ y, ys[k]? = some y := ⟨_, List.getElem?_eq_getElem (by omega)⟩
  rw [hy', c1, Nat.mul_one, cut_mid _ _ _ _ _ (by omega)] at hk'
  exact int_at hk'
end
end Go.Proofs.YtaablbmgagiajabGreatDoor
namespace Go.Proofs.YtaablbmgagiajabGreatDoor
open Go.ChangeShapes Go.WideShapes Go.RowKit Go.Deep
section
variable {H : Type} {enc : TypeId × Value → H} {W : World} {base : Nat} {spare : Nat → Bool} {held : Bool}
set_option maxRecDepth 10000 in
theorem frame_of_trod {cs : Array Value} {fuel : Nat} {x : DataW H × List MemPlace} (hsz : cs.size = 23) (hf : DataW.trod enc Tryz.prog W base spare held fuel 36 cs.toList = some x) : cs = fCells (numAt cs) := by
  have c17 : Tryz.prog.cellsOf 34 = 17 := by kernel_rfl
  have c2 : Tryz.prog.cellsOf 31 = 2 := by kernel_rfl
  have c8 : Tryz.prog.cellsOf 32 = 8 := by kernel_rfl
  have c1 : Tryz.prog.cellsOf 3 = 1 := by kernel_rfl
  obtain ⟨xs, n, _, _, _, hlen, hx⟩ := DataW.trod_struct Tryz.underlying36 hf
  have hl6 : xs.length = 6 := hlen
  obtain ⟨y0, y1, y2, y3, y4, y5, rfl⟩ := six hl6
  have h0 : DataW.trod enc Tryz.prog W base spare held n 3 ((cs.toList.drop 0).take (Tryz.prog.cellsOf 3)) = some y0 := hx 0 _ rfl
  have h1 : DataW.trod enc Tryz.prog W base spare held n 3 ((cs.toList.drop 1).take (Tryz.prog.cellsOf 3)) = some y1 := hx 1 _ rfl
  have h2 : DataW.trod enc Tryz.prog W base spare held n 3 ((cs.toList.drop 2).take (Tryz.prog.cellsOf 3)) = some y2 := hx 2 _ rfl
  have h3 : DataW.trod enc Tryz.prog W base spare held n 31 ((cs.toList.drop 3).take (Tryz.prog.cellsOf 31)) = some y3 := hx 3 _ rfl
  have h4 : DataW.trod enc Tryz.prog W base spare held n 3 ((cs.toList.drop 5).take (Tryz.prog.cellsOf 3)) = some y4 := hx 4 _ rfl
  have h5 : DataW.trod enc Tryz.prog W base spare held n 34 ((cs.toList.drop 6).take (Tryz.prog.cellsOf 34)) = some y5 := hx 5 _ rfl
  clear hx
  rw [c1] at h0 h1 h2 h4
  rw [c2] at h3
  rw [c17] at h5
  obtain ⟨xi, ni, _, _, _, hleni, hxi⟩ := DataW.trod_struct Tryz.underlying31 h3
  have hl2 : xi.length = 2 := hleni
  obtain ⟨i0, i1, rfl⟩ := two hl2
  have g0 : DataW.trod enc Tryz.prog W base spare held ni 3 ((((cs.toList.drop 3).take 2).drop 0).take (Tryz.prog.cellsOf 3)) = some i0 := hxi 0 _ rfl
  have g1 : DataW.trod enc Tryz.prog W base spare held ni 3 ((((cs.toList.drop 3).take 2).drop 1).take (Tryz.prog.cellsOf 3)) = some i1 := hxi 1 _ rfl
  rw [c1, cut_mid _ _ _ _ _ (by omega)] at g0 g1
  clear hxi
  obtain ⟨xt, nt, _, _, _, hlent, hxt⟩ := DataW.trod_struct Tryz.underlying34 h5
  have hl3 : xt.length = 3 := hlent
  obtain ⟨s0, s1, s2, rfl⟩ := three hl3
  have q0 : DataW.trod enc Tryz.prog W base spare held nt 3 ((((cs.toList.drop 6).take 17).drop 0).take (Tryz.prog.cellsOf 3)) = some s0 := hxt 0 _ rfl
  have q1 : DataW.trod enc Tryz.prog W base spare held nt 32 ((((cs.toList.drop 6).take 17).drop 1).take (Tryz.prog.cellsOf 32)) = some s1 := hxt 1 _ rfl
  have q2 : DataW.trod enc Tryz.prog W base spare held nt 32 ((((cs.toList.drop 6).take 17).drop 9).take (Tryz.prog.cellsOf 32)) = some s2 := hxt 2 _ rfl
  rw [c1, cut_mid _ _ _ _ _ (by omega)] at q0
  rw [c8, cut_mid _ _ _ _ _ (by omega)] at q1 q2
  clear hxt
  refine fOf_cells cs hsz fun i hi => ?_
  rcases (by omega : i = 0 ∨ i = 1 ∨ i = 2 ∨ i = 3 ∨ i = 4 ∨ i = 5 ∨ i = 6 ∨ (7 ≤ i ∧ i < 15) ∨ 15 ≤ i) with rfl | rfl | rfl | rfl | rfl | rfl | rfl | hj | hj
  · exact int_at h0
  · exact int_at h1
  · exact int_at h2
  · exact int_at g0
  · exact int_at g1
  · exact int_at h4
  · exact int_at q0
  · have := ints_at8 q1 (i - 7) (by omega)
    rwa [show 6 + 1 + (i - 7) = i by omega] at this
  · have := ints_at8 q2 (i - 15) (by omega)
    rwa [show 6 + 9 + (i - 15) = i by omega] at this
theorem bytes_of_trod {cs : List Value} {fuel : Nat} {x : DataW H × List MemPlace} (hf : DataW.trod enc Tryz.prog W base spare held fuel 37 cs = some x) : ∃ (a : Option Addr) (len cap : Nat) (l : List Nat), cs = [.slice a len cap] ∧ len ≤ maxLen ∧ IsB W a len cap l := by
  rcases open_ints Tryz.underlying37 Tryz.underlying5 (by kernel_rfl) hf with ⟨hcs, _⟩ | ⟨ad, n, c, zs, hcs, _, hl, hm, hz, _, hcell, hwz⟩
  · exact ⟨none, 0, 0, [], hcs, by unfold maxLen; omega, ⟨rfl, Nat.le_refl _, fun _ h => by simp at h, .inl rfl⟩⟩
  · have hzl : n ≤ zs.length := by rw [hz]; split <;> omega
    have hb : ∀ z ∈ zs, 0 ≤ z ∧ z ≤ 255 := fun z hz => bounds_u8 (hwz z hz)
    refine ⟨some ad, n, c, (zs.take n).map Int.toNat, hcs, by omega, ⟨by simp; omega, hl, fun c hc => ?_, ?_⟩⟩
    · obtain ⟨z, hz1, rfl⟩ := List.mem_map.1 hc
      have := hb z (List.mem_of_mem_take hz1)
      omega
    · by_cases h0 : n = 0
      · subst h0; exact .inl (by simp)
      · obtain ⟨b, off, rfl, hc⟩ := ints_at hcell (by omega)
        refine .inr ⟨b, off, rfl, World.block_lt_of_cell? _ _ (hc 0 (by omega)), fun k hk => ?_⟩
        have hk' : k < n := by simp at hk; omega
        have hkz : k < zs.length := by omega
        rw [hc k hkz]
        have hbk := hb _ (List.getElem_mem hkz)
        simp [List.getD, hk', hkz, Int.toNat_of_nonneg hbk.1]
theorem open_steps {a : Option Addr} {len cap : Nat} {fuel : Nat} {x : DataW H × List MemPlace} (hf : DataW.trod enc Tryz.prog W base spare held fuel 23 [.slice a len cap] = some x) : len ≤ maxLen ∧ StepAt W a len := by
  have c29 : Tryz.prog.cellsOf 39 = 29 := by kernel_rfl
  have c23 : Tryz.prog.cellsOf 36 = 23 := by kernel_rfl
  have c2 : Tryz.prog.cellsOf 31 = 2 := by kernel_rfl
  have c1 : Tryz.prog.cellsOf 3 = 1 := by kernel_rfl
  have cb : Tryz.prog.cellsOf 37 = 1 := by kernel_rfl
  rcases open_slice Tryz.underlying23 hf with ⟨hcs, _⟩ | ⟨ad, l, c, m, n, D, Pl, hcs, hb, hl, hm, hmm, _, hx⟩
  · simp at hcs
    obtain ⟨rfl, rfl, rfl⟩ := hcs
    exact ⟨by unfold maxLen; omega, fun i hi => by omega⟩
  · simp at hcs
    obtain ⟨rfl, rfl, rfl⟩ := hcs
    refine ⟨by omega, fun i hi => ?_⟩
    have each : ∀ j, j < len → ∃ (cs : List Value) (X : SD), cs.length = 29 ∧ (∀ k, k < 29 → W.cell? (ad.add (j * 29 + k)) = cs[k]?) ∧ cs = sdL X ∧ IsB W X.ba X.bl X.bc X.bs ∧ X.bl ≤ maxLen := fun j hj => by
      obtain ⟨cs, e1, e2⟩ := hx j (by rw [hmm]; split <;> omega)
      rw [c29] at e1
      obtain ⟨_, hlen, hcell⟩ := World.cells?_some e1
      obtain ⟨xs, k, _, _, _, hxl, hfi⟩ := DataW.trod_struct Tryz.underlying39 e2
      have hl6 : xs.length = 6 := hxl
      obtain ⟨y0, y1, y2, y3, y4, y5, rfl⟩ := six hl6
      have g0 : DataW.trod enc Tryz.prog W base spare held k 3 ((cs.drop 0).take (Tryz.prog.cellsOf 3)) = some y0 := hfi 0 _ rfl
      have g1 : DataW.trod enc Tryz.prog W base spare held k 3 ((cs.drop 1).take (Tryz.prog.cellsOf 3)) = some y1 := hfi 1 _ rfl
      have g2 : DataW.trod enc Tryz.prog W base spare held k 3 ((cs.drop 2).take (Tryz.prog.cellsOf 3)) = some y2 := hfi 2 _ rfl
      have g3 : DataW.trod enc Tryz.prog W base spare held k 31 ((cs.drop 3).take (Tryz.prog.cellsOf 31)) = some y3 := hfi 3 _ rfl
      have g4 : DataW.trod enc Tryz.prog W base spare held k 36 ((cs.drop 5).take (Tryz.prog.cellsOf 36)) = some y4 := hfi 4 _ rfl
      have g5 : DataW.trod enc Tryz.prog W base spare held k 37 ((cs.drop 28).take (Tryz.prog.cellsOf 37)) = some y5 := hfi 5 _ rfl
      rw [c1] at g0 g1 g2
      rw [c2] at g3
      rw [c23] at g4
      rw [cb] at g5
      clear hfi
      obtain ⟨z0, e0, _, _⟩ := DataW.trod_int Tryz.underlying3 g0
      obtain ⟨z1, e1', _, _⟩ := DataW.trod_int Tryz.underlying3 g1
      obtain ⟨z2, e2', _, _⟩ := DataW.trod_int Tryz.underlying3 g2
      obtain ⟨xi, ni, _, _, _, hleni, hxi⟩ := DataW.trod_struct Tryz.underlying31 g3
      have hl2 : xi.length = 2 := hleni
      obtain ⟨i0, i1, rfl⟩ := two hl2
      have f0 : DataW.trod enc Tryz.prog W base spare held ni 3 ((((cs.drop 3).take 2).drop 0).take (Tryz.prog.cellsOf 3)) = some i0 := hxi 0 _ rfl
      have f1 : DataW.trod enc Tryz.prog W base spare held ni 3 ((((cs.drop 3).take 2).drop 1).take (Tryz.prog.cellsOf 3)) = some i1 := hxi 1 _ rfl
      rw [c1, cut_mid _ _ _ _ _ (by omega)] at f0 f1
      obtain ⟨z3, e3, _, _⟩ := DataW.trod_int Tryz.underlying3 f0
      obtain ⟨z4, e4, _, _⟩ := DataW.trod_int Tryz.underlying3 f1
      have h23 : ((cs.drop 5).take 23).toArray.size = 23 := by simp; omega
      have hfr := frame_of_trod (cs := ((cs.drop 5).take 23).toArray) h23 (by simpa using g4)
      have e5 : (cs.drop 5).take 23 = (fCells (numAt ((cs.drop 5).take 23).toArray)).toList := by
        have := congrArg Array.toList hfr
        simpa using this
      obtain ⟨ba, bl, bc, bs, e6, hbl, hib⟩ := bytes_of_trod g5
      refine ⟨cs, ⟨z0, z1, z2, z3, z4, numAt ((cs.drop 5).take 23).toArray, ba, bl, bc, bs⟩, hlen, fun k hk => by rw [← hcell k hk, add_add], ?_, hib, hbl⟩
      have part : ∀ (i : Nat) (v : Value), (cs.drop i).take 1 = [v] → cs.drop i = v :: cs.drop (i + 1) := fun i v h => by
        cases hd : cs.drop i with
        | nil => rw [hd] at h; simp at h
        | cons u r =>
          rw [hd] at h
          simp at h
          rw [h, show cs.drop (i + 1) = r by rw [← List.drop_drop, hd]; rfl]
      have p0 := part 0 _ e0
      have p1 := part 1 _ e1'
      have p2 := part 2 _ e2'
      have p3 := part 3 _ e3
      have p4 := part 4 _ e4
      have p28 := part 28 _ e6
      have p5 : cs.drop 5 = (cs.drop 5).take 23 ++ cs.drop 28 := by
        have h := (List.take_append_drop 23 (cs.drop 5)).symm
        rw [List.drop_drop] at h
        exact h
      have p29 : cs.drop 29 = [] := List.drop_eq_nil_of_le (by omega)
      have hcs : cs = cs.drop 0 := rfl
      unfold sdL
      conv => lhs; rw [hcs, p0, p1, p2, p3, p4, p5, p28, p29, e5]
      simp
    obtain ⟨cs, X, hlen, hcell, rfl, hib, hbl⟩ := each i hi
    obtain ⟨cs0, X0, hlen0, hcell0, rfl, _, _⟩ := each 0 (by omega)
    obtain ⟨b, off, spot⟩ := ad
    have hspot : spot = none := by
      have := hcell0 0 (by omega)
      simpa [Addr.add] using World.cell?_spot this
    subst hspot
    have hc : ∀ k, k < 29 → W.cell? ⟨b, off + (i * 29 + k), none⟩ = (sdL X)[k]? := fun k hk => by rw [← hcell k hk, add_plain]
    refine ⟨b, off, X, rfl, World.block_lt_of_cell? _ _ (hc 0 (by omega)), fun j v hv => ?_, hib, hbl⟩
    have hj : j < 29 := by have := (List.getElem?_eq_some_iff.1 hv).1; rw [sdL_len] at this; exact this
    rw [show off + i * 29 + j = off + (i * 29 + j) by omega, hc j hj, hv]
end
end Go.Proofs.YtaablbmgagiajabGreatDoor
