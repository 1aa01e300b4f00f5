import Derived.Test.YtaablbmgagiajabGreatDoorPGAZ
import Derived.Deep.LoopGhost
import Derived.Deep.RegionHeld
namespace Go.Proofs.YtaablbmgagiajabGreatDoor
open Go.RowKit Go.Deep
theorem at0_in {l : List Int} (h : ∀ x ∈ l, 0 ≤ x ∧ x ≤ 1048576) (k : Nat) : 0 ≤ at0 l k ∧ at0 l k ≤ 1048576 := by
  unfold at0
  cases e : l[k]? with
  | none => show (0 : Int) ≤ 0 ∧ (0 : Int) ≤ 1048576; omega
  | some x => exact h x (List.mem_of_getElem? e)
theorem framed_in {l : List Int} (h : ∀ x ∈ l, 0 ≤ x ∧ x ≤ 1048576) (k : Nat) : 0 ≤ framedF l k ∧ framedF l k ≤ 1048576 := by
  have a := at0_in h
  unfold framedF
  split
  · unfold inF; repeat' split
    all_goals first | exact a _ | omega
  · split
    · unfold votF; repeat' split
      all_goals first | exact a _ | omega
    · split
      · unfold knownF; repeat' split
        all_goals first | exact a _ | omega
      · unfold startF; repeat' split
        all_goals first | exact a _ | omega
theorem may_in {F : FR} (h : mayB F = true) (k : Nat) (hk : k < 23) : 0 ≤ F k ∧ F k ≤ 1048576 := by
  obtain ⟨_, h2, h3⟩ := may_parts h
  rw [h3 k hk]
  exact framed_in h2 k
theorem dec_in {l : List Nat} (h : (decF l).1 = 0) : FIn (decF l).2 := by
  rcases dec_cases l with ⟨h1, _⟩ | ⟨_, h2, _⟩
  · exact absurd h h1
  · intro k hk
    have := may_in h2 k hk
    omega
section
variable {w : World} {N win : Nat} {D : SC} {L : RC} {S : SY}
theorem SyIs.pkRange (h : SyIs w N D L win S) {g n cap i : Nat} (hnv : D.nv = .slice (some ⟨g, 0, none⟩) n cap) (hi : i < S.net.length) : w.rangeAt g (i * 3) [.int .i64 ((pkAt S.net i).src : Int), .int .i64 ((pkAt S.net i).dst : Int), D.us[i]?.getD undef] := by
  intro j v hv
  have hj : j < 3 := (List.getElem?_eq_some_iff.1 hv).1
  rcases h.net.row.2 with ⟨e, _⟩ | ⟨g', cap', cur, e, h1, h2, h3, h4, h5, h6⟩
  · rw [hnv] at e; simp at e
  · rw [hnv] at e
    simp only [Value.slice.injEq, Option.some.injEq, Addr.mk.injEq, and_true] at e
    obtain ⟨rfl, _, rfl⟩ := e
    have e2 := pkL_at S.net D.us i j h.net.len hi hj
    rw [blk_cell h2, ← Array.getElem?_toList]
    rw [← h6, List.getElem?_take, if_pos (by omega)] at e2
    rw [e2]
    exact hv
end
theorem infoPacket3 : (Tryz.prog.info? 134).map (·.size) = some 3 := by kernel_rfl
theorem takeT_from (L : RC) (F : FR) (R : RS) : ∀ G ∈ takeT L F R, G 1 = (R.id : Int) := by
  intro G hG
  unfold takeT at hG
  split at hG
  · unfold doneT at hG
    split at hG
    · simp at hG
    · split at hG
      · rw [List.mem_singleton.1 hG]
        show ((doneR L F R).id : Int) = _
        unfold doneR
        split
        · rfl
        · split <;> rfl
      · simp at hG
  · split at hG
    · simp at hG
    · split at hG
      · rw [List.mem_singleton.1 hG]; rfl
      · simp at hG
theorem takeT_few (L : RC) (F : FR) (R : RS) : (takeT L F R).length ≤ 1 := by
  unfold takeT
  split
  · unfold doneT
    split
    · simp
    · split <;> simp
  · split
    · simp
    · split <;> simp
theorem SyGo.keeps {w w' : World} {N win : Nat} {D : SC} {L : RC} {S : SY} (h : SyGo w w' N D L win S) {k : Nat} (hk : ¬ Wr D k) (hlt : k < w.heap.size) : w'.heap[k]? = w.heap[k]? := by
  obtain ⟨_, _, _, hm, _⟩ := h
  exact hm.block k hlt hk
theorem SyIs.net7 {w : World} {N win : Nat} {D : SC} {L : RC} {S : SY} (h : SyIs w N D L win S) : ∃ a cap, w.cell? ⟨D.p, 7, none⟩ = some (.slice a S.net.length cap) := by
  obtain ⟨a, cap, hnv⟩ := h.net.shape
  exact ⟨a, cap, (h.at 7).trans (by show some D.nv = _; rw [hnv])⟩
def CSeen (L : RC) (W : Seen) (liar : Nat) (S : SY) : Prop := ∀ k, k < 3 → k ≠ liar → ∀ n : Nat, (S.rp k).cycle ≤ n → SeenN W k n (fitN L.s (S.rp k).sx) (fitN L.n (S.rp k).sy)
structure ClInv (L : RC) (W : Seen) (liar win T : Nat) (S : SY) : Prop where
  inv : SInv L W liar win T S
  seen : CSeen L W liar S
section
variable {L : RC} {W : Seen} {liar win T n k : Nat} {S : SY}
theorem takeS_sees (F : FR) (R : RS) : (takeS L F R).sx = R.sx ∧ (takeS L F R).sy = R.sy := by
  unfold takeS
  split
  · unfold doneR
    split
    · exact ⟨rfl, rfl⟩
    · split <;> exact ⟨rfl, rfl⟩
  · split
    · exact ⟨rfl, rfl⟩
    · split
      · exact ⟨rfl, rfl⟩
      · split
        · exact ⟨rfl, rfl⟩
        · split
          · unfold learnR
            split <;> exact ⟨rfl, rfl⟩
          · exact ⟨rfl, rfl⟩
theorem CSeen.arrive (h : CSeen L W liar S) (i : Nat) : CSeen L W liar (arriveSy L win i S) := by
  intro k hk hl n hn
  have key : (S.rp k).cycle ≤ ((arriveSy L win i S).rp k).cycle ∧ ((arriveSy L win i S).rp k).sx = (S.rp k).sx ∧ ((arriveSy L win i S).rp k).sy = (S.rp k).sy := by
    unfold arriveSy comeSy
    split
    · exact ⟨Int.le_refl _, rfl, rfl⟩
    · split
      · exact ⟨Int.le_refl _, rfl, rfl⟩
      · show (S.rp k).cycle ≤ (upd S.rp _ _ k).cycle ∧ (upd S.rp _ _ k).sx = _ ∧ (upd S.rp _ _ k).sy = _
        by_cases e : k = (pkAt S.net i).dst
        · rw [← e, upd_same]; exact ⟨takeS_cycle _ _, takeS_sees _ _⟩
        · rw [upd_other _ _ e]; exact ⟨Int.le_refl _, rfl, rfl⟩
  rw [key.2.1, key.2.2]
  exact h k hk hl n (Int.le_trans key.1 hn)
theorem ClInv.runAll (hL : LOk L) : ∀ (m : Nat) (S : SY), ClInv L W liar win T S → ClInv L W liar win T (runAll L win m S)
  | 0, _, h => h
  | m + 1, S, h => by
    cases hnet : S.net with
    | nil => rw [runAll_nil hnet]; exact h
    | cons p l => exact ClInv.runAll hL m _ ⟨(h.inv.arrive hL (by rw [hnet]; simp)).1, h.seen.arrive 0⟩
theorem ClInv.tick (h : ClInv L W liar win T S) (hk : k < 3) : ClInv L W liar win (T + 1) (tickSy L k S) := by
  obtain ⟨n, c1, _⟩ := (h.inv.rp k hk).cyc
  refine ⟨h.inv.tick hk c1 fun hl => h.seen k hk hl n (by omega), fun j hj hl n hn => ?_⟩
  have key : ((tickSy L k S).rp j).cycle = (S.rp j).cycle ∧ ((tickSy L k S).rp j).sx = (S.rp j).sx ∧ ((tickSy L k S).rp j).sy = (S.rp j).sy := by
    show (upd S.rp k _ j).cycle = _ ∧ (upd S.rp k _ j).sx = _ ∧ (upd S.rp k _ j).sy = _
    by_cases e : j = k
    · subst e; rw [upd_same]; exact ⟨rfl, rfl, rfl⟩
    · rw [upd_other _ _ e]; exact ⟨rfl, rfl, rfl⟩
  rw [key.2.1, key.2.2]
  exact h.seen j hj hl n (by rw [key.1] at hn; exact hn)
theorem ClInv.vtick (h : ClInv L W liar win T S) : ClInv L W liar win T (vtickSy S) := ⟨h.inv.vtick, h.seen⟩
def tickTo (L : RC) (S : SY) : Nat → SY
  | 0 => S
  | k + 1 => tickSy L k (tickTo L S k)
end
theorem SyIs.vt6 {w : World} {N win : Nat} {D : SC} {L : RC} {S : SY} (h : SyIs w N D L win S) : w.cell? ⟨D.p, 6, none⟩ = some (.pointer (some ⟨D.vp, 0, none⟩)) := (h.at 6).trans rfl
section
variable {W : Seen} {liar T : Nat}
theorem many_any (N : Nat) (D : SC) (L : RC) (win : Nat) (S : SY) (w : World) (h : SyIs w N D L win S) :
    Calls Tryz.prog 30 #[.pointer (some ⟨D.p, 0, none⟩)] w fun e w' => e = .returned (.int .i64 (S.net.length : Int)) ∧ w' = w := by
  obtain ⟨a, cap, c7⟩ := h.net7
  clear h
  go_enter Tryz.func30, Tryz.ntmps30
  go_wp2
  go_ret
  exact ⟨rfl, rfl⟩
theorem isRep_lt {k : Nat} (hk : k < 3) : isRep (k : Int) = true := by unfold isRep; simp; omega
end
end Go.Proofs.YtaablbmgagiajabGreatDoor
