import Derived.Test.YtaablbmgagiajaaGreatDoorTGBJ
namespace Go.Proofs.YtaablbmgagiajaaGreatDoor
open Go.RowKit Go.Deep
set_option maxHeartbeats 1000000 in
set_option maxRecDepth 20000 in
theorem says_any (N : Nat) (D : SC) (L : RC) (win : Nat) (S : SY) (w : World) (k dst : Nat) (a : Option Addr) (len cap : Nat) (l : List Nat) (hk : k < 3) (hd : dst ≤ 3) (hkd : k ≠ dst) (h : SyIs w N D L win S) (hb : IsB w a len cap l) (hl : len ≤ 1000) (hle : S.net.length ≤ 120) (hN : N ≤ w.heap.size) :
    Calls Tryz.prog 33 #[.pointer (some ⟨D.p, 0, none⟩), .int .i64 (k : Int), .int .i64 (dst : Int), .slice a len cap] w fun e w' => (∃ v, e = .returned v) ∧ SyGo w w' N D L win (if len ≤ 80 then putSy ⟨k, dst, l⟩ S else S) := by
  have HR1 := hide (sysRep_any (k : Int) w)
  rw [isRep_lt hk] at HR1
  have HR2 := hide (sysRep_any (dst : Int) w)
  have hne : ((k : Int) == (dst : Int)) = false := by simp; omega
  have hpost : ∀ (b : Bool), isRep (dst : Int) = b → (!b && ((dst : Int) != 3)) = false := by
    rintro b rfl
    unfold isRep
    rcases (by omega : dst = 0 ∨ dst = 1 ∨ dst = 2 ∨ dst = 3) with rfl | rfl | rfl | rfl <;> rfl
  by_cases h80 : len ≤ 80
  · rw [if_pos h80]
    have h80' : ¬ (80 : Int) < (len : Int) := by omega
    have HC : Hid (Calls Tryz.prog 65 #[.slice a len cap] w fun e w1 => ∃ va vn vc, e = .returned (.slice va vn vc) ∧ Hid (Calls Tryz.prog 58 #[.pointer (some ⟨D.p, 0, none⟩), .agg #[.int .i64 (k : Int), .int .i64 (dst : Int), .slice va vn vc]] w1 fun e w' => e = .returned (.tuple #[]) ∧ SyGo w w' N D L win (putSy ⟨k, dst, l⟩ S))) := hide (by
      refine (cloneB_any a len cap l w hb hl).mono ?_
      rintro e w1 ⟨⟨v, rfl, hv⟩, hB⟩
      have hbs : BytesIs w1 v l := bytes_own hb.2.2.1 (by rw [hb.1]; exact hv)
      obtain ⟨va, vc, hve⟩ : ∃ va vc, v = .slice va l.length vc := by obtain ⟨_, x, c, e, _⟩ := hbs; exact ⟨x, c, e⟩
      subst hve
      refine ⟨va, _, vc, rfl, hide ?_⟩
      refine (syput_any N D L win S w1 ⟨k, dst, l⟩ _ (h.below hB) hbs (Nat.le_trans hN hB.size) hle).mono ?_
      rintro e w2 ⟨rfl, hg⟩
      exact ⟨rfl, hg.pre hB⟩)
    cases hr : isRep (dst : Int)
    · rw [hr] at HR2
      have h3 : ((dst : Int) != 3) = false := by simpa using hpost false hr
      clear h hb hpost hr
      go_enter Tryz.func33, Tryz.ntmps33
      go_wp2_with fail
      refine HR1.out.mono ?_
      rintro e wz ⟨rfl, rfl⟩
      go_wp2_with fail
      refine HR2.out.mono ?_
      rintro e wz ⟨rfl, rfl⟩
      go_wp2_with fail
      refine HC.out.mono ?_
      rintro e w1 ⟨va, vn, vc, rfl, HP⟩
      go_wp2_with fail
      refine HP.out.mono ?_
      rintro e w2 ⟨rfl, hg⟩
      go_wp2
      go_ret
      exact ⟨⟨_, rfl⟩, hg⟩
    · rw [hr] at HR2
      clear h hb hpost hr
      go_enter Tryz.func33, Tryz.ntmps33
      go_wp2_with fail
      refine HR1.out.mono ?_
      rintro e wz ⟨rfl, rfl⟩
      go_wp2_with fail
      refine HR2.out.mono ?_
      rintro e wz ⟨rfl, rfl⟩
      go_wp2_with fail
      refine HC.out.mono ?_
      rintro e w1 ⟨va, vn, vc, rfl, HP⟩
      go_wp2_with fail
      refine HP.out.mono ?_
      rintro e w2 ⟨rfl, hg⟩
      go_wp2
      go_ret
      exact ⟨⟨_, rfl⟩, hg⟩
  · rw [if_neg h80]
    have h80' : (80 : Int) < (len : Int) := by omega
    have HG := hide h.goes
    cases hr : isRep (dst : Int)
    · rw [hr] at HR2
      have h3 : ((dst : Int) != 3) = false := by simpa using hpost false hr
      clear h hb hpost hr
      go_enter Tryz.func33, Tryz.ntmps33
      go_wp2_with fail
      refine HR1.out.mono ?_
      rintro e wz ⟨rfl, rfl⟩
      go_wp2_with fail
      refine HR2.out.mono ?_
      rintro e wz ⟨rfl, rfl⟩
      go_wp2
      go_ret
      exact ⟨⟨_, rfl⟩, HG.out⟩
    · rw [hr] at HR2
      clear h hb hpost hr
      go_enter Tryz.func33, Tryz.ntmps33
      go_wp2_with fail
      refine HR1.out.mono ?_
      rintro e wz ⟨rfl, rfl⟩
      go_wp2_with fail
      refine HR2.out.mono ?_
      rintro e wz ⟨rfl, rfl⟩
      go_wp2
      go_ret
      exact ⟨⟨_, rfl⟩, HG.out⟩
def syC (L : RC) (g0 c0 : Nat) (r : Nat → Value) (v nv lo : Value) : Array Value := #[.int .i64 (L.s : Int), .slice (some ⟨g0, 0, none⟩) L.n c0, .int .i64 (L.d : Int), r 0, r 1, r 2, v, nv, lo]
theorem syC_put (L : RC) (g0 c0 : Nat) (r : Nat → Value) (v nv lo u : Value) {k : Nat} (hk : k < 3) : (syC L g0 c0 r v nv lo).setIfInBounds (3 + k) u = syC L g0 c0 (upd r k u) v nv lo := by
  rcases (by omega : k = 0 ∨ k = 1 ∨ k = 2) with rfl | rfl | rfl <;> rfl
theorem syC_at (L : RC) (g0 c0 : Nat) (r : Nat → Value) (v nv lo : Value) {k : Nat} (hk : k < 3) : (syC L g0 c0 r v nv lo)[3 + k]? = some (r k) := by
  rcases (by omega : k = 0 ∨ k = 1 ∨ k = 2) with rfl | rfl | rfl <;> rfl
def FromB (B q : Nat) (C : RC) : Prop := B ≤ q ∧ B ≤ C.pc ∧ B ≤ C.g ∧ B ≤ C.M ∧ B ≤ C.g2
set_option maxHeartbeats 1000000 in
set_option maxRecDepth 20000 in
theorem crash_low (p g0 c0 : Nat) (L : RC) (r : Nat → Value) (v nv lo : Value) (k : Nat) (w : World) (hk : k < 3) (hL : LOk L) (hb : w.heap[p]? = some (.cells (syC L g0 c0 r v nv lo) 79 (0, 0))) (hrow : Row w g0 0 L.zs) (hlt : g0 < w.heap.size) (hcap : L.n ≤ c0) :
    Calls Tryz.prog 31 #[.pointer (some ⟨p, 0, none⟩), .int .i64 (k : Int)] w fun e w' => e = .returned .nilIface ∧ ∃ q C, FromB w.heap.size q C ∧ LineIs C L ∧ RpIs w' q C (new0 k) ∧ w'.heap[p]? = some (.cells (syC L g0 c0 (upd r k (.pointer (some ⟨q, 0, none⟩))) v nv lo) 79 (0, 0)) ∧ Mod w w' (· = p) := by
  have c0' : w.cell? ⟨p, 0, none⟩ = some (.int .i64 (L.s : Int)) := (blk_cell hb 0).trans rfl
  have c1 : w.cell? ⟨p, 1, none⟩ = some (.slice (some ⟨g0, 0, none⟩) L.n c0) := (blk_cell hb 1).trans rfl
  have c2 : w.cell? ⟨p, 2, none⟩ = some (.int .i64 (L.d : Int)) := (blk_cell hb 2).trans rfl
  have hk' : (k : Int) < 3 := by omega
  have hpl := blk_lt hb
  have hcall : Calls Tryz.prog 61 #[.int .i64 (k : Int), .agg #[.int .i64 (L.s : Int), .slice (some ⟨g0, 0, none⟩) L.n c0, .int .i64 (L.d : Int)]] w fun e w1 => ∃ q C, e = .returned (.tuple #[.pointer (some ⟨q, 0, none⟩), .nilIface]) ∧ (w1.cell? ⟨p, 3 + k, none⟩ = some (r k) ∧ w1.frozen? ⟨p, 3 + k, none⟩ = false) ∧
      Hid (FromB w.heap.size q C ∧ LineIs C L ∧ RpIs (w1.setCell ⟨p, 3 + k, none⟩ (.pointer (some ⟨q, 0, none⟩))) q C (new0 k) ∧ (w1.setCell ⟨p, 3 + k, none⟩ (.pointer (some ⟨q, 0, none⟩))).heap[p]? = some (.cells (syC L g0 c0 (upd r k (.pointer (some ⟨q, 0, none⟩))) v nv lo) 79 (0, 0)) ∧ Mod w (w1.setCell ⟨p, 3 + k, none⟩ (.pointer (some ⟨q, 0, none⟩))) (· = p)) := by
    refine (rnew_ok k L.s L.d g0 0 L.n c0 L.zs w hk hL.len hL.ok hlt hrow hcap).mono ?_
    rintro e w1 ⟨⟨q, C, q1, q2, q3, q4, q5, e1, e2, e3, e4, rfl, hR⟩, hB⟩
    have hb1 := (hB.block p hpl).trans hb
    have hm : Mod w1 (w1.setCell ⟨p, 3 + k, none⟩ (.pointer (some ⟨q, 0, none⟩))) (· = p) := (Mod.refl _ _).set _ _ (fun _ => rfl)
    refine ⟨q, C, rfl, ⟨(blk_cell hb1 _).trans (syC_at L g0 c0 r v nv lo hk), blk_free hb1 _⟩, hide ⟨⟨q1, q2, q3, q4, q5⟩, ⟨e1, e2, e3, e4⟩, hR.other hm ⟨by omega, by omega, by omega, by omega, by omega⟩, ?_, (Mod.ofBelow hB _).set _ _ (fun _ => rfl)⟩⟩
    rw [blk_set hb1, syC_put _ _ _ _ _ _ _ _ hk]
  have HC := hide hcall
  clear hcall hb hrow hL
  go_enter Tryz.func31, Tryz.ntmps31
  go_wp2_with fail
  refine HC.out.mono ?_
  rintro e w1 ⟨q, C, rfl, ⟨z0, z1⟩, HM⟩
  go_wp2
  go_ret
  exact ⟨rfl, q, C, HM.out⟩
theorem syCells_eq (D : SC) (L : RC) : syCells D L = syC L D.g0 D.c0 (fun j => .pointer (some ⟨D.rp j, 0, none⟩)) (.pointer (some ⟨D.vp, 0, none⟩)) D.nv (.int .i64 D.lost) := rfl
theorem upd_ptr (rp : Nat → Nat) (k q : Nat) : upd (fun j => Value.pointer (some ⟨rp j, 0, none⟩)) k (.pointer (some ⟨q, 0, none⟩)) = fun j => .pointer (some ⟨upd rp k q j, 0, none⟩) := by
  funext j
  unfold upd
  split <;> rfl
theorem crash_any (N : Nat) (D : SC) (L : RC) (win : Nat) (S : SY) (w : World) (k : Nat) (hk : k < 3) (hL : LOk L) (h : SyIs w N D L win S) (hN : N ≤ w.heap.size) :
    Calls Tryz.prog 31 #[.pointer (some ⟨D.p, 0, none⟩), .int .i64 (k : Int)] w fun e w' => e = .returned .nilIface ∧ SyGo w w' N D L win (crashSy k S) := by
  refine (crash_low D.p D.g0 D.c0 L _ _ _ _ k w hk hL (by rw [← syCells_eq]; exact h.blk) h.row h.lt0 h.cap0).mono ?_
  rintro e w' ⟨rfl, q, C, hF, hl, hR, hb, hm⟩
  refine ⟨rfl, ?_⟩
  obtain ⟨f1, f2, f3, f4, f5⟩ := hF
  rw [upd_ptr] at hb
  have hT : ∀ j, j = D.p → Wr D j := fun j hj => .inl hj
  obtain ⟨_, ⟨h2, h3⟩, h4, h5, h6⟩ := h.part hm hT
  have hw : ∀ x, Wr ⟨D.p, D.g0, D.c0, upd D.rp k q, upd D.C k C, D.vp, D.tv, D.nv, D.us, D.lost⟩ x → Wr D x ∨ x = q := fun x hx => by
    rcases hx with y | y | ⟨j, hj, y⟩ | y | y
    · exact .inl (.inl y)
    · exact .inl (.inr (.inl y))
    · by_cases e : j = k
      · right
        have y' : x = upd D.rp k q j := y
        rw [e, upd_same] at y'; exact y'
      · left
        have y' : x = upd D.rp k q j := y
        rw [upd_other _ _ e] at y'
        exact .inr (.inr (.inl ⟨j, hj, y'⟩))
    · exact .inl (.inr (.inr (.inr (.inl y))))
    · exact .inl (.inr (.inr (.inr (.inr y))))
  have hs : ∀ y, Sta ⟨D.p, D.g0, D.c0, upd D.rp k q, upd D.C k C, D.vp, D.tv, D.nv, D.us, D.lost⟩ y → Sta D y ∨ (y = C.pc ∨ y = C.g ∨ y = C.M ∨ y = C.g2) := fun y hy => by
    rcases hy with z | ⟨j, hj, z⟩
    · exact .inl (.inl z)
    · by_cases e : j = k
      · right
        have z' : y = (upd D.C k C j).pc ∨ y = (upd D.C k C j).g ∨ y = (upd D.C k C j).M ∨ y = (upd D.C k C j).g2 := z
        rw [e, upd_same] at z'; exact z'
      · left
        have z' : y = (upd D.C k C j).pc ∨ y = (upd D.C k C j).g ∨ y = (upd D.C k C j).M ∨ y = (upd D.C k C j).g2 := z
        rw [upd_other _ _ e] at z'
        exact .inr ⟨j, hj, z'⟩
  have hlt : ∀ j, j < 3 → D.rp j < w.heap.size := fun j hj => (h.tyR hj).lt
  refine ⟨⟨D.p, D.g0, D.c0, upd D.rp k q, upd D.C k C, D.vp, D.tv, D.nv, D.us, D.lost⟩, rfl, ⟨hb, h2, h3, h.cap0, fun j hj => ?_, fun j hj => ?_, fun i j hi hj hij => ?_, h5 fun x hx e => ?_, h6 fun g hg e => (h.ne7 g hg) e, fun x y hx hy e => ?_, fun x hx => ?_, fun y hy => ?_⟩, hm.mono fun i _ hi => hT i hi, fun x hx => (hw x hx).imp id fun e => by omega, fun y hy => (hs y hy).imp id fun e => by omega⟩
  · show RpIs w' (upd D.rp k q j) (upd D.C k C j) (upd S.rp k (new0 k) j)
    by_cases e : j = k
    · rw [e, upd_same, upd_same, upd_same]; exact hR
    · rw [upd_other _ _ e, upd_other _ _ e, upd_other _ _ e]; exact h4 j hj (fun x => (h.tyR hj).ne h.tyP (by decide) x)
  · show LineIs (upd D.C k C j) L
    by_cases e : j = k
    · rw [e, upd_same]; exact hl
    · rw [upd_other _ _ e]; exact h.ln j hj
  · show upd D.rp k q i ≠ upd D.rp k q j
    have li := hlt i hi
    have lj := hlt j hj
    by_cases e : i = k
    · rw [e, upd_same, upd_other _ _ (by omega)]; omega
    · rw [upd_other _ _ e]
      by_cases e2 : j = k
      · rw [e2, upd_same]; omega
      · rw [upd_other _ _ e2]; exact h.ne i j hi hj hij
  · rcases hx with hx | hx
    · exact h.tyV.ne h.tyP (by decide) (hx.symm.trans e)
    · exact (h.tyT hx).ne h.tyP (by decide) e
  · rcases hw x hx with a | a
    · rcases hs y hy with b | b
      · exact h.sep x y a b e
      · have := h.wrLt a
        omega
    · rcases hs y hy with b | b
      · have := h.staLt b
        omega
      · have := hR.ap
        omega
  · rcases hw x hx with a | a
    · exact h.base x a
    · omega
  · rcases hs y hy with b | b
    · exact h.sbase y b
    · omega
def sy0 (win : Nat) : SY := ⟨fun k => new0 k, vs0 win, []⟩
structure NwInv (w wr : World) (L : RC) (p g0 c0 k : Nat) (rp : Nat → Nat) (C : Nat → RC) (B : Nat → Nat) : Prop where
  old : Below w.heap.size w wr
  blk : wr.heap[p]? = some (.cells (syC L g0 c0 (fun j => if j < k then .pointer (some ⟨rp j, 0, none⟩) else .pointer none) (.pointer none) (.slice none 0 0) (.int .i64 0)) 79 (0, 0))
  row : Row wr g0 0 L.zs
  lo0 : w.heap.size ≤ g0 ∧ g0 < p
  cap : L.n ≤ c0
  rp : ∀ j, j < k → RpIs wr (rp j) (C j) (new0 j) ∧ LineIs (C j) L ∧ FromB (B j) (rp j) (C j) ∧ (rp j < B (j + 1) ∧ (C j).pc < B (j + 1) ∧ (C j).g < B (j + 1) ∧ (C j).M < B (j + 1) ∧ (C j).g2 < B (j + 1))
  B0 : p < B 0
  Bk : B k ≤ wr.heap.size
  mono : ∀ j, j < k → B j ≤ B (j + 1)
theorem NwInv.Ble {w wr : World} {L : RC} {p g0 c0 k : Nat} {rp : Nat → Nat} {C : Nat → RC} {B : Nat → Nat} (h : NwInv w wr L p g0 c0 k rp C B) {i : Nat} : ∀ {j : Nat}, i ≤ j → j ≤ k → B i ≤ B j
  | 0, hij, _ => by rw [show i = 0 by omega]; exact Nat.le_refl _
  | j + 1, hij, hj => by
    by_cases e : i = j + 1
    · rw [e]; exact Nat.le_refl _
    · exact Nat.le_trans (h.Ble (j := j) (by omega) (by omega)) (h.mono j (by omega))
theorem NwInv.next {w wr w' : World} {L : RC} {p g0 c0 k : Nat} {rp : Nat → Nat} {C : Nat → RC} {B : Nat → Nat} (h : NwInv w wr L p g0 c0 k rp C B) (hw : w.heap.size ≤ p) {q : Nat} {C1 : RC} (hF : FromB wr.heap.size q C1) (hl : LineIs C1 L) (hR : RpIs w' q C1 (new0 k))
    (hb : w'.heap[p]? = some (.cells (syC L g0 c0 (upd (fun j => if j < k then .pointer (some ⟨rp j, 0, none⟩) else .pointer none) k (.pointer (some ⟨q, 0, none⟩))) (.pointer none) (.slice none 0 0) (.int .i64 0)) 79 (0, 0))) (hm : Mod wr w' (· = p)) :
    NwInv w w' L p g0 c0 (k + 1) (upd rp k q) (upd C k C1) (upd (upd B k wr.heap.size) (k + 1) w'.heap.size) := by
  have hpl := blk_lt h.blk
  have hBk := h.Bk
  have hB0 := h.B0
  have hg := h.lo0
  have hBle : ∀ j, j ≤ k → B j ≤ wr.heap.size := fun j hj => Nat.le_trans (h.Ble hj (Nat.le_refl _)) hBk
  have hpB : ∀ j, j ≤ k → p < B j := fun j hj => Nat.lt_of_lt_of_le hB0 (h.Ble (Nat.zero_le _) hj)
  have hub : ∀ j, j < k → upd (upd B k wr.heap.size) (k + 1) w'.heap.size j = B j := fun j hj => by rw [upd_other _ _ (by omega), upd_other _ _ (by omega)]
  have huk : upd (upd B k wr.heap.size) (k + 1) w'.heap.size k = wr.heap.size := by rw [upd_other _ _ (by omega), upd_same]
  have huk1 : upd (upd B k wr.heap.size) (k + 1) w'.heap.size (k + 1) = w'.heap.size := upd_same _ _ _
  have hfn : (fun j => if j < k + 1 then Value.pointer (some ⟨upd rp k q j, 0, none⟩) else .pointer none) = upd (fun j => if j < k then .pointer (some ⟨rp j, 0, none⟩) else .pointer none) k (.pointer (some ⟨q, 0, none⟩)) := by
    funext j
    unfold upd
    by_cases e : j = k
    · rw [if_pos e, if_pos e, if_pos (by omega)]
    · rw [if_neg e, if_neg e]
      show (if j < k + 1 then _ else _) = (if j < k then _ else _)
      by_cases e2 : j < k
      · rw [if_pos e2, if_pos (by omega)]
      · rw [if_neg e2, if_neg (by omega)]
  refine ⟨⟨hm.os.trans h.old.os, hm.tape.trans h.old.tape, hm.output.trans h.old.output, Nat.le_trans h.old.size hm.size, fun j hj => (hm.block j (Nat.lt_of_lt_of_le hj h.old.size) (by omega)).trans (h.old.block j hj)⟩, by rw [hfn]; exact hb, fun i hi => (World.cell?_of_block (w := wr) (hm.block g0 (by omega) (by omega))).trans (h.row i hi), h.lo0, h.cap, fun j hj => ?_, ?_, by rw [huk1]; exact Nat.le_refl _, fun j hj => ?_⟩
  · by_cases e : j = k
    · subst e
      rw [upd_same, upd_same, huk, huk1]
      exact ⟨hR, hl, hF, hR.lt, hR.core.plt, hR.core.glt, hR.core.mlt, hR.lt2⟩
    · obtain ⟨a1, a2, a3, a4, a5, a6, a7, a8⟩ := h.rp j (by omega)
      rw [upd_other _ _ e, upd_other _ _ e, hub j (by omega)]
      have hj1 : B (j + 1) ≤ upd (upd B k wr.heap.size) (k + 1) w'.heap.size (j + 1) := by
        by_cases e2 : j + 1 = k
        · rw [e2, huk]; exact hBk
        · rw [hub _ (by omega)]; exact Nat.le_refl _
      have hp := hpB j (by omega)
      obtain ⟨b1, b2, b3, b4, b5⟩ := a3
      exact ⟨a1.other hm ⟨by omega, by omega, by omega, by omega, by omega⟩, a2, ⟨b1, b2, b3, b4, b5⟩, by omega, by omega, by omega, by omega, by omega⟩
  · by_cases e : k = 0
    · subst e; rw [huk]; omega
    · rw [hub 0 (by omega)]; exact hB0
  · by_cases e : j = k
    · subst e; rw [huk, huk1]; exact hm.size
    · rw [hub j (by omega)]
      by_cases e2 : j + 1 = k
      · rw [e2, huk]; exact hBle j (by omega)
      · rw [hub _ (by omega)]; exact h.mono j (by omega)
theorem NwInv.done {w wr w' : World} {L : RC} {p g0 c0 win vp : Nat} {rp : Nat → Nat} {C : Nat → RC} {B : Nat → Nat} (h : NwInv w wr L p g0 c0 3 rp C B) (hw : w.heap.size ≤ p) (hB : Below wr.heap.size wr w') (hvp : vp = wr.heap.size) (hV : VIs w' wr.heap.size vp win (.slice none 0 0) (vs0 win)) (N : Nat) (hN : N ≤ w.heap.size) :
    SyIs (w'.setCell ⟨p, 6, none⟩ (.pointer (some ⟨vp, 0, none⟩))) N ⟨p, g0, c0, rp, C, vp, .slice none 0 0, .slice none 0 0, [], 0⟩ L win (sy0 win) ∧ Below w.heap.size w (w'.setCell ⟨p, 6, none⟩ (.pointer (some ⟨vp, 0, none⟩))) := by
  have hpl := blk_lt h.blk
  have hm : Mod w' (w'.setCell ⟨p, 6, none⟩ (.pointer (some ⟨vp, 0, none⟩))) (· = p) := (Mod.refl _ _).set _ _ (fun _ => rfl)
  have hb1 := (hB.block p hpl).trans h.blk
  have hg := h.lo0
  have hB0 := h.B0
  have hpB : ∀ j, j ≤ 3 → p < B j := fun j hj => Nat.lt_of_lt_of_le hB0 (h.Ble (Nat.zero_le _) hj)
  have hBw : ∀ j, j ≤ 3 → B j ≤ wr.heap.size := fun j hj => Nat.le_trans (h.Ble hj (Nat.le_refl _)) h.Bk
  have hcr : ∀ j, j < 3 → RpIs wr (rp j) (C j) (new0 j) := fun j hj => (h.rp j hj).1
  refine ⟨⟨?_, fun i hi => (World.cell?_of_block (w := w') (hm.block g0 (Nat.lt_of_lt_of_le (by omega) hB.size) (by omega))).trans (h.row.below (B := wr.heap.size) (by omega) hB i hi), by rw [show (w'.setCell ⟨p, 6, none⟩ (.pointer (some ⟨vp, 0, none⟩))).heap.size = w'.heap.size by simp [World.setCell]]; exact Nat.lt_of_lt_of_le (show g0 < wr.heap.size by omega) hB.size, h.cap, fun k hk => ?_, fun k hk => (h.rp k hk).2.1, fun i j hi hj hij => ?_, ?_, ⟨World.ownsRow_nil _ _ _ _, rfl, fun i hi => by simp [sy0] at hi⟩, fun x y hx hy e => ?_, fun x hx => ?_, fun y hy => ?_⟩, ?_⟩
  · rw [blk_set hb1]
    rfl
  · obtain ⟨a1, _, ⟨b1, b2, b3, b4, b5⟩, _⟩ := h.rp k hk
    have hp := hpB k (by omega)
    exact (a1.below hB).other hm ⟨by omega, by omega, by omega, by omega, by omega⟩
  · obtain ⟨_, _, ⟨b1, _⟩, u1, _⟩ := h.rp i hi
    obtain ⟨_, _, ⟨c1, _⟩, v1, _⟩ := h.rp j hj
    show rp i ≠ rp j
    rcases (by omega : i < j ∨ j < i) with e | e
    · have := h.Ble (i := i + 1) (j := j) (by omega) (by omega); omega
    · have := h.Ble (i := j + 1) (j := i) (by omega) (by omega); omega
  · refine ⟨?_, World.ownsRow_nil _ _ _ _, by show N ≤ vp; omega⟩
    exact (hm.block vp hV.lt (by omega)).trans hV.blk
  · have hx' : x = p ∨ (∃ j, j < 3 ∧ x = rp j) ∨ x = vp := by
      rcases hx with z | z | z | z | z
      · exact .inl z
      · simp [Value.ownBlock] at z
      · exact .inr (.inl z)
      · exact .inr (.inr z)
      · simp [Value.ownBlock] at z
    rcases hx' with rfl | ⟨j, hj, rfl⟩ | rfl
    · rcases hy with hy | ⟨i, hi, hy⟩
      · have hy' : y = g0 := hy
        omega
      · obtain ⟨_, _, ⟨b1, b2, b3, b4, b5⟩, _⟩ := h.rp i hi
        have hp := hpB i (by omega)
        have hy' : y = (C i).pc ∨ y = (C i).g ∨ y = (C i).M ∨ y = (C i).g2 := hy
        omega
    · obtain ⟨a1, _, ⟨b1, _⟩, u1, _⟩ := h.rp j hj
      have hp := hpB j (by omega)
      rcases hy with hy | ⟨i, hi, hy⟩
      · have hy' : y = g0 := hy
        omega
      · obtain ⟨_, _, ⟨d1, d2, d3, d4, d5⟩, f1, f2, f3, f4, f5⟩ := h.rp i hi
        have hy' : y = (C i).pc ∨ y = (C i).g ∨ y = (C i).M ∨ y = (C i).g2 := hy
        rcases (by omega : i = j ∨ i < j ∨ j < i) with rfl | e2 | e2
        · have := a1.ap; omega
        · have := h.Ble (i := i + 1) (j := j) (by omega) (by omega); omega
        · have := h.Ble (i := j + 1) (j := i) (by omega) (by omega); omega
    · rcases hy with hy | ⟨i, hi, hy⟩
      · have hy' : y = g0 := hy
        omega
      · obtain ⟨_, _, _, f1, f2, f3, f4, f5⟩ := h.rp i hi
        have := hBw (i + 1) (by omega)
        have hy' : y = (C i).pc ∨ y = (C i).g ∨ y = (C i).M ∨ y = (C i).g2 := hy
        omega
  · rcases hx with z | z | ⟨j, hj, z⟩ | z | z
    · have z' : x = p := z
      omega
    · simp [Value.ownBlock] at z
    · obtain ⟨_, _, ⟨b1, _⟩, _⟩ := h.rp j hj
      have hp := hpB j (by omega)
      have z' : x = rp j := z
      omega
    · have z' : x = vp := z
      omega
    · simp [Value.ownBlock] at z
  · rcases hy with hy | ⟨i, hi, hy⟩
    · have hy' : y = g0 := hy
      omega
    · obtain ⟨_, _, ⟨b1, b2, b3, b4, b5⟩, _⟩ := h.rp i hi
      have hp := hpB i (by omega)
      have hy' : y = (C i).pc ∨ y = (C i).g ∨ y = (C i).M ∨ y = (C i).g2 := hy
      omega
  · exact (h.old.trans (hB.mono h.old.size)).setCell hw _
set_option maxHeartbeats 2000000 in
set_option maxRecDepth 20000 in
theorem synew_any (N : Nat) (L : RC) (win b off cap : Nat) (w : World) (hL : LOk L) (h1 : 1 ≤ win) (h2 : win ≤ 20) (hb : b < w.heap.size) (hrow : Row w b off L.zs) (hN : N ≤ w.heap.size) :
    Calls Tryz.prog 16 #[.agg #[.int .i64 (L.s : Int), .slice (some ⟨b, off, none⟩) L.n cap, .int .i64 (L.d : Int)], .int .i64 (win : Int)] w fun e w' => (∃ D, e = .returned (.tuple #[.pointer (some ⟨D.p, 0, none⟩), .nilIface]) ∧ w.heap.size ≤ D.p ∧ SyIs w' N D L win (sy0 win)) ∧ Below w.heap.size w w' := by
  have hf := hL.few
  obtain ⟨W, hW⟩ : ∃ W, Hid (w.alloc (.cells #[.int .i64 (L.s : Int), .slice (some ⟨b, off, none⟩) L.n cap, .int .i64 (L.d : Int)] 41) = W) := ⟨_, hide rfl⟩
  have hB0 : Below w.heap.size w W := by rw [← hW.out]; exact (Below.refl _ _).alloc (Nat.le_refl _) _
  have hbx : W.heap[w.heap.size]? = some (.cells #[.int .i64 (L.s : Int), .slice (some ⟨b, off, none⟩) L.n cap, .int .i64 (L.d : Int)] 41 (0, 0)) := by rw [← hW.out]; exact blk_new _ _
  have HC : Hid (Calls Tryz.prog 41 #[.slice (some ⟨b, off, none⟩) L.n cap] W fun e w1 => ∃ g cg, e = .returned (.slice (some ⟨g, 0, none⟩) L.n cg) ∧ (w1.cell? ⟨w.heap.size, 1, none⟩ = some (.slice (some ⟨b, off, none⟩) L.n cap) ∧ w1.frozen? ⟨w.heap.size, 1, none⟩ = false ∧ w1.cell? ⟨w.heap.size, 0, none⟩ = some (.int .i64 (L.s : Int)) ∧ w1.cell? ⟨w.heap.size, 2, none⟩ = some (.int .i64 (L.d : Int))) ∧
      Hid ((w1.setCell ⟨w.heap.size, 1, none⟩ (.slice (some ⟨g, 0, none⟩) L.n cg)).heap[w.heap.size]? = some (.cells #[.int .i64 (L.s : Int), .slice (some ⟨g, 0, none⟩) L.n cg, .int .i64 (L.d : Int)] 41 (0, 0)) ∧ Row (w1.setCell ⟨w.heap.size, 1, none⟩ (.slice (some ⟨g, 0, none⟩) L.n cg)) g 0 L.zs ∧ w.heap.size < g ∧ g < (w1.setCell ⟨w.heap.size, 1, none⟩ (.slice (some ⟨g, 0, none⟩) L.n cg)).heap.size ∧ L.n ≤ cg ∧ Below w.heap.size w (w1.setCell ⟨w.heap.size, 1, none⟩ (.slice (some ⟨g, 0, none⟩) L.n cg)))) := hide (by
    refine (clone_any b off L.n cap L.zs W hL.len (by omega) (by omega) (Nat.lt_of_lt_of_le hb hB0.size) (hrow.below hb hB0)).mono ?_
    rintro e w1 ⟨⟨g, cg, g1, g2, g3, rfl, g4⟩, hB⟩
    have hlt := blk_lt hbx
    have hb1 := (hB.block _ hlt).trans hbx
    refine ⟨g, cg, rfl, ⟨(blk_cell hb1 1).trans rfl, blk_free hb1 1, (blk_cell hb1 0).trans rfl, (blk_cell hb1 2).trans rfl⟩, hide ⟨(blk_set hb1 1 _).trans rfl, fun i hi => (World.cell?_of_block (w := w1) (Below.heap_setCell _ _ _ _ (by show g ≠ w.heap.size; omega))).trans (g4 i hi), by omega, by simp [World.setCell]; exact g2, g3, ?_⟩⟩
    exact (hB0.trans (hB.mono hB0.size)).setCell (Nat.le_refl _) _)
  have x1 : W.cell? ⟨w.heap.size, 1, none⟩ = some (.slice (some ⟨b, off, none⟩) L.n cap) := (blk_cell hbx 1).trans rfl
  have HL := hide hL
  clear hrow hbx hB0 hL
  go_enter Tryz.func16, Tryz.ntmps16
  go_wp2_with fail
  rw [show w.alloc (.cells #[.int .i64 (L.s : Int), .slice (some ⟨b, off, none⟩) L.n cap, .int .i64 (L.d : Int)] 41) = W from hW.out]
  refine HC.out.mono ?_
  rintro e w1 ⟨g, cg, rfl, ⟨z0, z1, z2, z3⟩, HM⟩
  clear HC x1 hW
  go_wp2_with fail
  have HS12 : Hid ((w1.setCell ⟨w.heap.size, 1, none⟩ (.slice (some ⟨g, 0, none⟩) L.n cg)).heap.size = w1.heap.size) := by rw [Hid]; simp [World.setCell]
  generalize w1.setCell ⟨w.heap.size, 1, none⟩ (.slice (some ⟨g, 0, none⟩) L.n cg) = w2 at HM HS12 ⊢
  obtain ⟨hb2, hr2, hg1, hg2, hcg, hB2⟩ := HM.out
  have HST : Hid (∃ rp C B, NwInv w (w2.alloc (.cells #[.int .i64 (L.s : Int), .slice (some ⟨g, 0, none⟩) L.n cg, .int .i64 (L.d : Int), .pointer none, .pointer none, .pointer none, .pointer none, .slice none 0 0, .int .i64 0] 79)) L w1.heap.size g cg 0 rp C B) := hide (by rw [← HS12.out]; exact ⟨fun _ => 0, fun _ => L, fun _ => w2.heap.size + 1, hB2.alloc hB2.size _, blk_new _ _, hr2.below (B := w2.heap.size) hg2 ((Below.refl _ _).alloc (Nat.le_refl _) _), ⟨by omega, hg2⟩, hcg, fun j hj => absurd hj (by omega), by omega, by simp, fun j hj => absurd hj (by omega)⟩)
  have hsz : w.heap.size ≤ w1.heap.size := by rw [← HS12.out]; exact hB2.size
  clear HM hb2 hr2 hcg hB2 z0 z1 z2 z3
  go_loopw [18] (fun j wr => ∃ k : Nat, k ≤ 3 ∧ j = .int .i64 k ∧ ∃ rp C B, NwInv w wr L w1.heap.size g cg k rp C B) (fun j _ => 3 - (intOf j).toNat)
  case atStart => exact ⟨0, by omega, rfl, HST.out⟩
  case round =>
    obtain ⟨k, hk, rfl, rp, C, B, hI⟩ := hrel
    clear HST
    have hlt := blk_lt hI.blk
    by_cases hk3 : k < 3
    · have hk' : (k : Int) < 3 := by omega
      have HCR : Hid (Calls Tryz.prog 31 #[.pointer (some ⟨w1.heap.size, 0, none⟩), .int .i64 (k : Int)] wr fun e w' => e = .returned .nilIface ∧ Hid (∃ rp C B, NwInv w w' L w1.heap.size g cg (k + 1) rp C B)) := hide (by
        refine (crash_low w1.heap.size g cg L _ _ _ _ k wr hk3 HL.out hI.blk hI.row (by have := hI.lo0; omega) hI.cap).mono ?_
        rintro e w' ⟨rfl, q, C1, hF, hl, hR, hb, hm⟩
        exact ⟨rfl, hide ⟨_, _, _, hI.next hsz hF hl hR hb hm⟩⟩)
      clear hI
      go_wp2_with fail
      refine HCR.out.mono ?_
      rintro e w3 ⟨rfl, HR⟩
      go_wp2
      go_roundw
      case rel => exact ⟨k + 1, by omega, by go_num, HR.out⟩
      case measure => simp [intOf]; omega
    · have e3 : k = 3 := by omega
      subst e3
      have HV : Hid (Calls Tryz.prog 46 #[.int .i64 (win : Int)] wr fun e w' => e = .returned (.tuple #[.pointer (some ⟨wr.heap.size, 0, none⟩), .nilIface]) ∧ (w'.cell? ⟨w1.heap.size, 6, none⟩ = some (.pointer none) ∧ w'.frozen? ⟨w1.heap.size, 6, none⟩ = false) ∧ Hid (SyIs (w'.setCell ⟨w1.heap.size, 6, none⟩ (.pointer (some ⟨wr.heap.size, 0, none⟩))) N ⟨w1.heap.size, g, cg, rp, C, wr.heap.size, .slice none 0 0, .slice none 0 0, [], 0⟩ L win (sy0 win) ∧ Below w.heap.size w (w'.setCell ⟨w1.heap.size, 6, none⟩ (.pointer (some ⟨wr.heap.size, 0, none⟩))))) := hide (by
        refine (vnew_ok win wr h1 h2).mono ?_
        rintro e w' ⟨rfl, hV, _, hB⟩
        have hb1 := (hB.block _ hlt).trans hI.blk
        exact ⟨rfl, ⟨(blk_cell hb1 6).trans rfl, blk_free hb1 6⟩, hide (hI.done hsz hB rfl hV N hN)⟩)
      clear hI
      go_wp2_with fail
      refine HV.out.mono ?_
      rintro e w4 ⟨rfl, ⟨q0, q1⟩, HE⟩
      go_wp2
      go_ret2
      exact ⟨⟨_, rfl, hsz, HE.out.1⟩, HE.out.2⟩
set_option maxHeartbeats 1000000 in
set_option maxRecDepth 20000 in
theorem bwithin_any (many a what t m : Nat) (w : World) (hw : what < 4294967296) (h : what = 2 ^ (t + 1) * m + 2 ^ t) (hm : many ≤ 100000) (ha : a ≤ 100000) (hT : HasTab w) :
    Calls Tryz.prog 78 #[.int .i64 (many : Int), .int .i64 (a : Int), .int .u32 (what : Int)] w fun e w' => e = .returned (.bool (decide (a + (31 - t) < many))) ∧ w' = w := by
  have ht := low_lt hw h
  have h0 : what ≠ 0 := by have := Nat.two_pow_pos t; omega
  have h0' : ((what : Int) == 0) = false := by simpa using h0
  have ha0 : ¬ (a : Int) < 0 := by omega
  have HTZ := hide (tz_any what t m w hw h hT)
  by_cases ham : many ≤ a
  · have ham' : (many : Int) ≤ (a : Int) := by omega
    have e : decide (a + (31 - t) < many) = false := decide_eq_false (by omega)
    rw [e]
    clear h hT e
    go_enter Tryz.func78, Tryz.ntmps78
    go_wp2
    go_ret
    exact ⟨rfl, rfl⟩
  · have ham' : ¬ (many : Int) ≤ (a : Int) := by omega
    have e1 : IntKind.i64.wrap ((a : Int) + 32) = (a : Int) + 32 := by rw [IntKind.wrap_i64]; omega
    have e2 : IntKind.i64.wrap ((a : Int) + 32 - 1) = (a : Int) + 31 := by rw [IntKind.wrap_i64]; omega
    have e3 : IntKind.i64.wrap ((a : Int) + 31 - (t : Int)) = ((a + (31 - t) : Nat) : Int) := by rw [IntKind.wrap_i64]; omega
    obtain ⟨q, hq⟩ : ∃ q, Hid (a + (31 - t) = q) := ⟨_, hide rfl⟩
    rw [hq.out] at e3
    clear h hT
    go_enter Tryz.func78, Tryz.ntmps78
    go_wp2_with fail
    refine HTZ.out.mono ?_
    rintro e wz ⟨rfl, rfl⟩
    go_wp2
    go_ret
    exact ⟨by rw [hq.out]; rfl, rfl⟩
theorem wBit_le {what t m k : Nat} (h : what = 2 ^ (t + 1) * m + 2 ^ t) (hk : k < 32) (hb : wBit what k = true) : k + t ≤ 31 := by
  unfold wBit at hb
  rw [low_bits h] at hb
  split at hb
  · have := of_decide_eq_true hb; omega
  · omega
theorem some_flip {l : List Nat} {a what t m : Nat} (h : what = 2 ^ (t + 1) * m + 2 ^ t) (ht : t < 32) (hin : a + (31 - t) < 8 * l.length) : someTo l a what 32 = true := by
  have key : ∀ n, 31 - t < n → n ≤ 32 → someTo l a what n = true := by
    intro n
    induction n with
    | zero => intro h; omega
    | succ n ih =>
      intro h1 h2
      unfold someTo
      by_cases e : n = 31 - t
      · rw [if_pos]
        rw [e]
        unfold wBit
        rw [show 31 - (31 - t) = t by omega, low_bits h, if_pos (by omega), decide_eq_true rfl, decide_eq_true hin]
        rfl
      · split
        · rfl
        · exact ih (by omega) (by omega)
  exact key 32 (by omega) (Nat.le_refl _)
theorem shl_bit {what k : Nat} (hk : k < 32) (b : Bool) (hb : wBit what k = b) : (what * 2 ^ k % 4294967296) / 2147483648 = if b then 1 else 0 := by
  unfold wBit at hb
  have e1 : what * 2 ^ k % 4294967296 / 2147483648 = what / 2 ^ (31 - k) % 2 := by
    have h1 : (4294967296 : Nat) = 2 ^ k * 2 ^ (32 - k) := by rw [← Nat.pow_add, show k + (32 - k) = 32 by omega]
    have h2 : (2147483648 : Nat) = 2 ^ k * 2 ^ (31 - k) := by rw [← Nat.pow_add, show k + (31 - k) = 31 by omega]
    rw [h1, Nat.mul_comm what, Nat.mul_mod_mul_left, h2, Nat.mul_div_mul_left _ _ (Nat.two_pow_pos k), show 32 - k = (31 - k) + 1 by omega, Nat.pow_succ, Nat.mod_mul_right_div_self]
  rw [e1, testBit_eq, hb]
theorem shl_test {what k : Nat} (hk : k < 32) {b : Bool} (hb : wBit what k = b) : ((what : Int) * 2 ^ k % 4294967296 / 2147483648 == 1) = b := by
  have e : (what : Int) * 2 ^ k % 4294967296 / 2147483648 = ((what * 2 ^ k % 4294967296 / 2147483648 : Nat) : Int) := by simp
  rw [e, shl_bit hk b hb]
  cases b <;> rfl
theorem ownB_at {w : World} {base : Nat} {v : Value} {l : List Nat} (hlt : ∀ c ∈ l, c < 256) (h0 : 0 < l.length) (h : w.ownsRow base 5 1 v l.length (u8s l)) : ∃ g cp, v = .slice (some ⟨g, 0, none⟩) l.length cp ∧ OwnB w base g l.length cp l := by
  have ho := h
  rcases h.2 with ⟨_, h0'⟩ | ⟨g, cap, cur, rfl, _⟩
  · omega
  · exact ⟨g, cap, rfl, ho, rfl, hlt⟩
set_option maxHeartbeats 1000000 in
set_option maxRecDepth 20000 in
theorem bof_no (ba : Option Addr) (n cap : Nat) (a what t m : Nat) (w : World) (hn : n ≤ 200) (hw : what < 4294967296) (h : what = 2 ^ (t + 1) * m + 2 ^ t) (ha : a ≤ 100000) (hT : HasTab w) (hin : ¬ a + (31 - t) < 8 * n) :
    Calls Tryz.prog 59 #[.slice ba n cap, .int .i64 (a : Int), .int .u32 (what : Int)] w fun e w' => e = .returned (.tuple #[.slice none 0 0, .iface 81 (.int .i64 1)]) ∧ w' = w := by
  have HWI := hide (bwithin_any (8 * n) a what t m w hw h (by omega) ha hT)
  have e8 : IntKind.i64.wrap (8 * (n : Int)) = ((8 * n : Nat) : Int) := by rw [IntKind.wrap_i64]; omega
  rw [decide_eq_false hin] at HWI
  clear h hT hin
  generalize 8 * n = n8 at HWI e8
  go_enter Tryz.func59, Tryz.ntmps59
  go_wp2_with fail
  refine HWI.out.mono ?_
  rintro e wz ⟨rfl, rfl⟩
  go_wp2
  go_ret2
  exact ⟨rfl, rfl⟩
set_option maxHeartbeats 4000000 in
set_option maxRecDepth 20000 in
theorem bof_in (ba : Option Addr) (n cap : Nat) (l : List Nat) (a what t m : Nat) (w : World) (hb : IsB w ba n cap l) (hn : n ≤ 200) (hw : what < 4294967296) (h : what = 2 ^ (t + 1) * m + 2 ^ t) (ha : a ≤ 100000) (hT : HasTab w) (hin : a + (31 - t) < 8 * n) :
    Calls Tryz.prog 59 #[.slice ba n cap, .int .i64 (a : Int), .int .u32 (what : Int)] w fun e w' => (∃ v, e = .returned (.tuple #[v, .nilIface]) ∧ w'.ownsRow w.heap.size 5 1 v n (u8s (flipTo l a what 32))) ∧ Below w.heap.size w w' := by
  have HWI := hide (bwithin_any (8 * n) a what t m w hw h (by omega) ha hT)
  have e8 : IntKind.i64.wrap (8 * (n : Int)) = ((8 * n : Nat) : Int) := by rw [IntKind.wrap_i64]; omega
  rw [decide_eq_true hin] at HWI
  have HCL := hide (cloneB_any ba n cap l w hb (by omega))
  have hln := hb.1
  have hlt := hb.2.2.1
  have HH := hide h
  have HLT := hide hlt
  have HLN := hide hln
  have hn0 : 0 < n := by omega
  have HIN : Hid (∀ k, k < 32 → wBit what k = true → a + k < 8 * n) := hide fun k hk hb => by have := wBit_le h hk hb; have := low_lt hw h; omega
  clear hb h hT hlt hln hin
  generalize hn8 : 8 * n = n8 at HWI e8
  have HN8 := hide hn8
  clear hn8
  go_enter Tryz.func59, Tryz.ntmps59
  go_wp2_with fail
  refine HWI.out.mono ?_
  rintro e wz ⟨rfl, rfl⟩
  go_wp2_with fail
  refine HCL.out.mono ?_
  rintro e w1 ⟨⟨v, rfl, hv⟩, hB1⟩
  obtain ⟨g, cp, rfl, hO⟩ := ownB_at (l := l) HLT.out (by rw [HLN.out]; exact hn0) (by rw [HLN.out]; exact hv)
  rw [HLN.out] at hO ⊢
  have hgs := hO.parts
  have HST : Hid (Below wz.heap.size wz w1 ∧ OwnB w1 wz.heap.size g n cp (flipTo l a what 0)) := hide ⟨hB1, hO⟩
  have hs1 := hB1.size
  clear HWI HCL hv hO hB1
  go_wp2_with fail
  go_loopw [20] (fun j wr => ∃ k : Nat, k ≤ 32 ∧ j = .int .i64 k ∧ Below wz.heap.size wz wr ∧ OwnB wr wz.heap.size g n cp (flipTo l a what k)) (fun j _ => 32 - (intOf j).toNat)
  case atStart => exact ⟨0, by omega, rfl, HST.out⟩
  case round =>
    obtain ⟨k, hk, rfl, hB, hI⟩ := hrel
    clear HST
    by_cases hk3 : k < 32
    · have hk' : (k : Int) < 32 := by omega
      cases hwk : wBit what k
      · have hsb := shl_test hk3 hwk
        have HNO : Hid (flipTo l a what (k + 1) = flipTo l a what k) := hide (flip_no (l := l) (a := a) (what := what) (k := k) (by rw [hwk]; rfl)).1
        have HB := hide hB
        have HI := hide hI
        clear hB hI hwk
        go_wp2
        go_roundw
        case rel => exact ⟨k + 1, by omega, by go_num, HB.out, by rw [HNO.out]; exact HI.out⟩
        case measure => simp [intOf]; omega
      · have hsb := shl_test hk3 hwk
        have hin : a + k < 8 * n := HIN.out k hk3 hwk
        have HYES : Hid (flipTo l a what (k + 1) = flipB (flipTo l a what k) (a + k)) := hide (flip_yes (l := l) (a := a) (what := what) (k := k) (by rw [hwk, HLN.out, decide_eq_true hin]; rfl)).1
        have hq : (a + k) / 8 < n := by omega
        have hc := hI.at (k := (a + k) / 8) hq
        have hf := hI.free ((a + k) / 8)
        obtain ⟨c, hcc⟩ : ∃ c, Hid ((flipTo l a what k)[(a + k) / 8]?.getD 0 = c) := ⟨_, hide rfl⟩
        rw [hcc.out] at hc
        obtain ⟨q, hqq⟩ : ∃ q, Hid ((a + k) / 8 = q) := ⟨_, hide rfl⟩
        rw [hqq.out] at hq hc hf
        obtain ⟨j, hj⟩ : ∃ j, Hid (a + k = j) := ⟨_, hide rfl⟩
        have e1 : IntKind.i64.wrap ((a : Int) + (k : Int)) = (j : Int) := by have := wrap_small (a + k) (by omega); rw [Int.natCast_add] at this; rw [this, ← hj.out]; omega
        obtain ⟨r, hr⟩ : ∃ r, Hid (j % 8 = r) := ⟨_, hide rfl⟩
        obtain ⟨p, hp⟩ : ∃ p, Hid (2 ^ (7 - r) = p) := ⟨_, hide rfl⟩
        obtain ⟨c2, hc2⟩ : ∃ c2, Hid (c ^^^ p = c2) := ⟨_, hide rfl⟩
        have e2 : IntKind.i64.wrap ((j : Int) / 8) = (q : Int) := by
          have := wrap_small (j / 8) (by have := hj.out; omega)
          rw [Int.natCast_ediv] at this
          rw [← hqq.out, hj.out]
          exact this
        have e3 : (j : Int).tmod 8 = (r : Int) := by rw [Int.tmod_eq_emod_of_nonneg (by omega), ← hr.out]; omega
        have e4 : (128 : Int) / 2 ^ min r 8 = (p : Int) := shr128 r p (by have := hr.out; omega) hp.out
        have e5 : bits BinOp.xor IntKind.u8 (c : Int) (p : Int) = (c2 : Int) := by
          rw [← hc2.out]
          exact xor8 c p (by rw [← hcc.out]; exact hI.get_lt _) (by rw [← hp.out]; exact Nat.pow_lt_pow_right (by decide) (by omega))
        have d0 : (0 : Int) ≤ (q : Int) := by omega
        have d1 : (q : Int) < (n : Int) := by omega
        have hc2l : c2 < 256 := by
          rw [← hc2.out]
          exact Nat.xor_lt_two_pow (n := 8) (by rw [← hcc.out]; exact hI.get_lt _) (by rw [← hp.out]; exact Nat.pow_lt_pow_right (by decide) (by omega))
        have R : Below wz.heap.size wz (wr.setCell ⟨g, q, none⟩ (.int .u8 (c2 : Int))).drew ∧ OwnB (wr.setCell ⟨g, q, none⟩ (.int .u8 (c2 : Int))).drew wz.heap.size g n cp (flipTo l a what (k + 1)) := by
          have ho := hI.set q c2 hc2l
          rw [HYES.out, flipB, hcc.out, hj.out, hr.out, hp.out, hc2.out, ← hj.out, hqq.out]
          exact ⟨(hB.setCell (p := ⟨g, q, none⟩) (by show wz.heap.size ≤ g; omega) _).drew, ⟨ho.own.drew, ho.len, ho.lt⟩⟩
        have HR := hide R
        clear R hI hB hwk hin
        go_wp2_with fail
        go_region
        clear hc hf e1 e2 e3 e4 e5
        go_wp2
        go_roundw
        case rel => exact ⟨k + 1, by omega, by go_num, HR.out⟩
        case measure => simp [intOf]; omega
    · have e3 : k = 32 := by omega
      subst e3
      have HE : Hid (wr.ownsRow wz.heap.size 5 1 (.slice (some ⟨g, 0, none⟩) n cp) n (u8s (flipTo l a what 32)) ∧ Below wz.heap.size wz wr) := hide ⟨hI.own, hB⟩
      clear hI hB
      go_wp2
      go_ret2
      exact ⟨⟨_, rfl, HE.out.1⟩, HE.out.2⟩
end Go.Proofs.YtaablbmgagiajaaGreatDoor
