import Derived.Test.YtaablbmgagiajabGreatDoorSGBD
import Derived.Test.YtaablbmgagiajabGreatDoorSGBC
import Derived.RangeFuncCalls
import Derived.Test.YtaablbmgagiajabGreatDoorSGAZ
import Derived.Test.YtaablbmgagiajabGreatDoorSGAX
namespace Go.Proofs.YtaablbmgagiajabGreatDoor
open Go.RowKit Go.Deep
set_option maxHeartbeats 4000000 in
set_option maxRecDepth 100000 in
theorem newDesk_any (w : World) (hn : HasNum w) (h7 : 7 ≤ w.heap.size) :
    Calls Tryz.prog 58 #[] w fun e w' => ∃ N c D, w.heap.size ≤ c.d ∧ e = .returned (.pointer (some ⟨c.d, 0, none⟩)) ∧ DkIs w' N c D L0 10 (sy0 10) ∧ Below w.heap.size w w' := by
  obtain ⟨V, hV⟩ : ∃ V, Hid (w.alloc (.cells #[.int .i64 0, .slice none 0 0, .int .i64 0, .pointer none, .map none] 167) = V) := ⟨_, hide rfl⟩
  have hB0 : Below w.heap.size w V := by rw [← hV.out]; exact (Below.refl _ _).alloc (Nat.le_refl _) _
  have hb0 : V.heap[w.heap.size]? = some (.cells #[.int .i64 0, .slice none 0 0, .int .i64 0, .pointer none, .map none] 167 (0, 0)) := by rw [← hV.out]; exact blk_new _ _
  have hdl := blk_lt hb0
  obtain ⟨d, hd⟩ : ∃ d, Hid (w.heap.size = d) := ⟨_, hide rfl⟩
  have HA : Hid (Calls Tryz.prog 92 #[.pointer (some ⟨d, 0, none⟩)] V fun e w' => ∃ m, e = .returned (.map (some m)) ∧ (w'.cell? ⟨d, 4, none⟩ = some (.map none) ∧ w'.frozen? ⟨d, 4, none⟩ = false) ∧
      Hid (∃ W, w'.setCell ⟨d, 4, none⟩ (.map (some m)) = W ∧ Below w.heap.size w W ∧ d ≤ m ∧ d < W.heap.size ∧ MpIs W m (ordTab d) ∧ W.heap[d]? = some (.cells #[.int .i64 0, .slice none 0 0, .int .i64 0, .pointer none, .map (some m)] 167 (0, 0)))) := hide (by
    refine (allOrders_any d V).mono ?_
    rintro e w' ⟨m, rfl, hm, hM, hB⟩
    rw [hd.out] at hb0 hdl
    have hbw := (hB.block d hdl).trans hb0
    refine ⟨m, rfl, ⟨blk_cell hbw 4, blk_free hbw 4⟩, hide ⟨_, rfl, ?_, by omega, by rw [World.size_setCell]; exact Nat.lt_of_lt_of_le hdl hB.size, ?_, blk_set hbw 4 _⟩⟩
    · exact (hB0.trans (hB.mono hB0.size)).setCell (by rw [hd.out]; exact Nat.le_refl _) _
    · exact hM.same (((Mod.refl w' (· = d)).set ⟨d, 4, none⟩ _ (fun _ => rfl)).block m hM.lt (by show ¬ m = d; omega)))
  have HN := hide hn
  have H7 := hide h7
  have HS := hide hB0.size
  clear hn h7 hB0 hb0 hdl
  go_enter Tryz.func58, Tryz.ntmps58
  go_wp2_with fail
  rw [hV.out, hd.out]
  refine HA.out.mono ?_
  rintro e w1 ⟨m, rfl, ⟨g0, g1⟩, HW⟩
  obtain ⟨W, hW, hBW, hdm, hdW, hM, hbd⟩ := HW.out
  clear HA HW
  go_wp2_with fail
  have HE : Hid (Calls Tryz.prog 93 #[.pointer (some ⟨d, 0, none⟩), .slice (some ⟨W.heap.size, 0, none⟩) 6 6] (W.alloc (.cells #[.int .i64 10, .int .i64 2, .int .i64 4, .int .i64 3, .int .i64 12, .int .i64 6] 3)) fun e w' => e = .returned (.string (txt [98, 101, 103, 105, 110])) ∧ Hid (∃ N c D, c.d = d ∧ DkIs w' N c D L0 10 (sy0 10) ∧ Below w.heap.size w w')) := hide (by
    have hba : Below W.heap.size W (W.alloc (.cells #[.int .i64 10, .int .i64 2, .int .i64 4, .int .i64 3, .int .i64 12, .int .i64 6] 3)) := (Below.refl _ _).alloc (Nat.le_refl _) _
    have hbn : (W.alloc (.cells #[.int .i64 10, .int .i64 2, .int .i64 4, .int .i64 3, .int .i64 12, .int .i64 6] 3)).heap[W.heap.size]? = some (.cells #[.int .i64 10, .int .i64 2, .int .i64 4, .int .i64 3, .int .i64 12, .int .i64 6] 3 (0, 0)) := blk_new _ _
    have hsl := (isSl_new W [10, 2, 4, 3, 12, 6] 6 rfl).2.2
    have hrow : Row (W.alloc (.cells #[.int .i64 10, .int .i64 2, .int .i64 4, .int .i64 3, .int .i64 12, .int .i64 6] 3)) W.heap.size 0 [10, 2, 4, 3, 12, 6] := by
      rcases hsl with e | ⟨b, o, e1, _, hr⟩
      · cases e
      · simp only [Option.some.injEq, Addr.mk.injEq] at e1
        obtain ⟨rfl, rfl, _⟩ := e1
        exact hr
    generalize (W.alloc (.cells #[.int .i64 10, .int .i64 2, .int .i64 4, .int .i64 3, .int .i64 12, .int .i64 6] 3)) = X at hba hbn hrow ⊢
    refine (begin0 X d m W.heap.size ((hba.block d hdW).trans hbd) (blk_lt hbn) hrow).mono ?_
    rintro e w' ⟨rfl, D, hS, hb', hm'⟩
    have hlo : Below w.heap.size w w' := (hBW.trans (hba.mono hBW.size)).trans (hm'.toBelow (Nat.le_trans hBW.size hba.size) (fun k hk e => by have := hd.out; omega))
    have hX : W.heap.size < X.heap.size := blk_lt hbn
    refine ⟨rfl, hide ⟨X.heap.size, ⟨d, m, W.heap.size, 3, 3⟩, D, rfl, ⟨hb', fun k hk => ?_, Nat.le_refl _, Nat.lt_trans hdW hX, Nat.lt_trans hM.lt hX, hX, ?_, hm'.size, ?_, ?_, hS⟩, hlo⟩⟩
    · have hk3 : k < 3 := hk
      have h1 := hrow (k + 3) (by simp; omega)
      rw [Nat.zero_add, Nat.add_comm] at h1
      refine ((World.cell?_of_block (w := X) (a := ⟨W.heap.size, 3 + k, none⟩) (hm'.block _ hX (by show ¬ W.heap.size = d; omega))).trans h1).trans ?_
      rw [Nat.add_comm]
      rfl
    · have := H7.out; have := hBW.size; omega
    · exact hM.same ((hm'.block m (Nat.lt_trans hM.lt hX) (by show ¬ m = d; intro e; rw [e] at hM; exact hM.notCells hbd)).trans (hba.block m hM.lt))
    · exact HN.out.below hlo)
  refine HE.out.mono ?_
  rintro e w2 ⟨rfl, hg⟩
  go_wp2
  go_ret
  obtain ⟨N, c, D, hc, h1, h2⟩ := hg.out
  exact ⟨N, c, D, by rw [hc, hd.out]; exact Nat.le_refl _, by rw [hc]; rfl, h1, h2⟩
end Go.Proofs.YtaablbmgagiajabGreatDoor
namespace Go.Proofs.YtaablbmgagiajabGreatDoor
open Go.RowKit Go.Deep
theorem cell_isCells {w : World} {a : Addr} {v : Value} (h : w.cell? a = some v) {o : Obj} (ho : w.heap[a.block]? = some o) : o.isCells = true := by
  unfold World.cell? at h
  rw [ho] at h
  cases o <;> first | rfl | (simp at h)
theorem SyIs.cells {w : World} {N win : Nat} {D : SC} {L : RC} {S : SY} (h : SyIs w N D L win S) (hL : LOk L) {k : Nat} (hk : Wr D k ∨ Sta D k) {o : Obj} (ho : w.heap[k]? = some o) : o.isCells = true := by
  have ty : ∀ {t : TypeId}, TyAt w k t → o.isCells = true := fun ⟨c, f, e⟩ => by rw [e] at ho; cases ho; rfl
  have hf := hL.few
  have hz : 0 < L.zs.length := by rw [hL.len]; omega
  rcases hk with hk | hk
  · rcases hk with rfl | hk | ⟨j, hj, rfl⟩ | rfl | hk
    · exact ty h.tyP
    · exact ty (h.tyN hk)
    · exact ty (h.tyR hj)
    · exact ty h.tyV
    · exact ty (h.tyT hk)
  · rcases hk with rfl | ⟨j, hj, rfl | rfl | rfl | rfl⟩
    · exact cell_isCells (a := ⟨D.g0, 0 + 0, none⟩) (h.row 0 hz) ho
    · have hb := (h.rp j hj).core.blk
      rw [hb] at ho; cases ho; rfl
    · exact cell_isCells (a := ⟨(D.C j).g, 0 + 0, none⟩) ((h.rp j hj).core.row 0 (by rw [(h.ln j hj).zs]; exact hz)) ho
    · exact cell_isCells (a := ⟨(D.C j).M, 0, none⟩) ((h.rp j hj).core.con.cell (by rw [(h.ln j hj).n]; omega)) ho
    · exact cell_isCells (a := ⟨(D.C j).g2, 0 + 0, none⟩) ((h.rp j hj).row 0 (by rw [(h.ln j hj).zs]; exact hz)) ho
theorem BdIs.cells {w : World} {N b : Nat} {v : Value} {l : List UInt8} (h : BdIs w N b v l) {k : Nat} (hk : BdW b v k) {o : Obj} (ho : w.heap[k]? = some o) : o.isCells = true := by
  rcases hk with rfl | hk
  · obtain ⟨p, _, hb⟩ := h.blk
    rw [hb] at ho; cases ho; rfl
  · rcases h.row.2 with ⟨rfl, _⟩ | ⟨g, cap, cur, rfl, _, hg, _⟩
    · simp [Value.ownBlock] at hk
    · simp only [Value.ownBlock, Option.some.injEq] at hk
      subst hk
      rw [hg] at ho; cases ho; rfl
structure SsI (w : World) (B N NB : Nat) (c : DkC) (b bd : Nat) (D : SC) (v : Value) (S : SY) (l : List UInt8) (W : World) : Prop where
  dk : DkIs W N c D L0 10 S
  bl : BdIs W NB b v l
  box : W.heap[bd]? = some (.cells #[.pointer (some ⟨c.d, 0, none⟩)] 100 (0, 0))
  net : S.net = []
  apart : ∀ k, Wr D k ∨ Sta D k → ¬ BdW b v k ∧ k ≠ bd
  own : ¬ BdW b v bd
  lo : N ≤ NB
  low : N ≤ B
  base : NB ≤ W.heap.size
  old : Below w.heap.size w W
  oldB : w.heap.size ≤ B
  oldN : w.heap.size ≤ N
section
variable {w W W' : World} {B N NB b bd : Nat} {c : DkC} {D D' : SC} {v : Value} {S S' : SY} {l : List UInt8}
theorem SsI.bdlt (h : SsI w B N NB c b bd D v S l W) : bd < W.heap.size := blk_lt h.box
theorem SsI.wlt (h : SsI w B N NB c b bd D v S l W) {k : Nat} (hk : BdW b v k) : NB ≤ k ∧ k < W.heap.size := by
  rcases hk with rfl | hk
  · exact ⟨h.bl.ge, h.bl.lt⟩
  · exact h.bl.row.lt k hk
theorem SsI.turn (h : SsI w B N NB c b bd D v S l W) {row : Option Nat} (hg : W.grownBy W' row) (hr : ∀ r, row = some r → B ≤ r ∧ ∃ o : Obj, W.heap[r]? = some o ∧ o.isCells = false) : SsI w B N NB c b bd D v S l W' := by
  have hm : Mod W W' (fun k => row = some k) := ⟨hg.os, hg.tape, hg.output, hg.size, fun k hk ht => hg.block k hk (fun e => ht e.symm)⟩
  have hno : ∀ k, (∀ o : Obj, W.heap[k]? = some o → o.isCells = true) → ¬ row = some k := fun k hc e => by
    obtain ⟨_, o, ho, hf⟩ := hr k e
    rw [hc o ho] at hf
    cases hf
  have hB : ∀ {m : Nat}, m ≤ B → m ≤ W.heap.size → Below m W W' := fun {m} h1 h2 => hm.toBelow h2 fun k hk e => by have := (hr k e).1; omega
  refine ⟨h.dk.others h.net hm (fun k hk => hno k fun o ho => h.dk.sys.cells L0_ok hk ho) (fun k e => Nat.le_trans h.low (hr k e).1), h.bl.mod hm fun k hk => hno k fun o ho => h.bl.cells hk ho, ?_, h.net, h.apart, h.own, h.lo, h.low, Nat.le_trans h.base hg.size, h.old.trans (hB h.oldB h.old.size), h.oldB, h.oldN⟩
  exact (hm.block bd h.bdlt (hno bd fun o ho => by rw [h.box] at ho; cases ho; rfl)).trans h.box
theorem SsI.said (h : SsI w B N NB c b bd D v S l W) (hd : DkIs W' N c D' L0 10 S') (hn : S'.net = []) (hm : Mod W W' (Wr D)) (hg : Gr W.heap.size D D') : SsI w B N NB c b bd D' v S' l W' := by
  refine ⟨hd, h.bl.mod hm fun k hk hw => (h.apart k (.inl hw)).1 hk, (hm.block bd h.bdlt fun hw => (h.apart bd (.inl hw)).2 rfl).trans h.box, hn, fun k hk => ?_, h.own, h.lo, h.low, Nat.le_trans h.base hm.size, h.old.trans (hm.toBelow h.old.size fun k hk hw => by have := h.dk.sys.base k hw; have := h.oldN; omega), h.oldB, h.oldN⟩
  have hor : (Wr D k ∨ Sta D k) ∨ W.heap.size ≤ k := by
    rcases hk with hk | hk
    · exact (hg.wr k hk).imp .inl id
    · exact (hg.st k hk).imp .inr id
  rcases hor with hk | hk
  · exact h.apart k hk
  · exact ⟨fun hw => by have := (h.wlt hw).2; omega, by have := h.bdlt; omega⟩
theorem SsI.wrote (h : SsI w B N NB c b bd D v S l W) {l' : List UInt8} (hg : BdGo W W' NB b v l') : ∃ v', SsI w B N NB c b bd D v' S l' W' := by
  obtain ⟨v', hb, hm, hmv⟩ := hg
  have hw' : ∀ k, BdW b v' k → BdW b v k ∨ W.heap.size ≤ k := fun k hk => by
    rcases hk with rfl | hk
    · exact .inl (.inl rfl)
    · exact (hmv k hk).imp .inr id
  refine ⟨v', h.dk.others h.net hm (fun k hk => (h.apart k hk).1) (fun k hk => Nat.le_trans h.lo (h.wlt hk).1), hb, (hm.block bd h.bdlt h.own).trans h.box, h.net, fun k hk => ⟨fun hw => ?_, (h.apart k hk).2⟩, fun hw => ?_, h.lo, h.low, Nat.le_trans h.base hm.size, h.old.trans (hm.toBelow h.old.size fun k hk hw => by have := (h.wlt hw).1; have := h.oldN; have := h.lo; omega), h.oldB, h.oldN⟩
  · rcases hw' k hw with x | x
    · exact (h.apart k hk).1 x
    · rcases hk with hk | hk
      · have := h.dk.sys.wrLt hk; omega
      · have := h.dk.sys.staLt hk; omega
  · rcases hw' bd hw with x | x
    · exact h.own x
    · have := h.bdlt; omega
end
end Go.Proofs.YtaablbmgagiajabGreatDoor
namespace Go.Proofs.YtaablbmgagiajabGreatDoor
open Go.RowKit Go.Deep
variable {N : Nat} {c : DkC} {D : SC} {S : SY}
def AnsGo (w w' : World) (N : Nat) (c : DkC) (D : SC) (S' : SY) : Prop := ∃ D', DkIs w' N c D' L0 10 S' ∧ Mod w w' (Wr D) ∧ Gr w.heap.size D D'
theorem DkIs.stays {w w' : World} (h : DkIs w N c D L0 10 S) (hB : Below w.heap.size w w') : AnsGo w w' N c D S := ⟨D, h.below hB, Mod.ofBelow hB _, Gr.refl _ _⟩
theorem ans_no {w : World} (line x : List UInt8) (r : List (List UInt8)) (h : DkIs w N c D L0 10 S) (hl : line.length ≤ 1000000) (hw : wordsF line = x :: r) (hk : (ordTab c.d).lookup x = none) :
    Calls Tryz.prog 61 #[.pointer (some ⟨c.d, 0, none⟩), .string (txt line)] w fun e w' => e = .returned (.string (txt (errF 3))) ∧ AnsGo w w' N c D S := by
  refine (answer_no c.d c.m line x r w hl h.atW hw hk).mono ?_
  rintro e w' ⟨he, hB⟩
  exact ⟨he, h.stays hB⟩
theorem ans_tells {w : World} (line x s : List UInt8) (r : List (List UInt8)) (h : DkIs w N c D L0 10 S) (hl : line.length ≤ 1000000) (hw : wordsF line = x :: r) (a b : Int) (f : Nat) (l : List Int) (hk : (ordTab c.d).lookup x = some (ordV c.d a b f)) (ha : a ≤ (r.length : Int)) (hb : (r.length : Int) ≤ b) (hr : sayF r = some l)
    (hef : ∀ args w, (callFunc f args).run Tryz.prog w = .ok (.enter f args) w)
    (hord : ∀ V a, DkIs V N c D L0 10 S → Calls Tryz.prog f #[.pointer (some ⟨c.d, 0, none⟩), a] V fun e V' => e = .returned (.string (txt s)) ∧ Below V.heap.size V V') :
    Calls Tryz.prog 61 #[.pointer (some ⟨c.d, 0, none⟩), .string (txt line)] w fun e w' => e = .returned (.string (txt s)) ∧ AnsGo w w' N c D S := by
  refine (answer_do c.d c.m line x r w hl h.atW hw a b f l hk ha hb hr hef (fun s' V' => s' = s ∧ Below w.heap.size w V') fun V M hB _ _ _ => ?_).mono ?_
  · refine (hord V _ (h.below hB)).mono ?_
    rintro e V' ⟨rfl, hB'⟩
    exact ⟨Mod.ofBelow hB' _, s, ⟨rfl, hB.trans (hB'.mono hB.size)⟩, .inl rfl⟩
  · rintro e w' ⟨s', V', ⟨rfl, hB⟩, rfl, hm⟩
    exact ⟨rfl, h.stays (hB.trans (hm.toBelow hB.size fun k hk e => by omega))⟩
theorem ans_does {w : World} (P : SY → Prop) (line x s : List UInt8) (r : List (List UInt8)) (h : DkIs w N c D L0 10 S) (hl : line.length ≤ 1000000) (hw : wordsF line = x :: r) (a b : Int) (f : Nat) (l : List Int) (hk : (ordTab c.d).lookup x = some (ordV c.d a b f)) (ha : a ≤ (r.length : Int)) (hb : (r.length : Int) ≤ b) (hr : sayF r = some l)
    (hef : ∀ args w, (callFunc f args).run Tryz.prog w = .ok (.enter f args) w)
    (hord : ∀ V M, DkIs V N c D L0 10 S → IsSl V (some ⟨M, 0, none⟩) r.length r.length l → Calls Tryz.prog f #[.pointer (some ⟨c.d, 0, none⟩), .slice (some ⟨M, 0, none⟩) r.length r.length] V fun e V' => e = .returned (.string (txt s)) ∧ ∃ S', P S' ∧ S'.net = [] ∧ SyGo V V' N D L0 10 S') :
    Calls Tryz.prog 61 #[.pointer (some ⟨c.d, 0, none⟩), .string (txt line)] w fun e w' => e = .returned (.string (txt s)) ∧ ∃ S', P S' ∧ AnsGo w w' N c D S' := by
  refine (answer_do c.d c.m line x r w hl h.atW hw a b f l hk ha hb hr hef (fun s' V' => s' = s ∧ ∃ S' D', P S' ∧ S'.net = [] ∧ DkIs V' N c D' L0 10 S' ∧ Mod w V' (Wr D) ∧ ∀ k, (Wr D' k → Wr D k ∨ w.heap.size < k) ∧ (Sta D' k → Sta D k ∨ w.heap.size < k)) fun V M hB hlt hsl _ => ?_).mono ?_
  · refine (hord V M (h.below hB) hsl).mono ?_
    rintro e V' ⟨rfl, S', hP, hn, hg⟩
    obtain ⟨D', hd', hm, hgr⟩ := (h.below hB).went hg
    refine ⟨hm.mono fun k _ hk => h.sys.wrLt hk, s, ⟨rfl, S', D', hP, hn, hd', (Mod.ofBelow hB _).then hm (fun _ _ x => x), fun k => ⟨fun hk => (hgr.wr k hk).imp id (fun e => by omega), fun hk => (hgr.st k hk).imp id (fun e => by omega)⟩⟩, .inl rfl⟩
  · rintro e w' ⟨s', V', ⟨rfl, S', D', hP, hn, hd', hm', hk'⟩, rfl, hm⟩
    have hne : ∀ k, Wr D' k ∨ Sta D' k → ¬ k = w.heap.size := fun k hk e => by
      rcases hk with hk | hk
      · rcases (hk' k).1 hk with x | x
        · have := h.sys.wrLt x; omega
        · omega
      · rcases (hk' k).2 hk with x | x
        · have := h.sys.staLt x; omega
        · omega
    refine ⟨rfl, S', hP, D', hd'.others hn hm hne (fun k e => by rw [e]; exact h.le), hm'.then hm (fun k hk e => by omega), ⟨fun k hk => ((hk' k).1 hk).imp id Nat.le_of_lt, fun k hk => ((hk' k).2 hk).imp id Nat.le_of_lt⟩⟩
end Go.Proofs.YtaablbmgagiajabGreatDoor
namespace Go.Proofs.YtaablbmgagiajabGreatDoor
open Go.RowKit Go.Deep Go.Shelf
attribute [local go_sem] Oper.semAt_some
def AnsOk (t : List UInt8) (Rel : List {x : List UInt8 // x ∈ linesOf t} → SY → List UInt8 → Prop) : Prop :=
  ∀ pre x S l W N c D, Rel pre S l → pre.length < (linesOf t).length → DkIs W N c D L0 10 S → Calls Tryz.prog 61 #[.pointer (some ⟨c.d, 0, none⟩), .string (txt x.1)] W fun e W' =>
    ∃ s S' D', e = .returned (.string (txt s)) ∧ Rel (pre ++ [x]) S' (l ++ s ++ [10]) ∧ DkIs W' N c D' L0 10 S' ∧ Mod W W' (Wr D) ∧ Gr W.heap.size D D'
theorem keeps_mod {B : Nat} {W W' : World} {T : Nat → Prop} (hm : Mod W W' T) (hc : ∀ k, T k → ∀ o : Obj, W.heap[k]? = some o → o.isCells = true) : KeepsFrom B W W' :=
  ⟨hm.size, fun k o _ hk ho => (hm.block k (Array.getElem?_eq_some_iff.1 hk).1 (fun ht => by rw [hc k ht o hk] at ho; cases ho)).trans hk⟩
set_option maxRecDepth 100000 in
set_option maxHeartbeats 4000000 in
theorem session_any (t : List UInt8) (w : World) (ht : t.length ≤ 20000) (hn : HasNum w) (h7 : 7 ≤ w.heap.size) (Rel : List {x : List UInt8 // x ∈ linesOf t} → SY → List UInt8 → Prop) (h0 : Rel [] (sy0 10) [])
    (hnet : ∀ pre S l, Rel pre S l → S.net = [] ∧ l.length ≤ 10000000) (hans : AnsOk t Rel) :
    Calls Tryz.prog 23 #[.string (txt t)] w fun e w' => (∃ xs S l, xs.map Subtype.val = linesOf t ∧ Rel xs S l ∧ e = .returned (.string (txt l))) ∧ Below w.heap.size w w' := by
  have HND := hide (newDesk_any w hn h7)
  have htl : ¬ (20000 : Int) < (t.length : Int) := by omega
  have htl2 : ¬ 20000 < t.length := by omega
  have htd : decide ((20000 : Int) < (t.length : Int)) = false := decide_eq_false htl
  refine (callsIn_wide (n := 3)).1 ?_
  refine callsIn_of_wp_marks Tryz.func23 rfl trivial ?_ rfl
  simp only [Tryz.ntmps23, List.size_toArray, List.length_cons, List.length_nil, Nat.reduceAdd, Nat.reduceSub, Array.replicate_succ, Array.replicate_zero, List.push_toArray, List.append_toArray, List.nil_append, List.cons_append]
  gi_wp2_with fail
  refine ⟨trivial, ?_⟩
  gi_at_call 58
  refine (callsIn_wide.2 HND.out).mono ?_
  rintro e w1 ⟨N, c, D, hcd, rfl, hdk, hB⟩
  clear HND
  have HDK := hide hdk
  have HB := hide hB
  clear hdk hB
  gi_wp2_with fail
  refine ⟨trivial, ?_⟩
  gi_at_call 59
  refine (lines_in _ t _).mono ?_
  rintro e w2 ⟨rfl, rfl⟩
  gi_wp2_with fail
  obtain ⟨W0, hW0⟩ : ∃ W0, Hid (((w1.alloc (.cells #[.pointer (some ⟨c.d, 0, none⟩)] 100)).alloc (.cells #[.pointer none, .slice none 0 0] 104)).alloc (.cells #[.string (txt t)] 9) = W0) := ⟨_, hide rfl⟩
  rw [hW0.out]
  have hsz : W0.heap.size = w1.heap.size + 3 := by rw [← hW0.out]; simp
  have hbt : W0.cell? ⟨w1.heap.size + 1 + 1, 0, none⟩ = some (.string (txt t)) := by
    have hb3 := blk_new ((w1.alloc (.cells #[.pointer (some ⟨c.d, 0, none⟩)] 100)).alloc (.cells #[.pointer none, .slice none 0 0] 104)) (.cells #[.string (txt t)] 9)
    rw [hW0.out, World.size_alloc, World.size_alloc] at hb3
    exact blk_cell hb3 0
  have HS0 : Hid (SsI w W0.heap.size N (w1.heap.size + 1) c (w1.heap.size + 1) w1.heap.size D (.slice none 0 0) (sy0 10) [] W0) := hide (by
    have hB1 : Below w1.heap.size w1 (w1.alloc (.cells #[.pointer (some ⟨c.d, 0, none⟩)] 100)) := (Below.refl _ _).alloc (Nat.le_refl _) _
    have hx1 := blk_new w1 (.cells #[.pointer (some ⟨c.d, 0, none⟩)] 100)
    have hz1 : (w1.alloc (.cells #[.pointer (some ⟨c.d, 0, none⟩)] 100)).heap.size = w1.heap.size + 1 := World.size_alloc _ _
    generalize w1.alloc (.cells #[.pointer (some ⟨c.d, 0, none⟩)] 100) = x1 at hB1 hx1 hz1 hW0
    have hB2 : Below x1.heap.size x1 (x1.alloc (.cells #[.pointer none, .slice none 0 0] 104)) := (Below.refl _ _).alloc (Nat.le_refl _) _
    have hbd := BdIs.new x1
    generalize x1.alloc (.cells #[.pointer none, .slice none 0 0] 104) = x2 at hB2 hbd hW0
    have hB3 : Below x2.heap.size x2 W0 := by rw [← hW0.out]; exact (Below.refl _ _).alloc (Nat.le_refl _) _
    have hB12 := hB1.trans (hB2.mono hB1.size)
    have hBa := hB12.trans (hB3.mono hB12.size)
    have hB23 := hB2.trans (hB3.mono hB2.size)
    rw [hz1] at hbd
    have hle := HDK.out.le
    have hw1 : w.heap.size ≤ N := by have := HDK.out.dlt; omega
    refine ⟨HDK.out.below hBa, hbd.below hB3, (hB23.block _ (by omega)).trans hx1, rfl, fun k hk => ?_, ?_, by omega, by omega, by omega, HB.out.trans (hBa.mono HB.out.size), by omega, hw1⟩
    · have hkl : k < w1.heap.size := by
        rcases hk with hk | hk
        · exact HDK.out.sys.wrLt hk
        · exact HDK.out.sys.staLt hk
      refine ⟨?_, by omega⟩
      rintro (e | e)
      · omega
      · simp [Value.ownBlock] at e
    · rintro (e | e)
      · omega
      · simp [Value.ownBlock] at e)
  clear HDK HB
  have hlt : w1.heap.size + 1 + 1 < W0.heap.size := by omega
  refine wpIn_rangeFunc_ownG rfl (by omega) (gf := 94) (lb := #[.pointer (some ⟨w1.heap.size + 1 + 1, 0, none⟩)]) rfl trivial (enters_of Tryz.func94 (by kernel_rfl) rfl) (lines_stops _ (by omega) (w1.heap.size + 1 + 1) t (by omega) W0 hlt hbt) (fun _ _ => trivial) (fun _ _ _ _ _ _ _ _ => trivial) (Below.refl _ _) (fun _ => rfl)
    (fun pre W => ∃ S l D v, Rel pre S l ∧ SsI w W0.heap.size N (w1.heap.size + 1) c (w1.heap.size + 1) w1.heap.size D v S l W) (fun _ _ _ => False)
    (fun pre A Bw row hs hg hr => by
      obtain ⟨S, l, D, v, h1, h2⟩ := hs
      exact ⟨S, l, D, v, h1, h2.turn hg hr⟩)
    (fun _ _ _ _ _ hs _ _ => hs)
    ⟨sy0 10, [], D, _, h0, HS0.out⟩
    (fun x => { tmps := #[.string (txt t), undef, .string ⟨#[]⟩, .pointer (some ⟨w1.heap.size, 0, none⟩), .pointer (some ⟨w1.heap.size + 1, 0, none⟩), .string (txt x.1), .string (txt t), .int .i64 (t.length : Int), .bool false, undef, undef, .pointer (some ⟨c.d, 0, none⟩), .string (txt t), .func (.func 94) #[] #[.pointer (some ⟨w1.heap.size + 1 + 1, 0, none⟩)], .string (txt x.1), undef, undef, undef, undef, undef, undef], defers := [] }) ?assign ?body ?done ?stop
  case assign =>
    intro l x W K hK
    gi_wp2
    exact hK
  case body =>
    rintro l pre x W ⟨S, la, D, v, hR, hI⟩ hlen
    have c0 : W.cell? ⟨w1.heap.size, 0, none⟩ = some (.pointer (some ⟨c.d, 0, none⟩)) := blk_cell hI.box 0
    have HA := hide (hans pre x S la W N c D hR hlen hI.dk)
    have HI := hide hI
    clear hI
    gi_wp2_with fail
    refine ⟨trivial, ?_⟩
    gi_at_call 61
    refine (CallsIn.inRound l (callsIn_wide.2 HA.out)).mono ?_
    rintro e W1 ⟨s, S', D', rfl, hR', hdk', hm', hg'⟩
    have hnl := hnet _ _ _ hR'
    have hlen2 : la.length + s.length + 1 ≤ 10000000 := by
      have h2 := hnl.2
      simp only [List.length_append, List.length_cons, List.length_nil] at h2
      omega
    have hI1 := HI.out.said hdk' hnl.1 hm' hg'
    have hk1 : KeepsFrom W0.heap.size W W1 := keeps_mod hm' fun k hk o ho => HI.out.dk.sys.cells L0_ok (.inl hk) ho
    have HWS := hide (writeString_any (w1.heap.size + 1) (w1.heap.size + 1) v la s W1 hI1.bl hI1.base (by omega))
    have HI1 := hide hI1
    have HK1 := hide hk1
    have HR' := hide hR'
    clear hI1 hk1 hR' hdk' hm' hg' hnl HA c0
    gi_wp2_with fail
    refine ⟨trivial, ?_⟩
    gi_at_call 60
    refine (CallsIn.inRound l (callsIn_wide.2 HWS.out)).mono ?_
    rintro e W2 ⟨⟨x2, rfl⟩, hg2⟩
    obtain ⟨v2, hI2⟩ := HI1.out.wrote hg2
    have hk2 : KeepsFrom W0.heap.size W1 W2 := by
      obtain ⟨_, _, hm, _⟩ := hg2
      exact keeps_mod hm fun k hk o ho => HI1.out.bl.cells hk ho
    have HWB : Hid (Calls Tryz.prog 62 #[.pointer (some ⟨w1.heap.size + 1, 0, none⟩), .int .u8 10] W2 fun e w' => (∃ x, e = .returned x) ∧ BdGo W2 w' (w1.heap.size + 1) (w1.heap.size + 1) v2 (la ++ s ++ [10])) := hide (writeByte_any (w1.heap.size + 1) (w1.heap.size + 1) v2 (la ++ s) 10 W2 hI2.bl hI2.base (by rw [List.length_append]; omega))
    have HI2 := hide hI2
    have HK2 := hide (HK1.out.trans hk2)
    clear hI2 hk2 hg2 HWS
    gi_wp2_with fail
    refine ⟨trivial, ?_⟩
    gi_at_call 62
    refine (CallsIn.inRound l (callsIn_wide.2 HWB.out)).mono ?_
    rintro e W3 ⟨⟨x3, rfl⟩, hg3⟩
    obtain ⟨v3, hI3⟩ := HI2.out.wrote hg3
    have hk3 : KeepsFrom W0.heap.size W2 W3 := by
      obtain ⟨_, _, hm, _⟩ := hg3
      exact keeps_mod hm fun k hk o ho => HI2.out.bl.cells hk ho
    have HF : Hid (KeepsFrom W0.heap.size W W3 ∧ True ∧ ∃ S l D v, Rel (pre ++ [x]) S l ∧ SsI w W0.heap.size N (w1.heap.size + 1) c (w1.heap.size + 1) w1.heap.size D v S l W3) := hide ⟨HK2.out.trans hk3, trivial, S', _, D', v3, HR'.out, hI3⟩
    clear hI3 hk3 hg3 HWB
    gi_wp2
    exact HF.out
  case done =>
    rintro Dd xs W hDd hxs ⟨S, la, D, v, hR, hI⟩ hK
    have HST := hide (string_any (w1.heap.size + 1) (w1.heap.size + 1) v la W hI.bl hI.base)
    have HO : Hid (∀ w', Below (w1.heap.size + 1) W w' → Below w.heap.size w w') := hide fun w' hB => hI.old.trans (hB.mono (by have := hI.oldN; have := hI.lo; omega))
    have HR := hide hR
    have HX := hide hxs
    clear hI hR hxs
    gi_wp2_with fail
    refine ⟨trivial, ?_⟩
    gi_at_call 63
    refine (callsIn_wide.2 HST.out).mono ?_
    rintro e W9 ⟨rfl, hB9, hd9⟩
    have hK9 := hd9 Dd _ hK
    have HB9 := hide (HO.out W9 hB9)
    clear hK hB9 hd9 HST HO
    gi_wp2
    refine ⟨by simp, .inl ⟨_, _, rfl, run_takeDeferred hK9, ?_⟩⟩
    have hwd : w.heap.size ≤ Dd := Nat.le_trans HS0.out.oldB hDd
    exact ⟨_, results_tmp rfl _ _ _, ⟨xs, S, la, HX.out, HR.out, rfl⟩, HB9.out.trans ((Below.refl _ W9).grown (grownBy_putObj' W9 Dd _) HB9.out.size (fun k e => by cases e; exact hwd))⟩
  case stop =>
    rintro Dd cc pre W _ _ h _
    exact h.elim
end Go.Proofs.YtaablbmgagiajabGreatDoor
namespace Go.Proofs.YtaablbmgagiajabGreatDoor
open Go.RowKit Go.Deep
def wConf : List UInt8 := [99, 111, 110, 102, 108, 105, 99, 116, 115]
def wMost : List UInt8 := [109, 111, 115, 116]
def wShow : List UInt8 := [115, 104, 111, 119]
def t0 : List UInt8 := wConf ++ [10] ++ wMost ++ [10] ++ wShow ++ [10, 120, 10]
theorem lines_t0 : linesOf t0 = [wConf, wMost, wShow, [120]] := by decide
theorem words_conf : wordsF wConf = [wConf] := by decide
theorem words_most : wordsF wMost = [wMost] := by decide
theorem words_show : wordsF wShow = [wShow] := by decide
theorem words_x : wordsF [120] = [[120]] := by decide
theorem say_nil : sayF [] = some [] := rfl
theorem confL_L0 : confL L0 = [4, 4, 3] := by decide
theorem most_L0 : most (confs L0.zs) = 2 := by decide
def ansT (x : List UInt8) : List UInt8 := if x = wConf then spF (confL L0) else if x = wMost then spF [((most (confs L0.zs) : Nat) : Int)] else if x = wShow then showF (sy0 10).v else errF 3
def RelT (pre : List {x : List UInt8 // x ∈ linesOf t0}) (S : SY) (l : List UInt8) : Prop := S = sy0 10 ∧ l = (pre.map fun x => ansT x.1 ++ [10]).flatten ∧ pre.length ≤ 4
theorem ansT_few (x : List UInt8) (h : x ∈ linesOf t0) : (ansT x).length ≤ 20 := by
  rw [lines_t0] at h
  simp only [List.mem_cons, List.not_mem_nil, or_false] at h
  rcases h with rfl | rfl | rfl | rfl <;> exact of_decide_eq_true (by kernel_rfl)
theorem relT_few (pre : List {x : List UInt8 // x ∈ linesOf t0}) : ((pre.map fun x => ansT x.1 ++ [10]).flatten).length ≤ 21 * pre.length := by
  induction pre with
  | nil => simp
  | cons x pre ih =>
    have := ansT_few x.1 x.2
    simp only [List.map_cons, List.flatten_cons, List.length_append, List.length_cons, List.length_nil] at ih ⊢
    omega
theorem intIn_small {z : Int} (h0 : -1000 ≤ z) (h1 : z ≤ 100000) : IntIn z := ⟨by omega, by omega⟩
set_option maxHeartbeats 1000000 in
theorem talk_ans : AnsOk t0 RelT := by
  rintro pre ⟨x, hx⟩ S l W N c D ⟨rfl, rfl, hp⟩ hlen hdk
  have hx' := hx
  rw [lines_t0] at hx'
  have h4 : (linesOf t0).length = 4 := by decide
  have hlen' : pre.length < 4 := by omega
  have fin : ∀ s, s = ansT x → ∀ (e : Ending) (W' : World), e = Ending.returned (.string (txt s)) ∧ AnsGo W W' N c D (sy0 10) → ∃ s S' D', e = .returned (.string (txt s)) ∧ RelT (pre ++ [⟨x, hx⟩]) S' ((pre.map fun x => ansT x.1 ++ [10]).flatten ++ s ++ [10]) ∧ DkIs W' N c D' L0 10 S' ∧ Mod W W' (Wr D) ∧ Gr W.heap.size D D' := by
    rintro s rfl e W' ⟨rfl, D', h1, h2, h3⟩
    exact ⟨_, _, D', rfl, ⟨rfl, by simp, by simp; omega⟩, h1, h2, h3⟩
  have hvok : VOk 10 (sy0 10).v := (SInv.new (L := L0) (W := fun _ _ _ _ => True) (liar := 3) (T := 0) (by omega) (by omega)).vok
  simp only [List.mem_cons, List.not_mem_nil, or_false] at hx'
  rcases hx' with rfl | rfl | rfl | rfl
  · refine (ans_tells wConf wConf _ [] hdk (by decide) words_conf 0 0 145 [] rfl (by decide) (by decide) say_nil (enters_of Tryz.func145 (by kernel_rfl) rfl) (fun V a h => conflicts_ord V a h L0_ok ?_)).mono (fin _ rfl)
    rw [confL_L0]
    intro z hz
    simp only [List.mem_cons, List.not_mem_nil, or_false] at hz
    rcases hz with rfl | rfl | rfl <;> exact intIn_small (by decide) (by decide)
  · exact (ans_tells wMost wMost _ [] hdk (by decide) words_most 0 0 152 [] rfl (by decide) (by decide) say_nil (enters_of Tryz.func152 (by kernel_rfl) rfl) (fun V a h => most_ord V a h L0_ok (by rw [most_L0]; exact intIn_small (by decide) (by decide)))).mono (fin _ rfl)
  · exact (ans_tells wShow wShow _ [] hdk (by decide) words_show 0 0 155 [] rfl (by decide) (by decide) say_nil (enters_of Tryz.func155 (by kernel_rfl) rfl) (fun V a h => show_ord V a h hvok (by exact intIn_small (by decide) (by decide)) (by exact intIn_small (by decide) (by decide)))).mono (fin _ rfl)
  · exact (ans_no [120] [120] [] hdk (by decide) words_x rfl).mono (fin _ rfl)
theorem talk_session (w : World) (hn : HasNum w) (h7 : 7 ≤ w.heap.size) :
    Calls Tryz.prog 23 #[.string (txt t0)] w fun e w' => e = .returned (.string (txt [52, 32, 52, 32, 51, 10, 50, 10, 48, 32, 48, 32, 102, 97, 108, 115, 101, 10, 101, 114, 114, 111, 114, 32, 51, 10])) ∧ Below w.heap.size w w' := by
  refine (session_any t0 w (by decide) hn h7 RelT ⟨rfl, rfl, by decide⟩ (fun pre S l h => ⟨by rw [h.1]; rfl, by have := relT_few pre; rw [← h.2.1] at this; have := h.2.2; omega⟩) talk_ans).mono ?_
  rintro e w' ⟨⟨xs, S, l, hxs, hR, rfl⟩, hB⟩
  refine ⟨?_, hB⟩
  have e1 : (xs.map fun x => ansT x.1 ++ [10]) = (xs.map Subtype.val).map fun x => ansT x ++ [10] := by rw [List.map_map]; rfl
  have e2 : ([wConf, wMost, wShow, [120]].map fun x => ansT x ++ [10]).flatten = [52, 32, 52, 32, 51, 10, 50, 10, 48, 32, 48, 32, 102, 97, 108, 115, 101, 10, 101, 114, 114, 111, 114, 32, 51, 10] := by kernel_rfl
  rw [hR.2.1, e1, hxs, lines_t0, e2]
set_option maxHeartbeats 1000000 in
theorem talks_any (w : World) (hn : HasNum w) (h7 : 7 ≤ w.heap.size) :
    Calls Tryz.prog 22 #[] w fun e w' => e = .returned (.bool true) ∧ Below w.heap.size w w' := by
  have HT := hide (talk_session w hn h7)
  clear hn h7
  go_enter Tryz.func22, Tryz.ntmps22
  go_wp2_with (go_at_call 23; refine HT.out.mono ?_; rintro e w1 ⟨rfl, hB⟩)
  go_ret
  exact ⟨rfl, hB⟩
end Go.Proofs.YtaablbmgagiajabGreatDoor
namespace Go.Proofs.YtaablbmgagiajabGreatDoor
open Go.RowKit Go.Deep
variable {L : RC} {win : Nat} {S S1 S2 : SY}
theorem isNone_nil : isNone ⟨0, 0, []⟩ := .inl (by decide)
theorem arrive_nil (h : S.net = []) : arriveSy L win 0 S = S := by
  obtain ⟨rp, v, net⟩ := S
  subst h
  show comeSy L win ⟨0, 0, []⟩ ⟨rp, v, []⟩ = ⟨rp, v, []⟩
  unfold comeSy
  rw [if_pos isNone_nil]
theorem run_nil : ∀ (m : Nat), S.net = [] → runAll L win m S = S
  | 0, _ => rfl
  | m + 1, h => by
    show runAll L win m (arriveSy L win 0 S) = S
    rw [arrive_nil h]
    exact run_nil m h
theorem run_more : ∀ (m n : Nat) (S : SY), runAll L win (m + n) S = runAll L win n (runAll L win m S)
  | 0, n, S => by rw [Nat.zero_add]; rfl
  | m + 1, n, S => by
    rw [Nat.add_right_comm]
    exact run_more m n _
theorem run_det {m n : Nat} (h1 : (runAll L win m S).net = []) (h2 : (runAll L win n S).net = []) : runAll L win m S = runAll L win n S := by
  rcases Nat.le_total m n with h | h
  · obtain ⟨q, rfl⟩ := Nat.exists_eq_add_of_le h
    rw [run_more, run_nil q h1]
  · obtain ⟨q, rfl⟩ := Nat.exists_eq_add_of_le h
    rw [run_more, run_nil q h2]
theorem round_det (h1 : roundTo L win S S1) (h2 : roundTo L win S S2) : S1 = S2 := by
  obtain ⟨a0, a1, a2, p0, p1, p2, rfl⟩ := h1
  obtain ⟨b0, b1, b2, q0, q1, q2, rfl⟩ := h2
  have e0 := run_det p0 q0
  rw [e0] at p1 p2 ⊢
  have e1 := run_det p1 q1
  rw [e1] at p2 ⊢
  have e2 := run_det p2 q2
  rw [e2]
theorem round_net (h : roundTo L win S S1) : S1.net = [] := by
  obtain ⟨a0, a1, a2, p0, p1, p2, rfl⟩ := h
  exact p2
theorem calm_det : ∀ (n : Nat) {S S1 S2 : SY}, calmTo L win n S S1 → calmTo L win n S S2 → S1 = S2
  | 0, _, _, _, h1, h2 => by
    have e1 : _ = _ := h1
    have e2 : _ = _ := h2
    rw [e1, e2]
  | n + 1, _, _, _, ⟨a, p, p'⟩, ⟨b, q, q'⟩ => by
    obtain rfl := round_det p q
    exact calm_det n p' q'
theorem calm_net : ∀ (n : Nat) {S S1 : SY}, S.net = [] → calmTo L win n S S1 → S1.net = []
  | 0, _, _, h, h1 => by
    have e1 : _ = _ := h1
    rw [e1]; exact h
  | n + 1, _, _, _, ⟨_, p, p'⟩ => calm_net n (round_net p) p'
end Go.Proofs.YtaablbmgagiajabGreatDoor
namespace Go.Proofs.YtaablbmgagiajabGreatDoor
open Go.RowKit Go.Deep
variable {N win : Nat} {c : DkC} {D : SC} {L : RC} {S : SY}
def cmT (d : Cm) : List UInt8 := spF [d.c, d.v, d.o]
def traceF (tr : List Cm) : List UInt8 := Lib.join (tr.map cmT) [44, 32]
def CmIn (d : Cm) : Prop := IntIn d.c ∧ IntIn d.v ∧ IntIn d.o
structure TrInv (w1 wr : World) (cv : Value) (tr : List Cm) (k : Nat) : Prop where
  old : Below w1.heap.size w1 wr
  own : wr.ownsRow w1.heap.size 9 1 cv k ((tr.take k).map fun d => Value.string (txt (cmT d)))
theorem TrInv.below {w1 wr wx : World} {cv : Value} {tr : List Cm} {k : Nat} (h : TrInv w1 wr cv tr k) (hB : Below wr.heap.size wr wx) : TrInv w1 wx cv tr k := by
  refine ⟨h.old.trans (hB.mono h.old.size), h.own.1, ?_⟩
  rcases h.own.2 with h2 | ⟨g, cap, cur, hg, h3, h4, h5⟩
  · exact .inl h2
  · exact .inr ⟨g, cap, cur, hg, h3, (hB.block g (blk_lt h4)).trans h4, h5⟩
theorem infoStrR : (Tryz.prog.info? 9).map (fun i => (i.zero, i.size, i.bytes)) = some (some (.string ⟨#[]⟩), 1, 16) := by kernel_rfl
theorem join_short (xs : List (List UInt8)) (sep : List UInt8) (m : Nat) (h : ∀ x ∈ xs, x.length + sep.length ≤ m) : (Lib.join xs sep).length ≤ m * xs.length := by
  induction xs with
  | nil => simp [Lib.join, List.intercalate]
  | cons x r ih =>
    have h1 := h x (by simp)
    have h2 := ih fun y hy => h y (by simp [hy])
    cases r with
    | nil => simp [Lib.join, List.intercalate]; omega
    | cons y r =>
      rw [Lib.join_cons] at h2 ⊢
      have e : Lib.joinTail sep (y :: r) = sep ++ (y ++ Lib.joinTail sep r) := by simp [Lib.joinTail]
      rw [e]
      simp only [List.length_append, List.length_cons, Nat.mul_add, Nat.mul_one] at h2 ⊢
      omega
set_option maxHeartbeats 4000000 in
set_option maxRecDepth 100000 in
theorem trace_ord (V : World) (a : Value) (h : DkIs V N c D L win S) (hok : VOk win S.v) (hn : S.v.tr.length ≤ 20000) (hin : ∀ d ∈ S.v.tr, CmIn d) :
    Calls Tryz.prog 157 #[.pointer (some ⟨c.d, 0, none⟩), a] V fun e V' => e = .returned (.string (txt (traceF S.v.tr))) ∧ Below V.heap.size V V' := by
  have c3 := h.c3
  have HT := hide (strace_any N D L win S V h.sys hok)
  have HNU := hide h.num
  obtain ⟨tr, htr⟩ : ∃ tr, S.v.tr = tr := ⟨_, rfl⟩
  rw [htr] at HT hn hin ⊢
  have HIN := hide hin
  obtain ⟨i0, hi, hz0, hz1, hz2⟩ := info_parts infoStrR
  have HI := hide hi
  have HZ0 := hide hz0
  have HZ1 := hide hz1
  have HZ2 := hide hz2
  clear h hok hin hi hz0 hz1 hz2 htr
  go_enter Tryz.func157, Tryz.ntmps157
  go_wp2_with fail
  go_at_call 13
  refine HT.out.mono ?_
  rintro e w1 ⟨⟨tv, rfl, hTI⟩, hB⟩
  obtain ⟨ta, tc, rfl⟩ := hTI.shape
  have HTI := hide hTI
  have HB := hide hB
  clear hTI hB HT
  have HI0 : Hid (TrInv w1 w1 (.slice none 0 0) tr 0) := hide ⟨Below.refl _ _, rfl, .inl ⟨rfl, rfl⟩⟩
  go_wp2
  go_loopw [5, 14] (fun cv i wr => ∃ k : Nat, k ≤ tr.length ∧ i = .int .i64 k ∧ TrInv w1 wr cv tr k) (fun _ i _ => tr.length - (intOf i).toNat)
  case atStart => exact ⟨0, Nat.zero_le _, rfl, HI0.out⟩
  case round =>
    clear HI0
    obtain ⟨k, hk, rfl, hI⟩ := hrel
    by_cases hlt : k < tr.length
    · obtain ⟨g, cap, he, hg1, hg2, hcap⟩ := HTI.out.has (by omega)
      simp only [Value.slice.injEq] at he
      obtain ⟨rfl, _, rfl⟩ := he
      have hr := (HTI.out.same (w' := wr) fun g' hg' => by cases hg'; exact hI.old.block _ hg2).range hlt
      have hmem : cmAt tr k ∈ tr := by unfold cmAt; rw [List.getElem?_eq_getElem hlt]; exact List.getElem_mem hlt
      have HCI := hide (HIN.out _ hmem)
      have HTK : Hid ((tr.take (k + 1)).map (fun d => Value.string (txt (cmT d))) = (tr.take k).map (fun d => Value.string (txt (cmT d))) ++ [Value.string (txt (cmT (cmAt tr k)))]) := hide (by
        rw [List.take_add_one, List.map_append, List.getElem?_eq_getElem hlt]
        unfold cmAt
        rw [List.getElem?_eq_getElem hlt]
        rfl)
      obtain ⟨x0, h0⟩ : ∃ x, Hid ((cmAt tr k).c = x) := ⟨_, hide rfl⟩
      obtain ⟨x1, h1⟩ : ∃ x, Hid ((cmAt tr k).v = x) := ⟨_, hide rfl⟩
      obtain ⟨x2, h2⟩ : ∃ x, Hid ((cmAt tr k).o = x) := ⟨_, hide rfl⟩
      rw [h0.out, h1.out, h2.out] at hr
      have r0 : wr.cell? ⟨g, k * 3, none⟩ = some (.int .i64 x0) := hr 0 _ rfl
      have r1 : wr.cell? ⟨g, k * 3 + 1, none⟩ = some (.int .i64 x1) := hr 1 _ rfl
      have r2 : wr.cell? ⟨g, k * 3 + 2, none⟩ = some (.int .i64 x2) := hr 2 _ rfl
      have t1 : (k : Int) < (tr.length : Int) := by omega
      have t2 : (0 : Int) ≤ (k : Int) := by omega
      have t3 : decide ((k : Int) < (tr.length : Int)) = true := decide_eq_true t1
      have HI1 := hide hI
      obtain ⟨X, hX⟩ : ∃ X, Hid ((wr.alloc (.cells #[.int .i64 x0, .int .i64 x1, .int .i64 x2] 49)).alloc (.cells #[.int .i64 x0, .int .i64 x1, .int .i64 x2] 3) = X) := ⟨_, hide rfl⟩
      clear hI hr hmem
      have HS : Hid (Calls Tryz.prog 182 #[.slice (some ⟨wr.heap.size + 1, 0, none⟩) 3 3] X fun e w' => e = .returned (.string (txt (cmT (cmAt tr k)))) ∧ Hid (TrInv w1 w' u5 tr k)) := hide (by
        have hb1 : Below wr.heap.size wr (wr.alloc (.cells #[.int .i64 x0, .int .i64 x1, .int .i64 x2] 49)) := (Below.refl _ _).alloc (Nat.le_refl _) _
        have hs1 : (wr.alloc (.cells #[.int .i64 x0, .int .i64 x1, .int .i64 x2] 49)).heap.size = wr.heap.size + 1 := World.size_alloc _ _
        generalize wr.alloc (.cells #[.int .i64 x0, .int .i64 x1, .int .i64 x2] 49) = y1 at hb1 hs1 hX
        have hb2 : Below y1.heap.size y1 X := by rw [← hX.out]; exact (Below.refl _ _).alloc (Nat.le_refl _) _
        have hsl : IsSl X (some ⟨wr.heap.size + 1, 0, none⟩) 3 3 [x0, x1, x2] := by
          rw [← hX.out, ← hs1]
          exact isSl_new y1 [x0, x1, x2] 3 rfl
        have hI2 := (HI1.out.below hb1).below hb2
        have hnX : HasNum X := (HNU.out.below HB.out).below hI2.old
        refine (spaced_any [x0, x1, x2] (some ⟨wr.heap.size + 1, 0, none⟩) 3 3 X hsl ?_ (by omega) hnX.pow).mono ?_
        · intro z hz
          simp only [List.mem_cons, List.not_mem_nil, or_false] at hz
          obtain ⟨q0, q1, q2⟩ := HCI.out
          rw [h0.out] at q0
          rw [h1.out] at q1
          rw [h2.out] at q2
          rcases hz with rfl | rfl | rfl
          · exact q0
          · exact q1
          · exact q2
        · rintro e w' ⟨rfl, hB'⟩
          refine ⟨?_, hide (hI2.below hB')⟩
          unfold cmT
          rw [h0.out, h1.out, h2.out])
      go_wp2_with fail
      rw [hX.out]
      refine HS.out.mono ?_
      rintro e w3 ⟨rfl, hI3⟩
      obtain ⟨s, hs⟩ : ∃ s, Hid (cmT (cmAt tr k) = s) := ⟨_, hide rfl⟩
      rw [hs.out]
      rw [hs.out] at HTK
      have hYb : Below w3.heap.size w3 (w3.alloc (.cells #[.string (txt s)] 9)) := (Below.refl _ _).alloc (Nat.le_refl _) _
      have HIY := hide (hI3.out.below hYb)
      clear HS hI3 r0 r1 r2 HCI h0 h1 h2 hX HI1 hYb
      go_wp2_with (at_builtin; refine wpList_append_own _ rfl _ _ 70 rfl w1.heap.size 9 i0 (.string ⟨#[]⟩) 1 16 Tryz.underlying70 HI.out HZ0.out HZ1.out HZ2.out rfl (by decide) _ _ _ rfl HIY.out.own ⟨_, 0, none⟩ 1 1 [.string (txt s)] rfl rfl ?c1 ?c2 ?c3 ?c4 ?c5 ?_)
      case c1 =>
        intro j u hj
        match j, hj with
        | 0, hj => simp at hj; subst hj; exact World.cell?_alloc_at _ _ _ _ rfl
      case c2 => intro u hu; simp at hu; subst hu; rfl
      case c3 => unfold maxLen; omega
      case c4 => omega
      case c5 => exact HIY.out.old.size
      intro v' w4 hown hgrow _
      have HI4 : Hid (TrInv w1 w4 v' tr (k + 1)) := hide ⟨⟨hgrow.os.trans HIY.out.old.os, hgrow.tape.trans HIY.out.old.tape, hgrow.output.trans HIY.out.old.output, Nat.le_trans HIY.out.old.size hgrow.size, fun q hq => (hgrow.block q (Nat.lt_of_lt_of_le hq HIY.out.old.size) (fun e => by have := (HIY.out.own.lt q e.symm).1; omega)).trans (HIY.out.old.block q hq)⟩, by rw [HTK.out]; simpa only [List.map_take] using hown⟩
      clear hown hgrow HIY
      go_wp2
      go_roundw
      case rel => exact ⟨k + 1, by omega, by go_num, HI4.out⟩
      case measure => simp [intOf]; omega
    · have ek : k = tr.length := by omega
      subst ek
      have t3 : decide ((tr.length : Int) < (tr.length : Int)) = false := decide_eq_false (by omega)
      have hall : tr.take tr.length = tr := List.take_length
      have HO := hide hI.old
      have HW := hide hI.own
      rw [hall] at HW
      have HJ : Hid (Calls Tryz.prog 186 #[u5, .string ⟨#[44, 32]⟩] wr fun e w' => e = .returned (.string (txt (traceF tr))) ∧ Below wr.heap.size wr w') := hide (by
        rcases HW.out.2 with ⟨rfl, hnil⟩ | ⟨g, cap, cur, rfl, _, hg, hnc, _⟩
        · have h0 : tr = [] := by
            cases tr with
            | nil => rfl
            | cons d r => simp at hnil
          subst h0
          refine (Tryz.strings_Join_none none 0 ⟨#[44, 32]⟩ wr).mono ?_
          rintro e w' ⟨rfl, rfl⟩
          exact ⟨rfl, Below.refl _ _⟩
        · have hcs := HW.out.cells (g := g) rfl
          have hj := Tryz.strings_Join g 0 cap (tr.map fun d => txt (cmT d)) ⟨#[44, 32]⟩ wr (fun j x hx => by
            rw [List.getElem?_map] at hx
            obtain ⟨d, hd, rfl⟩ := Option.map_eq_some_iff.1 hx
            have := hcs j (.string (txt (cmT d))) (by rw [List.getElem?_map, hd]; rfl)
            rw [Addr.add_mid] at this
            exact this) (blk_lt hg) (by rw [List.length_map]; omega) (by rw [List.length_map]; exact hnc) ?_
          · rw [List.length_map] at hj
            refine hj.mono ?_
            rintro e w' ⟨rfl, hB'⟩
            refine ⟨?_, hB'⟩
            unfold traceF
            rw [List.map_map]
            rfl
          · have hjs := join_short (tr.map cmT) [44, 32] 100 fun x hx => by
              obtain ⟨d, hd, rfl⟩ := List.mem_map.1 hx
              obtain ⟨q0, q1, q2⟩ := HIN.out d hd
              have := join_few [d.c, d.v, d.o] (fun z hz => by
                simp only [List.mem_cons, List.not_mem_nil, or_false] at hz
                rcases hz with rfl | rfl | rfl
                · exact q0
                · exact q1
                · exact q2)
              unfold cmT
              simp at this ⊢
              omega
            rw [List.length_map] at hjs
            have e : ((tr.map fun d => txt (cmT d)).map (·.data.toList)) = tr.map cmT := by rw [List.map_map]; rfl
            rw [e]
            show (Lib.join (tr.map cmT) [44, 32]).length ≤ _
            omega)
      clear hI HW hall HIN
      go_wp2_with (go_at_call 186; refine HJ.out.mono ?_; rintro e w9 ⟨rfl, hB9⟩)
      go_ret
      have hq := HB.out.trans (HO.out.mono HB.out.size)
      exact ⟨rfl, hq.trans (hB9.mono hq.size)⟩
end Go.Proofs.YtaablbmgagiajabGreatDoor
