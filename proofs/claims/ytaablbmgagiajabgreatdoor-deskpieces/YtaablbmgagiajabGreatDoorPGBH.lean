import Derived.Deep.RegionHeld
import Derived.Test.YtaablbmgagiajabGreatDoorPGBG
import Derived.Shelf.Strings.Builder1
import Derived.Shelf.Strings.Builder2
import Derived.Shelf.Strings.OnBuilder
import Derived.Shelf.Small.Wraps
import Derived.Shelf.Strings.BuilderF
import Derived.Shelf.Strings.BuilderK
import Derived.Shelf.Strconv.Itoa0
import Derived.Shelf.Strconv.Itoa1
import Derived.Shelf.LaysM
import Derived.Shelf.Strconv.Itoa2
import Derived.Shelf.Strconv.Itoa3
import Derived.Shelf.Strconv.Itoa4
import Derived.Shelf.Strconv.ParseIntEmpty
import Derived.Shelf.Strconv.Clone
import Derived.Shelf.Strconv.SyntaxError
import Derived.Shelf.LaysC
import Derived.Shelf.Strconv.ToError
import Derived.Shelf.Strconv.Lower
import Derived.Shelf.Strconv.ParseUint10
import Derived.Shelf.Strconv.ParseUint10Empty
import Derived.Shelf.Strconv.ParseUint10Any
import Derived.Shelf.Strconv.ParseInt10
import Derived.Shelf.Strconv.RangeError
import Derived.Shelf.Strconv.ToErrorRange
import Derived.Shelf.Strconv.ParseUintEmpty
import Derived.Shelf.Strconv.ParseUint10b64
import Derived.Shelf.Strconv.ParseUint10b32
import Derived.Shelf.Strconv.ParseUint10b16
import Derived.Shelf.Strconv.ParseUint10b8
import Derived.Shelf.Strconv.ParseUint10At
import Derived.Shelf.Strconv.ParseInt10At64
import Derived.Shelf.Strconv.ParseInt10At32
import Derived.Shelf.Strconv.ParseInt10At16
import Derived.Shelf.Strconv.ParseInt10At8
import Derived.Shelf.Strconv.ParseInt10All
import Derived.Shelf.Strconv.ParseIntPublic10
import Derived.Shelf.Strconv.ErrVarParseInt
import Derived.Shelf.Strings.Search1
import Derived.Shelf.Strings.Search2
import Derived.Shelf.Strings.Cut
import Derived.Shelf.Strings.Shaped
import Derived.Shelf.Strings.Prefix
import Derived.Shelf.Strings.FieldsFuncAny
import Derived.Test.YtaablbmgagiajabGreatDoorProg
import Derived.Lib.ItoaLen
import Derived.Lib.AppendStr
import Derived.Deep.AppendLies
namespace Go.Proofs.YtaablbmgagiajabGreatDoor
open Go.RowKit Go.Deep
theorem by_of_at {D : SC} {i k : Nat} (h : ByV (D.us[i]?.getD undef) k) : By D k := by
  obtain ⟨a, n, cap, e, rfl, hn⟩ := h
  cases hu : D.us[i]? with
  | none => rw [hu] at e; cases e
  | some u =>
    rw [hu] at e
    exact ⟨u, List.mem_of_getElem? hu, a, n, cap, e, rfl, hn⟩
section
variable {W : Seen} {liar T : Nat}
theorem slatchC (N : Nat) (D : SC) (L : RC) (win : Nat) (S : SY) (w : World) (h : SyIs w N D L win S) (c : Int) (hc : cI D S c) :
    Calls Tryz.prog 41 #[.pointer (some ⟨D.p, 0, none⟩)] w fun e w' => e = .returned (.tuple #[]) ∧ SyGoC w w' N D L win (latchSy S) c := by
  have c6 := h.vt6
  have HC : Hid (Calls Tryz.prog 85 #[.pointer (some ⟨D.vp, 0, none⟩)] w fun e w' => e = .returned (.tuple #[]) ∧ SyGoC w w' N D L win (latchSy S) c) := hide (by
    refine (latch_any N D.vp win D.tv S.v w h.vt).mono ?_
    rintro e w2 ⟨rfl, hV, hm⟩
    exact ⟨rfl, h.putVC hm hV hc (Moved.refl _ _)⟩)
  clear h
  go_enter Tryz.func41, Tryz.ntmps41
  go_wp2_with fail
  refine HC.out.mono ?_
  rintro e w2 ⟨rfl, hg⟩
  go_wp2
  go_end0
  exact ⟨rfl, hg⟩
theorem stickC (N : Nat) (D : SC) (L : RC) (win : Nat) (S : SY) (w : World) (k : Nat) (hk : k < 3) (h : SyIs w N D L win S) (hI : SInv L W liar win T S) (hL : LOk L) (hT : T < 8000000) (hN : N ≤ w.heap.size) (c : Int) (hc : cI D S c) :
    Calls Tryz.prog 32 #[.pointer (some ⟨D.p, 0, none⟩), .int .i64 (k : Int)] w fun e w' => e = .returned .nilIface ∧ SyGoC w w' N D L win (tickSy L k S) (c + tickC L k S) := by
  obtain ⟨hok, _⟩ := (hI.rp k hk).ok hk hL hT hI.vok.few
  have HC := hide (tickRepC N D L win S w k hk h hok (hI.rp k hk).id hN hI.many c hc)
  have HR := hide (sysRep_any (k : Int) w)
  rw [isRep_lt hk] at HR
  clear h hI hok
  go_enter Tryz.func32, Tryz.ntmps32
  go_wp2_with fail
  refine HR.out.mono ?_
  rintro e wz ⟨rfl, rfl⟩
  go_wp2_with fail
  refine HC.out.mono ?_
  rintro e w2 ⟨rfl, hg⟩
  go_wp2
  go_ret
  exact ⟨rfl, hg⟩
theorem stick3C (N : Nat) (D : SC) (L : RC) (win : Nat) (S : SY) (w : World) (h : SyIs w N D L win S) (hok : VOk win S.v) (c : Int) (hc : cI D S c) :
    Calls Tryz.prog 32 #[.pointer (some ⟨D.p, 0, none⟩), .int .i64 3] w fun e w' => e = .returned .nilIface ∧ SyGoC w w' N D L win (vtickSy S) c := by
  have HR := hide (sysRep_any 3 w)
  rw [show isRep 3 = false from rfl] at HR
  have c6 := h.vt6
  have HC : Hid (Calls Tryz.prog 47 #[.pointer (some ⟨D.vp, 0, none⟩)] w fun e w' => e = .returned (.tuple #[]) ∧ SyGoC w w' N D L win (vtickSy S) c) := hide (by
    refine (tick_any N D.vp win D.tv S.v w h.vt hok).mono ?_
    rintro e w2 ⟨rfl, hV, hm⟩
    exact ⟨rfl, h.putVC hm hV hc (Moved.refl _ _)⟩)
  clear h hok
  go_enter Tryz.func32, Tryz.ntmps32
  go_wp2_with fail
  refine HR.out.mono ?_
  rintro e wz ⟨rfl, rfl⟩
  go_wp2_with fail
  refine HC.out.mono ?_
  rintro e w2 ⟨rfl, hg⟩
  go_wp2
  go_ret
  exact ⟨rfl, hg⟩
theorem sasksC (N : Nat) (D : SC) (L : RC) (win : Nat) (S : SY) (w : World) (k : Nat) (hk : k < 3) (h : SyIs w N D L win S) (hI : SInv L W liar win T S) (hN : N ≤ w.heap.size) (c : Int) (hc : cI D S c) :
    Calls Tryz.prog 33 #[.pointer (some ⟨D.p, 0, none⟩), .int .i64 (k : Int)] w fun e w' => e = .returned .nilIface ∧ SyGoC w w' N D L win (asksSy k S) (c + othC k 3) := by
  have HR := hide (sysRep_any (k : Int) w)
  rw [isRep_lt hk] at HR
  have hk' : (k : Int) < 3 := by omega
  have cr := h.rpAt hk
  have hid := (hI.rp k hk).id
  have HC : Hid (Calls Tryz.prog 73 #[.pointer (some ⟨D.rp k, 0, none⟩)] w fun e w1 => e = .returned (.agg (fCells (asksR (S.rp k)))) ∧ Hid (Calls Tryz.prog 72 #[.pointer (some ⟨D.p, 0, none⟩), .agg (fCells (asksR (S.rp k)))] w1 fun e w' => e = .returned (.tuple #[]) ∧ SyGoC w w' N D L win (asksSy k S) (c + othC k 3))) := hide (by
    refine (asks_any (D.rp k) (D.C k) (S.rp k) w (h.rp k hk)).mono ?_
    rintro e w1 ⟨rfl, hB⟩
    refine ⟨rfl, hide ?_⟩
    refine (sendOthersC N D L win S w1 (asksR (S.rp k)) k (h.below hB) (by show ((S.rp k).id : Int) = _; rw [hid]) (Nat.le_trans hN hB.size) hI.many c hc).mono ?_
    rintro e w2 ⟨rfl, hg⟩
    exact ⟨rfl, hg.pre hB⟩)
  clear h hI
  go_enter Tryz.func33, Tryz.ntmps33
  go_wp2_with fail
  refine HR.out.mono ?_
  rintro e wz ⟨rfl, rfl⟩
  go_wp2_with fail
  refine HC.out.mono ?_
  rintro e w1 ⟨rfl, HS⟩
  go_wp2_with fail
  refine HS.out.mono ?_
  rintro e w2 ⟨rfl, hg⟩
  go_wp2
  go_ret
  exact ⟨rfl, hg⟩
theorem sdeliverC (N : Nat) (D : SC) (L : RC) (win : Nat) (S : SY) (w : World) (i : Nat) (h : SyIs w N D L win S) (hI : SInv L W liar win T S) (hL : LOk L) (hT : T < 8000000) (hN : N ≤ w.heap.size) (hi : i < S.net.length) (c : Int) (hc : cI D S c) :
    Calls Tryz.prog 34 #[.pointer (some ⟨D.p, 0, none⟩), .int .i64 (i : Int)] w fun e w' => e = .returned .nilIface ∧ SyGoC w w' N D L win (arriveSy L win i S) (c + arrC L win i S) := by
  have HR := hide (underWay_any N D L win S w i h)
  rw [decide_eq_true hi] at HR
  have HC := hide (arriveC N D L win S w i h hI hL hT hi hN c hc)
  clear h hI
  go_enter Tryz.func34, Tryz.ntmps34
  go_wp2_with fail
  refine HR.out.mono ?_
  rintro e wz ⟨rfl, rfl⟩
  go_wp2_with fail
  refine HC.out.mono ?_
  rintro e w2 ⟨rfl, hg⟩
  go_wp2
  go_ret
  exact ⟨rfl, hg⟩
theorem sloseC (N : Nat) (D : SC) (L : RC) (win : Nat) (S : SY) (w : World) (i : Nat) (h : SyIs w N D L win S) (hle : S.net.length ≤ 120) (hi : i < S.net.length) (c : Int) (hc : cI D S c) :
    Calls Tryz.prog 35 #[.pointer (some ⟨D.p, 0, none⟩), .int .i64 (i : Int)] w fun e w' => e = .returned .nilIface ∧ SyGoC w w' N D L win (outSy i S) (c - 1) := by
  have HR := hide (underWay_any N D L win S w i h)
  rw [decide_eq_true hi] at HR
  have HC := hide (removeC N D L win S w i h hi hle c hc)
  clear h
  go_enter Tryz.func35, Tryz.ntmps35
  go_wp2_with fail
  refine HR.out.mono ?_
  rintro e wz ⟨rfl, rfl⟩
  go_wp2_with fail
  refine HC.out.mono ?_
  rintro e w2 ⟨rfl, hg⟩
  go_wp2
  go_ret
  exact ⟨rfl, hg⟩
set_option maxHeartbeats 1000000 in
set_option maxRecDepth 20000 in
theorem stwiceC (N : Nat) (D : SC) (L : RC) (win : Nat) (S : SY) (w : World) (i : Nat) (h : SyIs w N D L win S) (hle : S.net.length ≤ 120) (hN : N ≤ w.heap.size) (hi : i < S.net.length) (c : Int) (hc : cI D S c) :
    Calls Tryz.prog 36 #[.pointer (some ⟨D.p, 0, none⟩), .int .i64 (i : Int)] w fun e w' => e = .returned .nilIface ∧ SyGoC w w' N D L win (putSy (pkAt S.net i) S) (c + 1) := by
  have HR := hide (underWay_any N D L win S w i h)
  rw [decide_eq_true hi] at HR
  have hi' : (i : Int) < (S.net.length : Int) := by omega
  obtain ⟨g, cap, hnv⟩ := h.netHas (by omega)
  have hrg := h.pkRange hnv hi
  have hby := h.bytes hi
  have hput := syputC N D L win S w (pkAt S.net i) _ h hby hN hle w.heap.size (Nat.le_refl _) (fun k hk => .inl (by_of_at hk)) c hc
  have c7 : w.cell? ⟨D.p, 7, none⟩ = some (.slice (some ⟨g, 0, none⟩) S.net.length cap) := (h.at 7).trans (by show some D.nv = _; rw [hnv])
  obtain ⟨q, hq⟩ : ∃ q, Hid (pkAt S.net i = q) := ⟨_, hide rfl⟩
  obtain ⟨u, hu⟩ : ∃ u, Hid (D.us[i]?.getD undef = u) := ⟨_, hide rfl⟩
  rw [hq.out, hu.out] at hrg hput
  rw [hq.out]
  have HC := hide hput
  have HRG := hide hrg
  clear h hput hrg hby hnv
  go_enter Tryz.func36, Tryz.ntmps36
  go_wp2_with fail
  refine HR.out.mono ?_
  rintro e wz ⟨rfl, rfl⟩
  go_wp2_with (refine wpList_load_mid rfl 134 _ rfl g (i * 3) rfl _ _ HRG.out Tryz.underlying134 rfl (by rw [infoPacket3]; rfl) ?_)
  refine HC.out.mono ?_
  rintro e w2 ⟨rfl, hg⟩
  go_wp2
  go_ret
  exact ⟨rfl, hg⟩
end
set_option maxHeartbeats 1000000 in
set_option maxRecDepth 20000 in
theorem sseeC (N : Nat) (D : SC) (L : RC) (win : Nat) (S : SY) (w : World) (k : Nat) (x y : Int) (hk : k < 3) (h : SyIs w N D L win S) (c : Int) (hc : cI D S c) :
    Calls Tryz.prog 18 #[.pointer (some ⟨D.p, 0, none⟩), .int .i64 (k : Int), .agg #[.int .i64 x, .int .i64 y]] w fun e w' => e = .returned .nilIface ∧ SyGoC w w' N D L win (seeSy k x y S) c := by
  obtain ⟨W, hW⟩ : ∃ W, Hid (w.alloc (.cells #[.int .i64 x, .int .i64 y] 31) = W) := ⟨_, hide rfl⟩
  have hB0 : Below w.heap.size w W := by rw [← hW.out]; exact (Below.refl _ _).alloc (Nat.le_refl _) _
  have hbx : W.heap[w.heap.size]? = some (.cells #[.int .i64 x, .int .i64 y] 31 (0, 0)) := by rw [← hW.out]; exact blk_new _ _
  have HR := hide (sysRep_any (k : Int) W)
  rw [isRep_lt hk] at HR
  have hk' : (k : Int) < 3 := by omega
  have hS := h.below hB0
  have cr := hS.rpAt hk
  have x0 : W.cell? ⟨w.heap.size, 0, none⟩ = some (.int .i64 x) := (blk_cell hbx 0).trans rfl
  have x1 : W.cell? ⟨w.heap.size, 1, none⟩ = some (.int .i64 y) := (blk_cell hbx 1).trans rfl
  have HC : Hid (Calls Tryz.prog 50 #[.pointer (some ⟨D.rp k, 0, none⟩), .agg #[.int .i64 x, .int .i64 y]] W.drew fun e w' => e = .returned (.tuple #[]) ∧ SyGoC w w' N D L win (seeSy k x y S) c) := hide (by
    refine (see_any (D.rp k) (D.C k) (S.rp k) x y W.drew (hS.drew.rp k hk)).mono ?_
    rintro e w2 ⟨rfl, hR, hm⟩
    obtain ⟨h1, h2⟩ := hS.drew.putR hk hm hR
    exact ⟨rfl, SyGoC.pre ⟨D, rfl, h1, h2, GrC.refl _ _, hc⟩ (hB0.drew)⟩)
  clear h hS hbx hB0
  go_enter Tryz.func18, Tryz.ntmps18
  go_wp2_with fail
  rw [show w.alloc (.cells #[.int .i64 x, .int .i64 y] 31) = W from hW.out]
  refine HR.out.mono ?_
  rintro e wz ⟨rfl, rfl⟩
  go_wp2_with fail
  go_region_with ((go_at_call 50; refine HC.out.mono ?_; rintro e w2 ⟨rfl, hg⟩))
  all_goals
    go_wp2
    go_ret
    exact ⟨rfl, hg⟩
theorem scrashC (N : Nat) (D : SC) (L : RC) (win : Nat) (S : SY) (w : World) (k : Nat) (hk : k < 3) (hL : LOk L) (h : SyIs w N D L win S) (hN : N ≤ w.heap.size) (c : Int) (hc : cI D S c) :
    Calls Tryz.prog 38 #[.pointer (some ⟨D.p, 0, none⟩), .int .i64 (k : Int)] w fun e w' => e = .returned .nilIface ∧ SyGoC w w' N D L win (crashSy k S) c := by
  refine (crash_low D.p D.g0 D.c0 L _ _ _ _ k w hk hL (by rw [← syCells_eq]; exact h.blk) h.row h.lt0 h.cap0).mono ?_
  rintro e w' ⟨rfl, q, C, hF, hl, hR, hb, hm⟩
  refine ⟨rfl, ?_⟩
  obtain ⟨f1, f2, f3, f4, f5⟩ := hF
  rw [upd_ptr] at hb
  have hT : ∀ j, j = D.p → Wr D j := fun j hj => .inl hj
  obtain ⟨_, ⟨h2, h3⟩, h4, h5, h6⟩ := h.part hm hT
  have hw : ∀ x, Wr ⟨D.p, D.g0, D.c0, upd D.rp k q, upd D.C k C, D.vp, D.tv, D.nv, D.us, D.lost⟩ x → Wr D x ∨ x = q := fun x hx => by
    rcases hx with y | y | ⟨j, hj, y⟩ | y | y
    · exact .inl (.inl y)
    · exact .inl (.inr (.inl y))
    · by_cases e : j = k
      · right
        have y' : x = upd D.rp k q j := y
        rw [e, upd_same] at y'; exact y'
      · left
        have y' : x = upd D.rp k q j := y
        rw [upd_other _ _ e] at y'
        exact .inr (.inr (.inl ⟨j, hj, y'⟩))
    · exact .inl (.inr (.inr (.inr (.inl y))))
    · exact .inl (.inr (.inr (.inr (.inr y))))
  have hs : ∀ y, Sta ⟨D.p, D.g0, D.c0, upd D.rp k q, upd D.C k C, D.vp, D.tv, D.nv, D.us, D.lost⟩ y → Sta D y ∨ (y = C.pc ∨ y = C.g ∨ y = C.M ∨ y = C.g2) := fun y hy => by
    rcases hy with z | ⟨j, hj, z⟩
    · exact .inl (.inl z)
    · by_cases e : j = k
      · right
        have z' : y = (upd D.C k C j).pc ∨ y = (upd D.C k C j).g ∨ y = (upd D.C k C j).M ∨ y = (upd D.C k C j).g2 := z
        rw [e, upd_same] at z'; exact z'
      · left
        have z' : y = (upd D.C k C j).pc ∨ y = (upd D.C k C j).g ∨ y = (upd D.C k C j).M ∨ y = (upd D.C k C j).g2 := z
        rw [upd_other _ _ e] at z'
        exact .inr ⟨j, hj, z'⟩
  have hlt : ∀ j, j < 3 → D.rp j < w.heap.size := fun j hj => (h.tyR hj).lt
  refine ⟨⟨D.p, D.g0, D.c0, upd D.rp k q, upd D.C k C, D.vp, D.tv, D.nv, D.us, D.lost⟩, rfl, ⟨hb, h2, h3, h.cap0, fun j hj => ?_, fun j hj => ?_, fun i j hi hj hij => ?_, h5 fun x hx e => ?_, h6 fun g hg e => (h.ne7 g hg) e, fun x y hx hy e => ?_, fun x hx => ?_, fun y hy => ?_⟩, hm.mono fun i _ hi => hT i hi, ⟨⟨fun x hx => (hw x hx).imp id fun e => by omega, fun y hy => (hs y hy).imp id fun e => by omega⟩, fun _ x => .inl x⟩, hc⟩
  · show RpIs w' (upd D.rp k q j) (upd D.C k C j) (upd S.rp k (new0 k) j)
    by_cases e : j = k
    · rw [e, upd_same, upd_same, upd_same]; exact hR
    · rw [upd_other _ _ e, upd_other _ _ e, upd_other _ _ e]; exact h4 j hj (fun x => (h.tyR hj).ne h.tyP (by decide) x)
  · show LineIs (upd D.C k C j) L
    by_cases e : j = k
    · rw [e, upd_same]; exact hl
    · rw [upd_other _ _ e]; exact h.ln j hj
  · show upd D.rp k q i ≠ upd D.rp k q j
    have li := hlt i hi
    have lj := hlt j hj
    by_cases e : i = k
    · rw [e, upd_same, upd_other _ _ (by omega)]; omega
    · rw [upd_other _ _ e]
      by_cases e2 : j = k
      · rw [e2, upd_same]; omega
      · rw [upd_other _ _ e2]; exact h.ne i j hi hj hij
  · rcases hx with hx | hx
    · exact h.tyV.ne h.tyP (by decide) (hx.symm.trans e)
    · exact (h.tyT hx).ne h.tyP (by decide) e
  · rcases hw x hx with a | a
    · rcases hs y hy with b | b
      · exact h.sep x y a b e
      · have := h.wrLt a
        omega
    · rcases hs y hy with b | b
      · have := h.staLt b
        omega
      · have := hR.ap
        omega
  · rcases hw x hx with a | a
    · exact h.base x a
    · omega
  · rcases hs y hy with b | b
    · exact h.sbase y b
    · omega
set_option maxRecDepth 20000 in
theorem ssee_bad (p : Nat) (z : Int) (x y : Int) (w : World) (hz : isRep z = false) :
    Calls Tryz.prog 18 #[.pointer (some ⟨p, 0, none⟩), .int .i64 z, .agg #[.int .i64 x, .int .i64 y]] w fun e w' => e = .returned (.iface 74 (.int .i64 2)) ∧ Below w.heap.size w w' := by
  have HR := hide fun wx => sysRep_any z wx
  rw [hz] at HR
  go_enter Tryz.func18, Tryz.ntmps18
  go_wp2_with fail
  refine (HR.out _).mono ?_
  rintro e wz ⟨rfl, rfl⟩
  go_wp2
  go_ret
  exact ⟨rfl, (Below.refl _ _).alloc (Nat.le_refl _) _⟩
set_option maxRecDepth 20000 in
theorem sasks_bad (p : Nat) (z : Int) (w : World) (hz : isRep z = false) :
    Calls Tryz.prog 33 #[.pointer (some ⟨p, 0, none⟩), .int .i64 z] w fun e w' => e = .returned (.iface 74 (.int .i64 2)) ∧ Below w.heap.size w w' := by
  have HR := hide fun wx => sysRep_any z wx
  rw [hz] at HR
  go_enter Tryz.func33, Tryz.ntmps33
  go_wp2_with fail
  refine (HR.out _).mono ?_
  rintro e wz ⟨rfl, rfl⟩
  go_wp2
  go_ret
  exact ⟨rfl, Below.refl _ _⟩
set_option maxRecDepth 20000 in
theorem stick_bad (p : Nat) (z : Int) (w : World) (hz : isRep z = false) (h3 : z ≠ 3) :
    Calls Tryz.prog 32 #[.pointer (some ⟨p, 0, none⟩), .int .i64 z] w fun e w' => e = .returned (.iface 74 (.int .i64 2)) ∧ Below w.heap.size w w' := by
  have HR := hide fun wx => sysRep_any z wx
  rw [hz] at HR
  have h3' : (z == 3) = false := by simpa using h3
  go_enter Tryz.func32, Tryz.ntmps32
  go_wp2_with fail
  refine (HR.out _).mono ?_
  rintro e wz ⟨rfl, rfl⟩
  go_wp2
  go_ret
  exact ⟨rfl, Below.refl _ _⟩
theorem underWay_no (N : Nat) (D : SC) (L : RC) (win : Nat) (S : SY) (w : World) (z : Int) (h : SyIs w N D L win S) (hz : z < 0 ∨ (S.net.length : Int) ≤ z) :
    Calls Tryz.prog 74 #[.pointer (some ⟨D.p, 0, none⟩), .int .i64 z] w fun e w' => e = .returned (.bool false) ∧ w' = w := by
  obtain ⟨a, cap, hnv⟩ := h.net.shape
  have c7 : w.cell? ⟨D.p, 7, none⟩ = some (.slice a S.net.length cap) := (h.at 7).trans (by show some D.nv = _; rw [hnv])
  clear h hnv
  by_cases h0 : (0 : Int) ≤ z
  · have hi' : ¬ z < (S.net.length : Int) := by omega
    clear hz
    go_enter Tryz.func74, Tryz.ntmps74
    go_wp2
    go_ret
    exact ⟨rfl, rfl⟩
  · clear hz
    go_enter Tryz.func74, Tryz.ntmps74
    go_wp2
    go_ret
    exact ⟨rfl, rfl⟩
theorem sdeliver_bad (N : Nat) (D : SC) (L : RC) (win : Nat) (S : SY) (w : World) (z : Int) (h : SyIs w N D L win S) (hz : z < 0 ∨ (S.net.length : Int) ≤ z) :
    Calls Tryz.prog 34 #[.pointer (some ⟨D.p, 0, none⟩), .int .i64 z] w fun e w' => e = .returned (.iface 74 (.int .i64 2)) ∧ Below w.heap.size w w' := by
  have HR := hide (underWay_no N D L win S w z h hz)
  clear h hz
  go_enter Tryz.func34, Tryz.ntmps34
  go_wp2_with fail
  refine HR.out.mono ?_
  rintro e wz ⟨rfl, rfl⟩
  go_wp2
  go_ret
  exact ⟨rfl, Below.refl _ _⟩
theorem slose_bad (N : Nat) (D : SC) (L : RC) (win : Nat) (S : SY) (w : World) (z : Int) (h : SyIs w N D L win S) (hz : z < 0 ∨ (S.net.length : Int) ≤ z) :
    Calls Tryz.prog 35 #[.pointer (some ⟨D.p, 0, none⟩), .int .i64 z] w fun e w' => e = .returned (.iface 74 (.int .i64 2)) ∧ Below w.heap.size w w' := by
  have HR := hide (underWay_no N D L win S w z h hz)
  clear h hz
  go_enter Tryz.func35, Tryz.ntmps35
  go_wp2_with fail
  refine HR.out.mono ?_
  rintro e wz ⟨rfl, rfl⟩
  go_wp2
  go_ret
  exact ⟨rfl, Below.refl _ _⟩
theorem stwice_bad (N : Nat) (D : SC) (L : RC) (win : Nat) (S : SY) (w : World) (z : Int) (h : SyIs w N D L win S) (hz : z < 0 ∨ (S.net.length : Int) ≤ z) :
    Calls Tryz.prog 36 #[.pointer (some ⟨D.p, 0, none⟩), .int .i64 z] w fun e w' => e = .returned (.iface 74 (.int .i64 2)) ∧ Below w.heap.size w w' := by
  have HR := hide (underWay_no N D L win S w z h hz)
  clear h hz
  go_enter Tryz.func36, Tryz.ntmps36
  go_wp2_with fail
  refine HR.out.mono ?_
  rintro e wz ⟨rfl, rfl⟩
  go_wp2
  go_ret
  exact ⟨rfl, Below.refl _ _⟩
theorem slost_any (N : Nat) (D : SC) (L : RC) (win : Nat) (S : SY) (w : World) (h : SyIs w N D L win S) :
    Calls Tryz.prog 183 #[.pointer (some ⟨D.p, 0, none⟩)] w fun e w' => e = .returned (.int .i64 D.lost) ∧ w' = w := by
  have c8 : w.cell? ⟨D.p, 8, none⟩ = some (.int .i64 D.lost) := (h.at 8).trans rfl
  clear h
  go_enter Tryz.func183, Tryz.ntmps183
  go_wp2
  go_ret
  exact ⟨rfl, rfl⟩
set_option maxRecDepth 20000 in
theorem scrash_bad (N : Nat) (D : SC) (L : RC) (win : Nat) (S : SY) (w : World) (z : Int) (hz : isRep z = false) (hL : LOk L) (h : SyIs w N D L win S) :
    Calls Tryz.prog 38 #[.pointer (some ⟨D.p, 0, none⟩), .int .i64 z] w fun e w' => e = .returned (.iface 74 (.int .i64 2)) ∧ Below w.heap.size w w' := by
  have c0 : w.cell? ⟨D.p, 0, none⟩ = some (.int .i64 (L.s : Int)) := (h.at 0).trans rfl
  have c1 : w.cell? ⟨D.p, 1, none⟩ = some (.slice (some ⟨D.g0, 0, none⟩) L.n D.c0) := (h.at 1).trans rfl
  have c2 : w.cell? ⟨D.p, 2, none⟩ = some (.int .i64 (L.d : Int)) := (h.at 2).trans rfl
  have HC := hide (rnew_id z L.s L.d D.g0 0 L.n D.c0 L.zs w hz hL.len hL.ok h.lt0 h.row h.cap0)
  clear h hL
  go_enter Tryz.func38, Tryz.ntmps38
  go_wp2_with fail
  refine HC.out.mono ?_
  rintro e w1 ⟨rfl, hB⟩
  go_wp2
  go_ret
  exact ⟨rfl, hB⟩
end Go.Proofs.YtaablbmgagiajabGreatDoor
namespace Go.Proofs
open Go.Shelf
def Tryz.lays169_ren : Go.Shelf.Ren := ⟨fun | 169 => 63 | n => n, fun | 70 => 102 | 9 => 9 | 0 => 0 | 72 => 104 | 37 => 37 | 127 => 181 | 3 => 3 | 5 => 5 | n => n, fun | n => n⟩
theorem Tryz.lays169 : Go.Proofs.Lays.n169 Tryz.prog Tryz.lays169_ren := {
  mixed := by kernel_rfl
  f169 := Tryz.func63.trans (congrArg some (by kernel_rfl))
  t0 := Tryz.underlying0
  a0 := Tryz.isAgg0
  z0 := Tryz.sizeOf0
  v0 := Tryz.zeroValue0
  t3 := Tryz.underlying3
  a3 := Tryz.isAgg3
  z3 := Tryz.sizeOf3
  v3 := Tryz.zeroValue3
  t9 := Tryz.underlying9
  a9 := Tryz.isAgg9
  z9 := Tryz.sizeOf9
  v9 := Tryz.zeroValue9
  t37 := Tryz.underlying37
  a37 := Tryz.isAgg37
  z37 := Tryz.sizeOf37
  v37 := Tryz.zeroValue37
  t70 := Tryz.underlying102
  a70 := Tryz.isAgg102
  z70 := Tryz.sizeOf102
  v70 := Tryz.zeroValue102
  t72 := Tryz.underlying104
  a72 := Tryz.isAgg104
  z72 := Tryz.sizeOf104
  v72 := Tryz.zeroValue104
  t127 := Tryz.underlying181
  a127 := Tryz.isAgg181
  z127 := Tryz.sizeOf181
  v127 := Tryz.zeroValue181 }
theorem Tryz.Builder_Extra_169 : Builder.Extra Tryz.prog Tryz.lays169_ren := {
  sizeBuilder := by kernel_rfl
  liesBuilder := by kernel_rfl
  t5 := Tryz.underlying5
  a5 := Tryz.isAgg5
  z5 := Tryz.sizeOf5
  v5 := Tryz.zeroValue5
  infoByte := by kernel_rfl
  cellsByte := by kernel_rfl
  sizeByte := by kernel_rfl
  neB5 := by decide }
def Tryz.lays156_ren : Go.Shelf.Ren := ⟨fun | 156 => 186 | 165 => 209 | 166 => 60 | 169 => 63 | 240 => 97 | 241 => 223 | 276 => 162 | 277 => 232 | n => n, fun | 31 => 70 | 9 => 9 | 3 => 3 | 4 => 4 | 0 => 0 | 20 => 20 | 72 => 104 | 76 => 107 | 70 => 102 | 37 => 37 | 75 => 54 | 127 => 181 | 164 => 184 | 5 => 5 | 80 => 110 | n => n, fun | n => n⟩
theorem Tryz.lays156 : Go.Proofs.Lays.n156 Tryz.prog Tryz.lays156_ren := {
  mixed := by kernel_rfl
  f156 := Tryz.func186.trans (congrArg some (by kernel_rfl))
  f165 := Tryz.func209.trans (congrArg some (by kernel_rfl))
  f166 := Tryz.func60.trans (congrArg some (by kernel_rfl))
  f169 := Tryz.func63.trans (congrArg some (by kernel_rfl))
  f240 := Tryz.func97.trans (congrArg some (by kernel_rfl))
  f241 := Tryz.func223.trans (congrArg some (by kernel_rfl))
  f276 := Tryz.func162.trans (congrArg some (by kernel_rfl))
  f277 := Tryz.func232.trans (congrArg some (by kernel_rfl))
  t0 := Tryz.underlying0
  a0 := Tryz.isAgg0
  z0 := Tryz.sizeOf0
  v0 := Tryz.zeroValue0
  t3 := Tryz.underlying3
  a3 := Tryz.isAgg3
  z3 := Tryz.sizeOf3
  v3 := Tryz.zeroValue3
  t4 := Tryz.underlying4
  a4 := Tryz.isAgg4
  z4 := Tryz.sizeOf4
  v4 := Tryz.zeroValue4
  t9 := Tryz.underlying9
  a9 := Tryz.isAgg9
  z9 := Tryz.sizeOf9
  v9 := Tryz.zeroValue9
  t20 := Tryz.underlying20
  a20 := Tryz.isAgg20
  z20 := Tryz.sizeOf20
  v20 := Tryz.zeroValue20
  t31 := Tryz.underlying70
  a31 := Tryz.isAgg70
  z31 := Tryz.sizeOf70
  v31 := Tryz.zeroValue70
  t37 := Tryz.underlying37
  a37 := Tryz.isAgg37
  z37 := Tryz.sizeOf37
  v37 := Tryz.zeroValue37
  t70 := Tryz.underlying102
  a70 := Tryz.isAgg102
  z70 := Tryz.sizeOf102
  v70 := Tryz.zeroValue102
  t72 := Tryz.underlying104
  a72 := Tryz.isAgg104
  z72 := Tryz.sizeOf104
  v72 := Tryz.zeroValue104
  t75 := Tryz.underlying54
  a75 := Tryz.isAgg54
  z75 := Tryz.sizeOf54
  v75 := Tryz.zeroValue54
  t76 := Tryz.underlying107
  a76 := Tryz.isAgg107
  z76 := Tryz.sizeOf107
  v76 := Tryz.zeroValue107
  t127 := Tryz.underlying181
  a127 := Tryz.isAgg181
  z127 := Tryz.sizeOf181
  v127 := Tryz.zeroValue181
  t164 := Tryz.underlying184
  a164 := Tryz.isAgg184
  z164 := Tryz.sizeOf184
  v164 := Tryz.zeroValue184 }
theorem Tryz.Builder_Extra_156 : Builder.Extra Tryz.prog Tryz.lays156_ren := {
  sizeBuilder := by kernel_rfl
  liesBuilder := by kernel_rfl
  t5 := Tryz.underlying5
  a5 := Tryz.isAgg5
  z5 := Tryz.sizeOf5
  v5 := Tryz.zeroValue5
  infoByte := by kernel_rfl
  cellsByte := by kernel_rfl
  sizeByte := by kernel_rfl
  neB5 := by decide }
open Go.RowKit in
theorem Tryz.strings_Join_none (a : Option Addr) (c : Nat) (sep : ByteArray) (w : World) :
    Calls Tryz.prog 186 #[.slice a 0 c, .string sep] w fun e w' => e = .returned (.string ⟨#[]⟩) ∧ w' = w := Any.strings_Join_none Tryz.lays156 Tryz.Builder_Extra_156 a c sep w
open Go.RowKit in
theorem Tryz.strings_Join (bk o c : Nat) (xs : List ByteArray) (sep : ByteArray) (w : World) (hcells : ∀ (j : Nat) x, xs[j]? = some x → w.cell? ⟨bk, o + j, none⟩ = some (.string x)) (hbk : bk < w.heap.size) (hN : xs.length ≤ 140737488355328) (hcap : xs.length ≤ c) (hlen : (Lib.join (xs.map (·.data.toList)) sep.data.toList).length ≤ 140737488355328) :
    Calls Tryz.prog 186 #[.slice (some ⟨bk, o, none⟩) xs.length c, .string sep] w fun e w' => e = .returned (.string ⟨(Lib.join (xs.map (·.data.toList)) sep.data.toList).toArray⟩) ∧ Below w.heap.size w w' := Any.strings_Join Tryz.lays156 Tryz.Builder_Extra_156 bk o c xs sep w hcells hbk hN hcap hlen
def Tryz.lays214_ren : Go.Shelf.Ren := ⟨fun | 214 => 208 | n => n, fun | 4 => 4 | 9 => 9 | n => n, fun | n => n⟩
def Tryz.lays121_ren : Go.Shelf.Ren := ⟨fun | 121 => 185 | 214 => 208 | n => n, fun | 4 => 4 | 9 => 9 | n => n, fun | n => n⟩
theorem Tryz.lays121 : Go.Proofs.Lays.n121 Tryz.prog Tryz.lays121_ren := {
  mixed := by kernel_rfl
  f121 := Tryz.func185.trans (congrArg some (by kernel_rfl))
  f214 := Tryz.func208.trans (congrArg some (by kernel_rfl))
  t4 := Tryz.underlying4
  a4 := Tryz.isAgg4
  z4 := Tryz.sizeOf4
  v4 := Tryz.zeroValue4
  t9 := Tryz.underlying9
  a9 := Tryz.isAgg9
  z9 := Tryz.sizeOf9
  v9 := Tryz.zeroValue9 }
open Go.RowKit in
theorem Tryz.strconv_FormatBool (b : Bool) (w : World) :
    Calls Tryz.prog 185 #[.bool b] w fun e w' => e = .returned (.string ⟨(Lib.formatBool b).toArray⟩) ∧ w' = w := Any.strconv_FormatBool Tryz.lays121 b w
open Go.RowKit in
theorem Tryz.Builder_String_any_k (B b : Nat) (l : List UInt8) (w : World) (h : Lib.IsBuilderF 104 5 B b (Lib.byteCells l) w) (hBw : B ≤ w.heap.size) :
    Calls Tryz.prog 63 #[.pointer (some ⟨b, 0, none⟩)] w fun e w' => e = .returned (.string ⟨l.toArray⟩) ∧ (Lib.IsBuilderF 104 5 B b (Lib.byteCells l) w' ∧ Below B w w' ∧ Lib.OthersKept 5 (some b) w w') := Any.Builder_String_any_k Tryz.lays169 Tryz.Builder_Extra_169 B b l w h hBw
def Tryz.laysM246_ren : Go.Shelf.Ren := ⟨fun | 246 => 181 | 283 => 203 | 284 => 204 | 285 => 205 | 286 => 206 | 129 => 219 | 317 => 218 | 318 => 220 | 319 => 221 | 320 => 222 | 337 => 177 | 338 => 231 | n => n, fun | 2 => 2 | 3 => 3 | 9 => 9 | 4 => 4 | 171 => 281 | 0 => 0 | 53 => 98 | 37 => 37 | 5 => 5 | 173 => 283 | 212 => 290 | 51 => 81 | 20 => 20 | 213 => 291 | 46 => 61 | 232 => 276 | 233 => 305 | n => n, fun | 17 => 3 | 18 => 1 | 19 => 6 | n => n⟩
def Tryz.laysM243_ren : Go.Shelf.Ren := ⟨fun | 243 => 142 | 246 => 181 | 283 => 203 | 284 => 204 | 285 => 205 | 286 => 206 | 129 => 219 | 317 => 218 | 318 => 220 | 319 => 221 | 320 => 222 | 337 => 177 | 338 => 231 | n => n, fun | 3 => 3 | 9 => 9 | 2 => 2 | 4 => 4 | 171 => 281 | 0 => 0 | 53 => 98 | 37 => 37 | 5 => 5 | 173 => 283 | 212 => 290 | 51 => 81 | 20 => 20 | 213 => 291 | 46 => 61 | 232 => 276 | 233 => 305 | n => n, fun | 17 => 3 | 18 => 1 | 19 => 6 | n => n⟩
def Tryz.laysM171_ren : Go.Shelf.Ren := ⟨fun | 171 => 91 | 243 => 142 | 246 => 181 | 283 => 203 | 284 => 204 | 285 => 205 | 286 => 206 | 129 => 219 | 317 => 218 | 318 => 220 | 319 => 221 | 320 => 222 | 337 => 177 | 338 => 231 | n => n, fun | 3 => 3 | 9 => 9 | 2 => 2 | 4 => 4 | 171 => 281 | 0 => 0 | 53 => 98 | 37 => 37 | 5 => 5 | 173 => 283 | 212 => 290 | 51 => 81 | 20 => 20 | 213 => 291 | 46 => 61 | 232 => 276 | 233 => 305 | n => n, fun | 17 => 3 | 18 => 1 | 19 => 6 | n => n⟩
theorem Tryz.laysM171 : Go.Proofs.LaysM.n171 Tryz.prog Tryz.laysM171_ren := {
  mixed := by kernel_rfl
  f129 := Tryz.func219.trans (congrArg some (by kernel_rfl))
  f171 := Tryz.func91.trans (congrArg some (by kernel_rfl))
  f243 := Tryz.func142.trans (congrArg some (by kernel_rfl))
  f246 := Tryz.func181.trans (congrArg some (by kernel_rfl))
  f283 := Tryz.func203.trans (congrArg some (by kernel_rfl))
  f284 := Tryz.func204.trans (congrArg some (by kernel_rfl))
  f285 := Tryz.func205.trans (congrArg some (by kernel_rfl))
  f286 := Tryz.func206.trans (congrArg some (by kernel_rfl))
  f317 := Tryz.func218.trans (congrArg some (by kernel_rfl))
  f318 := Tryz.func220.trans (congrArg some (by kernel_rfl))
  f319 := Tryz.func221.trans (congrArg some (by kernel_rfl))
  f320 := Tryz.func222.trans (congrArg some (by kernel_rfl))
  f337 := Tryz.func177.trans (congrArg some (by kernel_rfl))
  f338 := Tryz.func231.trans (congrArg some (by kernel_rfl))
  t0 := Tryz.underlying0
  a0 := Tryz.isAgg0
  z0 := Tryz.sizeOf0
  v0 := Tryz.zeroValue0
  t2 := Tryz.underlying2
  a2 := Tryz.isAgg2
  z2 := Tryz.sizeOf2
  v2 := Tryz.zeroValue2
  t3 := Tryz.underlying3
  a3 := Tryz.isAgg3
  z3 := Tryz.sizeOf3
  v3 := Tryz.zeroValue3
  t4 := Tryz.underlying4
  a4 := Tryz.isAgg4
  z4 := Tryz.sizeOf4
  v4 := Tryz.zeroValue4
  t5 := Tryz.underlying5
  a5 := Tryz.isAgg5
  z5 := Tryz.sizeOf5
  v5 := Tryz.zeroValue5
  t9 := Tryz.underlying9
  a9 := Tryz.isAgg9
  z9 := Tryz.sizeOf9
  v9 := Tryz.zeroValue9
  t20 := Tryz.underlying20
  a20 := Tryz.isAgg20
  z20 := Tryz.sizeOf20
  v20 := Tryz.zeroValue20
  t37 := Tryz.underlying37
  a37 := Tryz.isAgg37
  z37 := Tryz.sizeOf37
  v37 := Tryz.zeroValue37
  t46 := Tryz.underlying61
  a46 := Tryz.isAgg61
  z46 := Tryz.sizeOf61
  v46 := Tryz.zeroValue61
  t51 := Tryz.underlying81
  a51 := Tryz.isAgg81
  z51 := Tryz.sizeOf81
  v51 := Tryz.zeroValue81
  t53 := Tryz.underlying98
  a53 := Tryz.isAgg98
  z53 := Tryz.sizeOf98
  v53 := Tryz.zeroValue98
  t171 := Tryz.underlying281
  a171 := Tryz.isAgg281
  z171 := Tryz.sizeOf281
  v171 := Tryz.zeroValue281
  t173 := Tryz.underlying283
  a173 := Tryz.isAgg283
  z173 := Tryz.sizeOf283
  v173 := Tryz.zeroValue283
  t212 := Tryz.underlying290
  a212 := Tryz.isAgg290
  z212 := Tryz.sizeOf290
  v212 := Tryz.zeroValue290
  t213 := Tryz.underlying291
  a213 := Tryz.isAgg291
  z213 := Tryz.sizeOf291
  t232 := Tryz.underlying276
  a232 := Tryz.isAgg276
  z232 := Tryz.sizeOf276
  v232 := Tryz.zeroValue276
  t233 := Tryz.underlying305
  a233 := Tryz.isAgg305
  z233 := Tryz.sizeOf305
  v233 := Tryz.zeroValue305
  g17 := by kernel_rfl
  g18 := by kernel_rfl
  g19 := by kernel_rfl
  i0 := by kernel_rfl
  i2 := by kernel_rfl
  i3 := by kernel_rfl
  i4 := by kernel_rfl
  i5 := by kernel_rfl
  i9 := by kernel_rfl
  i20 := by kernel_rfl
  i37 := by kernel_rfl
  i46 := by kernel_rfl
  i51 := by kernel_rfl
  i53 := by kernel_rfl
  i171 := by kernel_rfl
  i173 := by kernel_rfl
  i212 := by kernel_rfl
  i232 := by kernel_rfl
  i233 := by kernel_rfl
  m17 := by kernel_rfl
  m18 := by kernel_rfl
  m19 := by kernel_rfl }
open Go.RowKit Go.Sort Go.Lib in
theorem Tryz.strconv_Itoa (n : Int) (h0 : -9223372036854775808 ≤ n) (h1 : n ≤ 9223372036854775807) (w : World) (htab : Lib.TabIs Tryz.prog w "internal/strconv.uint64pow10" .u64 Lib.pow10Tab) :
    Calls Tryz.prog 91 #[.int .i64 n] w fun e w' => e = .returned (.string ⟨(Lib.itoa n).toArray⟩) ∧ ∃ k os, w' = grow (w.drewN k) os := Any.strconv_Itoa Tryz.laysM171 n h0 h1 w htab
def Tryz.laysM173_ren : Go.Shelf.Ren := ⟨fun | 173 => 190 | 246 => 181 | 283 => 203 | 284 => 204 | 285 => 205 | 286 => 206 | 129 => 219 | 317 => 218 | 318 => 220 | 319 => 221 | 320 => 222 | 337 => 177 | 338 => 231 | n => n, fun | 2 => 2 | 3 => 3 | 9 => 9 | 4 => 4 | 171 => 281 | 0 => 0 | 53 => 98 | 37 => 37 | 5 => 5 | 173 => 283 | 212 => 290 | 51 => 81 | 20 => 20 | 213 => 291 | 46 => 61 | 232 => 276 | 233 => 305 | n => n, fun | 17 => 3 | 18 => 1 | 19 => 6 | n => n⟩
theorem Tryz.laysM173 : Go.Proofs.LaysM.n173 Tryz.prog Tryz.laysM173_ren := {
  mixed := by kernel_rfl
  f129 := Tryz.func219.trans (congrArg some (by kernel_rfl))
  f173 := Tryz.func190.trans (congrArg some (by kernel_rfl))
  f246 := Tryz.func181.trans (congrArg some (by kernel_rfl))
  f283 := Tryz.func203.trans (congrArg some (by kernel_rfl))
  f284 := Tryz.func204.trans (congrArg some (by kernel_rfl))
  f285 := Tryz.func205.trans (congrArg some (by kernel_rfl))
  f286 := Tryz.func206.trans (congrArg some (by kernel_rfl))
  f317 := Tryz.func218.trans (congrArg some (by kernel_rfl))
  f318 := Tryz.func220.trans (congrArg some (by kernel_rfl))
  f319 := Tryz.func221.trans (congrArg some (by kernel_rfl))
  f320 := Tryz.func222.trans (congrArg some (by kernel_rfl))
  f337 := Tryz.func177.trans (congrArg some (by kernel_rfl))
  f338 := Tryz.func231.trans (congrArg some (by kernel_rfl))
  t0 := Tryz.underlying0
  a0 := Tryz.isAgg0
  z0 := Tryz.sizeOf0
  v0 := Tryz.zeroValue0
  t2 := Tryz.underlying2
  a2 := Tryz.isAgg2
  z2 := Tryz.sizeOf2
  v2 := Tryz.zeroValue2
  t3 := Tryz.underlying3
  a3 := Tryz.isAgg3
  z3 := Tryz.sizeOf3
  v3 := Tryz.zeroValue3
  t4 := Tryz.underlying4
  a4 := Tryz.isAgg4
  z4 := Tryz.sizeOf4
  v4 := Tryz.zeroValue4
  t5 := Tryz.underlying5
  a5 := Tryz.isAgg5
  z5 := Tryz.sizeOf5
  v5 := Tryz.zeroValue5
  t9 := Tryz.underlying9
  a9 := Tryz.isAgg9
  z9 := Tryz.sizeOf9
  v9 := Tryz.zeroValue9
  t20 := Tryz.underlying20
  a20 := Tryz.isAgg20
  z20 := Tryz.sizeOf20
  v20 := Tryz.zeroValue20
  t37 := Tryz.underlying37
  a37 := Tryz.isAgg37
  z37 := Tryz.sizeOf37
  v37 := Tryz.zeroValue37
  t46 := Tryz.underlying61
  a46 := Tryz.isAgg61
  z46 := Tryz.sizeOf61
  v46 := Tryz.zeroValue61
  t51 := Tryz.underlying81
  a51 := Tryz.isAgg81
  z51 := Tryz.sizeOf81
  v51 := Tryz.zeroValue81
  t53 := Tryz.underlying98
  a53 := Tryz.isAgg98
  z53 := Tryz.sizeOf98
  v53 := Tryz.zeroValue98
  t171 := Tryz.underlying281
  a171 := Tryz.isAgg281
  z171 := Tryz.sizeOf281
  v171 := Tryz.zeroValue281
  t173 := Tryz.underlying283
  a173 := Tryz.isAgg283
  z173 := Tryz.sizeOf283
  v173 := Tryz.zeroValue283
  t212 := Tryz.underlying290
  a212 := Tryz.isAgg290
  z212 := Tryz.sizeOf290
  v212 := Tryz.zeroValue290
  t213 := Tryz.underlying291
  a213 := Tryz.isAgg291
  z213 := Tryz.sizeOf291
  t232 := Tryz.underlying276
  a232 := Tryz.isAgg276
  z232 := Tryz.sizeOf276
  v232 := Tryz.zeroValue276
  t233 := Tryz.underlying305
  a233 := Tryz.isAgg305
  z233 := Tryz.sizeOf305
  v233 := Tryz.zeroValue305
  g17 := by kernel_rfl
  g18 := by kernel_rfl
  g19 := by kernel_rfl
  i0 := by kernel_rfl
  i2 := by kernel_rfl
  i3 := by kernel_rfl
  i4 := by kernel_rfl
  i5 := by kernel_rfl
  i9 := by kernel_rfl
  i20 := by kernel_rfl
  i37 := by kernel_rfl
  i46 := by kernel_rfl
  i51 := by kernel_rfl
  i53 := by kernel_rfl
  i171 := by kernel_rfl
  i173 := by kernel_rfl
  i212 := by kernel_rfl
  i232 := by kernel_rfl
  i233 := by kernel_rfl
  m17 := by kernel_rfl
  m18 := by kernel_rfl
  m19 := by kernel_rfl }
open Go.RowKit Go.Sort Go.Lib in
theorem Tryz.strconv_FormatInt_10 (n : Int) (h0 : -9223372036854775808 ≤ n) (h1 : n ≤ 9223372036854775807) (w : World) (htab : Lib.TabIs Tryz.prog w "internal/strconv.uint64pow10" .u64 Lib.pow10Tab) :
    Calls Tryz.prog 190 #[.int .i64 n, .int .i64 10] w fun e w' => e = .returned (.string ⟨(Lib.itoa n).toArray⟩) ∧ ∃ k os, w' = grow (w.drewN k) os := Any.strconv_FormatInt_10 Tryz.laysM173 n h0 h1 w htab
def Tryz.laysC245_ren : Go.Shelf.Ren := ⟨fun | 245 => 215 | 279 => 227 | 280 => 228 | 281 => 229 | 282 => 230 | 316 => 235 | 171 => 91 | 205 => 236 | 243 => 142 | 246 => 181 | 283 => 203 | 284 => 204 | 285 => 205 | 286 => 206 | 129 => 219 | 317 => 218 | 318 => 220 | 319 => 221 | 320 => 222 | 337 => 177 | 338 => 231 | n => n, fun | 9 => 9 | 3 => 3 | 75 => 54 | 167 => 294 | 4 => 4 | 168 => 297 | 210 => 303 | 37 => 37 | 0 => 0 | 127 => 181 | 145 => 308 | 143 => 306 | 2 => 2 | 171 => 281 | 53 => 98 | 5 => 5 | 173 => 283 | 212 => 290 | 51 => 81 | 20 => 20 | 213 => 291 | 46 => 61 | 232 => 276 | 233 => 305 | 80 => 110 | n => n, fun | 15 => 4 | 16 => 5 | 17 => 3 | 18 => 1 | 19 => 6 | n => n⟩
def Tryz.laysC174_ren : Go.Shelf.Ren := ⟨fun | 174 => 189 | 247 => 214 | 245 => 215 | 287 => 226 | 279 => 227 | 280 => 228 | 281 => 229 | 282 => 230 | 321 => 233 | 322 => 234 | 316 => 235 | 171 => 91 | 205 => 236 | 243 => 142 | 246 => 181 | 283 => 203 | 284 => 204 | 285 => 205 | 286 => 206 | 129 => 219 | 317 => 218 | 318 => 220 | 319 => 221 | 320 => 222 | 337 => 177 | 338 => 231 | n => n, fun | 9 => 9 | 3 => 3 | 2 => 2 | 75 => 54 | 85 => 268 | 4 => 4 | 167 => 294 | 5 => 5 | 53 => 98 | 175 => 295 | 46 => 61 | 168 => 297 | 37 => 37 | 0 => 0 | 210 => 303 | 21 => 21 | 127 => 181 | 145 => 308 | 143 => 306 | 171 => 281 | 173 => 283 | 212 => 290 | 51 => 81 | 20 => 20 | 213 => 291 | 232 => 276 | 233 => 305 | 80 => 110 | n => n, fun | 15 => 4 | 16 => 5 | 17 => 3 | 18 => 1 | 19 => 6 | n => n⟩
theorem Tryz.laysC174 : Go.Proofs.LaysC.n174 Tryz.prog Tryz.laysC174_ren := {
  mixed := by kernel_rfl
  f129 := Tryz.func219.trans (congrArg some (by kernel_rfl))
  f171 := Tryz.func91.trans (congrArg some (by kernel_rfl))
  f174 := Tryz.func189.trans (congrArg some (by kernel_rfl))
  f205 := Tryz.func236.trans (congrArg some (by kernel_rfl))
  f243 := Tryz.func142.trans (congrArg some (by kernel_rfl))
  f245 := Tryz.func215.trans (congrArg some (by kernel_rfl))
  f246 := Tryz.func181.trans (congrArg some (by kernel_rfl))
  f247 := Tryz.func214.trans (congrArg some (by kernel_rfl))
  f279 := Tryz.func227.trans (congrArg some (by kernel_rfl))
  f280 := Tryz.func228.trans (congrArg some (by kernel_rfl))
  f281 := Tryz.func229.trans (congrArg some (by kernel_rfl))
  f282 := Tryz.func230.trans (congrArg some (by kernel_rfl))
  f283 := Tryz.func203.trans (congrArg some (by kernel_rfl))
  f284 := Tryz.func204.trans (congrArg some (by kernel_rfl))
  f285 := Tryz.func205.trans (congrArg some (by kernel_rfl))
  f286 := Tryz.func206.trans (congrArg some (by kernel_rfl))
  f287 := Tryz.func226.trans (congrArg some (by kernel_rfl))
  f316 := Tryz.func235.trans (congrArg some (by kernel_rfl))
  f317 := Tryz.func218.trans (congrArg some (by kernel_rfl))
  f318 := Tryz.func220.trans (congrArg some (by kernel_rfl))
  f319 := Tryz.func221.trans (congrArg some (by kernel_rfl))
  f320 := Tryz.func222.trans (congrArg some (by kernel_rfl))
  f321 := Tryz.func233.trans (congrArg some (by kernel_rfl))
  f322 := Tryz.func234.trans (congrArg some (by kernel_rfl))
  f337 := Tryz.func177.trans (congrArg some (by kernel_rfl))
  f338 := Tryz.func231.trans (congrArg some (by kernel_rfl))
  t0 := Tryz.underlying0
  a0 := Tryz.isAgg0
  z0 := Tryz.sizeOf0
  v0 := Tryz.zeroValue0
  t2 := Tryz.underlying2
  a2 := Tryz.isAgg2
  z2 := Tryz.sizeOf2
  v2 := Tryz.zeroValue2
  t3 := Tryz.underlying3
  a3 := Tryz.isAgg3
  z3 := Tryz.sizeOf3
  v3 := Tryz.zeroValue3
  t4 := Tryz.underlying4
  a4 := Tryz.isAgg4
  z4 := Tryz.sizeOf4
  v4 := Tryz.zeroValue4
  t5 := Tryz.underlying5
  a5 := Tryz.isAgg5
  z5 := Tryz.sizeOf5
  v5 := Tryz.zeroValue5
  t9 := Tryz.underlying9
  a9 := Tryz.isAgg9
  z9 := Tryz.sizeOf9
  v9 := Tryz.zeroValue9
  t20 := Tryz.underlying20
  a20 := Tryz.isAgg20
  z20 := Tryz.sizeOf20
  v20 := Tryz.zeroValue20
  t21 := Tryz.underlying21
  a21 := Tryz.isAgg21
  z21 := Tryz.sizeOf21
  v21 := Tryz.zeroValue21
  t37 := Tryz.underlying37
  a37 := Tryz.isAgg37
  z37 := Tryz.sizeOf37
  v37 := Tryz.zeroValue37
  t46 := Tryz.underlying61
  a46 := Tryz.isAgg61
  z46 := Tryz.sizeOf61
  v46 := Tryz.zeroValue61
  t51 := Tryz.underlying81
  a51 := Tryz.isAgg81
  z51 := Tryz.sizeOf81
  v51 := Tryz.zeroValue81
  t53 := Tryz.underlying98
  a53 := Tryz.isAgg98
  z53 := Tryz.sizeOf98
  v53 := Tryz.zeroValue98
  t75 := Tryz.underlying54
  a75 := Tryz.isAgg54
  z75 := Tryz.sizeOf54
  v75 := Tryz.zeroValue54
  t85 := Tryz.underlying268
  a85 := Tryz.isAgg268
  z85 := Tryz.sizeOf268
  v85 := Tryz.zeroValue268
  t127 := Tryz.underlying181
  a127 := Tryz.isAgg181
  z127 := Tryz.sizeOf181
  v127 := Tryz.zeroValue181
  t143 := Tryz.underlying306
  a143 := Tryz.isAgg306
  z143 := Tryz.sizeOf306
  v143 := Tryz.zeroValue306
  t145 := Tryz.underlying308
  a145 := Tryz.isAgg308
  z145 := Tryz.sizeOf308
  v145 := Tryz.zeroValue308
  t167 := Tryz.underlying294
  a167 := Tryz.isAgg294
  z167 := Tryz.sizeOf294
  v167 := Tryz.zeroValue294
  t168 := Tryz.underlying297
  a168 := Tryz.isAgg297
  z168 := Tryz.sizeOf297
  v168 := Tryz.zeroValue297
  t171 := Tryz.underlying281
  a171 := Tryz.isAgg281
  z171 := Tryz.sizeOf281
  v171 := Tryz.zeroValue281
  t173 := Tryz.underlying283
  a173 := Tryz.isAgg283
  z173 := Tryz.sizeOf283
  v173 := Tryz.zeroValue283
  t175 := Tryz.underlying295
  a175 := Tryz.isAgg295
  z175 := Tryz.sizeOf295
  v175 := Tryz.zeroValue295
  t210 := Tryz.underlying303
  a210 := Tryz.isAgg303
  z210 := Tryz.sizeOf303
  v210 := Tryz.zeroValue303
  t212 := Tryz.underlying290
  a212 := Tryz.isAgg290
  z212 := Tryz.sizeOf290
  v212 := Tryz.zeroValue290
  t213 := Tryz.underlying291
  a213 := Tryz.isAgg291
  z213 := Tryz.sizeOf291
  t232 := Tryz.underlying276
  a232 := Tryz.isAgg276
  z232 := Tryz.sizeOf276
  v232 := Tryz.zeroValue276
  t233 := Tryz.underlying305
  a233 := Tryz.isAgg305
  z233 := Tryz.sizeOf305
  v233 := Tryz.zeroValue305
  g15 := by kernel_rfl
  g16 := by kernel_rfl
  g17 := by kernel_rfl
  g18 := by kernel_rfl
  g19 := by kernel_rfl
  t80 := Tryz.underlying110
  a80 := Tryz.isAgg110
  z80 := Tryz.sizeOf110
  v80 := Tryz.zeroValue110
  i0 := by kernel_rfl
  i2 := by kernel_rfl
  i3 := by kernel_rfl
  i4 := by kernel_rfl
  i5 := by kernel_rfl
  i9 := by kernel_rfl
  i20 := by kernel_rfl
  i21 := by kernel_rfl
  i37 := by kernel_rfl
  i46 := by kernel_rfl
  i51 := by kernel_rfl
  i53 := by kernel_rfl
  i75 := by kernel_rfl
  i80 := by kernel_rfl
  i85 := by kernel_rfl
  i127 := by kernel_rfl
  i143 := by kernel_rfl
  i145 := by kernel_rfl
  i167 := by kernel_rfl
  i168 := by kernel_rfl
  i171 := by kernel_rfl
  i173 := by kernel_rfl
  i175 := by kernel_rfl
  i210 := by kernel_rfl
  i212 := by kernel_rfl
  i232 := by kernel_rfl
  i233 := by kernel_rfl
  m15 := by kernel_rfl
  m16 := by kernel_rfl
  m17 := by kernel_rfl
  m18 := by kernel_rfl
  m19 := by kernel_rfl
  c0 := by kernel_rfl
  c2 := by kernel_rfl
  c3 := by kernel_rfl
  c4 := by kernel_rfl
  c5 := by kernel_rfl
  c9 := by kernel_rfl
  c20 := by kernel_rfl
  c21 := by kernel_rfl
  c37 := by kernel_rfl
  c46 := by kernel_rfl
  c51 := by kernel_rfl
  c53 := by kernel_rfl
  c75 := by kernel_rfl
  c80 := by kernel_rfl
  c85 := by kernel_rfl
  c127 := by kernel_rfl
  c143 := by kernel_rfl
  c145 := by kernel_rfl
  c167 := by kernel_rfl
  c168 := by kernel_rfl
  c171 := by kernel_rfl
  c173 := by kernel_rfl
  c175 := by kernel_rfl
  c210 := by kernel_rfl
  c212 := by kernel_rfl
  c213 := by kernel_rfl
  c232 := by kernel_rfl
  c233 := by kernel_rfl }
open Go.RowKit in
theorem Tryz.strconv_ParseInt_10_at64_ok (s : ByteArray) (hmax : s.size ≤ 9223372036854775806) (v : Int) (h : Lib.parseIntB 64 s.data.toList = .ok v) (w : World) :
    Calls Tryz.prog 189 #[.string s, .int .i64 10, .int .i64 64] w fun e w' => e = .returned (.tuple #[.int .i64 v, .nilIface]) ∧ (w' = w ∨ ∃ t, w' = Lib.bytesWorld w 5 t) := Any.strconv_ParseInt_10_at64_ok Tryz.laysC174 s hmax v h w
open Go.RowKit in
theorem Tryz.strconv_ParseInt_10_at64_syntax_var (s : ByteArray) (hlim : s.size ≤ 281474976710656) (h : Lib.parseIntB 64 s.data.toList = .«syntax») (tp : TypeId) (p : Value) (w : World) (hvar : w.var? Tryz.prog "strconv.ErrSyntax" = some #[.iface tp p]) :
    Calls Tryz.prog 189 #[.string s, .int .i64 10, .int .i64 64] w fun e w' => ∃ N, e = .returned (.tuple #[.int .i64 (0), .iface 297 (.pointer (some ⟨N, 0, none⟩))]) ∧ w.heap.size ≤ N ∧ w'.heap[N]? = some (.cells #[.string ⟨#[80, 97, 114, 115, 101, 73, 110, 116]⟩, .string s, .iface tp p] 303 (0, 0)) ∧ Below w.heap.size w w' := Any.strconv_ParseInt_10_at64_syntax_var Tryz.laysC174 s hlim h tp p w hvar
open Go.RowKit in
theorem Tryz.strconv_ParseInt_10_at64_range_var (s : ByteArray) (hlim : s.size ≤ 281474976710656) (h : Lib.parseIntB 64 s.data.toList = .range) (tp : TypeId) (p : Value) (w : World) (hvar : w.var? Tryz.prog "strconv.ErrRange" = some #[.iface tp p]) :
    Calls Tryz.prog 189 #[.string s, .int .i64 10, .int .i64 64] w fun e w' => ∃ N, e = .returned (.tuple #[.int .i64 (Lib.intSat 64 s.data.toList), .iface 297 (.pointer (some ⟨N, 0, none⟩))]) ∧ w.heap.size ≤ N ∧ w'.heap[N]? = some (.cells #[.string ⟨#[80, 97, 114, 115, 101, 73, 110, 116]⟩, .string s, .iface tp p] 303 (0, 0)) ∧ Below w.heap.size w w' := Any.strconv_ParseInt_10_at64_range_var Tryz.laysC174 s hlim h tp p w hvar
def Tryz.lays219_ren : Go.Shelf.Ren := ⟨fun | 219 => 188 | 217 => 210 | 225 => 211 | 224 => 212 | 267 => 213 | 266 => 224 | 314 => 225 | n => n, fun | 9 => 9 | 3 => 3 | 4 => 4 | 5 => 5 | 46 => 61 | 146 => 292 | 51 => 81 | n => n, fun | 1 => 2 | n => n⟩
theorem Tryz.lays219 : Go.Proofs.Lays.n219 Tryz.prog Tryz.lays219_ren := {
  mixed := by kernel_rfl
  f217 := Tryz.func210.trans (congrArg some (by kernel_rfl))
  f219 := Tryz.func188.trans (congrArg some (by kernel_rfl))
  f224 := Tryz.func212.trans (congrArg some (by kernel_rfl))
  f225 := Tryz.func211.trans (congrArg some (by kernel_rfl))
  f266 := Tryz.func224.trans (congrArg some (by kernel_rfl))
  f267 := Tryz.func213.trans (congrArg some (by kernel_rfl))
  f314 := Tryz.func225.trans (congrArg some (by kernel_rfl))
  t3 := Tryz.underlying3
  a3 := Tryz.isAgg3
  z3 := Tryz.sizeOf3
  v3 := Tryz.zeroValue3
  t4 := Tryz.underlying4
  a4 := Tryz.isAgg4
  z4 := Tryz.sizeOf4
  v4 := Tryz.zeroValue4
  t5 := Tryz.underlying5
  a5 := Tryz.isAgg5
  z5 := Tryz.sizeOf5
  v5 := Tryz.zeroValue5
  t9 := Tryz.underlying9
  a9 := Tryz.isAgg9
  z9 := Tryz.sizeOf9
  v9 := Tryz.zeroValue9
  t46 := Tryz.underlying61
  a46 := Tryz.isAgg61
  z46 := Tryz.sizeOf61
  v46 := Tryz.zeroValue61
  t51 := Tryz.underlying81
  a51 := Tryz.isAgg81
  z51 := Tryz.sizeOf81
  v51 := Tryz.zeroValue81
  t146 := Tryz.underlying292
  a146 := Tryz.isAgg292
  z146 := Tryz.sizeOf292
  v146 := Tryz.zeroValue292
  g1 := by kernel_rfl }
open Go.RowKit Go.Lib in
theorem Tryz.stringslite_Index_one (s : ByteArray) (c : UInt8) (w : World) :
    Calls Tryz.prog 188 #[.string s, .string ⟨#[c]⟩] w fun e w' => e = .returned (.int .i64 (Lib.indexByte s.data.toList c)) ∧ w' = w := Any.stringslite_Index_one Tryz.lays219 s c w
def Tryz.lays207_ren : Go.Shelf.Ren := ⟨fun | 207 => 187 | n => n, fun | 9 => 9 | 4 => 4 | 3 => 3 | n => n, fun | n => n⟩
def Tryz.lays102_ren : Go.Shelf.Ren := ⟨fun | 102 => 95 | 209 => 160 | 207 => 187 | n => n, fun | 9 => 9 | 4 => 4 | 3 => 3 | n => n, fun | n => n⟩
theorem Tryz.lays102 : Go.Proofs.Lays.n102 Tryz.prog Tryz.lays102_ren := {
  mixed := by kernel_rfl
  f102 := Tryz.func95.trans (congrArg some (by kernel_rfl))
  f207 := Tryz.func187.trans (congrArg some (by kernel_rfl))
  f209 := Tryz.func160.trans (congrArg some (by kernel_rfl))
  t3 := Tryz.underlying3
  a3 := Tryz.isAgg3
  z3 := Tryz.sizeOf3
  v3 := Tryz.zeroValue3
  t4 := Tryz.underlying4
  a4 := Tryz.isAgg4
  z4 := Tryz.sizeOf4
  v4 := Tryz.zeroValue4
  t9 := Tryz.underlying9
  a9 := Tryz.isAgg9
  z9 := Tryz.sizeOf9
  v9 := Tryz.zeroValue9 }
open Go.RowKit Go.Lib in
theorem Tryz.strings_TrimSuffix (s p : ByteArray) (w : World) (hs : s.size ≤ 9223372036854775807) :
    Calls Tryz.prog 95 #[.string s, .string p] w fun e w' => e = .returned (.string ⟨(Lib.trimSuffix s.data.toList p.data.toList).toArray⟩) ∧ w' = w := Any.strings_TrimSuffix Tryz.lays102 s p w hs
def Tryz.lays229_ren : Go.Shelf.Ren := ⟨fun | 229 => 99 | n => n, fun | 9 => 9 | 40 => 176 | 31 => 70 | 152 => 226 | 3 => 3 | 0 => 0 | 4 => 4 | 21 => 21 | 154 => 228 | n => n, fun | n => n⟩
theorem Tryz.lays229 : Go.Proofs.Lays.n229 Tryz.prog Tryz.lays229_ren := {
  mixed := by kernel_rfl
  f229 := Tryz.func99.trans (congrArg some (by kernel_rfl))
  t0 := Tryz.underlying0
  a0 := Tryz.isAgg0
  z0 := Tryz.sizeOf0
  v0 := Tryz.zeroValue0
  t3 := Tryz.underlying3
  a3 := Tryz.isAgg3
  z3 := Tryz.sizeOf3
  v3 := Tryz.zeroValue3
  t4 := Tryz.underlying4
  a4 := Tryz.isAgg4
  z4 := Tryz.sizeOf4
  v4 := Tryz.zeroValue4
  t9 := Tryz.underlying9
  a9 := Tryz.isAgg9
  z9 := Tryz.sizeOf9
  v9 := Tryz.zeroValue9
  t21 := Tryz.underlying21
  a21 := Tryz.isAgg21
  z21 := Tryz.sizeOf21
  v21 := Tryz.zeroValue21
  t31 := Tryz.underlying70
  a31 := Tryz.isAgg70
  z31 := Tryz.sizeOf70
  v31 := Tryz.zeroValue70
  t40 := Tryz.underlying176
  a40 := Tryz.isAgg176
  z40 := Tryz.sizeOf176
  v40 := Tryz.zeroValue176
  t152 := Tryz.underlying226
  a152 := Tryz.isAgg226
  z152 := Tryz.sizeOf226
  v152 := Tryz.zeroValue226
  t154 := Tryz.underlying228
  a154 := Tryz.isAgg228
  z154 := Tryz.sizeOf228
  v154 := Tryz.zeroValue228 }
open Go.RowKit Go.Lib in
theorem Tryz.strings_FieldsFunc (g : Nat) (lb : Array Value) (eg : ∀ args w, (callFunc g args).run Tryz.prog w = .ok (.enter g args) w) (p : Nat → Bool) (s : ByteArray) (w : World) (hs : s.size ≤ 4294967296) (hp : PredAt Tryz.prog g lb encR p w) :
    Calls Tryz.prog 99 #[.string s, .func (.func g) #[] lb] w fun e w' => ∃ A, e = .returned (.slice (some ⟨A, 0, none⟩) (Lib.goFieldsP p s).length (Lib.goFieldsP p s).length) ∧ w.heap.size ≤ A ∧
      w'.ownsRow w.heap.size 9 1 (.slice (some ⟨A, 0, none⟩) (Lib.goFieldsP p s).length (Lib.goFieldsP p s).length) (Lib.goFieldsP p s).length ((Lib.goFieldsP p s).map Value.string) ∧ Below w.heap.size w w' := Any.strings_FieldsFunc Tryz.lays229 g lb eg p s w hs hp (by kernel_rfl) (by kernel_rfl)
end Go.Proofs
namespace Go.Proofs.YtaablbmgagiajabGreatDoor
open Go.RowKit Go.Deep Go.Sort
abbrev txt (l : List UInt8) : ByteArray := ⟨l.toArray⟩
theorem txt_add (a b : List UInt8) : txt a ++ txt b = txt (a ++ b) := by
  apply ByteArray.ext
  simp [txt, ByteArray.data_append]
theorem txt_list (l : List UInt8) : (txt l).data.toList = l := rfl
theorem txt_size (l : List UInt8) : (txt l).size = l.length := rfl
theorem below_grow (w : World) (k : Nat) (os : Array Obj) : Below w.heap.size w (grow (w.drewN k) os) :=
  ⟨rfl, rfl, rfl, by simp [grow], fun i hi => by
    show (w.heap ++ os)[i]? = w.heap[i]?
    rw [Array.getElem?_append_left hi]⟩
theorem var_below {w w' : World} {n : String} {g : Nat} (hg : Tryz.prog.globalNamed n = some g) {cs : Array Value} (h : w.var? Tryz.prog n = some cs) (hB : Below w.heap.size w w') : w'.var? Tryz.prog n = some cs := by
  unfold World.var? at h ⊢
  rw [hg] at h ⊢
  simp only [Option.bind_some] at h ⊢
  cases hh : w.heap[g]? with
  | none => rw [hh] at h; cases h
  | some o => rw [hB.block g (Array.getElem?_eq_some_iff.1 hh).1]; exact h
def HasPow (w : World) : Prop := Lib.TabIs Tryz.prog w "internal/strconv.uint64pow10" .u64 Lib.pow10Tab
theorem powG : Tryz.prog.globalNamed "internal/strconv.uint64pow10" = some 3 := by kernel_rfl
theorem HasPow.below {w w' : World} (h : HasPow w) (hB : Below w.heap.size w w') : HasPow w' := var_below powG h hB
def IntIn (z : Int) : Prop := -9223372036854775808 ≤ z ∧ z ≤ 9223372036854775807
def spF (l : List Int) : List UInt8 := Lib.join (l.map Lib.itoa) [32]
def errF (n : Int) : List UInt8 := [101, 114, 114, 111, 114, 32] ++ Lib.itoa n
theorem itoa_any (z : Int) (w : World) (hz : IntIn z) (hp : HasPow w) :
    Calls Tryz.prog 91 #[.int .i64 z] w fun e w' => e = .returned (.string (txt (Lib.itoa z))) ∧ Below w.heap.size w w' := by
  refine (Tryz.strconv_Itoa z hz.1 hz.2 w hp).mono ?_
  rintro e w' ⟨he, k, os, rfl⟩
  exact ⟨he, below_grow w k os⟩
set_option maxHeartbeats 1000000 in
theorem wrong_any (z : Int) (w : World) (hz : IntIn z) (hp : HasPow w) :
    Calls Tryz.prog 57 #[.int .i64 z] w fun e w' => e = .returned (.string (txt (errF z))) ∧ Below w.heap.size w w' := by
  have HI := hide (itoa_any z w hz hp)
  have hl := Lib.itoa_length_le z hz.1 hz.2
  have hni : ¬ 9223372036854775807 < 6 + (Lib.itoa z).length := by omega
  clear hp
  go_enter Tryz.func57, Tryz.ntmps57
  go_wp2_with (go_at_call 91; refine HI.out.mono ?_; rintro e w1 ⟨rfl, hB⟩)
  go_ret
  exact ⟨by rw [show errF z = [101, 114, 114, 111, 114, 32] ++ Lib.itoa z from rfl, ← txt_add]; rfl, hB⟩
def spRow (l : List Int) (k j : Nat) : Value := if j < k then .string (txt (Lib.itoa (l[j]?.getD 0))) else .string ⟨#[]⟩
structure SpInv (w wr : World) (M n : Nat) (l : List Int) (k : Nat) : Prop where
  old : Below w.heap.size w wr
  row : wr.rowIs M 9 n (spRow l k)
theorem SpInv.put {w wr : World} {M n k : Nat} {l : List Int} (h : SpInv w wr M n l k) (hM : w.heap.size ≤ M) : SpInv w (wr.setCell ⟨M, k, none⟩ (.string (txt (Lib.itoa (l[k]?.getD 0))))) M n l (k + 1) := by
  refine ⟨h.old.setCell hM _, (h.row.set k _).congr fun j _ => ?_⟩
  unfold spRow
  by_cases e : j = k
  · subst e; rw [if_pos rfl, if_pos (by omega)]
  · rw [if_neg e]
    by_cases e2 : j < k
    · rw [if_pos e2, if_pos (by omega)]
    · rw [if_neg e2, if_neg (by omega)]
theorem SpInv.below {w wr wx : World} {M n k : Nat} {l : List Int} (h : SpInv w wr M n l k) (hB : Below wr.heap.size wr wx) : SpInv w wx M n l k :=
  ⟨h.old.trans (hB.mono h.old.size), h.row.of_block (hB.block _ h.row.lt)⟩
theorem infoStr : (Tryz.prog.info? 9).map (fun i => (i.zero, i.size, i.bytes)) = some (some (.string ⟨#[]⟩), 1, 16) := by kernel_rfl
theorem join_few : ∀ (l : List Int), (∀ z ∈ l, IntIn z) → (spF l).length ≤ 22 * l.length
  | [], _ => by simp [spF, Lib.join, List.intercalate]
  | z :: r, h => by
    have hz := Lib.itoa_length_le z (h z (by simp)).1 (h z (by simp)).2
    have ih := join_few r fun y hy => h y (by simp [hy])
    unfold spF at ih ⊢
    rw [List.map_cons]
    cases r with
    | nil => simp [Lib.join, List.intercalate]; omega
    | cons y r =>
      rw [Lib.join_cons]
      rw [List.map_cons, Lib.join_cons] at ih
      rw [List.map_cons]
      have e : Lib.joinTail [32] (Lib.itoa y :: List.map Lib.itoa r) = [32] ++ (Lib.itoa y ++ Lib.joinTail [32] (List.map Lib.itoa r)) := by simp [Lib.joinTail]
      rw [e]
      simp only [List.length_append, List.length_cons, List.length_nil] at ih ⊢
      omega
set_option maxHeartbeats 1000000 in
theorem spaced_any (l : List Int) (a : Option Addr) (n cap : Nat) (w : World) (hs : IsSl w a n cap l) (hl : ∀ z ∈ l, IntIn z) (hn : n ≤ 20000) (hp : HasPow w) :
    Calls Tryz.prog 182 #[.slice a n cap] w fun e w' => e = .returned (.string (txt (spF l))) ∧ Below w.heap.size w w' := by
  obtain ⟨h1, h2, h3⟩ := hs
  have hmk := run_make_row' (P := Tryz.prog) 70 9 (.string ⟨#[]⟩) 16 Tryz.underlying70 infoStr rfl .i64 .i64 n (by omega) (by omega)
  have HI0 : Hid (SpInv w (w.alloc (.cells (madeCells #[.string ⟨#[]⟩] n) 9)) w.heap.size n l 0) := hide ⟨(Below.refl _ _).alloc (Nat.le_refl _) _, (World.rowIs_made w _ _ _).congr fun k _ => by unfold spRow; rw [if_neg (by omega)]⟩
  have HP := hide hp
  have HL := hide hl
  have H3 := hide h3
  clear hp hl h3
  go_enter Tryz.func182, Tryz.ntmps182
  go_wp2
  clear hmk
  obtain ⟨M, hM⟩ : ∃ M, Hid (w.heap.size = M) := ⟨_, hide rfl⟩
  rw [hM.out] at HI0 ⊢
  go_loopw [11] (fun i wr => ∃ k : Nat, k ≤ n ∧ i = .int .i64 k ∧ SpInv w wr M n l k) (fun i _ => n - (intOf i).toNat)
  case atStart => exact ⟨0, Nat.zero_le _, rfl, HI0.out⟩
  case round =>
    clear HI0
    obtain ⟨k, hk, rfl, hI⟩ := hrel
    by_cases hlt : k < n
    · have hkl : k < l.length := by omega
      obtain ⟨b, off, rfl, hb, hr⟩ : ∃ b off, a = some ⟨b, off, none⟩ ∧ b < w.heap.size ∧ Row w b off l := by
        rcases H3.out with e | e
        · rw [e] at hkl; simp at hkl
        · exact e
      obtain ⟨z, hz, hcell⟩ := Row.at (hr.below hb hI.old) hkl
      have hzi : IntIn z := by
        rw [← hz.out, List.getElem?_eq_getElem hkl]
        exact HL.out _ (List.getElem_mem hkl)
      have HC : Hid (Calls Tryz.prog 91 #[.int .i64 z] wr fun e w' => e = .returned (.string (txt (Lib.itoa z))) ∧ (w'.cell? ⟨M, k, none⟩ = some (.string ⟨#[]⟩) ∧ w'.frozen? ⟨M, k, none⟩ = false) ∧ Hid (SpInv w (w'.setCell ⟨M, k, none⟩ (.string (txt (Lib.itoa z)))) M n l (k + 1))) := hide (by
        refine (itoa_any z wr hzi (HP.out.below hI.old)).mono ?_
        rintro e w' ⟨he, hB⟩
        have hI' := hI.below hB
        refine ⟨he, ⟨?_, hI'.row.frozen k⟩, hide ?_⟩
        · rw [hI'.row.cell hlt]; unfold spRow; rw [if_neg (by omega)]
        · have := hI'.put (by rw [hM.out]; exact Nat.le_refl _)
          rw [hz.out] at this
          exact this)
      clear hI hzi hr
      go_wp2_with (go_at_call 91; refine HC.out.mono ?_; rintro e w1 ⟨rfl, ⟨g0, g1⟩, HG⟩)
      go_roundw
      case rel => exact ⟨k + 1, by omega, by go_num, HG.out⟩
      case measure => simp [intOf]; omega
    · have ek : k = n := by omega
      subst ek
      have hxs : ∀ (j : Nat) x, (l.map fun z => txt (Lib.itoa z))[j]? = some x → wr.cell? ⟨M, 0 + j, none⟩ = some (.string x) := fun j x hx => by
        rw [List.getElem?_map] at hx
        obtain ⟨z, hz1, rfl⟩ := Option.map_eq_some_iff.1 hx
        have hj := (List.getElem?_eq_some_iff.1 hz1).1
        rw [Nat.zero_add, hI.row.cell (by omega)]
        unfold spRow
        rw [if_pos (by omega), hz1]; rfl
      have hjl : Lib.join ((l.map fun z => txt (Lib.itoa z)).map (·.data.toList)) [32] = spF l := by
        unfold spF
        rw [List.map_map]
        rfl
      have HJ : Hid (Calls Tryz.prog 186 #[.slice (some ⟨M, 0, none⟩) k k, .string ⟨#[32]⟩] wr fun e w' => e = .returned (.string (txt (spF l))) ∧ Below wr.heap.size wr w') := hide (by
        have hlm : (l.map fun z => txt (Lib.itoa z)).length = k := by rw [List.length_map]; exact h1
        have hj := Tryz.strings_Join M 0 k (l.map fun z => txt (Lib.itoa z)) ⟨#[32]⟩ wr hxs hI.row.lt (by omega) (by omega) (by
          show (Lib.join _ [32]).length ≤ _
          rw [hjl]
          have := join_few l HL.out
          omega)
        rw [hlm] at hj
        show Calls _ _ _ _ fun e w' => e = .returned (.string (txt (spF l))) ∧ _
        rw [← hjl]
        exact hj)
      have HO := hide hI.old
      clear hI hxs hjl
      go_wp2_with (go_at_call 186; refine HJ.out.mono ?_; rintro e w1 ⟨rfl, hB1⟩)
      go_ret
      exact ⟨rfl, HO.out.trans (hB1.mono HO.out.size)⟩
end Go.Proofs.YtaablbmgagiajabGreatDoor
namespace Go.Proofs.YtaablbmgagiajabGreatDoor
open Go.RowKit Go.Deep
theorem append_text_lies {P : Program} (w : World) (base : Nat) (t u ty e : TypeId) (i : TypeInfo) (ht : P.underlying t = some (.slice e)) (hu : P.underlying u = some .string) (hi : P.info? e = some i) (hz : i.zero = some (.int .u8 0)) (hsize : i.size = 1) (hby : i.bytes = 1)
    (v : Value) (n : Nat) (xs : List Value) (hown : w.ownsRow base e 1 v n xs) (s : ByteArray) (hl : n + s.size ≤ 1000000000) {v' : Value} {w' : World} (hr : (Builtin.append_ #[t, u] ty #[v, .string s]).run P w = .ok v' w') (h0 : v = .slice none 0 0 → s.size = 0 → v' = .slice none 0 0) :
    v'.ownBlock = v.ownBlock ∨ v'.ownBlock = some w.heap.size := by
  have hxl : xs.length = n := by simpa using hown.1
  rcases hown.2 with ⟨rfl, rfl⟩ | ⟨g, cap, cur, rfl, hbg, hg, hnc, hcm, hcs, htake⟩
  · by_cases hm : s.size = 0
    · rw [h0 rfl hm]; exact .inl rfl
    · have h2 := run_append_nil_string (P := P) w t u ty e i (.int .u8 0) ht hu hi hz s (by omega) (by omega) (by rw [hby]; omega)
      rw [h2] at hr
      obtain ⟨rfl, _⟩ := Result.ok.inj hr
      exact .inr rfl
  · by_cases hroom : n + s.size ≤ cap
    · have hcs' : cur.size = cap := by simpa using hcs
      have h2 := Lib.run_append_room_string (P := P) w t u ty e i ht hu hi hsize g n cap cur hg s hroom (by omega)
      rw [h2] at hr
      obtain ⟨rfl, _⟩ := Result.ok.inj hr
      exact .inl rfl
    · have holds : ∀ j u, xs[j]? = some u → w.cell? ((⟨g, 0, none⟩ : Addr).add j) = some u := hown.cells (g := g) rfl
      have h2 := Lib.run_append_grow_string (P := P) w t u ty e i (.int .u8 0) ht hu hi hz ⟨g, 0, none⟩ n cap xs (by rw [hsize]; simpa using hxl) holds s (by omega) (by omega) (by rw [hby]; exact growslice_fits (by omega) (by omega))
      rw [h2] at hr
      obtain ⟨rfl, _⟩ := Result.ok.inj hr
      exact .inr rfl
theorem wpList_append_text {ops : Array Oper} {rest : List Oper} {o : Oper} {a : Act} {w : World} {Q : Exit → Act → World → Prop} (hgd : o.guard = none) (sl x : Operand) (ho : o.op = .call { callee := .builtin .append, args := #[sl, x], argTypes := #[37, 9] })
    (base : Nat) (v : Value) (n : Nat) (xs : List Value) (hs : a.eval sl = v) (hown : w.ownsRow base 5 1 v n xs) (s : ByteArray) (hx : a.eval x = .string s) (hl : n + s.size ≤ 1000000000) (hbase : base ≤ w.heap.size)
    (h : ∀ v' w', w'.ownsRow base 5 1 v' (n + s.size) (xs ++ Lib.strCells s) → w.grownBy w' v.ownBlock → (v'.ownBlock = v.ownBlock ∨ v'.ownBlock = some w.heap.size) → wpList Tryz.prog ops Q rest (a.put o.dst v') w') : wpList Tryz.prog ops Q (o :: rest) a w := by
  obtain ⟨i0, hi, hz0, hz1, hz2⟩ := info_parts Tryz.Builder_Extra_156.infoByte
  refine wpList_plain hgd fun K hK => ?_
  obtain ⟨v', w', hr, h2, h3, h4⟩ := Lib.run_append_own_string (P := Tryz.prog) w base 37 9 o.type 5 i0 Tryz.underlying37 Tryz.underlying9 hi hz0 hz1 hz2 v n xs hown s (by unfold maxLen; omega) (by omega) hbase
  have h5 := append_text_lies w base 37 9 o.type 5 i0 Tryz.underlying37 Tryz.underlying9 hi hz0 hz1 hz2 v n xs hown s hl hr (fun e1 e2 => h4.2 ⟨e1, e2⟩)
  unfold Oper.wp execOp
  simp only [ho, resolve, invoke, builtin, Sem.run_bind, Sem.run_pure, Result.andThen_ok, List.map_toArray, List.map_cons, List.map_nil, hs, hx, hr]
  exact hK _ _ (h v' w' h2 h3 h5)
structure BdIs (w : World) (N b : Nat) (v : Value) (l : List UInt8) : Prop where
  ge : N ≤ b
  blk : ∃ p, (p = .pointer none ∨ p = .pointer (some ⟨b, 0, none⟩)) ∧ w.heap[b]? = some (.cells #[p, v] 104 (0, 0))
  row : w.ownsRow N 5 1 v l.length (Lib.byteCells l)
  ne : v.ownBlock ≠ some b
def BdW (b : Nat) (v : Value) (k : Nat) : Prop := k = b ∨ v.ownBlock = some k
def BdGo (w w' : World) (N b : Nat) (v : Value) (l : List UInt8) : Prop := ∃ v', BdIs w' N b v' l ∧ Mod w w' (BdW b v) ∧ Moved w v v'
theorem BdIs.lt {w : World} {N b : Nat} {v : Value} {l : List UInt8} (h : BdIs w N b v l) : b < w.heap.size := by
  obtain ⟨p, _, hb⟩ := h.blk
  exact blk_lt hb
theorem BdIs.mod {w w' : World} {N b : Nat} {v : Value} {l : List UInt8} (h : BdIs w N b v l) {T : Nat → Prop} (hm : Mod w w' T) (hT : ∀ k, BdW b v k → ¬ T k) : BdIs w' N b v l := by
  obtain ⟨p, hp, hb⟩ := h.blk
  refine ⟨h.ge, ⟨p, hp, (hm.block b h.lt (hT b (.inl rfl))).trans hb⟩, ⟨h.row.1, ?_⟩, h.ne⟩
  rcases h.row.2 with h2 | ⟨g, cap, cur, e, h3, hc, h5⟩
  · exact .inl h2
  · exact .inr ⟨g, cap, cur, e, h3, (hm.block g (blk_lt hc) (hT g (.inr (by rw [e]; rfl)))).trans hc, h5⟩
theorem BdIs.below {w w' : World} {N b : Nat} {v : Value} {l : List UInt8} (h : BdIs w N b v l) (hB : Below w.heap.size w w') : BdIs w' N b v l := h.mod (Mod.ofBelow hB (fun _ => False)) (fun _ _ x => x)
theorem BdIs.new (w : World) : BdIs (w.alloc (.cells #[.pointer none, .slice none 0 0] 104)) w.heap.size w.heap.size (.slice none 0 0) [] :=
  ⟨Nat.le_refl _, ⟨_, .inl rfl, blk_new _ _⟩, World.ownsRow_nil _ _ _ _, by simp [Value.ownBlock]⟩
theorem copyCheck_any (N b : Nat) (v : Value) (l : List UInt8) (w : World) (h : BdIs w N b v l) :
    Calls Tryz.prog 97 #[.pointer (some ⟨b, 0, none⟩)] w fun e w' => e = .returned (.tuple #[]) ∧ w'.heap[b]? = some (.cells #[.pointer (some ⟨b, 0, none⟩), v] 104 (0, 0)) ∧ BdIs w' N b v l ∧ Mod w w' (BdW b v) := by
  obtain ⟨p, hp, hb⟩ := h.blk
  rcases hp with rfl | rfl
  · refine (Any.Builder_copyCheck_fresh (P := Tryz.prog) (ρ := Tryz.lays156_ren) { Tryz.lays156 with } Tryz.Builder_Extra_156.toX72 b w ((blk_cell hb 0).trans rfl) ?_ (blk_free hb 0)).mono ?_
    · simp [World.shape?, hb]
      rfl
    · rintro e w' ⟨he, rfl⟩
      have hb' := blk_set hb 0 (.pointer (some ⟨b, 0, none⟩))
      have hm : Mod w (w.setCell ⟨b, 0, none⟩ (.pointer (some ⟨b, 0, none⟩))) (· = b) := (Mod.refl _ _).set _ _ (fun _ => rfl)
      refine ⟨he, hb', ⟨h.ge, ⟨_, .inr rfl, hb'⟩, ⟨h.row.1, ?_⟩, h.ne⟩, hm.mono fun k _ e => .inl e⟩
      rcases h.row.2 with h2 | ⟨g, cap, cur, e, h3, hc, h5⟩
      · exact .inl h2
      · refine .inr ⟨g, cap, cur, e, h3, (hm.block g (blk_lt hc) fun x => h.ne (by rw [e, ← x]; rfl)).trans hc, h5⟩
  · refine (Any.Builder_copyCheck_used (P := Tryz.prog) (ρ := Tryz.lays156_ren) { Tryz.lays156 with } Tryz.Builder_Extra_156.toX72 b w ((blk_cell hb 0).trans rfl)).mono ?_
    rintro e w' ⟨he, rfl⟩
    exact ⟨he, hb, h, Mod.refl _ _⟩
theorem BdIs.put {w w1 w2 : World} {N b : Nat} {v v' : Value} {l l' : List UInt8} (h : BdIs w1 N b v l) (hm : Mod w w1 (BdW b v)) (hb2 : w2.heap[b]? = some (.cells #[.pointer (some ⟨b, 0, none⟩), v] 104 (0, 0))) (hg : w1.grownBy w2 v.ownBlock) (hat : v'.ownBlock = v.ownBlock ∨ v'.ownBlock = some w1.heap.size) (hown : w2.ownsRow N 5 1 v' l'.length (Lib.byteCells l')) :
    BdGo w (w2.setCell ⟨b, 1, none⟩ v') N b v l' := by
  have hne : v'.ownBlock ≠ some b := by
    rcases hat with e | e
    · rw [e]; exact h.ne
    · rw [e]; intro x; have := h.lt; have := Option.some.inj x; omega
  have hm2 : Mod w w2 (BdW b v) := hm.grown hg fun k _ e => .inr e
  have hm3 : Mod w2 (w2.setCell ⟨b, 1, none⟩ v') (· = b) := (Mod.refl _ _).set _ _ (fun _ => rfl)
  refine ⟨v', ⟨h.ge, ⟨_, .inr rfl, blk_set hb2 1 v'⟩, ⟨hown.1, ?_⟩, hne⟩, hm2.then hm3 fun _ _ e => .inl e, fun g hg' => ?_⟩
  · rcases hown.2 with h2 | ⟨g, cap, cur, e, h3, hc, h5⟩
    · exact .inl h2
    · exact .inr ⟨g, cap, cur, e, h3, (hm3.block g (blk_lt hc) fun x => hne (by rw [e, ← x]; rfl)).trans hc, h5⟩
  · rcases hat with e | e
    · rw [e] at hg'; exact .inl hg'
    · rw [e] at hg'
      have := Option.some.inj hg'
      have := hm.size
      exact .inr (by omega)
set_option maxHeartbeats 1000000 in
theorem writeString_any (N b : Nat) (v : Value) (l s : List UInt8) (w : World) (h : BdIs w N b v l) (hN : N ≤ w.heap.size) (hl : l.length + s.length ≤ 100000000) :
    Calls Tryz.prog 60 #[.pointer (some ⟨b, 0, none⟩), .string (txt s)] w fun e w' => (∃ x, e = .returned x) ∧ BdGo w w' N b v (l ++ s) := by
  obtain ⟨i0, hi, hz0, hz1, hz2⟩ := info_parts Tryz.Builder_Extra_156.infoByte
  have HC := hide (copyCheck_any N b v l w h)
  clear h
  go_enter Tryz.func60, Tryz.ntmps60
  go_wp2_with (go_at_call 97; refine HC.out.mono ?_; rintro e w1 ⟨rfl, hb1, hI1, hm1⟩; refine Hid.out ?_)
  refine hide ?_
  have c0 : w1.cell? ⟨b, 0, none⟩ = some (.pointer (some ⟨b, 0, none⟩)) := (blk_cell hb1 0).trans rfl
  have c1 : w1.cell? ⟨b, 1, none⟩ = some v := (blk_cell hb1 1).trans rfl
  have HB1 := hide hb1
  have HI1 := hide hI1
  have HM1 := hide hm1
  have hs1 := hm1.size
  clear hb1 hI1 hm1 HC
  go_wp2_with (at_builtin; refine wpList_append_text rfl _ _ rfl N v l.length _ rfl HI1.out.row (txt s) rfl ?c4 ?c5 ?_)
  case c4 => rw [txt_size]; omega
  case c5 => omega
  intro v' w2 hown' hgrow hat
  have hlt : b < w1.heap.size := HI1.out.lt
  have hb2 : w2.heap[b]? = some (.cells #[.pointer (some ⟨b, 0, none⟩), v] 104 (0, 0)) := (hgrow.block b hlt (fun e => HI1.out.ne e.symm)).trans HB1.out
  have d1 : w2.cell? ⟨b, 1, none⟩ = some v := (blk_cell hb2 1).trans rfl
  have f1 : w2.frozen? ⟨b, 1, none⟩ = false := blk_free hb2 1
  have HEND : Hid (BdGo w (w2.setCell ⟨b, 1, none⟩ v') N b v (l ++ s)) := hide (BdIs.put HI1.out HM1.out hb2 hgrow hat (by
    rw [List.length_append]
    have e : Lib.byteCells (l ++ s) = Lib.byteCells l ++ Lib.strCells (txt s) := by simp [Lib.byteCells, Lib.strCells]
    rw [e]
    exact hown'))
  obtain ⟨ao, n', cap, rfl⟩ : ∃ ao n' cap, v' = .slice ao n' cap := by
    rcases hown'.2 with ⟨hv, _⟩ | ⟨g, cap, cur, hv, _⟩
    · exact ⟨_, _, _, hv⟩
    · exact ⟨_, _, _, hv⟩
  clear hown' hgrow hb2 hat
  go_wp2
  go_ret2
  exact ⟨⟨_, rfl⟩, HEND.out⟩
set_option maxHeartbeats 1000000 in
theorem writeByte_any (N b : Nat) (v : Value) (l : List UInt8) (c : UInt8) (w : World) (h : BdIs w N b v l) (hN : N ≤ w.heap.size) (hl : l.length ≤ 100000000) :
    Calls Tryz.prog 62 #[.pointer (some ⟨b, 0, none⟩), .int .u8 (c.toNat : Int)] w fun e w' => (∃ x, e = .returned x) ∧ BdGo w w' N b v (l ++ [c]) := by
  obtain ⟨i0, hi, hz0, hz1, hz2⟩ := info_parts Tryz.Builder_Extra_156.infoByte
  have HC := hide (copyCheck_any N b v l w h)
  clear h
  go_enter Tryz.func62, Tryz.ntmps62
  go_wp2_with (go_at_call 97; refine HC.out.mono ?_; rintro e w1 ⟨rfl, hb1, hI1, hm1⟩; refine Hid.out ?_)
  refine hide ?_
  have c0 : w1.cell? ⟨b, 0, none⟩ = some (.pointer (some ⟨b, 0, none⟩)) := (blk_cell hb1 0).trans rfl
  have c1 : w1.cell? ⟨b, 1, none⟩ = some v := (blk_cell hb1 1).trans rfl
  have HB1 := hide hb1
  have HI1 := hide hI1
  have HM1 := hide hm1
  have hs1 := hm1.size
  clear hb1 hI1 hm1 HC
  go_wp2_with (at_builtin; refine wpList_append_lies _ rfl _ _ 37 rfl N 5 i0 (.int .u8 0) 1 1 Tryz.underlying37 hi hz0 hz1 hz2 rfl (by decide) v l.length _ rfl (HI1.out.row.alloc _) ⟨w1.heap.size, 0, none⟩ 1 1 [.int .u8 (c.toNat : Int)] rfl rfl ?c1 ?c2 (by decide) ?c3 ?c4 ?c5 _ rfl ?_)
  case c1 =>
    intro j u hj
    match j, hj with
    | 0, hj => simp at hj; subst hj; simp [Addr.add]
  case c2 => intro u hu; simp at hu; subst hu; rfl
  case c3 => unfold maxLen; omega
  case c4 => omega
  case c5 => simp; omega
  intro g cap w2 hown' hgrow hat _
  have hlt : b < w1.heap.size := HI1.out.lt
  obtain ⟨W, hW⟩ : ∃ W, Hid (w1.alloc (.cells #[.int .u8 (c.toNat : Int)] 5) = W) := ⟨_, hide rfl⟩
  rw [hW.out] at hgrow
  have hWs : W.heap.size = w1.heap.size + 1 := by rw [← hW.out]; simp
  rw [← hWs] at hat
  have hBW : Below w1.heap.size w1 W := by rw [← hW.out]; exact (Below.refl _ _).alloc (Nat.le_refl _) _
  have hbW : W.heap[b]? = some (.cells #[.pointer (some ⟨b, 0, none⟩), v] 104 (0, 0)) := (hBW.block b hlt).trans HB1.out
  have hb2 : w2.heap[b]? = some (.cells #[.pointer (some ⟨b, 0, none⟩), v] 104 (0, 0)) := (hgrow.block b (blk_lt hbW) (fun e => HI1.out.ne e.symm)).trans hbW
  have d1 : w2.cell? ⟨b, 1, none⟩ = some v := (blk_cell hb2 1).trans rfl
  have f1 : w2.frozen? ⟨b, 1, none⟩ = false := blk_free hb2 1
  have HEND : Hid (BdGo w (w2.setCell ⟨b, 1, none⟩ (.slice (some ⟨g, 0, none⟩) (l.length + 1) cap)) N b v (l ++ [c])) := hide (BdIs.put (HI1.out.below hBW) (HM1.out.below hBW) hb2 hgrow (by
    rcases hat with e | e
    · exact .inl e.symm
    · exact .inr (by rw [← e]; rfl)) (by
    have e : Lib.byteCells (l ++ [c]) = Lib.byteCells l ++ [.int .u8 (c.toNat : Int)] := by simp [Lib.byteCells]
    rw [e, List.length_append]
    exact hown'))
  clear hown' hgrow hb2 hat hW hBW hbW hWs
  go_wp2
  go_ret
  exact ⟨⟨_, rfl⟩, HEND.out⟩
theorem string_any (N b : Nat) (v : Value) (l : List UInt8) (w : World) (h : BdIs w N b v l) (hN : N ≤ w.heap.size) :
    Calls Tryz.prog 63 #[.pointer (some ⟨b, 0, none⟩)] w fun e w' => e = .returned (.string (txt l)) ∧ Below N w w' ∧ ∀ (k : Nat) (ds : Option (List Deferred)), w.heap[k]? = some (Obj.deferred ds) → w'.heap[k]? = some (Obj.deferred ds) := by
  have hF : Lib.IsBuilderF 104 5 N b (Lib.byteCells l) w := by
    obtain ⟨p, hp, hb⟩ := h.blk
    have hat : Lib.BuilderAtF 104 5 N b p (Lib.byteCells l) w := ⟨h.ge, v, hb, World.ownsRowF_of (by rw [Lib.byteCells_length]; exact h.row), h.ne⟩
    rcases hp with rfl | rfl
    · exact .inl hat
    · exact .inr hat
  refine (Tryz.Builder_String_any_k N b l w hF hN).mono ?_
  rintro e w' ⟨he, _, hB, hO⟩
  refine ⟨he, hB, fun k ds hk => ?_⟩
  obtain ⟨p, _, hb⟩ := h.blk
  exact hO k _ hk (fun e => by cases e; rw [hb] at hk; cases hk) (fun _ _ e => by cases e)
end Go.Proofs.YtaablbmgagiajabGreatDoor
