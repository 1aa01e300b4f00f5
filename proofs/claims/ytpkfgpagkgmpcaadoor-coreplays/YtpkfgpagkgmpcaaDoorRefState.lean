/- The contracts of the reference's State, and of its closure. -/
import Derived.Test.YtpkfgpagkgmpcaaDoorRefNew
import Derived.Test.YtpkfgpagkgmpcaaDoorRefMath
namespace Go.Proofs.YtpkfgpagkgmpcaaDoor
open Go.RowKit Go.Deep

theorem wpList_load_st {ops : Array Oper} {rest : List Oper} {op : Oper} {a : Act} {w : World} {Q : Exit → Act → World → Prop} (hgd : op.guard = none) (x : Operand) (ho : op.op = .load 49 x)
    (b : Nat) (hx : a.eval x = .pointer (some ⟨b, 0, none⟩)) (S : St) (hS : StIs w b S)
    (h : wpList Tryd.prog ops Q rest (a.put op.dst (.agg (stCells S))) w) : wpList Tryd.prog ops Q (op :: rest) a w :=
  wpList_plain hgd fun _ hK => wp_load_row _ x ho b hx _ _ _ _ hS Tryd.underlying49 rfl (by rw [stateInfo]; rfl) (hK _ _ h)
theorem wpList_store_st {ops : Array Oper} {rest : List Oper} {op : Oper} {a : Act} {w : World} {Q : Exit → Act → World → Prop} (hgd : op.guard = none) (x y : Operand) (ho : op.op = .store 49 x y)
    (b : Nat) (X : St) (hx : a.eval x = .pointer (some ⟨b, 0, none⟩)) (hy : a.eval y = .agg (stCells X)) (S : St) (hS : StIs w b S)
    (h : wpList Tryd.prog ops Q rest (a.put op.dst undef) (w.setRow b (stCells X))) : wpList Tryd.prog ops Q (op :: rest) a w :=
  wpList_plain hgd fun _ hK => wp_store_row _ x y ho b _ hx hy _ _ hS (by rw [stateInfo]; rfl) rfl (oneCells X) (hK _ _ h)

theorem RefIs.plt {w : World} {pr : Nat} {s d : Int} {n b off cp gr cr : Nat} {bm : Nat → Nat} {S : St} (h : RefIs w pr s d n b off cp gr cr bm S) : pr < w.heap.size := blk_lt h.blk
theorem RefIs.glt {w : World} {pr : Nat} {s d : Int} {n b off cp gr cr : Nat} {bm : Nat → Nat} {S : St} (h : RefIs w pr s d n b off cp gr cr bm S) : gr < w.heap.size := by obtain ⟨cs, h0, _⟩ := h.row; exact blk_lt h0
theorem RefIs.same {w wx : World} {pr : Nat} {s d : Int} {n b off cp gr cr : Nat} {bm : Nat → Nat} {S : St} (h : RefIs w pr s d n b off cp gr cr bm S) (hb : ∀ k, k < w.heap.size → wx.heap[k]? = w.heap[k]?) : RefIs wx pr s d n b off cp gr cr bm S := by
  refine ⟨(hb _ h.plt).trans h.blk, ?_, h.cap, fun i hi => (h.maps i hi).same (hb _ (h.maps i hi).lt), h.inj⟩
  obtain ⟨cs, h0, h1⟩ := h.row
  exact ⟨cs, (hb _ h.glt).trans h0, h1⟩
theorem RefIs.below {w wx : World} {pr : Nat} {s d : Int} {n b off cp gr cr : Nat} {bm : Nat → Nat} {S : St} (h : RefIs w pr s d n b off cp gr cr bm S) (hB : Below w.heap.size w wx) : RefIs wx pr s d n b off cp gr cr bm S := h.same fun k hk => hB.block k hk
/-- A route's cells. -/
theorem RefIs.at {w : World} {pr : Nat} {s d : Int} {n b off cp gr cr : Nat} {bm : Nat → Nat} {S : St} (h : RefIs w pr s d n b off cp gr cr bm S) {i : Nat} (hi : i < n) :
    w.cell? ⟨gr, i * 3, none⟩ = some (.bool (S.set.testBit i)) ∧ w.cell? ⟨gr, i * 3 + 1, none⟩ = some (.map (some (bm i))) ∧ w.cell? ⟨gr, i * 3 + 2, none⟩ = some (.int .i64 (S.idle i)) := by
  obtain ⟨cs, h0, h1⟩ := h.row
  rw [blk_cell h0, blk_cell h0, blk_cell h0]
  exact h1 i hi
theorem RefIs.free {w : World} {pr : Nat} {s d : Int} {n b off cp gr cr : Nat} {bm : Nat → Nat} {S : St} (h : RefIs w pr s d n b off cp gr cr bm S) (i : Nat) : w.frozen? ⟨gr, i, none⟩ = false := by
  obtain ⟨cs, h0, _⟩ := h.row
  exact blk_free h0 i

set_option maxHeartbeats 400000 in
theorem state1_any (i br bm U : Nat) (w : World) (hi : i < 12) (hc : w.cell? ⟨br, 1, none⟩ = some (.map (some bm))) (hS : IsSet w bm U) :
    Calls Tryd.prog 45 #[.int .i64 (i : Int), .pointer (some ⟨br, 0, none⟩)] w fun e w' => e = .returned (.bool (U.testBit i)) ∧ w' = w := by
  have hl := hS.look hi
  clear hS
  go_enter Tryd.func45, Tryd.ntmps45
  go_wp2
  go_ret
  exact ⟨rfl, rfl⟩

set_option maxHeartbeats 1000000 in
theorem set_state (n : Nat) (c1 : Value) (p : Nat → Bool) (w : World) (hn : n ≤ 12) (H : ∀ (i : Nat), i < n → Calls Tryd.prog 45 #[.int .i64 (i : Int), c1] w fun e w' => e = .returned (.bool (p i)) ∧ w' = w) :
    Calls Tryd.prog 31 #[.int .i64 (n : Int), .func (Fn.func 45) #[] #[c1]] w fun e w' => e = .returned (.int .i64 ((setTo p n : Nat) : Int)) ∧ w' = w := by
  have HH := hide H
  clear H
  go_enter Tryd.func31, Tryd.ntmps31
  go_wp2
  go_loopw [5, 6, 9] (fun m v i wr => wr = w ∧ ∃ k : Nat, k ≤ n ∧ i = .int .i64 k ∧ (∃ a : Nat, a < 4096 ∧ m = .int .i64 a ∧ Hid (setTo p k = a)) ∧ ∃ b : Nat, b ≤ 4096 ∧ v = .int .i64 b ∧ Hid (2 ^ k = b)) (fun _ _ i _ => n - (intOf i).toNat)
  case atStart => exact ⟨rfl, 0, Nat.zero_le _, rfl, ⟨0, by omega, rfl, rfl⟩, 1, by omega, rfl, rfl⟩
  case round =>
    obtain ⟨rfl, k, hk, rfl, ⟨a, ha, rfl, Ha⟩, b, hb, rfl, Hb⟩ := hrel
    by_cases hlt : k < n
    · have hb2 : b * 2 ≤ 4096 := by
        have h1 : 2 ^ (k + 1) ≤ 2 ^ 12 := Nat.pow_le_pow_right (by decide) (by omega)
        have h2 : 2 ^ (k + 1) = b * 2 := by rw [Nat.pow_succ, Hb.out]
        omega
      have hab : a < b := by have := setTo_lt p k; rw [Ha.out, Hb.out] at this; exact this
      cases hp : p k
      · have HP := hide hp
        have hcall := HH.out k hlt
        rw [hp] at hcall
        have HC := hide hcall
        clear hcall hp
        go_wp2_with fail
        refine HC.out.mono ?_
        rintro e w1 ⟨rfl, hw1⟩
        subst w1
        clear HC
        go_wp2
        go_roundw
        case rel => exact ⟨trivial, k + 1, by omega, by go_num, ⟨a, ha, rfl, by rw [Hid, setTo, HP.out, ← Ha.out]; rfl⟩, b * 2, hb2, by go_num, by rw [Hid, Nat.pow_succ, Hb.out]⟩
        case measure => simp [intOf]; omega
      · have HP := hide hp
        have hcall := HH.out k hlt
        rw [hp] at hcall
        have HC := hide hcall
        clear hcall hp
        go_wp2_with fail
        refine HC.out.mono ?_
        rintro e w1 ⟨rfl, hw1⟩
        subst w1
        clear HC
        go_wp2
        go_roundw
        case rel => exact ⟨trivial, k + 1, by omega, by go_num, ⟨a + b, by omega, by go_num, by rw [Hid, setTo, HP.out, if_pos rfl, Ha.out, Hb.out]⟩, b * 2, hb2, by go_num, by rw [Hid, Nat.pow_succ, Hb.out]⟩
        case measure => simp [intOf]; omega
    · have hkn : k = n := by omega
      subst hkn
      go_wp2
      go_ret
      exact ⟨ret_int (by rw [Ha.out]), rfl⟩

theorem set_self (U n : Nat) (h : U < 2 ^ n) : setTo (fun k => U.testBit k) n = U := by
  apply Nat.eq_of_testBit_eq
  intro k
  rw [setTo_bit]
  by_cases hk : k < n
  · rw [decide_eq_true hk]; rfl
  · rw [decide_eq_false hk, Nat.testBit_lt_two_pow (Nat.lt_of_lt_of_le h (Nat.pow_le_pow_right (by decide) (by omega)))]; rfl

/-- The first k routes of a state. -/
def part (S : St) (k : Nat) : St := ⟨S.set % 2 ^ k, fun j => if j < k then S.used j else 0, fun j => if j < k then S.idle j else 0⟩
theorem part_set (S : St) (k : Nat) : S.set % 2 ^ (k + 1) = S.set % 2 ^ k + (if S.set.testBit k then 2 ^ k else 0) := by
  rw [Nat.mod_pow_succ, testBit_eq]
  cases S.set.testBit k <;> simp
theorem part_used (S : St) (k : Nat) : (part S (k + 1)).used = upd (part S k).used k (S.used k) := by
  funext j
  unfold part upd
  by_cases e : j = k
  · subst e; simp
  · simp only [e, if_false]
    by_cases h : j < k
    · rw [if_pos h, if_pos (by omega)]
    · rw [if_neg h, if_neg (by omega)]
theorem part_idle (S : St) (k : Nat) : (part S (k + 1)).idle = upd (part S k).idle k (S.idle k) := by
  funext j
  unfold part upd
  by_cases e : j = k
  · subst e; simp
  · simp only [e, if_false]
    by_cases h : j < k
    · rw [if_pos h, if_pos (by omega)]
    · rw [if_neg h, if_neg (by omega)]
theorem part_all {R : Nat → Nat} {n : Nat} {B : Int} {S : St} (h : Good R n B S) : part S n = S := by
  have h1 : (fun j => if j < n then S.used j else 0) = S.used := by
    funext j
    split
    · rfl
    · exact (h.rest j (.inl (by omega))).1.symm
  have h2 : (fun j => if j < n then S.idle j else 0) = S.idle := by
    funext j
    split
    · rfl
    · exact (h.rest j (.inl (by omega))).2.symm
  unfold part
  rw [Nat.mod_eq_of_lt h.set, h1, h2]

theorem results_cell1 {P : Program} {f : Func} {tmps : Array Value} {w : World} {a : Tmp} {t : TypeId} {ad : Addr} {v : Value} (hf : f.results = #[.cell a t]) (ha : tmps.getD a undef = .pointer (some ad)) (hl : (loadVar t ad).run P w = .ok v w) :
    (results f tmps).run P w = .ok v w := by
  have ha' : tmps[a]?.getD undef = .pointer (some ad) := by simpa using ha
  simp only [results, hf]
  simp [asAddr, ha', hl]

/-- What holds while a state is told: block N is the result's, N + 1 the state's. -/
structure UInv (w wr : World) (N : Nat) (X : St) : Prop where
  old : Below N w wr
  rs : StIs wr N st0
  st : StIs wr (N + 1) X
theorem UInv.below {w wr wx : World} {N : Nat} {X : St} (h : UInv w wr N X) (hB : Below wr.heap.size wr wx) (hN : N ≤ wr.heap.size) : UInv w wx N X := ⟨h.old.trans (hB.mono hN), (hB.block _ h.rs.lt).trans h.rs, (hB.block _ h.st.lt).trans h.st⟩
theorem UInv.putSet {w wr : World} {N : Nat} {X : St} (h : UInv w wr N X) (m : Nat) : UInv w (wr.setCell ⟨N + 1, 0, none⟩ (.int .i64 (m : Int))) N ⟨m, X.used, X.idle⟩ := ⟨h.old.setCell (by show N ≤ N + 1; omega) _, (Below.heap_setCell _ _ _ _ (by show N ≠ N + 1; omega)).trans h.rs, h.st.putSet m⟩
theorem UInv.putUsed {w wr : World} {N : Nat} {X : St} (h : UInv w wr N X) {i : Nat} (hi : i < 8) (m : Nat) : UInv w (wr.setCell ⟨N + 1, 1 + i, none⟩ (.int .i64 (m : Int))) N ⟨X.set, upd X.used i m, X.idle⟩ := ⟨h.old.setCell (by show N ≤ N + 1; omega) _, (Below.heap_setCell _ _ _ _ (by show N ≠ N + 1; omega)).trans h.rs, h.st.putUsed hi m⟩
theorem UInv.putIdle {w wr : World} {N : Nat} {X : St} (h : UInv w wr N X) {i : Nat} (hi : i < 8) (t : Int) : UInv w (wr.setCell ⟨N + 1, 9 + i, none⟩ (.int .i64 t)) N ⟨X.set, X.used, upd X.idle i t⟩ := ⟨h.old.setCell (by show N ≤ N + 1; omega) _, (Below.heap_setCell _ _ _ _ (by show N ≠ N + 1; omega)).trans h.rs, h.st.putIdle hi t⟩
theorem UInv.drew {w wr : World} {N : Nat} {X : St} (h : UInv w wr N X) : UInv w wr.drew N X := ⟨h.old.drew, h.rs, h.st⟩

set_option maxHeartbeats 2000000 in
set_option maxRecDepth 20000 in
theorem state_any (pr sn : Nat) (d : Int) (n b off cp gr cr : Nat) (bm : Nat → Nat) (S : St) (R : Nat → Nat) (B : Int) (w : World) (h : RefIs w pr (sn : Int) d n b off cp gr cr bm S) (hG : Good R n B S) (hn : n ≤ 8) (hs : sn ≤ 12) (hU : ∀ i, i < n → S.used i < 2 ^ sn) :
    Calls Tryd.prog 21 #[.pointer (some ⟨pr, 0, none⟩)] w fun e w' => e = .returned (.agg (stCells S)) ∧ Below w.heap.size w w' := by
  have hI0 : UInv w ((w.alloc (.cells (stCells st0) 49)).alloc (.cells (stCells st0) 49)) w.heap.size (part S 0) := by
    refine ⟨((Below.refl _ _).alloc (Nat.le_refl _) _).alloc (by simp) _, (Below.heap_alloc _ _ _ (by simp)).trans (blk_new _ _), ?_⟩
    have e : stCells (part S 0) = stCells st0 := by unfold part st0; simp [Nat.mod_one]
    have := blk_new (w.alloc (.cells (stCells st0) 49)) (.cells (stCells st0) 49)
    unfold StIs
    rw [e]
    simpa using this
  have k3 : w.cell? ⟨pr, 3, none⟩ = some (.slice (some ⟨gr, 0, none⟩) n cr) := by rw [blk_cell h.blk]; rfl
  have hpl := h.plt
  have hgl := h.glt
  have HI0 := hide hI0
  have HH := hide h
  have HG := hide hG
  have HU := hide hU
  have hcr := h.cap
  clear hI0 h hG hU
  go_enter Tryd.func21, Tryd.ntmps21
  go_wp2
  clear k3
  go_loopw [11] (fun i wr => ∃ k : Nat, k ≤ n ∧ i = .int .i64 k ∧ UInv w wr w.heap.size (part S k)) (fun i _ => n - (intOf i).toNat)
  case atStart => exact ⟨0, Nat.zero_le _, rfl, HI0.out⟩
  case round =>
    clear HI0
    obtain ⟨k, hk, rfl, hI⟩ := hrel
    by_cases hlt : k < n
    · have hk8 : k < 8 := by omega
      have hR := HH.out.below hI.old
      obtain ⟨c0, c1, c2⟩ := hR.at hlt
      have s0 := hI.st.set
      have f0 := hI.st.free 0
      have su := hI.st.used hk8
      have fu := hI.st.free (1 + k)
      have si := hI.st.idle hk8
      have fi := hI.st.free (9 + k)
      have hN1 : w.heap.size + 1 < wr.heap.size := hI.st.lt
      have hgr : gr < wr.heap.size := hR.glt
      obtain ⟨t, ht⟩ : ∃ t, Hid (S.idle k = t) := ⟨_, hide rfl⟩
      rw [ht.out] at c2
      have p0 : wr.cell? ⟨pr, 0, none⟩ = some (.int .i64 (sn : Int)) := by rw [blk_cell hR.blk]; rfl
      have hpr : pr < wr.heap.size := hR.plt
      have hst : ∀ wx, (∀ j, j < wr.heap.size → j ≠ w.heap.size + 1 → wx.heap[j]? = wr.heap[j]?) → wx.cell? ⟨wr.heap.size, 1, none⟩ = some (.map (some (bm k))) → Calls Tryd.prog 31 #[.int .i64 (sn : Int), .func (Fn.func 45) #[] #[.pointer (some ⟨wr.heap.size, 0, none⟩)]] wx fun e w' => e = .returned (.int .i64 ((S.used k : Nat) : Int)) ∧ w' = wx := by
        intro wx hx hc
        have hset : IsSet wx (bm k) (S.used k) := (hR.maps k hlt).same (hx _ (hR.maps k hlt).lt (fun e => by have := HH.out.maps k hlt; have := this.lt; omega))
        have := set_state sn (.pointer (some ⟨wr.heap.size, 0, none⟩)) (fun j => (S.used k).testBit j) wx hs (fun j hj => state1_any j wr.heap.size (bm k) (S.used k) wx (by omega) hc hset)
        rw [set_self _ _ (HU.out k hlt)] at this
        exact this
      have HST := hide hst
      have hw3 : w.heap.size ≤ wr.heap.size := by omega
      have hal : UInv w (wr.alloc (.cells #[.bool (S.set.testBit k), .map (some (bm k)), .int .i64 t] 85)) w.heap.size (part S k) := hI.below ((Below.refl _ _).alloc (Nat.le_refl _) _) hw3
      have hps := part_set S k
      have hpm : S.set % 2 ^ k < 256 := Nat.lt_of_le_of_lt (Nat.mod_le _ _) (Nat.lt_of_lt_of_le HG.out.set (Nat.pow_le_pow_right (n := 2) (by decide) hn))
      have HAL := hide hal
      have HI := hide hI
      clear hR hI hst hal
      cases hb : S.set.testBit k
      · rw [hb] at c0 HAL hps
        have HPS := hide hps
        clear hps
        go_wp2_with fail
        refine (unhide HST _ (fun j hj _ => Below.heap_alloc _ _ _ hj) ?_).mono ?_
        · exact (blk_cell (blk_new _ _) 1).trans rfl
        rintro e w5 ⟨rfl, hw5⟩
        subst w5
        have HAL2 := HAL
        have b2 : (wr.alloc (.cells #[.bool false, .map (some (bm k)), .int .i64 t] 85)).cell? ⟨wr.heap.size, 2, none⟩ = some (.int .i64 t) := (blk_cell (blk_new _ _) 2).trans rfl
        generalize (wr.alloc (.cells #[.bool false, .map (some (bm k)), .int .i64 t] 85)) = w5 at HAL2 b2 ⊢
        clear s0 f0 su fu si fi c0 c1 c2 p0 HST HAL
        have su := HAL2.out.st.used hk8
        have fu := HAL2.out.st.free (1 + k)
        have si := HAL2.out.st.idle hk8
        have fi := HAL2.out.st.free (9 + k)
        go_wp2
        go_roundw
        case rel =>
          refine ⟨k + 1, by omega, by go_num, ?_⟩
          have := (HAL2.out.putUsed hk8 (S.used k)).putIdle hk8 t
          have e : part S (k + 1) = ⟨(part S k).set, upd (part S k).used k (S.used k), upd (part S k).idle k t⟩ := by
            rw [← part_used, ← ht.out, ← part_idle]
            unfold part
            rw [HPS.out]; rfl
          rw [e]
          exact this
        case measure => simp [intOf]; omega
      · rw [hb] at c0 HAL hps
        have HPS := hide hps
        clear hps
        obtain ⟨m, hm⟩ : ∃ m, Hid (S.set % 2 ^ (k + 1) = m) := ⟨_, hide rfl⟩
        have e4 : wrap64 ((((part S k).set : Nat) : Int) + wrap64 (2 ^ k)) = (m : Int) := by
          have h2 : 2 ^ k < 2 ^ 8 := Nat.pow_lt_pow_right (by decide) hk8
          rw [wrap_two_pow k (by omega), ← hm.out, HPS.out, if_pos rfl]
          show wrap64 (((S.set % 2 ^ k : Nat) : Int) + ((2 ^ k : Nat) : Int)) = _
          rw [IntWalk.wrap64_in _ ⟨by omega, by omega⟩]
          omega
        go_wp2_with fail
        go_region
        go_wp2_with fail
        have hx1 : ∀ j, j < wr.heap.size → j ≠ w.heap.size + 1 → ((wr.setCell ⟨w.heap.size + 1, 0, none⟩ (.int .i64 (m : Int))).alloc (.cells #[.bool true, .map (some (bm k)), .int .i64 t] 85)).drew.heap[j]? = wr.heap[j]? := fun j hj hne => (Below.heap_alloc (wr.setCell ⟨w.heap.size + 1, 0, none⟩ (.int .i64 (m : Int))) _ _ (by simp [World.setCell]; exact hj)).trans (Below.heap_setCell wr ⟨w.heap.size + 1, 0, none⟩ _ _ hne)
        have hx2 : ((wr.setCell ⟨w.heap.size + 1, 0, none⟩ (.int .i64 (m : Int))).alloc (.cells #[.bool true, .map (some (bm k)), .int .i64 t] 85)).drew.cell? ⟨wr.heap.size, 1, none⟩ = some (.map (some (bm k))) := by
          have q := blk_new (wr.setCell ⟨w.heap.size + 1, 0, none⟩ (.int .i64 (m : Int))) (.cells #[.bool true, .map (some (bm k)), .int .i64 t] 85)
          rw [show (wr.setCell ⟨w.heap.size + 1, 0, none⟩ (.int .i64 (m : Int))).heap.size = wr.heap.size by simp [World.setCell]] at q
          exact (blk_cell q 1).trans rfl
        refine (unhide HST _ hx1 hx2).mono ?_
        clear hx1 hx2
        rintro e w5 ⟨rfl, hw5⟩
        subst w5
        have HAL2 : Hid (UInv w ((wr.setCell ⟨w.heap.size + 1, 0, none⟩ (.int .i64 (m : Int))).alloc (.cells #[.bool true, .map (some (bm k)), .int .i64 t] 85)).drew w.heap.size ⟨m, (part S k).used, (part S k).idle⟩) :=
          ((HI.out.putSet m).below ((Below.refl _ _).alloc (Nat.le_refl _) _) (by simp [World.setCell]; omega)).drew
        have b2 : ((wr.setCell ⟨w.heap.size + 1, 0, none⟩ (.int .i64 (m : Int))).alloc (.cells #[.bool true, .map (some (bm k)), .int .i64 t] 85)).drew.cell? ⟨wr.heap.size, 2, none⟩ = some (.int .i64 t) := by
          have q := blk_new (wr.setCell ⟨w.heap.size + 1, 0, none⟩ (.int .i64 (m : Int))) (.cells #[.bool true, .map (some (bm k)), .int .i64 t] 85)
          rw [show (wr.setCell ⟨w.heap.size + 1, 0, none⟩ (.int .i64 (m : Int))).heap.size = wr.heap.size by simp [World.setCell]] at q
          exact (blk_cell q 2).trans rfl
        generalize ((wr.setCell ⟨w.heap.size + 1, 0, none⟩ (.int .i64 (m : Int))).alloc (.cells #[.bool true, .map (some (bm k)), .int .i64 t] 85)).drew = w5 at HAL2 b2 ⊢
        clear s0 f0 su fu si fi c0 c1 c2 p0 HST HAL HI e4
        have su := HAL2.out.st.used hk8
        have fu := HAL2.out.st.free (1 + k)
        have si := HAL2.out.st.idle hk8
        have fi := HAL2.out.st.free (9 + k)
        go_wp2
        go_roundw
        case rel =>
          refine ⟨k + 1, by omega, by go_num, ?_⟩
          have := (HAL2.out.putUsed hk8 (S.used k)).putIdle hk8 t
          have e : part S (k + 1) = ⟨m, upd (part S k).used k (S.used k), upd (part S k).idle k t⟩ := by
            rw [← part_used, ← ht.out, ← part_idle]
            unfold part
            rw [hm.out]
          rw [e]
          exact this
        case measure => simp [intOf]; omega
    · have hkn : k = n := by omega
      subst hkn
      rw [part_all HG.out] at hI
      go_wp2_with (first
        | (refine wpList_load_st rfl _ rfl (w.heap.size + 1) rfl S hI.st ?_)
        | (refine wpList_store_st rfl _ _ rfl w.heap.size S rfl rfl _ hI.rs ?_))
      have hst6 := row_same hI.rs S
      refine bodyPost_ret (v := .agg (stCells S)) ?_ rfl ⟨rfl, below_row hI.old (Nat.le_refl _) _⟩
      have hld := run_loadVar_row (P := Tryd.prog) _ _ _ 49 _ _ _ hst6 Tryd.underlying49 rfl (by rw [stateInfo]; rfl)
      exact results_cell1 Tryd.results21 rfl hld

end Go.Proofs.YtpkfgpagkgmpcaaDoor
