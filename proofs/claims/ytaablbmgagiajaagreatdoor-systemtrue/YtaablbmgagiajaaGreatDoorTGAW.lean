import Derived.Test.YtaablbmgagiajaaGreatDoorTGAR
import Derived.Test.YtaablbmgagiajaaGreatDoorTGAS
import Derived.Test.YtaablbmgagiajaaGreatDoorTGAV
namespace Go.Proofs.YtaablbmgagiajaaGreatDoor
open Go.RowKit Go.Deep
def gF (F : FR) : GS := ⟨F 6, fun k => if k < 8 then F (7 + k) else 0, fun k => if k < 8 then F (15 + k) else 0⟩
theorem gF_cells (F : FR) : gCells (gF F) = #[.int .i64 (F 6), .int .i64 (F 7), .int .i64 (F 8), .int .i64 (F 9), .int .i64 (F 10), .int .i64 (F 11), .int .i64 (F 12), .int .i64 (F 13), .int .i64 (F 14), .int .i64 (F 15), .int .i64 (F 16), .int .i64 (F 17), .int .i64 (F 18), .int .i64 (F 19), .int .i64 (F 20), .int .i64 (F 21), .int .i64 (F 22)] := rfl
def knT (F : FR) : Nat → Int := fun j => if j = 0 then F 2 else F (5 + j)
theorem knT_cells (F : FR) : tlC (knT F) = #[.int .i64 (F 2), .int .i64 (F 6), .int .i64 (F 7), .int .i64 (F 8), .int .i64 (F 9), .int .i64 (F 10), .int .i64 (F 11), .int .i64 (F 12), .int .i64 (F 13), .int .i64 (F 14), .int .i64 (F 15), .int .i64 (F 16), .int .i64 (F 17), .int .i64 (F 18), .int .i64 (F 19), .int .i64 (F 20), .int .i64 (F 21), .int .i64 (F 22)] := rfl
def stN (S : St) (j : Nat) : Int := if j = 0 then (S.set : Int) else if j < 9 then ((S.used (j - 1) : Nat) : Int) else S.idle (j - 9)
def knownR (R : RS) : FR := fun k => if k = 0 then 5 else if k = 1 then (R.id : Int) else if k = 2 then R.cycle else if k < 6 then 0 else stN R.st (k - 6)
def FIn (F : FR) : Prop := ∀ k, k < 23 → -9223372036854775808 ≤ F k ∧ F k < 9223372036854775808
theorem gF_in {F : FR} (h : FIn F) : GIn (gF F) := by
  refine ⟨h 6 (by omega), fun k => ?_, fun k => ?_⟩
  · show -9223372036854775808 ≤ (if k < 8 then F (7 + k) else 0) ∧ (if k < 8 then F (7 + k) else 0) < 9223372036854775808
    split
    · exact h _ (by omega)
    · omega
  · show -9223372036854775808 ≤ (if k < 8 then F (15 + k) else 0) ∧ (if k < 8 then F (15 + k) else 0) < 9223372036854775808
    split
    · exact h _ (by omega)
    · omega
theorem gF_far (F : FR) (k : Nat) (h : 8 ≤ k) : (gF F).used k = 0 ∧ (gF F).idle k = 0 := ⟨if_neg (by omega), if_neg (by omega)⟩
theorem gF_state {C : RC} {F : FR} (hok : checkF (C.s : Int) C.zs (C.d : Int) = (0, -1)) (hn : C.zs.length = C.n) (h : FIn F) (hR : rightB C.zs C.d (gF F) = true) : ∀ j, j < 17 → (stCells (gSt (gF F)))[j]? = some (.int .i64 (knT F (1 + j))) := by
  intro j hj
  rw [← (right_state hok hn (gF_in h) (gF_far F) hR).1, gF_cells]
  rcases (by omega : j = 0 ∨ j = 1 ∨ j = 2 ∨ j = 3 ∨ j = 4 ∨ j = 5 ∨ j = 6 ∨ j = 7 ∨ j = 8 ∨ j = 9 ∨ j = 10 ∨ j = 11 ∨ j = 12 ∨ j = 13 ∨ j = 14 ∨ j = 15 ∨ j = 16) with rfl | rfl | rfl | rfl | rfl | rfl | rfl | rfl | rfl | rfl | rfl | rfl | rfl | rfl | rfl | rfl | rfl <;> rfl
def takeS (C : RC) (F : FR) (R : RS) : RS :=
  if F 0 = 3 ∧ F 1 = 3 then doneR C F R else if isRep (F 1) = false ∨ F 1 = (R.id : Int) then R
  else if F 0 = 1 ∧ F 2 = R.cycle then putR (F 1).toNat (fitN C.s (F 3)) (fitN C.n (F 4)) R else if F 0 = 4 then R
  else if F 0 = 5 ∧ R.cycle < F 2 ∧ rightB C.zs C.d (gF F) = true then learnR (F 1).toNat (knT F) (gSt (gF F)) R else R
def takeT (C : RC) (F : FR) (R : RS) : List FR :=
  if F 0 = 3 ∧ F 1 = 3 then doneT C F R else if isRep (F 1) = false ∨ F 1 = (R.id : Int) then [] else if F 0 = 4 then [knownR R] else []
theorem put_state {w : World} {b : Nat} {R : RS} (hS : FIs w b 35 (startF 5 (R.id : Int) R.cycle)) : FIs (w.setCells b 6 (stCells R.st).toList) b 35 (knownR R) := by
  have hb : BIs w b 35 23 (fun k => .int .i64 (startF 5 (R.id : Int) R.cycle k)) := ⟨_, hS, rfl, fun k hk => fCells_at _ k hk⟩
  obtain ⟨cs, h1, h2, h3⟩ := BIs.sets (stCells R.st).toList 6 w _ hb (by show 6 + 17 ≤ 23; omega)
  have e : cs = fCells (knownR R) := by
    apply Array.ext_getElem?
    intro i
    by_cases hi : i < 23
    · rw [h3 i hi, fCells_at _ i hi]
      rcases (by omega : i = 0 ∨ i = 1 ∨ i = 2 ∨ i = 3 ∨ i = 4 ∨ i = 5 ∨ i = 6 ∨ i = 7 ∨ i = 8 ∨ i = 9 ∨ i = 10 ∨ i = 11 ∨ i = 12 ∨ i = 13 ∨ i = 14 ∨ i = 15 ∨ i = 16 ∨ i = 17 ∨ i = 18 ∨ i = 19 ∨ i = 20 ∨ i = 21 ∨ i = 22) with rfl | rfl | rfl | rfl | rfl | rfl | rfl | rfl | rfl | rfl | rfl | rfl | rfl | rfl | rfl | rfl | rfl | rfl | rfl | rfl | rfl | rfl | rfl <;> rfl
    · rw [Array.getElem?_eq_none (by omega), Array.getElem?_eq_none (by rw [fCells_size]; omega)]
  rw [e] at h1
  exact h1
theorem there_frame {w : World} {b : Nat} {F : FR} (hS : FIs w b 35 F) : w.there b 6 17 := fun j hj => ⟨by rw [hS.at (by omega)]; rfl, hS.free _⟩
section
variable {ops : Array Oper} {rest : List Oper} {op : Oper} {a : Act} {w : World} {Q : Exit → Act → World → Prop}
theorem wpList_put_state (hgd : op.guard = none) (x y : Operand) (ho : op.op = .store 33 x y) (b : Nat) (R : RS) (hx : a.eval x = .pointer (some ⟨b, 6, none⟩)) (hy : a.eval y = .agg (stCells R.st)) (ht : w.there b 6 17)
    (h : ∀ w', Hid (w' = w.setCells b 6 (stCells R.st).toList) → wpList Tryz.prog ops Q rest (a.put op.dst undef) w') : wpList Tryz.prog ops Q (op :: rest) a w :=
  wpList_store_mid hgd 33 x y ho b 6 (stCells R.st) hx hy ht (by rw [stateInfo]; rfl) (oneCells _) (h _ rfl)
end
set_option maxHeartbeats 4000000 in
set_option maxRecDepth 20000 in
theorem rtake_rep (p : Nat) (C : RC) (R : RS) (F : FR) (w : World) (h : RpIs w p C R) (hok : RpOk R) (hcy : 0 ≤ R.cycle ∧ R.cycle < 1000000000) (hF : FIn F) :
    Calls Tryz.prog 76 #[.pointer (some ⟨p, 0, none⟩), .agg (fCells F)] w fun e w' =>
      (∃ v, e = .returned v ∧ FRow w' 35 v (takeT C F R)) ∧ RpIs w' p C (takeS C F R) ∧ Mod w w' (· = p) := by
  have hpl := h.lt
  have hD0 : DMid w (w.alloc (.cells (fCells F) 35)) w.heap.size p C R F := by
    have hb : Below w.heap.size w (w.alloc (.cells (fCells F) 35)) := (Below.refl _ _).alloc (Nat.le_refl _) _
    exact ⟨Mod.ofBelow hb _, blk_new _ _, h.below hb⟩
  have n0 : (fCells F)[0]? = some (.int .i64 (F 0)) := rfl
  have n1 : (fCells F)[1]? = some (.int .i64 (F 1)) := rfl
  have n2 : (fCells F)[2]? = some (.int .i64 (F 2)) := rfl
  have n3 : (fCells F)[3]? = some (.int .i64 (F 3)) := rfl
  have n4 : (fCells F)[4]? = some (.int .i64 (F 4)) := rfl
  have k0 := h.c0
  have k4 := h.c4
  have k5 := h.c5
  have hid := hok.id
  have HD0 := hide hD0
  have HOK := hide hok
  have HF := hide hF
  have HCY := hide hcy
  obtain ⟨SS, hSS⟩ : ∃ SS, Hid (takeS C F R = SS) := ⟨_, hide rfl⟩
  obtain ⟨TT, hTT⟩ : ∃ TT, Hid (takeT C F R = TT) := ⟨_, hide rfl⟩
  rw [hSS.out, hTT.out]
  clear h hD0 hok hF hcy
  by_cases hk0 : F 0 = 3
  · by_cases hv : F 1 = 3
    · have HS : Hid (SS = doneR C F R) := hide (by rw [← hSS.out]; exact if_pos ⟨hk0, hv⟩)
      have HT : Hid (TT = doneT C F R) := hide (by rw [← hTT.out]; exact if_pos ⟨hk0, hv⟩)
      have t3 : (F 0 == 3) = true := by rw [hk0]; rfl
      have u3 : (F 1 == 3) = true := by rw [hv]; rfl
      clear hk0 hv
      have hdn := takeDone_any p C R F _ HD0.out.rp HOK.out.st HCY.out
      rw [← HS.out, ← HT.out] at hdn
      have HDN := hide hdn
      clear hdn
      go_enter Tryz.func76, Tryz.ntmps76
      go_wp2_with (refine wpList_load_f rfl _ rfl w.heap.size rfl F HD0.out.frm ?_)
      refine HDN.out.mono ?_
      rintro e w2 ⟨⟨v, rfl, hv2⟩, hr2, hm2⟩
      go_wp2
      go_ret
      exact ⟨⟨_, rfl, hv2⟩, hr2, HD0.out.old.then hm2 (fun _ _ e => e)⟩
    · have HNV : Hid (¬ (F 0 = 3 ∧ F 1 = 3)) := hide (fun e => hv e.2)
      have u3 : (F 1 == 3) = false := beq_false_of_ne hv
      have t3 : (F 0 == 3) = true := by rw [hk0]; rfl
      have t1 : (F 0 == 1) = false := by rw [hk0]; rfl
      have t4 : (F 0 == 4) = false := by rw [hk0]; rfl
      have t5 : (F 0 == 5) = false := by rw [hk0]; rfl
      obtain ⟨br, hbr⟩ : ∃ b, isRep (F 1) = b := ⟨_, rfl⟩
      cases br
      · have HS : Hid (SS = R) := hide (by rw [← hSS.out]; unfold takeS; rw [if_neg HNV.out, if_pos (.inl hbr)])
        have HT : Hid (TT = []) := hide (by rw [← hTT.out]; unfold takeT; rw [if_neg HNV.out, if_pos (.inl hbr)])
        go_enter Tryz.func76, Tryz.ntmps76
        go_wp2_with fail
        go_quiet ((go_at_call 82; exact Calls.quiet_of_same (isReplica_any _ _)))
        go_wp2
        go_ret
        exact ⟨⟨_, rfl, .inl ⟨HT.out, rfl⟩⟩, by rw [HS.out]; exact (HD0.out.drewN _).rp, (HD0.out.drewN _).old⟩
      · have hr3 : 0 ≤ F 1 ∧ F 1 < 3 := by unfold isRep at hbr; simpa using hbr
        obtain ⟨k, hk⟩ : ∃ k : Nat, F 1 = (k : Int) := ⟨(F 1).toNat, by omega⟩
        have hk3 : k < 3 := by omega
        have hkN : (F 1).toNat = k := by omega
        obtain ⟨bs, hbs⟩ : ∃ b, (F 1 == (R.id : Int)) = b := ⟨_, rfl⟩
        cases bs
        · have HNS : Hid (¬ (isRep (F 1) = false ∨ F 1 = (R.id : Int))) := hide (by
            rintro (e | e)
            · rw [hbr] at e; cases e
            · rw [e] at hbs; simp at hbs)
          have HN0 := hide hk0
          have HS : Hid (SS = R) := hide (by rw [← hSS.out]; unfold takeS; rw [if_neg HNV.out, if_neg HNS.out, if_neg (fun e => by have := HN0.out; omega), if_neg (by have := HN0.out; omega), if_neg (fun e => by have := HN0.out; omega)])
          have HT : Hid (TT = []) := hide (by rw [← hTT.out]; unfold takeT; rw [if_neg HNV.out, if_neg HNS.out, if_neg (by have := HN0.out; omega)])
          clear hr3 hk hkN hk0 hv
          go_enter Tryz.func76, Tryz.ntmps76
          go_wp2_with fail
          go_quiet ((go_at_call 82; exact Calls.quiet_of_same (isReplica_any _ _)))
          go_wp2_with fail
          go_quiet (fail)
          go_wp2_with fail
          go_quiet (fail)
          go_wp2
          go_ret
          exact ⟨⟨_, rfl, .inl ⟨HT.out, rfl⟩⟩, by rw [HS.out]; exact ((HD0.out.drewN _).drewN _).rp, ((HD0.out.drewN _).drewN _).old⟩
        · have hsm : F 1 = (R.id : Int) := by simpa using hbs
          have HS : Hid (SS = R) := hide (by rw [← hSS.out]; unfold takeS; rw [if_neg HNV.out, if_pos (.inr hsm)])
          have HT : Hid (TT = []) := hide (by rw [← hTT.out]; unfold takeT; rw [if_neg HNV.out, if_pos (.inr hsm)])
          clear hsm hr3 hk hkN
          go_enter Tryz.func76, Tryz.ntmps76
          go_wp2_with fail
          go_quiet ((go_at_call 82; exact Calls.quiet_of_same (isReplica_any _ _)))
          go_wp2
          go_ret
          exact ⟨⟨_, rfl, .inl ⟨HT.out, rfl⟩⟩, by rw [HS.out]; exact (HD0.out.drewN _).rp, (HD0.out.drewN _).old⟩
  · have HNV : Hid (¬ (F 0 = 3 ∧ F 1 = 3)) := hide (fun e => hk0 e.1)
    have t3 : (F 0 == 3) = false := beq_false_of_ne hk0
    obtain ⟨br, hbr⟩ : ∃ b, isRep (F 1) = b := ⟨_, rfl⟩
    cases br
    · have HS : Hid (SS = R) := hide (by rw [← hSS.out]; unfold takeS; rw [if_neg HNV.out, if_pos (.inl hbr)])
      have HT : Hid (TT = []) := hide (by rw [← hTT.out]; unfold takeT; rw [if_neg HNV.out, if_pos (.inl hbr)])
      go_enter Tryz.func76, Tryz.ntmps76
      go_wp2_with fail
      go_quiet ((go_at_call 82; exact Calls.quiet_of_same (isReplica_any _ _)))
      go_wp2
      go_ret
      exact ⟨⟨_, rfl, .inl ⟨HT.out, rfl⟩⟩, by rw [HS.out]; exact (HD0.out.drewN _).rp, (HD0.out.drewN _).old⟩
    · have hr3 : 0 ≤ F 1 ∧ F 1 < 3 := by unfold isRep at hbr; simpa using hbr
      obtain ⟨k, hk⟩ : ∃ k : Nat, F 1 = (k : Int) := ⟨(F 1).toNat, by omega⟩
      have hk3 : k < 3 := by omega
      have hkN : (F 1).toNat = k := by omega
      obtain ⟨bs, hbs⟩ : ∃ b, (F 1 == (R.id : Int)) = b := ⟨_, rfl⟩
      cases bs
      · have HNS : Hid (¬ (isRep (F 1) = false ∨ F 1 = (R.id : Int))) := hide (by
          rintro (e | e)
          · rw [hbr] at e; cases e
          · rw [e] at hbs; simp at hbs)
        by_cases h1 : F 0 = 1
        · have t1 : (F 0 == 1) = true := by rw [h1]; rfl
          have t4 : (F 0 == 4) = false := by rw [h1]; rfl
          have t5 : (F 0 == 5) = false := by rw [h1]; rfl
          obtain ⟨bc, hbc⟩ : ∃ b, (F 2 == R.cycle) = b := ⟨_, rfl⟩
          cases bc
          · have hne : F 2 ≠ R.cycle := by simpa using hbc
            have HS : Hid (SS = R) := hide (by rw [← hSS.out]; unfold takeS; rw [if_neg HNV.out, if_neg HNS.out, if_neg (fun e => hne e.2), if_neg (by omega), if_neg (fun e => by omega)])
            have HT : Hid (TT = []) := hide (by rw [← hTT.out]; unfold takeT; rw [if_neg HNV.out, if_neg HNS.out, if_neg (by omega)])
            clear hr3 hk hkN hk0 hne h1
            go_enter Tryz.func76, Tryz.ntmps76
            go_wp2_with fail
            go_quiet ((go_at_call 82; exact Calls.quiet_of_same (isReplica_any _ _)))
            go_wp2_with fail
            go_quiet (fail)
            go_wp2_with fail
            go_quiet (fail)
            go_wp2
            go_ret
            exact ⟨⟨_, rfl, .inl ⟨HT.out, rfl⟩⟩, by rw [HS.out]; exact ((HD0.out.drewN _).drewN _).rp, ((HD0.out.drewN _).drewN _).old⟩
          · have heq : F 2 = R.cycle := by simpa using hbc
            have HS : Hid (SS = putR k (fitN C.s (F 3)) (fitN C.n (F 4)) R) := hide (by rw [← hSS.out]; unfold takeS; rw [if_neg HNV.out, if_neg HNS.out, if_pos ⟨h1, heq⟩, hkN])
            have HT : Hid (TT = []) := hide (by rw [← hTT.out]; unfold takeT; rw [if_neg HNV.out, if_neg HNS.out, if_neg (by omega)])
            have HPT : Hid (∀ n, Calls Tryz.prog 88 #[.pointer (some ⟨p, 0, none⟩), .int .i64 (F 1), .agg #[.int .i64 (F 3), .int .i64 (F 4)]] ((w.alloc (.cells (fCells F) 35)).drewN n) fun e w' => e = .returned (.tuple #[]) ∧ RpIs w' p C SS ∧ Mod ((w.alloc (.cells (fCells F) 35)).drewN n) w' (· = p)) := hide (fun n => by rw [HS.out, hk]; exact put_any p C R k (F 3) (F 4) _ (HD0.out.drewN n).rp hk3)
            clear hr3 hk hkN hk0 heq h1
            go_enter Tryz.func76, Tryz.ntmps76
            go_wp2_with fail
            go_quiet ((go_at_call 82; exact Calls.quiet_of_same (isReplica_any _ _)))
            go_wp2_with fail
            go_quiet (fail)
            go_wp2_with fail
            refine (HPT.out _).mono ?_
            rintro e w2 ⟨rfl, hr2, hm2⟩
            go_wp2
            go_ret
            exact ⟨⟨_, rfl, .inl ⟨HT.out, rfl⟩⟩, hr2, (HD0.out.drewN _).old.then hm2 (fun _ _ e => e)⟩
        · have t1 : (F 0 == 1) = false := beq_false_of_ne h1
          by_cases h4 : F 0 = 4
          · have t4 : (F 0 == 4) = true := by rw [h4]; rfl
            have HS : Hid (SS = R) := hide (by rw [← hSS.out]; unfold takeS; rw [if_neg HNV.out, if_neg HNS.out, if_neg (fun e => h1 e.1), if_pos h4])
            have HT : Hid (TT = [knownR R]) := hide (by rw [← hTT.out]; unfold takeT; rw [if_neg HNV.out, if_neg HNS.out, if_pos h4])
            clear hr3 hk hkN hk0 h4 h1
            go_enter Tryz.func76, Tryz.ntmps76
            go_wp2_with fail
            go_quiet ((go_at_call 82; exact Calls.quiet_of_same (isReplica_any _ _)))
            go_wp2_with fail
            go_quiet (fail)
            go_wp2_with fail
            refine (rframe_any p C R 5 _ (HD0.out.drewN _).rp).mono ?_
            rintro e w2 ⟨rfl, hB2⟩
            have HD2 := hide ((HD0.out.drewN _).below hB2)
            have HZ : Hid (FIs (w2.alloc (.cells (fCells fr0) 35)) w2.heap.size 35 fr0) := hide (blk_new _ _)
            clear hB2
            go_wp2_with (refine wpList_store_fl rfl _ _ rfl w2.heap.size (startF 5 (R.id : Int) R.cycle) rfl rfl fr0 HZ.out ?_)
            intro w3 HF3
            have hB3 : Below w2.heap.size w2 w3 := ((Below.refl w2.heap.size w2).alloc (Nat.le_refl _) _).trans (HF3.out.2.2 _ (Nat.le_refl _))
            have HD3 := hide (HD2.out.below hB3)
            have H3 := hide HF3.out.1
            have hsz : w.heap.size < w2.heap.size := HD2.out.frm.lt
            clear hB3 HF3 HZ
            go_wp2_with (first
              | (refine wpList_load_mid rfl 33 _ rfl p 8 rfl (stCells R.st).toList _ HD3.out.rp.state Tryz.underlying33 rfl (by rw [stateInfo]; rfl) ?_)
              | (refine wpList_put_state rfl _ _ rfl w2.heap.size R rfl rfl (there_frame H3.out) ?_))
            intro w4 HW4
            have HF4 : Hid (FIs w4 w2.heap.size 35 (knownR R) ∧ Mod w3 w4 (· = w2.heap.size)) := hide (by rw [HW4.out]; exact ⟨put_state H3.out, (Mod.refl w3 _).sets _ 6 _ rfl⟩)
            have hB4 : Below w2.heap.size w3 w4 := ⟨HF4.out.2.os, HF4.out.2.tape, HF4.out.2.output, HF4.out.2.size, fun k hk => HF4.out.2.block k (by have := H3.out.lt; omega) (by omega)⟩
            have HR4 : Hid (RpIs w4 p C R ∧ Mod w w4 (· = p)) := hide ⟨by
              have g1 := HD2.out.rp.core.plt
              have g2 := HD2.out.rp.core.glt
              have g3 := HD2.out.rp.core.mlt
              have g4 := HD2.out.rp.lt2
              exact HD3.out.rp.other HF4.out.2 ⟨by omega, by omega, by omega, by omega, by omega⟩, HD3.out.old.then HF4.out.2 (fun i hi e => by omega)⟩
            have H4 := hide HF4.out.1
            clear HF4 HW4 hB4 HD3 H3
            go_wp2_with (first
              | (refine wpList_load_f rfl _ rfl w2.heap.size rfl (knownR R) H4.out ?_)
              | (refine wpList_one_f rfl _ rfl (knownR R) rfl w4.heap.size rfl ?_))
            intro w10 H10
            go_wp2
            go_ret
            exact ⟨⟨_, rfl, by rw [HT.out]; exact FRow.one H10.out.1⟩, by rw [HS.out]; exact HR4.out.1.below H10.out.2.2, HR4.out.2.below H10.out.2.2⟩
          · have t4 : (F 0 == 4) = false := beq_false_of_ne h4
            by_cases h5 : F 0 = 5
            · have t5 : (F 0 == 5) = true := by rw [h5]; rfl
              obtain ⟨bg, hbg⟩ : ∃ b, decide (R.cycle < F 2) = b := ⟨_, rfl⟩
              cases bg
              · have hng : ¬ R.cycle < F 2 := of_decide_eq_false hbg
                have HS : Hid (SS = R) := hide (by rw [← hSS.out]; unfold takeS; rw [if_neg HNV.out, if_neg HNS.out, if_neg (fun e => h1 e.1), if_neg h4, if_neg (fun e => hng e.2.1)])
                have HT : Hid (TT = []) := hide (by rw [← hTT.out]; unfold takeT; rw [if_neg HNV.out, if_neg HNS.out, if_neg h4])
                clear hr3 hk hkN hk0 h4 h1 h5 hng
                go_enter Tryz.func76, Tryz.ntmps76
                go_wp2_with fail
                go_quiet ((go_at_call 82; exact Calls.quiet_of_same (isReplica_any _ _)))
                go_wp2_with fail
                go_quiet (fail)
                go_wp2_with fail
                go_quiet (fail)
                go_wp2
                go_ret
                exact ⟨⟨_, rfl, .inl ⟨HT.out, rfl⟩⟩, by rw [HS.out]; exact ((HD0.out.drewN _).drewN _).rp, ((HD0.out.drewN _).drewN _).old⟩
              · have hgt : R.cycle < F 2 := of_decide_eq_true hbg
                obtain ⟨rb, hrb⟩ : ∃ b, Hid (rightB C.zs C.d (gF F) = b) := ⟨_, hide rfl⟩
                have HSR : Hid (SS = if rb = true then learnR k (knT F) (gSt (gF F)) R else R) := hide (by
                  rw [← hSS.out]; unfold takeS; rw [if_neg HNV.out, if_neg HNS.out, if_neg (fun e => h1 e.1), if_neg h4, hkN, hrb.out]
                  cases rb
                  · rw [if_neg (fun e => absurd e.2.2 (by decide)), if_neg (by decide)]
                  · rw [if_pos ⟨h5, hgt, rfl⟩, if_pos rfl])
                have HT : Hid (TT = []) := hide (by rw [← hTT.out]; unfold takeT; rw [if_neg HNV.out, if_neg HNS.out, if_neg h4])
                have HKF := hide hk
                clear hr3 hk hkN hk0 h4 h1 h5 hgt
                have HSS : Hid (∀ m w', Below ((w.alloc (.cells (fCells F) 35)).drewN m).heap.size ((w.alloc (.cells (fCells F) 35)).drewN m) w' → w'.cell? ⟨w.heap.size, 0, none⟩ = some (.int .i64 (F 0)) ∧ w'.cell? ⟨w.heap.size, 2, none⟩ = some (.int .i64 (F 2)) ∧ w'.cell? ⟨p, 5, none⟩ = some (.int .i64 R.cycle) ∧ w'.cell? ⟨p, 4, none⟩ = some (.pointer (some ⟨C.pc, 0, none⟩)) ∧ w'.rangeAt w.heap.size 6 (gCells (gF F)).toList) := hide (by
                  intro m w' hx
                  have hM := (HD0.out.drewN m).below hx
                  exact ⟨hM.frm.at (by omega), hM.frm.at (by omega), hM.rp.c5, hM.rp.c4, fun j' u hj => by
                    have hj' : j' < 17 := (List.getElem?_eq_some_iff.1 hj).1
                    rw [hM.frm.at (by omega), ← hj, gF_cells]
                    rcases (by omega : j' = 0 ∨ j' = 1 ∨ j' = 2 ∨ j' = 3 ∨ j' = 4 ∨ j' = 5 ∨ j' = 6 ∨ j' = 7 ∨ j' = 8 ∨ j' = 9 ∨ j' = 10 ∨ j' = 11 ∨ j' = 12 ∨ j' = 13 ∨ j' = 14 ∨ j' = 15 ∨ j' = 16) with rfl | rfl | rfl | rfl | rfl | rfl | rfl | rfl | rfl | rfl | rfl | rfl | rfl | rfl | rfl | rfl | rfl <;> rfl⟩)
                have HRT : Hid (∀ m wx, Below ((w.alloc (.cells (fCells F) 35)).drewN m).heap.size ((w.alloc (.cells (fCells F) 35)).drewN m) wx → Calls Tryz.prog 94 #[.pointer (some ⟨C.pc, 0, none⟩), .agg (gCells (gF F))] wx fun e w' => e = .returned (.bool rb) ∧ Hid (Below ((w.alloc (.cells (fCells F) 35)).drewN m).heap.size ((w.alloc (.cells (fCells F) 35)).drewN m) w')) := hide (by
                  intro m wx hx
                  refine (right_any C.pc C.s C.d C.n C.zs C.g C.cg C.M (gF F) wx ((HD0.out.drewN m).below hx).rp.core).mono ?_
                  rw [hrb.out]
                  rintro e w' ⟨he, hB⟩
                  exact ⟨he, hx.trans (hB.mono hx.size)⟩)
                go_enter Tryz.func76, Tryz.ntmps76
                go_wp2_with fail
                go_quiet ((go_at_call 82; exact Calls.quiet_of_same (isReplica_any _ _)))
                go_wp2_with fail
                go_quiet (fail)
                go_wp2_with fail
                refine wp_region_held_drew (S := fun w' => w'.cell? ⟨w.heap.size, 0, none⟩ = some (.int .i64 (F 0)) ∧ w'.cell? ⟨w.heap.size, 2, none⟩ = some (.int .i64 (F 2)) ∧ w'.cell? ⟨p, 5, none⟩ = some (.int .i64 R.cycle) ∧ w'.cell? ⟨p, 4, none⟩ = some (.pointer (some ⟨C.pc, 0, none⟩)) ∧ w'.rangeAt w.heap.size 6 (gCells (gF F)).toList) (by kernel_rfl) (unhide HSS _ _ (Below.refl _ _).drew) (fun hHeld => ?_)
                refine wpAnyH_take (i := 0) (oi := _) (v := .pointer (some ⟨w.heap.size, 0, none⟩)) rfl (by kernel_rfl) (by kernel_rfl) (by kernel_rfl) (fun _ _ _ h => h) (Or.inl ⟨by kernel_rfl, fun w _ => by go_simp⟩) hHeld ?_
                simp only [Act.put, List.getElem_toArray, List.getElem_cons_zero, List.setIfInBounds_toArray, List.set_cons_succ, List.set_cons_zero]
                refine wpAnyH_take (i := 1) (oi := _) (v := .int .i64 (F 0)) rfl (by kernel_rfl) (by kernel_rfl) (by kernel_rfl) (fun _ _ _ h => h) (Or.inl ⟨by kernel_rfl, fun w h => by obtain ⟨h1, h2, h3, h4, _⟩ := h; go_simp⟩) hHeld ?_
                simp only [Act.put, List.getElem_toArray, List.getElem_cons_succ, List.getElem_cons_zero, List.setIfInBounds_toArray, List.set_cons_succ, List.set_cons_zero]
                refine wpAnyH_take (i := 2) (oi := _) (v := .bool true) rfl (by kernel_rfl) (by kernel_rfl) (by kernel_rfl) (fun _ _ _ h => h) (Or.inl ⟨by kernel_rfl, fun w _ => by go_simp⟩) hHeld ?_
                simp only [Act.put, List.getElem_toArray, List.getElem_cons_succ, List.getElem_cons_zero, List.setIfInBounds_toArray, List.set_cons_succ, List.set_cons_zero]
                refine wpAnyH_take (i := 3) (oi := _) (v := .bool true) rfl (by kernel_rfl) (by kernel_rfl) (by kernel_rfl) (fun _ _ _ h => h) (Or.inl ⟨by kernel_rfl, fun w _ => by go_simp⟩) hHeld ?_
                simp only [Act.put, List.getElem_toArray, List.getElem_cons_succ, List.getElem_cons_zero, List.setIfInBounds_toArray, List.set_cons_succ, List.set_cons_zero]
                refine wpAnyH_take (i := 4) (oi := _) (v := .pointer (some ⟨w.heap.size, 2, none⟩)) rfl (by kernel_rfl) (by kernel_rfl) (by kernel_rfl) (fun _ _ _ h => h) (Or.inl ⟨by kernel_rfl, fun w _ => by go_simp⟩) hHeld ?_
                simp only [Act.put, List.getElem_toArray, List.getElem_cons_succ, List.getElem_cons_zero, List.setIfInBounds_toArray, List.set_cons_succ, List.set_cons_zero]
                refine wpAnyH_take (i := 5) (oi := _) (v := .int .i64 (F 2)) rfl (by kernel_rfl) (by kernel_rfl) (by kernel_rfl) (fun _ _ _ h => h) (Or.inl ⟨by kernel_rfl, fun w h => by obtain ⟨h1, h2, h3, h4, _⟩ := h; go_simp⟩) hHeld ?_
                simp only [Act.put, List.getElem_toArray, List.getElem_cons_succ, List.getElem_cons_zero, List.setIfInBounds_toArray, List.set_cons_succ, List.set_cons_zero]
                refine wpAnyH_take (i := 6) (oi := _) (v := .pointer (some ⟨p, 0, none⟩)) rfl (by kernel_rfl) (by kernel_rfl) (by kernel_rfl) (fun _ _ _ h => h) (Or.inl ⟨by kernel_rfl, fun w _ => by go_simp⟩) hHeld ?_
                simp only [Act.put, List.getElem_toArray, List.getElem_cons_succ, List.getElem_cons_zero, List.setIfInBounds_toArray, List.set_cons_succ, List.set_cons_zero]
                refine wpAnyH_take (i := 7) (oi := _) (v := .pointer (some ⟨p, 0, none⟩)) rfl (by kernel_rfl) (by kernel_rfl) (by kernel_rfl) (fun _ _ _ h => h) (Or.inl ⟨by kernel_rfl, fun w _ => by go_simp⟩) hHeld ?_
                simp only [Act.put, List.getElem_toArray, List.getElem_cons_succ, List.getElem_cons_zero, List.setIfInBounds_toArray, List.set_cons_succ, List.set_cons_zero]
                refine wpAnyH_take (i := 8) (oi := _) (v := .pointer (some ⟨p, 5, none⟩)) rfl (by kernel_rfl) (by kernel_rfl) (by kernel_rfl) (fun _ _ _ h => h) (Or.inl ⟨by kernel_rfl, fun w _ => by go_simp⟩) hHeld ?_
                simp only [Act.put, List.getElem_toArray, List.getElem_cons_succ, List.getElem_cons_zero, List.setIfInBounds_toArray, List.set_cons_succ, List.set_cons_zero]
                refine wpAnyH_take (i := 9) (oi := _) (v := .int .i64 R.cycle) rfl (by kernel_rfl) (by kernel_rfl) (by kernel_rfl) (fun _ _ _ h => h) (Or.inl ⟨by kernel_rfl, fun w h => by obtain ⟨h1, h2, h3, h4, _⟩ := h; go_simp⟩) hHeld ?_
                simp only [Act.put, List.getElem_toArray, List.getElem_cons_succ, List.getElem_cons_zero, List.setIfInBounds_toArray, List.set_cons_succ, List.set_cons_zero]
                refine wpAnyH_take (i := 10) (oi := _) (v := .bool true) rfl (by kernel_rfl) (by kernel_rfl) (by kernel_rfl) (fun _ _ _ h => h) (Or.inl ⟨by kernel_rfl, fun w _ => by go_simp⟩) hHeld ?_
                simp only [Act.put, List.getElem_toArray, List.getElem_cons_succ, List.getElem_cons_zero, List.setIfInBounds_toArray, List.set_cons_succ, List.set_cons_zero]
                refine wpAnyH_take (i := 11) (oi := _) (v := .bool true) rfl (by kernel_rfl) (by kernel_rfl) (by kernel_rfl) (fun _ _ _ h => h) (Or.inl ⟨by kernel_rfl, fun w _ => by go_simp⟩) hHeld ?_
                simp only [Act.put, List.getElem_toArray, List.getElem_cons_succ, List.getElem_cons_zero, List.setIfInBounds_toArray, List.set_cons_succ, List.set_cons_zero]
                refine wpAnyH_take (i := 12) (oi := _) (v := .bool true) rfl (by kernel_rfl) (by kernel_rfl) (by kernel_rfl) (fun _ _ _ h => h) (Or.inl ⟨by kernel_rfl, fun w _ => by go_simp⟩) hHeld ?_
                simp only [Act.put, List.getElem_toArray, List.getElem_cons_succ, List.getElem_cons_zero, List.setIfInBounds_toArray, List.set_cons_succ, List.set_cons_zero]
                refine wpAnyH_take (i := 13) (oi := _) (v := .pointer (some ⟨p, 0, none⟩)) rfl (by kernel_rfl) (by kernel_rfl) (by kernel_rfl) (fun _ _ _ h => h) (Or.inl ⟨by kernel_rfl, fun w _ => by go_simp⟩) hHeld ?_
                simp only [Act.put, List.getElem_toArray, List.getElem_cons_succ, List.getElem_cons_zero, List.setIfInBounds_toArray, List.set_cons_succ, List.set_cons_zero]
                refine wpAnyH_take (i := 14) (oi := _) (v := .pointer (some ⟨p, 0, none⟩)) rfl (by kernel_rfl) (by kernel_rfl) (by kernel_rfl) (fun _ _ _ h => h) (Or.inl ⟨by kernel_rfl, fun w _ => by go_simp⟩) hHeld ?_
                simp only [Act.put, List.getElem_toArray, List.getElem_cons_succ, List.getElem_cons_zero, List.setIfInBounds_toArray, List.set_cons_succ, List.set_cons_zero]
                refine wpAnyH_take (i := 15) (oi := _) (v := .pointer (some ⟨p, 4, none⟩)) rfl (by kernel_rfl) (by kernel_rfl) (by kernel_rfl) (fun _ _ _ h => h) (Or.inl ⟨by kernel_rfl, fun w _ => by go_simp⟩) hHeld ?_
                simp only [Act.put, List.getElem_toArray, List.getElem_cons_succ, List.getElem_cons_zero, List.setIfInBounds_toArray, List.set_cons_succ, List.set_cons_zero]
                refine wpAnyH_take (i := 16) (oi := _) (v := .pointer (some ⟨C.pc, 0, none⟩)) rfl (by kernel_rfl) (by kernel_rfl) (by kernel_rfl) (fun _ _ _ h => h) (Or.inl ⟨by kernel_rfl, fun w h => by obtain ⟨h1, h2, h3, h4, _⟩ := h; go_simp⟩) hHeld ?_
                simp only [Act.put, List.getElem_toArray, List.getElem_cons_succ, List.getElem_cons_zero, List.setIfInBounds_toArray, List.set_cons_succ, List.set_cons_zero]
                refine wpAnyH_take (i := 17) (oi := _) (v := .pointer (some ⟨w.heap.size, 6, none⟩)) rfl (by kernel_rfl) (by kernel_rfl) (by kernel_rfl) (fun _ _ _ h => h) (Or.inl ⟨by kernel_rfl, fun w _ => by go_simp⟩) hHeld ?_
                simp only [Act.put, List.getElem_toArray, List.getElem_cons_succ, List.getElem_cons_zero, List.setIfInBounds_toArray, List.set_cons_succ, List.set_cons_zero]
                refine wpAnyH_take (i := 18) (oi := _) (v := _) rfl (by kernel_rfl) (by kernel_rfl) (by kernel_rfl) (fun _ _ _ h => h) (yieldsIf_load_mid (by kernel_rfl) 33 _ rfl w.heap.size 6 rfl (gCells (gF F)).toList _ (fun w h => h.2.2.2.2) Tryz.underlying33 rfl (by rw [stateInfo]; rfl)) hHeld ?_
                simp only [Act.put, List.getElem_toArray, List.getElem_cons_succ, List.getElem_cons_zero, List.setIfInBounds_toArray, List.set_cons_succ, List.set_cons_zero]
                refine wpAnyH_ready (rs := [19]) (by kernel_rfl) (by simp) ?_
                refine AllReadyH.cons (o := _) rfl (fun K hK => ?_) AllReadyH.nil
                rw [if_pos (by kernel_rfl)]
                go_simp
                go_at_call 94
                refine (unhide HRT _ _ (Below.refl _ _).drew).mono ?_
                rintro e w5 ⟨rfl, HB5⟩
                dsimp only
                refine hK.out _ _ (unhide HSS _ _ HB5.out) (fun hHeld => ?_)
                clear hK K
                refine wpAnyH_take (i := 20) (oi := _) (v := .bool rb) rfl (by kernel_rfl) (by kernel_rfl) (by kernel_rfl) (fun _ _ _ h => h) (Or.inl ⟨by kernel_rfl, fun w _ => by go_simp⟩) hHeld ?_
                simp only [Act.put, List.getElem_toArray, List.getElem_cons_succ, List.getElem_cons_zero, List.setIfInBounds_toArray, List.set_cons_succ, List.set_cons_zero]
                refine wpAnyH_take (i := 21) (oi := _) (v := .bool rb) rfl (by kernel_rfl) (by kernel_rfl) (by kernel_rfl) (fun _ _ _ h => h) (Or.inl ⟨by kernel_rfl, fun w _ => by go_simp⟩) hHeld ?_
                simp only [Act.put, List.getElem_toArray, List.getElem_cons_succ, List.getElem_cons_zero, List.setIfInBounds_toArray, List.set_cons_succ, List.set_cons_zero]
                refine wpAnyH_done (by kernel_rfl) ?_ _
                have HD5 := hide ((HD0.out.drewN _).below HB5.out)
                clear hHeld HSS HRT HB5 HD0
                cases rb
                · have HS : Hid (SS = R) := hide (by rw [HSR.out, if_neg (by decide)])
                  clear HSR
                  go_wp2
                  go_ret
                  exact ⟨⟨_, rfl, .inl ⟨HT.out, rfl⟩⟩, by rw [HS.out]; exact HD5.out.rp, HD5.out.old⟩
                · have HS : Hid (SS = learnR k (knT F) (gSt (gF F)) R) := hide (by rw [HSR.out, if_pos rfl])
                  have hln := learn_any p C R k (knT F) (gSt (gF F)) w5 HD5.out.rp hk3 (gF_state HD5.out.rp.core.ok HD5.out.rp.core.len HF.out hrb.out)
                  rw [← HS.out, ← HKF.out, knT_cells] at hln
                  have HLN := hide hln
                  have q1 := HD5.out.frm.at (k := 1) (by omega)
                  have q2 := HD5.out.frm.at (k := 2) (by omega)
                  have RNG : Hid (w5.rangeAt w.heap.size 6 [.int .i64 (F 6), .int .i64 (F 7), .int .i64 (F 8), .int .i64 (F 9), .int .i64 (F 10), .int .i64 (F 11), .int .i64 (F 12), .int .i64 (F 13), .int .i64 (F 14), .int .i64 (F 15), .int .i64 (F 16), .int .i64 (F 17), .int .i64 (F 18), .int .i64 (F 19), .int .i64 (F 20), .int .i64 (F 21), .int .i64 (F 22)]) := hide (fun j' u hj => by
                    have hj' : j' < 17 := (List.getElem?_eq_some_iff.1 hj).1
                    rw [HD5.out.frm.at (by omega), ← hj]
                    rcases (by omega : j' = 0 ∨ j' = 1 ∨ j' = 2 ∨ j' = 3 ∨ j' = 4 ∨ j' = 5 ∨ j' = 6 ∨ j' = 7 ∨ j' = 8 ∨ j' = 9 ∨ j' = 10 ∨ j' = 11 ∨ j' = 12 ∨ j' = 13 ∨ j' = 14 ∨ j' = 15 ∨ j' = 16) with rfl | rfl | rfl | rfl | rfl | rfl | rfl | rfl | rfl | rfl | rfl | rfl | rfl | rfl | rfl | rfl | rfl <;> rfl)
                  clear hln HSR
                  go_wp2_with (refine wpList_load_mid rfl 33 _ rfl w.heap.size 6 rfl [.int .i64 (F 6), .int .i64 (F 7), .int .i64 (F 8), .int .i64 (F 9), .int .i64 (F 10), .int .i64 (F 11), .int .i64 (F 12), .int .i64 (F 13), .int .i64 (F 14), .int .i64 (F 15), .int .i64 (F 16), .int .i64 (F 17), .int .i64 (F 18), .int .i64 (F 19), .int .i64 (F 20), .int .i64 (F 21), .int .i64 (F 22)] _ RNG.out Tryz.underlying33 rfl (by rw [stateInfo]; rfl) ?_)
                  refine HLN.out.mono ?_
                  rintro e w6 ⟨rfl, hr6, hm6⟩
                  go_wp2
                  go_ret
                  exact ⟨⟨_, rfl, .inl ⟨HT.out, rfl⟩⟩, hr6, HD5.out.old.then hm6 (fun _ _ e => e)⟩
            · have t5 : (F 0 == 5) = false := beq_false_of_ne h5
              have HS : Hid (SS = R) := hide (by rw [← hSS.out]; unfold takeS; rw [if_neg HNV.out, if_neg HNS.out, if_neg (fun e => h1 e.1), if_neg h4, if_neg (fun e => h5 e.1)])
              have HT : Hid (TT = []) := hide (by rw [← hTT.out]; unfold takeT; rw [if_neg HNV.out, if_neg HNS.out, if_neg h4])
              clear hr3 hk hkN hk0 h4 h1 h5
              go_enter Tryz.func76, Tryz.ntmps76
              go_wp2_with fail
              go_quiet ((go_at_call 82; exact Calls.quiet_of_same (isReplica_any _ _)))
              go_wp2_with fail
              go_quiet (fail)
              go_wp2_with fail
              go_quiet (fail)
              go_wp2
              go_ret
              exact ⟨⟨_, rfl, .inl ⟨HT.out, rfl⟩⟩, by rw [HS.out]; exact ((HD0.out.drewN _).drewN _).rp, ((HD0.out.drewN _).drewN _).old⟩
      · have hsm : F 1 = (R.id : Int) := by simpa using hbs
        have HS : Hid (SS = R) := hide (by rw [← hSS.out]; unfold takeS; rw [if_neg HNV.out, if_pos (.inr hsm)])
        have HT : Hid (TT = []) := hide (by rw [← hTT.out]; unfold takeT; rw [if_neg HNV.out, if_pos (.inr hsm)])
        clear hsm hr3 hk hkN
        go_enter Tryz.func76, Tryz.ntmps76
        go_wp2_with fail
        go_quiet ((go_at_call 82; exact Calls.quiet_of_same (isReplica_any _ _)))
        go_wp2
        go_ret
        exact ⟨⟨_, rfl, .inl ⟨HT.out, rfl⟩⟩, by rw [HS.out]; exact (HD0.out.drewN _).rp, (HD0.out.drewN _).old⟩
end Go.Proofs.YtaablbmgagiajaaGreatDoor
